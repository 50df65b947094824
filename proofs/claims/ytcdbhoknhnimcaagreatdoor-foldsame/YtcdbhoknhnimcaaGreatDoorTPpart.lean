import Derived.Test.YtcdbhoknhnimcaaGreatDoorTPway
import Derived.Deep.RegionLaw
import Derived.Deep.AppendLies
import Derived.Deep.CutRange
set_option maxRecDepth 100000
set_option maxHeartbeats 8000000
namespace Go.Proofs.YtcdbhoknhnimcaaGreatDoor
section
open Go.RowKit Px
structure sR where
 t:Nat
 sz:Nat
 n:Nat
 v:Value
 xs:List Value
 P:(Nat->Prop)->World->Prop
def rM (B:Nat) (ss:List sR) (b:Nat):Prop:=B≤b/\∀s∈ss,s.v.ownBlock≠some b
structure jJ (B:Nat) (w:World) (ss:List sR):Prop where
 own:∀s∈ss,w.ownsRow B s.t s.sz s.v s.n s.xs
 apart:ss.Pairwise (fun a b=>∀g,a.v.ownBlock=some g->b.v.ownBlock≠some g)
 has:∀s∈ss,s.P (rM B ss) w
def iP (ss:List sR):Prop:=∀s∈ss,∀(A A':Nat->Prop) (w w':World),aX A A' w w'->s.P A w->s.P A' w'
theorem Pa {B:Nat}{ss:List sR}{X:List Nat}{w w':World}(hX:∀x∈X,x<B) (hf:Fr w.heap.size X w w'):aX (rM B ss) (rM B ss) w w':=hf.keep (fun b hb hm=>by have:=hX b hm;have:=hb.1;omega)
theorem jJ.carry {B:Nat}{ss:List sR}{X:List Nat}{w w':World}(h:jJ B w ss) (hc:iP ss) (hX:∀x∈X,x<B) (hf:Fr w.heap.size X w w'):jJ B w' ss:=
 ⟨fun s hs=>aC7 (h.own s hs) hX hf,h.apart,fun s hs=>hc s hs _ _ _ _ (Pa hX hf) (h.has s hs)⟩
section
variable {B:Nat}{w w2:World}{l1 l2:List sR}{s s':sR}
theorem jQ (hg:w.grownBy w2 s.v.ownBlock) (hat:s'.v.ownBlock=s.v.ownBlock\/s'.v.ownBlock=some w.heap.size):aX (rM B (l1++s::l2)) (rM B (l1++s'::l2)) w w2:=fun b hb hlt=>by
 refine ⟨⟨hb.1,fun x hx=>?_⟩,hg.block b hlt (fun e=>hb.2 s (by simp) e.symm)⟩
 simp only[List.mem_append,List.mem_cons] at hx
 rcases hx with hx|rfl|hx
 ·exact hb.2 x (by simp[hx])
 ·rcases hat with e|e
  ·rw[e];exact hb.2 s (by simp)
  ·rw[e];intro e2;injection e2 with e2;omega
 ·exact hb.2 x (by simp[hx])
theorem nK {n:Nat}(h:jJ B w (l1++s::l2)) (hn:∀x∈l1++s::l2,∀g,x.v.ownBlock=some g->g<n) (hB:B≤n) (hg:w.grownBy w2 s.v.ownBlock) (hat:s'.v.ownBlock=s.v.ownBlock\/s'.v.ownBlock=some w.heap.size):aX (Ge n) (rM B (l1++s'::l2)) w w2:=fun b hb hlt=>by
 have _:=h.own
 refine jQ hg hat b ⟨Nat.le_trans hB hb,fun x hx e=>?_⟩ hlt
 have:=hn x hx b e
 simp[Ge] at hb;omega
theorem jJ.grow (h:jJ B w (l1++s::l2)) (hc:iP (l1++s::l2)) (hg:w.grownBy w2 s.v.ownBlock) (hat:s'.v.ownBlock=s.v.ownBlock\/s'.v.ownBlock=some w.heap.size)
    (hown:w2.ownsRow B s'.t s'.sz s'.v s'.n s'.xs) (hP:s'.P (rM B (l1++s'::l2)) w2):jJ B w2 (l1++s'::l2):=by
 have hap:=List.pairwise_append.1 h.apart
 have hap2:=List.pairwise_cons.1 hap.2.1
 have hlt:∀x∈l1++s::l2,∀g,x.v.ownBlock=some g->g<w.heap.size:=fun x hx g hg=>((h.own x hx).lt g hg).2
 have hdis:∀x,x∈l1\/x∈l2->∀g,x.v.ownBlock=some g->s.v.ownBlock≠some g:=by
  rintro x (hx|hx) g hxg
  ·exact hap.2.2 x hx s (by simp) g hxg
  ·intro e;exact hap2.1 x hx g e hxg
 have hdis':∀x,x∈l1\/x∈l2->∀g,x.v.ownBlock=some g->s'.v.ownBlock≠some g:=by
  intro x hx g hxg
  rcases hat with e|e
  ·rw[e];exact hdis x hx g hxg
  ·rw[e];intro e2;injection e2 with e2
   have:=hlt x (by rcases hx with hx|hx<;>simp[hx]) g hxg
   omega
 have kept:∀x,x∈l1\/x∈l2->w2.ownsRow B x.t x.sz x.v x.n x.xs:=fun x hx=>
  (h.own x (by rcases hx with hx|hx<;>simp[hx])).kept hg (by
   cases hv:x.v.ownBlock with
   | none=>exact .inl rfl
   | some g=>exact .inr (fun e=>hdis x hx g hv e.symm))
 refine ⟨fun x hx=>?_,?_,fun x hx=>?_⟩
 ·simp only[List.mem_append,List.mem_cons] at hx
  rcases hx with hx|rfl|hx
  ·exact kept x (.inl hx)
  ·exact hown
  ·exact kept x (.inr hx)
 ·refine List.pairwise_append.2 ⟨hap.1,List.pairwise_cons.2 ⟨fun x hx g hg1 hg2=>hdis' x (.inr hx) g hg2 hg1,hap2.2⟩,fun x hx y hy g hg1=>?_⟩
  rcases List.mem_cons.1 hy with rfl|hy
  ·exact hdis' x (.inl hx) g hg1
  ·exact hap.2.2 x hx y (by simp[hy]) g hg1
 ·simp only[List.mem_append,List.mem_cons] at hx
  rcases hx with hx|rfl|hx
  ·exact hc x (by simp[hx]) _ _ _ _ (jQ hg hat) (h.has x (by simp[hx]))
  ·exact hP
  ·exact hc x (by simp[hx]) _ _ _ _ (jQ hg hat) (h.has x (by simp[hx]))
theorem jJ.swap (h:jJ B w (l1++s::l2)) (hv:s'.v=s.v) (hown:w.ownsRow B s'.t s'.sz s'.v s'.n s'.xs) (hP:s'.P (rM B (l1++s'::l2)) w) (hc:iP (l1++s::l2)):jJ B w (l1++s'::l2):=
 h.grow hc ⟨rfl,rfl,rfl,Nat.le_refl _,fun _ _ _=>rfl⟩ (.inl (by rw[hv])) hown hP
end
theorem jJ.block {B:Nat}{w:World}{ss:List sR}(h:jJ B w ss):∀x∈ss,∀g,x.v.ownBlock=some g->B≤g/\g<w.heap.size:=fun x hx g hg=>(h.own x hx).lt g hg
def cA (l:List iQ) (v:Value) (xs:List Value):sR:=⟨325,2,l.length,v,xs,fun A w=>Rows (mG A w) l xs⟩
def iF (l:List Wy) (v:Value) (xs:List Value):sR:=⟨301,7,l.length,v,xs,fun A w=>Rows (yY A w) l xs⟩
def dU (k:Nat) (l:List (List (St k))) (v:Value) (xs:List Value):sR:=⟨210,1,l.length,v,xs,fun A w=>Rows (Wt (aL A w k)) l xs⟩
def jY (e:E) (p:Value):sR:=⟨335,1,0,.slice none 0 0,[],fun A w=>jI A w e p⟩
def iG (l:List bJ) (v:Value) (xs:List Value):sR:=⟨160,3,l.length,v,xs,fun _ _=>Rows Gs l xs⟩
section
variable {A A':Nat->Prop}{w w':World}
theorem I9 (k:aX A A' w w') (l:List iQ) (v:Value) (xs:List Value):(cA l v xs).P A w->(cA l v xs).P A' w':=fun h=>h.map (mG.carry k)
theorem aA0 (k:aX A A' w w') (l:List Wy) (v:Value) (xs:List Value):(iF l v xs).P A w->(iF l v xs).P A' w':=fun h=>h.map (yY.carry k)
theorem La (k:aX A A' w w') (n:Nat) (l:List (List (St n))) (v:Value) (xs:List Value):(dU n l v xs).P A w->(dU n l v xs).P A' w':=fun h=>h.map (fun _ _ ⟨u,hc,hu⟩=>⟨u,hc,aL.carry k n _ _ hu⟩)
theorem aG2 (k:aX A A' w w') (e:E) (p:Value):(jY e p).P A w->(jY e p).P A' w':=fun h=>h.carry k
end
def aW (k:Nat) (s:cC (St k)) (e d l p y r:Value) (xe xd xl xy xr:List Value):List sR:=[cA s.enter e xe,cA s.during d xd,cA s.leave l xl,jY s.rests p,iF s.ways y xy,dU k s.regions r xr]
theorem eP (k:Nat) (s:cC (St k)) (e d l p y r:Value) (xe xd xl xy xr:List Value):iP (aW k s e d l p y r xe xd xl xy xr):=by
 intro x hx A A' w w' kp
 simp only[aW,List.mem_cons,List.not_mem_nil,or_false] at hx
 rcases hx with rfl|rfl|rfl|rfl|rfl|rfl
 ·exact I9 kp _ _ _
 ·exact I9 kp _ _ _
 ·exact I9 kp _ _ _
 ·exact aG2 kp _ _
 ·exact aA0 kp _ _ _
 ·exact La kp _ _ _ _
abbrev qG (s:bB) (fi la:Bool) (e d l p y r:Value):Array Value:=#[sv s,.bool fi,.bool la,e,d,l,p,y,r]
structure SU (k B sb:Nat) (w:World) (s:cC (St k)) (e d l p y r:Value) (xe xd xl xy xr:List Value):Prop where
 at_:w.heap[sb]?=some (.cells (qG s.name s.first s.last e d l p y r) 256 (0,0))
 good:jJ B w (aW k s e d l p y r xe xd xl xy xr)
theorem SU.done {k B sb:Nat}{w:World}{s:cC (St k)}{e d l p y r:Value}{xe xd xl xy xr:List Value}(h:SU k B sb w s e d l p y r xe xd xl xy xr):Ax (Ge B) w (aL (Ge B) w k) s (qG s.name s.first s.last e d l p y r).toList:=by
 have kp:aX (rM B (aW k s e d l p y r xe xd xl xy xr)) (Ge B) w w:=fun b hb _=>⟨hb.1,rfl⟩
 have o:=h.good.own
 have hs:=h.good.has
 have ow:∀x∈aW k s e d l p y r xe xd xl xy xr,uX (Ge B) w x.t x.sz x.v x.n x.xs:=fun x hx=>⟨pW (o x hx),fun g hg=>((o x hx).lt g hg).1⟩
 refine ⟨e,d,l,p,y,r,rfl,⟨xe,ow (cA s.enter e xe) (by simp[aW]),I9 kp _ _ _ (hs (cA s.enter e xe) (by simp[aW]))⟩,⟨xd,ow (cA s.during d xd) (by simp[aW]),I9 kp _ _ _ (hs (cA s.during d xd) (by simp[aW]))⟩,⟨xl,ow (cA s.leave l xl) (by simp[aW]),I9 kp _ _ _ (hs (cA s.leave l xl) (by simp[aW]))⟩,aG2 kp _ _ (hs (jY s.rests p) (by simp[aW])),⟨xy,ow (iF s.ways y xy) (by simp[aW]),aA0 kp _ _ _ (hs (iF s.ways y xy) (by simp[aW]))⟩,⟨xr,ow (dU k s.regions r xr) (by simp[aW]),La kp _ _ _ _ (hs (dU k s.regions r xr) (by simp[aW]))⟩⟩
theorem SU.carry {k B sb:Nat}{X:List Nat}{w w':World}{s:cC (St k)}{e d l p y r:Value}{xe xd xl xy xr:List Value}(h:SU k B sb w s e d l p y r xe xd xl xy xr) (hX:∀x∈X,x<B) (hs:sb∉X) (hf:Fr w.heap.size X w w'):SU k B sb w' s e d l p y r xe xd xl xy xr:=
 ⟨by rw[hf.block sb (aB h.at_) hs];exact h.at_,h.good.carry (eP _ _ _ _ _ _ _ _ _ _ _ _ _) hX hf⟩
end
section
open Go.RowKit Px
theorem Um {a b n:Nat}:∀x∈[a],x<n->x∈[a,b]:=fun _ hx _=>List.mem_cons.2 (.inl (List.mem_singleton.1 hx))
theorem SU.lts {k B sb:Nat}{w:World}{s:cC (St k)}{e d l p y r:Value}{xe xd xl xy xr:List Value}(h:SU k B sb w s e d l p y r xe xd xl xy xr):∀x∈aW k s e d l p y r xe xd xl xy xr,∀g,x.v.ownBlock=some g->g<w.heap.size:=fun x hx g hg=>(h.good.block x hx g hg).2
theorem SU.grow_enter {k B sb n:Nat}{w4 w5:World}{s:cC (St k)}{e d l p y r v':Value}{xe xd xl xy xr cs:List Value}{m:List iQ}(h:SU k B sb w4 s e d l p y r xe xd xl xy xr) (hsb:sb<B) (hB:B≤n) (hn:∀x∈aW k s e d l p y r xe xd xl xy xr,∀g,x.v.ownBlock=some g->g<n)
    (ha:Rows (mG (Ge n) w4) m cs) (hown:w5.ownsRow B 325 2 v' ((s.enter++m).length) (xe++cs)) (hg:w4.grownBy w5 e.ownBlock) (hat:v'.ownBlock=e.ownBlock\/v'.ownBlock=some w4.heap.size) :
    SU k B sb (w5.setCell ⟨sb,3,none⟩ v') { s with enter:=s.enter++m } v' d l p y r (xe++cs) xd xl xy xr:=by
 have hgd:jJ B w4 ([]++(cA s.enter e xe)::[cA s.during d xd,cA s.leave l xl,jY s.rests p,iF s.ways y xy,dU k s.regions r xr]):=h.good
 have hc:iP ([]++(cA s.enter e xe)::[cA s.during d xd,cA s.leave l xl,jY s.rests p,iF s.ways y xy,dU k s.regions r xr]):=eP k s e d l p y r xe xd xl xy xr
 have kN:=nK (s':=cA (s.enter++m) v' (xe++cs)) hgd hn hB hg hat
 have hold:=I9 (jQ (B:=B) (l1:=[]) (l2:=[cA s.during d xd,cA s.leave l xl,jY s.rests p,iF s.ways y xy,dU k s.regions r xr]) (s:=cA s.enter e xe) (s':=cA (s.enter++m) v' (xe++cs)) hg hat) _ _ _ (hgd.has (cA s.enter e xe) (by simp))
 have hnew:=hgd.grow (s':=cA (s.enter++m) v' (xe++cs)) hc hg hat hown (Rows.append hold (ha.map (mG.carry kN)))
 have hput:=cP w5 sb 3 v'
 have hsb4:=aB h.at_
 refine ⟨?_,jJ.carry (X:=[sb]) hnew (eP k { s with enter:=s.enter++m } v' d l p y r (xe++cs) xd xl xy xr) (by simp;exact hsb) hput⟩
 have hat5:w5.heap[sb]?=some (.cells (qG s.name s.first s.last e d l p y r) 256 (0,0)):=by
  rw[hg.block sb hsb4 (fun e1=>by have:=((h.good.own (cA s.enter e xe) (by simp[aW])).lt sb e1.symm).1;omega)];exact h.at_
 rw[heap_setCell_same w5 sb 3 _ 256 _ hat5];rfl
theorem SU.grow_during {k B sb n:Nat}{w4 w5:World}{s:cC (St k)}{e d l p y r v':Value}{xe xd xl xy xr cs:List Value}{m:List iQ}(h:SU k B sb w4 s e d l p y r xe xd xl xy xr) (hsb:sb<B) (hB:B≤n) (hn:∀x∈aW k s e d l p y r xe xd xl xy xr,∀g,x.v.ownBlock=some g->g<n)
    (ha:Rows (mG (Ge n) w4) m cs) (hown:w5.ownsRow B 325 2 v' ((s.during++m).length) (xd++cs)) (hg:w4.grownBy w5 d.ownBlock) (hat:v'.ownBlock=d.ownBlock\/v'.ownBlock=some w4.heap.size) :
    SU k B sb (w5.setCell ⟨sb,4,none⟩ v') { s with during:=s.during++m } e v' l p y r xe (xd++cs) xl xy xr:=by
 have hgd:jJ B w4 ([cA s.enter e xe]++(cA s.during d xd)::[cA s.leave l xl,jY s.rests p,iF s.ways y xy,dU k s.regions r xr]):=h.good
 have hc:iP ([cA s.enter e xe]++(cA s.during d xd)::[cA s.leave l xl,jY s.rests p,iF s.ways y xy,dU k s.regions r xr]):=eP k s e d l p y r xe xd xl xy xr
 have kN:=nK (s':=cA (s.during++m) v' (xd++cs)) hgd hn hB hg hat
 have hold:=I9 (jQ (B:=B) (l1:=[cA s.enter e xe]) (l2:=[cA s.leave l xl,jY s.rests p,iF s.ways y xy,dU k s.regions r xr]) (s:=cA s.during d xd) (s':=cA (s.during++m) v' (xd++cs)) hg hat) _ _ _ (hgd.has (cA s.during d xd) (by simp))
 have hnew:=hgd.grow (s':=cA (s.during++m) v' (xd++cs)) hc hg hat hown (Rows.append hold (ha.map (mG.carry kN)))
 have hput:=cP w5 sb 4 v'
 have hsb4:=aB h.at_
 refine ⟨?_,jJ.carry (X:=[sb]) hnew (eP k { s with during:=s.during++m } e v' l p y r xe (xd++cs) xl xy xr) (by simp;exact hsb) hput⟩
 have hat5:w5.heap[sb]?=some (.cells (qG s.name s.first s.last e d l p y r) 256 (0,0)):=by
  rw[hg.block sb hsb4 (fun e1=>by have:=((h.good.own (cA s.during d xd) (by simp[aW])).lt sb e1.symm).1;omega)];exact h.at_
 rw[heap_setCell_same w5 sb 4 _ 256 _ hat5];rfl
theorem SU.grow_leave {k B sb n:Nat}{w4 w5:World}{s:cC (St k)}{e d l p y r v':Value}{xe xd xl xy xr cs:List Value}{m:List iQ}(h:SU k B sb w4 s e d l p y r xe xd xl xy xr) (hsb:sb<B) (hB:B≤n) (hn:∀x∈aW k s e d l p y r xe xd xl xy xr,∀g,x.v.ownBlock=some g->g<n)
    (ha:Rows (mG (Ge n) w4) m cs) (hown:w5.ownsRow B 325 2 v' ((s.leave++m).length) (xl++cs)) (hg:w4.grownBy w5 l.ownBlock) (hat:v'.ownBlock=l.ownBlock\/v'.ownBlock=some w4.heap.size) :
    SU k B sb (w5.setCell ⟨sb,5,none⟩ v') { s with leave:=s.leave++m } e d v' p y r xe xd (xl++cs) xy xr:=by
 have hgd:jJ B w4 ([cA s.enter e xe,cA s.during d xd]++(cA s.leave l xl)::[jY s.rests p,iF s.ways y xy,dU k s.regions r xr]):=h.good
 have hc:iP ([cA s.enter e xe,cA s.during d xd]++(cA s.leave l xl)::[jY s.rests p,iF s.ways y xy,dU k s.regions r xr]):=eP k s e d l p y r xe xd xl xy xr
 have kN:=nK (s':=cA (s.leave++m) v' (xl++cs)) hgd hn hB hg hat
 have hold:=I9 (jQ (B:=B) (l1:=[cA s.enter e xe,cA s.during d xd]) (l2:=[jY s.rests p,iF s.ways y xy,dU k s.regions r xr]) (s:=cA s.leave l xl) (s':=cA (s.leave++m) v' (xl++cs)) hg hat) _ _ _ (hgd.has (cA s.leave l xl) (by simp))
 have hnew:=hgd.grow (s':=cA (s.leave++m) v' (xl++cs)) hc hg hat hown (Rows.append hold (ha.map (mG.carry kN)))
 have hput:=cP w5 sb 5 v'
 have hsb4:=aB h.at_
 refine ⟨?_,jJ.carry (X:=[sb]) hnew (eP k { s with leave:=s.leave++m } e d v' p y r xe xd (xl++cs) xy xr) (by simp;exact hsb) hput⟩
 have hat5:w5.heap[sb]?=some (.cells (qG s.name s.first s.last e d l p y r) 256 (0,0)):=by
  rw[hg.block sb hsb4 (fun e1=>by have:=((h.good.own (cA s.leave l xl) (by simp[aW])).lt sb e1.symm).1;omega)];exact h.at_
 rw[heap_setCell_same w5 sb 5 _ 256 _ hat5];rfl
theorem SU.grow_ways {k B sb n:Nat}{w4 w5:World}{s:cC (St k)}{e d l p y r v':Value}{xe xd xl xy xr cs:List Value}{a:Wy}(h:SU k B sb w4 s e d l p y r xe xd xl xy xr) (hsb:sb<B) (hB:B≤n) (hn:∀x∈aW k s e d l p y r xe xd xl xy xr,∀g,x.v.ownBlock=some g->g<n)
    (ha:yY (Ge n) w4 a cs) (hown:w5.ownsRow B 301 7 v' ((s.ways++[a]).length) (xy++cs)) (hg:w4.grownBy w5 y.ownBlock) (hat:v'.ownBlock=y.ownBlock\/v'.ownBlock=some w4.heap.size) :
    SU k B sb (w5.setCell ⟨sb,7,none⟩ v') { s with ways:=s.ways++[a] } e d l p v' r xe xd xl (xy++cs) xr:=by
 have hgd:jJ B w4 ([cA s.enter e xe,cA s.during d xd,cA s.leave l xl,jY s.rests p]++(iF s.ways y xy)::[dU k s.regions r xr]):=h.good
 have hc:iP ([cA s.enter e xe,cA s.during d xd,cA s.leave l xl,jY s.rests p]++(iF s.ways y xy)::[dU k s.regions r xr]):=eP k s e d l p y r xe xd xl xy xr
 have kN:=nK (s':=iF (s.ways++[a]) v' (xy++cs)) hgd hn hB hg hat
 have hold:=aA0 (jQ (B:=B) (l1:=[cA s.enter e xe,cA s.during d xd,cA s.leave l xl,jY s.rests p]) (l2:=[dU k s.regions r xr]) (s:=iF s.ways y xy) (s':=iF (s.ways++[a]) v' (xy++cs)) hg hat) _ _ _ (hgd.has (iF s.ways y xy) (by simp))
 have hnew:=hgd.grow (s':=iF (s.ways++[a]) v' (xy++cs)) hc hg hat hown (Rows.append hold (Rows.one (yY.carry kN _ _ ha)))
 have hput:=cP w5 sb 7 v'
 have hsb4:=aB h.at_
 refine ⟨?_,jJ.carry (X:=[sb]) hnew (eP k { s with ways:=s.ways++[a] } e d l p v' r xe xd xl (xy++cs) xr) (by simp;exact hsb) hput⟩
 have hat5:w5.heap[sb]?=some (.cells (qG s.name s.first s.last e d l p y r) 256 (0,0)):=by
  rw[hg.block sb hsb4 (fun e1=>by have:=((h.good.own (iF s.ways y xy) (by simp[aW])).lt sb e1.symm).1;omega)];exact h.at_
 rw[heap_setCell_same w5 sb 7 _ 256 _ hat5];rfl
theorem SU.grow_regions {k B sb n:Nat}{w4 w5:World}{s:cC (St k)}{e d l p y r v':Value}{xe xd xl xy xr cs:List Value}{a:List (St k)}{u:Value}(h:SU k B sb w4 s e d l p y r xe xd xl xy xr) (hsb:sb<B) (hB:B≤n) (hn:∀x∈aW k s e d l p y r xe xd xl xy xr,∀g,x.v.ownBlock=some g->g<n)
    (ha:cs=[u]/\aL (Ge n) w4 k a u) (hown:w5.ownsRow B 210 1 v' ((s.regions++[a]).length) (xr++cs)) (hg:w4.grownBy w5 r.ownBlock) (hat:v'.ownBlock=r.ownBlock\/v'.ownBlock=some w4.heap.size) :
    SU k B sb (w5.setCell ⟨sb,8,none⟩ v') { s with regions:=s.regions++[a] } e d l p y v' xe xd xl xy (xr++cs):=by
 have hgd:jJ B w4 ([cA s.enter e xe,cA s.during d xd,cA s.leave l xl,jY s.rests p,iF s.ways y xy]++(dU k s.regions r xr)::[]):=h.good
 have hc:iP ([cA s.enter e xe,cA s.during d xd,cA s.leave l xl,jY s.rests p,iF s.ways y xy]++(dU k s.regions r xr)::[]):=eP k s e d l p y r xe xd xl xy xr
 have kN:=nK (s':=dU k (s.regions++[a]) v' (xr++cs)) hgd hn hB hg hat
 have ha2:Wt (aL (rM B ([cA s.enter e xe,cA s.during d xd,cA s.leave l xl,jY s.rests p,iF s.ways y xy]++(dU k (s.regions++[a]) v' (xr++cs))::[])) w5 k) a cs:=⟨u,ha.1,aL.carry kN k _ _ ha.2⟩
 have hold:=La (jQ (B:=B) (l1:=[cA s.enter e xe,cA s.during d xd,cA s.leave l xl,jY s.rests p,iF s.ways y xy]) (l2:=[]) (s:=dU k s.regions r xr) (s':=dU k (s.regions++[a]) v' (xr++cs)) hg hat) _ _ _ _ (hgd.has (dU k s.regions r xr) (by simp))
 have hnew:=hgd.grow (s':=dU k (s.regions++[a]) v' (xr++cs)) hc hg hat hown (Rows.append hold (Rows.one ha2))
 have hput:=cP w5 sb 8 v'
 have hsb4:=aB h.at_
 refine ⟨?_,jJ.carry (X:=[sb]) hnew (eP k { s with regions:=s.regions++[a] } e d l p y v' xe xd xl xy (xr++cs)) (by simp;exact hsb) hput⟩
 have hat5:w5.heap[sb]?=some (.cells (qG s.name s.first s.last e d l p y r) 256 (0,0)):=by
  rw[hg.block sb hsb4 (fun e1=>by have:=((h.good.own (dU k s.regions r xr) (by simp[aW])).lt sb e1.symm).1;omega)];exact h.at_
 rw[heap_setCell_same w5 sb 8 _ 256 _ hat5];rfl
theorem SU.grow_rests {k B sb n:Nat}{w:World}{s:cC (St k)}{e d l p y r p':Value}{xe xd xl xy xr:List Value}{t:E}(h:SU k B sb w s e d l p y r xe xd xl xy xr) (hsb:sb<B) (hB:B≤n) (hn:∀x∈aW k s e d l p y r xe xd xl xy xr,∀g,x.v.ownBlock=some g->g<n) (ht:jI (Ge n) w t p') :
    SU k B sb (w.setCell ⟨sb,6,none⟩ p') { s with rests:=t } e d l p' y r xe xd xl xy xr:=by
 have hgd:jJ B w ([cA s.enter e xe,cA s.during d xd,cA s.leave l xl]++jY s.rests p::[iF s.ways y xy,dU k s.regions r xr]):=h.good
 have hc:iP ([cA s.enter e xe,cA s.during d xd,cA s.leave l xl]++jY s.rests p::[iF s.ways y xy,dU k s.regions r xr]):=eP k s e d l p y r xe xd xl xy xr
 have kN:aX (Ge n) (rM B ([cA s.enter e xe,cA s.during d xd,cA s.leave l xl]++jY t p'::[iF s.ways y xy,dU k s.regions r xr])) w w:=nK hgd hn hB ⟨rfl,rfl,rfl,Nat.le_refl _,fun _ _ _=>rfl⟩ (.inl rfl)
 have hnew:=hgd.swap (s':=jY t p') rfl (World.ownsRow_nil _ _ _ _) (ht.carry kN) hc
 refine ⟨?_,jJ.carry (X:=[sb]) hnew (eP k { s with rests:=t } e d l p' y r xe xd xl xy xr) (by simp;exact hsb) (cP w sb 6 p')⟩
 rw[heap_setCell_same w sb 6 _ 256 _ h.at_];rfl
end
section
open Go.RowKit Px
def iN (B:Nat) (X:List Nat) (w:World) (f:F) (e:Ending) (w':World):Prop:=
 ∃q,e=.panicked [{ v:=.iface 115 (.pointer (some ⟨q,0,none⟩)),recovered:=false }]/\w'.heap[q]?=some (.cells #[.int .i64 f.1,.int .i64 f.2] 117 (0,0))/\w.heap.size≤q/\Fr B X w w'
theorem aP.x {C:dT}{B:Nat}{X:List Nat}{w w1 w':World}{f:F}{e:Ending}(h:aP C w1 f e w') (hf:Fr B X w w1) (hB:B≤w1.heap.size) (hX:C.rb∈X):iN B X w f e w':=by
 obtain ⟨q,h1,h2,h3,h4⟩:=h
 exact ⟨q,h1,h2,Nat.le_trans hf.size h3,hf.trans (h4.mono hB (by simp;intro _;exact hX))⟩
def lE (B:Nat) (X:List Nat) {α:Type}(ok:α->Value->World->Prop) (w:World) (r:Except F α) (e:Ending) (w':World):Prop:=
 match r with
 | .error f=>iN B X w f e w'
 | .ok a=>∃v,e=.returned v/\ok a v w'/\Fr B X w w'
structure Bd {ρ:Type}(i:Nat) (s:cC ρ):Prop where
 e:s.enter.length≤i
 d:s.during.length≤i
 l:s.leave.length≤i
 y:s.ways.length≤i
 r:s.regions.length≤i
def J8 (k B sb:Nat) (w:World) (s:cC (St k)):Prop:=∃e d l p y r xe xd xl xy xr,SU k B sb w s e d l p y r xe xd xl xy xr
def mH (C:dT) (k B sb ins i c:Nat) (s:cC (St k)) (o:Option (cC (St k)×Nat×Nat)) (v:Value) (w':World):Prop:=
 match o with
 | none=>v=.bool false/\PS C w' i c ins 0/\J8 k B sb w' s
 | some (s',c',j)=>v=.bool true/\i<j/\Bd j s'/\PS C w' j c' ins 0/\J8 k B sb w' s'
structure Ay (C:dT) (B sb:Nat) (w:World):Prop where
 hrb:C.rb<B
 hsb:sb<B
 hne:C.rb<sb
 hB:B≤w.heap.size
theorem jC {C:dT}{w:World}{i st ins und:Nat}(h:PS C w i st ins und) (tb:ByteArray) (o:Option Nat) (ho:Hid (cX (bs tb)=o)):Calls Tryz.prog 251 #[.string tb] w fun e w'=>e=.returned (qR o)/\w'=w:=by
 refine (Cw tb w h.tab).mono ?_
 rintro e w' ⟨rfl,rfl⟩
 exact ⟨by rw[ho.out],rfl⟩
theorem kO {L:List Lx.fK}:∀(f:Nat) (l:List iQ) (i:Nat) (l':List iQ) (j:Nat),sets L f l i=.ok (l',j)->l'.length+i≤j+l.length/\l.length≤l'.length:=by
 intro f
 induction f with
 | zero=>intro l i l' j h;rw[sets] at h;injection h with h;injection h with h1 h2;subst h1 h2;exact ⟨by omega,Nat.le_refl _⟩
 | succ f ih=>
  intro l i l' j h
  rw[sets] at h
  split at h
  ·exact absurd h (by simp)
  ·split at h
   ·split at h
    ·exact absurd h (by simp)
    ·rename_i e m he
     have h1:=qB he
     split at h
     ·have:=ih _ _ _ _ h
      simp at this;omega
     ·injection h with h;injection h with h2 h3;subst h2 h3;simp;omega
   ·exact absurd h (by simp)
theorem Ma {L:List Lx.fK}{kind i j:Nat}{y:Wy}(h:Hid (sX L kind i=.ok (y,j))):i<j:=by
 have ho:∀k m,m≤jU L k m:=fun k m=>by unfold jU;split<;>omega
 have h:=h.out
 rw[sX] at h
 split at h
 ·exact absurd h (by simp)
 ·rename_i n e j1 hc
  have h1:jU L fW i≤j1:=by
   rw[Px.cond] at hc
   split at hc
   ·split at hc
    ·split at hc
     ·exact absurd hc (by simp)
     ·split at hc
      ·exact absurd hc (by simp)
      ·rename_i he;have:=qB he;injection hc with hc;injection hc with _ hc;injection hc with _ hc;omega
    ·split at hc
     ·exact absurd hc (by simp)
     ·rename_i he;have:=qB he;injection hc with hc;injection hc with _ hc;injection hc with _ hc;omega
   ·injection hc with hc;injection hc with _ hc;injection hc with _ hc;omega
  split at h
  ·exact absurd h (by simp)
  ·rename_i l m hd
   have h2:j1≤m:=by
    rw[fN] at hd
    split at hd
    ·have:=kO _ _ _ _ _ hd;simp at this;omega
    ·injection hd with hd;injection hd with _ hd;omega
   have h3:=ho fW i
   have h4:=ho fS (m+2)
   split at h
   ·split at h
    ·exact absurd h (by simp)
    ·split at h
     ·injection h with h;injection h with _ h;omega
     ·exact absurd h (by simp)
   ·exact absurd h (by simp)
theorem Tryz.info301:(Tryz.prog.info? 301).map (fun i=>(i.zero,i.size,i.bytes))=some (some (.agg #[.int .i64 0,.bool false,.pointer none,.int .i64 0,.slice none 0 0,.string ⟨#[]⟩,.bool false]),7,80):=by kernel_rfl
theorem cE.shape {A:Nat->Prop}{w:World}{l:List iQ}{v:Value}(h:cE A w l v):∃ao n cap,v=.slice ao n cap:=by
 obtain ⟨xs,hr,_⟩:=h
 obtain ⟨ao,cap,rfl⟩:=aJ hr.1
 exact ⟨ao,_,cap,rfl⟩
theorem Fr.x {rb sb B n:Nat}{w w':World}(h:Fr n [rb] w w') (hB:B≤n):Fr B [rb,sb] w w':=h.mono hB Um
theorem Tryz.info210:(Tryz.prog.info? 210).map (fun i=>(i.zero,i.size,i.bytes))=some (some (.slice none 0 0),1,24):=by kernel_rfl
theorem oR {A:Nat->Prop}{w:World}:∀(l:List iQ) (xs:List Value),Rows (mG A w) l xs->∀u∈xs,u.oneCell'=true:=by
 intro l
 induction l with
 | nil=>intro xs h u hu;obtain rfl:xs=[]:=h;simp at hu
 | cons a r ih=>
  intro xs h u hu
  obtain ⟨c,ys,rfl,⟨p,rfl,hp⟩,hr⟩:=h
  simp only[List.cons_append,List.nil_append,List.mem_cons] at hu
  rcases hu with rfl|rfl|hu
  ·rfl
  ·exact hp.oneCell
  ·exact ih _ hr u hu
theorem wO {L:List Lx.fK}(hL:0<L.length) {i j:Nat}{l':List iQ}(h:sets L L.length [] i=.ok (l',j)):0<l'.length:=by
 obtain ⟨f,hf⟩:∃f,L.length=f+1:=⟨L.length-1,by omega⟩
 rw[hf,sets] at h
 split at h
 ·exact absurd h (by simp)
 ·split at h
  ·split at h
   ·exact absurd h (by simp)
   ·split at h
    ·have:=(kO _ _ _ _ _ h).2;simp at this;omega
    ·injection h with h;injection h with h1 h2;subst h1;simp
  ·exact absurd h (by simp)
theorem lW.some {B:Nat}{w:World}{l:List iQ}{v:Value}{xs:List Value}(h:lW B w l v xs) (hl:0<l.length):∃g cap,v=.slice (some ⟨g,0,none⟩) l.length cap:=by
 rcases h.own.2 with ⟨_,h0⟩|⟨g,cap,cur,rfl,_⟩
 ·omega
 ·exact ⟨g,cap,rfl⟩
theorem pT {L:List Lx.fK}{i:Nat}{a:Unit}(h:Hid (vD L eS i=.ok a)):oH L i=.ok (i+1):=if_pos (bF h)
theorem rY {L:List Lx.fK}{i:Nat}{f:F}(h:Hid (vD L eS i=.error f)):oH L i=.error f:=by rw[(aR h).2];exact if_neg (aR h).1
theorem Nn {C:dT}{k B sb ins i c:Nat}{w:World}{s:cC (St k)}{reg:Nat->Nat->Except F (List (St k)×Nat×Nat)}(h:PS C w i c ins 0) (hE:Ay C B sb w) (hS:J8 k B sb w s) (hb:Bd i s) (kd:Nat) (hl:cX (tx C.L i)=some kd):Calls Tryz.prog 224 #[.pointer (some ⟨C.rb,0,none⟩),.pointer (some ⟨sb,0,none⟩)] w (lE B [C.rb,sb] (mH C k B sb ins i c s) w (Px.eA C.L (St k) reg s c i)):=by
 obtain ⟨i0,hi,hz0,hz1,hz2⟩:=info_parts Tryz.info301
 obtain ⟨e,d,l,p,y,r,xe,xd,xl,xy,xr,hS⟩:=hS
 have hl6:=h.wf.len
 have hil:=h.lt
 have hbe:=hb.e
 have hbd:=hb.d
 have hbl:=hb.l
 have hby:=hb.y
 have hbr:=hb.r
 obtain ⟨hErb,hEsb,hEne,hEB⟩:=hE
 have hEne':sb∉[C.rb]:=by simp;omega
 have hX:∀x∈[C.rb],x<B:=by simp;omega
 obtain ⟨tb,htb⟩:∃tb:ByteArray,Hid (bs tb=tx C.L i):=⟨⟨(tx C.L i).toArray⟩,rfl⟩
 have hoy:w.ownsRow B 301 7 y s.ways.length xy:=hS.good.own (iF s.ways y xy) (by simp[aW])
 obtain ⟨ao,cap,rfl⟩:=aJ hoy
 have hnx:=h.wf.next h.lt (by intro e;rw[e,show cX []=none from by decide] at hl;exact absurd hl (by simp))
 have HL:Hid (cX (bs tb)=some kd):=by rw[Hid,htb.out];exact hl
 have HE:∀f,Hid (sX C.L kd (i+1)=.error f)->Hid (Px.eA C.L (St k) reg s c i=.error f):=fun f hr=>by rw[Hid,Px.eA,hl];simp only;rw[hr.out]
 have HO:∀y j,Hid (sX C.L kd (i+1)=.ok (y,j))->Hid (Px.eA C.L (St k) reg s c i=.ok (some ({ s with ways:=s.ways++[y] },c,j))):=fun y j hr=>by rw[Hid,Px.eA,hl];simp only;rw[hr.out]
 clear hl
 go_enter Tryz.func224,Tryz.ntmps224
 go_wp2_with (first
  | (go_at_call 137;refine (eD h tb htb).mono ?_;rintro e w1 ⟨rfl,hp1,hf1⟩)
  | (go_at_call 251;refine (jC hp1 tb _ HL).mono ?_;rintro e w2 ⟨rfl,hw2⟩;obtain rfl:=hw2.symm;rw[qR];obtain ⟨-,c1,-⟩:=hp1.cells;have z1:=hp1.frozen 1))
 obtain ⟨hp2,hf2⟩:=hp1.step hnx
 have hS2:=(hS.carry (X:=[]) (by simp) (by simp) hf1).carry hX hEne' hf2
 have hF2:=(hf1.wide (X:=[C.rb])).up hf2
 clear c1 z1
 generalize (w1.setCell ⟨C.rb,1,none⟩ (.int .i64 ((i:Int)+1)))=w2 at hp2 hf2 hS2 hF2 ⊢
 have hB2:=Nat.le_trans hEB hF2.size
 have hdr:Fr w2.heap.size [] w2 w2.drew:=(Fr.refl _ _ _).drew
 have hp3:=hp2.same hdr
 obtain ⟨y2,-⟩:=lG hS2.at_ 7 (Value.slice ao s.ways.length cap) rfl
 go_region_law
  (first
   | (refine step_append_lies _ (by rfl) _ _ _ (by rfl) B 301 i0 _ 7 80 Tryz.underlying254 hi hz0 hz1 hz2 rfl (by omega) (Value.slice ao s.ways.length cap) s.ways.length xy (by rfl) (hA4.good.own (iF s.ways _ xy) (by simp[aW]))
         ⟨w4.heap.size,0,none⟩ 1 1 (rN a4 (.pointer u4) (.slice ao4 n4 cap4)).toList (by rfl) (by rfl) (World.news_of_block (cs:=rN a4 (.pointer u4) (.slice ao4 n4 cap4)) (t:=301) (fr:=(0,0)) (heap_alloc_new w4 _)) (by intro u hu;simp[rN] at hu;rcases hu with rfl|rfl|rfl|rfl|rfl|rfl|rfl<;>rfl)
         (by omega) (by unfold maxLen;omega) (by omega) (by simp;omega) (w4.heap.size+1) (by simp) ?_
      intro gg cap' w5 hown5 hgrow hat hlt5
      have hS5:=SU.grow_ways (a:=a4) hA4 hEsb hB2 hS2.lts hWA (by rw[List.length_append];exact hown5) hgrow (by rcases hat with e1|e1;exact .inl e1.symm;exact .inr (by rw[e1];simp[Value.ownBlock]))
      have hF5:Fr B [C.rb,sb] w w5:=((((hF2.x hEB).trans ((hdr.wide.up hf4).x hB2)).alloc hB4 _).grown hgrow (by simp;omega) (fun g hg=>.inl ((hA4.good.own (iF s.ways _ xy) (by simp[aW])).lt g hg).1))
      have hp5:PS C w5 j4 c ins 0:=hp4.low hErb (((Fr.refl B [] w4).alloc hB4 _).grown hgrow (by simp;omega) (fun g hg=>.inl ((hA4.good.own (iF s.ways _ xy) (by simp[aW])).lt g hg).1))
      have hb5:w5.heap[sb]?=some (.cells (qG s.name s.first s.last e d l p (Value.slice ao s.ways.length cap) r) 256 (0,0)):=by
       rw[hgrow.block sb (by simp;omega) (fun e1=>by have:=((hA4.good.own (iF s.ways (Value.slice ao s.ways.length cap) xy) (by simp[aW])).lt sb e1.symm).1;omega)];exact hA4.at_
      obtain ⟨y5,zy5⟩:=lG hb5 7 (Value.slice ao s.ways.length cap) rfl)
   | (go_simp
      go_at_call 252
      refine (Tc hp3 kd).mono ?_
      rintro e1 w4 h4
      rcases h4.cases with ⟨f,hr4,q,rfl,hq⟩|⟨⟨a4,j4⟩,v4,hr4,rfl,⟨⟨p4,q4,rfl,hu4,hd4⟩,hp4⟩,hf4⟩
      ·exact ⟨rfl,by rw[(HE _ hr4).out];exact aP.x ⟨q,rfl,hq⟩ ((hF2.x hEB).drew) hB2 (by simp)⟩
      obtain ⟨u4,rfl⟩:=hu4.ptr
      obtain ⟨ao4,n4,cap4,rfl⟩:=hd4.shape
      have hj4:=Ma hr4
      have hS4:=hS2.carry hX hEne' (hdr.wide.up hf4)
      obtain ⟨y4,zy4⟩:=lG hS4.at_ 7 (Value.slice ao s.ways.length cap) rfl
      have hl4:=aB hS4.at_
      have hB4:B≤w4.heap.size:=Nat.le_trans hB2 (hdr.wide.up hf4).size
      have hal:Fr w4.heap.size [] w4 (w4.alloc (.cells (rN a4 (.pointer u4) (.slice ao4 n4 cap4)) 301)):=(Fr.refl _ _ _).alloc (Nat.le_refl _) _
      have hA4:=hS4.carry (X:=[]) (by simp) (by simp) hal
      have hWA:yY (Ge w2.heap.size) (w4.alloc (.cells (rN a4 (.pointer u4) (.slice ao4 n4 cap4)) 301)) a4 (rN a4 (.pointer u4) (.slice ao4 n4 cap4)).toList:=⟨_,_,rfl,hu4.carry (aY (X:=[]) (by simp) hal),hd4.carry (aY (X:=[]) (by simp) hal)⟩
      simp only[rN,sv] at hA4 hWA hal ⊢))
 all_goals
  go_wp2_with fail
  go_ret
  rw[(HO _ _ hr4).out]
  exact ⟨_,rfl,⟨rfl,by omega,⟨by (show s.enter.length≤j4);omega,by (show s.during.length≤j4);omega,by (show s.leave.length≤j4);omega,by simp;omega,by (show s.regions.length≤j4);omega⟩,hp5.put hEne _ _,⟨_,_,_,_,_,_,_,_,_,_,_,hS5⟩⟩,hF5.setCell (.inr (by simp)) _⟩
end
end Go.Proofs.YtcdbhoknhnimcaaGreatDoor
