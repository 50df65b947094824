import Derived.Test.YthieaobjdpfcoaaGreatDoorVPway
import Derived.Deep.AppendLies
set_option maxRecDepth 100000
set_option maxHeartbeats 8000000
namespace Go.Proofs.YthieaobjdpfcoaaGreatDoor
section
open Go.RowKit Px
structure tY where
 t:Nat
 sz:Nat
 n:Nat
 v:Value
 xs:List Value
 P:(Nat->Prop)->World->Prop
def sH (B:Nat) (ss:List tY) (b:Nat):Prop:=B≤b/\∀s∈ss,s.v.ownBlock≠some b
structure jS (B:Nat) (w:World) (ss:List tY):Prop where
 own:∀s∈ss,w.ownsRow B s.t s.sz s.v s.n s.xs
 apart:ss.Pairwise (fun a b=>∀g,a.v.ownBlock=some g->b.v.ownBlock≠some g)
 has:∀s∈ss,s.P (sH B ss) w
def iW (ss:List tY):Prop:=∀s∈ss,∀(A A':Nat->Prop) (w w':World),bB A A' w w'->s.P A w->s.P A' w'
theorem Ry {B:Nat}{ss:List tY}{X:List Nat}{w w':World}(hX:∀x∈X,x<B) (hf:Fr w.heap.size X w w'):bB (sH B ss) (sH B ss) w w':=hf.keep (fun b hb hm=>by have:=hX b hm;have:=hb.1;omega)
theorem jS.carry {B:Nat}{ss:List tY}{X:List Nat}{w w':World}(h:jS B w ss) (hc:iW ss) (hX:∀x∈X,x<B) (hf:Fr w.heap.size X w w'):jS B w' ss:=
 ⟨fun s hs=>aJ1 (h.own s hs) hX hf,h.apart,fun s hs=>hc s hs _ _ _ _ (Ry hX hf) (h.has s hs)⟩
section
variable {B:Nat}{w w2:World}{l1 l2:List tY}{s s':tY}
theorem kB (hg:w.grownBy w2 s.v.ownBlock) (hat:s'.v.ownBlock=s.v.ownBlock\/s'.v.ownBlock=some w.heap.size):bB (sH B (l1++s::l2)) (sH B (l1++s'::l2)) w w2:=fun b hb hlt=>by
 refine ⟨⟨hb.1,fun x hx=>?_⟩,hg.block b hlt (fun e=>hb.2 s (by simp) e.symm)⟩
 simp only[aR2,aW5] at hx
 rcases hx with hx|rfl|hx
 ·exact hb.2 x (by simp[hx])
 ·rcases hat with e|e
  ·rw[e];exact hb.2 s (by simp)
  ·rw[e];intro e2;injection e2 with e2;omega
 ·exact hb.2 x (by simp[hx])
theorem oG {n:Nat}(h:jS B w (l1++s::l2)) (hn:∀x∈l1++s::l2,∀g,x.v.ownBlock=some g->g<n) (hB:B≤n) (hg:w.grownBy w2 s.v.ownBlock) (hat:s'.v.ownBlock=s.v.ownBlock\/s'.v.ownBlock=some w.heap.size):bB (Ge n) (sH B (l1++s'::l2)) w w2:=fun b hb hlt=>by
 have _:=h.own
 refine kB hg hat b ⟨aO6 hB hb,fun x hx e=>?_⟩ hlt
 have:=hn x hx b e
 simp[Ge] at hb;omega
theorem jS.grow (h:jS B w (l1++s::l2)) (Y:iW (l1++s::l2)) (J:w.grownBy w2 s.v.ownBlock) (D:s'.v.ownBlock=s.v.ownBlock\/s'.v.ownBlock=some w.heap.size)
    (I:w2.ownsRow B s'.t s'.sz s'.v s'.n s'.xs) (Z:s'.P (sH B (l1++s'::l2)) w2):jS B w2 (l1++s'::l2):=by
 have k:=List.pairwise_append.1 h.apart
 have r:=List.pairwise_cons.1 k.2.1
 have O:∀x∈l1++s::l2,∀g,x.v.ownBlock=some g->g<w.heap.size:=fun x hx g J=>((h.own x hx).lt g J).2
 have u:∀x,x∈l1\/x∈l2->∀g,x.v.ownBlock=some g->s.v.ownBlock≠some g:=by
  rintro x (hx|hx) g c
  ·exact k.2.2 x hx s (by simp) g c
  ·intro e;exact r.1 x hx g e c
 have j:∀x,x∈l1\/x∈l2->∀g,x.v.ownBlock=some g->s'.v.ownBlock≠some g:=by
  intro x hx g c
  rcases D with e|e
  ·rw[e];exact u x hx g c
  ·rw[e];intro X;injection X with X
   have:=O x (by rcases hx with hx|hx<;>simp[hx]) g c
   omega
 have kept:∀x,x∈l1\/x∈l2->w2.ownsRow B x.t x.sz x.v x.n x.xs:=fun x hx=>
  (h.own x (by rcases hx with hx|hx<;>simp[hx])).kept J (by
   cases hv:x.v.ownBlock with
   | none=>exact .inl rfl
   | some g=>exact .inr (fun e=>u x hx g hv e.symm))
 refine ⟨fun x hx=>?_,?_,fun x hx=>?_⟩
 ·simp only[aR2,aW5] at hx
  rcases hx with hx|rfl|hx
  ·exact kept x (.inl hx)
  ·exact I
  ·exact kept x (.inr hx)
 ·refine List.pairwise_append.2 ⟨k.1,List.pairwise_cons.2 ⟨fun x hx g l U=>j x (.inr hx) g U l,r.2⟩,fun x hx y Q g l=>?_⟩
  rcases aW5.1 Q with rfl|Q
  ·exact j x (.inl hx) g l
  ·exact k.2.2 x hx y (by simp[Q]) g l
 ·simp only[aR2,aW5] at hx
  rcases hx with hx|rfl|hx
  ·exact Y x (by simp[hx]) _ _ _ _ (kB J D) (h.has x (by simp[hx]))
  ·exact Z
  ·exact Y x (by simp[hx]) _ _ _ _ (kB J D) (h.has x (by simp[hx]))
theorem jS.swap (h:jS B w (l1++s::l2)) (hv:s'.v=s.v) (hown:w.ownsRow B s'.t s'.sz s'.v s'.n s'.xs) (hP:s'.P (sH B (l1++s'::l2)) w) (hc:iW (l1++s::l2)):jS B w (l1++s'::l2):=
 h.grow hc ⟨rfl,rfl,rfl,aO4 _,fun _ _ _=>rfl⟩ (.inl (by rw[hv])) hown hP
end
theorem jS.block {B:Nat}{w:World}{ss:List tY}(h:jS B w ss):∀x∈ss,∀g,x.v.ownBlock=some g->B≤g/\g<w.heap.size:=fun x hx g hg=>(h.own x hx).lt g hg
def cE (l:List iY) (v:Value) (xs:List Value):tY:=⟨297,2,l.length,v,xs,fun A w=>Rows (mT A w) l xs⟩
def iL (l:List Wy) (v:Value) (xs:List Value):tY:=⟨273,7,l.length,v,xs,fun A w=>Rows (B7 A w) l xs⟩
def dW (k:Nat) (l:List (List (St k))) (v:Value) (xs:List Value):tY:=⟨174,1,l.length,v,xs,fun A w=>Rows (Yz (aM A w k)) l xs⟩
def kP (e:E) (p:Value):tY:=⟨307,1,0,.slice none 0 0,[],fun A w=>jR A w e p⟩
def iM (l:List bQ) (v:Value) (xs:List Value):tY:=⟨126,3,l.length,v,xs,fun _ _=>Rows Jb l xs⟩
section
variable {A A':Nat->Prop}{w w':World}
theorem V7 (k:bB A A' w w') (l:List iY) (v:Value) (xs:List Value):(cE l v xs).P A w->(cE l v xs).P A' w':=fun h=>h.map (mT.carry k)
theorem aG3 (k:bB A A' w w') (l:List Wy) (v:Value) (xs:List Value):(iL l v xs).P A w->(iL l v xs).P A' w':=fun h=>h.map (B7.carry k)
theorem Nl (k:bB A A' w w') (n:Nat) (l:List (List (St n))) (v:Value) (xs:List Value):(dW n l v xs).P A w->(dW n l v xs).P A' w':=fun h=>h.map (fun _ _ ⟨u,hc,hu⟩=>⟨u,hc,aM.carry k n _ _ hu⟩)
theorem aM4 (k:bB A A' w w') (e:E) (p:Value):(kP e p).P A w->(kP e p).P A' w':=fun h=>h.carry k
end
def aZ (k:Nat) (s:cF (St k)) (e d l p y r:Value) (xe xd xl xy xr:List Value):List tY:=[cE s.enter e xe,cE s.during d xd,cE s.leave l xl,kP s.rests p,iL s.ways y xy,dW k s.regions r xr]
theorem eV (k:Nat) (s:cF (St k)) (e d l p y r:Value) (h D u n j:List Value):iW (aZ k s e d l p y r h D u n j):=by
 intro x hx A A' w w' c
 simp only[aZ,aW5,List.not_mem_nil,or_false] at hx
 rcases hx with rfl|rfl|rfl|rfl|rfl|rfl
 ·exact V7 c _ _ _
 ·exact V7 c _ _ _
 ·exact V7 c _ _ _
 ·exact aM4 c _ _
 ·exact aG3 c _ _ _
 ·exact Nl c _ _ _ _
abbrev rA (s:bE) (fi la:Bool) (e d l p y r:Value):Array Value:=#[sv s,.bool fi,.bool la,e,d,l,p,y,r]
structure SU (k B sb:Nat) (w:World) (s:cF (St k)) (e d l p y r:Value) (xe xd xl xy xr:List Value):Prop where
 at_:w.heap[sb]?=some (.cells (rA s.name s.first s.last e d l p y r) 223 (0,0))
 good:jS B w (aZ k s e d l p y r xe xd xl xy xr)
theorem SU.done {k B sb:Nat}{w:World}{s:cF (St k)}{e d l p y r:Value}{c J I u j:List Value}(h:SU k B sb w s e d l p y r c J I u j):Da (Ge B) w (aM (Ge B) w k) s (rA s.name s.first s.last e d l p y r).toList:=by
 have D:bB (sH B (aZ k s e d l p y r c J I u j)) (Ge B) w w:=fun b hb _=>⟨hb.1,rfl⟩
 have o:=h.good.own
 have O:=h.good.has
 have Q:∀x∈aZ k s e d l p y r c J I u j,wU (Ge B) w x.t x.sz x.v x.n x.xs:=fun x hx=>⟨qN (o x hx),fun g U=>((o x hx).lt g U).1⟩
 refine ⟨e,d,l,p,y,r,rfl,⟨c,Q (cE s.enter e c) (by simp[aZ]),V7 D _ _ _ (O (cE s.enter e c) (by simp[aZ]))⟩,⟨J,Q (cE s.during d J) (by simp[aZ]),V7 D _ _ _ (O (cE s.during d J) (by simp[aZ]))⟩,⟨I,Q (cE s.leave l I) (by simp[aZ]),V7 D _ _ _ (O (cE s.leave l I) (by simp[aZ]))⟩,aM4 D _ _ (O (kP s.rests p) (by simp[aZ])),⟨u,Q (iL s.ways y u) (by simp[aZ]),aG3 D _ _ _ (O (iL s.ways y u) (by simp[aZ]))⟩,⟨j,Q (dW k s.regions r j) (by simp[aZ]),Nl D _ _ _ _ (O (dW k s.regions r j) (by simp[aZ]))⟩⟩
theorem SU.carry {k B sb:Nat}{X:List Nat}{w w':World}{s:cF (St k)}{e d l p y r:Value}{xe xd xl xy xr:List Value}(h:SU k B sb w s e d l p y r xe xd xl xy xr) (hX:∀x∈X,x<B) (hs:sb∉X) (hf:Fr w.heap.size X w w'):SU k B sb w' s e d l p y r xe xd xl xy xr:=
 ⟨by rw[hf.block sb (aB h.at_) hs];exact h.at_,h.good.carry (eV _ _ _ _ _ _ _ _ _ _ _ _ _) hX hf⟩
end
section
open Go.RowKit Px
theorem Wv {a b n:Nat}:∀x∈[a],x<n->x∈[a,b]:=fun _ hx _=>aW5.2 (.inl (aP5.1 hx))
theorem SU.lts {k B sb:Nat}{w:World}{s:cF (St k)}{e d l p y r:Value}{xe xd xl xy xr:List Value}(h:SU k B sb w s e d l p y r xe xd xl xy xr):∀x∈aZ k s e d l p y r xe xd xl xy xr,∀g,x.v.ownBlock=some g->g<w.heap.size:=fun x hx g hg=>(h.good.block x hx g hg).2
theorem SU.grow_enter {k B sb n:Nat}{w4 w5:World}{s:cF (St k)}{e d l p y r j:Value}{c u J D I cs:List Value}{m:List iY}(h:SU k B sb w4 s e d l p y r c u J D I) (ac:sb<B) (hB:B≤n) (hn:∀x∈aZ k s e d l p y r c u J D I,∀g,x.v.ownBlock=some g->g<n)
    (ha:Rows (mT (Ge n) w4) m cs) (U:w5.ownsRow B 297 2 j ((s.enter++m).length) (c++cs)) (hg:w4.grownBy w5 e.ownBlock) (Q:j.ownBlock=e.ownBlock\/j.ownBlock=some w4.heap.size) :
    SU k B sb (w5.setCell ⟨sb,3,none⟩ j) { s with enter:=s.enter++m } j d l p y r (c++cs) u J D I:=by
 have O:jS B w4 ([]++(cE s.enter e c)::[cE s.during d u,cE s.leave l J,kP s.rests p,iL s.ways y D,dW k s.regions r I]):=h.good
 have hc:iW ([]++(cE s.enter e c)::[cE s.during d u,cE s.leave l J,kP s.rests p,iL s.ways y D,dW k s.regions r I]):=eV k s e d l p y r c u J D I
 have kN:=oG (s':=cE (s.enter++m) j (c++cs)) O hn hB hg Q
 have hold:=V7 (kB (B:=B) (l1:=[]) (l2:=[cE s.during d u,cE s.leave l J,kP s.rests p,iL s.ways y D,dW k s.regions r I]) (s:=cE s.enter e c) (s':=cE (s.enter++m) j (c++cs)) hg Q) _ _ _ (O.has (cE s.enter e c) (by simp))
 have ab:=O.grow (s':=cE (s.enter++m) j (c++cs)) hc hg Q U (Rows.append hold (ha.map (mT.carry kN)))
 have aa:=cU w5 sb 3 j
 have Z:=aB h.at_
 refine ⟨?_,jS.carry (X:=[sb]) ab (eV k { s with enter:=s.enter++m } j d l p y r (c++cs) u J D I) (by simp;exact ac) aa⟩
 have Y:w5.heap[sb]?=some (.cells (rA s.name s.first s.last e d l p y r) 223 (0,0)):=by
  rw[hg.block sb Z (fun e1=>by have:=((h.good.own (cE s.enter e c) (by simp[aZ])).lt sb e1.symm).1;omega)];exact h.at_
 rw[heap_setCell_same w5 sb 3 _ 223 _ Y];rfl
theorem SU.grow_during {k B sb n:Nat}{w4 w5:World}{s:cF (St k)}{e d l p y r j:Value}{u c J D I cs:List Value}{m:List iY}(h:SU k B sb w4 s e d l p y r u c J D I) (ac:sb<B) (hB:B≤n) (hn:∀x∈aZ k s e d l p y r u c J D I,∀g,x.v.ownBlock=some g->g<n)
    (ha:Rows (mT (Ge n) w4) m cs) (U:w5.ownsRow B 297 2 j ((s.during++m).length) (c++cs)) (hg:w4.grownBy w5 d.ownBlock) (Q:j.ownBlock=d.ownBlock\/j.ownBlock=some w4.heap.size) :
    SU k B sb (w5.setCell ⟨sb,4,none⟩ j) { s with during:=s.during++m } e j l p y r u (c++cs) J D I:=by
 have O:jS B w4 ([cE s.enter e u]++(cE s.during d c)::[cE s.leave l J,kP s.rests p,iL s.ways y D,dW k s.regions r I]):=h.good
 have hc:iW ([cE s.enter e u]++(cE s.during d c)::[cE s.leave l J,kP s.rests p,iL s.ways y D,dW k s.regions r I]):=eV k s e d l p y r u c J D I
 have kN:=oG (s':=cE (s.during++m) j (c++cs)) O hn hB hg Q
 have hold:=V7 (kB (B:=B) (l1:=[cE s.enter e u]) (l2:=[cE s.leave l J,kP s.rests p,iL s.ways y D,dW k s.regions r I]) (s:=cE s.during d c) (s':=cE (s.during++m) j (c++cs)) hg Q) _ _ _ (O.has (cE s.during d c) (by simp))
 have ab:=O.grow (s':=cE (s.during++m) j (c++cs)) hc hg Q U (Rows.append hold (ha.map (mT.carry kN)))
 have aa:=cU w5 sb 4 j
 have Z:=aB h.at_
 refine ⟨?_,jS.carry (X:=[sb]) ab (eV k { s with during:=s.during++m } e j l p y r u (c++cs) J D I) (by simp;exact ac) aa⟩
 have Y:w5.heap[sb]?=some (.cells (rA s.name s.first s.last e d l p y r) 223 (0,0)):=by
  rw[hg.block sb Z (fun e1=>by have:=((h.good.own (cE s.during d c) (by simp[aZ])).lt sb e1.symm).1;omega)];exact h.at_
 rw[heap_setCell_same w5 sb 4 _ 223 _ Y];rfl
theorem SU.grow_leave {k B sb n:Nat}{w4 w5:World}{s:cF (St k)}{e d l p y r j:Value}{u D c I J cs:List Value}{m:List iY}(h:SU k B sb w4 s e d l p y r u D c I J) (ac:sb<B) (hB:B≤n) (hn:∀x∈aZ k s e d l p y r u D c I J,∀g,x.v.ownBlock=some g->g<n)
    (ha:Rows (mT (Ge n) w4) m cs) (U:w5.ownsRow B 297 2 j ((s.leave++m).length) (c++cs)) (hg:w4.grownBy w5 l.ownBlock) (Q:j.ownBlock=l.ownBlock\/j.ownBlock=some w4.heap.size) :
    SU k B sb (w5.setCell ⟨sb,5,none⟩ j) { s with leave:=s.leave++m } e d j p y r u D (c++cs) I J:=by
 have O:jS B w4 ([cE s.enter e u,cE s.during d D]++(cE s.leave l c)::[kP s.rests p,iL s.ways y I,dW k s.regions r J]):=h.good
 have hc:iW ([cE s.enter e u,cE s.during d D]++(cE s.leave l c)::[kP s.rests p,iL s.ways y I,dW k s.regions r J]):=eV k s e d l p y r u D c I J
 have kN:=oG (s':=cE (s.leave++m) j (c++cs)) O hn hB hg Q
 have hold:=V7 (kB (B:=B) (l1:=[cE s.enter e u,cE s.during d D]) (l2:=[kP s.rests p,iL s.ways y I,dW k s.regions r J]) (s:=cE s.leave l c) (s':=cE (s.leave++m) j (c++cs)) hg Q) _ _ _ (O.has (cE s.leave l c) (by simp))
 have ab:=O.grow (s':=cE (s.leave++m) j (c++cs)) hc hg Q U (Rows.append hold (ha.map (mT.carry kN)))
 have aa:=cU w5 sb 5 j
 have Z:=aB h.at_
 refine ⟨?_,jS.carry (X:=[sb]) ab (eV k { s with leave:=s.leave++m } e d j p y r u D (c++cs) I J) (by simp;exact ac) aa⟩
 have Y:w5.heap[sb]?=some (.cells (rA s.name s.first s.last e d l p y r) 223 (0,0)):=by
  rw[hg.block sb Z (fun e1=>by have:=((h.good.own (cE s.leave l c) (by simp[aZ])).lt sb e1.symm).1;omega)];exact h.at_
 rw[heap_setCell_same w5 sb 5 _ 223 _ Y];rfl
theorem SU.grow_ways {k B sb n:Nat}{w4 w5:World}{s:cF (St k)}{e d l p y r j:Value}{u D J c I cs:List Value}{a:Wy}(h:SU k B sb w4 s e d l p y r u D J c I) (ac:sb<B) (hB:B≤n) (hn:∀x∈aZ k s e d l p y r u D J c I,∀g,x.v.ownBlock=some g->g<n)
    (ha:B7 (Ge n) w4 a cs) (U:w5.ownsRow B 273 7 j ((s.ways++[a]).length) (c++cs)) (hg:w4.grownBy w5 y.ownBlock) (Q:j.ownBlock=y.ownBlock\/j.ownBlock=some w4.heap.size) :
    SU k B sb (w5.setCell ⟨sb,7,none⟩ j) { s with ways:=s.ways++[a] } e d l p j r u D J (c++cs) I:=by
 have O:jS B w4 ([cE s.enter e u,cE s.during d D,cE s.leave l J,kP s.rests p]++(iL s.ways y c)::[dW k s.regions r I]):=h.good
 have hc:iW ([cE s.enter e u,cE s.during d D,cE s.leave l J,kP s.rests p]++(iL s.ways y c)::[dW k s.regions r I]):=eV k s e d l p y r u D J c I
 have kN:=oG (s':=iL (s.ways++[a]) j (c++cs)) O hn hB hg Q
 have hold:=aG3 (kB (B:=B) (l1:=[cE s.enter e u,cE s.during d D,cE s.leave l J,kP s.rests p]) (l2:=[dW k s.regions r I]) (s:=iL s.ways y c) (s':=iL (s.ways++[a]) j (c++cs)) hg Q) _ _ _ (O.has (iL s.ways y c) (by simp))
 have ab:=O.grow (s':=iL (s.ways++[a]) j (c++cs)) hc hg Q U (Rows.append hold (Rows.one (B7.carry kN _ _ ha)))
 have aa:=cU w5 sb 7 j
 have Z:=aB h.at_
 refine ⟨?_,jS.carry (X:=[sb]) ab (eV k { s with ways:=s.ways++[a] } e d l p j r u D J (c++cs) I) (by simp;exact ac) aa⟩
 have Y:w5.heap[sb]?=some (.cells (rA s.name s.first s.last e d l p y r) 223 (0,0)):=by
  rw[hg.block sb Z (fun e1=>by have:=((h.good.own (iL s.ways y c) (by simp[aZ])).lt sb e1.symm).1;omega)];exact h.at_
 rw[heap_setCell_same w5 sb 7 _ 223 _ Y];rfl
theorem SU.grow_regions {k B sb n:Nat}{w4 w5:World}{s:cF (St k)}{e d l p y r j:Value}{D I O J c cs:List Value}{a:List (St k)}{u:Value}(h:SU k B sb w4 s e d l p y r D I O J c) (ae:sb<B) (hB:B≤n) (hn:∀x∈aZ k s e d l p y r D I O J c,∀g,x.v.ownBlock=some g->g<n)
    (ha:cs=[u]/\aM (Ge n) w4 k a u) (Y:w5.ownsRow B 174 1 j ((s.regions++[a]).length) (c++cs)) (hg:w4.grownBy w5 r.ownBlock) (U:j.ownBlock=r.ownBlock\/j.ownBlock=some w4.heap.size) :
    SU k B sb (w5.setCell ⟨sb,8,none⟩ j) { s with regions:=s.regions++[a] } e d l p y j D I O J (c++cs):=by
 have Q:jS B w4 ([cE s.enter e D,cE s.during d I,cE s.leave l O,kP s.rests p,iL s.ways y J]++(dW k s.regions r c)::[]):=h.good
 have hc:iW ([cE s.enter e D,cE s.during d I,cE s.leave l O,kP s.rests p,iL s.ways y J]++(dW k s.regions r c)::[]):=eV k s e d l p y r D I O J c
 have kN:=oG (s':=dW k (s.regions++[a]) j (c++cs)) Q hn hB hg U
 have ad:Yz (aM (sH B ([cE s.enter e D,cE s.during d I,cE s.leave l O,kP s.rests p,iL s.ways y J]++(dW k (s.regions++[a]) j (c++cs))::[])) w5 k) a cs:=⟨u,ha.1,aM.carry kN k _ _ ha.2⟩
 have hold:=Nl (kB (B:=B) (l1:=[cE s.enter e D,cE s.during d I,cE s.leave l O,kP s.rests p,iL s.ways y J]) (l2:=[]) (s:=dW k s.regions r c) (s':=dW k (s.regions++[a]) j (c++cs)) hg U) _ _ _ _ (Q.has (dW k s.regions r c) (by simp))
 have ac:=Q.grow (s':=dW k (s.regions++[a]) j (c++cs)) hc hg U Y (Rows.append hold (Rows.one ad))
 have ab:=cU w5 sb 8 j
 have aa:=aB h.at_
 refine ⟨?_,jS.carry (X:=[sb]) ac (eV k { s with regions:=s.regions++[a] } e d l p y j D I O J (c++cs)) (by simp;exact ae) ab⟩
 have Z:w5.heap[sb]?=some (.cells (rA s.name s.first s.last e d l p y r) 223 (0,0)):=by
  rw[hg.block sb aa (fun e1=>by have:=((h.good.own (dW k s.regions r c) (by simp[aZ])).lt sb e1.symm).1;omega)];exact h.at_
 rw[heap_setCell_same w5 sb 8 _ 223 _ Z];rfl
theorem SU.grow_rests {k B sb n:Nat}{w:World}{s:cF (St k)}{e d l p y r J:Value}{c j I u D:List Value}{t:E}(h:SU k B sb w s e d l p y r c j I u D) (U:sb<B) (hB:B≤n) (Z:∀x∈aZ k s e d l p y r c j I u D,∀g,x.v.ownBlock=some g->g<n) (Y:jR (Ge n) w t J) :
    SU k B sb (w.setCell ⟨sb,6,none⟩ J) { s with rests:=t } e d l J y r c j I u D:=by
 have O:jS B w ([cE s.enter e c,cE s.during d j,cE s.leave l I]++kP s.rests p::[iL s.ways y u,dW k s.regions r D]):=h.good
 have hc:iW ([cE s.enter e c,cE s.during d j,cE s.leave l I]++kP s.rests p::[iL s.ways y u,dW k s.regions r D]):=eV k s e d l p y r c j I u D
 have kN:bB (Ge n) (sH B ([cE s.enter e c,cE s.during d j,cE s.leave l I]++kP t J::[iL s.ways y u,dW k s.regions r D])) w w:=oG O Z hB ⟨rfl,rfl,rfl,aO4 _,fun _ _ _=>rfl⟩ (.inl rfl)
 have Q:=O.swap (s':=kP t J) rfl (aY7 _ _ _ _) (Y.carry kN) hc
 refine ⟨?_,jS.carry (X:=[sb]) Q (eV k { s with rests:=t } e d l J y r c j I u D) (by simp;exact U) (cU w sb 6 J)⟩
 rw[heap_setCell_same w sb 6 _ 223 _ h.at_];rfl
end
section
open Go.RowKit Px
def iV (B:Nat) (X:List Nat) (w:World) (f:F) (e:Ending) (w':World):Prop:=
 ∃q,e=.panicked [{ v:=.iface 89 (.pointer (some ⟨q,0,none⟩)),recovered:=false }]/\w'.heap[q]?=some (.cells #[.int .i64 f.1,.int .i64 f.2] 91 (0,0))/\w.heap.size≤q/\Fr B X w w'
theorem aR.x {C:dV}{B:Nat}{X:List Nat}{w w1 w':World}{f:F}{e:Ending}(h:aR C w1 f e w') (c:Fr B X w w1) (hB:B≤w1.heap.size) (r:C.rb∈X):iV B X w f e w':=by
 obtain ⟨q,l,j,n,k⟩:=h
 exact ⟨q,l,j,aO6 c.size n,c.trans (k.mono hB (by simp;intro _;exact r))⟩
def lS (B:Nat) (X:List Nat) {α:Type}(ok:α->Value->World->Prop) (w:World) (r:Except F α) (e:Ending) (w':World):Prop:=
 match r with
 | .error f=>iV B X w f e w'
 | .ok a=>∃v,e=.returned v/\ok a v w'/\Fr B X w w'
structure Bd {ρ:Type}(i:Nat) (s:cF ρ):Prop where
 e:s.enter.length≤i
 d:s.during.length≤i
 l:s.leave.length≤i
 y:s.ways.length≤i
 r:s.regions.length≤i
def X9 (k B sb:Nat) (w:World) (s:cF (St k)):Prop:=∃e d l p y r xe xd xl xy xr,SU k B sb w s e d l p y r xe xd xl xy xr
def mU (C:dV) (k B sb ins i c:Nat) (s:cF (St k)) (o:Option (cF (St k)×Nat×Nat)) (v:Value) (w':World):Prop:=
 match o with
 | none=>v=.bool false/\PS C w' i c ins 0/\X9 k B sb w' s
 | some (s',c',j)=>v=.bool true/\i<j/\Bd j s'/\PS C w' j c' ins 0/\X9 k B sb w' s'
structure Db (C:dV) (B sb:Nat) (w:World):Prop where
 hrb:C.rb<B
 hsb:sb<B
 hne:C.rb<sb
 hB:B≤w.heap.size
theorem jL {C:dV}{w:World}{i st ins c:Nat}(h:PS C w i st ins c) (tb:ByteArray) (o:Option Nat) (j:Hid (cZ (bs tb)=o)):Calls Tryz.prog 223 #[.string tb] w fun e w'=>e=.returned (rL o)/\w'=w:=by
 refine (Ff tb w h.tab).mono ?_
 rintro e w' ⟨rfl,rfl⟩
 exact ⟨by rw[j.out],rfl⟩
theorem lI {L:List Lx.fQ}:∀(f:Nat) (l:List iY) (i:Nat) (c:List iY) (j:Nat),sets L f l i=.ok (c,j)->c.length+i≤j+l.length/\l.length≤c.length:=by
 intro f
 induction f with
 | zero=>intro l i c j h;rw[sets] at h;injection h with h;injection h with k h2;subst k h2;exact ⟨by omega,aO4 _⟩
 | succ f ih=>
  intro l i c j h
  rw[sets] at h
  split at h
  ·exact absurd h (by simp)
  ·split at h
   ·split at h
    ·exact absurd h (by simp)
    ·rename_i e m he
     have k:=qV he
     split at h
     ·have:=ih _ _ _ _ h
      simp at this;omega
     ·injection h with h;injection h with h2 h3;subst h2 h3;simp;omega
   ·exact absurd h (by simp)
theorem Ol {L:List Lx.fQ}{kind i j:Nat}{y:Wy}(h:Hid (uG L kind i=.ok (y,j))):i<j:=by
 have c:∀k m,m≤kH L k m:=fun k m=>by unfold kH;split<;>omega
 have h:=h.out
 rw[uG] at h
 split at h
 ·exact absurd h (by simp)
 ·rename_i n e j1 hc
  have D:kH L gB i≤j1:=by
   rw[Px.cond] at hc
   split at hc
   ·split at hc
    ·split at hc
     ·exact absurd hc (by simp)
     ·split at hc
      ·exact absurd hc (by simp)
      ·rename_i he;have:=qV he;injection hc with hc;injection hc with _ hc;injection hc with _ hc;omega
    ·split at hc
     ·exact absurd hc (by simp)
     ·rename_i he;have:=qV he;injection hc with hc;injection hc with _ hc;injection hc with _ hc;omega
   ·injection hc with hc;injection hc with _ hc;injection hc with _ hc;omega
  split at h
  ·exact absurd h (by simp)
  ·rename_i l m hd
   have r:j1≤m:=by
    rw[fR] at hd
    split at hd
    ·have:=lI _ _ _ _ _ hd;simp at this;omega
    ·injection hd with hd;injection hd with _ hd;omega
   have I:=c gB i
   have u:=c iS (m+2)
   split at h
   ·split at h
    ·exact absurd h (by simp)
    ·split at h
     ·injection h with h;injection h with _ h;omega
     ·exact absurd h (by simp)
   ·exact absurd h (by simp)
theorem Tryz.info273:(Tryz.prog.info? 273).map (fun i=>(i.zero,i.size,i.bytes))=some (some (.agg #[.int .i64 0,.bool false,.pointer none,.int .i64 0,.slice none 0 0,.string ⟨#[]⟩,.bool false]),7,80):=by kernel_rfl
theorem cJ.shape {A:Nat->Prop}{w:World}{l:List iY}{v:Value}(h:cJ A w l v):∃ao n cap,v=.slice ao n cap:=by
 obtain ⟨j,c,_⟩:=h
 obtain ⟨ao,cap,rfl⟩:=aP c.1
 exact ⟨ao,_,cap,rfl⟩
theorem Fr.x {rb sb B n:Nat}{w w':World}(h:Fr n [rb] w w') (hB:B≤n):Fr B [rb,sb] w w':=h.mono hB Wv
theorem Tryz.info174:(Tryz.prog.info? 174).map (fun i=>(i.zero,i.size,i.bytes))=some (some (.slice none 0 0),1,24):=by kernel_rfl
theorem pM {A:Nat->Prop}{w:World}:∀(l:List iY) (xs:List Value),Rows (mT A w) l xs->∀u∈xs,u.oneCell'=true:=by
 intro l
 induction l with
 | nil=>intro xs h u j;obtain rfl:xs=[]:=h;simp at j
 | cons a r ih=>
  intro xs h u j
  obtain ⟨c,y,rfl,⟨p,rfl,k⟩,n⟩:=h
  simp only[List.cons_append,List.nil_append,aW5] at j
  rcases j with rfl|rfl|j
  ·rfl
  ·exact k.oneCell
  ·exact ih _ n u j
theorem yD {L:List Lx.fQ}(l:0<L.length) {i j:Nat}{c:List iY}(h:sets L L.length [] i=.ok (c,j)):0<c.length:=by
 obtain ⟨f,k⟩:∃f,L.length=f+1:=⟨L.length-1,by omega⟩
 rw[k,sets] at h
 split at h
 ·exact absurd h (by simp)
 ·split at h
  ·split at h
   ·exact absurd h (by simp)
   ·split at h
    ·have:=(lI _ _ _ _ _ h).2;simp at this;omega
    ·injection h with h;injection h with h1 h2;subst h1;simp
  ·exact absurd h (by simp)
theorem mI.some {B:Nat}{w:World}{l:List iY}{v:Value}{xs:List Value}(h:mI B w l v xs) (k:0<l.length):∃g cap,v=.slice (some ⟨g,0,none⟩) l.length cap:=by
 rcases h.own.2 with ⟨_,j⟩|⟨g,cap,c,rfl,_⟩
 ·omega
 ·exact ⟨g,cap,rfl⟩
theorem qL {L:List Lx.fQ}{i:Nat}{a:Unit}(h:Hid (wZ L fE i=.ok a)):pD L i=.ok (i+1):=if_pos (bJ h)
theorem sY {L:List Lx.fQ}{i:Nat}{f:F}(h:Hid (wZ L fE i=.error f)):pD L i=.error f:=by rw[(aV h).2];exact if_neg (aV h).1
theorem Qj {C:dV}{k B sb ins i c:Nat}{w:World}{s:cF (St k)}{ah:Nat->Nat->Except F (List (St k)×Nat×Nat)}(h:PS C w i c ins 0) (hE:Db C B sb w) (hS:X9 k B sb w s) (hb:Bd i s) (kd:Nat) (hl:cZ (tx C.L i)=some kd):Calls Tryz.prog 196 #[.pointer (some ⟨C.rb,0,none⟩),.pointer (some ⟨sb,0,none⟩)] w (lS B [C.rb,sb] (mU C k B sb ins i c s) w (Px.eF C.L (St k) ah s c i)):=by
 obtain ⟨i0,hi,be,bh,ba⟩:=aZ1 Tryz.info273
 obtain ⟨e,d,l,p,y,r,xe,xd,xl,xy,xr,hS⟩:=hS
 have bq:=h.wf.len
 have bz:=h.lt
 have ca:=hb.e
 have br:=hb.d
 have bo:=hb.l
 have bw:=hb.y
 have bv:=hb.r
 obtain ⟨av,ar,an,ae⟩:=hE
 have J:sb∉[C.rb]:=by simp;omega
 have hX:∀x∈[C.rb],x<B:=by simp;omega
 obtain ⟨tb,al⟩:∃tb:ByteArray,Hid (bs tb=tx C.L i):=⟨⟨(tx C.L i).toArray⟩,rfl⟩
 have ay:w.ownsRow B 273 7 y s.ways.length xy:=hS.good.own (iL s.ways y xy) (by simp[aZ])
 obtain ⟨ao,cap,rfl⟩:=aP ay
 have bj:=h.wf.next h.lt (by intro e;rw[e,show cZ []=none from by decide] at hl;exact absurd hl (by simp))
 have HL:Hid (cZ (bs tb)=some kd):=by rw[Hid,al.out];exact hl
 have HE:∀f,Hid (uG C.L kd (i+1)=.error f)->Hid (Px.eF C.L (St k) ah s c i=.error f):=fun f hr=>by rw[Hid,Px.eF,hl];simp only;rw[hr.out]
 have HO:∀y j,Hid (uG C.L kd (i+1)=.ok (y,j))->Hid (Px.eF C.L (St k) ah s c i=.ok (some ({ s with ways:=s.ways++[y] },c,j))):=fun y j hr=>by rw[Hid,Px.eF,hl];simp only;rw[hr.out]
 clear hl
 go_enter Tryz.func196,Tryz.ntmps196
 go_wp2_with (first
  | (go_at_call 106;refine (eI h tb al).mono ?_;rintro e w1 ⟨rfl,Y,au⟩)
  | (go_at_call 223;refine (jL Y tb _ HL).mono ?_;rintro e w2 ⟨rfl,ax⟩;obtain rfl:=ax.symm;rw[rL];obtain ⟨-,c1,-⟩:=Y.cells;have z1:=Y.frozen 1))
 obtain ⟨aj,ag⟩:=Y.step bj
 have Q:=(hS.carry (X:=[]) (by simp) (by simp) au).carry hX J ag
 have ab:=(au.wide (X:=[C.rb])).up ag
 clear c1 z1
 generalize (w1.setCell ⟨C.rb,1,none⟩ (.int .i64 ((i:Int)+1)))=w2 at aj ag Q ab ⊢
 have aa:=aO6 ae ab.size
 have hdr:Fr w2.heap.size [] w2 w2.drew:=(Fr.refl _ _ _).drew
 have az:=aj.same hdr
 obtain ⟨y2,-⟩:=lU Q.at_ 7 (Value.slice ao s.ways.length cap) rfl
 go_region_law
  (first
   | (refine step_append_lies _ (by rfl) _ _ _ (by rfl) B 273 i0 _ 7 80 Tryz.underlying221 hi be bh ba rfl (by omega) (Value.slice ao s.ways.length cap) s.ways.length xy (by rfl) (I.good.own (iL s.ways _ xy) (by simp[aZ]))
         ⟨w4.heap.size,0,none⟩ 1 1 (sM a4 (.pointer u4) (.slice O n4 D)).toList (by rfl) (by rfl) (World.news_of_block (cs:=sM a4 (.pointer u4) (.slice O n4 D)) (t:=273) (fr:=(0,0)) (heap_alloc_new w4 _)) (by intro u hu;simp[sM] at hu;rcases hu with rfl|rfl|rfl|rfl|rfl|rfl|rfl<;>rfl)
         (by omega) (by unfold maxLen;omega) (by omega) (by simp;omega) (w4.heap.size+1) (by simp) ?_
      intro gg bm w5 ac n bg bk
      have bc:=SU.grow_ways (a:=a4) I ar aa Q.lts am (by rw[aO9];exact ac) n (by rcases bg with e1|e1;exact .inl e1.symm;exact .inr (by rw[e1];simp[Value.ownBlock]))
      have aw:Fr B [C.rb,sb] w w5:=((((ab.x ae).trans ((hdr.wide.up af).x aa)).alloc ap _).grown n (by simp;omega) (fun g hg=>.inl ((I.good.own (iL s.ways _ xy) (by simp[aZ])).lt g hg).1))
      have bf:PS C w5 j4 c ins 0:=bb.low av (((Fr.refl B [] w4).alloc ap _).grown n (by simp;omega) (fun g hg=>.inl ((I.good.own (iL s.ways _ xy) (by simp[aZ])).lt g hg).1))
      have bi:w5.heap[sb]?=some (.cells (rA s.name s.first s.last e d l p (Value.slice ao s.ways.length cap) r) 223 (0,0)):=by
       rw[n.block sb (by simp;omega) (fun e1=>by have:=((I.good.own (iL s.ways (Value.slice ao s.ways.length cap) xy) (by simp[aZ])).lt sb e1.symm).1;omega)];exact I.at_
      obtain ⟨y5,cb⟩:=lU bi 7 (Value.slice ao s.ways.length cap) rfl)
   | (go_simp
      go_at_call 224
      refine (Vs az kd).mono ?_
      rintro e1 w4 h4
      rcases h4.cases with ⟨f,Z,q,rfl,hq⟩|⟨⟨a4,j4⟩,v4,Z,rfl,⟨⟨p4,q4,rfl,ai,ak⟩,bb⟩,af⟩
      ·exact ⟨rfl,by rw[(HE _ Z).out];exact aR.x ⟨q,rfl,hq⟩ ((ab.x ae).drew) aa (by simp)⟩
      obtain ⟨u4,rfl⟩:=ai.ptr
      obtain ⟨O,n4,D,rfl⟩:=ak.shape
      have bu:=Ol Z
      have ad:=Q.carry hX J (hdr.wide.up af)
      obtain ⟨y4,bn⟩:=lU ad.at_ 7 (Value.slice ao s.ways.length cap) rfl
      have bp:=aB ad.at_
      have ap:B≤w4.heap.size:=aO6 aa (hdr.wide.up af).size
      have U:Fr w4.heap.size [] w4 (w4.alloc (.cells (sM a4 (.pointer u4) (.slice O n4 D)) 273)):=(Fr.refl _ _ _).alloc (aO4 _) _
      have I:=ad.carry (X:=[]) (by simp) (by simp) U
      have am:B7 (Ge w2.heap.size) (w4.alloc (.cells (sM a4 (.pointer u4) (.slice O n4 D)) 273)) a4 (sM a4 (.pointer u4) (.slice O n4 D)).toList:=⟨_,_,rfl,ai.carry (bA (X:=[]) (by simp) U),ak.carry (bA (X:=[]) (by simp) U)⟩
      simp only[sM,sv] at I am U ⊢))
 all_goals
  go_wp2_with fail
  go_ret
  rw[(HO _ _ Z).out]
  exact ⟨_,rfl,⟨rfl,by omega,⟨by (show s.enter.length≤j4);omega,by (show s.during.length≤j4);omega,by (show s.leave.length≤j4);omega,by simp;omega,by (show s.regions.length≤j4);omega⟩,bf.put an _ _,⟨_,_,_,_,_,_,_,_,_,_,_,bc⟩⟩,aw.setCell (.inr (by simp)) _⟩
end
end Go.Proofs.YthieaobjdpfcoaaGreatDoor
