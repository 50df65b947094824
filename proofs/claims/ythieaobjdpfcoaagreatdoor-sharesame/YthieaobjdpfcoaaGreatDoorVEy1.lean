import Derived.Test.YthieaobjdpfcoaaGreatDoorVEx
namespace Go.Proofs.YthieaobjdpfcoaaGreatDoor
open Go.Proofs.Tryz (prog)
section
open Go.RowKit Px
namespace Ew
open Px.Em (Kd Vr eQ eR jP Rg cX)
open Nx (Nt Sp)
def jG {σ:Type}(f:List σ->Nat) (s:cF σ):Nat:=s.ways.length+(s.regions.map f).sum
def iG:(d:Nat)->List (St d)->Nat
 | 0=>fun _=>1
 | d+1=>fun l=>1+(List.map (jG (iG d)) (show List (cF (St d)) from l)).sum
def rN:(d:Nat)->List (St d)->Prop
 | 0=>fun _=>True
 | d+1=>fun l=>∀s∈(show List (cF (St d)) from l),s.during.length≤1000000/\s.leave.length≤1000000/\(∀y∈s.ways,y.times≤1000000)/\∀r∈s.regions,rN d r
def Nw {d:Nat}(A:Nat->Prop) (w:World) (r:Rg d) (cs:List Value):Prop:=∃g,cs=[.pointer (some ⟨g,0,none⟩)]/\fH A d w r g
def Iy (A:Nat->Prop) (w:World) (y:eQ) (cs:List Value):Prop:=∃gy oy p q,cs=[.pointer (some ⟨gy,oy,none⟩),.int .i64 y.to,.int .i64 y.left]/\A gy/\jE A w gy oy y.drawn p q
section
variable {A A':Nat->Prop}{w w':World}{d:Nat}
theorem Nw.carry (k:bB A A' w w') (r:Rg d) (cs:List Value) (h:Nw A w r cs):Nw A' w' r cs:=by
 obtain ⟨g,j,c⟩:=h;exact ⟨g,j,fH.carry d k r g c⟩
theorem Iy.carry (k:bB A A' w w') (y:eQ) (cs:List Value) (h:Iy A w y cs):Iy A' w' y cs:=by
 obtain ⟨c,r,p,q,n,l,j⟩:=h;exact ⟨c,r,p,q,n,(k c l (aY5 w _ j.1)).1,jE.carry k l j⟩
end
structure LS (A:Nat->Prop) (ns:List bE) (P:Nat->Prop) (kb:Nat) (w:World) (k:Kd) (gd od q7 d E:Nat) (Pj Rj:Nat->Prop) (wr:World) (kj:Kd) (ins:List (Rg d)) (ys:List eQ) (id lv:Bool) (ai:Option Addr) (ci:Nat) (aw:Option Addr) (cw:Nat):Prop where
 cm:eK E ns Pj wr kb kj
 up:∀x,Pj x->Up P w wr x
 dr:∀x,Pj x->¬Rj x
 rn:∀x,Rj x->w.heap.size≤x/\x<wr.heap.size
 fr:bM P w wr
 pl:k.net.places≤kj.net.places
 hq:wr.heap[q7]?=some (.cells #[.pointer (some ⟨gd,od,none⟩),.slice aw ys.length cw,.slice ai ins.length ci,.bool id,.bool lv] 236 (0,0))
 ql:w.heap.size≤q7/\¬Pj q7/\¬Rj q7
 ri:∃xs,wr.ownsRow 0 184 1 (.slice ai ins.length ci) ins.length xs/\Rows (Nw (fun x=>A x\/Rj x) wr) ins xs
 oi:∀x,(Value.slice ai ins.length ci).ownBlock=some x->w.heap.size≤x/\¬Pj x/\¬Rj x/\x≠q7
 rwy:∃xs,wr.ownsRow 0 275 3 (.slice aw ys.length cw) ys.length xs/\Rows (Iy A wr) ys xs
 ow:∀x,(Value.slice aw ys.length cw).ownBlock=some x->w.heap.size≤x/\¬Pj x/\¬Rj x/\x≠q7/\(Value.slice ai ins.length ci).ownBlock≠some x
section
variable {A P Pj Rj:Nat->Prop}{w wr w':World}{ns:List bE}{kb gd od q7 d E:Nat}{k kj:Kd}{ins:List (Rg d)}{ys:List eQ}{id lv:Bool}{ai aw:Option Addr}{ci cw:Nat}
theorem eL {e size n:Nat}{v:Value}{xs:List Value}(h:wr.ownsRow 0 e size v n xs) (hk:∀x,v.ownBlock=some x->w'.heap[x]?=wr.heap[x]?):w'.ownsRow 0 e size v n xs:=
 eY (A:=fun x=>v.ownBlock=some x) (A':=fun _=>True) h (fun _ h=>h) fun x hx _=>⟨trivial,hk x hx⟩
theorem LS.below (h:LS A ns P kb w k gd od q7 d E Pj Rj wr kj ins ys id lv ai ci aw cw) (hb:Below wr.heap.size wr w'):LS A ns P kb w k gd od q7 d E Pj Rj w' kj ins ys id lv ai ci aw cw:=by
 obtain ⟨u,c,l⟩:=h.ri
 obtain ⟨s,j,r⟩:=h.rwy
 refine ⟨h.cm.below hb,fun x hx=>Up.size hb.size x (h.up x hx),h.dr,fun x hx=>⟨(h.rn x hx).1,aO5 (h.rn x hx).2 hb.size⟩,h.fr.trans (bM.of_below (P:=fun _=>False) hb) fun _ _ h=>h.elim,h.pl,aD hb h.hq,h.ql,⟨u,eL c fun x hx=>hb.block x (c.lt x hx).2,l.map (Nw.carry fun x hx n=>⟨hx,hb.block x n⟩)⟩,h.oi,⟨s,eL j fun x hx=>hb.block x (j.lt x hx).2,r.map (Iy.carry fun x hx n=>⟨hx,hb.block x n⟩)⟩,h.ow⟩
theorem LS.coder {E':Nat}{u R':Nat->Prop}{Z:Kd}(hR:Ro A P w) (h:LS A ns P kb w k gd od q7 d E Pj Rj wr kj ins ys id lv ai ci aw cw) (hc:eK E' ns u w' kb Z) (Q:∀x,u x->Up Pj wr w' x) (hd:∀x,u x->¬R' x) (J:∀x,R' x->wr.heap.size≤x/\x<w'.heap.size) (n:bM Pj wr w') (j:kj.net.places≤Z.net.places) :
    LS A ns P kb w k gd od q7 d E' u (fun x=>Rj x\/R' x) w' Z ins ys id lv ai ci aw cw:=by
 obtain ⟨xi,r,I⟩:=h.ri
 obtain ⟨xw,s,X⟩:=h.rwy
 have s0:=h.fr.size
 have s1:=n.size
 have e:=aB h.hq
 have Y:∀x,x<wr.heap.size->¬Pj x->¬u x:=fun x hx U j=>(Q x j).elim U fun h=>absurd h.1 (by omega)
 have y:∀x,x<wr.heap.size->¬Rj x->¬(Rj x\/R' x):=fun x hx U h=>h.elim U fun h=>absurd (J x h).1 (by omega)
 have nA:∀x,A x->¬Pj x:=fun x hx j=>(h.up x j).elim (hR x hx).2 fun h=>absurd h.1 (by have:=(hR x hx).1;omega)
 have O:=n.keep nA
 have D:bB (fun x=>A x\/Rj x) (fun x=>A x\/Rj x\/R' x) wr w':=fun x hx hl=>⟨hx.elim .inl fun h=>.inr (.inl h),n.block x hl (hx.elim (nA x) fun c j=>h.dr x j c)⟩
 refine ⟨hc,fun x hx=>?_,fun x hx c=>?_,fun x hx=>?_,h.fr.trans n fun x hx hq=>(h.up x hq).elim (fun h=>h) fun h=>absurd h.1 (by omega),aY2 h.pl j,n.heap h.hq h.ql.2.1,⟨h.ql.1,Y q7 e h.ql.2.1,y q7 e h.ql.2.2⟩,⟨xi,eL r fun x hx=>n.block x (r.lt x hx).2 (h.oi x hx).2.1,I.map (Nw.carry D)⟩,fun x hx=>?_,⟨xw,eL s fun x hx=>n.block x (s.lt x hx).2 (h.ow x hx).2.1,X.map (Iy.carry O)⟩,fun x hx=>?_⟩
 ·rcases Q x hx with c|c
  ·exact Up.size s1 x (h.up x c)
  ·exact .inr ⟨by omega,c.2⟩
 ·rcases c with c|c
  ·rcases Q x hx with j|j
   ·exact h.dr x j c
   ·have:=(h.rn x c).2;omega
  ·exact hd x hx c
 ·rcases hx with hx|hx
  ·exact ⟨(h.rn x hx).1,by have:=(h.rn x hx).2;omega⟩
  ·exact ⟨by have:=(J x hx).1;omega,(J x hx).2⟩
 ·have q:=h.oi x hx
  have l:=(r.lt x hx).2
  exact ⟨q.1,Y x l q.2.1,y x l q.2.2.1,q.2.2.2⟩
 ·have q:=h.ow x hx
  have l:=(s.lt x hx).2
  exact ⟨q.1,Y x l q.2.1,y x l q.2.2.1,q.2.2.2⟩
theorem LS.flag (h:LS A ns P kb w k gd od q7 d E Pj Rj wr kj ins ys id lv ai ci aw cw) (hA:∀x,A x->x<w.heap.size) {j:Nat}{v:Value}{r c:Bool}(Q:[Value.pointer (some ⟨gd,od,none⟩),.slice aw ys.length cw,.slice ai ins.length ci,.bool id,.bool lv].set j v=[.pointer (some ⟨gd,od,none⟩),.slice aw ys.length cw,.slice ai ins.length ci,.bool r,.bool c]) :
    LS A ns P kb w k gd od q7 d E Pj Rj (wr.setCell ⟨q7,j,none⟩ v) kj ins ys r c ai ci aw cw:=by
 obtain ⟨X,D,u⟩:=h.ri
 obtain ⟨Y,I,y⟩:=h.rwy
 have s0:=h.fr.size
 have J:(wr.setCell ⟨q7,j,none⟩ v).heap.size=wr.heap.size:=by simp[World.setCell]
 have s:∀x,x≠q7->(wr.setCell ⟨q7,j,none⟩ v).heap[x]?=wr.heap[x]?:=fun x hx=>Below.heap_setCell _ _ _ _ hx
 have n:∀x,A x->x≠q7:=fun x hx e=>by have:=hA x hx;have:=h.ql.1;omega
 have O:=cH (l:=[Value.pointer (some ⟨gd,od,none⟩),.slice aw ys.length cw,.slice ai ins.length ci,.bool id,.bool lv]) h.hq j v
 rw[Q] at O
 refine ⟨⟨h.cm.1.imp fun _ Z=>Z.carry fun x hx _=>⟨hx,s x fun e=>h.ql.2.1 (e▸hx)⟩,h.cm.2.1,fun x hx=>by rw[J];exact h.cm.2.2 x hx⟩,fun x hx=>Up.size (by rw[J];exact aO4 _) x (h.up x hx),h.dr,fun x hx=>by rw[J];exact h.rn x hx,h.fr.setCell (.inr h.ql.1) _,h.pl,O,h.ql,⟨X,eL D fun x hx=>s x (h.oi x hx).2.2.2,u.map (Nw.carry fun x hx _=>⟨hx,s x (hx.elim (n x) fun U e=>h.ql.2.2 (e▸U))⟩)⟩,h.oi,⟨Y,eL I fun x hx=>s x (h.ow x hx).2.2.2.1,y.map (Iy.carry fun x hx _=>⟨hx,s x (n x hx)⟩)⟩,h.ow⟩
theorem LS.appI (h:LS A ns P kb w k gd od q7 d E Pj Rj wr kj ins ys id lv ai ci aw cw) (hA:∀x,A x->x<w.heap.size) {ob:Obj}{w5:World}{a5:Option Addr}{c5 g:Nat}{r:Rg d}{xi:List Value}(D:Rows (Nw (fun x=>A x\/Rj x) wr) ins xi) (U:fH (fun x=>A x\/Rj x) d wr r g)
    (n:w5.ownsRow 0 184 1 (.slice a5 (ins.length+1) c5) (ins.length+1) (xi++[.pointer (some ⟨g,0,none⟩)])) (O:(wr.alloc ob).grownBy w5 (Value.slice ai ins.length ci).ownBlock) (s:(Value.slice a5 (ins.length+1) c5).ownBlock=(Value.slice ai ins.length ci).ownBlock\/(Value.slice a5 (ins.length+1) c5).ownBlock=some (wr.alloc ob).heap.size) :
    LS A ns P kb w k gd od q7 d E Pj Rj (w5.setCell ⟨q7,2,none⟩ (.slice a5 (ins.length+1) c5)) kj (ins++[r]) ys id lv a5 c5 aw cw:=by
 obtain ⟨xw,j,Q⟩:=h.rwy
 have s0:=h.fr.size
 have s3:(wr.alloc ob).heap.size=wr.heap.size+1:=by simp
 have s4:=O.size
 have lq:=aB h.hq
 have I:(ins++[r]).length=ins.length+1:=by simp
 have X:(w5.setCell ⟨q7,2,none⟩ (.slice a5 (ins.length+1) c5)).heap.size=w5.heap.size:=by simp[World.setCell]
 have k5:∀x,x<wr.heap.size->(Value.slice ai ins.length ci).ownBlock≠some x->w5.heap[x]?=wr.heap[x]?:=fun x hx Y=>by rw[O.block x (by omega) (fun e=>Y e.symm),Below.heap_alloc _ _ _ hx]
 have u:∀x,x<wr.heap.size->x≠q7->(Value.slice ai ins.length ci).ownBlock≠some x->(w5.setCell ⟨q7,2,none⟩ (.slice a5 (ins.length+1) c5)).heap[x]?=wr.heap[x]?:=fun x hx hq Y=>by rw[Below.heap_setCell _ _ _ _ hq,k5 x hx Y]
 have J:∀x,A x->x≠q7/\(Value.slice ai ins.length ci).ownBlock≠some x:=fun x hx=>⟨fun e=>by have:=hA x hx;have:=h.ql.1;omega,fun e=>by have:=hA x hx;have:=(h.oi x e).1;omega⟩
 have Z:∀x,Rj x->x≠q7/\(Value.slice ai ins.length ci).ownBlock≠some x:=fun x hx=>⟨fun e=>h.ql.2.2 (e▸hx),fun e=>(h.oi x e).2.2.1 hx⟩
 have nP:∀x,Pj x->x≠q7/\(Value.slice ai ins.length ci).ownBlock≠some x:=fun x hx=>⟨fun e=>h.ql.2.1 (e▸hx),fun e=>(h.oi x e).2.1 hx⟩
 have kR:bB (fun x=>A x\/Rj x) (fun x=>A x\/Rj x) wr (w5.setCell ⟨q7,2,none⟩ (.slice a5 (ins.length+1) c5)):=fun x hx c=>⟨hx,hx.elim (fun h=>u x c (J x h).1 (J x h).2) fun h=>u x c (Z x h).1 (Z x h).2⟩
 have kA:bB A A wr (w5.setCell ⟨q7,2,none⟩ (.slice a5 (ins.length+1) c5)):=fun x hx c=>⟨hx,u x c (J x hx).1 (J x hx).2⟩
 have o5:∀x,(Value.slice a5 (ins.length+1) c5).ownBlock=some x->w.heap.size≤x/\¬Pj x/\¬Rj x/\x≠q7:=fun x hx=>by
  rcases s with e|e
  ·exact h.oi x (e.symm.trans hx)
  ·rw[hx] at e;injection e with e
   exact ⟨by omega,fun hp=>by have:=h.cm.2.2 x hp;omega,fun hr=>by have:=(h.rn x hr).2;omega,by omega⟩
 have hs:=cH (l:=[Value.pointer (some ⟨gd,od,none⟩),.slice aw ys.length cw,.slice ai ins.length ci,.bool id,.bool lv]) (w:=w5) (g:=q7) (T:=236) (f:=(0,0)) (by rw[k5 q7 lq fun e=>(h.oi q7 e).2.2.2 rfl];exact h.hq) 2 (.slice a5 (ins.length+1) c5)
 refine ⟨⟨h.cm.1.imp fun _ hc=>hc.carry fun x hx c=>⟨hx,u x c (nP x hx).1 (nP x hx).2⟩,h.cm.2.1,fun x hx=>by rw[X];have:=h.cm.2.2 x hx;omega⟩,fun x hx=>Up.size (by rw[X];omega) x (h.up x hx),h.dr,fun x hx=>by rw[X];have:=h.rn x hx;omega,((h.fr.alloc ob).grown O fun x hx=>.inr (h.oi x hx).1).setCell (.inr h.ql.1) _,h.pl,by rw[I];exact hs,h.ql,⟨_,by rw[I];exact eL n fun x hx=>Below.heap_setCell _ _ _ _ (o5 x hx).2.2.2,(D.map (Nw.carry kR)).append (Rows.one ⟨g,rfl,fH.carry d kR r g U⟩)⟩,by rw[I];exact o5,⟨xw,eL j fun x hx=>u x (j.lt x hx).2 (h.ow x hx).2.2.2.1 (h.ow x hx).2.2.2.2,Q.map (Iy.carry kA)⟩,fun x hx=>?_⟩
 have q:=h.ow x hx
 refine ⟨q.1,q.2.1,q.2.2.1,q.2.2.2.1,fun e=>?_⟩
 rw[I] at e
 rcases s with y|y
 ·exact q.2.2.2.2 (y.symm.trans e)
 ·rw[e] at y;injection y with y;have:=(j.lt x hx).2;omega
theorem LS.appW (h:LS A ns P kb w k gd od q7 d E Pj Rj wr kj ins ys id lv ai ci aw cw) (hA:∀x,A x->x<w.heap.size) {ob:Obj}{w5:World}{a5:Option Addr}{c5 gy oy:Nat}{pc:Option Addr}{qs:Value}{y:eQ}{xw:List Value}(u:Rows (Iy A wr) ys xw) (r:A gy) (Y:jE A wr gy oy y.drawn pc qs)
    (n:w5.ownsRow 0 275 3 (.slice a5 (ys.length+1) c5) (ys.length+1) (xw++[.pointer (some ⟨gy,oy,none⟩),.int .i64 y.to,.int .i64 y.left])) (J:(wr.alloc ob).grownBy w5 (Value.slice aw ys.length cw).ownBlock) (O:(Value.slice a5 (ys.length+1) c5).ownBlock=(Value.slice aw ys.length cw).ownBlock\/(Value.slice a5 (ys.length+1) c5).ownBlock=some (wr.alloc ob).heap.size) :
    LS A ns P kb w k gd od q7 d E Pj Rj (w5.setCell ⟨q7,1,none⟩ (.slice a5 (ys.length+1) c5)) kj ins (ys++[y]) id lv ai ci a5 c5:=by
 obtain ⟨xi,j,I⟩:=h.ri
 have s0:=h.fr.size
 have s3:(wr.alloc ob).heap.size=wr.heap.size+1:=by simp
 have s4:=J.size
 have lq:=aB h.hq
 have U:(ys++[y]).length=ys.length+1:=by simp
 have Q:(w5.setCell ⟨q7,1,none⟩ (.slice a5 (ys.length+1) c5)).heap.size=w5.heap.size:=by simp[World.setCell]
 have k5:∀x,x<wr.heap.size->(Value.slice aw ys.length cw).ownBlock≠some x->w5.heap[x]?=wr.heap[x]?:=fun x hx X=>by rw[J.block x (by omega) (fun e=>X e.symm),Below.heap_alloc _ _ _ hx]
 have s:∀x,x<wr.heap.size->x≠q7->(Value.slice aw ys.length cw).ownBlock≠some x->(w5.setCell ⟨q7,1,none⟩ (.slice a5 (ys.length+1) c5)).heap[x]?=wr.heap[x]?:=fun x hx hq X=>by rw[Below.heap_setCell _ _ _ _ hq,k5 x hx X]
 have D:∀x,A x->x≠q7/\(Value.slice aw ys.length cw).ownBlock≠some x:=fun x hx=>⟨fun e=>by have:=hA x hx;have:=h.ql.1;omega,fun e=>by have:=hA x hx;have:=(h.ow x e).1;omega⟩
 have Z:∀x,Rj x->x≠q7/\(Value.slice aw ys.length cw).ownBlock≠some x:=fun x hx=>⟨fun e=>h.ql.2.2 (e▸hx),fun e=>(h.ow x e).2.2.1 hx⟩
 have nP:∀x,Pj x->x≠q7/\(Value.slice aw ys.length cw).ownBlock≠some x:=fun x hx=>⟨fun e=>h.ql.2.1 (e▸hx),fun e=>(h.ow x e).2.1 hx⟩
 have kR:bB (fun x=>A x\/Rj x) (fun x=>A x\/Rj x) wr (w5.setCell ⟨q7,1,none⟩ (.slice a5 (ys.length+1) c5)):=fun x hx c=>⟨hx,hx.elim (fun h=>s x c (D x h).1 (D x h).2) fun h=>s x c (Z x h).1 (Z x h).2⟩
 have kA:bB A A wr (w5.setCell ⟨q7,1,none⟩ (.slice a5 (ys.length+1) c5)):=fun x hx c=>⟨hx,s x c (D x hx).1 (D x hx).2⟩
 have o5:∀x,(Value.slice a5 (ys.length+1) c5).ownBlock=some x->w.heap.size≤x/\¬Pj x/\¬Rj x/\x≠q7/\(Value.slice ai ins.length ci).ownBlock≠some x:=fun x hx=>by
  rcases O with e|e
  ·exact h.ow x (e.symm.trans hx)
  ·rw[hx] at e;injection e with e
   exact ⟨by omega,fun hp=>by have:=h.cm.2.2 x hp;omega,fun hr=>by have:=(h.rn x hr).2;omega,by omega,fun hi=>by have:=(j.lt x hi).2;omega⟩
 have hs:=cH (l:=[Value.pointer (some ⟨gd,od,none⟩),.slice aw ys.length cw,.slice ai ins.length ci,.bool id,.bool lv]) (w:=w5) (g:=q7) (T:=236) (f:=(0,0)) (by rw[k5 q7 lq fun e=>(h.ow q7 e).2.2.2.1 rfl];exact h.hq) 1 (.slice a5 (ys.length+1) c5)
 exact ⟨⟨h.cm.1.imp fun _ hc=>hc.carry fun x hx c=>⟨hx,s x c (nP x hx).1 (nP x hx).2⟩,h.cm.2.1,fun x hx=>by rw[Q];have:=h.cm.2.2 x hx;omega⟩,fun x hx=>Up.size (by rw[Q];omega) x (h.up x hx),h.dr,fun x hx=>by rw[Q];have:=h.rn x hx;omega,((h.fr.alloc ob).grown J fun x hx=>.inr (h.ow x hx).1).setCell (.inr h.ql.1) _,h.pl,by rw[U];exact hs,h.ql,⟨xi,eL j fun x hx=>s x (j.lt x hx).2 (h.oi x hx).2.2.2 (fun e=>(h.ow x e).2.2.2.2 hx),I.map (Nw.carry kR)⟩,h.oi,⟨_,by rw[U];exact eL n fun x hx=>Below.heap_setCell _ _ _ _ (o5 x hx).2.2.2.1,(u.map (Iy.carry kA)).append (Rows.one ⟨gy,oy,pc,qs,rfl,r,jE.carry kA r Y⟩)⟩,by rw[U];exact o5⟩
end
structure Laid (A:Nat->Prop) (ns:List bE) (P:Nat->Prop) (kb:Nat) (w:World) (k:Kd) (d E:Nat) (r:Rg d) (g:Nat) (P' R:Nat->Prop) (w':World) (k':Kd):Prop where
 cm:eK E ns P' w' kb k'
 up:∀x,P' x->Up P w w' x
 dr:∀x,P' x->¬R x
 rn:∀x,R x->w.heap.size≤x/\x<w'.heap.size
 fr:bM P w w'
 pl:k.net.places≤k'.net.places
 rg:fH (fun x=>A x\/R x) d w' r g
 ok:eS ns d r
 th:0≤(Em.aJ d).there r/\(Em.aJ d).there r<k'.net.places
def zT (A:Nat->Prop) (kb:Nat) (ns:List bE) (d:Nat):Prop:=∀{E:Nat}{P:Nat->Prop}{w:World}{k:Kd}{v:Value}{l:List (St d)},aM A w d l v->vW d l->rO ns d l->rN d l->eK E ns P w kb k->Ro A P w->E+iG d l<1000000->
 Calls prog 116 #[.pointer (some ⟨kb,0,none⟩),v] w fun e w'=>∃g,e=.returned (.pointer (some ⟨g,0,none⟩))/\Hid (∃(r:Rg d) (k':Kd) (P' R:Nat->Prop),(Em.aJ d).lay l k=some (r,k')/\Laid A ns P kb w k d (E+iG d l) r g P' R w' k')
def Vo {d:Nat}(A:Nat->Prop) (w:World) (s:eR (St d) (Rg d)) (gd od:Nat) (vw vi:Value):Prop:=
 A gd/\w.cell? ⟨gd,od+2,none⟩=some (.bool s.drawn.last)/\(∃v,w.cell? ⟨gd,od+3,none⟩=some v/\cJ A w s.drawn.enter v)/\(∃v,w.cell? ⟨gd,od+4,none⟩=some v/\cJ A w s.drawn.during v)/\(∃v,w.cell? ⟨gd,od+5,none⟩=some v/\cJ A w s.drawn.leave v)/\(∃p,w.cell? ⟨gd,od+6,none⟩=some (.pointer p)/\jR A w s.drawn.rests (.pointer p))/\
 (∃ad g cap,vw=.slice ad s.ways.length cap/\s.ways.length≤maxLen/\(0<s.ways.length->ad=some ⟨g,0,none⟩/\A g)/\∀j y,s.ways[j]?=some y->B6 A w g (j*3) y)/\Yr A w (fH A d w) vi s.inside
section
variable {A P Pj Rj:Nat->Prop}{w wr w':World}{ns:List bE}{kb gd od q7 d E:Nat}{k kj:Kd}{ins:List (Rg d)}{ys:List eQ}{id lv:Bool}{ai aw:Option Addr}{ci cw:Nat}
theorem eK.moreE {E':Nat}(h:eK E ns P w kb k) (hE:E≤E') (h':E'≤1000000):eK E' ns P w kb k:=
 ⟨h.1,⟨h.2.1.len,by have:=h.2.1.pot;omega,h.2.1.code,h.2.1.keeps,h.2.1.ins,h.2.1.outs,h.2.1.nums,h',h.2.1.nf,h.2.1.nn,h.2.1.vf,h.2.1.out⟩,h.2.2⟩
theorem Fh {g:List (St d)}{r:List (List (St d))}:Em.pW (Em.aJ d) (g::r)=((Em.aJ d).lay g >>= fun x=>Em.pW (Em.aJ d) r >>= fun t=>pure (x::t)):=rfl
theorem Xz:(prog.info? 184).map (fun i=>(i.zero,i.size,i.bytes))=some (some (.pointer none),1,8):=by kernel_rfl
theorem Xx:(prog.info? 275).map (fun i=>(i.zero,i.size,i.bytes))=some (some (.agg #[.pointer none,.int .i64 0,.int .i64 0]),3,24):=by kernel_rfl
def Zm (names:List bE) (s:cF (St d)) (ins:List (Rg d)):Em.M (eR (St d) (Rg d)):=
 Em.jZ names s.ways >>= fun ws=>pure ⟨s,ws,ins,decide (s.during.length+s.ways.length=0)&&ins.all (Em.aJ d).idle,decide (0<s.leave.length)||ins.any (Em.aJ d).leaves⟩
theorem Aw {names:List bE}{s:cF (St d)}:Em.jD (Em.aJ d) names s=(Em.pW (Em.aJ d) s.regions >>= Zm names s):=rfl
theorem Fg {names:List bE}{s:cF (St d)}{g:List (St d)}{r:List (List (St d))}{ins:List (Rg d)}:(Em.pW (Em.aJ d) (g::r) >>= fun t=>Zm names s (ins++t))=((Em.aJ d).lay g >>= fun x=>Em.pW (Em.aJ d) r >>= fun t=>Zm names s ((ins++[x])++t)):=by
 rw[Fh]
 simp only[pA,pure_bind,List.append_assoc,List.singleton_append]
theorem fH.flags:∀(d:Nat) {r:Rg d}{g:Nat},fH A d w r g->A g/\w.cell? ⟨g,4,none⟩=some (.bool ((Em.aJ d).idle r))/\w.cell? ⟨g,5,none⟩=some (.bool ((Em.aJ d).leaves r))
 | 0,_,_,h=>h.elim
 | d+1,r,g,h=>by
  obtain ⟨gS,ad,cap,vo,h1,h2,_⟩:=h
  exact ⟨h2,aF h1 4 rfl,aF h1 5 rfl⟩
theorem I0 {α β:Type}{m:Em.M α}{f:α->Em.M β}{k k':Kd}{a:α}(h:m k=some (a,k')):(m >>= f) k=f a k':=by show (m k).bind _=_;rw[h];rfl
theorem mK {α:Type}(f:α->Nat):∀{l:List α}{j:Nat}{a:α},l[j]?=some a->((l.take j).map f).sum+f a≤(l.map f).sum
 | [],j,a,h=>by simp at h
 | b::r,0,a,h=>by
  have e:b=a:=by simpa using h
  subst e
  simp
 | b::r,j+1,a,h=>by
  have:=mK f (l:=r) (j:=j) (a:=a) (by simpa using h)
  simp only[List.take_succ_cons,List.map_cons,List.sum_cons]
  omega
theorem mQ {α:Type}(f:α->Nat) {l:List α}{j:Nat}{a:α}(h:l[j]?=some a):((l.take (j+1)).map f).sum=((l.take j).map f).sum+f a:=by
 rw[List.take_add_one,h,List.map_append,List.sum_append];simp
theorem Wg:(prog.info? 236).map (·.size)=some 5:=by kernel_rfl
theorem Xl {W:World}{g:Nat}{fc:Array Value}(hsz:fc.size=5) (hg:W.heap[g]?=some (.cells fc 236 (0,0))):(loadVar 236 ⟨g,0,none⟩).run prog W=.ok (.agg fc) W:=
 run_loadVar_row (P:=prog) W g 236 236 fc (0,0) _ hg Tryz.underlying236 rfl (by rw[hsz];exact Wg)
theorem Dy (c:Array Value) (W:World) (g:Nat) (h:Array Value) (hsz:h.size=5) (j:c[6]?.getD undef=.pointer (some ⟨g,0,none⟩)) (l:W.heap[g]?=some (.cells h 236 (0,0))) :
    (results Tryz.f161 c).run prog W=.ok (.agg h) W:=by
 simp[results,Tryz.results161,j,asAddr,Xl hsz l]
def Ue (A:Nat->Prop) (w:World) (s:cF (St d)) (gd od:Nat):Prop:=
 A gd/\w.cell? ⟨gd,od+2,none⟩=some (.bool s.last)/\(∃v,w.cell? ⟨gd,od+3,none⟩=some v/\cJ A w s.enter v)/\(∃v,w.cell? ⟨gd,od+4,none⟩=some v/\cJ A w s.during v)/\(∃v,w.cell? ⟨gd,od+5,none⟩=some v/\cJ A w s.leave v)/\∃p,w.cell? ⟨gd,od+6,none⟩=some (.pointer p)/\jR A w s.rests (.pointer p)
theorem LS.loc (h:LS A ns P kb w k gd od q7 d E Pj Rj wr kj ins ys id lv ai ci aw cw) (hA:∀x,A x->x<w.heap.size) {q:Nat}(Q:w.heap.size≤q/\¬Pj q/\¬Rj q/\q≠q7/\(Value.slice ai ins.length ci).ownBlock≠some q/\(Value.slice aw ys.length cw).ownBlock≠some q) (j:Nat) (v:Value) :
    LS A ns P kb w k gd od q7 d E Pj Rj (wr.setCell ⟨q,j,none⟩ v) kj ins ys id lv ai ci aw cw:=by
 obtain ⟨O,s,n⟩:=h.ri
 obtain ⟨U,u,r⟩:=h.rwy
 obtain ⟨D,X,q2,Y,I,q5⟩:=Q
 have y:(wr.setCell ⟨q,j,none⟩ v).heap.size=wr.heap.size:=by simp[World.setCell]
 have c:∀x,x≠q->(wr.setCell ⟨q,j,none⟩ v).heap[x]?=wr.heap[x]?:=fun x hx=>Below.heap_setCell _ _ _ _ hx
 have l:∀x,A x->x≠q:=fun x hx e=>by have:=hA x hx;omega
 exact ⟨⟨h.cm.1.imp fun _ Z=>Z.carry fun x hx _=>⟨hx,c x fun e=>X (e▸hx)⟩,h.cm.2.1,fun x hx=>by rw[y];exact h.cm.2.2 x hx⟩,fun x hx=>Up.size (by rw[y];exact aO4 _) x (h.up x hx),h.dr,fun x hx=>by rw[y];exact h.rn x hx,h.fr.setCell (.inr D) _,h.pl,by rw[c q7 (fun e=>Y e.symm)];exact h.hq,h.ql,⟨O,eL s fun x hx=>c x (fun e=>I (e▸hx)),n.map (Nw.carry fun x hx _=>⟨hx,c x (hx.elim (l x) fun J e=>q2 (e▸J))⟩)⟩,h.oi,⟨U,eL u fun x hx=>c x (fun e=>q5 (e▸hx)),r.map (Iy.carry fun x hx _=>⟨hx,c x (l x hx)⟩)⟩,h.ow⟩
theorem LS.done {s:cF (St d)}{q6:Nat}{w0 wf:World}(h:LS A ns P kb w k gd od q7 d E Pj Rj wr kj ins ys id lv ai ci aw cw) (hR:Ro A P w0) (hb:Below w0.heap.size w0 w) (hw:w.heap.size=w0.heap.size+1) (hq:q6=w0.heap.size) (ae:∀x,P x->x<w0.heap.size) (hD:Ue A w0 s gd od) (U:bM (fun x=>x=q6) wr wf) (hz:wf.heap.size=wr.heap.size) :
    ∃R:Nat->Prop,eK E ns Pj wf kb kj/\(∀x,Pj x->Up P w0 wf x)/\(∀x,Pj x->¬R x)/\(∀x,R x->w0.heap.size≤x/\x<wf.heap.size)/\bM P w0 wf/\k.net.places≤kj.net.places/\Vo (fun x=>A x\/R x) wf (⟨s,ys,ins,id,lv⟩:eR (St d) (Rg d)) gd od (.slice aw ys.length cw) (.slice ai ins.length ci):=by
 obtain ⟨xi,u,ab⟩:=h.ri
 obtain ⟨xw,I,ac⟩:=h.rwy
 have s0:=h.fr.size
 have r:bM P w0 wr:=(bM.of_below hb).trans h.fr fun _ _ h=>h
 have aa:bM P w0 wf:=r.trans U fun x hx e=>absurd e (by omega)
 have af:bB A A w0 wr:=r.keep fun x hx=>(hR x hx).2
 have nA:∀x,A x->x≠q6:=fun x hx e=>by have:=(hR x hx).1;omega
 have nR:∀x,w.heap.size≤x->x≠q6:=fun x hx e=>by omega
 have nP:∀x,Pj x->x≠q6:=fun x hx e=>by
  rcases h.up x hx with l|l
  ·have:=ae x l;omega
  ·omega
 have kA:∀Q:Nat->Prop,bB A (fun x=>A x\/Q x) wr wf:=fun Q x hx Y=>⟨.inl hx,U.block x Y (nA x hx)⟩
 have n:∀Q:Nat->Prop,bB A (fun x=>A x\/Q x) w0 wf:=fun Q=>af.trans (kA Q) r.size
 have kR:∀Q:Nat->Prop,(∀x,Rj x->Q x)->bB (fun x=>A x\/Rj x) (fun x=>A x\/Q x) wr wf:=fun Q hQ x hx Y=>⟨hx.elim .inl fun h=>.inr (hQ x h),U.block x Y (hx.elim (nA x) fun hr=>nR x (h.rn x hr).1)⟩
 obtain ⟨O,d2,⟨v3,d3,D⟩,⟨v4,d4,Z⟩,⟨v5,d5,e5⟩,p6,d6,e6⟩:=hD
 refine ⟨fun x=>Rj x\/(Value.slice ai ins.length ci).ownBlock=some x\/(Value.slice aw ys.length cw).ownBlock=some x,⟨h.cm.1.imp fun _ J=>J.carry fun x hx Y=>⟨hx,U.block x Y (nP x hx)⟩,h.cm.2.1,fun x hx=>by rw[hz];exact h.cm.2.2 x hx⟩,fun x hx=>?_,fun x hx=>?_,fun x hx=>?_,aa,h.pl,.inl O,cL (n fun _=>True) O d2,⟨v3,cL (n fun _=>True) O d3,D.carry (n _)⟩,⟨v4,cL (n fun _=>True) O d4,Z.carry (n _)⟩,⟨v5,cL (n fun _=>True) O d5,e5.carry (n _)⟩,⟨p6,cL (n fun _=>True) O d6,e6.carry (n _)⟩,?_,?_⟩
 ·rcases h.up x hx with l|l
  ·exact .inl l
  ·exact .inr ⟨by omega,by omega⟩
 ·rintro (l|l|l)
  ·exact h.dr x hx l
  ·exact (h.oi x l).2.1 hx
  ·exact (h.ow x l).2.1 hx
 ·rcases hx with l|l|l
  ·have:=h.rn x l;omega
  ·have:=(h.oi x l).1;have:=(u.lt x l).2;omega
  ·have:=(h.ow x l).1;have:=(I.lt x l).2;omega
 ·obtain ⟨ad,g,cap,e1,e2,D,Z⟩:=wU.open (k:=3) (fun a c h=>by obtain ⟨_,_,_,_,rfl,_⟩:=h;rfl) (⟨eL I fun x hx=>U.block x (I.lt x hx).2 (nR x (h.ow x hx).1),fun g hg=>.inr (.inr (.inr hg))⟩:wU (fun x=>A x\/(Rj x\/(Value.slice ai ins.length ci).ownBlock=some x\/(Value.slice aw ys.length cw).ownBlock=some x)) wf _ 3 _ ys.length xw) (ac.map (Iy.carry (kA _)))
  exact ⟨ad,g,cap,e1,e2,fun X=>⟨(D X).1,(D X).2.1⟩,fun j y hy=>by
   obtain ⟨c,⟨gy,oy,p,q,rfl,a1,a2⟩,J⟩:=Z j y hy
   exact ⟨⟨gy,oy,p,q,J 0 _ rfl,a1,a2⟩,J 1 _ rfl,J 2 _ rfl⟩⟩
 ·obtain ⟨ad,g,cap,e1,e2,D,Z⟩:=wU.open (k:=1) (fun a c h=>by obtain ⟨_,rfl,_⟩:=h;rfl) (⟨eL u fun x hx=>U.block x (u.lt x hx).2 (nR x (h.oi x hx).1),fun g hg=>.inr (.inr (.inl hg))⟩:wU (fun x=>A x\/(Rj x\/(Value.slice ai ins.length ci).ownBlock=some x\/(Value.slice aw ys.length cw).ownBlock=some x)) wf _ 1 _ ins.length xi) (ab.map (Nw.carry (kR (fun x=>Rj x\/(Value.slice ai ins.length ci).ownBlock=some x\/(Value.slice aw ys.length cw).ownBlock=some x) fun x hx=>.inl hx)))
  exact ⟨ad,g,cap,e1,e2,fun X=>⟨(D X).1,(D X).2.1⟩,fun j y hy=>by
   obtain ⟨c,⟨gr,rfl,a1⟩,J⟩:=Z j y hy
   exact ⟨gr,by have:=J 0 _ rfl;rw[Nat.mul_one,aY4] at this;exact this,a1⟩⟩
theorem LS.moreE {E':Nat}(h:LS A ns P kb w k gd od q7 d E Pj Rj wr kj ins ys id lv ai ci aw cw) (hE:E≤E') (h':E'≤1000000):LS A ns P kb w k gd od q7 d E' Pj Rj wr kj ins ys id lv ai ci aw cw:={ h with cm:=h.cm.moreE hE h' }
theorem Q0 {names:List bE}{y:Wy}{r:List Wy}{ys:List eQ}{g:List eQ->Em.M (eR (St d) (Rg d))}:(Em.jZ names (y::r) >>= fun t=>g (ys++t))=((if 1<y.times then Em.kept 0 else pure (-1)) >>= fun p=>Em.jZ names r >>= fun t=>g ((ys++[⟨y,eG names y.to,p⟩])++t)):=by
 by_cases hy:1<y.times<;>simp only[Em.jZ,hy,if_true,if_false,pA,pure_bind,List.append_assoc,List.singleton_append]
end
end Ew
end
end Go.Proofs.YthieaobjdpfcoaaGreatDoor
