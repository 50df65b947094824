import Derived.Test.YthieaobjdpfcoaaGreatDoorVZk
set_option maxRecDepth 100000
set_option maxHeartbeats 8000000
namespace Go.Proofs.YthieaobjdpfcoaaGreatDoor
section
open Go.RowKit Px
namespace Sx
open Nx (Nt Sp asks bH get put iH eA cR)
open Ew (bM Up rS)
open Fw (wA Si)
attribute [-go_sem] Builtin.append_
section
variable {P:Nat->Prop}{B:Nat}{w:World}{sb m Pn:Nat}{nums:List Int}{g:Sg}{c:Sv}
theorem SM.moreT (h:SM P B w sb m nums g c) {x:Int}{w0 w5:World}{v5:Value}(r:Below w.heap.size w w0) (j:iH 3 0 w5 v5 (g.there++[x])) (n:w0.grownBy w5 c.vT.ownBlock) (y:∀b,v5.ownBlock=some b->c.vT.ownBlock=some b\/b=w0.heap.size) (X:g.there.length<m) :
    SM (Up P w (w5.setCell ⟨sb,2,none⟩ v5)) B (w5.setCell ⟨sb,2,none⟩ v5) sb m nums { g with there:=g.there++[x] } { c with vT:=v5 }/\bM P w (w5.setCell ⟨sb,2,none⟩ v5):=by
 obtain ⟨gm,m1,m2⟩:=h.md
 obtain ⟨gc,c1,c2⟩:=h.cp
 have s0:=r.size
 have s5:=n.size
 have D:∀b,b<w.heap.size->c.vT.ownBlock≠some b->w5.heap[b]?=w.heap[b]?:=fun b hb Y=>by rw[n.block b (by omega) (fun e=>Y e.symm),r.block b hb]
 have Z:∀b,b<w.heap.size->b≠sb->c.vT.ownBlock≠some b->(w5.setCell ⟨sb,2,none⟩ v5).heap[b]?=w.heap[b]?:=fun b hb h1 h3=>by rw[Below.heap_setCell _ _ _ _ h1,D b hb h3]
 have I:∀b,P b->b≠sb->c.vT.ownBlock≠some b->(w5.setCell ⟨sb,2,none⟩ v5).heap[b]?=w.heap[b]?:=fun b hb=>Z b (h.up.2 b hb).2
 have Q:c.vT.ownBlock≠some sb:=fun e=>(h.pt sb e).2.1 rfl
 have O:c.vT.ownBlock≠some c.bm:=fun e=>(h.pt _ e).2.2.1 rfl
 have J:c.vT.ownBlock≠some c.bc:=fun e=>(h.pt _ e).2.2.2 rfl
 have hsz:(w5.setCell ⟨sb,2,none⟩ v5).heap.size=w5.heap.size:=by simp[World.setCell]
 have f1:=(h.up.2 _ h.pb.1).2
 have f2:=(h.up.2 _ h.pb.2.1).2
 have f3:=(h.up.2 _ h.pb.2.2).2
 have o5:∀b,v5.ownBlock=some b->Up P w (w5.setCell ⟨sb,2,none⟩ v5) b/\b≠sb/\b≠c.bm/\b≠c.bc:=fun b hb=>by
  have X:=(j.lt b hb).2
  rcases y b hb with e|e
  ·have q:=h.pt b e
   exact ⟨.inl q.1,q.2⟩
  ·exact ⟨.inr ⟨by omega,by omega⟩,by omega,by omega,by omega⟩
 have n5:∀b,P b->c.vT.ownBlock≠some b->v5.ownBlock≠some b:=fun b hp Y e=>by
  rcases y b e with e'|e'
  ·exact Y e'
  ·have:=(h.up.2 b hp).2;omega
 have U:w5.heap[sb]?=some (.cells #[.map (some c.bm),.map (some c.bc),c.vT,.int .i64 g.things,c.vN,c.vC] 61 (0,0)):=by rw[D sb f1 Q,h.hk]
 have k:bM P w (w5.setCell ⟨sb,2,none⟩ v5):=(((bM.of_below (P:=P) r).grown n fun b hb=>.inl (h.pt b hb).1)).setCell (p:=⟨sb,2,none⟩) (.inl h.pb.1) _
 have vc:∀b,c.vC.ownBlock=some b->c.vT.ownBlock≠some b:=fun b hb=>(h.pc b hb).2.2.2.2
 refine ⟨⟨cH (l:=[.map (some c.bm),.map (some c.bc),c.vT,.int .i64 g.things,c.vN,c.vC]) U 2 v5,j.keep fun b hb=>Below.heap_setCell _ _ _ _ (o5 b hb).2.1,vB h.rc fun b hb=>I b (h.pc b hb).1 (h.pc b hb).2.1 (vc b hb),⟨gm,m1.keep (I _ h.pb.2.1 h.ne.1.symm O),m2⟩,⟨gc,c1.keep (I _ h.pb.2.2 h.ne.2.1.symm J),c2⟩,fun u s=>(h.rw u s).keep fun b hb=>I b (h.pw u s b hb).1 (h.pw u s b hb).2.1 (h.pw u s b hb).2.2.2.2.1,h.nu.carry fun b hb X=>⟨hb,Z b X (fun e=>?_) (fun e=>?_)⟩,⟨aO4 h.up.1 k.size,fun b hb=>?_⟩,⟨.inl h.pb.1,.inl h.pb.2.1,.inl h.pb.2.2⟩,fun b hb=>o5 b hb,fun b hb=>⟨.inl (h.pc b hb).1,(h.pc b hb).2.1,(h.pc b hb).2.2.1,(h.pc b hb).2.2.2.1,n5 b (h.pc b hb).1 (vc b hb)⟩,fun u s b hb=>?_,h.ps,h.ne,?_,h.lw⟩,k⟩
 ·have:=(h.up.2 _ h.pb.1).1;omega
 ·have:=(h.up.2 _ (h.pt b e).1).1;omega
 ·rcases hb with hb|hb
  ·exact ⟨(h.up.2 b hb).1,aO2 (h.up.2 b hb).2 k.size⟩
  ·exact ⟨aO4 h.up.1 hb.1,hb.2⟩
 ·obtain ⟨q0,q1,q2,q3,q4,q5⟩:=h.pw u s b hb
  exact ⟨.inl q0,q1,q2,q3,n5 b q0 q4,q5⟩
 ·have:=h.few
  exact ⟨this.1,this.2.1,by show (g.there++[x]).length≤m;rw[aO6,aW9];omega,this.2.2.2⟩
theorem O7 {x:Int}(h:SM P B w sb m nums g c) (D:g.there.length<m) :
    ∃v5 w5 c',(Builtin.append_ #[23,23] 23 #[c.vT,.slice (some ⟨w.heap.size,0,none⟩) 1 1]).run Tryz.prog (w.alloc (.cells #[.int .i64 x] 3))=.ok v5 w5/\(∃a n k,v5=.slice a n k)/\w5.heap[sb]?=w.heap[sb]?/\
     SM (Up P w (w5.setCell ⟨sb,2,none⟩ v5)) B (w5.setCell ⟨sb,2,none⟩ v5) sb m nums { g with there:=g.there++[x] } c'/\bM P w (w5.setCell ⟨sb,2,none⟩ v5):=by
 have U:=h.few
 obtain ⟨y,cap,w5,I,l,j,r,u⟩:=Nx.aG9 (A:=fun _=>True) 23 3 Tryz.underlying23 Tryz.ckInfoInt 0 (w.alloc (.cells #[.int .i64 x] 3)) c.vT (.slice (some ⟨w.heap.size,0,none⟩) 1 1) g.there [x] (h.rt.alloc _) ⟨_,w.heap.size,0,1,rfl,fun _=>⟨rfl,trivial⟩,fun k O=>by
  obtain rfl:k=0:=by simpa using O
  exact aF (aX _ _) 0 rfl⟩ (aP4 _) (.inr (by simp)) (by simp;omega)
 obtain ⟨J,Q⟩:=h.moreT (x:=x) (w0:=w.alloc (.cells #[.int .i64 x] 3)) (aL _ _) l j (fun b hb=>by
  obtain rfl:y=b:=by simpa [Value.ownBlock] using hb
  exact r) D
 refine ⟨_,w5,_,I,⟨_,_,_,rfl⟩,?_,J,Q⟩
 have s:=(h.up.2 _ h.pb.1).2
 rw[j.block sb (by simp;omega) fun e=>(h.pt sb e.symm).2.1 rfl,Below.heap_alloc _ _ _ s]
theorem Ma {t p:Int}(h:SM P B w sb m nums g c) (s:m<100000) (O:jF t) (n:g.copies t=[]) :
    ∃w6 c',(Instr.mapUpdate 59 (.map (some c.bc)) (.int .i64 t) (.slice (some ⟨w.heap.size,0,none⟩) 1 1)).run Tryz.prog (w.alloc (.cells #[.int .i64 p] 3))=.ok () w6/\
     SM (Up P w w6) B w6 sb (m+1) nums { g with copies:=fun u=>if u=t then [p] else g.copies u } c'/\bM P w w6:=by
 obtain ⟨f,J,I⟩:=h.cp
 have D:cvS g c t=.slice none 0 0:=if_pos n
 obtain ⟨w6,l,j,k⟩:=(J.keep (w':=w.alloc (.cells #[.int .i64 p] 3)) (Below.heap_alloc _ _ _ (h.up.2 _ h.pb.2.2).2)).put Si Tryz.underlying59 (by have:=h.few;unfold maxLen;omega) (Maps.keyOf_int_mk Tryz.underlying3 O.wf) (.slice (some ⟨w.heap.size,0,none⟩) 1 1)
 obtain ⟨r,y⟩:=h.moreC (t:=t) (p:=p) (w0:=w) (v:=.slice (some ⟨w.heap.size,0,none⟩) 1 1) (f:=Gm.put f (.int .i64 t) (.slice (some ⟨w.heap.size,0,none⟩) 1 1)) (Below.refl _ _) (by
  rw[n]
  exact ⟨rfl,.inr ⟨w.heap.size,1,#[.int .i64 p],rfl,aP4 _,aX _ _,aN4 _,by decide,rfl,rfl⟩⟩) (World.grownBy_alloc _ _ _) (fun b hb=>.inr (by simpa [Value.ownBlock] using hb.symm)) k j (fun u=>by
  by_cases e:u=t
  ·subst e
   rw[Gm.pQ _ (by trivial),if_pos rfl]
  ·rw[Gm.kT _ _ (aE1 e),if_neg e];exact I u) (by have:=h.few;split<;>omega) s
 rw[n] at r
 exact ⟨w6,_,l,r,y⟩
theorem Hu (k:Nat):({ ({ ({ sX k with things:=(sX k).things+1 }:Sg) with there:=(sX k).there++[(k:Int)] }:Sg) with copies:=fun u=>if u=(k:Int) then [(k:Int)] else (sX k).copies u }:Sg)=sX (k+1):=by
 unfold sX
 simp only[Sg.mk.injEq,true_and,and_true]
 refine ⟨?_,?_,by omega⟩
 ·funext u
  by_cases e:u=(k:Int)
  ·subst e
   rw[if_pos rfl,if_pos ⟨by omega,by omega⟩]
  ·rw[if_neg e]
   by_cases h:0≤u/\u<(k:Int)
   ·rw[if_pos h,if_pos ⟨h.1,by omega⟩]
   ·rw[if_neg h,if_neg (by omega)]
 ·rw[List.range_succ,List.map_append];rfl
theorem aH9 (w:World):(Instr.makeMap 58 none).run Tryz.prog w=.ok (.map (some w.heap.size)) (w.alloc (.map #[] 0)):=by kernel_rfl
theorem aH8 (w:World):(Instr.makeMap 59 none).run Tryz.prog w=.ok (.map (some w.heap.size)) (w.alloc (.map #[] 0)):=by kernel_rfl
def P3 (n:Nat) (b:Nat):Prop:=b=n\/b=n+1\/b=n+1+1
theorem Hj {k:Value}(hB:B≤w.heap.size) (U:bH (· < B) w k nums):SM (P3 w.heap.size) B (((w.alloc (.map #[] 0)).alloc (.map #[] 0)).alloc (.cells #[.map (some w.heap.size),.map (some (w.heap.size+1)),.slice none 0 0,.int .i64 0,k,.slice none 0 0] 61)) (w.heap.size+1+1) 0 nums (sX 0) ⟨w.heap.size,w.heap.size+1,0,0,.slice none 0 0,k,.slice none 0 0,fun _=>.slice none 0 0⟩:=by
 obtain ⟨w1,n⟩:∃w1,w1=w.alloc (.map #[] 0):=⟨_,rfl⟩
 obtain ⟨w2,j⟩:∃w2,w2=w1.alloc (.map #[] 0):=⟨_,rfl⟩
 obtain ⟨V,l⟩:∃V,V=w2.alloc (.cells #[.map (some w.heap.size),.map (some (w.heap.size+1)),.slice none 0 0,.int .i64 0,k,.slice none 0 0] 61):=⟨_,rfl⟩
 have r:w1.heap.size=w.heap.size+1:=by rw[n];simp
 have y:w2.heap.size=w.heap.size+1+1:=by rw[j];simp[r]
 have X:V.heap.size=w.heap.size+1+1+1:=by rw[l];simp[y]
 have D:Below w.heap.size w w1:=by rw[n];exact aL _ _
 have s:Below w1.heap.size w1 w2:=by rw[j];exact aL _ _
 have b3:Below w2.heap.size w2 V:=by rw[l];exact aL _ _
 have O:=aQ D (aQ s b3)
 rw[<-n,<-j,<-l]
 have no:∀b,(Value.slice none 0 0).ownBlock≠some b:=fun b e=>by simp[Value.ownBlock] at e
 have Q:Gm.Mp Tryz.prog 38 V w.heap.size 0 (fun _=>none):=(Gm.Mp.made Tryz.prog 38 w).keep (by rw[<-n];exact (aQ s b3).block _ (by omega))
 have I:Gm.Mp Tryz.prog 3 V (w.heap.size+1) 0 (fun _=>none):=by
  have:=(Gm.Mp.made Tryz.prog 3 w1).keep (w':=V) (by rw[<-j];exact b3.block _ (by omega))
  rw[r] at this
  exact this
 refine ⟨?_,iH.nil _ _ _,aY5 _ _ _ _,⟨_,Q,fun _ _=>rfl⟩,⟨_,I,fun t=>?_⟩,fun t h=>?_,U.carry fun b hb J=>⟨hb,O.block b J⟩,⟨by omega,fun b hb=>?_⟩,⟨.inr (.inr rfl),.inl rfl,.inr (.inl rfl)⟩,fun b hb=>absurd hb (no b),fun b hb=>absurd hb (no b),fun t h=>?_,fun t u h=>?_,⟨by show w.heap.size+1+1≠w.heap.size;omega,by show w.heap.size+1+1≠w.heap.size+1;omega,by show w.heap.size≠w.heap.size+1;omega⟩,⟨aN4 _,aN4 _,aN4 _,aN4 _,Int.le_refl _,Int.le_refl _,by omega⟩,fun t=>?_⟩
 ·rw[<-y,l];exact aX _ _
 all_goals have z:∀t,(sX 0).copies t=[]:=fun t=>if_neg (by omega)
 ·rw[if_pos (z t)]
 ·exact absurd (z t) h
 ·rcases hb with rfl|rfl|rfl<;>omega
 ·exact absurd (z t) h
 ·exact absurd (z t) h
 ·rw[z t];exact aN4 _
end
end Sx
end
section
open Go.RowKit Px
namespace Sx
open Nx (Nt Sp asks bH get put iH eA cR)
open Ew (bM Up rS)
open Fw (wA Si)
attribute [-go_sem] Builtin.append_
theorem zZ.start {P:Nat->Prop}{B:Nat}{w:World}{sb m:Nat}{nums:List Int}{g:Sg}{c:Sv}(h:SM P B w sb m nums g c):zZ P B w w sb m nums g:=⟨c,h.upP (fun _ hb=>.inl hb) h.up.1 h.up.2 (aN4 _),bM.refl _ _⟩
theorem zZ.up {P:Nat->Prop}{B:Nat}{w0 w w':World}{sb m:Nat}{nums:List Int}{g:Sg}{l:Sv}(j:bM P w0 w) (r:∀b,P b->B≤b/\b<w0.heap.size) (hB:B≤w0.heap.size) (h:SM (Up (Up P w0 w) w w') B w' sb m nums g l) (k:bM (Up P w0 w) w w'):zZ P B w0 w' sb m nums g:=by
 have n:=k.size
 refine ⟨l,h.upP (fun b hb=>?_) hB r (aO4 j.size n),j.up k⟩
 rcases hb with (hb|hb)|hb
 ·exact .inl hb
 ·exact .inr ⟨hb.1,aO2 hb.2 n⟩
 ·exact .inr ⟨aO4 j.size hb.1,hb.2⟩
theorem Nn {w:World}{B Pn:Nat}{nums:List Int}{d1 d2 d3 d4 d5 d6:Option Addr}{k1 c1 k2 c2 k3 c3 k4 c4 k5 c5 k6 c6:Nat}(hB:B≤w.heap.size) (hN:bH (· < B) w (.slice d5 k5 c5) nums) (al:Pn≤4000) :
    Calls Tryz.prog 22 #[.agg #[.int .i64 (Pn:Int),.slice d1 k1 c1,.slice d2 k2 c2,.slice d3 k3 c3,.slice d4 k4 c4,.slice d5 k5 c5,.slice d6 k6 c6]] w fun e w'=>∃sb P c,e=.returned (.pointer (some ⟨sb,0,none⟩))/\Hid (SM P B w' sb (2*Pn) nums (sX Pn) c/\Below w.heap.size w w'/\∀b,P b->w.heap.size≤b):=by
 obtain ⟨W,hW⟩:∃W,W=w.alloc (.cells #[.int .i64 (Pn:Int),.slice d1 k1 c1,.slice d2 k2 c2,.slice d3 k3 c3,.slice d4 k4 c4,.slice d5 k5 c5,.slice d6 k6 c6] 26):=⟨_,rfl⟩
 obtain ⟨q,hq⟩:∃q,q=w.heap.size:=⟨_,rfl⟩
 have bW:Below w.heap.size w W:=by rw[hW];exact aL _ _
 have sW:W.heap.size=q+1:=by rw[hW,hq];simp
 have kW:W.heap[q]?=some (.cells #[.int .i64 (Pn:Int),.slice d1 k1 c1,.slice d2 k2 c2,.slice d3 k3 c3,.slice d4 k4 c4,.slice d5 k5 c5,.slice d6 k6 c6] 26 (0,0)):=by rw[hW,hq];exact aX _ _
 have y:=Hj (w:=W) (B:=B) (nums:=nums) (aO4 hB bW.size) (hN.carry fun b hb hl=>⟨hb,bW.block b hl⟩)
 obtain ⟨V,hV⟩:∃V,V=((W.alloc (.map #[] 0)).alloc (.map #[] 0)).alloc (.cells #[.map (some W.heap.size),.map (some (W.heap.size+1)),.slice none 0 0,.int .i64 0,.slice d5 k5 c5,.slice none 0 0] 61):=⟨_,rfl⟩
 have bV:Below W.heap.size W V:=by rw[hV];exact aQ (aL _ _) (aQ (aL _ _) (aL _ _))
 rw[<-hV] at y
 rw[sW] at y hV
 have s:Hid (SM (P3 (q+1)) B V (q+1+1+1) 0 nums (sX 0) ⟨q+1,q+1+1,0,0,.slice none 0 0,.slice d5 k5 c5,.slice none 0 0,fun _=>.slice none 0 0⟩/\Below w.heap.size w V/\V.heap[q]?=some (.cells #[.int .i64 (Pn:Int),.slice d1 k1 c1,.slice d2 k2 c2,.slice d3 k3 c3,.slice d4 k4 c4,.slice d5 k5 c5,.slice d6 k6 c6] 26 (0,0))/\w.heap.size=q):=⟨y,aQ bW bV,aD bV kW,hq.symm⟩
 obtain ⟨-,-,-,-,-,x5,-⟩:=Nx.lJ kW
 obtain ⟨v0,-,-,-,-,-,-⟩:=Nx.lJ s.out.2.2.1
 have ac:(W.alloc (.map #[] 0)).cell? ⟨q,5,none⟩=some (.slice d5 k5 c5):=aN (aL _ _) x5
 have ak:((W.alloc (.map #[] 0)).alloc (.map #[] 0)).cell? ⟨q,5,none⟩=some (.slice d5 k5 c5):=aN (aL _ _) ac
 have y1:=aH9
 have y2:=aH8
 clear y bW bV kW hN hB
 go_enter Tryz.func22,Tryz.ntmps22
 go_upto_region 1 with fail
 rw[<-hW,<-hq]
 clear hW hq
 go_upto_region 2 with fail
 rw[<-hV]
 clear hV x5 ac ak y1 y2 sW
 obtain ⟨sb,J⟩:∃sb,sb=q+1+1+1:=⟨_,rfl⟩
 rw[<-J] at s
 rw[<-J]
 have HP:Hid ((∀b,P3 (q+1) b->B≤b/\b<V.heap.size)/\B≤V.heap.size/\Pn≤4000/\∀b,P3 (q+1) b->q≤b):=⟨s.out.1.up.2,s.out.1.up.1,al,fun b hb=>by rcases hb with rfl|rfl|rfl<;>omega⟩
 clear J
 go_wp2_with fail
 go_loopw [14] (fun i wr=>∃k:Nat,k≤Pn/\i=.int .i64 k/\Hid (zZ (P3 (q+1)) B V wr sb (2*k) nums (sX k))) (fun i _=>Pn-(intOf i).toNat)
 case atStart=>exact ⟨0,aP4 _,rfl,zZ.start s.out.1⟩
 case round=>
  obtain ⟨k,hk,rfl,HI⟩:=hrel
  clear v0
  by_cases hlt:k<Pn
  ·obtain ⟨c1,u,D⟩:=HI.out
   have ae:Calls Tryz.prog 42 #[.pointer (some ⟨sb,0,none⟩)] wr fun e w'=>e=.returned (.int .i64 (k:Int))/\Hid (SM (Up (P3 (q+1)) V wr) B w' sb (2*k+1) nums { sX k with things:=(sX k).things+1 } c1/\bM (Up (P3 (q+1)) V wr) wr w'):=tI u (by omega)
   have O:Hid (bM (P3 (q+1)) V wr):=D
   clear u D
   go_upto_region 6 with (go_at_call 42;refine ae.mono ?_;rintro e w1 ⟨rfl,h1⟩;clear ae)
   obtain ⟨cA,r,af⟩:zZ (P3 (q+1)) B V w1 sb (2*k+1) nums { sX k with things:=(sX k).things+1 }:=⟨c1,h1.out.1.upP (Up.size h1.out.2.size) HP.out.2.1 HP.out.1 (O.out.up h1.out.2).size,O.out.up h1.out.2⟩
   have ai:(sX k).there.length=k:=by simp[sX]
   obtain ⟨v5,w5,c5,ag,⟨a5,n5,ah,aj⟩,j,U,X⟩:=O7 (x:=(k:Int)) r (by show (sX k).there.length<2*k+1;omega)
   subst aj
   obtain ⟨aT,lT,nT,ab⟩:∃a l n,cA.vT=.slice a l n:=by
    obtain ⟨a,n,h⟩:=aP r.rt
    exact ⟨_,_,_,h⟩
   obtain ⟨-,-,z2,-,-,-,-⟩:=r.cells
   rw[ab] at ag z2
   have z5:w5.cell? ⟨sb,2,none⟩=some (.slice aT lT nT):=by rw[aY4 j];exact z2
   have an:w5.frozen? ⟨sb,2,none⟩=false:=aG (j.trans r.hk) 2
   obtain ⟨w6,I⟩:∃w6,w6=w5.setCell ⟨sb,2,none⟩ (.slice a5 n5 ah):=⟨_,rfl⟩
   rw[<-I] at U X
   obtain ⟨cB,Y,aa⟩:=zZ.up af HP.out.1 HP.out.2.1 U X
   obtain ⟨w7,c7,am,Q,Z⟩:=Ma (t:=(k:Int)) (p:=(k:Int)) Y (by have:=HP.out;omega) (by have:=HP.out.2.2.1;unfold jF;omega) (if_neg (by omega))
   obtain ⟨-,z6,-,-,-,-,-⟩:=Y.cells
   have HG:Hid (zZ (P3 (q+1)) B V w7 sb (2*(k+1)) nums (sX (k+1))):=by
    rw[show (2*k+1+1)=2*(k+1) by omega] at Q
    have:=zZ.up aa HP.out.1 HP.out.2.1 Q Z
    rw[<-Hu]
    exact this
   clear r af h1 U X Y aa Q Z ab j ai HI O
   go_upto_region 7 with fail
   rw[<-I]
   clear I
   go_wp2_with fail
   go_roundw
   case rel=>exact ⟨k+1,by omega,by go_num,HG.out⟩
   case measure=>simp[intOf];omega
  ·obtain rfl:k=Pn:=by omega
   go_wp2_with fail
   go_ret
   obtain ⟨c1,u,D⟩:=HI.out
   have ad:∀b,Up (P3 (q+1)) V wr b->w.heap.size≤b:=fun b hb=>by
    rw[s.out.2.2.2]
    rcases hb with hb|hb
    ·exact HP.out.2.2.2 b hb
    ·have:=s.out.2.1.size;have:=s.out.2.2.2;omega
   refine ⟨sb,_,c1,rfl,u,s.out.2.1.trans (D.below (B:=w.heap.size) s.out.2.1.size fun b hb=>ad b (.inl hb)),ad⟩
end Sx
end
section
open Go.RowKit Go.Sort Px
namespace Sx
open Nx (Nt Sp eJ kK bH jA asks eA)
open Ew (bM Up rS Bx ZN)
open Fw (Ur)
theorem Ic (h:Array Value) (W:World) (c:Nat) (j:Array Value) (v:Value) (hsz:j.size=7) (k:h[2]?.getD undef=.pointer (some ⟨c,0,none⟩)) (n:h[3]?.getD undef=v) (l:W.heap[c]?=some (.cells j 26 (0,0))) :
    (results Tryz.f9 h).run Tryz.prog W=.ok (.tuple #[.agg j,v]) W:=by
 simp[results,Tryz.results9,k,n,asAddr,Ew.xG hsz l]
def PO2 (n:Nt) (w:World) (e:Ending) (w':World):Prop:=∃(f1 f2 f3 f4 f5 f6:Option Addr) (k1 c1 k2 c2 k3 c3 k4 c4 k5 c5 k6 c6:Nat),e=.returned (.tuple #[.agg #[.int .i64 n.places,.slice f1 k1 c1,.slice f2 k2 c2,.slice f3 k3 c3,.slice f4 k4 c4,.slice f5 k5 c5,.slice f6 k6 c6],.nilIface])/\Hid (Below w.heap.size w w'/\eJ w'.heap.size w' n (.slice f1 k1 c1) (.slice f2 k2 c2) (.slice f3 k3 c3) (.slice f4 k4 c4) (.slice f5 k5 c5) (.slice f6 k6 c6)/\k6≤c6)
section
variable {w:World}
theorem aC8 {n:Nt}{d1 d2 d3 d4 d5 d6:Option Addr}{k1 c1 k2 c2 k3 c3 k4 c4 k5 c5 k6 c6 B:Nat}(hB:B≤w.heap.size) (hN:eJ B w n (.slice d1 k1 c1) (.slice d2 k2 c2) (.slice d3 k3 c3) (.slice d4 k4 c4) (.slice d5 k5 c5) (.slice d6 k6 c6)) (hr:kK n) :
    Calls Tryz.prog 9 #[.agg #[.int .i64 n.places,.slice d1 k1 c1,.slice d2 k2 c2,.slice d3 k3 c3,.slice d4 k4 c4,.slice d5 k5 c5,.slice d6 k6 c6]] w (PO2 (eU n) w):=by
 have HX:=Bx.start w n (.slice d1 k1 c1) (.slice d2 k2 c2) (.slice d3 k3 c3) (.slice d4 k4 c4) (.slice d5 k5 c5) (.slice d6 k6 c6)
 obtain ⟨pn,ad⟩:∃p,p=n.places:=⟨_,rfl⟩
 obtain ⟨W,hW⟩:∃W,W=(w.alloc (.cells #[.int .i64 n.places,.slice d1 k1 c1,.slice d2 k2 c2,.slice d3 k3 c3,.slice d4 k4 c4,.slice d5 k5 c5,.slice d6 k6 c6] 26)).alloc (.cells ZN 26):=⟨_,rfl⟩
 obtain ⟨q,hq⟩:∃q,q=w.heap.size:=⟨_,rfl⟩
 rw[<-hW,<-hq] at HX
 have HB:Hid (Bx q w W n (.slice d1 k1 c1) (.slice d2 k2 c2) (.slice d3 k3 c3) (.slice d4 k4 c4) (.slice d5 k5 c5) (.slice d6 k6 c6)):=HX
 have I:Hid (eJ B w n (.slice d1 k1 c1) (.slice d2 k2 c2) (.slice d3 k3 c3) (.slice d4 k4 c4) (.slice d5 k5 c5) (.slice d6 k6 c6)/\kK n/\B≤w.heap.size/\pn=n.places):=⟨hN,hr,hB,ad⟩
 have ai:=Ew.Nh (HX.old hB hN) (aO4 hB HX.bel.size) hr
 obtain ⟨a0,a1,a2,a3,a4,a5,a6⟩:=Nx.lJ HX.b1
 rw[<-ad] at hW a0 ai ⊢
 obtain ⟨Pn,av⟩:∃Pn,Pn=n.places.toNat:=⟨_,rfl⟩
 have bj:pn=(Pn:Int):=by have:=hr.p;omega
 subst bj
 have D:Hid (Pn=n.places.toNat/\((Pn:Nat):Int)=n.places/\Pn≤4000):=⟨av,ad,by have:=hr.p;omega⟩
 clear HX hN hr ad hB av
 go_enter Tryz.func9,Tryz.ntmps9
 go_upto_region 1 with fail
 rw[show (w.alloc (.cells #[.int .i64 (Pn:Int),.slice d1 k1 c1,.slice d2 k2 c2,.slice d3 k3 c3,.slice d4 k4 c4,.slice d5 k5 c5,.slice d6 k6 c6] 26)).alloc (.cells #[.int .i64 0,.slice none 0 0,.slice none 0 0,.slice none 0 0,.slice none 0 0,.slice none 0 0,.slice none 0 0] 26)=W from hW.symm,<-hq]
 clear hW hq
 go_upto_region 4 with (go_at_call 21;refine ai.mono ?_;rintro e w1 ⟨rfl,h1⟩;clear ai)
 have b1:Bx q w w1 n (.slice d1 k1 c1) (.slice d2 k2 c2) (.slice d3 k3 c3) (.slice d4 k4 c4) (.slice d5 k5 c5) (.slice d6 k6 c6):=HB.out.next (h1.out.mono HB.out.size)
 have ae:=Nn (w:=w1) (B:=B) (Pn:=Pn) (nums:=n.nums) (d1:=d1) (d2:=d2) (d3:=d3) (d4:=d4) (d5:=d5) (d6:=d6) (k1:=k1) (k2:=k2) (k3:=k3) (k4:=k4) (k5:=k5) (k6:=k6) (c1:=c1) (c2:=c2) (c3:=c3) (c4:=c4) (c5:=c5) (c6:=c6) (aO4 I.out.2.2.1 b1.bel.size) (I.out.1.m.carry fun b hb _=>⟨hb,b1.bel.block b (aO2 hb I.out.2.2.1)⟩) D.out.2.2
 clear a0 a1 a2 a3 a4 a5 a6
 obtain ⟨a0,a1,a2,a3,a4,a5,a6⟩:=Nx.lJ b1.b1
 rw[<-D.out.2.1] at a0
 have al:Hid (Bx q w w1 n (.slice d1 k1 c1) (.slice d2 k2 c2) (.slice d3 k3 c3) (.slice d4 k4 c4) (.slice d5 k5 c5) (.slice d6 k6 c6)):=b1
 clear b1 h1 HB
 go_upto_region 5 with (go_at_call 22;refine ae.mono ?_;rintro e V ⟨sb,Z,cs,rfl,hV⟩;clear ae)
 have am:=al.out.size
 have U:Hid (SM Z B V sb (2*Pn) n.nums (sX Pn) cs/\Bx q w V n (.slice d1 k1 c1) (.slice d2 k2 c2) (.slice d3 k3 c3) (.slice d4 k4 c4) (.slice d5 k5 c5) (.slice d6 k6 c6)/\(∀b,Z b->q+2≤b)):=
  ⟨hV.out.1,al.out.next (hV.out.2.1.mono am),fun b hb=>aO4 am (hV.out.2.2 b hb)⟩
 clear a0 a1 a2 a3 a4 a5 a6 hV am al
 obtain ⟨a0,a1,a2,a3,a4,a5,a6⟩:=Nx.lJ U.out.2.1.b1
 obtain ⟨_,bC,oC,_,bf,az,ao⟩:=I.out.1.c
 injection bf with hC3 hC4 hC5
 subst hC3 hC5
 have HC:Hid (k6=n.code.length/\(0<n.code.length->d6=some ⟨bC,oC,none⟩/\bC<B)/\_):=⟨hC4,az,ao⟩
 clear hC4 az ao
 go_wp2_with fail
 go_loopw [19] (fun i wr=>∃k:Nat,k≤k6/\i=.int .i64 k/\Hid (zZ Z B V wr sb (2*Pn+2*k) n.nums (sL Pn n.nums n.code k))) (fun i _=>k6-(intOf i).toNat)
 case atStart=>exact ⟨0,aP4 _,rfl,zZ.start U.out.1⟩
 case round=>
  obtain ⟨k,hk,rfl,HR⟩:=hrel
  obtain ⟨cW,u,ab⟩:=HR.out
  have HW:Hid (Bx q w wr n (.slice d1 k1 c1) (.slice d2 k2 c2) (.slice d3 k3 c3) (.slice d4 k4 c4) (.slice d5 k5 c5) (.slice d6 k6 c6)/\(∀b,Up Z V wr b->q+2≤b)):=⟨U.out.2.1.next (ab.below U.out.2.1.size U.out.2.2),fun b hb=>hb.elim (U.out.2.2 b) fun h=>aO4 U.out.2.1.size h.1⟩
  clear a0 a1 a2 a3 a4 a5 a6
  have ba:=I.out.2.1.c
  have aw:=HC.out.1
  have bp:k6≤4000:=by omega
  clear ba aw
  by_cases hlt:k<k6
  ·have br:=Nx.Sf d6 bC oC k6 c6 k hlt (fun h=>(HC.out.2.1 (by have:=HC.out.1;omega)).1)
   have ak:k<n.code.length:=by have:=HC.out.1;omega
   obtain ⟨sc,sd,sa,O,se,hs⟩:∃sc sd sa O se,n.code.getD k Nx.eD=⟨sc,sd,sa,O,se⟩:=⟨_,_,_,_,_,rfl⟩
   have aa:=I.out.2.1.s k ak
   rw[hs,<-D.out.2.1] at aa
   have aj:=(Nx.sD aa).1
   unfold Nx.cR at aj
   simp only[Bool.and_eq_true,decide_eq_true_eq] at aj
   obtain ⟨kd,rfl⟩:∃kd:Nat,sd=kd:=⟨sd.toNat,by omega⟩
   have ax:=(HC.out.2.1 (by omega)).2
   obtain ⟨x0,x1,x2,x3,x4⟩:=HC.out.2.2 k ak
   have au:wr.heap[bC]?=w.heap[bC]?:=HW.out.1.bel.block bC (aO2 ax I.out.2.2.1)
   rw[<-Nx.aY au,hs] at x0 x1 x2 x3 x4
   obtain ⟨Y,hY⟩:∃Y,Y=wr.alloc (.cells #[.int .i64 sc,.int .i64 (kd:Int),.int .i64 sa,.int .i64 O,.int .i64 se] 38):=⟨_,rfl⟩
   have bY:Below wr.heap.size wr Y:=by rw[hY];exact aL _ _
   have kY:Y.heap[wr.heap.size]?=some (.cells #[.int .i64 sc,.int .i64 (kd:Int),.int .i64 sa,.int .i64 O,.int .i64 se] 38 (0,0)):=by rw[hY];exact aX wr _
   obtain ⟨y0,y1,y2,y3,y4⟩:=Ur kY
   have ah:bM Z V Y:=ab.trans (bM.of_below (P:=Z) bY) fun _ _ h=>h
   have an:SM (Up Z V Y) B Y sb (2*Pn+2*k) n.nums (sL Pn n.nums n.code k) cW:=(u.below bY).upP (Up.size bY.size) U.out.1.up.1 U.out.1.up.2 ah.size
   have af:=(oO (P:=Pn) (nums:=n.nums) (cs:=n.code) (fun j hj=>by rw[D.out.2.1];exact I.out.2.1.s j hj) k (by omega)).1
   have ag:=aG8 an af (by have:=D.out.2.2;omega) aa D.out.2.2 I.out.2.1.m
   have HS:Hid (Sx.addS n.nums (sL Pn n.nums n.code k) ⟨sc,kd,sa,O,se⟩=sL Pn n.nums n.code (k+1)):=by rw[<-hs];rfl
   rw[HS.out] at ag
   have bk:Hid (bM Z V Y):=ah
   obtain ⟨b,hb⟩:∃b,b=wr.heap.size:=⟨_,rfl⟩
   rw[<-hb] at y0 y1 y2 y3 y4
   clear hs ak ax au bY kY aa aj u ab ah an af
   go_upto_region 8 with fail
   rw[<-hY,<-hb]
   clear hY hb
   go_wp2_with (go_at_call 23;refine ag.mono ?_;rintro e w2 ⟨rfl,h2⟩)
   go_roundw
   case rel=>
    obtain ⟨bv,bb,bh⟩:=h2.out
    refine ⟨k+1,by omega,by go_num,?_⟩
    exact zZ.up bk.out U.out.1.up.2 U.out.1.up.1 bb bh
   case measure=>simp[intOf];omega
  ·obtain rfl:k=k6:=by omega
   obtain ⟨M,hM⟩:∃M,M=sL Pn n.nums n.code k:=⟨_,rfl⟩
   rw[<-hM] at u
   have HM:Hid (M=sL Pn n.nums n.code n.code.length):=by unfold Hid;rw[hM,HC.out.1]
   obtain ⟨ac,y,ec⟩:=aP u.rc
   obtain ⟨-,-,-,-,-,u3,-⟩:=u.cells
   rw[ec] at u3
   have HF:Hid (Nx.jA (Up Z V wr) wr (.slice ac M.code.length y) M.code):=by
    have r2:=Ew.s9 (A:=Up Z V wr) u.rc fun g hg=>(u.pc g hg).1
    rw[ec] at r2
    exact r2
   have ay:¬sb=q+1:=by have:=HW.out.2 sb u.pb.1;omega
   have bq:¬q+1=sb:=fun e=>ay e.symm
   obtain ⟨z0,z1,z2,z3,z4,z5,-⟩:=Nx.lJ HW.out.1.b1
   rw[<-D.out.2.1] at z0
   obtain ⟨lc,ar⟩:∃l,l=M.code.length:=⟨_,rfl⟩
   have bi:Hid (lc≤y):=by
    unfold Hid
    have hr:=u.rc
    rw[ec] at hr
    obtain ⟨_,h|⟨g,cp,bu,he,_,_,h5,_⟩⟩:=hr
    ·have:=h.2;omega
    ·simp only[Value.slice.injEq] at he
     omega
   rw[<-ar] at u3 HF
   have HS:Hid (∀r,Below wr.heap.size wr r->r.cell? ⟨q,0,none⟩=some (.int .i64 (Pn:Int))/\r.cell? ⟨q,1,none⟩=some (.slice d1 k1 c1)/\r.cell? ⟨q,2,none⟩=some (.slice d2 k2 c2)/\r.cell? ⟨q,3,none⟩=some (.slice d3 k3 c3)/\r.cell? ⟨q,4,none⟩=some (.slice d4 k4 c4)/\r.cell? ⟨q,5,none⟩=some (.slice d5 k5 c5)/\r.cell? ⟨sb,5,none⟩=some (.slice ac lc y)):=fun r hb=>⟨aN hb z0,aN hb z1,aN hb z2,aN hb z3,aN hb z4,aN hb z5,aN hb u3⟩
   have HZ:Hid (∀r,Below wr.heap.size wr r->r.heap[q+1]?=some (.cells ZN 26 (0,0))):=fun r hb=>aD hb HW.out.1.b2
   have HI:Hid (∀r,Below wr.heap.size wr r->bH (· < B) r (.slice d1 k1 c1) n.first/\bH (· < B) r (.slice d2 k2 c2) n.ins/\bH (· < B) r (.slice d3 k3 c3) n.outs/\bH (· < B) r (.slice d4 k4 c4) n.keeps/\bH (· < B) r (.slice d5 k5 c5) n.nums):=fun r hb=>by
    have bw:Below w.heap.size w r:=aQ HW.out.1.bel hb
    have J:Nx.bB (· < B) (· < B) w r:=fun b hb _=>⟨hb,bw.block b (aO2 hb I.out.2.2.1)⟩
    exact ⟨I.out.1.f.carry J,I.out.1.i.carry J,I.out.1.o.carry J,I.out.1.k.carry J,I.out.1.m.carry J⟩
   have HD:Hid (Below wr.heap.size wr wr.drew):=(Below.refl _ wr).drew
   have ap:Hid (∀W v zs,Below wr.heap.size wr W->zs.length≤4000->bH (· < B) W v zs->Calls Tryz.prog 24 #[v] W fun e r=>∃f c,e=.returned (.slice f zs.length c)/\Hid (Below W.heap.size W r/\Below wr.heap.size wr r/\bH (fun b=>wr.heap.size≤b/\b<r.heap.size) r (.slice f zs.length c) zs)):=fun W v zs hb hl hi=>(Nx.aT7 hi (by omega)).mono fun e r ⟨f,c,he,h⟩=>⟨f,c,he,h.out.1,aQ hb h.out.1,h.out.2.carry fun b Q _=>⟨⟨aO4 hb.size Q.1,Q.2⟩,rfl⟩⟩
   have HQ:Hid (∀W v zs,Below wr.heap.size wr W->zs.length≤4000->bH (· < B) W v zs->Calls Tryz.prog 25 #[v] W fun e r=>∃f c,e=.returned (.slice f zs.length c)/\Hid (Below W.heap.size W r/\Below wr.heap.size wr r/\bH (fun b=>wr.heap.size≤b/\b<r.heap.size) r (.slice f zs.length c) zs)):=fun W v zs hb hl hi=>(Nx.clI hi (by omega)).mono fun e r ⟨f,c,he,h⟩=>⟨f,c,he,h.out.1,aQ hb h.out.1,h.out.2.carry fun b Q _=>⟨⟨aO4 hb.size Q.1,Q.2⟩,rfl⟩⟩
   have HL:Hid (n.ins.length≤4000/\n.outs.length≤4000/\n.keeps.length≤4000/\n.first.length≤4000/\n.nums.length≤4000):=by have:=I.out.2.1.l;have:=I.out.2.1.f;have:=I.out.2.1.p;have:=I.out.2.1.m;unfold Hid;omega
   have bg:=HS.out _ HD.out
   have T1:Hid True:=trivial
   have T2:Hid True:=trivial
   have T3:Hid True:=trivial
   have T4:Hid True:=trivial
   have T5:Hid True:=trivial
   clear hM u ab ec ar bp hlt
   go_upto_region 10 with fail
   go_region_held3 (fun r=>r.cell? ⟨q,0,none⟩=some (.int .i64 (Pn:Int))/\r.cell? ⟨q,1,none⟩=some (.slice d1 k1 c1)/\r.cell? ⟨q,2,none⟩=some (.slice d2 k2 c2)/\r.cell? ⟨q,3,none⟩=some (.slice d3 k3 c3)/\r.cell? ⟨q,4,none⟩=some (.slice d4 k4 c4)/\r.cell? ⟨q,5,none⟩=some (.slice d5 k5 c5)/\r.cell? ⟨sb,5,none⟩=some (.slice ac lc y)) (first|with_reducible exact be|with_reducible exact bn|with_reducible exact bc|with_reducible exact bm|with_reducible exact bo|with_reducible exact bg|go_keep)
    (first
     | (clear T1;go_at_call 24;refine (ap.out _ _ _ HD.out HL.out.2.2.2.1 (HI.out _ HD.out).1).mono ?_;rintro e w2 ⟨f1,g1,rfl,h2⟩;have bo:=HS.out _ h2.out.2.1)
     | (clear T2;go_at_call 25;refine (HQ.out w2 _ _ h2.out.2.1 HL.out.1 (HI.out _ h2.out.2.1).2.1).mono ?_;rintro e w3 ⟨f2,g2,rfl,h3⟩;have bm:=HS.out _ h3.out.2.1)
     | (clear T3;go_at_call 25;refine (HQ.out w3 _ _ h3.out.2.1 HL.out.2.1 (HI.out _ h3.out.2.1).2.2.1).mono ?_;rintro e w4 ⟨f3,g3,rfl,h4⟩;have bc:=HS.out _ h4.out.2.1)
     | (clear T4;go_at_call 25;refine (HQ.out w4 _ _ h4.out.2.1 HL.out.2.2.1 (HI.out _ h4.out.2.1).2.2.2.1).mono ?_;rintro e w5 ⟨f4,g4,rfl,h5⟩;have bn:=HS.out _ h5.out.2.1)
     | (clear T5;go_at_call 24;refine (ap.out w5 _ _ h5.out.2.1 HL.out.2.2.2.2 (HI.out _ h5.out.2.1).2.2.2.2).mono ?_;rintro e w6 ⟨f5,g5,rfl,h6⟩;have be:=HS.out _ h6.out.2.1;have kz:=HZ.out _ h6.out.2.1;obtain ⟨r0,r1,r2,r3,r4,r5,r6⟩:=Nx.lJ kz;have rf:=fun o=>aG kz o))
   all_goals
    go_wp2_with fail
    obtain ⟨X,hX⟩:∃X,X=((((((w6.setCell ⟨q+1,0,none⟩ (.int .i64 (Pn:Int))).setCell ⟨q+1,1,none⟩ (.slice f1 n.first.length g1)).setCell ⟨q+1,2,none⟩ (.slice f2 n.ins.length g2)).setCell ⟨q+1,3,none⟩ (.slice f3 n.outs.length g3)).setCell ⟨q+1,4,none⟩ (.slice f4 n.keeps.length g4)).setCell ⟨q+1,5,none⟩ (.slice f5 n.nums.length g5)).setCell ⟨q+1,6,none⟩ (.slice ac lc y):=⟨_,rfl⟩
    rw[<-hX]
    obtain ⟨y0,y1,y2,y3⟩:=Ew.Zi kz hX
    clear hX
    refine aY7 (Ic _ _ (q+1) _ _ rfl rfl rfl y0) rfl ?_
    have bz:=HW.out.1.hq
    have hsz:=HW.out.1.size
    have hx:∀b,b≠q+1->X.heap[b]?=w6.heap[b]?:=y1
    have J:∀(W:World) (A:Nat->Prop),Below W.heap.size W w6->(∀b,A b->b≠q+1)->Nx.bB A (· < X.heap.size) W X:=fun W A hW hA b hb hl=>⟨by show b<X.heap.size;rw[y3];exact aO2 hl hW.size,by rw[hx b (hA b hb),hW.block b hl]⟩
    have e6:Below w6.heap.size w6 w6:=Below.refl _ _
    have e5:=h6.out.1
    have e4:=aQ h5.out.1 e5
    have e3:=aQ h4.out.1 e4
    have e2:=aQ h3.out.1 e3
    refine ⟨f1,f2,f3,f4,f5,ac,_,g1,_,g2,_,g3,_,g4,_,g5,lc,y,by rw[D.out.2.1];rfl,y2 _ _ (aQ HW.out.1.bel h6.out.2.1) (by omega),⟨h2.out.2.2.carry (J _ _ e2 fun b hb=>by omega),h3.out.2.2.carry (J _ _ e3 fun b hb=>by omega),h4.out.2.2.carry (J _ _ e4 fun b hb=>by omega),h5.out.2.2.carry (J _ _ e5 fun b hb=>by omega),h6.out.2.2.carry (J _ _ e6 fun b hb=>by omega),?_⟩,bi.out⟩
    show Nx.jA _ X _ (sL n.places.toNat n.nums n.code n.code.length).code
    rw[<-D.out.1,<-HM.out]
    exact HF.out.carry (J _ _ h6.out.2.1 fun b hb=>by have:=HW.out.2 b hb;omega)
end
end Sx
end
end Go.Proofs.YthieaobjdpfcoaaGreatDoor
