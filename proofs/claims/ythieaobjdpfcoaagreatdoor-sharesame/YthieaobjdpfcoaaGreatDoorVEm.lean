import Derived.Test.YthieaobjdpfcoaaGreatDoorVNp2
import Derived.Test.YthieaobjdpfcoaaGreatDoorVNtC
import Derived.Deep.RegionHeld3
import Derived.Test.YthieaobjdpfcoaaGreatDoorVCk2
import Derived.Test.YthieaobjdpfcoaaGreatDoorVNt3
set_option maxRecDepth 100000
set_option maxHeartbeats 4000000
namespace Go.Proofs.YthieaobjdpfcoaaGreatDoor
section
open Go.RowKit
namespace Nx
theorem Dn (n:Nt) (w:World) (vF vI vO vK vN vC:Value) (rows:List (List Int)) (ac:Option Addr) (U c ag:Nat) (h:eJ w.heap.size w n vF vI vO vK vN vC) (hs:jB n) (br:n.first.length≤4000) (bk:n.outs.length≤4000) (aj:∀V:List Int,V.length=n.first.length->Ys n V) (ay:(fY n).1=0)
    (bu:rows.length≤40) (au:0<rows.length->ac=some ⟨U,c,none⟩/\U<w.heap.size) (ar:∀k,k<rows.length->∃u,w.cell? ⟨U,c+k,none⟩=some u/\bH (· < w.heap.size) w u (rows.getD k [])) :
    Calls Tryz.prog 26 #[.agg #[.int .i64 n.places,vF,vI,vO,vK,vN,vC],.slice ac rows.length ag] w fun e w'=>∃v,e=.returned (.tuple #[v,.bool true])/\bH (fun b=>w.heap.size≤b/\b<w'.heap.size) w' v (told n n.first rows rows.length)/\Below w.heap.size w w':=by
 have ai:Calls Tryz.prog 48 #[.agg #[.int .i64 n.places,vF,vI,vO,vK,vN,vC]] (w.alloc (.cells #[.int .i64 n.places,vF,vI,vO,vK,vN,vC] 26)) fun e w'=>∃r,e=.returned (.tuple #[.pointer (some ⟨r,0,none⟩),.nilIface])/\Hid (∃g,TO w.heap.size n w w' r g n.first (.slice none 0 0) []):=
  (Qz w.heap.size n _ vF vI vO vK vN vC (h.below (aE w _) (aN4 _)) (aE w _).size hs (by omega) ay).mono fun e w' ⟨r,g,he,hM,_,_,_,hb2⟩=>
   ⟨r,he,g,⟨hM,iH.nil _ _ _,by simp[Value.ownBlock],by simp[Value.ownBlock],iF (aE w _) hb2,aO4 (aE w _).size hb2.size⟩⟩
 have ap:Hid ((0<rows.length->ac=some ⟨U,c,none⟩/\U<w.heap.size)/\(∀k,k<rows.length->∃u,w.cell? ⟨U,c+k,none⟩=some u/\bH (· < w.heap.size) w u (rows.getD k []))):=⟨au,ar⟩
 have bg:Hid (∀V:List Int,V.length=n.first.length->Ys n V):=aj
 clear h hs ay au ar aj
 go_enter Tryz.func26,Tryz.ntmps26
 go_wp2_with (go_at_call 48;refine ai.mono ?_;rintro e w1 ⟨r,rfl,X⟩)
 clear ai
 go_loopw [8,9] (fun v i wr=>∃k:Nat,k≤rows.length/\i=.int .i64 k/\Hid (∃g,TO w.heap.size n w wr r g (oR n n.first rows k) v (told n n.first rows k))) (fun _ i _=>rows.length-(intOf i).toNat)
 case atStart=>exact ⟨0,aP4 _,rfl,X.out⟩
 case round=>
  clear X
  obtain ⟨k,hk,rfl,TT⟩:=hrel
  by_cases hlt:k<rows.length
  ·have bp:=aL3 ac U c rows.length ag k hlt (fun h=>(ap.out.1 h).1)
   obtain ⟨g,T0⟩:∃g,Hid (TO w.heap.size n w wr r g (oR n n.first rows k) u8 (told n n.first rows k)):=TT.out
   obtain ⟨zs,aa⟩:∃zs,zs=told n n.first rows k:=⟨_,rfl⟩
   obtain ⟨V,hV⟩:∃V,V=oR n n.first rows k:=⟨_,rfl⟩
   rw[<-aa,<-hV] at T0
   have bq:zs.length≤200000:=by
    rw[aa,Z5]
    have:=Nat.mul_le_mul hk (show n.outs.length+1≤4001 by omega)
    omega
   have an:Hid (Ys n V):=bg.out V (by rw[hV,Jt])
   obtain ⟨u,hu,hI⟩:=ap.out.2 k hlt
   have bc:=(ap.out.1 (by omega)).2
   obtain ⟨z,hz⟩:∃z,z=rows.getD k []:=⟨_,rfl⟩
   rw[<-hz] at hI
   have HZ:Hid (told n n.first rows (k+1)=(zs++[(zs.length:Int)])++tells n V z):=by unfold Hid;rw[told,<-aa,<-hV,<-hz]
   have bi:Hid (oR n n.first rows (k+1)=after n V z):=by unfold Hid;rw[oR,<-hV,<-hz]
   have D:Hid (∀w',Below w.heap.size w w'->w'.cell? ⟨U,c+k,none⟩=some u/\bH (· < w.heap.size) w' u z):=fun w' hb=>⟨by rw[aY (hb.block U bc)];exact hu,hI.carry fun b Z _=>⟨Z,hb.block b Z⟩⟩
   have c0:=(D.out wr T0.out.bl).1
   obtain ⟨ad,cap,al,_⟩:=T0.out.row.form
   subst al
   have hdr:Below wr.heap.size wr wr.drew:=⟨rfl,rfl,rfl,aN4 _,fun _ _=>rfl⟩
   have s:Hid (TO w.heap.size n w wr.drew r g V (.slice ad zs.length cap) zs):=T0.out.below hdr
   have bf:Below wr.drew.heap.size wr.drew (wr.drew.alloc (.cells #[.int .i64 (zs.length:Int)] 2)):=aE _ _
   have ao:Hid (TO w.heap.size n w (wr.drew.alloc (.cells #[.int .i64 (zs.length:Int)] 2)) r g V (.slice ad zs.length cap) zs):=s.out.below bf
   have I:∀(w':World) (q:Nat),w'.heap[q]?=some (.cells #[.int .i64 (zs.length:Int)] 2 (0,0))->bH (fun b=>b=q) w' (.slice (some ⟨q,0,none⟩) 1 1) [(zs.length:Int)]:=fun w' q hq=>
    ⟨some ⟨q,0,none⟩,q,0,1,rfl,fun _=>⟨rfl,rfl⟩,fun j hj=>by
     obtain rfl:j=0:=by simpa using hj
     exact aF hq 0⟩
   have ah:Hid (∀(w':World) (q:Nat),w'.heap[q]?=some (.cells #[.int .i64 (zs.length:Int)] 2 (0,0))->bH (fun b=>b=q) w' (.slice (some ⟨q,0,none⟩) 1 1) [(zs.length:Int)]):=I
   -- the first append ahead of the tick
   obtain ⟨g1,av,w2,E1,T1,-⟩:=ao.out.app (.slice (some ⟨wr.drew.heap.size,0,none⟩) 1 1) [(zs.length:Int)] (I _ _ (heap_alloc_new _ _)) (.inr (by simp)) (by simp;omega)
   have ae:=T1.tick z u (D.out w2 T1.bl).2 an.out
   have T1:Hid (TO w.heap.size n w w2 r g V (.slice (some ⟨g1,0,none⟩) (zs.length+1) av) (zs++[(zs.length:Int)])):=T1
   have ab:=s.out.tick z u (D.out _ s.out.bl).2 an.out
   have af:=ao.out.tick z u (D.out _ ao.out.bl).2 an.out
   have O:=(D.out w2 T1.out.bl).1
   have aw:(zs++[(zs.length:Int)]).length=zs.length+1:=by simp
   have y:Hid ((zs++[(zs.length:Int)]).length=zs.length+1):=aw
   have ak:Hid ((tells n V z).length≤4000):=by unfold Hid;rw[uM];exact bk
   have bo:Hid ((wr.drew.alloc (.cells #[.int .i64 (zs.length:Int)] 2)).heap[wr.drew.heap.size]?=some (.cells #[.int .i64 (zs.length:Int)] 2 (0,0))):=heap_alloc_new _ _
   clear TT hu hI bc hz aa hV hdr bf I aw
   go_wp2_with fail
   have bh:Hid (r<wr.drew.heap.size/\g<wr.drew.heap.size):=⟨s.out.m.lt,s.out.m.gl⟩
   have be:Hid (∀b,Value.ownBlock (.slice ad zs.length cap)=some b->b<wr.drew.heap.size):=fun b hb=>by obtain ⟨_,_,_,hk⟩:=s.out.row.form;exact (hk b hb).2
   go_region_held3 (fun w'=>w'.cell? ⟨U,c+k,none⟩=some u) (first|exact bj|exact am|exact bn|go_keep)
    ((first
      | (refine Z7 (by rfl) (.tmp 27) (.tmp 30) _ (by rfl) _ _ _ (by rfl) (by rfl) E1 ?_;have bn:=O)
      | (refine Z7 (by rfl) (.tmp 31) (.tmp 37) _ (by rfl) _ _ _ (by rfl) (by rfl) E2 ?_;have bj:=J)
      | (go_at_call 49;refine ae.mono ?_;rintro e w3 ⟨vr,rfl,Y⟩
         obtain ⟨g',T3,R3,-,-⟩:=Y.out
         obtain ⟨g4,l,w4,E2,T4,-⟩:=T3.app vr (tells n V z) R3 (.inl (by simp)) (by have:=ak.out;have:=y.out;omega)
         rw[y.out] at E2 T4
         have am:=(D.out w3 T3.bl).1
         have J:=(D.out w4 T4.bl).1
         have TZ:Hid (∃g,TO w.heap.size n w w4 r g (after n V z) (.slice (some ⟨g4,0,none⟩) (zs.length+1+(tells n V z).length) l) ((zs++[(zs.length:Int)])++tells n V z)):=⟨_,T4⟩
         clear T3 R3 T4 Y ae ab af E1)
      | (go_at_call 49;refine ab.mono ?_;rintro e w3 ⟨vr,rfl,Y⟩
         obtain ⟨g',T3,R3,-,-⟩:=Y.out
         have bb:=T3.below (aE w3 (.cells #[.int .i64 (zs.length:Int)] 2))
         have ba:=R3.carry (A':=fun b=>wr.drew.heap.size≤b/\b<w3.heap.size) (w':=w3.alloc (.cells #[.int .i64 (zs.length:Int)] 2)) (fun b hb Z=>⟨⟨hb.1,Z⟩,Below.heap_alloc _ _ _ Z⟩)
         obtain ⟨gx,ax,w5,Q,T5,G5⟩:=bb.app (.slice (some ⟨w3.heap.size,0,none⟩) 1 1) [(zs.length:Int)] (ah.out _ _ (heap_alloc_new _ _)) (.inr (by simp)) (by simp;omega)
         have R5:=ba.carry (A':=fun _=>True) (w':=w5) (fun b hb Z=>⟨trivial,G5.block b Z (fun e=>by have:=be.out b e.symm;omega)⟩)
         obtain ⟨g4,l,w4,E2,T4,-⟩:=T5.app vr (tells n V z) R5 (.inl (by simp)) (by have:=ak.out;have:=y.out;omega)
         rw[y.out] at E2 T4
         have am:=(D.out w3 T3.bl).1
         have O:=(D.out w5 T5.bl).1
         have J:=(D.out w4 T4.bl).1
         have E1:=Q
         have TZ:Hid (∃g,TO w.heap.size n w w4 r g (after n V z) (.slice (some ⟨g4,0,none⟩) (zs.length+1+(tells n V z).length) l) ((zs++[(zs.length:Int)])++tells n V z)):=⟨_,T4⟩
         clear T3 R3 T4 bb ba T5 G5 R5 Q Y ae ab af)
      | (go_at_call 49;refine af.mono ?_;rintro e w3 ⟨vr,rfl,Y⟩
         obtain ⟨g',T3,R3,F3,-⟩:=Y.out
         have az:=(F3.block wr.drew.heap.size (by simp) (by have:=bh.out;simp;omega)).trans bo.out
         obtain ⟨gx,ax,w5,Q,T5,G5⟩:=T3.app (.slice (some ⟨wr.drew.heap.size,0,none⟩) 1 1) [(zs.length:Int)] (ah.out _ _ az) (.inr (by simp)) (by simp;omega)
         have R5:=R3.carry (A':=fun _=>True) (w':=w5) (fun b hb Z=>⟨trivial,G5.block b Z (fun e=>by have:=be.out b e.symm;have:=hb.1;simp at this;omega)⟩)
         obtain ⟨g4,l,w4,E2,T4,-⟩:=T5.app vr (tells n V z) R5 (.inl (by simp)) (by have:=ak.out;have:=y.out;omega)
         rw[y.out] at E2 T4
         have am:=(D.out w3 T3.bl).1
         have O:=(D.out w5 T5.bl).1
         have J:=(D.out w4 T4.bl).1
         have E1:=Q
         have TZ:Hid (∃g,TO w.heap.size n w w4 r g (after n V z) (.slice (some ⟨g4,0,none⟩) (zs.length+1+(tells n V z).length) l) ((zs++[(zs.length:Int)])++tells n V z)):=⟨_,T4⟩
         clear T3 R3 F3 T4 T5 G5 R5 Q az Y ae ab af)))
   all_goals
    go_wp2_with fail
    go_roundw
    case rel=>exact ⟨k+1,by omega,by go_num,by rw[HZ.out,bi.out];exact TZ.out⟩
    case measure=>simp[intOf];omega
  ·obtain rfl:k=rows.length:=by omega
   obtain ⟨g,T0⟩:∃g,Hid (TO w.heap.size n w wr r g (oR n n.first rows rows.length) u8 (told n n.first rows rows.length)):=TT.out
   go_wp2
   go_ret2
   exact ⟨_,rfl,T0.out.row.ints,T0.out.bl⟩
end Nx
end
section
open Go.RowKit Go.Sort
namespace Nx
theorem aD4 {A:Nat->Prop}{w:World}{v:Value}{zs:List Int}(h:bH A w v zs) (hA:∀b,A b->b<w.heap.size):bH (· < w.heap.size) w v zs:=h.carry fun b hb _=>⟨hA b hb,rfl⟩
theorem aT7 {A:Nat->Prop}{v:Value}{zs:List Int}{w:World}(h:bH A w v zs) (k:zs.length≤100000) :
    Calls Tryz.prog 24 #[v] w fun e w'=>∃f c,e=.returned (.slice f zs.length c)/\Hid (Below w.heap.size w w'/\bH (fun b=>w.heap.size≤b/\b<w'.heap.size) w' (.slice f zs.length c) zs):=by
 refine (Iv v zs w h k).mono fun e w' ⟨v',he,ho,hb⟩=>?_
 have j:bH _ w' v' zs:=iH.ints (e:=2) (B:=w.heap.size) ho
 obtain ⟨f,_,_,c,rfl,_⟩:=id j
 exact ⟨f,c,he,hb,j⟩
theorem clI {A:Nat->Prop}{v:Value}{zs:List Int}{w:World}(h:bH A w v zs) (s:zs.length≤100000) :
    Calls Tryz.prog 25 #[v] w fun e w'=>∃f c,e=.returned (.slice f zs.length c)/\Hid (Below w.heap.size w w'/\bH (fun b=>w.heap.size≤b/\b<w'.heap.size) w' (.slice f zs.length c) zs):=by
 have fin:∀(w':World) (k:Value),w'.ownsRow w.heap.size 3 1 k zs.length (zs.map (Value.int .i64))->∃f c,k=.slice f zs.length c/\bH (fun b=>w.heap.size≤b/\b<w'.heap.size) w' (.slice f zs.length c) zs:=fun w' k n=>by
  have l:=iH.ints (e:=3) (B:=w.heap.size) n
  obtain ⟨f,_,_,c,rfl,_⟩:=id l
  exact ⟨f,c,rfl,l⟩
 by_cases hp:0<zs.length
 ·refine (Uh v zs w h s hp).mono fun e w' ⟨k,he,n,_,hb⟩=>?_
  obtain ⟨f,c,rfl,l⟩:=fin w' k n
  exact ⟨f,c,he,hb,l⟩
 ·obtain rfl:zs=[]:=aR2.1 (by omega)
  obtain ⟨y,b,r,cap,rfl,-,-⟩:=h
  cases y with
  | none=>exact (Tryz.slices_Clone_int_nil 0 cap w).mono fun e w' ⟨he,hw⟩=>⟨none,0,he,by rw[hw];exact Below.refl _ _,none,0,0,0,rfl,fun h=>absurd h (by simp),fun j u=>absurd u (by simp)⟩
  | some a=>
   refine (Tryz.slices_Clone_int_zero a cap w).mono fun e w' ⟨k,he,n,_,hb⟩=>?_
   obtain ⟨f,c,rfl,l⟩:=fin w' k n
   exact ⟨f,c,he,hb,l⟩
structure pB (w:World) (adr:Option Addr) (bR offR:Nat) (rows:List (List Int)):Prop where
 few:rows.length≤40
 a:0<rows.length->adr=some ⟨bR,offR,none⟩/\bR<w.heap.size
 c:∀k,k<rows.length->∃u,w.cell? ⟨bR,offR+k,none⟩=some u/\bH (· < w.heap.size) w u (rows.getD k [])
theorem pB.below {w w':World}{adr:Option Addr}{bR offR:Nat}{rows:List (List Int)}(h:pB w adr bR offR rows) (hb:Below w.heap.size w w'):pB w' adr bR offR rows:=
 ⟨h.few,fun hp=>⟨(h.a hp).1,aO2 (h.a hp).2 hb.size⟩,fun k hk=>by
  obtain ⟨u,h1,h2⟩:=h.c k hk
  exact ⟨u,bG hb h1,h2.carry fun b hl _=>⟨aO2 hl hb.size,hb.block b hl⟩⟩⟩
structure kK (n:Nt):Prop where
 p:0≤n.places/\n.places≤4000
 f:(n.first.length:Int)=n.places
 c:n.code.length≤4000
 m:n.nums.length≤4000
 l:n.ins.length+n.outs.length+n.keeps.length≤4000
 s:∀k,k<n.code.length->eA n.places n.nums.length (n.code.getD k eD)=0
 i:∀p∈n.ins,cR n.places p=true
 o:∀p∈n.outs,cR n.places p=true
 k:∀p∈n.keeps,cR n.places p=true
 d:n.ins.Nodup
theorem yH (P:Int) (nums:Nat):∀(l:List Sp) (i:Nat),(lQ P nums l i).1=0->∀s∈l,eA P nums s=0
 | [],_,_,s,hs=>by cases hs
 | a::r,i,h,s,hs=>by
  rw[lQ] at h
  split at h
  ·rename_i h0
   rcases aV8.1 hs with rfl|hs
   ·exact h0
   ·exact yH P nums r _ h s hs
  ·rename_i h0;exact absurd h h0
theorem Ho {n:Nt}(h:fY n=(0,-1)):kK n:=by
 unfold fY at h
 by_cases hw:dD n=0
 ·rw[if_pos hw] at h
  have j:=yH _ _ _ _ (by rw[h])
  unfold dD at hw
  split at hw
  ·omega
  ·split at hw
   ·omega
   ·split at hw
    ·omega
    ·split at hw
     ·omega
     ·rename_i h1 h2 c h4
      have c:=Classical.not_not.1 c
      exact ⟨⟨by omega,by omega⟩,Classical.not_not.1 h2,by omega,by omega,by omega,fun k l=>j _ (by simp[List.getD_eq_getElem?_getD,l]),aX6.1 c.1,aX6.1 c.2.1,aX6.1 c.2.2,Classical.not_not.1 h4⟩
 ·rw[if_neg hw] at h
  injection h with h
  exact absurd h hw
theorem Hn {n:Nt}(h:kK n):fY n=(0,-1):=by
 have j:dD n=0:=by
  unfold dD
  have:=h.p;have:=h.c;have:=h.m;have:=h.l
  rw[if_neg (by omega),if_neg (fun e=>e h.f),if_neg (fun e=>e ⟨aX6.2 h.i,aX6.2 h.o,aX6.2 h.k⟩),if_neg (fun e=>e h.d)]
 unfold fY
 rw[if_pos j,vY _ _ _ h.s]
theorem kK.small {n:Nt}(h:kK n):jB n:=⟨by have:=h.p;omega,by have:=h.c;omega,by have:=h.m;omega,by have:=h.l;omega⟩
theorem kK.few {n:Nt}(h:kK n) (V:List Int) (j:V.length=n.first.length):Ys n V:=by
 have:=h.p;have:=h.f;have:=h.c;have:=h.l
 exact ⟨by omega,by omega,by omega,by omega,by omega⟩
theorem xX {n:Nt}{w:World}{y J Q I D O:Value}{rows:List (List Int)}{r:Option Addr}{X k:Nat}(j:Nat) (s:kK n) (h:eJ w.heap.size w n y J Q I D O) (U:pB w r X k rows) :
    Calls Tryz.prog 26 #[.agg #[.int .i64 n.places,y,J,Q,I,D,O],.slice r rows.length j] w fun e w'=>∃f c,e=.returned (.tuple #[.slice f (told n n.first rows rows.length).length c,.bool true])/\Hid (Below w.heap.size w w'/\bH (· < w'.heap.size) w' (.slice f (told n n.first rows rows.length).length c) (told n n.first rows rows.length)):=by
 have:=s.p;have:=s.f;have:=s.l
 refine (Dn n w y J Q I D O rows r X k j h s.small (by omega) (by omega) s.few (by rw[Hn s]) U.few U.a U.c).mono fun e w' ⟨v,he,u,hb⟩=>?_
 have u:=aD4 u fun b hb=>hb.2
 obtain ⟨f,_,_,c,rfl,_⟩:=id u
 exact ⟨f,c,he,hb,u⟩
theorem blk {w w':World}{b:Nat}{o:Obj}(h:Below w.heap.size w w') (hb:w.heap[b]?=some o):w'.heap[b]?=some o:=by rw[h.block b (aB hb)];exact hb
theorem aT4 {p q:Prop}(a:p) (b:q):Hid (p/\q):=⟨a,b⟩
theorem aT3 {p q r:Prop}(a:p) (b:q) (c:r):Hid (p/\q/\r):=⟨a,b,c⟩
theorem Z4 {n m:Nt}(R:List Int->List Int->Prop) (h0:R n.first m.first) (hs:∀V V' ins,R V V'->tells m V' ins=tells n V ins/\R (after n V ins) (after m V' ins)) (rows:List (List Int)):∀k,told m m.first rows k=told n n.first rows k/\R (oR n n.first rows k) (oR m m.first rows k)
 | 0=>⟨rfl,h0⟩
 | k+1=>by
  obtain ⟨h1,h2⟩:=Z4 R h0 hs rows k
  obtain ⟨h3,h4⟩:=hs _ _ (rows.getD k []) h2
  exact ⟨by rw[told,told,h1,h3],h4⟩
theorem Tn {w:World}{rows:List (List Int)}{l:Option Addr}{r c:Nat}(j:Nat) (s:0<rows.length->l=some ⟨r,c,none⟩/\r<w.heap.size) (y:∀k,k<rows.length->∃u,w.cell? ⟨r,c+k,none⟩=some u/\bH (· < w.heap.size) w u (rows.getD k [])) :
    Calls Tryz.prog 6 #[.slice l rows.length j] w fun e w'=>∃b,e=.returned (.bool b)/\w'=w/\Hid (b=true->pB w l r c rows):=by
 by_cases h40:rows.length≤40
 ·refine (Yf l rows.length j r c w (fun k=>(rows.getD k []).length) h40 (fun h=>(s h).1) fun k J=>?_).mono fun e w' ⟨h,hw⟩=>?_
  ·obtain ⟨u,I,O,b,D,cap,rfl,_⟩:=y k J
   exact ⟨O,cap,I⟩
  ·rcases h with ⟨n,_⟩|⟨n,_⟩
   ·exact ⟨true,n,hw,fun _=>⟨h40,s,y⟩⟩
   ·exact ⟨false,n,hw,fun h=>by cases h⟩
 ·exact (Ye l rows.length j w (by omega)).mono fun e w' ⟨n,hw⟩=>⟨false,n,hw,fun h=>by cases h⟩
theorem lJ {w:World}{T:TypeId}{p vF vI vO vK vN vC:Value}{b:Nat}(h:w.heap[b]?=some (.cells #[p,vF,vI,vO,vK,vN,vC] T (0,0))):w.cell? ⟨b,0,none⟩=some p/\w.cell? ⟨b,1,none⟩=some vF/\w.cell? ⟨b,2,none⟩=some vI/\w.cell? ⟨b,3,none⟩=some vO/\w.cell? ⟨b,4,none⟩=some vK/\w.cell? ⟨b,5,none⟩=some vN/\w.cell? ⟨b,6,none⟩=some vC:=
 ⟨aF h 0,aF h 1,aF h 2,aF h 3,aF h 4,aF h 5,aF h 6⟩
theorem Dx {n m:Nt}{w:World}{d1 d2 d3 d4 d5 d6 e1 e2 e3 e4 Z e6:Option Addr}{k1 c1 k2 c2 k3 c3 k4 c4 k5 c5 k6 c6 l1 o1 l2 o2 c o3 l4 o4 l5 o5 l6 o6:Nat}{rows:List (List Int)}{O:Option Addr}{bR y:Nat}(j:Nat) (hn:kK n) (hm:kK m) (hN:eJ w.heap.size w n (.slice d1 k1 c1) (.slice d2 k2 c2) (.slice d3 k3 c3) (.slice d4 k4 c4) (.slice d5 k5 c5) (.slice d6 k6 c6)) (hM:eJ w.heap.size w m (.slice e1 l1 o1) (.slice e2 l2 o2) (.slice e3 c o3) (.slice e4 l4 o4) (.slice Z l5 o5) (.slice e6 l6 o6)) (hR:pB w O bR y rows) (ht:told m m.first rows rows.length=told n n.first rows rows.length) (hi:m.ins.length=n.ins.length) (ho:m.outs.length=n.outs.length) :
    Calls Tryz.prog 10 #[.agg #[.int .i64 n.places,.slice d1 k1 c1,.slice d2 k2 c2,.slice d3 k3 c3,.slice d4 k4 c4,.slice d5 k5 c5,.slice d6 k6 c6],.agg #[.int .i64 m.places,.slice e1 l1 o1,.slice e2 l2 o2,.slice e3 c o3,.slice e4 l4 o4,.slice Z l5 o5,.slice e6 l6 o6],.slice O rows.length j] w fun e w'=>e=.returned (.bool true)/\Hid (Below w.heap.size w w'):=by
 have q2:k2=n.ins.length:=by obtain ⟨_,_,_,_,h,_⟩:=hN.i;injection h
 have q3:k3=n.outs.length:=by obtain ⟨_,_,_,_,h,_⟩:=hN.o;injection h
 have s2:l2=n.ins.length:=by obtain ⟨_,_,_,_,h,_⟩:=hM.i;rw[<-hi];injection h
 have s3:c=n.outs.length:=by obtain ⟨_,_,_,_,h,_⟩:=hM.o;rw[<-ho];injection h
 obtain ⟨x2,aa⟩:∃x,x=n.ins.length:=⟨_,rfl⟩
 obtain ⟨x3,ac⟩:∃x,x=n.outs.length:=⟨_,rfl⟩
 rw[<-aa] at q2 s2
 rw[<-ac] at q3 s3
 subst q2 q3 s2 s3
 obtain ⟨pn,X⟩:∃p,p=n.places:=⟨_,rfl⟩
 obtain ⟨pm,D⟩:∃p,p=m.places:=⟨_,rfl⟩
 obtain ⟨U,hU⟩:∃U,U=w.alloc (.cells #[.int .i64 pn,.slice d1 k1 c1,.slice d2 l2 c2,.slice d3 c c3,.slice d4 k4 c4,.slice d5 k5 c5,.slice d6 k6 c6] 26):=⟨_,rfl⟩
 obtain ⟨W,hW⟩:∃W,W=U.alloc (.cells #[.int .i64 pm,.slice e1 l1 o1,.slice e2 l2 o2,.slice e3 c o3,.slice e4 l4 o4,.slice Z l5 o5,.slice e6 l6 o6] 26):=⟨_,rfl⟩
 obtain ⟨q,hq⟩:∃q,q=w.heap.size:=⟨_,rfl⟩
 have sU:U.heap.size=q+1:=by rw[hU,hq];simp
 have bU:Below w.heap.size w U:=by rw[hU];exact aE _ _
 have bW:Below U.heap.size U W:=by rw[hW];exact aE _ _
 have kU:U.heap[q]?=some (.cells #[.int .i64 pn,.slice d1 k1 c1,.slice d2 l2 c2,.slice d3 c c3,.slice d4 k4 c4,.slice d5 k5 c5,.slice d6 k6 c6] 26 (0,0)):=by rw[hU,hq];exact heap_alloc_new _ _
 have kW:W.heap[q]?=some (.cells #[.int .i64 pn,.slice d1 k1 c1,.slice d2 l2 c2,.slice d3 c c3,.slice d4 k4 c4,.slice d5 k5 c5,.slice d6 k6 c6] 26 (0,0)):=by rw[bW.block q (by omega)];exact kU
 have kV:W.heap[q+1]?=some (.cells #[.int .i64 pm,.slice e1 l1 o1,.slice e2 l2 o2,.slice e3 c o3,.slice e4 l4 o4,.slice Z l5 o5,.slice e6 l6 o6] 26 (0,0)):=by rw[hW,<-sU];exact heap_alloc_new _ _
 have bw:Below w.heap.size w W:=iF bU bW
 have HT:Hid (∀w1,Below w.heap.size w w1->eJ w1.heap.size w1 n (.slice d1 k1 c1) (.slice d2 l2 c2) (.slice d3 c c3) (.slice d4 k4 c4) (.slice d5 k5 c5) (.slice d6 k6 c6)/\eJ w1.heap.size w1 m (.slice e1 l1 o1) (.slice e2 l2 o2) (.slice e3 c o3) (.slice e4 l4 o4) (.slice Z l5 o5) (.slice e6 l6 o6)/\pB w1 O bR y rows):=fun w1 hb=>⟨hN.below hb hb.size,hM.below hb hb.size,hR.below hb⟩
 have HM:Hid (kK m/\told m m.first rows rows.length=told n n.first rows rows.length/\pm=m.places):=⟨hm,ht,D⟩
 have k:=xX j hn (HT.out W bw).1 (HT.out W bw).2.2
 obtain ⟨zs,r⟩:∃zs,zs=told n n.first rows rows.length:=⟨_,rfl⟩
 have HZ:Hid (zs.length≤1000000):=by
  unfold Hid
  rw[r,Z5]
  have Q:=hR.few
  have u:n.outs.length+1≤4001:=by have:=hn.l;omega
  have:=Nat.mul_le_mul Q u
  omega
 have ad:Hid (zs=told n n.first rows rows.length):=r
 rw[<-r,<-X] at k
 obtain ⟨z,hz⟩:∃z,z=zs.length:=⟨_,rfl⟩
 rw[<-hz] at k
 have ae:Hid (z=zs.length):=hz
 obtain ⟨a0,a1,a2,a3,a4,a5,a6⟩:=lJ kW
 obtain ⟨b0,b1,b2,b3,b4,b5,b6⟩:=lJ kV
 have HB:Hid (Below w.heap.size w W/\W.heap[q]?=some (.cells #[.int .i64 pn,.slice d1 k1 c1,.slice d2 l2 c2,.slice d3 c c3,.slice d4 k4 c4,.slice d5 k5 c5,.slice d6 k6 c6] 26 (0,0))/\W.heap[q+1]?=some (.cells #[.int .i64 pm,.slice e1 l1 o1,.slice e2 l2 o2,.slice e3 c o3,.slice e4 l4 o4,.slice Z l5 o5,.slice e6 l6 o6] 26 (0,0))):=⟨bw,kW,kV⟩
 rw[hU] at hW
 rw[<-X,<-D]
 clear hn hm hN hM hR ht hi ho aa ac X D hU sU bU bW kU kW kV bw r hz
 go_enter Tryz.func10,Tryz.ntmps10
 go_upto_region 1 with fail
 rw[<-hW,<-hq]
 clear hW hq
 go_upto_region 2 with (go_at_call 26;refine k.mono ?_;rintro e w1 ⟨f1,g1,rfl,Q⟩;clear k)
 have s:=iF HB.out.1 Q.out.1
 have I:=xX j HM.out.1 (HT.out w1 s).2.1 (HT.out w1 s).2.2
 rw[HM.out.2.1,<-HM.out.2.2,<-ad.out,<-ae.out] at I
 have H1:Hid (Below w.heap.size w w1/\bH (· < w1.heap.size) w1 (.slice f1 z g1) zs):=⟨s,Q.out.2⟩
 have j1:=blk Q.out.1 HB.out.2.1
 have Y:=blk Q.out.1 HB.out.2.2
 have ab:=aT4 j1 Y
 clear a0 a1 a2 a3 a4 a5 a6 b0 b1 b2 b3 b4 b5 b6 Q s
 obtain ⟨b0,b1,b2,b3,b4,b5,b6⟩:=lJ Y
 clear j1 Y
 go_upto_region 3 with (go_at_call 26;refine I.mono ?_;rintro e w2 ⟨f2,g2,rfl,u⟩;clear I)
 have j1:=blk u.out.1 ab.out.1
 have Y:=blk u.out.1 ab.out.2
 clear b0 b1 b2 b3 b4 b5 b6
 obtain ⟨-,-,a2,a3,-,-,-⟩:=lJ j1
 obtain ⟨-,-,b2,b3,-,-,-⟩:=lJ Y
 have J:=Pp (A:=fun b=>b<w1.heap.size) (A':=fun b=>b<w2.heap.size) _ _ zs w2 (H1.out.2.carry fun b hb hl=>⟨hb,u.out.1.block b hl⟩) u.out.2 HZ.out
 have HF:=aT3 (iF H1.out.1 u.out.1) j1 Y
 clear j1 Y u
 go_wp2_with (go_at_call 27;refine J.mono ?_;rintro e w3 ⟨rfl,h3⟩;obtain ⟨-,-,x2,x3,-,-,-⟩:=lJ (blk h3 HF.out.2.1);obtain ⟨-,-,y2,y3,-,-,-⟩:=lJ (blk h3 HF.out.2.2))
 go_ret
 exact ⟨rfl,iF HF.out.1 h3⟩
end Nx
end
section
namespace Px
open Go.Deep (BT)
namespace Em
open Nx (Nt Sp)
structure Vr where
 now:Int
 was:Int
 first:Int
structure Kd where
 net:Nt
 vars:bE->Vr
 nums:Int->Option Int
abbrev M:=StateT Kd Option
def thrown {α:Type}:M α:=fun _=>none
def place (x:Int):M Int:=fun k=>some (k.net.places,{ k with net:={ k.net with first:=k.net.first++[x],places:=k.net.places+1 } })
def kept (x:Int):M Int:=do
 let p <-place x
 modify fun k=>{ k with net:={ k.net with keeps:=k.net.keeps++[p] } }
 pure p
def add (s:Sp):M Unit:=fun k=>if 4000≤k.net.code.length then none else some ((),{ k with net:={ k.net with code:=k.net.code++[s] } })
def made (c a b d:Int):M Int:=do
 let p <-place 0
 add ⟨c,p,a,b,d⟩
 pure p
def bS (n:Int):M Int:=do
 let k <-get
 match k.nums n with
 | some p=>pure p
 | none=>do
  let p <-made 1 k.net.nums.length 0 0
  modify fun k=>{ k with net:={ k.net with nums:=k.net.nums++[n] },nums:=fun m=>if m=n then some p else k.nums m }
  pure p
def tX (a b:Int):M Int:=if a=-1\/b=-1 then pure (-1) else made 15 a b 0
def uZ (a b:Int):M Int:=if a=-1 then pure b else if b=-1 then pure a else made 16 a b 0
def dU (a b:Int):M Int:=if b=-1 then pure a else if a=-1\/a=b then pure (-1) else made 13 b a 0
def given (so p:Int):M Int:=do
 let z <-bS 0
 made 17 so p z
def put (dst so from_:Int):M Unit:=add ⟨17,dst,so,from_,dst⟩
def sN (s:bE):M Int:=do
 let k <-get
 let v:=k.vars s
 if v.was=-1 then do
  let p <-kept v.first
  modify fun k=>{ k with vars:=fun t=>if t=s then ⟨v.now,p,v.first⟩ else k.vars t }
  pure p
 else pure v.was
def Zl (s:bE):M Int:=do
 let k <-get
 pure (k.vars s).now
def eP:E->M Int
 | .nil=>bS 0
 | .node _ _ a l r=>
  if a.code=1 then bS a.num
  else if a.code=2 then Zl a.name
  else if a.code=3 then sN a.name
  else if a.code=4\/a.code=5 then do
   let x <-eP l
   made a.code x 0 0
  else if a.code<6\/16<a.code then bS 0
  else do
   let x <-eP l
   let y <-eP r
   made a.code x y 0
def Cy (so:Int):List iY->M Unit
 | []=>pure ()
 | s::r=>do
  let p <-Zl s.name
  let x <-eP s.e
  put p so x
  Cy so r
def vM (so:Int) (l:List iY):M Unit:=if so=-1 then pure () else Cy so l
def is (p:Int) (i:Nat):M Int:=do
 let x <-bS ((i:Int)+1)
 made 11 p x 0
structure eQ where
 drawn:Wy
 «to»:Int
 left:Int
structure eR (σ ρ:Type) where
 drawn:cF σ
 ways:List eQ
 inside:List ρ
 idle:Bool
 leaves:Bool
structure jP (σ ρ:Type) where
 states:List (eR σ ρ)
 order:List Nat
 first:Int
 there:Int
 idle:Bool
 leaves:Bool
def Rg:Nat->Type
 | 0=>Unit
 | k+1=>jP (St k) (Rg k)
abbrev cX:=List (List (Int×Bool))
def eC (t:cX) (i:Int) (so:Int) (back:Bool):cX:=t.set i.toNat (t.getD i.toNat []++[(so,back)])
structure xM (σ ρ:Type) where
 lay:List σ->M ρ
 size:ρ->Nat
 there:ρ->Int
 idle:ρ->Bool
 leaves:ρ->Bool
 over:ρ->M Int
 leave:ρ->Int->M Unit
 enter:ρ->Int->Int->M Unit
 goOn:ρ->Int->cX->M Unit
def Er:E->Bool
 | .nil=>true
 | .node _ _ _ _ _=>false
section
variable {σ ρ:Type}
def Ga (l:List (cF σ)):Int:=match l.findIdx? (·.first) with|some i=>(i:Int)|none=>-1
def jZ (names:List bE):List Wy->M (List eQ)
 | []=>pure []
 | y::r=>do
  let p <-if 1<y.times then kept 0 else pure (-1)
  let t <-jZ names r
  pure (⟨y,eG names y.to,p⟩::t)
def pW (O:xM σ ρ):List (List σ)->M (List ρ)
 | []=>pure []
 | g::r=>do
  let x <-O.lay g
  let t <-pW O r
  pure (x::t)
def jD (O:xM σ ρ) (names:List bE) (s:cF σ):M (eR σ ρ):=do
 let ins <-pW O s.regions
 let ws <-jZ names s.ways
 pure ⟨s,ws,ins,decide (s.during.length+s.ways.length=0)&&ins.all O.idle,decide (0<s.leave.length)||ins.any O.leaves⟩
def fL (O:xM σ ρ) (names:List bE):List (cF σ)->M (List (eR σ ρ))
 | []=>pure []
 | s::r=>do
  let x <-jD O names s
  let t <-fL O names r
  pure (x::t)
def lay (O:xM σ ρ) (l:List (cF σ)):M (jP σ ρ):=do
 let f:=Ga l
 let p <-kept (f+1)
 let ss <-fL O (bD l) l
 pure ⟨ss,(eO (cQ l)).getD [],f,p,ss.all (·.idle),ss.any (·.leaves)⟩
def oY (p:Int):List (eR σ ρ)->Nat->Int->M Int
 | [],_,o=>pure o
 | s::r,i,o=>if s.drawn.last then do
    let x <-is p i
    let o' <-uZ o x
    oY p r (i+1) o'
  else oY p r (i+1) o
def over (g:jP σ ρ):M Int:=oY g.there g.states 0 (-1)
def wP (O:xM σ ρ):List ρ->Int->M Int
 | [],so=>pure so
 | g::r,so=>do
  let x <-O.over g
  let so' <-tX so x
  wP O r so'
def pX (O:xM σ ρ) (s:eR σ ρ) (y:eQ) (so0:Int):M Int:=do
 let so1 <-if y.drawn.kind=2 then wP O s.inside so0 else pure so0
 if so1=-1 then pure (-1) else do
 let so2 <-if Er y.drawn.cond then pure so1 else do
  let x <-eP y.drawn.cond
  tX so1 x
 if y.left=-1 then pure so2 else do
 add ⟨7,y.left,y.left,so2,0⟩
 made 13 y.left so2 0
def gG (O:xM σ ρ) (s:eR σ ρ) (so:Int) (asked:Wy->Bool):List eQ->Int->Int->Int->List (eQ×Int)->M (List (eQ×Int)×Int)
 | [],_,_,taken,l=>pure (l,taken)
 | y::r,rest,ahead,taken,l=>
  if so=-1\/asked y.drawn=false then gG O s so asked r rest ahead taken l else do
  let rest' <-dU rest ahead
  let ahead' <-pX O s y rest'
  if ahead'=rest' then pure (l++[(y,ahead')],so) else do
  let taken' <-uZ taken ahead'
  gG O s so asked r rest' ahead' taken' (l++[(y,ahead')])
def choose (O:xM σ ρ) (s:eR σ ρ) (so:Int) (asked:Wy->Bool):M (List (eQ×Int)×Int):=gG O s so asked s.ways so (-1) (-1) []
def take:List (eQ×Int)->cX->M cX
 | [],t=>pure t
 | c::r,t=>do
  vM c.2 c.1.drawn.sets
  take r (eC t c.1.to c.2 c.1.drawn.back)
def dI (O:xM σ ρ):List ρ->Int->M Unit
 | [],_=>pure ()
 | g::r,so=>do
  O.leave g so
  dI O r so
def jI (O:xM σ ρ) (here:Int):List (eR σ ρ)->Nat->M Unit
 | [],_=>pure ()
 | s::r,i=>if s.leaves then do
    let gone <-is here i
    dI O s.inside gone
    vM gone s.drawn.leave
    jI O here r (i+1)
  else jI O here r (i+1)
def leave (O:xM σ ρ) (g:jP σ ρ) (so:Int):M Unit:=if so=-1\/g.leaves=false then pure () else do
 let here <-given so g.there
 jI O here g.states 0
def fS (so:Int):List eQ->M Unit
 | []=>pure ()
 | y::r=>if y.left=-1 then fS so r else do
  let x <-bS y.drawn.times
  put y.left so x
  fS so r
def mP (O:xM σ ρ) (on back:Int):List ρ->M Unit
 | []=>pure ()
 | g::r=>do
  O.enter g on back
  mP O on back r
def fG (O:xM σ ρ) (s:eR σ ρ) (so back:Int) (t:cX):M cX:=do
 fS so s.ways
 vM so s.drawn.enter
 let c1 <-choose O s so fun y=>y.now&&decide (y.kind=1)
 let on <-dU so c1.2
 let back' <-if on=so then pure back else tX on back
 mP O on back' s.inside
 let c2 <-choose O s on fun y=>y.now && !decide (y.kind=1)
 if s.leaves then do
  dI O s.inside c2.2
  let e <-uZ c1.2 c2.2
  vM e s.drawn.leave
 let t' <-take c1.1 t
 take c2.1 t'
def J6:List (Int×Bool)->Int->M Int
 | [],so=>pure so
 | a::r,so=>do
  let so' <-uZ so a.1
  J6 r so'
def iQ (has:Bool):List (Int×Bool)->Int->M Int
 | [],b=>pure b
 | a::r,b=>if a.2&&has then do
    let b' <-uZ b a.1
    iQ has r b'
  else iQ has r b
def dX (O:xM σ ρ) (g:jP σ ρ):List Nat->cX->M Unit
 | [],_=>pure ()
 | i::r,t=>do
  let so <-J6 (t.getD i []) (-1)
  if so=-1 then dX O g r t else
  match g.states[i]? with
  | none=>thrown
  | some s=>do
   let x <-bS ((i:Int)+1)
   put g.there so x
   let b <-iQ (decide (0<s.inside.length)) (t.getD i []) (-1)
   let t' <-fG O s so b t
   dX O g r t'
def wT (was:Int):Nat->Nat->cX->M cX
 | 0,_,t=>pure t
 | n+1,i,t=>do
  let x <-is was i
  wT was n (i+1) (eC t i x true)
def enter (O:xM σ ρ) (g:jP σ ρ) (so back:Int):M Unit:=if so=-1 then pure () else do
 let t <-if back=-1 then pure (List.replicate g.states.length []) else do
  let w <-given back g.there
  wT w g.states.length 0 (List.replicate g.states.length [])
 let f <-dU so back
 dX O g g.order (eC t g.first f false)
def pZ (O:xM σ ρ) (on:Int):List ρ->M Unit
 | []=>pure ()
 | g::r=>if on=-1\/O.idle g=true then pZ O on r else do
  let h <-given on (O.there g)
  O.goOn g h (List.replicate (O.size g) [])
  pZ O on r
def eT (O:xM σ ρ) (s:eR σ ρ) (so:Int) (t:cX):M cX:=do
 let c1 <-choose O s so fun y=>decide (y.kind=1)
 let on0 <-dU so c1.2
 let on <-if Er s.drawn.rests\/on0=-1 then pure on0 else do
  let x <-eP s.drawn.rests
  let z <-bS 0
  made 17 x z on0
 vM on s.drawn.during
 pZ O on s.inside
 let c2 <-choose O s on fun y=>!decide (y.kind=1)
 if s.leaves then do
  let gone <-uZ c1.2 c2.2
  dI O s.inside gone
  vM gone s.drawn.leave
 let t' <-take c1.1 t
 take c2.1 t'
def Gb (O:xM σ ρ) (here:Int):List (eR σ ρ)->Nat->cX->M cX
 | [],_,t=>pure t
 | s::r,i,t=>if s.idle then Gb O here r (i+1) t else do
  let so <-is here i
  let t' <-eT O s so t
  Gb O here r (i+1) t'
def goOn (O:xM σ ρ) (g:jP σ ρ) (here:Int) (t:cX):M Unit:=do
 let t' <-Gb O here g.states 0 t
 dX O g g.order t'
def aW0 (O:xM σ ρ):xM (cF σ) (jP σ ρ):=⟨lay O,fun g=>g.states.length,(·.there),(·.idle),(·.leaves),over,leave O,enter O,goOn O⟩
end
def aJ:(k:Nat)->xM (St k) (Rg k)
 | 0=>⟨fun _=>pure (),fun _=>0,fun _=>0,fun _=>true,fun _=>false,fun _=>pure (-1),fun _ _=>pure (),fun _ _ _=>pure (),fun _ _ _=>pure ()⟩
 | k+1=>aW0 (aJ k)
def dR:List bQ->M Unit
 | []=>pure ()
 | v::r=>do
  let p <-if v.kind=1 then do
      let p <-place v.first
      modify fun k=>{ k with net:={ k.net with ins:=k.net.ins++[p] } }
      pure p
   else kept v.first
  if v.kind=2 then modify fun k=>{ k with net:={ k.net with outs:=k.net.outs++[p] } }
  modify fun k=>{ k with vars:=fun t=>if t=v.name then ⟨p,-1,v.first⟩ else k.vars t }
  dR r
def rI (begin_:Int):List (List (St 6))->M Unit
 | []=>pure ()
 | l::r=>do
  let g <-(aJ 6).lay l
  let g':jP (St 5) (Rg 5):=g
  modify fun k=>{ k with net:={ k.net with first:=k.net.first.set g'.there.toNat 0 } }
  (aJ 6).goOn g g'.there (eC (List.replicate g'.states.length []) g'.first begin_ false)
  rI begin_ r
def tick (l:List (List (St 6))):M Unit:=do
 let b <-place 1
 rI b l
def dN:List bQ->M Unit
 | []=>pure ()
 | v::r=>do
  let k <-get
  if (k.vars v.name).was=-1 then dN r else do
  add ⟨2,(k.vars v.name).was,(k.vars v.name).now,0,0⟩
  dN r
def kd0:Kd:=⟨⟨0,[],[],[],[],[],[]⟩,fun _=>⟨0,0,0⟩,fun _=>none⟩
def aA0 (c:fZ):M Unit:=do
 dR c.vars
 tick c.regions
 dN c.vars
def uE (c:fZ):Option Nt:=(aA0 c kd0).map (·.2.net)
end Em
end Px
end
end Go.Proofs.YthieaobjdpfcoaaGreatDoor
