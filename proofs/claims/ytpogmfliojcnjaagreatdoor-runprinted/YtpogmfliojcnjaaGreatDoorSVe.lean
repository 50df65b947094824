import Derived.Test.YtpogmfliojcnjaaGreatDoorSVdUg5
namespace Go.Proofs.YtpogmfliojcnjaaGreatDoor
open Go.RowKit Px
namespace Kx
theorem chart_in {B:Nat}{w:World}{c:Chart}{v:Value}(h:IsChart (fun b=>B<b) w c v):IsChart (fun b=>B<b/\b<w.heap.size) w c v:=by
 have kp:Keep (fun b=>B<b) (fun b=>B<b/\b<w.heap.size) w w:=fun b ha hlt=>⟨⟨ha,hlt⟩,rfl⟩
 obtain ⟨a,n,m,a2,n2,m2,rfl,hv,hr⟩:=h
 exact ⟨a,n,m,a2,n2,m2,rfl,hv.carry kp,hr.carry kp (IsStates.carry kp 6)⟩
theorem new_run {A:Nat->Prop}{w:World}{c:Chart}{v:Value}(h:IsChart A w c v) (hc:RunC c) (hA:∀b,A b->b<w.heap.size) :
    Calls Tryz.prog 11 #[v] w fun e w'=>∃rb,e=.returned (.tuple #[.pointer (some ⟨rb,0,none⟩),.nilIface])/\Hid ((∃Q x,RnM A w' c (newC c) rb Q x/\∀b,Q b->w.heap.size≤b)/\Below w.heap.size w w'):=
 New_ok h hc.nm hc.ok hA hc.n64
theorem nums_one {w:World}{g:Nat}{x:Int}(h:w.cell? ⟨g,0,none⟩=some (.int .i64 x)):INums w (.slice (some ⟨g,0,none⟩) 1 1) [x]:=
 ⟨some ⟨g,0,none⟩,g,0,1,rfl,Nat.le_refl _,by unfold maxLen;omega,fun _=>rfl,fun k hk=>by
  have:k=0:=by simp at hk;omega
  subst this
  exact h⟩
theorem rowS_one {B:Nat}{w:World}{v:Value}{x:Str}(h:RowS B w v [x]):∃b o cap,v=.slice (some ⟨b,o,none⟩) 1 cap/\w.cell? ⟨b,o,none⟩=some (sv x):=by
 obtain ⟨ad,b,off,cap,rfl,_,_,h4,h5⟩:=h.strs
 obtain rfl:=h4 (by simp)
 exact ⟨b,off,cap,rfl,h5 0 x rfl⟩
theorem row_apart {B:Nat}{Q:Nat->Prop}{w w':World}{v:Value}{zs:List Int}(h:Row64 B w v zs) (hQ:∀b,Q b->b<B) (hf:FrQ Q w w'):INums w' v zs:=by
 have hlt:=fun g hg=>World.ownsRow.lt h g hg
 obtain ⟨ad,b,off,cap,rfl,h2,h3,h4,h5⟩:=h.nums
 refine ⟨ad,b,off,cap,rfl,h2,h3,h4,fun k hk=>?_⟩
 obtain rfl:=h4 (by omega)
 have hb:=hlt b rfl
 rw[World.cell?_of_block (w:=w) (a:=⟨b,off+k,none⟩) (hf.block b hb.2 (fun hq=>by have:=hQ b hq;omega))]
 exact h5 k hk
theorem nums_row {w:World}{a:Option Addr}{n m:Nat}{x:Int}(h:INums w (.slice a n m) [x]):∃b o,a=some ⟨b,o,none⟩/\n=1/\w.cell? ⟨b,o,none⟩=some (.int .i64 x):=by
 obtain ⟨ad,b,off,cap,e,_,_,h4,h5⟩:=h
 injection e with e1 e2 e3
 subst e1
 exact ⟨b,off,h4 (by simp),e2,h5 0 (by simp)⟩
theorem tick_run {A Q:Nat->Prop}{w:World}{c:Chart}{r r':Rn}{rb:Nat}{x:RnL}{iv:Value}{ins:List Int}(h:RnM A w c r rb Q x) (hc:ChartR c) (hi:INums w iv ins) (h64:∀y∈ins,N64 y) (ht:tickC c ins r=some r') :
    Calls Tryz.prog 13 #[.pointer (some ⟨rb,0,none⟩),iv] w fun e w'=>∃a n m,e=.returned (.slice a n m)/\Hid (RnM A w' c r' rb Q x/\(∀Q' w'',(∀b,Q' b->b<w.heap.size)->FrQ Q' w' w''->INums w'' (.slice a n m) (outsC c r'))/\FrQ Q w w'):=
 (Tick_any h hc hi h64 ht).mono fun _ _ ⟨a,n,m,he,hh⟩=>⟨a,n,m,he,hh.out.1,fun _ _ hQ hf=>row_apart hh.out.2.1 hQ hf,hh.out.2.2⟩
set_option maxRecDepth 100000 in
set_option maxHeartbeats 4000000 in
theorem ran_any {w:World}(hv:KEnv0 w):Calls Tryz.prog 7 #[] w fun e w'=>e=.returned (.bool true)/\Hid (Below w.heap.size w w'):=by
 obtain ⟨sm,hsm⟩:∃sm:ByteArray,sm=⟨smallL.toArray⟩:=⟨_,rfl⟩
 obtain ⟨hok,hch⟩:=small_ok (s:=sm) (by rw[hsm])
 have hsz:sm.size≤1500:=by
  have:sm.size=smallL.length:=by rw[hsm];rfl
  rw[this];decide
 have HC:Hid (RunC smallC):=runC hok hch small_check
 obtain ⟨r1,r2,t1,o1,t2,o2,th⟩:=small_ticks
 have h1:Calls Tryz.prog 8 #[.string sm] w fun e w'=>∃S a n m a' n' m',e=.returned (.tuple #[.agg #[.string S,.slice a n m,.slice a' n' m'],.bool true])/\Hid (IsChart (fun b=>w.heap.size<b) w' smallC (.agg #[.string S,.slice a n m,.slice a' n' m'])/\Below w.heap.size w w'):=
  (chart_drawn hsz hv hok hch).mono fun e w' h=>by
   rcases h with ⟨_,S,a,n,m,a',n',m',he,hC⟩|⟨hne,_⟩
   ·exact ⟨S,a,n,m,a',n',m',he,hC⟩
   ·exact absurd small_check hne
 have HT:Hid (tickC smallC [5] (newC smallC)=some r1/\outsC smallC r1=[2]/\tickC smallC [5] r1=some r2/\outsC smallC r2=[7]/\thereC smallC r2=[[116]]):=⟨t1,o1,t2,o2,th⟩
 rw[hsm] at h1
 clear hv hok hch hsz hsm t1 o1 t2 o2 th
 go_enter Tryz.func7,Tryz.ntmps7
 go_wp2_with fail
 refine h1.mono ?_
 rintro e w1 ⟨S,a,n,m,a',n',m',rfl,hc1⟩
 obtain ⟨W1,hW1⟩:∃W1,W1=w1.alloc (.cells #[.string S,.slice a n m,.slice a' n' m'] 28):=⟨_,rfl⟩
 have hg1:Below w1.heap.size w1 W1:=by rw[hW1];exact ck_grown _ _
 have k1:W1.heap[w1.heap.size]?=some (.cells #[.string S,.slice a n m,.slice a' n' m'] 28 (0,0)):=by rw[hW1];exact ck_new _ _
 have hn:=new_run (chartUp (chart_in hc1.out.1) hg1) HC.out (fun b hb=>Nat.lt_of_lt_of_le hb.2 hg1.size)
 have HB1:Hid (Below w.heap.size w W1):=ck_all hc1.out.2 hg1
 have x0:=cell_row k1 0 (u:=.string S) rfl
 have x1:=cell_row k1 1 (u:=.slice a n m) rfl
 have x2:=cell_row k1 2 (u:=.slice a' n' m') rfl
 have HW1:Hid (W1=_):=hW1
 rw[hW1] at hn x0 x1 x2
 clear h1 hc1 hg1 k1 hW1
 go_wp2_with fail
 refine hn.mono ?_
 rintro e w2 ⟨rb,rfl,h2⟩
 clear hn x0 x1 x2
 obtain ⟨⟨Q,x,hR,hQ⟩,hb2⟩:=h2.out
 rw[<-HW1.out] at hb2 hQ
 obtain ⟨W2,hW2⟩:∃W2,W2=w2.alloc (.cells #[.int .i64 5] 2):=⟨_,rfl⟩
 have hg2:Below w2.heap.size w2 W2:=by rw[hW2];exact ck_grown _ _
 have k2:W2.cell? ⟨w2.heap.size,0,none⟩=some (.int .i64 5):=by rw[hW2];exact cell_row (ck_new _ _) 0 rfl
 have ht:=tick_run (hR.below hg2) HC.out.run (nums_one k2) (fun y hy=>by simp at hy;subst hy;exact ⟨by omega,by omega⟩) HT.out.1
 have HB2:Hid (Below w.heap.size w W2/\(∀b,Q b->w.heap.size≤b)/\∀b,Q b->b<W2.heap.size):=⟨ck_all (ck_all HB1.out hb2) hg2,fun b hb=>Nat.le_trans HB1.out.size (hQ b hb),(hR.below hg2).hQ⟩
 have HW2:Hid (W2=_):=hW2
 rw[hW2] at ht
 clear h2 hR hQ hb2 hg2 k2 hW2
 go_wp2_with fail
 refine ht.mono ?_
 rintro e w3 ⟨a3,n3,m3,rfl,h3⟩
 clear ht
 obtain ⟨hR3,hr3,hf3⟩:=h3.out
 rw[<-HW2.out] at hr3 hf3
 rw[HT.out.2.1] at hr3
 obtain ⟨W3,hW3⟩:∃W3,W3=w3.alloc (.cells #[.int .i64 5] 2):=⟨_,rfl⟩
 have hg3:Below w3.heap.size w3 W3:=by rw[hW3];exact ck_grown _ _
 have k3:W3.cell? ⟨w3.heap.size,0,none⟩=some (.int .i64 5):=by rw[hW3];exact cell_row (ck_new _ _) 0 rfl
 have ht2:=tick_run (hR3.below hg3) HC.out.run (nums_one k3) (fun y hy=>by simp at hy;subst hy;exact ⟨by omega,by omega⟩) HT.out.2.2.1
 have HB3:Hid (Below w.heap.size w W3/\(∀w'',FrQ Q W3 w''->INums w'' (.slice a3 n3 m3) [2])/\∀b,Q b->b<W3.heap.size):=
  ⟨ck_all (below_frq HB2.out.1 hf3 HB2.out.2.1 HB2.out.1.size) hg3,fun w'' hf=>hr3 Q w'' HB2.out.2.2 ((FrQ.of_below hg3).trans hf),(hR3.below hg3).hQ⟩
 have HW3:Hid (W3=_):=hW3
 rw[hW3] at ht2
 clear h3 hR3 hr3 hf3 hg3 k3 hW3
 go_wp2_with fail
 refine ht2.mono ?_
 rintro e w4 ⟨a4,n4,m4,rfl,h4⟩
 clear ht2
 obtain ⟨hR4,hr4,hf4⟩:=h4.out
 rw[<-HW3.out] at hr4 hf4
 rw[HT.out.2.2.2.1] at hr4
 have hth:=There_any hR4 HC.out.run (thereC_len HC.out.nm r2)
 have HB4:Hid (Below w.heap.size w w4/\INums w4 (.slice a3 n3 m3) [2]/\INums w4 (.slice a4 n4 m4) [7]):=
  ⟨below_frq HB3.out.1 hf4 HB2.out.2.1 HB3.out.1.size,HB3.out.2.1 w4 hf4,hr4 Q w4 HB3.out.2.2 (FrQ.refl _ _)⟩
 clear h4 hR4 hr4 hf4
 go_wp2_with fail
 refine hth.mono ?_
 rintro e w5 ⟨a5,n5,m5,rfl,h5⟩
 clear hth
 obtain ⟨h6,h7⟩:=h5.out
 rw[HT.out.2.2.2.2] at h6
 obtain ⟨b5,o5,c5,e5,y5⟩:=rowS_one h6
 injection e5 with e5 e6 e7
 subst e5
 subst e6
 obtain ⟨b3,o3,e3,e3',y3⟩:=nums_row (HB4.out.2.1.below h7)
 obtain ⟨b4,o4,e4,e4',y4⟩:=nums_row (HB4.out.2.2.below h7)
 subst e3
 subst e3'
 subst e4
 subst e4'
 have HB5:Hid (Below w.heap.size w w5):=ck_all HB4.out.1 h7
 have y5':w5.cell? ⟨b5,o5,none⟩=some (.string ⟨#[116]⟩):=y5
 clear h5 h6 h7 y5 e7 HB4 HB3 HB2 HT
 go_wp2_with fail
 go_ret
 exact ⟨rfl,HB5.out⟩
end Kx
end Go.Proofs.YtpogmfliojcnjaaGreatDoor
