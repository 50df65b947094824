import Derived.Test.YtpogmfliojcnjaaGreatDoorSKq
import Derived.Test.YtpogmfliojcnjaaGreatDoorSBack2
import Derived.Test.YtpogmfliojcnjaaGreatDoorSBack17
import Derived.Test.YtpogmfliojcnjaaGreatDoorSBnd2
import Derived.Test.YtpogmfliojcnjaaGreatDoorSVdUg5
import Derived.ChangeOld
import Derived.DataReads
import Derived.Deep.Slices
import Derived.Test.YtpogmfliojcnjaaGreatDoorSLaidU
import Derived.Test.YtpogmfliojcnjaaGreatDoorSBack5
namespace Go.Proofs.YtpogmfliojcnjaaGreatDoor
section
open Go.RowKit Px
namespace Kx
theorem nb_ren1 {k:Nat}(ih:∀r:List (St k),(∀x∈r,NbSt k x)->∀x∈renR k r,NbSt k x) {L:List (StF (St k))}(h:∀x∈L,NbStF x/\∀r∈x.regions,∀y∈r,NbSt k y):∀x∈L.map (renF (renR k)),NbStF x/\∀r∈x.regions,∀y∈r,NbSt k y:=by
 intro x hx
 obtain ⟨s,hs,rfl⟩:=List.mem_map.1 hx
 obtain ⟨⟨h1,h2,h3,h4,h5⟩,h6⟩:=h s hs
 refine ⟨⟨h1,h2,h3,h4,fun y hy=>?_⟩,fun r hr y hy=>?_⟩
 ·obtain ⟨y0,hy0,rfl⟩:=List.mem_map.1 (show y∈s.ways.map renW from hy)
  exact h5 y0 hy0
 ·obtain ⟨r0,hr0,rfl⟩:=List.mem_map.1 (show r∈s.regions.map (renR k) from hr)
  exact ih r0 (h6 r0 hr0) y hy
theorem nb_ren:∀(k:Nat) (r:List (St k)),(∀x∈r,NbSt k x)->∀x∈renR k r,NbSt k x
 | 0,_,_,_,_=>trivial
 | k+1,_,h,x,hx=>nb_ren1 (nb_ren k) h x hx
theorem ren_run {s:ByteArray}{l:List Lx.Tok}{c:Chart}(hok:Lx.Ok (bs s) l) (hch:chart (fin s l)=.ok c) (h:checkC c=none):RunC (renC c):=by
 have hc:checkC (renC c)=none:=by rw[checkC_ren];exact h
 refine ⟨hc,nmChart_ren (wf_ok hok) hch,check_runs hc (nmChart_ren (wf_ok hok) hch) fun r hr x hx=>?_,(nbChart (wf_ok hok) hch).2⟩
 obtain ⟨r0,hr0,rfl⟩:=List.mem_map.1 (show r∈c.regions.map (renR 6) from hr)
 exact nb_ren 6 r0 ((nbChart (wf_ok hok) hch).1 r0 hr0) x hx
structure TriU (A A2 A3 Q1 Q2 Q3:Nat->Prop) (W wr:World) (c:Chart) (r r':Rn) (rb1 rb2 rb3:Nat) (x1 x2 x3:RnL):Prop where
 r1:RnM A wr c r rb1 Q1 x1
 r2:RnM A2 wr c r rb2 Q2 x2
 r3:RnM A3 wr (renC c) r' rb3 Q3 x3
 st:StandC c r
 ss:StandS r r'
 bel:Below W.heap.size W wr
structure TriQ (A A2 A3 Q1 Q2 Q3:Nat->Prop) (W:World):Prop where
 q1:∀b,Q1 b->W.heap.size≤b
 q2:∀b,Q2 b->W.heap.size≤b
 q3:∀b,Q3 b->W.heap.size≤b
 n12:∀b,Q1 b->¬Q2 b
 n13:∀b,Q1 b->¬Q3 b
 n23:∀b,Q2 b->¬Q3 b
 a1:∀b,A b->b<W.heap.size
 a2:∀b,A2 b->b<W.heap.size
 a3:∀b,A3 b->b<W.heap.size
theorem FrQ.wide {Q Q':Nat->Prop}{w w':World}(h:FrQ Q w w') (hQ:∀b,Q b->Q' b):FrQ Q' w w':=⟨h.os,h.tape,h.output,h.size,fun b hb hq=>h.block b hb (fun e=>hq (hQ b e))⟩
set_option maxRecDepth 100000 in
set_option maxHeartbeats 16000000 in
theorem runPrinted_fine {s:ByteArray}{l:List Lx.Tok}{c:Chart}{w:World}{iv:Value}{zss:List (List Int)}(hs:s.size≤1500) (hv:KEnv0 w) (hpe:PEnv w) (hok:Lx.Ok (bs s) l) (hch:chart (fin s l)=.ok c) (hck:checkC c=none) (hI:IRws w iv zss) (hfew:Few zss) (h64:∀zs∈zss,∀y∈zs,N64 y) :
    Calls Tryz.prog 5 #[.string s,iv] w fun e w'=>e=.returned (.bool true)/\Hid (Below w.heap.size w w'):=by
 have hC:=runC hok hch hck
 have hCr:=ren_run hok hch hck
 have hfw:=few_yes hI hfew
 have hran:=ran_any hv
 have HCH:Hid (∀W,Below w.heap.size w W->Calls Tryz.prog 8 #[.string s] W fun e w'=>∃S a n m a' n' m',e=.returned (.tuple #[.agg #[.string S,.slice a n m,.slice a' n' m'],.bool true])/\Hid (IsChart (fun b=>W.heap.size<b) w' c (.agg #[.string S,.slice a n m,.slice a' n' m'])/\Below W.heap.size W w')):=fun W hb=>
  (chart_drawn hs (hv.up hb) hok hch).mono fun e w' h=>by
   rcases h with ⟨_,S,a,n,m,a',n',m',he,hC⟩|⟨hne,_⟩
   ·exact ⟨S,a,n,m,a',n',m',he,hC⟩
   ·exact absurd hck hne
 obtain ⟨hG,hlen,_⟩:=chart_w (wf_ok hok) hch
 obtain ⟨t,ht⟩:∃t:ByteArray,t=⟨(printT c).toArray⟩:=⟨_,rfl⟩
 have hbt:bs t=printT c:=by rw[ht]
 have hts:t.size≤1000000:=by rw[<-bs_len,hbt];exact hlen
 obtain ⟨l',hok',hch'⟩:=chart_twice hok hch hbt
 have HPR:Hid (∀(A:Nat->Prop) (W:World) (v:Value),Below w.heap.size w W->IsChart A W c v->Calls Tryz.prog 29 #[v] W fun e w'=>e=.returned (.string t)/\Hid (Below W.heap.size W w')):=fun A W v hb h=>
  (print_any hG h (hpe.up hb) (by omega)).mono fun e w' ⟨he,hb'⟩=>⟨by rw[he,ht],hb'⟩
 have HPA:Hid (∀W,Below w.heap.size w W->Calls Tryz.prog 28 #[.string t] W fun e w'=>∃S a n m a' n' m',e=.returned (.tuple #[.agg #[.string S,.slice a n m,.slice a' n' m'],.nilIface])/\Hid (IsChart (fun b=>W.heap.size≤b/\b<w'.heap.size) w' c (.agg #[.string S,.slice a n m,.slice a' n' m'])/\Below W.heap.size W w')):=fun W hb=>
  (parse_ok t l' c W hts (hv.up hb).big (hv.up hb).tabs (hv.up hb).marks hok' hch').mono fun e w' ⟨v,he,hC,hb⟩=>by
   obtain ⟨a,n,m,a',n',m',rfl,h1,h2⟩:=hC
   have kp:Keep (Ge W.heap.size) (fun b=>W.heap.size≤b/\b<w'.heap.size) w' w':=fun b hg hlt=>⟨⟨hg,hlt⟩,rfl⟩
   exact ⟨_,a,n,m,a',n',m',he,⟨a,n,m,a',n',m',rfl,h1.carry kp,h2.carry kp (IsStates.carry kp 6)⟩,hb⟩
 obtain ⟨hsh1,hsh2,hsh3⟩:=Sh.chart_w (wf_ok hok) hch
 have HSH:Hid ((∀r∈c.regions,∀x∈r,Sh.TSt 6 x)/\Sh.sumW (Sh.wR (Sh.wSt 6)) c.regions≤601):=⟨hsh2,by omega⟩
 obtain ⟨iad,ib,io,ic,rfl,hia,hir⟩:=hI
 obtain ⟨N,hN⟩:∃N,N=zss.length:=⟨_,rfl⟩
 rw[<-hN] at hfw hia ⊢
 have hN6:(N:Int)≤9223372036854775807:=by have:=hfew.1;omega
 have H:Hid (RunC c/\N=zss.length/\(0<N->iad=some ⟨ib,io,none⟩)/\(∀(k:Nat) (zs:List Int),zss[k]?=some zs->∃a c,w.cell? ⟨ib,io+k,none⟩=some (.slice a zs.length c)/\INums w (.slice a zs.length c) zs)/\(∀zs∈zss,∀y∈zs,N64 y)/\RunC (renC c)):=⟨hC,hN,hia,hir,h64,hCr⟩
 clear hv hpe hok hch hs hck hC hCr hN hia hir h64 hfew hG hlen hbt hts hok' hch' hsh1 hsh2 hsh3 ht
 go_enter Tryz.func5,Tryz.ntmps5
 go_wp2_with fail
 refine hfw.mono ?_
 rintro e w0 ⟨rfl,hw0⟩
 obtain rfl:=hw0.symm
 clear hfw
 go_wp2_with fail
 refine hran.mono ?_
 rintro e w1 ⟨rfl,hb1⟩
 clear hran
 have hch:=HCH.out w1 hb1.out
 clear HCH
 go_wp2_with fail
 refine hch.mono ?_
 rintro e w2 ⟨S,a,n,m,a',n',m',rfl,h2⟩
 clear hch
 obtain ⟨W2,hW2⟩:∃W2,W2=w2.alloc (.cells #[.string S,.slice a n m,.slice a' n' m'] 28):=⟨_,rfl⟩
 obtain ⟨cb,hcb⟩:∃cb,cb=w2.heap.size:=⟨_,rfl⟩
 have hg2:Below w2.heap.size w2 W2:=by rw[hW2];exact ck_grown _ _
 have k2:W2.heap[cb]?=some (.cells #[.string S,.slice a n m,.slice a' n' m'] 28 (0,0)):=by rw[hW2,hcb];exact ck_new _ _
 obtain ⟨A,hA⟩:∃A:Nat->Prop,A=fun b=>w1.heap.size<b/\b<w2.heap.size:=⟨_,rfl⟩
 have hCh:IsChart A W2 c (.agg #[.string S,.slice a n m,.slice a' n' m']):=by rw[hA];exact chartUp (chart_in h2.out.1) hg2
 have hAW:∀b,A b->b<W2.heap.size:=fun b hb=>by rw[hA] at hb;exact Nat.lt_of_lt_of_le hb.2 hg2.size
 have HW:Hid (IsChart A W2 c (.agg #[.string S,.slice a n m,.slice a' n' m'])/\(∀b,A b->b<W2.heap.size)/\W2.heap[cb]?=some (.cells #[.string S,.slice a n m,.slice a' n' m'] 28 (0,0))/\Below w.heap.size w W2):=⟨hCh,hAW,k2,ck_all (ck_all hb1.out h2.out.2) hg2⟩
 have HRG:Hid (∀W,Below W2.heap.size W2 W->IsRegs A W (IsStates A W 6) c.regions (.slice a' n' m')/\IsVars A W c.vars (.slice a n m)/\Value.string S=sv c.name):=fun W hb=>by
  obtain ⟨b1,b2,b3,b4,b5,b6,e1,e3,e2⟩:=chartUp hCh hb
  injection e1 with e1
  simp at e1
  obtain ⟨e0,⟨rfl,rfl,rfl⟩,rfl,rfl,rfl⟩:=e1
  exact ⟨e2,e3,e0⟩
 have HX:Hid (∀W,Below W2.heap.size W2 W->W.cell? ⟨cb,0,none⟩=some (.string S)/\W.cell? ⟨cb,1,none⟩=some (.slice a n m)/\W.cell? ⟨cb,2,none⟩=some (.slice a' n' m')):=fun W hb=>⟨ck_cell hb (cell_row k2 0 rfl),ck_cell hb (cell_row k2 1 rfl),ck_cell hb (cell_row k2 2 rfl)⟩
 clear h2 hg2 k2 hA hCh hAW hb1
 have hlg:=long_all (A:=A) 6 W2 c.regions (.slice a' n' m') (HRG.out W2 (Below.refl _ _)).1 H.out.1.nm.sts H.out.1.nm.many
 obtain ⟨-,-,x2⟩:=HX.out W2 (Below.refl _ _)
 go_upto_region 6 with fail
 rw[<-hcb,<-hW2]
 clear hcb hW2
 go_wp2_with fail
 refine hlg.mono ?_
 rintro e w3 ⟨lg,rfl,hb3⟩
 clear hlg x2
 have HB3:Hid (Below W2.heap.size W2 w3):=hb3.out
 clear hb3
 cases lg with
 | true=>
  have HB:Hid (Below w.heap.size w w3):=ck_all HW.out.2.2.2 HB3.out
  go_wp2_with fail
  go_ret
  exact ⟨rfl,HB.out⟩
 | false=>
  have hpr:=HPR.out A w3 (.agg #[.string S,.slice a n m,.slice a' n' m']) (ck_all HW.out.2.2.2 HB3.out) (chartUp HW.out.1 HB3.out)
  obtain ⟨x0,x1,x2⟩:=HX.out w3 HB3.out
  go_wp2_with fail
  refine hpr.mono ?_
  rintro e w4 ⟨rfl,hb4⟩
  clear hpr x0 x1 x2
  have HB4:Hid (Below W2.heap.size W2 w4):=ck_all HB3.out hb4.out
  have hpa:=HPA.out w4 (ck_all HW.out.2.2.2 HB4.out)
  clear hb4 HB3 HPR HPA
  go_wp2_with fail
  refine hpa.mono ?_
  rintro e w5 ⟨S5,a5,n5,m5,a6,n6,m6,rfl,h5⟩
  clear hpa
  obtain ⟨W5,hW5⟩:∃W5,W5=w5.alloc (.cells #[.string S5,.slice a5 n5 m5,.slice a6 n6 m6] 28):=⟨_,rfl⟩
  obtain ⟨pb,hpb⟩:∃pb,pb=w5.heap.size:=⟨_,rfl⟩
  have hg5:Below w5.heap.size w5 W5:=by rw[hW5];exact ck_grown _ _
  have k5:W5.heap[pb]?=some (.cells #[.string S5,.slice a5 n5 m5,.slice a6 n6 m6] 28 (0,0)):=by rw[hW5,hpb];exact ck_new _ _
  obtain ⟨A2,hA2⟩:∃A2:Nat->Prop,A2=fun b=>w4.heap.size≤b/\b<w5.heap.size:=⟨_,rfl⟩
  have HB5:Hid (Below W2.heap.size W2 W5/\W5.heap[pb]?=some (.cells #[.string S5,.slice a5 n5 m5,.slice a6 n6 m6] 28 (0,0))/\IsChart A2 W5 c (.agg #[.string S5,.slice a5 n5 m5,.slice a6 n6 m6])/\∀b,A2 b->b<W5.heap.size):=
   ⟨ck_all (ck_all HB4.out h5.out.2) hg5,k5,by rw[hA2];exact chartUp h5.out.1 hg5,fun b hb=>by rw[hA2] at hb;exact Nat.lt_of_lt_of_le hb.2 hg5.size⟩
  clear h5 hg5 k5 hA2 HB4
  go_upto_region 9 with fail
  rw[<-hpb,<-hW5]
  clear hpb hW5
  obtain ⟨x0,x1,x2⟩:=HX.out W5 HB5.out.1
  obtain ⟨W6,hW6⟩:∃W6,W6=W5.alloc (.cells #[.string S,.slice a n m,.slice a' n' m'] 28):=⟨_,rfl⟩
  obtain ⟨eb,heb⟩:∃eb,eb=W5.heap.size:=⟨_,rfl⟩
  have hg6:Below W5.heap.size W5 W6:=by rw[hW6];exact ck_grown _ _
  have k6:W6.heap[eb]?=some (.cells #[.string S,.slice a n m,.slice a' n' m'] 28 (0,0)):=by rw[hW6,heb];exact ck_new _ _
  have hz6:W6.heap.size=eb+1:=by rw[hW6,heb];simp
  have hB6:Below W2.heap.size W2 W6:=ck_all HB5.out.1 hg6
  have hrn:=ren_all 6 A W6 c.regions (.slice a' n' m') (HRG.out W6 hB6).1 HSH.out.1 HSH.out.2
  have HB6:Hid (Below W5.heap.size W5 W6/\W6.heap[eb]?=some (.cells #[.string S,.slice a n m,.slice a' n' m'] 28 (0,0))/\W6.heap.size=eb+1/\Below W2.heap.size W2 W6/\eb=W5.heap.size):=⟨hg6,k6,hz6,hB6,heb⟩
  go_upto_region 10 with fail
  rw[<-heb,<-hW6]
  clear heb hW6 x0 x1 x2 hg6 k6 hz6 hB6
  obtain ⟨-,-,x2⟩:=HX.out W6 HB6.out.2.2.2.1
  go_wp2_with fail
  refine hrn.mono ?_
  rintro e w7 ⟨ra,rn,rm,rfl,h7⟩
  clear hrn x2
  have hb7:=h7.out.2
  have k7:w7.heap[eb]?=some (.cells #[.string S,.slice a n m,.slice a' n' m'] 28 (0,0)):=ck_block hb7 HB6.out.2.1
  obtain ⟨W7,hW7⟩:∃W7,W7=w7.setCell ⟨eb,2,none⟩ (.slice ra rn rm):=⟨_,rfl⟩
  have hh7:∀b,b≠eb->W7.heap[b]?=w7.heap[b]?:=fun b hb=>by rw[hW7];exact Below.heap_setCell _ _ _ _ hb
  have hz7:W7.heap.size=w7.heap.size:=by rw[hW7];simp[World.setCell]
  have hb57:Below W5.heap.size W5 W7:=by rw[hW7];exact (ck_all HB6.out.1 hb7).setCell (by rw[HB6.out.2.2.2.2];exact Nat.le_refl _) _
  have hb27:Below W2.heap.size W2 W7:=ck_all HB5.out.1 hb57
  have kk7:W7.heap[eb]?=some (.cells #[.string S,.slice a n m,.slice ra rn rm] 28 (0,0)):=by rw[hW7];exact ck_set (l:=[.string S,.slice a n m,.slice a' n' m']) k7 2 _
  obtain ⟨A3,hA3⟩:∃A3:Nat->Prop,A3=fun b=>(A b\/W6.heap.size≤b)/\b<w7.heap.size:=⟨_,rfl⟩
  have hAe:∀b,A b->b≠eb:=fun b hb e=>by have h1:=HW.out.2.1 b hb;have h2:=HB5.out.1.size;have h3:=HB6.out.2.2.2.2;omega
  have hC3:IsChart A3 W7 (renC c) (.agg #[.string S,.slice a n m,.slice ra rn rm]):=by
   have q:=HRG.out w7 (ck_all HB6.out.2.2.2.1 hb7)
   have kp1:Keep A A3 w7 W7:=fun b ha hlt=>⟨by rw[hA3];exact ⟨.inl ha,hlt⟩,hh7 b (hAe b ha)⟩
   have kp2:Keep (fun b=>A b\/W6.heap.size≤b) A3 w7 W7:=fun b ha hlt=>⟨by rw[hA3];exact ⟨ha,hlt⟩,hh7 b (by
    rcases ha with h|h
    ·exact hAe b h
    ·have:=HB6.out.2.2.1;omega)⟩
   exact ⟨a,n,m,ra,rn,rm,by rw[q.2.2];rfl,q.2.1.carry kp1,h7.out.1.carry kp2 (IsStates.carry kp2 6)⟩
  have HW7:Hid (Below W2.heap.size W2 W7/\Below W5.heap.size W5 W7/\W7.heap[eb]?=some (.cells #[.string S,.slice a n m,.slice ra rn rm] 28 (0,0))/\IsChart A3 W7 (renC c) (.agg #[.string S,.slice a n m,.slice ra rn rm])/\(∀b,A3 b->b<W7.heap.size)/\(∀b,A b->b<W7.heap.size)/\∀b,A2 b->b<W7.heap.size):=⟨hb27,hb57,kk7,hC3,fun b hb=>by rw[hA3] at hb;rw[hz7];exact hb.2,fun b hb=>Nat.lt_of_lt_of_le (HW.out.2.1 b hb) hb27.size,fun b hb=>Nat.lt_of_lt_of_le (HB5.out.2.2.2 b hb) hb57.size⟩
  have c2:=cell_row k7 2 (u:=.slice a' n' m') rfl
  have f2:=ck_frozen k7 2
  clear h7 hb7 k7 hh7 hz7 hb57 hb27 kk7 hA3 hAe hC3
  go_upto_region 13 with fail
  rw[<-hW7]
  clear hW7 c2 f2
  have hn1:=new_run (chartUp HW.out.1 HW7.out.1) H.out.1 HW7.out.2.2.2.2.2.1
  obtain ⟨x0,x1,x2⟩:=HX.out W7 HW7.out.1
  go_wp2_with fail
  refine hn1.mono ?_
  rintro e w8 ⟨rb1,rfl,h8⟩
  clear hn1 x0 x1 x2
  obtain ⟨⟨Q1,y1,hR1,hQ1⟩,hb8⟩:=h8.out
  have hn2:=new_run (chartUp (chartUp HB5.out.2.2.1 HW7.out.2.1) hb8) H.out.1 (fun b hb=>Nat.lt_of_lt_of_le (HW7.out.2.2.2.2.2.2 b hb) hb8.size)
  have kp8:=ck_block (ck_all HW7.out.2.1 hb8) HB5.out.2.1
  have x0:=cell_row kp8 0 (u:=.string S5) rfl
  have x1:=cell_row kp8 1 (u:=.slice a5 n5 m5) rfl
  have x2:=cell_row kp8 2 (u:=.slice a6 n6 m6) rfl
  have HR1:Hid (RnM A w8 c (newC c) rb1 Q1 y1/\(∀b,Q1 b->W7.heap.size≤b)/\Below W7.heap.size W7 w8):=⟨hR1,hQ1,hb8⟩
  clear h8 hR1 hQ1 hb8 kp8
  go_wp2_with fail
  refine hn2.mono ?_
  rintro e w9 ⟨rb2,rfl,h9⟩
  clear hn2 x0 x1 x2
  obtain ⟨⟨Q2,y2,hR2,hQ2⟩,hb9⟩:=h9.out
  have hb79:=ck_all HR1.out.2.2 hb9
  have hn3:=new_run (chartUp HW7.out.2.2.2.1 hb79) H.out.2.2.2.2.2 (fun b hb=>Nat.lt_of_lt_of_le (HW7.out.2.2.2.2.1 b hb) hb79.size)
  have kp9:=ck_block hb79 HW7.out.2.2.1
  have x0:=cell_row kp9 0 (u:=.string S) rfl
  have x1:=cell_row kp9 1 (u:=.slice a n m) rfl
  have x2:=cell_row kp9 2 (u:=.slice ra rn rm) rfl
  have HR2:Hid (RnM A w9 c (newC c) rb1 Q1 y1/\RnM A2 w9 c (newC c) rb2 Q2 y2/\(∀b,Q2 b->w8.heap.size≤b)/\(∀b,Q1 b->b<w8.heap.size)/\Below W7.heap.size W7 w9/\w8.heap.size≤w9.heap.size):=⟨HR1.out.1.below hb9,hR2,hQ2,HR1.out.1.hQ,hb79,hb9.size⟩
  clear h9 hR2 hQ2 hb9 hb79 kp9
  go_wp2_with fail
  refine hn3.mono ?_
  rintro e w10 ⟨rb3,rfl,h10⟩
  clear hn3 x0 x1 x2
  obtain ⟨⟨Q3,y3,hR3,hQ3⟩,hb10⟩:=h10.out
  have HQ:Hid (TriQ A A2 A3 Q1 Q2 Q3 W7):=⟨HR1.out.2.1,fun b hb=>Nat.le_trans HR1.out.2.2.size (HR2.out.2.2.1 b hb),fun b hb=>Nat.le_trans HR2.out.2.2.2.2.1.size (hQ3 b hb),fun b q1 q2=>by have:=HR2.out.2.2.2.1 b q1;have:=HR2.out.2.2.1 b q2;omega,fun b q1 q3=>by have:=HR2.out.2.2.2.1 b q1;have:=hQ3 b q3;have:=HR2.out.2.2.2.2.2;omega,fun b q2 q3=>by have:=HR2.out.2.1.hQ b q2;have:=hQ3 b q3;omega,HW7.out.2.2.2.2.2.1,HW7.out.2.2.2.2.2.2,HW7.out.2.2.2.2.1⟩
  have H0:Hid (TriU A A2 A3 Q1 Q2 Q3 W7 w10 c (newC c) (newC (renC c)) rb1 rb2 rb3 y1 y2 y3):=⟨HR2.out.1.below hb10,HR2.out.2.1.below hb10,hR3,new_stands c,new_ren c,ck_all HR2.out.2.2.2.2.1 hb10⟩
  clear h10 hR3 hQ3 hb10 HR1 HR2
  go_wp2_with fail
  go_loopg [16] N (fun f i wr=>∃(k:Nat) (r r':Rn),f=N-k/\k≤N/\i=.int .i64 (k:Int)/\Hid (TriU A A2 A3 Q1 Q2 Q3 W7 wr c r r' rb1 rb2 rb3 y1 y2 y3))
  case atStart=>exact ⟨0,newC c,newC (renC c),by omega,by omega,rfl,H0.out⟩
  case round=>
   clear H0
   obtain ⟨k,r,r',rfl,hk,rfl,hr⟩:=hrel
   obtain ⟨W,hW⟩:∃W,W=wr:=⟨_,rfl⟩
   subst hW
   by_cases hlt:k<N
   ·obtain ⟨zs,hzs⟩:∃zs,zss[k]?=some zs:=⟨zss[k]'(by rw[<-H.out.2.1];exact hlt),by rw[List.getElem?_eq_getElem]⟩
    obtain ⟨ia,icp,ci,hin⟩:=H.out.2.2.2.1 k zs hzs
    have hmz:=List.mem_of_getElem? hzs
    have h64:=H.out.2.2.2.2.1 zs hmz
    obtain ⟨zl,hzl⟩:∃zl,zl=zs.length:=⟨_,rfl⟩
    rw[<-hzl] at ci hin
    have hbW:Below w.heap.size w W:=ck_all HW.out.2.2.2 (ck_all HW7.out.1 hr.out.bel)
    have hix:=ixM iad ib io N ic k hlt H.out.2.2.1
    obtain ⟨q,ht,hst,hlv⟩:=tick_ok (check_gd H.out.1.ok H.out.1.nm) hr.out.st zs
    obtain ⟨q',ht',hss⟩:=tick_ren hr.out.ss ht
    have hci:=ck_cell hbW ci
    have hT1:=tick_run hr.out.r1 H.out.1.run (hin.below hbW) h64 ht
    have HZ:Hid (w.cell? ⟨ib,io+k,none⟩=some (.slice ia zl icp)/\INums w (.slice ia zl icp) zs/\∀y∈zs,N64 y):=⟨ci,hin,h64⟩
    have HK:Hid (tickC c zs r=some q/\tickC (renC c) zs r'=some q'/\StandS q q'/\StandC c q/\TriU A A2 A3 Q1 Q2 Q3 W7 W c r r' rb1 rb2 rb3 y1 y2 y3/\(outsC c q).length≤1000000):=⟨ht,ht',hss,hst,hr.out,by
     unfold outsC tellC
     rw[List.length_map]
     have:=H.out.1.run.vl
     exact Nat.le_trans (List.length_filter_le _ _) this⟩
    clear hr hzs ci hin hmz h64 hzl hbW ht hst hlv ht' hss
    go_wp2_with fail
    refine hT1.mono ?_
    rintro e w11 ⟨a11,n11,m11,rfl,h11⟩
    clear hT1 hci
    obtain ⟨hR11,hr11,hf11⟩:=h11.out
    have H11:Hid (RnM A w11 c q rb1 Q1 y1/\RnM A2 w11 c r rb2 Q2 y2/\RnM A3 w11 (renC c) r' rb3 Q3 y3/\Below W7.heap.size W7 w11/\∀w'',FrQ (fun b=>Q1 b\/Q2 b\/Q3 b) w11 w''->INums w'' (.slice a11 n11 m11) (outsC c q)):=
     ⟨hR11,HK.out.2.2.2.2.1.r2.apart hf11 (fun b h2 h1=>HQ.out.n12 b h1 h2) (fun b hb h1=>by have:=HQ.out.q1 b h1;have:=HQ.out.a2 b hb;omega),HK.out.2.2.2.2.1.r3.apart hf11 (fun b h3 h1=>HQ.out.n13 b h1 h3) (fun b hb h1=>by have:=HQ.out.q1 b h1;have:=HQ.out.a3 b hb;omega),below_frq HK.out.2.2.2.2.1.bel hf11 HQ.out.q1 HK.out.2.2.2.2.1.bel.size,fun w'' hf=>hr11 _ w'' (fun b hb=>by
      rcases hb with h|h|h
      ·exact HK.out.2.2.2.2.1.r1.hQ b h
      ·exact HK.out.2.2.2.2.1.r2.hQ b h
      ·exact HK.out.2.2.2.2.1.r3.hQ b h) hf⟩
    clear h11 hR11 hr11 hf11
    have hB11:Below w.heap.size w w11:=ck_all HW.out.2.2.2 (ck_all HW7.out.1 H11.out.2.2.2.1)
    have hci:=ck_cell hB11 HZ.out.1
    have hT2:=tick_run H11.out.2.1 H.out.1.run (HZ.out.2.1.below hB11) HZ.out.2.2 HK.out.1
    clear hB11
    go_wp2_with fail
    refine hT2.mono ?_
    rintro e w12 ⟨a12,n12,m12,rfl,h12⟩
    clear hT2 hci
    obtain ⟨hR12,hr12,hf12⟩:=h12.out
    have hs12:=same_nums (hr12 Q2 w12 H11.out.2.1.hQ (FrQ.refl _ _)) (H11.out.2.2.2.2 w12 (FrQ.wide hf12 fun b h=>.inr (.inl h))) HK.out.2.2.2.2.2
    have H12:Hid (RnM A w12 c q rb1 Q1 y1/\RnM A2 w12 c q rb2 Q2 y2/\RnM A3 w12 (renC c) r' rb3 Q3 y3/\Below W7.heap.size W7 w12/\∀w'',FrQ (fun b=>Q1 b\/Q2 b\/Q3 b) w12 w''->INums w'' (.slice a11 n11 m11) (outsC c q)):=
     ⟨H11.out.1.apart hf12 HQ.out.n12 (fun b hb h1=>by have:=HQ.out.q2 b h1;have:=HQ.out.a1 b hb;omega),hR12,H11.out.2.2.1.apart hf12 (fun b h3 h2=>HQ.out.n23 b h2 h3) (fun b hb h1=>by have:=HQ.out.q2 b h1;have:=HQ.out.a3 b hb;omega),below_frq H11.out.2.2.2.1 hf12 HQ.out.q2 H11.out.2.2.2.1.size,fun w'' hf=>H11.out.2.2.2.2 w'' ((FrQ.wide hf12 fun b h=>.inr (.inl h)).trans hf)⟩
    clear h12 hR12 hr12 hf12 H11
    go_wp2_with fail
    refine hs12.mono ?_
    rintro e w13 ⟨rfl,hb13⟩
    clear hs12
    have hbb:=hb13.out
    have H13:Hid (RnM A w13 c q rb1 Q1 y1/\RnM A2 w13 c q rb2 Q2 y2/\RnM A3 w13 (renC c) r' rb3 Q3 y3/\Below W7.heap.size W7 w13/\∀w'',FrQ (fun b=>Q1 b\/Q2 b\/Q3 b) w13 w''->INums w'' (.slice a11 n11 m11) (outsC c q)):=⟨H12.out.1.below hbb,H12.out.2.1.below hbb,H12.out.2.2.1.below hbb,ck_all H12.out.2.2.2.1 hbb,fun w'' hf=>H12.out.2.2.2.2 w'' ((FrQ.of_below hbb).trans hf)⟩
    clear hbb hb13 H12
    have hB13:Below w.heap.size w w13:=ck_all HW.out.2.2.2 (ck_all HW7.out.1 H13.out.2.2.2.1)
    have hci:=ck_cell hB13 HZ.out.1
    have hT3:=tick_run H13.out.2.2.1 H.out.2.2.2.2.2.run (HZ.out.2.1.below hB13) HZ.out.2.2 HK.out.2.1
    clear hB13
    go_wp2_with fail
    refine hT3.mono ?_
    rintro e w14 ⟨a14,n14,m14,rfl,h14⟩
    clear hT3 hci
    obtain ⟨hR14,hr14,hf14⟩:=h14.out
    have hO14:=hr14 Q3 w14 H13.out.2.2.1.hQ (FrQ.refl _ _)
    rw[outs_ren HK.out.2.2.1] at hO14
    have hs14:=same_nums hO14 (H13.out.2.2.2.2 w14 (FrQ.wide hf14 fun b h=>.inr (.inr h))) HK.out.2.2.2.2.2
    have H14:Hid (RnM A w14 c q rb1 Q1 y1/\RnM A2 w14 c q rb2 Q2 y2/\RnM A3 w14 (renC c) q' rb3 Q3 y3/\Below W7.heap.size W7 w14):=
     ⟨H13.out.1.apart hf14 HQ.out.n13 (fun b hb h1=>by have:=HQ.out.q3 b h1;have:=HQ.out.a1 b hb;omega),H13.out.2.1.apart hf14 HQ.out.n23 (fun b hb h1=>by have:=HQ.out.q3 b h1;have:=HQ.out.a2 b hb;omega),hR14,below_frq H13.out.2.2.2.1 hf14 HQ.out.q3 H13.out.2.2.2.1.size⟩
    clear h14 hR14 hr14 hf14 hO14 H13
    go_wp2_with fail
    refine hs14.mono ?_
    rintro e w15 ⟨rfl,hb15⟩
    clear hs14
    have hth1:=There_any (H14.out.2.1.below hb15.out) H.out.1.run (thereC_len H.out.1.nm q)
    have HB15:Hid (Below w14.heap.size w14 w15):=hb15.out
    clear hb15
    go_wp2_with fail
    refine hth1.mono ?_
    rintro e w16 ⟨a16,n16,m16,rfl,h16⟩
    clear hth1
    obtain ⟨tl,htl⟩:∃tl,Hid (tl=(thereC c q).length):=⟨_,rfl⟩
    have e16:n16=tl:=by
     obtain ⟨_,_,_,_,e,_⟩:=h16.out.1.strs
     injection e with _ e
     rw[e,htl.out]
    subst e16
    have HB16:Hid (Below w14.heap.size w14 w16):=ck_all HB15.out h16.out.2
    have hth2:=There_any (H14.out.1.below HB16.out) H.out.1.run (thereC_len H.out.1.nm q)
    clear h16 HB15
    go_wp2_with fail
    refine hth2.mono ?_
    rintro e w17 ⟨a17,n17,m17,rfl,h17⟩
    clear hth2
    have e17:n17=n16:=by
     obtain ⟨_,_,_,_,e,_⟩:=h17.out.1.strs
     injection e with _ e
     rw[e,htl.out]
    subst e17
    have hb17:=ck_all HB16.out h17.out.2
    have HE:Hid (TriU A A2 A3 Q1 Q2 Q3 W7 w17 c q q' rb1 rb2 rb3 y1 y2 y3):=⟨H14.out.1.below hb17,H14.out.2.1.below hb17,H14.out.2.2.1.below hb17,HK.out.2.2.2.1,HK.out.2.2.1,ck_all H14.out.2.2.2 hb17⟩
    clear h17 hb17 HB16 H14 HK htl
    go_wp2_with fail
    go_roundg (N-(k+1))
    case measure=>omega
    case rel=>exact ⟨k+1,q,q',by omega,by omega,by go_num,HE.out⟩
   ·obtain rfl:k=N:=by omega
    have HB:Hid (Below w.heap.size w W):=ck_all HW.out.2.2.2 (ck_all HW7.out.1 hr.out.bel)
    clear hr
    go_wp2_with fail
    go_ret
    exact ⟨rfl,HB.out⟩
set_option maxHeartbeats 2000000 in
theorem runPrinted_many {s:ByteArray}{w:World}{iv:Value}{zss:List (List Int)}(hI:IRws w iv zss) (h:¬Few zss) :
    Calls Tryz.prog 5 #[.string s,iv] w fun e w'=>e=.returned (.bool true)/\Hid (Below w.heap.size w w'):=by
 have hf:=few_no hI h
 obtain ⟨iad,ib,io,ic,rfl,_⟩:=hI
 go_enter Tryz.func5,Tryz.ntmps5
 go_wp2_with fail
 refine hf.mono ?_
 rintro e w0 ⟨rfl,hw0⟩
 obtain rfl:=hw0.symm
 clear hf
 go_wp2_with fail
 go_ret
 exact ⟨rfl,Below.refl _ _⟩
set_option maxHeartbeats 2000000 in
theorem runPrinted_none {s:ByteArray}{w:World}{iv:Value}{zss:List (List Int)}(hI:IRws w iv zss) (h:Few zss) (hv:KEnv0 w) (hn:∀w,KEnv0 w->Calls Tryz.prog 8 #[.string s] w fun e w'=>e=.returned (.tuple #[.agg #[.string ⟨#[]⟩,.slice none 0 0,.slice none 0 0],.bool false])/\Hid (Below w.heap.size w w')) :
    Calls Tryz.prog 5 #[.string s,iv] w fun e w'=>e=.returned (.bool true)/\Hid (Below w.heap.size w w'):=by
 have hf:=few_yes hI h
 have hr:=ran_any hv
 have HN:Hid (∀w',Below w.heap.size w w'->Calls Tryz.prog 8 #[.string s] w' fun e w''=>e=.returned (.tuple #[.agg #[.string ⟨#[]⟩,.slice none 0 0,.slice none 0 0],.bool false])/\Hid (Below w'.heap.size w' w'')):=fun w' hb=>hn w' (hv.up hb)
 obtain ⟨iad,ib,io,ic,rfl,_⟩:=hI
 clear hv hn
 go_enter Tryz.func5,Tryz.ntmps5
 go_wp2_with fail
 refine hf.mono ?_
 rintro e w0 ⟨rfl,hw0⟩
 obtain rfl:=hw0.symm
 clear hf
 go_wp2_with fail
 refine hr.mono ?_
 rintro e w1 ⟨rfl,hb1⟩
 clear hr
 have hc:=HN.out w1 hb1.out
 clear HN
 go_wp2_with fail
 refine hc.mono ?_
 rintro e w2 ⟨rfl,hb2⟩
 clear hc
 have HB:Hid (Below w.heap.size w (w2.alloc (.cells #[.string ⟨#[]⟩,.slice none 0 0,.slice none 0 0] 28))):=ck_all (ck_all hb1.out hb2.out) (ck_grown _ _)
 go_wp2_with fail
 go_ret
 exact ⟨rfl,HB.out⟩
theorem runPrinted_any (s:ByteArray) {w:World}{iv:Value}{zss:List (List Int)}(hv:KEnv0 w/\PEnv w) (hI:IRws w iv zss) (h64:∀zs∈zss,∀y∈zs,N64 y) :
    Calls Tryz.prog 5 #[.string s,iv] w fun e w'=>e=.returned (.bool true)/\Hid (Below w.heap.size w w'):=by
 by_cases hf:Few zss
 ·rcases may_or s with ⟨l,c,h1,h2,h3,h4⟩|hn
  ·exact runPrinted_fine h1 hv.1 hv.2 h2 h3 h4 hI hf h64
  ·exact runPrinted_none hI hf hv.1 hn
 ·exact runPrinted_many hI hf
end Kx
end
section
open Go Go.RowKit Go.ChangeShapes Go.WideShapes
namespace Kx
theorem n64_of_wf {z:Int}(h:(Lit.int .i64 z).wf=true):N64 z:=by
 rw[show (Lit.int .i64 z).wf=(decide (-9223372036854775808≤z)&&decide (z≤9223372036854775807)) from rfl] at h
 simpa [N64] using h
theorem add_none (b off k:Nat):(⟨b,off,none⟩:Addr).add k=⟨b,off+k,none⟩:=by unfold Addr.add;split<;>simp_all
section
variable {H:Type}{enc:TypeId×Value->H}{W:World}{sp:Nat->Bool}{held:Bool}
theorem nums_of_trod {fuel:Nat}{v:Value}{x:DataW H×List MemPlace}(hc:Tryz.prog.cellsOf 2=1) (h:DataW.trod enc Tryz.prog W 0 sp held fuel 41 [v]=some x):∃zs,INums W v zs/\∀z∈zs,N64 z:=by
 rcases open_ints Tryz.underlying41 Tryz.underlying2 hc h with ⟨hcs,_⟩|⟨a,len,cap,zs,hcs,_,hl,hm,hz,_,hcell,hwz⟩
 ·obtain rfl:v=.slice none 0 0:=by simpa using hcs
  exact ⟨[],⟨none,0,0,0,rfl,Nat.le_refl _,by unfold maxLen;omega,fun h=>by simp at h,fun k hk=>by simp at hk⟩,fun z hz=>by cases hz⟩
 ·obtain rfl:v=.slice (some a) len cap:=by simpa using hcs
  have hlz:len≤zs.length:=by rw[hz];split<;>omega
  have hlen:(zs.take len).length=len:=by simp;omega
  refine ⟨zs.take len,?_,fun z hz=>n64_of_wf (hwz z (List.mem_of_mem_take hz))⟩
  by_cases h0:len=0
  ·subst h0
   exact ⟨some a,0,0,cap,by rw[hlen],by omega,hm,fun h=>by omega,fun k hk=>by omega⟩
  ·obtain ⟨b,off,spot⟩:=a
   have hc0:=hcell 0 (by omega)
   have hspot:spot=none:=by simpa [Addr.add] using World.cell?_spot hc0
   subst hspot
   refine ⟨some ⟨b,off,none⟩,b,off,cap,by rw[hlen],by omega,hm,fun _=>rfl,fun k hk=>?_⟩
   have:=hcell k (by omega)
   rw[add_none] at this
   rw[this]
   simp[List.getD_eq_getElem?_getD,show k<len by omega]
theorem choose_rows (m:Nat) (p:Nat->List Int->Prop) (h:∀i,i<m->∃z,p i z):∃l:List (List Int),l.length=m/\∀i z,l[i]?=some z->p i z:=by
 induction m with
 | zero=>exact ⟨[],rfl,fun i z hi=>by simp at hi⟩
 | succ m ih=>
  obtain ⟨l,hl,hp⟩:=ih (fun i hi=>h i (by omega))
  obtain ⟨z,hz⟩:=h m (by omega)
  refine ⟨l++[z],by simp[hl],fun i y hi=>?_⟩
  by_cases e:i<m
  ·rw[List.getElem?_append_left (by omega)] at hi;exact hp i y hi
  ·have hlt:=(List.getElem?_eq_some_iff.1 hi).1
   rw[List.length_append,List.length_singleton] at hlt
   obtain rfl:i=m:=by omega
   rw[List.getElem?_append_right (by omega),hl,Nat.sub_self] at hi
   simp at hi
   rw[<-hi];exact hz
theorem rows_of_trod {fuel:Nat}{v:Value}{x:DataW H×List MemPlace}(hc1:Tryz.prog.cellsOf 41=1) (hc2:Tryz.prog.cellsOf 2=1)
    (h:DataW.trod enc Tryz.prog W 0 sp held fuel 22 [v]=some x):∃zss,IRws W v zss/\∀zs∈zss,∀z∈zs,N64 z:=by
 rcases Deep.open_slice1 Tryz.underlying22 hc1 h with ⟨hcs,_⟩|⟨a,len,cap,m,n,V,D,Pl,hcs,_,hl,hm,hmm,_,hx⟩
 ·obtain rfl:v=.slice none 0 0:=by simpa using hcs
  exact ⟨[],⟨none,0,0,0,rfl,fun h=>by simp at h,fun k zs hk=>by simp at hk⟩,fun zs h=>by cases h⟩
 ·obtain rfl:v=.slice (some a) len cap:=by simpa using hcs
  have hlm:len≤m:=by rw[hmm];split<;>omega
  obtain ⟨rows,hrl,hr⟩:=choose_rows len (fun i z=>INums W (V i) z/\∀y∈z,N64 y) (fun i hi=>nums_of_trod hc2 (hx i (by omega)).2)
  refine ⟨rows,?_,fun zs hz=>?_⟩
  ·by_cases h0:len=0
   ·exact ⟨some a,0,0,cap,by rw[hrl],fun h=>by omega,fun k zs hk=>by have:=(List.getElem?_eq_some_iff.1 hk).1;omega⟩
   ·obtain ⟨b,off,spot⟩:=a
    have hc0:=(hx 0 (by omega)).1
    have hspot:spot=none:=by simpa [Addr.add] using World.cell?_spot hc0
    subst hspot
    refine ⟨some ⟨b,off,none⟩,b,off,cap,by rw[hrl],fun _=>rfl,fun k zs hk=>?_⟩
    have hkl:k<len:=by rw[<-hrl];exact (List.getElem?_eq_some_iff.1 hk).1
    have hc:=(hx k (by omega)).1
    rw[add_none] at hc
    have hI:=(hr k zs hk).1
    obtain ⟨ad,b',o',cap',e,_⟩:=id hI
    rw[e] at hI hc
    exact ⟨ad,cap',hc,hI⟩
  ·obtain ⟨i,hi,e⟩:=List.getElem_of_mem hz
   exact (hr i zs (by rw[List.getElem?_eq_getElem hi,e])).2
end
end Kx
end
section
open Go.ChangeShapes Go.WideShapes Go.ChangeAt Go.RowKit Px
theorem tPowP:(Tryz.prog.globals[5]?).map (·.type)=some 276:=by kernel_rfl
theorem dPowP:(Rows.laid_internal_strconv_uint64pow10:DataW Unit)=Lib.tabData .u64 Lib.pow10Tab:=by kernel_rfl
theorem print_laid {W:World}(h:laidMetH Tryz.prog Rows.runPrintedRow.laid W):PEnv W:=by
 have h0:laidMetH Tryz.prog Rows.runBesideRow.laid W:=h
 have hk:=run_laid h0
 have h':laidMet Tryz.prog [("math/bits.deBruijn32tab",Rows.laid_math_bits_deBruijn32tab),("math/bits.deBruijn64tab",Rows.laid_math_bits_deBruijn64tab),("internal/strconv.uint64pow10",Rows.laid_internal_strconv_uint64pow10),("strconv.ErrRange",Rows.laid_strconv_ErrRange),("strconv.ErrSyntax",Rows.laid_strconv_ErrSyntax),("clepsydra/lex.marks",Rows.laid_clepsydra_lex_marks),("clepsydra/parse.between",Rows.laid_clepsydra_parse_between),("clepsydra/parse.ahead",Rows.laid_clepsydra_parse_ahead),("clepsydra/parse.kinds",Rows.laid_clepsydra_parse_kinds),("clepsydra/parse.leads",Rows.laid_clepsydra_parse_leads),("clepsydra/parse.words",Rows.laid_clepsydra_parse_words)] W:=h
 obtain ⟨ps,hl,_⟩:=h'
 have m0:∀(a:String×DataW Unit) (r:List (String×DataW Unit)),a∈a::r:=fun a r=>List.mem_cons_self
 refine ⟨hk.tabs,?_,hk.big⟩
 obtain ⟨g,t,cs,f,p,h1,h2,h3,h4⟩:=laid_mem hl ("internal/strconv.uint64pow10",Rows.laid_internal_strconv_uint64pow10) (.tail _ (.tail _ (m0 _ _)))
 obtain rfl:=Option.some.inj (gPow.symm.trans h1)
 obtain rfl:=Option.some.inj (tPowP.symm.trans h2)
 rw[show (("internal/strconv.uint64pow10",Rows.laid_internal_strconv_uint64pow10):String×DataW Unit).2=Lib.tabData .u64 Lib.pow10Tab from dPowP] at h4
 have e:=Lib.cells_of_tab Tryz.underlying276 Tryz.underlying239 (by kernel_rfl) (by kernel_rfl) h4
 unfold Lib.TabIs
 rw[show W.var? Tryz.prog "internal/strconv.uint64pow10"=some cs from h3,<-e]
end
end Go.Proofs.YtpogmfliojcnjaaGreatDoor
