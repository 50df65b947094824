import Derived.Test.YtcdbhoknhnimcaaGreatDoorTNp1
import Derived.Test.YtcdbhoknhnimcaaGreatDoorTQb
set_option maxRecDepth 100000
set_option maxHeartbeats 8000000
namespace Go.Proofs.YtcdbhoknhnimcaaGreatDoor
section
open Go.RowKit Go.Sort Px
namespace Fw
open Nx (Nt Sp eQ lX bL lH kE cV)
open Ew (bH Up rA Wu Bx ZN fL)
theorem Xn {old:List Int}{cs:List Sp}(ho:∀x∈old,eF x):∀k,∀p v,(kE old cs k).kn p=some v->eF v
 | 0=>fun p v h=>by cases h
 | k+1=>Qq (Xn ho k) ho
theorem Mz (tmps:Array Value) (W:World) (c:Nat) (fc:Array Value) (v:Value) (hsz:fc.size=7) (hp:tmps[2]?.getD undef=.pointer (some ⟨c,0,none⟩)) (hq:tmps[3]?.getD undef=v) (hc:W.heap[c]?=some (.cells fc 26 (0,0))) :
    (results Tryz.f11 tmps).run Tryz.prog W=.ok (.tuple #[.agg fc,v]) W:=by
 simp[results,Tryz.results11,hp,hq,asAddr,Ew.vP hsz hc]
def P0 (m:Nat) (b:Nat):Prop:=b=m\/b=m+1\/b=m+2
theorem mkK (w:World):(Instr.makeMap 58 none).run Tryz.prog w=.ok (.map (some w.heap.size)) (w.alloc (.map #[] 0)):=by kernel_rfl
theorem mkW (w:World):(Instr.makeMap 59 none).run Tryz.prog w=.ok (.map (some w.heap.size)) (w.alloc (.map #[] 0)):=by kernel_rfl
theorem Qk (w:World):pP (P0 w.heap.size) (((w.alloc (.map #[] 0)).alloc (.map #[] 0)).alloc (.cells #[.map (some w.heap.size),.map (some (w.heap.size+1)),.slice none 0 0,.slice none 0 0] 61)) (w.heap.size+2) 0 ⟨fun _=>none,[],[]⟩:=by
 have s1:(w.alloc (.map #[] 0)).heap.size=w.heap.size+1:=by simp
 have s2:((w.alloc (.map #[] 0)).alloc (.map #[] 0)).heap.size=w.heap.size+2:=by simp
 have hne:w.heap.size≠w.heap.size+1/\w.heap.size≠w.heap.size+2/\w.heap.size+2≠w.heap.size/\w.heap.size+2≠w.heap.size+1:=⟨by omega,by omega,by omega,by omega⟩
 refine ⟨⟨⟨w.heap.size,w.heap.size+1,0,0,.slice none 0 0,.slice none 0 0⟩,?_⟩,fun b hb=>by rcases hb with rfl|rfl|rfl<;>simp<;>omega⟩
 refine ⟨?_,World.ownsRow_nil _ _ _ _,World.ownsRow_nil _ _ _ _,⟨fun _=>none,?_,fun _=>rfl⟩,⟨fun _=>none,?_,fun v=>rfl⟩,⟨.inr (.inr rfl),.inl rfl,.inr (.inl rfl)⟩,fun g hg=>?_,fun g hg=>?_,⟨hne.2.2.1,hne.2.2.2,hne.1⟩,⟨Nat.le_refl _,Nat.le_refl _,Nat.le_refl _,Nat.le_refl _,by omega⟩⟩
 ·rw[<-s2];exact bE _ _
 ·exact (Gm.Mp.made Tryz.prog 3 w).keep (by rw[Below.heap_alloc _ _ _ (by simp;omega),Below.heap_alloc _ _ _ (by simp)])
 ·have:=(Gm.Mp.made Tryz.prog 2 (w.alloc (.map #[] 0))).keep (w':=((w.alloc (.map #[] 0)).alloc (.map #[] 0)).alloc (.cells #[.map (some w.heap.size),.map (some (w.heap.size+1)),.slice none 0 0,.slice none 0 0] 61)) (by rw[Below.heap_alloc _ _ _ (by simp)])
  rw[s1] at this
  exact this
 ·simp[Value.ownBlock] at hg
 ·simp[Value.ownBlock] at hg
section
variable {w:World}
theorem Z1 {n:Nt}{d1 d2 d3 d4 d5 d6:Option Addr}{k1 c1 k2 c2 k3 c3 k4 c4 k5 c5 k6 c6 B:Nat}(hB:B≤w.heap.size) (hN:eQ B w n (.slice d1 k1 c1) (.slice d2 k2 c2) (.slice d3 k3 c3) (.slice d4 k4 c4) (.slice d5 k5 c5) (.slice d6 k6 c6)) (hr:lX n) (hnn:∀x∈n.nums,eF x) :
    Calls Tryz.prog 11 #[.agg #[.int .i64 n.places,.slice d1 k1 c1,.slice d2 k2 c2,.slice d3 k3 c3,.slice d4 k4 c4,.slice d5 k5 c5,.slice d6 k6 c6]] w (Wu (cV n) w):=by
 have HX:=Bx.start w n (.slice d1 k1 c1) (.slice d2 k2 c2) (.slice d3 k3 c3) (.slice d4 k4 c4) (.slice d5 k5 c5) (.slice d6 k6 c6)
 obtain ⟨pn,hpn⟩:∃p,p=n.places:=⟨_,rfl⟩
 obtain ⟨W,hW⟩:∃W,W=(w.alloc (.cells #[.int .i64 n.places,.slice d1 k1 c1,.slice d2 k2 c2,.slice d3 k3 c3,.slice d4 k4 c4,.slice d5 k5 c5,.slice d6 k6 c6] 26)).alloc (.cells ZN 26):=⟨_,rfl⟩
 obtain ⟨q,hq⟩:∃q,q=w.heap.size:=⟨_,rfl⟩
 rw[<-hW,<-hq] at HX
 have HB:Hid (Bx q w W n (.slice d1 k1 c1) (.slice d2 k2 c2) (.slice d3 k3 c3) (.slice d4 k4 c4) (.slice d5 k5 c5) (.slice d6 k6 c6)):=HX
 have HN:Hid (eQ B w n (.slice d1 k1 c1) (.slice d2 k2 c2) (.slice d3 k3 c3) (.slice d4 k4 c4) (.slice d5 k5 c5) (.slice d6 k6 c6)/\lX n/\(∀x∈n.nums,eF x)/\B≤w.heap.size/\pn=n.places):=⟨hN,hr,hnn,hB,hpn⟩
 have hck:=Ew.Kv (HX.old hB hN) (Nat.le_trans hB HX.bel.size) hr
 obtain ⟨a0,a1,a2,a3,a4,a5,a6⟩:=Nx.lU HX.b1
 rw[<-hpn] at hW a0 hck ⊢
 have m1:=mkK
 have m2:=mkW
 clear HX hN hr hnn hpn hB
 go_enter Tryz.func11,Tryz.ntmps11
 go_upto_region 1 with fail
 rw[show (w.alloc (.cells #[.int .i64 pn,.slice d1 k1 c1,.slice d2 k2 c2,.slice d3 k3 c3,.slice d4 k4 c4,.slice d5 k5 c5,.slice d6 k6 c6] 26)).alloc (.cells #[.int .i64 0,.slice none 0 0,.slice none 0 0,.slice none 0 0,.slice none 0 0,.slice none 0 0,.slice none 0 0] 26)=W from hW.symm,<-hq]
 clear hW hq
 go_upto_region 5 with (go_at_call 29;refine hck.mono ?_;rintro e w1 ⟨rfl,h1⟩;clear hck)
 obtain ⟨V,hV⟩:∃V,V=((w1.alloc (.map #[] 0)).alloc (.map #[] 0)).alloc (.cells #[.map (some w1.heap.size),.map (some (w1.heap.size+1)),.slice none 0 0,.slice none 0 0] 61):=⟨_,rfl⟩
 obtain ⟨fb,hfb⟩:∃fb,fb=w1.heap.size+1+1:=⟨_,rfl⟩
 obtain ⟨m,hm⟩:∃m,m=w1.heap.size:=⟨_,rfl⟩
 have hst:=Qk w1
 have bV:Below w1.heap.size w1 V:=by rw[hV];exact aN (aN (aC _ _) (aC _ _)) (aC _ _)
 have b1:Bx q w w1 n (.slice d1 k1 c1) (.slice d2 k2 c2) (.slice d3 k3 c3) (.slice d4 k4 c4) (.slice d5 k5 c5) (.slice d6 k6 c6):=HB.out.next (h1.out.mono HB.out.size)
 have hq1:=b1.size
 have HV:Hid (pP (P0 m) V fb 0 (kE n.nums n.code 0)/\Bx q w V n (.slice d1 k1 c1) (.slice d2 k2 c2) (.slice d3 k3 c3) (.slice d4 k4 c4) (.slice d5 k5 c5) (.slice d6 k6 c6)/\(∀b,P0 m b->q+2≤b)):=by
  refine ⟨?_,b1.next (bV.mono hq1),fun b hb=>by rcases hb with rfl|rfl|rfl<;>omega⟩
  rw[hm,hfb,hV];exact hst
 rw[<-hV,<-hfb]
 obtain ⟨a0,a1,a2,a3,a4,a5,a6⟩:=Nx.lU HV.out.2.1.b1
 clear hV hfb hm hst bV b1 hq1 h1 HB m1 m2
 obtain ⟨_,bC,oC,_,hC0,hC1,hC2⟩:=HN.out.1.c
 injection hC0 with hC3 hC4 hC5
 subst hC3 hC5
 have HC:Hid (k6=n.code.length/\(0<n.code.length->d6=some ⟨bC,oC,none⟩/\bC<B)/\_):=⟨hC4,hC1,hC2⟩
 clear hC4 hC1 hC2
 go_upto_region 6 with fail
 go_loopw [20] (fun i wr=>∃k:Nat,k≤k6/\i=.int .i64 k/\Hid (pP (Up (P0 m) V wr) wr fb (2*k) (kE n.nums n.code k)/\bH (P0 m) V wr)) (fun i _=>k6-(intOf i).toNat)
 case atStart=>exact ⟨0,Nat.zero_le _,rfl,HV.out.1.mono (fun _ h=>.inl h) (fun b hb=>hb.elim (HV.out.1.2 b) fun h=>h.2),bH.refl _ _⟩
 case round=>
  obtain ⟨k,hk,rfl,HR⟩:=hrel
  have HW:Hid (Bx q w wr n (.slice d1 k1 c1) (.slice d2 k2 c2) (.slice d3 k3 c3) (.slice d4 k4 c4) (.slice d5 k5 c5) (.slice d6 k6 c6)/\(∀b,Up (P0 m) V wr b->q+2≤b)):=⟨HV.out.2.1.next (HR.out.2.below HV.out.2.1.size HV.out.2.2),fun b hb=>hb.elim (HV.out.2.2 b) fun h=>Nat.le_trans HV.out.2.1.size h.1⟩
  clear a0 a1 a2 a3 a4 a5 a6
  have hkk:=HN.out.2.1.c
  have hck6:=HC.out.1
  have hk4:k6≤4000:=by omega
  clear hkk hck6
  by_cases hlt:k<k6
  ·have hix:=Nx.Vh d6 bC oC k6 c6 k hlt (fun h=>(HC.out.2.1 (by have:=HC.out.1;omega)).1)
   obtain ⟨s,hs⟩:∃s,s=n.code.getD k Nx.iC:=⟨_,rfl⟩
   have hl2:k<n.code.length:=by have:=HC.out.1;omega
   have hbC:=(HC.out.2.1 (by omega)).2
   obtain ⟨x0,x1,x2,x3,x4⟩:=HC.out.2.2 k hl2
   have hb':wr.heap[bC]?=w.heap[bC]?:=HW.out.1.bel.block bC (Nat.lt_of_lt_of_le hbC HN.out.2.2.2.1)
   rw[<-Nx.aV hb',<-hs] at x0 x1 x2 x3 x4
   obtain ⟨Y,hY⟩:∃Y,Y=wr.alloc (.cells #[.int .i64 s.code,.int .i64 s.dst,.int .i64 s.a,.int .i64 s.b,.int .i64 s.c] 39):=⟨_,rfl⟩
   have bY:Below wr.heap.size wr Y:=by rw[hY];exact aC _ _
   have kY:Y.heap[wr.heap.size]?=some (.cells #[.int .i64 s.code,.int .i64 s.dst,.int .i64 s.a,.int .i64 s.b,.int .i64 s.c] 39 (0,0)):=by rw[hY];exact bE wr _
   obtain ⟨y0,y1,y2,y3,y4⟩:=iT kY
   obtain ⟨-,-,-,-,-,z5,-⟩:=Nx.lU (aH bY HW.out.1.b1)
   have bw:Below w.heap.size w Y:=aN HW.out.1.bel bY
   have hO:bL (· < B) Y (.slice d5 k5 c5) n.nums:=HN.out.1.m.carry fun b hb _=>⟨hb,bw.block b (Nat.lt_of_lt_of_le hb HN.out.2.2.2.1)⟩
   have hadd:=qE (L:=n.places) (s:=s) (HR.out.1.below bY) hO (fun b hb hu=>by have:=HW.out.2 b hu;have:=HN.out.2.2.2.1;have:=HW.out.1.hq;omega) HN.out.2.1.p.2 (by have:=HN.out.2.1.m;omega) (by rw[hs];exact HN.out.2.1.s k hl2) (Xn HN.out.2.2.1 k) HN.out.2.2.1 (by omega)
   have HS:Hid (Nx.kD n.nums (kE n.nums n.code k) s=kE n.nums n.code (k+1)):=by rw[hs];rfl
   rw[HS.out] at hadd
   have HY:Hid (Below wr.heap.size wr Y):=bY
   obtain ⟨b,hb⟩:∃b,b=wr.heap.size:=⟨_,rfl⟩
   rw[<-hb] at y0 y1 y2 y3 y4
   clear hs hl2 hbC hb' bY kY bw hO
   go_upto_region 8 with fail
   rw[<-hY,<-hb]
   clear hY hb
   go_wp2_with (go_at_call 30;refine hadd.mono ?_;rintro e w2 ⟨rfl,h2⟩)
   go_roundw
   case rel=>
    refine ⟨k+1,by omega,by go_num,?_⟩
    have f1:bH (P0 m) V Y:=HR.out.2.trans (bH.of_below (P:=fun _=>False) HY.out) fun _ _ h=>h.elim
    have f2:bH (P0 m) V w2:=f1.up (h2.out.2.wide fun b _ hb=>hb.elim .inl fun h=>.inr ⟨h.1,Nat.lt_of_lt_of_le h.2 HY.out.size⟩)
    refine ⟨(h2.out.1.mono (fun b hb=>?_) fun b hb=>fL HV.out.1.2 f2.size b hb),f2⟩
    rcases hb with (hb|hb)|hb
    ·exact .inl hb
    ·exact .inr ⟨hb.1,Nat.lt_of_lt_of_le hb.2 (Nat.le_trans HY.out.size h2.out.2.size)⟩
    ·exact .inr ⟨Nat.le_trans f1.size hb.1,hb.2⟩
   case measure=>simp[intOf];omega
  ·obtain rfl:k=k6:=by omega
   obtain ⟨M,hM⟩:∃M,M=kE n.nums n.code k:=⟨_,rfl⟩
   obtain ⟨⟨c,hc⟩,hlt2⟩:=HR.out.1
   rw[<-hM] at hc
   have HM:Hid (M=kE n.nums n.code n.code.length):=by unfold Hid;rw[hM,HC.out.1]
   obtain ⟨an,capn,en⟩:=aJ hc.rn
   obtain ⟨ac,capc,ec⟩:=aJ hc.rc
   obtain ⟨-,-,u2,u3,-⟩:=hc.cells
   rw[en] at u2
   rw[ec] at u3
   have HF:Hid (bL (Up (P0 m) V wr) wr (.slice an M.nums.length capn) M.nums/\Nx.lH (Up (P0 m) V wr) wr (.slice ac M.code.length capc) M.code):=by
    have r1:=Ew.pU (A:=Up (P0 m) V wr) hc.rn fun g hg=>(hc.pn g hg).1
    have r2:=Ew.T8 (A:=Up (P0 m) V wr) hc.rc fun g hg=>(hc.pc g hg).1
    rw[en] at r1
    rw[ec] at r2
    exact ⟨r1,r2⟩
   have hne1:¬fb=q+1:=by have:=HW.out.2 fb hc.pb.1;omega
   have hne2:¬q+1=fb:=fun e=>hne1 e.symm
   obtain ⟨z0,z1,z2,z3,z4,-,-⟩:=Nx.lU HW.out.1.b1
   obtain ⟨ln,hln⟩:∃l,l=M.nums.length:=⟨_,rfl⟩
   obtain ⟨lc,hlc⟩:∃l,l=M.code.length:=⟨_,rfl⟩
   rw[<-hln] at u2 HF
   rw[<-hlc] at u3 HF
   have HS:Hid (∀w',Below wr.heap.size wr w'->w'.cell? ⟨q,0,none⟩=some (.int .i64 n.places)/\w'.cell? ⟨q,1,none⟩=some (.slice d1 k1 c1)/\w'.cell? ⟨q,2,none⟩=some (.slice d2 k2 c2)/\w'.cell? ⟨q,3,none⟩=some (.slice d3 k3 c3)/\w'.cell? ⟨q,4,none⟩=some (.slice d4 k4 c4)/\w'.cell? ⟨fb,2,none⟩=some (.slice an ln capn)/\w'.cell? ⟨fb,3,none⟩=some (.slice ac lc capc)):=fun w' hb=>⟨aM hb z0,aM hb z1,aM hb z2,aM hb z3,aM hb z4,aM hb u2,aM hb u3⟩
   have HZ:Hid (∀w',Below wr.heap.size wr w'->w'.heap[q+1]?=some (.cells ZN 26 (0,0))):=fun w' hb=>aH hb HW.out.1.b2
   have HI:Hid (∀w',Below wr.heap.size wr w'->bL (· < B) w' (.slice d1 k1 c1) n.first/\bL (· < B) w' (.slice d2 k2 c2) n.ins/\bL (· < B) w' (.slice d3 k3 c3) n.outs/\bL (· < B) w' (.slice d4 k4 c4) n.keeps):=fun w' hb=>by
    have bw:Below w.heap.size w w':=aN HW.out.1.bel hb
    have kp:Nx.aX (· < B) (· < B) w w':=fun b hb _=>⟨hb,bw.block b (Nat.lt_of_lt_of_le hb HN.out.2.2.2.1)⟩
    exact ⟨HN.out.1.f.carry kp,HN.out.1.i.carry kp,HN.out.1.o.carry kp,HN.out.1.k.carry kp⟩
   have HD:Hid (Below wr.heap.size wr wr.drew):=(Below.refl _ wr).drew
   have hq1:Calls Tryz.prog 31 #[.slice d1 k1 c1] wr.drew fun e w'=>∃f c,e=.returned (.slice f n.first.length c)/\Hid (Below wr.heap.size wr w'/\bL (fun b=>wr.heap.size≤b/\b<w'.heap.size) w' (.slice f n.first.length c) n.first):=(Nx.aN1 (HI.out _ HD.out).1 (by have:=HN.out.2.1.f;have:=HN.out.2.1.p;omega)).mono fun e w' ⟨f,c,he,h⟩=>⟨f,c,he,aN HD.out h.out.1,h.out.2⟩
   have HQ:Hid (∀W v zs,Below wr.heap.size wr W->zs.length≤4000->bL (· < B) W v zs->Calls Tryz.prog 32 #[v] W fun e w'=>∃f c,e=.returned (.slice f zs.length c)/\Hid (Below W.heap.size W w'/\Below wr.heap.size wr w'/\bL (fun b=>wr.heap.size≤b/\b<w'.heap.size) w' (.slice f zs.length c) zs)):=fun W v zs hb hl hi=>(Nx.clI hi (by omega)).mono fun e w' ⟨f,c,he,h⟩=>⟨f,c,he,h.out.1,aN hb h.out.1,h.out.2.carry fun b hb2 _=>⟨⟨Nat.le_trans hb.size hb2.1,hb2.2⟩,rfl⟩⟩
   have HL:Hid (n.ins.length≤4000/\n.outs.length≤4000/\n.keeps.length≤4000):=by have:=HN.out.2.1.l;unfold Hid;omega
   have hS0:=HS.out _ HD.out
   have T1:Hid True:=trivial
   have T2:Hid True:=trivial
   have T3:Hid True:=trivial
   have T4:Hid True:=trivial
   clear hM hc hlt2 en ec hln hlc hk4 hlt a0 a1 a2 a3 a4 a5
   go_upto_region 10 with fail
   go_region_held3 (fun w'=>w'.cell? ⟨q,0,none⟩=some (.int .i64 n.places)/\w'.cell? ⟨q,1,none⟩=some (.slice d1 k1 c1)/\w'.cell? ⟨q,2,none⟩=some (.slice d2 k2 c2)/\w'.cell? ⟨q,3,none⟩=some (.slice d3 k3 c3)/\w'.cell? ⟨q,4,none⟩=some (.slice d4 k4 c4)/\w'.cell? ⟨fb,2,none⟩=some (.slice an ln capn)/\w'.cell? ⟨fb,3,none⟩=some (.slice ac lc capc)) (first|with_reducible exact hS4|with_reducible exact hS3|with_reducible exact hS2|with_reducible exact hS1|with_reducible exact hS0|go_keep)
    (first
     | (clear T1;go_at_call 31;refine hq1.mono ?_;rintro e w2 ⟨f1,g1,rfl,h2⟩;have hS1:=HS.out _ h2.out.1;clear hq1)
     | (clear T2;go_at_call 32;refine (HQ.out w2 _ _ h2.out.1 HL.out.1 (HI.out _ h2.out.1).2.1).mono ?_;rintro e w3 ⟨f2,g2,rfl,h3⟩;have hS2:=HS.out _ h3.out.2.1)
     | (clear T3;go_at_call 32;refine (HQ.out w3 _ _ h3.out.2.1 HL.out.2.1 (HI.out _ h3.out.2.1).2.2.1).mono ?_;rintro e w4 ⟨f3,g3,rfl,h4⟩;have hS3:=HS.out _ h4.out.2.1)
     | (clear T4;go_at_call 32;refine (HQ.out w4 _ _ h4.out.2.1 HL.out.2.2 (HI.out _ h4.out.2.1).2.2.2).mono ?_;rintro e w5 ⟨f4,g4,rfl,h5⟩;have hS4:=HS.out _ h5.out.2.1;have kz:=HZ.out _ h5.out.2.1;obtain ⟨r0,r1,r2,r3,r4,r5,r6⟩:=Nx.lU kz;have rf:=fun o=>aE kz o))
   all_goals
    go_wp2_with fail
    obtain ⟨X,hX⟩:∃X,X=((((((w5.setCell ⟨q+1,0,none⟩ (.int .i64 n.places)).setCell ⟨q+1,1,none⟩ (.slice f1 n.first.length g1)).setCell ⟨q+1,2,none⟩ (.slice f2 n.ins.length g2)).setCell ⟨q+1,3,none⟩ (.slice f3 n.outs.length g3)).setCell ⟨q+1,4,none⟩ (.slice f4 n.keeps.length g4)).setCell ⟨q+1,5,none⟩ (.slice an ln capn)).setCell ⟨q+1,6,none⟩ (.slice ac lc capc):=⟨_,rfl⟩
    rw[<-hX]
    obtain ⟨y0,y1,y2,y3⟩:=Ew.Ig kz hX
    clear hX
    refine bodyPost_ret (Mz _ _ (q+1) _ _ rfl rfl rfl y0) rfl ?_
    have hq0:=HW.out.1.hq
    have hsz:=HW.out.1.size
    have hx:∀b,b≠q+1->X.heap[b]?=w5.heap[b]?:=y1
    have kp:∀(W:World) (A:Nat->Prop),Below W.heap.size W w5->(∀b,A b->b≠q+1)->Nx.aX A (· < X.heap.size) W X:=fun W A hW hA b hb hl=>⟨by show b<X.heap.size;rw[y3];exact Nat.lt_of_lt_of_le hl hW.size,by rw[hx b (hA b hb),hW.block b hl]⟩
    have e5:Below w5.heap.size w5 w5:=Below.refl _ _
    have e4:=h5.out.1
    have e3:=aN h4.out.1 e4
    have e2:=aN h3.out.1 e3
    refine ⟨f1,f2,f3,f4,an,ac,_,g1,_,g2,_,g3,_,g4,ln,capn,lc,capc,rfl,y2 _ _ (aN HW.out.1.bel h5.out.2.1) (by omega),⟨h2.out.2.carry (kp _ _ e2 fun b hb=>by omega),h3.out.2.2.carry (kp _ _ e3 fun b hb=>by omega),h4.out.2.2.carry (kp _ _ e4 fun b hb=>by omega),h5.out.2.2.carry (kp _ _ e5 fun b hb=>by omega),?_,?_⟩⟩
    ·show bL _ X _ (kE n.nums n.code n.code.length).nums
     rw[<-HM.out]
     exact HF.out.1.carry (kp _ _ h5.out.2.1 fun b hb=>by have:=HW.out.2 b hb;omega)
    ·show Nx.lH _ X _ (kE n.nums n.code n.code.length).code
     rw[<-HM.out]
     exact HF.out.2.carry (kp _ _ h5.out.2.1 fun b hb=>by have:=HW.out.2 b hb;omega)
end
end Fw
end
section
open Go.RowKit Go.Sort Px
namespace Fw
open Nx (Nt Sp eQ lX bL lH cV)
open Ew (Wu)
def nF:Nt:=⟨3,[0,0,0],[],[2],[],[1,2],[⟨1,0,0,0,0⟩,⟨1,1,1,0,0⟩,⟨6,2,0,1,0⟩]⟩
theorem Oh:Nx.fM nF=(0,-1):=by kernel_rfl
theorem Fj:(cV nF).code=[⟨1,0,0,0,0⟩,⟨1,1,1,0,0⟩,⟨1,2,2,0,0⟩]/\(cV nF).nums=[1,2,3]:=⟨by kernel_rfl,by kernel_rfl⟩
theorem mk3 (w:World):(Instr.makeSlice 22 (.int .i64 3) (.int .i64 3)).run Tryz.prog w=.ok (.slice (some ⟨w.heap.size,0,none⟩) 3 3) (w.alloc (.cells #[.int .i64 0,.int .i64 0,.int .i64 0] 2)):=by kernel_rfl
theorem Yt (w:World):∃V,V=((((w.alloc (.cells #[.int .i64 0,.int .i64 0,.int .i64 0] 2)).alloc (.cells #[.int .i64 2] 3)).alloc (.cells #[.int .i64 1,.int .i64 2] 2)).alloc (.cells #[.int .i64 1,.int .i64 0,.int .i64 0,.int .i64 0,.int .i64 0,.int .i64 1,.int .i64 1,.int .i64 1,.int .i64 0,.int .i64 0,.int .i64 6,.int .i64 2,.int .i64 0,.int .i64 1,.int .i64 0] 39)).alloc (.cells #[.int .i64 3,.slice (some ⟨w.heap.size,0,none⟩) 3 3,.slice none 0 0,.slice (some ⟨w.heap.size+1,0,none⟩) 1 1,.slice none 0 0,.slice (some ⟨w.heap.size+1+1,0,none⟩) 2 2,.slice (some ⟨w.heap.size+1+1+1,0,none⟩) 3 3] 26)/\Below w.heap.size w V/\eQ V.heap.size V nF (.slice (some ⟨w.heap.size,0,none⟩) 3 3) (.slice none 0 0) (.slice (some ⟨w.heap.size+1,0,none⟩) 1 1) (.slice none 0 0) (.slice (some ⟨w.heap.size+1+1,0,none⟩) 2 2) (.slice (some ⟨w.heap.size+1+1+1,0,none⟩) 3 3)/\V.heap[w.heap.size+1+1+1+1]?=some (.cells #[.int .i64 3,.slice (some ⟨w.heap.size,0,none⟩) 3 3,.slice none 0 0,.slice (some ⟨w.heap.size+1,0,none⟩) 1 1,.slice none 0 0,.slice (some ⟨w.heap.size+1+1,0,none⟩) 2 2,.slice (some ⟨w.heap.size+1+1+1,0,none⟩) 3 3] 26 (0,0)):=by
 obtain ⟨A1,h1⟩:∃A1,A1=w.alloc (.cells #[.int .i64 0,.int .i64 0,.int .i64 0] 2):=⟨_,rfl⟩
 obtain ⟨A2,h2⟩:∃A2,A2=A1.alloc (.cells #[.int .i64 2] 3):=⟨_,rfl⟩
 obtain ⟨A3,h3⟩:∃A3,A3=A2.alloc (.cells #[.int .i64 1,.int .i64 2] 2):=⟨_,rfl⟩
 obtain ⟨A4,h4⟩:∃A4,A4=A3.alloc (.cells #[.int .i64 1,.int .i64 0,.int .i64 0,.int .i64 0,.int .i64 0,.int .i64 1,.int .i64 1,.int .i64 1,.int .i64 0,.int .i64 0,.int .i64 6,.int .i64 2,.int .i64 0,.int .i64 1,.int .i64 0] 39):=⟨_,rfl⟩
 have s1:A1.heap.size=w.heap.size+1:=by rw[h1];simp
 have s2:A2.heap.size=w.heap.size+1+1:=by rw[h2];simp[s1]
 have s3:A3.heap.size=w.heap.size+1+1+1:=by rw[h3];simp[s2]
 have s4:A4.heap.size=w.heap.size+1+1+1+1:=by rw[h4];simp[s3]
 have b1:Below w.heap.size w A1:=by rw[h1];exact aC _ _
 have b2:Below A1.heap.size A1 A2:=by rw[h2];exact aC _ _
 have b3:Below A2.heap.size A2 A3:=by rw[h3];exact aC _ _
 have b4:Below A3.heap.size A3 A4:=by rw[h4];exact aC _ _
 have k1:A1.heap[w.heap.size]?=some (.cells #[.int .i64 0,.int .i64 0,.int .i64 0] 2 (0,0)):=by rw[h1];exact bE _ _
 have k2:A2.heap[w.heap.size+1]?=some (.cells #[.int .i64 2] 3 (0,0)):=by rw[<-s1,h2];exact bE _ _
 have k3:A3.heap[w.heap.size+1+1]?=some (.cells #[.int .i64 1,.int .i64 2] 2 (0,0)):=by rw[<-s2,h3];exact bE _ _
 have k4:A4.heap[w.heap.size+1+1+1]?=some (.cells #[.int .i64 1,.int .i64 0,.int .i64 0,.int .i64 0,.int .i64 0,.int .i64 1,.int .i64 1,.int .i64 1,.int .i64 0,.int .i64 0,.int .i64 6,.int .i64 2,.int .i64 0,.int .i64 1,.int .i64 0] 39 (0,0)):=by rw[<-s3,h4];exact bE _ _
 rw[<-h1,<-h2,<-h3,<-h4]
 obtain ⟨V,hV⟩:∃V,V=A4.alloc (.cells #[.int .i64 3,.slice (some ⟨w.heap.size,0,none⟩) 3 3,.slice none 0 0,.slice (some ⟨w.heap.size+1,0,none⟩) 1 1,.slice none 0 0,.slice (some ⟨w.heap.size+1+1,0,none⟩) 2 2,.slice (some ⟨w.heap.size+1+1+1,0,none⟩) 3 3] 26):=⟨_,rfl⟩
 have b5:Below A4.heap.size A4 V:=by rw[hV];exact aC _ _
 refine ⟨V,hV,aN b1 (aN b2 (aN b3 (aN b4 b5))),⟨?_,Ew.X0,?_,Ew.X0,?_,?_⟩,by rw[<-s4,hV];exact bE _ _⟩
 ·exact Ew.xK (zs:=[0,0,0]) 3 (aH b5 (aH b4 (aH b3 (aH b2 k1))))
 ·exact Ew.xK (zs:=[2]) 1 (aH b5 (aH b4 (aH b3 k2)))
 ·exact Ew.xK (zs:=[1,2]) 2 (aH b5 (aH b4 k3))
 ·exact Ew.Je (l:=[⟨1,0,0,0,0⟩,⟨1,1,1,0,0⟩,⟨6,2,0,1,0⟩]) 3 (aH b5 k4)
theorem ixF {p:Addr}(n c j:Nat) (hj:j<n) (w:World):(Instr.indexAt 24 (.slice (some p) n c) (.int .i64 (j:Int))).run Tryz.prog w=.ok (.pointer (some (p.add (j*5)))) w:=by
 rw[run_indexAt_slice _ _ _ _ _ _ _ (by kernel_rfl),if_pos ⟨by omega,by omega⟩]
 have e:(sizeOf (Tryz.prog.elem 24)).run Tryz.prog w=.ok 5 w:=by kernel_rfl
 rw[e]
 simp[Result.andThen]
section
theorem Ds (w:World):Calls Tryz.prog 9 #[] w fun e w'=>e=.returned (.bool true)/\Hid (Below w.heap.size w w'):=by
 have m3:=mk3
 obtain ⟨V,hV,hbV,hN,hk⟩:=Yt w
 have hfold:=Z1 (n:=nF) (Nat.le_refl _) hN (Nx.D8 Oh) (fun x hx=>by { have h:x=1\/x=2:=(by simpa [nF] using hx);unfold eF;omega })
 have hfold':Calls Tryz.prog 11 #[.agg #[.int .i64 3,.slice (some ⟨w.heap.size,0,none⟩) 3 3,.slice none 0 0,.slice (some ⟨w.heap.size+1,0,none⟩) 1 1,.slice none 0 0,.slice (some ⟨w.heap.size+1+1,0,none⟩) 2 2,.slice (some ⟨w.heap.size+1+1+1,0,none⟩) 3 3]] V fun e w'=>∃(f1 f2 f3 f4:Option Addr) (k1 g1 k2 g2 k3 g3 k4 g4 bN oN g5 bC oC g6:Nat),e=.returned (.tuple #[.agg #[.int .i64 3,.slice f1 k1 g1,.slice f2 k2 g2,.slice f3 k3 g3,.slice f4 k4 g4,.slice (some ⟨bN,oN,none⟩) 3 g5,.slice (some ⟨bC,oC,none⟩) 3 g6],.nilIface])/\Hid (Below V.heap.size V w'/\w'.cell? ⟨bN,oN+2,none⟩=some (.int .i64 3)/\w'.cell? ⟨bC,oC+10,none⟩=some (.int .i64 1)/\w'.cell? ⟨bC,oC+11,none⟩=some (.int .i64 2)/\w'.cell? ⟨bC,oC+12,none⟩=some (.int .i64 2)/\w'.cell? ⟨bC,oC+13,none⟩=some (.int .i64 0)/\w'.cell? ⟨bC,oC+14,none⟩=some (.int .i64 0)):=by
  refine hfold.mono fun e w' h=>?_
  obtain ⟨f1,f2,f3,f4,f5,f6,k1,g1,k2,g2,k3,g3,k4,g4,k5,g5,k6,g6,he,hb,hM⟩:=h
  have hc:=hM.c
  have hm:=hM.m
  rw[Fj.1] at hc
  rw[Fj.2] at hm
  obtain ⟨rfl,bC,oC,hC1,hC2⟩:=Ew.rU hc
  obtain ⟨rfl,bN,oN,hN1,hN2⟩:=Ew.Fy hm
  obtain rfl:=hC1 (by simp)
  obtain rfl:=hN1 (by simp)
  obtain ⟨x0,x1,x2,x3,x4⟩:=hC2 2 (by simp)
  exact ⟨f1,f2,f3,f4,k1,g1,k2,g2,k3,g3,k4,g4,bN,oN,g5,bC,oC,g6,he,hb,hN2 2 (by simp),x0,x1,x2,x3,x4⟩
 have HB:Hid (Below w.heap.size w V):=hbV
 obtain ⟨-,p1,p2,p3,p4,p5,p6⟩:=Nx.lU hk
 obtain ⟨p0,-,-,-,-,-,-⟩:=Nx.lU hk
 have hix:=fun bC oC g6 W=>ixF (p:=⟨bC,oC,none⟩) 3 g6 2 (by omega) W
 clear hN hfold hbV hk
 go_enter Tryz.func9,Tryz.ntmps9
 go_upto_region 2 with fail
 rw[<-hV]
 clear hV m3
 go_upto_region 3 with (go_at_call 11;refine hfold'.mono ?_;rintro e w1 ⟨f1,f2,f3,f4,k1,g1,k2,g2,k3,g3,k4,g4,bN,oN,g5,bC,oC,g6,rfl,h1⟩;clear hfold';obtain ⟨h1b,y0,y1,y2,y3,y4,y5⟩:=h1.out)
 obtain ⟨X,hX⟩:∃X,X=w1.alloc (.cells #[.int .i64 3,.slice f1 k1 g1,.slice f2 k2 g2,.slice f3 k3 g3,.slice f4 k4 g4,.slice (some ⟨bN,oN,none⟩) 3 g5,.slice (some ⟨bC,oC,none⟩) 3 g6] 26):=⟨_,rfl⟩
 obtain ⟨q,hq⟩:∃q,q=w1.heap.size:=⟨_,rfl⟩
 have bX:Below w1.heap.size w1 X:=by rw[hX];exact aC _ _
 have kX:X.heap[q]?=some (.cells #[.int .i64 3,.slice f1 k1 g1,.slice f2 k2 g2,.slice f3 k3 g3,.slice f4 k4 g4,.slice (some ⟨bN,oN,none⟩) 3 g5,.slice (some ⟨bC,oC,none⟩) 3 g6] 26 (0,0)):=by rw[hX,hq];exact bE _ _
 obtain ⟨-,-,-,-,-,q5,q6⟩:=Nx.lU kX
 rw[<-hX,<-hq]
 have z0:=aM bX y0
 have z1:=aM bX y1
 have z2:=aM bX y2
 have z3:=aM bX y3
 have z4:=aM bX y4
 have z5:=aM bX y5
 have HX:Hid (Below w.heap.size w X):=aN HB.out (aN h1b bX)
 have hlt:=aB kX
 have lC:=cM z1
 have lN:=cM z0
 clear hX hq bX kX y0 y1 y2 y3 y4 y5 h1b h1 p0 p1 p2 p3 p4 p5 p6
 go_wp2_with fail
 go_ret
 exact ⟨rfl,HX.out.alloc HX.out.size _⟩
end
end Fw
end
end Go.Proofs.YtcdbhoknhnimcaaGreatDoor
