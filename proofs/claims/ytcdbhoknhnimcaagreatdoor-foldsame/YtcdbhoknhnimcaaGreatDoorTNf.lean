import Derived.Test.YtcdbhoknhnimcaaGreatDoorTNo
import Derived.BigQuiet
set_option maxHeartbeats 1000000
namespace Go.Proofs.YtcdbhoknhnimcaaGreatDoor
section
open Go.RowKit
namespace Nx
def B8 (B:Nat) (w:World) (v:Value) (f:Nat×Int):Prop:=
 (f.1=0/\f.2=-1/\v=.nilIface)\/(f.1≠0/\f.2=-1/\v=.iface 94 (.int .i64 f.1)) \/
  (f.1≠0/\∃g q:Nat,f.2=q/\B≤g/\v=.iface 115 (.pointer (some ⟨g,0,none⟩))/\w.heap[g]?=some (.cells #[.int .i64 f.1,.int .i64 q] 117 (0,0)))
theorem Ad (B:Nat) (n:Nt) (w:World) (vF vI vO vK vN vC:Value) (h:eQ B w n vF vI vO vK vN vC) (hB:B≤w.heap.size) (hs:iR n) (hw:cN n≠0) :
    Calls Tryz.prog 29 #[.agg #[.int .i64 n.places,vF,vI,vO,vK,vN,vC]] w fun e w'=>e=.returned (.iface 94 (.int .i64 (cN n:Nat)))/\Below w.heap.size w w':=by
 have hwh:=pR B n w.heap.size (w.alloc (.cells #[.int .i64 n.places,vF,vI,vO,vK,vN,vC] 26)) vF vI vO vK vN vC (h.below ((aD w _).mono hB) (Nat.le_refl _)) hs (by simp)
 obtain ⟨e,he⟩:∃e,e=cN n:=⟨_,rfl⟩
 rw[<-he] at hwh hw ⊢
 have t0:((e:Int) != 0)=true:=by simp;omega
 clear he hw h hB hs
 go_enter Tryz.func29,Tryz.ntmps29
 go_wp2_with (go_at_call 56;refine hwh.mono ?_;rintro e w1 ⟨rfl,hb1⟩)
 go_ret
 exact ⟨rfl,eX (aD w _) hb1⟩
theorem Ae (B:Nat) (n:Nt) (w:World) (vF vI vO vK vN vC:Value) (h:eQ B w n vF vI vO vK vN vC) (hB:B≤w.heap.size) (hs:iR n) (hw:cN n=0) :
    Calls Tryz.prog 29 #[.agg #[.int .i64 n.places,vF,vI,vO,vK,vN,vC]] w fun e w'=>∃v,e=.returned v/\B8 w.heap.size w' v (lB n.places n.nums.length n.code 0)/\Below w.heap.size w w':=by
 have hwh:=pR B n w.heap.size (w.alloc (.cells #[.int .i64 n.places,vF,vI,vO,vK,vN,vC] 26)) vF vI vO vK vN vC (h.below ((aD w _).mono hB) (Nat.le_refl _)) hs (by simp)
 rw[hw] at hwh
 have hcl:=hs.c;have hml:=hs.m
 obtain ⟨adC,bC,offC,capC,rfl,hC1,hC2⟩:=h.c
 obtain ⟨adN,bN,offN,capN,rfl,-,-⟩:=h.m
 have HC1:Hid (_/\_):=⟨hC1,hC2⟩
 have HX:Hid (∀w1,Below (w.alloc (.cells #[.int .i64 n.places,vF,vI,vO,vK,.slice adN n.nums.length capN,.slice adC n.code.length capC] 26)).heap.size (w.alloc (.cells #[.int .i64 n.places,vF,vI,vO,vK,.slice adN n.nums.length capN,.slice adC n.code.length capC] 26)) w1->w1.cell? ⟨w.heap.size,0,none⟩=some (.int .i64 n.places)/\w1.cell? ⟨w.heap.size,5,none⟩=some (.slice adN n.nums.length capN)/\w1.cell? ⟨w.heap.size,6,none⟩=some (.slice adC n.code.length capC)/\Below w.heap.size w w1/\w.heap.size<w1.heap.size):=
  fun w1 hb=>⟨aZ hb (by simp),aZ hb (by simp),aZ hb (by simp),eX (aD w _) hb,by have:=hb.size;simp at this;omega⟩
 clear h hs hw hC1 hC2
 go_enter Tryz.func29,Tryz.ntmps29
 go_wp2_with (go_at_call 56;refine hwh.mono ?_;rintro e w1 ⟨rfl,hb1⟩;obtain ⟨d0,d5,d6,hbw,hlw⟩:=HX.out w1 hb1;have HB1:Hid _:=hbw;clear hwh hb1 hbw)
 go_loopw [19] (fun i wr=>∃k:Nat,k≤n.code.length/\i=.int .i64 k/\(∀j,j<k->dI n.places n.nums.length (n.code.getD j iC)=0)/\Below w1.heap.size w1 wr) (fun i _=>n.code.length-(intOf i).toNat)
 case atStart=>exact ⟨0,Nat.zero_le _,rfl,fun j hj=>by omega,Below.refl _ _⟩
 case round=>
  obtain ⟨k,hk,rfl,hall,hbr⟩:=hrel
  have HA:Hid _:=hall
  have HBR:Hid _:=hbr
  have f0:=aZ hbr d0
  have f5:=aZ hbr d5
  have hbw:Hid _:=eX HB1.out hbr
  clear hall hbr
  by_cases hlt:k<n.code.length
  ·have hix:=Vh adC bC offC n.code.length capC k hlt (fun h=>(HC1.out.1 h).1)
   obtain ⟨s,hs⟩:∃s,s=n.code.getD k iC:=⟨_,rfl⟩
   have hb':wr.heap[bC]?=w.heap[bC]?:=hbw.out.block bC (by have:=(HC1.out.1 (by omega)).2;omega)
   obtain ⟨x0,x1,x2,x3,x4⟩:=HC1.out.2 k hlt
   rw[<-aV hb',<-hs] at x0 x1 x2 x3 x4
   have HS:Hid _:=hs
   have hst:=Mo s n.places n.nums.length w.heap.size (wr.alloc (.cells #[.int .i64 s.code,.int .i64 s.dst,.int .i64 s.a,.int .i64 s.b,.int .i64 s.c] 39)) (aZ (aD wr _) f0)
   have g5:=aZ (aD wr (.cells #[.int .i64 s.code,.int .i64 s.dst,.int .i64 s.a,.int .i64 s.b,.int .i64 s.c] 39)) f5
   obtain ⟨e,he⟩:∃e,e=dI n.places n.nums.length s:=⟨_,rfl⟩
   rw[<-he] at hst
   have HE:Hid _:=he
   clear hs hb' he d0 d5 d6
   by_cases e0:e=0
   ·subst e0
    go_wp2_with (go_at_call 57;refine hst.mono ?_;rintro e w2 ⟨rfl,hb2⟩)
    go_roundw
    case rel=>exact ⟨k+1,by omega,by go_num,fun j hj=>by
     by_cases ej:j=k
     ·rw[ej,<-HS.out];exact HE.out.symm
     ·exact HA.out j (by omega),eX HBR.out (eX (aD wr _) hb2)⟩
    case measure=>simp[intOf];omega
   ·have t0:((e:Int) != 0)=true:=by simp;omega
    have E0:Hid _:=e0
    clear e0
    go_wp2_with (go_at_call 57;refine hst.mono ?_;rintro e w2 ⟨rfl,hb2⟩)
    go_ret
    have hb3:Below w.heap.size w w2:=eX hbw.out (eX (aD wr _) hb2)
    refine ⟨_,rfl,.inr (.inr ⟨?_,w2.heap.size,k,?_,hb3.size,rfl,?_⟩),hb3.alloc hb3.size _⟩
    ·rw[tG _ _ _ k HA.out hlt (by rw[<-HS.out,<-HE.out];exact E0.out)]
     rw[<-HS.out,<-HE.out];exact E0.out
    ·rw[tG _ _ _ k HA.out hlt (by rw[<-HS.out,<-HE.out];exact E0.out)]
    ·rw[tG _ _ _ k HA.out hlt (by rw[<-HS.out,<-HE.out];exact E0.out),<-HS.out,<-HE.out]
     exact heap_alloc_new _ _
  ·go_wp2
   go_ret
   refine ⟨_,rfl,.inl ?_,hbw.out⟩
   rw[oM _ _ _ (fun j hj=>HA.out j (by omega))]
   exact ⟨rfl,rfl,rfl⟩
theorem iM (B:Nat) (n:Nt) (w:World) (vF vI vO vK vN vC:Value) (h:eQ B w n vF vI vO vK vN vC) (hB:B≤w.heap.size) (hs:iR n) :
    Calls Tryz.prog 29 #[.agg #[.int .i64 n.places,vF,vI,vO,vK,vN,vC]] w fun e w'=>∃v,e=.returned v/\B8 w.heap.size w' v (fM n)/\Below w.heap.size w w':=by
 unfold fM
 by_cases hw:cN n=0
 ·rw[if_pos hw];exact Ae B n w vF vI vO vK vN vC h hB hs hw
 ·rw[if_neg hw]
  exact (Ad B n w vF vI vO vK vN vC h hB hs hw).mono fun e w' ⟨he,hb⟩=>⟨_,he,.inr (.inl ⟨hw,rfl,rfl⟩),hb⟩
end Nx
end
section
open Go.RowKit
namespace Nx
theorem B8.nil_iff {B:Nat}{w:World}{v:Value}{f:Nat×Int}(h:B8 B w v f):(f.1=0/\v=.nilIface)\/(f.1≠0/\∃T u,v=.iface T u):=by
 rcases h with ⟨h1,_,h2⟩|⟨h1,_,h2⟩|⟨h1,g,q,_,_,h2,_⟩
 ·exact .inl ⟨h1,h2⟩
 ·exact .inr ⟨h1,_,_,h2⟩
 ·exact .inr ⟨h1,_,_,h2⟩
theorem aI3 (B:Nat) (n:Nt) (w:World) (vF vI vO vK vN vC:Value) (h:eQ B w n vF vI vO vK vN vC) (hB:B≤w.heap.size) (hs:iR n) (hw:(fM n).1≠0) :
    Calls Tryz.prog 61 #[.agg #[.int .i64 n.places,vF,vI,vO,vK,vN,vC]] w fun e w'=>∃v,e=.returned (.tuple #[.pointer none,v])/\B8 w.heap.size w' v (fM n)/\Below w.heap.size w w':=by
 have hck:Calls Tryz.prog 29 #[.agg #[.int .i64 n.places,vF,vI,vO,vK,vN,vC]] (w.alloc (.cells #[.int .i64 n.places,vF,vI,vO,vK,vN,vC] 26)) fun e w'=>∃T u,e=.returned (.iface T u)/\Hid (B8 w.heap.size w' (.iface T u) (fM n)/\Below w.heap.size w w'):=by
  refine (iM B n _ vF vI vO vK vN vC (h.below ((aD w _).mono hB) (Nat.le_refl _)) (Nat.le_trans hB (aD w _).size) hs).mono fun e w' ⟨v,he,hi,hb⟩=>?_
  rcases hi.nil_iff with ⟨h0,_⟩|⟨_,T,u,rfl⟩
  ·exact absurd h0 hw
  ·refine ⟨T,u,he,?_,eX (aD w _) hb⟩
   rcases hi with hi|hi|⟨h1,g,q,h2,h3,h4,h5⟩
   ·exact .inl hi
   ·exact .inr (.inl hi)
   ·exact .inr (.inr ⟨h1,g,q,h2,Nat.le_trans (aD w _).size h3,h4,h5⟩)
 clear h hB hs hw
 go_enter Tryz.func61,Tryz.ntmps61
 go_wp2_with (go_at_call 29;refine hck.mono ?_;rintro e w1 ⟨T,u,rfl,X⟩)
 go_ret2
 exact ⟨_,rfl,X.out.1,X.out.2⟩
theorem Of (B:Nat) (n:Nt) (w:World) (vF vI vO vK vN vC:Value) (h:eQ B w n vF vI vO vK vN vC) (hB:B≤w.heap.size) (hs:iR n) (hfl:n.first.length≤100000) (hw:(fM n).1=0) :
    Calls Tryz.prog 61 #[.agg #[.int .i64 n.places,vF,vI,vO,vK,vN,vC]] w fun e w'=>∃bm g,e=.returned (.tuple #[.pointer (some ⟨bm,0,none⟩),.nilIface])/\Lq B w' bm g n n.first/\w.heap.size≤bm/\w.heap.size≤g/\bm<w'.heap.size/\Below w.heap.size w w':=by
 have HV:Hid (eQ B w n vF vI vO vK vN vC):=h
 have hck:Calls Tryz.prog 29 #[.agg #[.int .i64 n.places,vF,vI,vO,vK,vN,vC]] (w.alloc (.cells #[.int .i64 n.places,vF,vI,vO,vK,vN,vC] 26)) fun e w'=>e=.returned .nilIface/\
     Hid (Below (w.alloc (.cells #[.int .i64 n.places,vF,vI,vO,vK,vN,vC] 26)).heap.size (w.alloc (.cells #[.int .i64 n.places,vF,vI,vO,vK,vN,vC] 26)) w'):=by
  refine (iM B n _ vF vI vO vK vN vC (h.below ((aD w _).mono hB) (Nat.le_refl _)) (Nat.le_trans hB (aD w _).size) hs).mono fun e w' ⟨v,he,hi,hb⟩=>?_
  rcases hi.nil_iff with ⟨_,rfl⟩|⟨h1,_⟩
  ·exact ⟨he,hb⟩
  ·exact absurd hw h1
 have HX:Hid (∀w1,Below (w.alloc (.cells #[.int .i64 n.places,vF,vI,vO,vK,vN,vC] 26)).heap.size (w.alloc (.cells #[.int .i64 n.places,vF,vI,vO,vK,vN,vC] 26)) w1->w1.cell? ⟨w.heap.size,0,none⟩=some (.int .i64 n.places)/\w1.cell? ⟨w.heap.size,1,none⟩=some vF/\w1.cell? ⟨w.heap.size,2,none⟩=some vI/\w1.cell? ⟨w.heap.size,3,none⟩=some vO/\w1.cell? ⟨w.heap.size,4,none⟩=some vK/\w1.cell? ⟨w.heap.size,5,none⟩=some vN/\w1.cell? ⟨w.heap.size,6,none⟩=some vC/\
     (Calls Tryz.prog 31 #[vF] w1.drew fun e w'=>∃ad cap,e=.returned (.slice ad n.first.length cap)/\Hid (∃g,Own w' (.slice ad n.first.length cap) n.first g/\w.heap.size≤g/\g<w'.heap.size/\Below w1.heap.size w1 w'))/\Hid (Below w.heap.size w w1)):=by
  intro w1 hb
  have hbw:Below w.heap.size w w1:=eX (aD w _) hb
  have hlw:w.heap.size<w1.heap.size:=by have:=hb.size;simp at this;omega
  refine ⟨aZ hb (by simp),aZ hb (by simp),aZ hb (by simp),aZ hb (by simp),aZ hb (by simp),aZ hb (by simp),aZ hb (by simp),?_,hbw⟩
  refine (Gk (A:=(· < B)) vF n.first w1.drew ((HV.out.f.carry fun b hl _=>⟨hl,hbw.block b (Nat.lt_of_lt_of_le hl hB)⟩).carry fun b hl _=>⟨hl,rfl⟩) hfl).mono fun e w' ⟨v',he,ho,hb'⟩=>?_
  obtain ⟨g,hg,hgB,hgl,_⟩:=rC ho
  obtain ⟨ad,cap,rfl,-⟩:=id hg
  refine ⟨ad,cap,he,?_⟩
  have hb2:Below w1.heap.size w1 w':=(⟨rfl,rfl,rfl,Nat.le_refl _,fun _ _=>rfl⟩:Below w1.heap.size w1 w1.drew).trans hb'
  by_cases hp:0<n.first.length
  ·exact ⟨g,hg,Nat.le_trans hbw.size hgB,hgl hp,hb2⟩
  ·exact ⟨w.heap.size,⟨ad,cap,rfl,fun h=>absurd h hp⟩,Nat.le_refl _,Nat.lt_of_lt_of_le hlw hb2.size,hb2⟩
 clear h hs hw
 go_enter Tryz.func61,Tryz.ntmps61
 go_wp2_with (go_at_call 29;refine hck.mono ?_;rintro e w1 ⟨rfl,X⟩;obtain ⟨d0,d1,d2,d3,d4,d5,d6,hcl,HBW⟩:=HX.out w1 X.out;clear hck)
 go_region_with (go_at_call 31;refine hcl.mono ?_;rintro e w2 ⟨adp,capp,rfl,Y⟩;have HD:Hid (∀o,w2.cell? ⟨w.heap.size,o,none⟩=w1.cell? ⟨w.heap.size,o,none⟩):=(by (intro o;obtain ⟨g,_,_,_,hb2⟩:=Y.out;exact aV (hb2.block w.heap.size (cM d0)) o));have f0:=(HD.out 0).trans d0;have f1:=(HD.out 1).trans d1;have f2:=(HD.out 2).trans d2;have f3:=(HD.out 3).trans d3;have f4:=(HD.out 4).trans d4;have f5:=(HD.out 5).trans d5;have f6:=(HD.out 6).trans d6)
 all_goals
  go_wp2
  go_ret2
  obtain ⟨g,hg,hgw,hgl,hb2⟩:=Y.out
  have hbw:Below w.heap.size w w2:=eX HBW.out hb2
  have hbA:=hbw.alloc hbw.size (.cells (pB n.places vF vI vO vK vN vC (.slice adp n.first.length capp)) 178)
  have hk:aX (· < B) (· < B) w (w2.alloc (.cells (pB n.places vF vI vO vK vN vC (.slice adp n.first.length capp)) 178)):=fun b hl _=>⟨hl,hbA.block b (Nat.lt_of_lt_of_le hl hB)⟩
  refine ⟨w2.heap.size,g,rfl,⟨⟨vF,vI,vO,vK,vN,vC,.slice adp n.first.length capp,heap_alloc_new _ _,HV.out.i.carry hk,HV.out.o.carry hk,HV.out.k.carry hk,HV.out.m.carry hk,HV.out.c.carry hk,hg.keep (Below.heap_alloc _ _ _ hgl)⟩,Nat.le_trans hB hbw.size,Nat.le_trans hB hgw,Nat.ne_of_lt hgl,?_⟩,hbw.size,hgw,?_,hbA⟩
  ·simp;omega
  ·simp
end Nx
end
section
open Go.RowKit
namespace Nx
def Lk (n:Nt):Prop:=n.places≤300/\n.first.length≤300/\n.ins.length≤30/\n.outs.length≤30/\n.keeps.length≤60/\n.nums.length≤60/\n.code.length≤120
theorem Lk.small {n:Nt}(h:Lk n):iR n:=⟨by have:=h.1;omega,by have:=h.2.2.2.2.2.2;omega,by have:=h.2.2.2.2.2.1;omega,by have:=h.2.2.1;have:=h.2.2.2.1;have:=h.2.2.2.2.1;omega⟩
section
variable (n:Nt) (w:World) (adF adI adO adK adN adC:Option Addr) (capF capI capO capK capN capC:Nat)
theorem Pu (h0:300<n.places) :
    Calls Tryz.prog 28 #[.agg #[.int .i64 n.places,.slice adF n.first.length capF,.slice adI n.ins.length capI,.slice adO n.outs.length capO,.slice adK n.keeps.length capK,.slice adN n.nums.length capN,.slice adC n.code.length capC]] w fun e w'=>e=.returned (.bool false)/\Below w.heap.size w w':=by
 go_enter Tryz.func28,Tryz.ntmps28
 go_wp2
 go_ret
 exact ⟨rfl,aD w _⟩
theorem Pt (h0:n.places≤300) (h1:300<n.first.length) :
    Calls Tryz.prog 28 #[.agg #[.int .i64 n.places,.slice adF n.first.length capF,.slice adI n.ins.length capI,.slice adO n.outs.length capO,.slice adK n.keeps.length capK,.slice adN n.nums.length capN,.slice adC n.code.length capC]] w fun e w'=>e=.returned (.bool false)/\Below w.heap.size w w':=by
 go_enter Tryz.func28,Tryz.ntmps28
 go_wp2
 go_ret
 exact ⟨rfl,aD w _⟩
theorem Pr (h0:n.places≤300) (h1:n.first.length≤300) (h2:30<n.ins.length) :
    Calls Tryz.prog 28 #[.agg #[.int .i64 n.places,.slice adF n.first.length capF,.slice adI n.ins.length capI,.slice adO n.outs.length capO,.slice adK n.keeps.length capK,.slice adN n.nums.length capN,.slice adC n.code.length capC]] w fun e w'=>e=.returned (.bool false)/\Below w.heap.size w w':=by
 go_enter Tryz.func28,Tryz.ntmps28
 go_wp2
 go_ret
 exact ⟨rfl,aD w _⟩
theorem Pq (h0:n.places≤300) (h1:n.first.length≤300) (h2:n.ins.length≤30) (h3:30<n.outs.length) :
    Calls Tryz.prog 28 #[.agg #[.int .i64 n.places,.slice adF n.first.length capF,.slice adI n.ins.length capI,.slice adO n.outs.length capO,.slice adK n.keeps.length capK,.slice adN n.nums.length capN,.slice adC n.code.length capC]] w fun e w'=>e=.returned (.bool false)/\Below w.heap.size w w':=by
 go_enter Tryz.func28,Tryz.ntmps28
 go_wp2
 go_ret
 exact ⟨rfl,aD w _⟩
theorem Pp (h0:n.places≤300) (h1:n.first.length≤300) (h2:n.ins.length≤30) (h3:n.outs.length≤30) (h4:60<n.keeps.length) :
    Calls Tryz.prog 28 #[.agg #[.int .i64 n.places,.slice adF n.first.length capF,.slice adI n.ins.length capI,.slice adO n.outs.length capO,.slice adK n.keeps.length capK,.slice adN n.nums.length capN,.slice adC n.code.length capC]] w fun e w'=>e=.returned (.bool false)/\Below w.heap.size w w':=by
 go_enter Tryz.func28,Tryz.ntmps28
 go_wp2
 go_ret
 exact ⟨rfl,aD w _⟩
theorem Po (h0:n.places≤300) (h1:n.first.length≤300) (h2:n.ins.length≤30) (h3:n.outs.length≤30) (h4:n.keeps.length≤60) (h5:60<n.nums.length) :
    Calls Tryz.prog 28 #[.agg #[.int .i64 n.places,.slice adF n.first.length capF,.slice adI n.ins.length capI,.slice adO n.outs.length capO,.slice adK n.keeps.length capK,.slice adN n.nums.length capN,.slice adC n.code.length capC]] w fun e w'=>e=.returned (.bool false)/\Below w.heap.size w w':=by
 go_enter Tryz.func28,Tryz.ntmps28
 go_wp2
 go_ret
 exact ⟨rfl,aD w _⟩
theorem Pn (h0:n.places≤300) (h1:n.first.length≤300) (h2:n.ins.length≤30) (h3:n.outs.length≤30) (h4:n.keeps.length≤60) (h5:n.nums.length≤60) (h6:120<n.code.length) :
    Calls Tryz.prog 28 #[.agg #[.int .i64 n.places,.slice adF n.first.length capF,.slice adI n.ins.length capI,.slice adO n.outs.length capO,.slice adK n.keeps.length capK,.slice adN n.nums.length capN,.slice adC n.code.length capC]] w fun e w'=>e=.returned (.bool false)/\Below w.heap.size w w':=by
 go_enter Tryz.func28,Tryz.ntmps28
 go_wp2
 go_ret
 have e:decide ((n.code.length:Int)≤120)=false:=by simp;omega
 exact ⟨congrArg (fun b=>Ending.returned (Value.bool b)) e,aD w _⟩
theorem Pk (h0:n.places≤300) (h1:n.first.length≤300) (h2:n.ins.length≤30) (h3:n.outs.length≤30) (h4:n.keeps.length≤60) (h5:n.nums.length≤60) (h6:n.code.length≤120) :
    Calls Tryz.prog 28 #[.agg #[.int .i64 n.places,.slice adF n.first.length capF,.slice adI n.ins.length capI,.slice adO n.outs.length capO,.slice adK n.keeps.length capK,.slice adN n.nums.length capN,.slice adC n.code.length capC]] w fun e w'=>e=.returned (.bool true)/\Below w.heap.size w w':=by
 go_enter Tryz.func28,Tryz.ntmps28
 go_wp2
 go_ret
 have e:decide ((n.code.length:Int)≤120)=true:=by simp;omega
 exact ⟨congrArg (fun b=>Ending.returned (Value.bool b)) e,aD w _⟩
end
theorem Pv (B:Nat) (n:Nt) (w:World) (vF vI vO vK vN vC:Value) (h:eQ B w n vF vI vO vK vN vC) :
    Calls Tryz.prog 28 #[.agg #[.int .i64 n.places,vF,vI,vO,vK,vN,vC]] w fun e w'=>∃b:Bool,e=.returned (.bool b)/\(b=true↔Lk n)/\Below w.heap.size w w':=by
 obtain ⟨adF,_,_,capF,rfl,-,-⟩:=h.f
 obtain ⟨adI,_,_,capI,rfl,-,-⟩:=h.i
 obtain ⟨adO,_,_,capO,rfl,-,-⟩:=h.o
 obtain ⟨adK,_,_,capK,rfl,-,-⟩:=h.k
 obtain ⟨adN,_,_,capN,rfl,-,-⟩:=h.m
 obtain ⟨adC,_,_,capC,rfl,-,-⟩:=h.c
 unfold Lk
 by_cases h0:¬(n.places≤300)
 ·exact (Pu n w adF adI adO adK adN adC capF capI capO capK capN capC  (by omega)).mono fun e w' ⟨he,hb⟩=>⟨false,he,by simp;omega,hb⟩
 replace h0:=Classical.not_not.1 h0
 by_cases h1:¬(n.first.length≤300)
 ·exact (Pt n w adF adI adO adK adN adC capF capI capO capK capN capC h0 (by omega)).mono fun e w' ⟨he,hb⟩=>⟨false,he,by simp;omega,hb⟩
 replace h1:=Classical.not_not.1 h1
 by_cases h2:¬(n.ins.length≤30)
 ·exact (Pr n w adF adI adO adK adN adC capF capI capO capK capN capC h0 h1 (by omega)).mono fun e w' ⟨he,hb⟩=>⟨false,he,by simp;omega,hb⟩
 replace h2:=Classical.not_not.1 h2
 by_cases h3:¬(n.outs.length≤30)
 ·exact (Pq n w adF adI adO adK adN adC capF capI capO capK capN capC h0 h1 h2 (by omega)).mono fun e w' ⟨he,hb⟩=>⟨false,he,by simp;omega,hb⟩
 replace h3:=Classical.not_not.1 h3
 by_cases h4:¬(n.keeps.length≤60)
 ·exact (Pp n w adF adI adO adK adN adC capF capI capO capK capN capC h0 h1 h2 h3 (by omega)).mono fun e w' ⟨he,hb⟩=>⟨false,he,by simp;omega,hb⟩
 replace h4:=Classical.not_not.1 h4
 by_cases h5:¬(n.nums.length≤60)
 ·exact (Po n w adF adI adO adK adN adC capF capI capO capK capN capC h0 h1 h2 h3 h4 (by omega)).mono fun e w' ⟨he,hb⟩=>⟨false,he,by simp;omega,hb⟩
 replace h5:=Classical.not_not.1 h5
 by_cases h6:¬(n.code.length≤120)
 ·exact (Pn n w adF adI adO adK adN adC capF capI capO capK capN capC h0 h1 h2 h3 h4 h5 (by omega)).mono fun e w' ⟨he,hb⟩=>⟨false,he,by simp;omega,hb⟩
 replace h6:=Classical.not_not.1 h6
 exact (Pk n w adF adI adO adK adN adC capF capI capO capK capN capC h0 h1 h2 h3 h4 h5 h6).mono fun e w' ⟨he,hb⟩=>⟨true,he,by simp;omega,hb⟩
theorem aF0 (ad:Option Addr) (b off n cap k:Nat) (hk:k<n) (ha:0<n->ad=some ⟨b,off,none⟩) (w:World):(Instr.indexAt 22 (.slice ad n cap) (.int .i64 (k:Int))).run Tryz.prog w=.ok (.pointer (some ⟨b,off+k,none⟩)) w:=by
 obtain rfl:=ha (by omega)
 rw[run_indexAt_slice _ _ _ _ _ _ _ (by kernel_rfl),if_pos ⟨by omega,by omega⟩]
 have e:(sizeOf (Tryz.prog.elem 22)).run Tryz.prog w=.ok 1 w:=by kernel_rfl
 rw[e]
 simp[Result.andThen,Addr.add]
theorem Mv {A A':Nat->Prop}(va vb:Value) (zs:List Int) (w:World) (ha:bL A w va zs) (hb:bL A' w vb zs) (hl:zs.length≤1000000) :
    Calls Tryz.prog 34 #[va,vb] w fun e w'=>e=.returned (.bool true)/\Below w.heap.size w w':=by
 obtain ⟨ad1,b1,o1,c1,rfl,p1,q1⟩:=ha
 obtain ⟨ad2,b2,o2,c2,rfl,p2,q2⟩:=hb
 have H1:Hid (0<zs.length->ad1=some ⟨b1,o1,none⟩/\A b1):=p1
 have H2:Hid (0<zs.length->ad2=some ⟨b2,o2,none⟩/\A' b2):=p2
 have Q1:Hid _:=q1
 have Q2:Hid _:=q2
 clear p1 p2 q1 q2
 go_enter Tryz.func34,Tryz.ntmps34
 go_wp2
 go_loopw [5] (fun i wr=>∃k:Nat,k≤zs.length/\i=.int .i64 k/\Below w.heap.size w wr) (fun i _=>zs.length-(intOf i).toNat)
 case atStart=>exact ⟨0,Nat.zero_le _,rfl,Below.refl _ _⟩
 case round=>
  obtain ⟨k,hk,rfl,hbr⟩:=hrel
  have HB:Hid _:=hbr
  clear hbr
  by_cases hlt:k<zs.length
  ·have hi1:=aF0 ad1 b1 o1 zs.length c1 k hlt (fun h=>(H1.out h).1)
   have hi2:=aF0 ad2 b2 o2 zs.length c2 k hlt (fun h=>(H2.out h).1)
   obtain ⟨x,hx⟩:∃x,x=zs.getD k 0:=⟨_,rfl⟩
   have y1:wr.cell? ⟨b1,o1+k,none⟩=some (.int .i64 x):=by rw[hx];exact aZ HB.out (Q1.out k hlt)
   have y2:wr.cell? ⟨b2,o2+k,none⟩=some (.int .i64 x):=by rw[hx];exact aZ HB.out (Q2.out k hlt)
   clear hx
   go_wp2_with fail
   go_quiet (fail)
   go_wp2_with fail
   go_roundw
   case rel=>exact ⟨k+1,by omega,by go_num,eX HB.out ⟨rfl,rfl,rfl,Nat.le_refl _,fun _ _=>rfl⟩⟩
   case measure=>simp[intOf];omega
  ·go_wp2
   go_ret
   exact ⟨rfl,HB.out⟩
end Nx
end
section
open Go.RowKit
namespace Nx
theorem Gb {S B:Nat}{X:List Nat}{w w':World}(h:Fr S X w w') (hB:B≤S) (hX:∀x∈X,B≤x):Below B w w':=
 ⟨h.os,h.tape,h.output,h.size,fun k hk=>h.block k (by omega) (fun hm=>by have:=hX k hm;omega)⟩
end Nx
end
section
open Go.RowKit
namespace Nx
theorem Lq.lt {B:Nat}{w:World}{bm g:Nat}{n:Nt}{V:List Int}(h:Lq B w bm g n V):bm<w.heap.size:=by
 obtain ⟨_,_,_,_,_,_,_,hrow,_⟩:=h.row
 exact aB hrow
theorem Lq.keep {B:Nat}{w w':World}{bm g:Nat}{n:Nt}{V:List Int}(h:Lq B w bm g n V) (hs:w.heap.size≤w'.heap.size) (h1:w'.heap[bm]?=w.heap[bm]?) (h2:w'.heap[g]?=w.heap[g]?) (k:∀b,b<B->b<w.heap.size->w'.heap[b]?=w.heap[b]?):Lq B w' bm g n V:=by
 obtain ⟨⟨vF,vI,vO,vK,vN,vC,vp,hm,hI,hO,hK,hN,hC,hp⟩,hb,hg,gm,gl⟩:=h
 have kk:aX (· < B) (· < B) w w':=fun b hb hl=>⟨hb,k b hb hl⟩
 exact ⟨⟨vF,vI,vO,vK,vN,vC,vp,by rw[h1];exact hm,hI.carry kk,hO.carry kk,hK.carry kk,hN.carry kk,hC.carry kk,hp.keep h2⟩,hb,hg,gm,by omega⟩
theorem Lq.fr {B:Nat}{w w':World}{bm g:Nat}{n:Nt}{V:List Int}{X:List Nat}(h:Lq B w bm g n V) (hF:Fr w.heap.size X w w') (h1:bm∉X) (h2:g∉X) (h3:∀x∈X,B≤x):Lq B w' bm g n V:=
 h.keep hF.size (hF.block bm h.lt h1) (hF.block g h.gl h2) (fun b hb hl=>hF.block b hl (fun hm=>by have:=h3 b hm;omega))
end Nx
end
end Go.Proofs.YtcdbhoknhnimcaaGreatDoor
