import Derived.Test.YtcdbhoknhnimcaaGreatDoorTNt8b
import Derived.ChangeOld
import Derived.DataReads
set_option maxRecDepth 100000
set_option maxHeartbeats 2000000
namespace Go.Proofs.YtcdbhoknhnimcaaGreatDoor
section
open Go.RowKit
namespace Nx
structure iR (n:Nt):Prop where
 p:n.places≤4000
 c:n.code.length≤4000
 m:n.nums.length≤4000
 s:n.ins.length+n.outs.length+n.keeps.length≤4000
theorem Y0 (x0 x1 x2 x3:Int) (w:World):(Instr.index 171 (.agg #[.int .i64 x0,.int .i64 x1,.int .i64 x2,.int .i64 x3]) (.int .i64 0)).run Tryz.prog w=.ok (.int .i64 x0) w:=by kernel_rfl
theorem Dg (x0 x1 x2 x3:Int) (w:World):(Instr.index 171 (.agg #[.int .i64 x0,.int .i64 x1,.int .i64 x2,.int .i64 x3]) (.int .i64 1)).run Tryz.prog w=.ok (.int .i64 x1) w:=by kernel_rfl
theorem Df (x0 x1 x2 x3:Int) (w:World):(Instr.index 171 (.agg #[.int .i64 x0,.int .i64 x1,.int .i64 x2,.int .i64 x3]) (.int .i64 2)).run Tryz.prog w=.ok (.int .i64 x2) w:=by kernel_rfl
theorem De (x0 x1 x2 x3:Int) (w:World):(Instr.index 171 (.agg #[.int .i64 x0,.int .i64 x1,.int .i64 x2,.int .i64 x3]) (.int .i64 3)).run Tryz.prog w=.ok (.int .i64 x3) w:=by kernel_rfl
theorem Jq (x0 x1 x2:Value) (w:World):(Instr.index 91 (.agg #[x0,x1,x2]) (.int .i64 0)).run Tryz.prog w=.ok x0 w:=by kernel_rfl
theorem Jp (x0 x1 x2:Value) (w:World):(Instr.index 91 (.agg #[x0,x1,x2]) (.int .i64 1)).run Tryz.prog w=.ok x1 w:=by kernel_rfl
theorem Jo (x0 x1 x2:Value) (w:World):(Instr.index 91 (.agg #[x0,x1,x2]) (.int .i64 2)).run Tryz.prog w=.ok x2 w:=by kernel_rfl
section
variable {A:Nat->Prop}(n:Nt) (bn:Nat) (w:World) (adF adI adO adK adN adC:Option Addr) (capF capI capO capK capN capC:Nat)
abbrev wN:World:=w.alloc (.cells #[.int .i64 n.places,.slice adF n.first.length capF,.slice adI n.ins.length capI,.slice adO n.outs.length capO,.slice adK n.keeps.length capK,.slice adN n.nums.length capN,.slice adC n.code.length capC] 26)
theorem dY (v:Value) (zs:List Int) (hv:bL A w v zs) (hl:zs.length≤4000) (hc:w.cell? ⟨bn,0,none⟩=some (.int .i64 n.places)) (w0 w1:World) (h0:Below w.heap.size w w0) (hb:Below w0.heap.size w0 w1) :
    Calls Tryz.prog 98 #[v,.func (.func 55) #[] #[.pointer (some ⟨bn,0,none⟩)]] w1 fun e w'=>e=.returned (.bool (zs.all (cH n.places)))/\Below w0.heap.size w0 w':=by
 have hb':=eX h0 hb
 exact (J6 v zs n.places bn w1 (hv.carry fun b ha hl=>⟨ha,hb'.block b hl⟩) (by omega) (aZ hb' hc)).mono fun e w' ⟨he,hb2⟩=>⟨he,eX hb hb2⟩
theorem kK (w1:World) (hb:Below (wN n w adF adI adO adK adN adC capF capI capO capK capN capC).heap.size (wN n w adF adI adO adK adN adC capF capI capO capK capN capC) w1):w1.cell? ⟨w.heap.size,0,none⟩=some (.int .i64 n.places)/\w1.cell? ⟨w.heap.size,2,none⟩=some (.slice adI n.ins.length capI):=
 ⟨aZ hb (by simp),aZ hb (by simp)⟩
theorem Gw (h:n.places<0) :
    Calls Tryz.prog 56 #[.agg #[.int .i64 n.places,.slice adF n.first.length capF,.slice adI n.ins.length capI,.slice adO n.outs.length capO,.slice adK n.keeps.length capK,.slice adN n.nums.length capN,.slice adC n.code.length capC],.func (.func 55) #[] #[.pointer (some ⟨bn,0,none⟩)]] w fun e w'=>e=.returned (.int .i64 (4:Int))/\Below w.heap.size w w':=by
 go_enter Tryz.func56,Tryz.ntmps56
 go_wp2
 go_ret
 exact ⟨rfl,aD w _⟩
theorem Bb (hs:iR n) (h0:0≤n.places) (hf:(n.first.length:Int)≠n.places) :
    Calls Tryz.prog 56 #[.agg #[.int .i64 n.places,.slice adF n.first.length capF,.slice adI n.ins.length capI,.slice adO n.outs.length capO,.slice adK n.keeps.length capK,.slice adN n.nums.length capN,.slice adC n.code.length capC],.func (.func 55) #[] #[.pointer (some ⟨bn,0,none⟩)]] w fun e w'=>e=.returned (.int .i64 (3:Int))/\Below w.heap.size w w':=by
 have q0:=Y0;have q1:=Dg;have q2:=Df;have q3:=De;have r0:=Jq;have r1:=Jp;have r2:=Jo
 have s1:=hs.p;have s2:=hs.c;have s3:=hs.m;have s4:=hs.s
 have t1:((n.first.length:Int) != n.places)=true:=by simpa using hf
 clear hf hs
 go_enter Tryz.func56,Tryz.ntmps56
 go_wp2
 refine wp_loop_rounds 5 ?_
 rw[rounds_succ]
 go_wp2
 rw[rounds_succ]
 go_wp2
 rw[rounds_succ]
 go_wp2
 rw[rounds_succ]
 go_wp2
 rw[rounds_succ]
 go_wp2
 go_ret
 exact ⟨rfl,aD w _⟩
theorem Gx (hs:iR n) (h0:0≤n.places) (hf:(n.first.length:Int)=n.places) (hc:w.cell? ⟨bn,0,none⟩=some (.int .i64 n.places)) (hI:bL A w (.slice adI n.ins.length capI) n.ins) (aI:n.ins.all (cH n.places)=false) :
    Calls Tryz.prog 56 #[.agg #[.int .i64 n.places,.slice adF n.first.length capF,.slice adI n.ins.length capI,.slice adO n.outs.length capO,.slice adK n.keeps.length capK,.slice adN n.nums.length capN,.slice adC n.code.length capC],.func (.func 55) #[] #[.pointer (some ⟨bn,0,none⟩)]] w fun e w'=>e=.returned (.int .i64 (2:Int))/\Below w.heap.size w w':=by
 have q0:=Y0;have q1:=Dg;have q2:=Df;have q3:=De;have r0:=Jq;have r1:=Jp;have r2:=Jo
 have s1:=hs.p;have s2:=hs.c;have s3:=hs.m;have s4:=hs.s
 have t1:((n.first.length:Int) != n.places)=false:=by simpa using hf
 have HW:Hid (∀w1,Below (wN n w adF adI adO adK adN adC capF capI capO capK capN capC).heap.size (wN n w adF adI adO adK adN adC capF capI capO capK capN capC) w1->w1.cell? ⟨w.heap.size,0,none⟩=some (.int .i64 n.places)/\w1.cell? ⟨w.heap.size,2,none⟩=some (.slice adI n.ins.length capI)):=kK n w adF adI adO adK adN adC capF capI capO capK capN capC
 have cI:Hid (∀w1,Below (wN n w adF adI adO adK adN adC capF capI capO capK capN capC).heap.size (wN n w adF adI adO adK adN adC capF capI capO capK capN capC) w1->Calls Tryz.prog 98 #[.slice adI n.ins.length capI,.func (.func 55) #[] #[.pointer (some ⟨bn,0,none⟩)]] w1 fun e w'=>e=.returned (.bool false)/\Below (wN n w adF adI adO adK adN adC capF capI capO capK capN capC).heap.size (wN n w adF adI adO adK adN adC capF capI capO capK capN capC) w'):=fun w1 hb=>by
  have:=dY n bn w _ n.ins hI (by omega) hc _ w1 (aD w _) hb
  rw[aI] at this
  exact this
 clear hf hs hc hI aI
 go_enter Tryz.func56,Tryz.ntmps56
 go_wp2
 refine wp_loop_rounds 5 ?_
 rw[rounds_succ]
 go_wp2
 rw[rounds_succ]
 go_wp2
 rw[rounds_succ]
 go_wp2
 rw[rounds_succ]
 go_wp2
 rw[rounds_succ]
 go_wp2
 refine wp_loop_rounds 1 ?_
 rw[rounds_succ]
 go_wp2_with (go_at_call 98;refine (cI.out _ (Below.refl _ _)).mono ?_;rintro e w1 ⟨rfl,hb1⟩)
 go_ret
 exact ⟨rfl,eX (aD w _) hb1⟩
theorem Ba (hs:iR n) (h0:0≤n.places) (hf:(n.first.length:Int)=n.places) (hc:w.cell? ⟨bn,0,none⟩=some (.int .i64 n.places)) (hI:bL A w (.slice adI n.ins.length capI) n.ins) (hO:bL A w (.slice adO n.outs.length capO) n.outs) (aI:n.ins.all (cH n.places)=true) (aO:n.outs.all (cH n.places)=false) :
    Calls Tryz.prog 56 #[.agg #[.int .i64 n.places,.slice adF n.first.length capF,.slice adI n.ins.length capI,.slice adO n.outs.length capO,.slice adK n.keeps.length capK,.slice adN n.nums.length capN,.slice adC n.code.length capC],.func (.func 55) #[] #[.pointer (some ⟨bn,0,none⟩)]] w fun e w'=>e=.returned (.int .i64 (2:Int))/\Below w.heap.size w w':=by
 have q0:=Y0;have q1:=Dg;have q2:=Df;have q3:=De;have r0:=Jq;have r1:=Jp;have r2:=Jo
 have s1:=hs.p;have s2:=hs.c;have s3:=hs.m;have s4:=hs.s
 have t1:((n.first.length:Int) != n.places)=false:=by simpa using hf
 have HW:Hid (∀w1,Below (wN n w adF adI adO adK adN adC capF capI capO capK capN capC).heap.size (wN n w adF adI adO adK adN adC capF capI capO capK capN capC) w1->w1.cell? ⟨w.heap.size,0,none⟩=some (.int .i64 n.places)/\w1.cell? ⟨w.heap.size,2,none⟩=some (.slice adI n.ins.length capI)):=kK n w adF adI adO adK adN adC capF capI capO capK capN capC
 have cI:Hid (∀w1,Below (wN n w adF adI adO adK adN adC capF capI capO capK capN capC).heap.size (wN n w adF adI adO adK adN adC capF capI capO capK capN capC) w1->Calls Tryz.prog 98 #[.slice adI n.ins.length capI,.func (.func 55) #[] #[.pointer (some ⟨bn,0,none⟩)]] w1 fun e w'=>e=.returned (.bool true)/\Below (wN n w adF adI adO adK adN adC capF capI capO capK capN capC).heap.size (wN n w adF adI adO adK adN adC capF capI capO capK capN capC) w'):=fun w1 hb=>by
  have:=dY n bn w _ n.ins hI (by omega) hc _ w1 (aD w _) hb
  rw[aI] at this
  exact this
 have cO:Hid (∀w1,Below (wN n w adF adI adO adK adN adC capF capI capO capK capN capC).heap.size (wN n w adF adI adO adK adN adC capF capI capO capK capN capC) w1->Calls Tryz.prog 98 #[.slice adO n.outs.length capO,.func (.func 55) #[] #[.pointer (some ⟨bn,0,none⟩)]] w1 fun e w'=>e=.returned (.bool false)/\Below (wN n w adF adI adO adK adN adC capF capI capO capK capN capC).heap.size (wN n w adF adI adO adK adN adC capF capI capO capK capN capC) w'):=fun w1 hb=>by
  have:=dY n bn w _ n.outs hO (by omega) hc _ w1 (aD w _) hb
  rw[aO] at this
  exact this
 clear hf hs hc hI hO aI aO
 go_enter Tryz.func56,Tryz.ntmps56
 go_wp2
 refine wp_loop_rounds 5 ?_
 rw[rounds_succ]
 go_wp2
 rw[rounds_succ]
 go_wp2
 rw[rounds_succ]
 go_wp2
 rw[rounds_succ]
 go_wp2
 rw[rounds_succ]
 go_wp2
 refine wp_loop_rounds 2 ?_
 rw[rounds_succ]
 go_wp2_with (go_at_call 98;refine (cI.out _ (Below.refl _ _)).mono ?_;rintro e w1 ⟨rfl,hb1⟩)
 rw[rounds_succ]
 go_wp2_with (go_at_call 98;refine (cO.out _ hb1).mono ?_;rintro e w2 ⟨rfl,hb2⟩)
 go_ret
 exact ⟨rfl,eX (aD w _) hb2⟩
theorem O0 (hs:iR n) (h0:0≤n.places) (hf:(n.first.length:Int)=n.places) (hc:w.cell? ⟨bn,0,none⟩=some (.int .i64 n.places)) (hI:bL A w (.slice adI n.ins.length capI) n.ins) (hO:bL A w (.slice adO n.outs.length capO) n.outs) (hK:bL A w (.slice adK n.keeps.length capK) n.keeps) (aI:n.ins.all (cH n.places)=true) (aO:n.outs.all (cH n.places)=true) (aK:n.keeps.all (cH n.places)=false) :
    Calls Tryz.prog 56 #[.agg #[.int .i64 n.places,.slice adF n.first.length capF,.slice adI n.ins.length capI,.slice adO n.outs.length capO,.slice adK n.keeps.length capK,.slice adN n.nums.length capN,.slice adC n.code.length capC],.func (.func 55) #[] #[.pointer (some ⟨bn,0,none⟩)]] w fun e w'=>e=.returned (.int .i64 (2:Int))/\Below w.heap.size w w':=by
 have q0:=Y0;have q1:=Dg;have q2:=Df;have q3:=De;have r0:=Jq;have r1:=Jp;have r2:=Jo
 have s1:=hs.p;have s2:=hs.c;have s3:=hs.m;have s4:=hs.s
 have t1:((n.first.length:Int) != n.places)=false:=by simpa using hf
 have HW:Hid (∀w1,Below (wN n w adF adI adO adK adN adC capF capI capO capK capN capC).heap.size (wN n w adF adI adO adK adN adC capF capI capO capK capN capC) w1->w1.cell? ⟨w.heap.size,0,none⟩=some (.int .i64 n.places)/\w1.cell? ⟨w.heap.size,2,none⟩=some (.slice adI n.ins.length capI)):=kK n w adF adI adO adK adN adC capF capI capO capK capN capC
 have cI:Hid (∀w1,Below (wN n w adF adI adO adK adN adC capF capI capO capK capN capC).heap.size (wN n w adF adI adO adK adN adC capF capI capO capK capN capC) w1->Calls Tryz.prog 98 #[.slice adI n.ins.length capI,.func (.func 55) #[] #[.pointer (some ⟨bn,0,none⟩)]] w1 fun e w'=>e=.returned (.bool true)/\Below (wN n w adF adI adO adK adN adC capF capI capO capK capN capC).heap.size (wN n w adF adI adO adK adN adC capF capI capO capK capN capC) w'):=fun w1 hb=>by
  have:=dY n bn w _ n.ins hI (by omega) hc _ w1 (aD w _) hb
  rw[aI] at this
  exact this
 have cO:Hid (∀w1,Below (wN n w adF adI adO adK adN adC capF capI capO capK capN capC).heap.size (wN n w adF adI adO adK adN adC capF capI capO capK capN capC) w1->Calls Tryz.prog 98 #[.slice adO n.outs.length capO,.func (.func 55) #[] #[.pointer (some ⟨bn,0,none⟩)]] w1 fun e w'=>e=.returned (.bool true)/\Below (wN n w adF adI adO adK adN adC capF capI capO capK capN capC).heap.size (wN n w adF adI adO adK adN adC capF capI capO capK capN capC) w'):=fun w1 hb=>by
  have:=dY n bn w _ n.outs hO (by omega) hc _ w1 (aD w _) hb
  rw[aO] at this
  exact this
 have cK:Hid (∀w1,Below (wN n w adF adI adO adK adN adC capF capI capO capK capN capC).heap.size (wN n w adF adI adO adK adN adC capF capI capO capK capN capC) w1->Calls Tryz.prog 98 #[.slice adK n.keeps.length capK,.func (.func 55) #[] #[.pointer (some ⟨bn,0,none⟩)]] w1 fun e w'=>e=.returned (.bool false)/\Below (wN n w adF adI adO adK adN adC capF capI capO capK capN capC).heap.size (wN n w adF adI adO adK adN adC capF capI capO capK capN capC) w'):=fun w1 hb=>by
  have:=dY n bn w _ n.keeps hK (by omega) hc _ w1 (aD w _) hb
  rw[aK] at this
  exact this
 clear hf hs hc hI hO hK aI aO aK
 go_enter Tryz.func56,Tryz.ntmps56
 go_wp2
 refine wp_loop_rounds 5 ?_
 rw[rounds_succ]
 go_wp2
 rw[rounds_succ]
 go_wp2
 rw[rounds_succ]
 go_wp2
 rw[rounds_succ]
 go_wp2
 rw[rounds_succ]
 go_wp2
 refine wp_loop_rounds 3 ?_
 rw[rounds_succ]
 go_wp2_with (go_at_call 98;refine (cI.out _ (Below.refl _ _)).mono ?_;rintro e w1 ⟨rfl,hb1⟩)
 rw[rounds_succ]
 go_wp2_with (go_at_call 98;refine (cO.out _ hb1).mono ?_;rintro e w2 ⟨rfl,hb2⟩)
 rw[rounds_succ]
 go_wp2_with (go_at_call 98;refine (cK.out _ hb2).mono ?_;rintro e w3 ⟨rfl,hb3⟩)
 go_ret
 exact ⟨rfl,eX (aD w _) hb3⟩
theorem Gy (hs:iR n) (h0:0≤n.places) (hf:(n.first.length:Int)=n.places) (hc:w.cell? ⟨bn,0,none⟩=some (.int .i64 n.places)) (hI:bL A w (.slice adI n.ins.length capI) n.ins) (hO:bL A w (.slice adO n.outs.length capO) n.outs) (hK:bL A w (.slice adK n.keeps.length capK) n.keeps) (aI:n.ins.all (cH n.places)=true) (aO:n.outs.all (cH n.places)=true) (aK:n.keeps.all (cH n.places)=true) (aT:decide (¬n.ins.Nodup)=true) :
    Calls Tryz.prog 56 #[.agg #[.int .i64 n.places,.slice adF n.first.length capF,.slice adI n.ins.length capI,.slice adO n.outs.length capO,.slice adK n.keeps.length capK,.slice adN n.nums.length capN,.slice adC n.code.length capC],.func (.func 55) #[] #[.pointer (some ⟨bn,0,none⟩)]] w fun e w'=>e=.returned (.int .i64 (9:Int))/\Below w.heap.size w w':=by
 have q0:=Y0;have q1:=Dg;have q2:=Df;have q3:=De;have r0:=Jq;have r1:=Jp;have r2:=Jo
 have s1:=hs.p;have s2:=hs.c;have s3:=hs.m;have s4:=hs.s
 have t1:((n.first.length:Int) != n.places)=false:=by simpa using hf
 have HW:Hid (∀w1,Below (wN n w adF adI adO adK adN adC capF capI capO capK capN capC).heap.size (wN n w adF adI adO adK adN adC capF capI capO capK capN capC) w1->w1.cell? ⟨w.heap.size,0,none⟩=some (.int .i64 n.places)/\w1.cell? ⟨w.heap.size,2,none⟩=some (.slice adI n.ins.length capI)):=kK n w adF adI adO adK adN adC capF capI capO capK capN capC
 have cI:Hid (∀w1,Below (wN n w adF adI adO adK adN adC capF capI capO capK capN capC).heap.size (wN n w adF adI adO adK adN adC capF capI capO capK capN capC) w1->Calls Tryz.prog 98 #[.slice adI n.ins.length capI,.func (.func 55) #[] #[.pointer (some ⟨bn,0,none⟩)]] w1 fun e w'=>e=.returned (.bool true)/\Below (wN n w adF adI adO adK adN adC capF capI capO capK capN capC).heap.size (wN n w adF adI adO adK adN adC capF capI capO capK capN capC) w'):=fun w1 hb=>by
  have:=dY n bn w _ n.ins hI (by omega) hc _ w1 (aD w _) hb
  rw[aI] at this
  exact this
 have cO:Hid (∀w1,Below (wN n w adF adI adO adK adN adC capF capI capO capK capN capC).heap.size (wN n w adF adI adO adK adN adC capF capI capO capK capN capC) w1->Calls Tryz.prog 98 #[.slice adO n.outs.length capO,.func (.func 55) #[] #[.pointer (some ⟨bn,0,none⟩)]] w1 fun e w'=>e=.returned (.bool true)/\Below (wN n w adF adI adO adK adN adC capF capI capO capK capN capC).heap.size (wN n w adF adI adO adK adN adC capF capI capO capK capN capC) w'):=fun w1 hb=>by
  have:=dY n bn w _ n.outs hO (by omega) hc _ w1 (aD w _) hb
  rw[aO] at this
  exact this
 have cK:Hid (∀w1,Below (wN n w adF adI adO adK adN adC capF capI capO capK capN capC).heap.size (wN n w adF adI adO adK adN adC capF capI capO capK capN capC) w1->Calls Tryz.prog 98 #[.slice adK n.keeps.length capK,.func (.func 55) #[] #[.pointer (some ⟨bn,0,none⟩)]] w1 fun e w'=>e=.returned (.bool true)/\Below (wN n w adF adI adO adK adN adC capF capI capO capK capN capC).heap.size (wN n w adF adI adO adK adN adC capF capI capO capK capN capC) w'):=fun w1 hb=>by
  have:=dY n bn w _ n.keeps hK (by omega) hc _ w1 (aD w _) hb
  rw[aK] at this
  exact this
 have cT:Hid (∀w1,Below (wN n w adF adI adO adK adN adC capF capI capO capK capN capC).heap.size (wN n w adF adI adO adK adN adC capF capI capO capK capN capC) w1->Calls Tryz.prog 99 #[.slice adI n.ins.length capI] w1 fun e w'=>e=.returned (.bool true)/\Below (wN n w adF adI adO adK adN adC capF capI capO capK capN capC).heap.size (wN n w adF adI adO adK adN adC capF capI capO capK capN capC) w'):=fun w1 hb=>by
  have hb':=eX (aD w _) hb
  have:=zE _ n.ins w1 (hI.carry fun b ha hl=>⟨ha,hb'.block b hl⟩) (by omega)
  rw[aT] at this
  exact this.mono fun e w' ⟨he,hb2⟩=>⟨he,eX hb hb2⟩
 clear hf hs hc hI hO hK aI aO aK aT
 go_enter Tryz.func56,Tryz.ntmps56
 go_wp2
 refine wp_loop_rounds 5 ?_
 rw[rounds_succ]
 go_wp2
 rw[rounds_succ]
 go_wp2
 rw[rounds_succ]
 go_wp2
 rw[rounds_succ]
 go_wp2
 rw[rounds_succ]
 go_wp2
 refine wp_loop_rounds 4 ?_
 rw[rounds_succ]
 go_wp2_with (go_at_call 98;refine (cI.out _ (Below.refl _ _)).mono ?_;rintro e w1 ⟨rfl,hb1⟩)
 rw[rounds_succ]
 go_wp2_with (go_at_call 98;refine (cO.out _ hb1).mono ?_;rintro e w2 ⟨rfl,hb2⟩)
 rw[rounds_succ]
 go_wp2_with (go_at_call 98;refine (cK.out _ hb2).mono ?_;rintro e w3 ⟨rfl,hb3⟩)
 have dd:=HW.out w3 hb3
 obtain ⟨d0,d2⟩:=dd
 rw[rounds_succ]
 go_wp2_with (go_at_call 99;refine (cT.out _ hb3).mono ?_;rintro e w4 ⟨rfl,hb4⟩)
 go_ret
 exact ⟨rfl,eX (aD w _) hb4⟩
theorem Bc (hs:iR n) (h0:0≤n.places) (hf:(n.first.length:Int)=n.places) (hc:w.cell? ⟨bn,0,none⟩=some (.int .i64 n.places)) (hI:bL A w (.slice adI n.ins.length capI) n.ins) (hO:bL A w (.slice adO n.outs.length capO) n.outs) (hK:bL A w (.slice adK n.keeps.length capK) n.keeps) (aI:n.ins.all (cH n.places)=true) (aO:n.outs.all (cH n.places)=true) (aK:n.keeps.all (cH n.places)=true) (aT:decide (¬n.ins.Nodup)=false) :
    Calls Tryz.prog 56 #[.agg #[.int .i64 n.places,.slice adF n.first.length capF,.slice adI n.ins.length capI,.slice adO n.outs.length capO,.slice adK n.keeps.length capK,.slice adN n.nums.length capN,.slice adC n.code.length capC],.func (.func 55) #[] #[.pointer (some ⟨bn,0,none⟩)]] w fun e w'=>e=.returned (.int .i64 (0:Int))/\Below w.heap.size w w':=by
 have q0:=Y0;have q1:=Dg;have q2:=Df;have q3:=De;have r0:=Jq;have r1:=Jp;have r2:=Jo
 have s1:=hs.p;have s2:=hs.c;have s3:=hs.m;have s4:=hs.s
 have t1:((n.first.length:Int) != n.places)=false:=by simpa using hf
 have HW:Hid (∀w1,Below (wN n w adF adI adO adK adN adC capF capI capO capK capN capC).heap.size (wN n w adF adI adO adK adN adC capF capI capO capK capN capC) w1->w1.cell? ⟨w.heap.size,0,none⟩=some (.int .i64 n.places)/\w1.cell? ⟨w.heap.size,2,none⟩=some (.slice adI n.ins.length capI)):=kK n w adF adI adO adK adN adC capF capI capO capK capN capC
 have cI:Hid (∀w1,Below (wN n w adF adI adO adK adN adC capF capI capO capK capN capC).heap.size (wN n w adF adI adO adK adN adC capF capI capO capK capN capC) w1->Calls Tryz.prog 98 #[.slice adI n.ins.length capI,.func (.func 55) #[] #[.pointer (some ⟨bn,0,none⟩)]] w1 fun e w'=>e=.returned (.bool true)/\Below (wN n w adF adI adO adK adN adC capF capI capO capK capN capC).heap.size (wN n w adF adI adO adK adN adC capF capI capO capK capN capC) w'):=fun w1 hb=>by
  have:=dY n bn w _ n.ins hI (by omega) hc _ w1 (aD w _) hb
  rw[aI] at this
  exact this
 have cO:Hid (∀w1,Below (wN n w adF adI adO adK adN adC capF capI capO capK capN capC).heap.size (wN n w adF adI adO adK adN adC capF capI capO capK capN capC) w1->Calls Tryz.prog 98 #[.slice adO n.outs.length capO,.func (.func 55) #[] #[.pointer (some ⟨bn,0,none⟩)]] w1 fun e w'=>e=.returned (.bool true)/\Below (wN n w adF adI adO adK adN adC capF capI capO capK capN capC).heap.size (wN n w adF adI adO adK adN adC capF capI capO capK capN capC) w'):=fun w1 hb=>by
  have:=dY n bn w _ n.outs hO (by omega) hc _ w1 (aD w _) hb
  rw[aO] at this
  exact this
 have cK:Hid (∀w1,Below (wN n w adF adI adO adK adN adC capF capI capO capK capN capC).heap.size (wN n w adF adI adO adK adN adC capF capI capO capK capN capC) w1->Calls Tryz.prog 98 #[.slice adK n.keeps.length capK,.func (.func 55) #[] #[.pointer (some ⟨bn,0,none⟩)]] w1 fun e w'=>e=.returned (.bool true)/\Below (wN n w adF adI adO adK adN adC capF capI capO capK capN capC).heap.size (wN n w adF adI adO adK adN adC capF capI capO capK capN capC) w'):=fun w1 hb=>by
  have:=dY n bn w _ n.keeps hK (by omega) hc _ w1 (aD w _) hb
  rw[aK] at this
  exact this
 have cT:Hid (∀w1,Below (wN n w adF adI adO adK adN adC capF capI capO capK capN capC).heap.size (wN n w adF adI adO adK adN adC capF capI capO capK capN capC) w1->Calls Tryz.prog 99 #[.slice adI n.ins.length capI] w1 fun e w'=>e=.returned (.bool false)/\Below (wN n w adF adI adO adK adN adC capF capI capO capK capN capC).heap.size (wN n w adF adI adO adK adN adC capF capI capO capK capN capC) w'):=fun w1 hb=>by
  have hb':=eX (aD w _) hb
  have:=zE _ n.ins w1 (hI.carry fun b ha hl=>⟨ha,hb'.block b hl⟩) (by omega)
  rw[aT] at this
  exact this.mono fun e w' ⟨he,hb2⟩=>⟨he,eX hb hb2⟩
 clear hf hs hc hI hO hK aI aO aK aT
 go_enter Tryz.func56,Tryz.ntmps56
 go_wp2
 refine wp_loop_rounds 5 ?_
 rw[rounds_succ]
 go_wp2
 rw[rounds_succ]
 go_wp2
 rw[rounds_succ]
 go_wp2
 rw[rounds_succ]
 go_wp2
 rw[rounds_succ]
 go_wp2
 refine wp_loop_rounds 4 ?_
 rw[rounds_succ]
 go_wp2_with (go_at_call 98;refine (cI.out _ (Below.refl _ _)).mono ?_;rintro e w1 ⟨rfl,hb1⟩)
 rw[rounds_succ]
 go_wp2_with (go_at_call 98;refine (cO.out _ hb1).mono ?_;rintro e w2 ⟨rfl,hb2⟩)
 rw[rounds_succ]
 go_wp2_with (go_at_call 98;refine (cK.out _ hb2).mono ?_;rintro e w3 ⟨rfl,hb3⟩)
 have dd:=HW.out w3 hb3
 obtain ⟨d0,d2⟩:=dd
 rw[rounds_succ]
 go_wp2_with (go_at_call 99;refine (cT.out _ hb3).mono ?_;rintro e w4 ⟨rfl,hb4⟩)
 go_ret
 exact ⟨rfl,eX (aD w _) hb4⟩
end
end Nx
end
section
open Go.RowKit
namespace Nx
theorem Mo (s:Sp) (P:Int) (nums bn:Nat) (w:World) (hc:w.cell? ⟨bn,0,none⟩=some (.int .i64 P)) :
    Calls Tryz.prog 57 #[.agg #[.int .i64 s.code,.int .i64 s.dst,.int .i64 s.a,.int .i64 s.b,.int .i64 s.c],.int .i64 nums,.func (.func 55) #[] #[.pointer (some ⟨bn,0,none⟩)]] w fun e w'=>e=.returned (.int .i64 (dI P nums s:Nat))/\Below w.heap.size w w':=by
 obtain ⟨code,dst,a,b,c⟩:=s
 simp only
 by_cases h:code<1\/17<code\/code=3
 ·have e:dI P nums ⟨code,dst,a,b,c⟩=3:=by unfold dI;rw[if_pos h]
  rw[e];exact Hq code dst a b c nums bn w h
 have h1:1≤code:=by omega
 have h2:code≤17:=by omega
 have h3:code≠3:=by omega
 cases hd:cH P dst with
 | false=>
  have e:dI P nums ⟨code,dst,a,b,c⟩=2:=by unfold dI;rw[if_neg h,if_pos (by simp[hd])]
  rw[e];exact Mn code dst a b c P nums bn w hc h1 h2 h3 hd
 | true=>
 cases ha:(asks ⟨code,dst,a,b,c⟩).all (cH P) with
 | false=>
  have e:dI P nums ⟨code,dst,a,b,c⟩=2:=by unfold dI;rw[if_neg h,if_pos (by simp only[ha];simp)]
  rw[e];exact Hr code dst a b c P nums bn w hc h1 h2 h3 hd ha
 | true=>
 have E0:dI P nums ⟨code,dst,a,b,c⟩=if code=1/\¬(0≤a/\a<nums) then 2 else if ([a,b,c].drop (if code=1 then 1 else (asks ⟨code,dst,a,b,c⟩).length)).any (· != 0) then 1 else 0:=by
  unfold dI
  rw[if_neg h,if_neg (by simp only[hd,ha];simp)]
 rw[E0]
 by_cases c1:code=1
 ·subst c1
  by_cases hr:0≤a/\a<nums
  ·rw[if_neg (by simp;omega)]
   obtain ⟨r0,r1⟩:=hr
   by_cases kb:b=0
   ·by_cases kc:c=0
    ·have:=Yn dst a b c P nums bn w hc hd ha r0 r1 kb kc
     subst kb kc;exact this
    ·have:=Yo dst a b c P nums bn w hc hd ha r0 r1 kb kc
     have e:([a,b,c].drop (if (1:Int)=1 then 1 else (asks ⟨1,dst,a,b,c⟩).length)).any (· != 0)=true:=by simp[kc]
     rw[if_pos e];exact this
   ·have:=aD5 dst a b c P nums bn w hc hd ha r0 r1 kb
    have e:([a,b,c].drop (if (1:Int)=1 then 1 else (asks ⟨1,dst,a,b,c⟩).length)).any (· != 0)=true:=by simp[kb]
    rw[if_pos e];exact this
  ·rw[if_pos ⟨rfl,hr⟩]
   by_cases r0:a<0
   ·exact Yp dst a b c P nums bn w hc hd r0
   ·exact Yq dst a b c P nums bn w hc hd (by omega) (by omega)
 rw[if_neg (fun x=>c1 x.1)]
 have one:∀cc:Int,code=cc->(cc=2\/cc=4\/cc=5)->((([a,b,c].drop (if code=1 then 1 else (asks ⟨code,dst,a,b,c⟩).length)).any (· != 0))=(b != 0||c != 0)):=by
  intro cc e h
  have ea:(asks ⟨code,dst,a,b,c⟩).length=1:=by unfold asks;rw[if_pos (by simp;omega)];rfl
  rw[ea,if_neg c1];simp
 by_cases c2:code=2
 ·rw[one 2 c2 (by omega)]
  subst c2
  by_cases kb:b=0
  ·by_cases kc:c=0
   ·have:=Uw dst a b c P nums bn w hc hd ha kb kc
    subst kb kc;exact this
   ·rw[if_pos (by simp[kc])];exact Ux dst a b c P nums bn w hc hd ha kb kc
  ·rw[if_pos (by simp[kb])];exact Ym dst a b c P nums bn w hc hd ha kb
 by_cases c4:code=4
 ·rw[one 4 c4 (by omega)]
  subst c4
  by_cases kb:b=0
  ·by_cases kc:c=0
   ·have:=Uu dst a b c P nums bn w hc hd ha kb kc
    subst kb kc;exact this
   ·rw[if_pos (by simp[kc])];exact Uv dst a b c P nums bn w hc hd ha kb kc
  ·rw[if_pos (by simp[kb])];exact Yl dst a b c P nums bn w hc hd ha kb
 by_cases c5:code=5
 ·rw[one 5 c5 (by omega)]
  subst c5
  by_cases kb:b=0
  ·by_cases kc:c=0
   ·have:=Us dst a b c P nums bn w hc hd ha kb kc
    subst kb kc;exact this
   ·rw[if_pos (by simp[kc])];exact Ut dst a b c P nums bn w hc hd ha kb kc
  ·rw[if_pos (by simp[kb])];exact Yk dst a b c P nums bn w hc hd ha kb
 by_cases c17:code=17
 ·subst c17
  exact aC6 dst a b c P nums bn w hc hd ha
 have h6:6≤code:=by omega
 have h16:code≤16:=by omega
 have ea:(asks ⟨code,dst,a,b,c⟩).length=2:=by unfold asks;rw[if_neg (by simp;omega),if_pos (by simp;omega)];rfl
 rw[ea,if_neg c1]
 by_cases kc:c=0
 ·have:=aB9 code dst a b c P nums bn w hc hd ha h6 h16 kc
  subst kc;exact this
 ·rw[if_pos (by simp[kc])];exact aC0 code dst a b c P nums bn w hc hd ha h6 h16 kc
structure eQ (B:Nat) (w:World) (n:Nt) (vF vI vO vK vN vC:Value):Prop where
 f:bL (· < B) w vF n.first
 i:bL (· < B) w vI n.ins
 o:bL (· < B) w vO n.outs
 k:bL (· < B) w vK n.keeps
 m:bL (· < B) w vN n.nums
 c:lH (· < B) w vC n.code
theorem eQ.carry {B B':Nat}{w w':World}{n:Nt}{vF vI vO vK vN vC:Value}(h:eQ B w n vF vI vO vK vN vC) (k:aX (· < B) (· < B') w w'):eQ B' w' n vF vI vO vK vN vC:=
 ⟨h.f.carry k,h.i.carry k,h.o.carry k,h.k.carry k,h.m.carry k,h.c.carry k⟩
theorem eQ.below {B B':Nat}{w w':World}{n:Nt}{vF vI vO vK vN vC:Value}(h:eQ B w n vF vI vO vK vN vC) (hb:Below B w w') (hB:B≤B'):eQ B' w' n vF vI vO vK vN vC:=
 h.carry fun b hl _=>⟨Nat.lt_of_lt_of_le hl hB,hb.block b hl⟩
theorem pR (B:Nat) (n:Nt) (bn:Nat) (w:World) (vF vI vO vK vN vC:Value) (h:eQ B w n vF vI vO vK vN vC) (hs:iR n) (hc:w.cell? ⟨bn,0,none⟩=some (.int .i64 n.places)) :
    Calls Tryz.prog 56 #[.agg #[.int .i64 n.places,vF,vI,vO,vK,vN,vC],.func (.func 55) #[] #[.pointer (some ⟨bn,0,none⟩)]] w fun e w'=>e=.returned (.int .i64 (cN n:Nat))/\Below w.heap.size w w':=by
 have hI:=h.i;have hO:=h.o;have hK:=h.k
 obtain ⟨adF,_,_,capF,rfl,-,-⟩:=h.f
 obtain ⟨adI,_,_,capI,rfl,-,-⟩:=h.i
 obtain ⟨adO,_,_,capO,rfl,-,-⟩:=h.o
 obtain ⟨adK,_,_,capK,rfl,-,-⟩:=h.k
 obtain ⟨adN,_,_,capN,rfl,-,-⟩:=h.m
 obtain ⟨adC,_,_,capC,rfl,-,-⟩:=h.c
 have s1:=hs.p;have s2:=hs.c;have s3:=hs.m;have s4:=hs.s
 by_cases h0:n.places<0
 ·have e:cN n=4:=by unfold cN;rw[if_pos (.inl h0)]
  rw[e];exact Gw n bn w adF adI adO adK adN adC capF capI capO capK capN capC h0
 have n0:¬(n.places<0\/4000<n.places\/4000<n.code.length\/4000<n.nums.length\/4000<n.ins.length+n.outs.length+n.keeps.length):=by omega
 by_cases hf:(n.first.length:Int)≠n.places
 ·have e:cN n=3:=by unfold cN;rw[if_neg n0,if_pos hf]
  rw[e];exact Bb n bn w adF adI adO adK adN adC capF capI capO capK capN capC hs (by omega) hf
 have n1:=hf
 replace hf:(n.first.length:Int)=n.places:=Classical.byContradiction hf
 cases aI:n.ins.all (cH n.places) with
 | false=>
  have e:cN n=2:=by unfold cN;rw[if_neg n0,if_neg n1,if_pos (by simp only[aI];simp)]
  rw[e];exact Gx n bn w adF adI adO adK adN adC capF capI capO capK capN capC hs (by omega) hf hc hI aI
 | true=>
 cases aO:n.outs.all (cH n.places) with
 | false=>
  have e:cN n=2:=by unfold cN;rw[if_neg n0,if_neg n1,if_pos (by simp only[aO];simp)]
  rw[e];exact Ba n bn w adF adI adO adK adN adC capF capI capO capK capN capC hs (by omega) hf hc hI hO aI aO
 | true=>
 cases aK:n.keeps.all (cH n.places) with
 | false=>
  have e:cN n=2:=by unfold cN;rw[if_neg n0,if_neg n1,if_pos (by simp only[aK];simp)]
  rw[e];exact O0 n bn w adF adI adO adK adN adC capF capI capO capK capN capC hs (by omega) hf hc hI hO hK aI aO aK
 | true=>
 have e3:cN n=if ¬n.ins.Nodup then 9 else 0:=by unfold cN;rw[if_neg n0,if_neg n1,if_neg (by simp only[aI,aO,aK];simp)]
 rw[e3]
 by_cases hd:n.ins.Nodup
 ·rw[if_neg (fun x=>x hd)]
  exact Bc n bn w adF adI adO adK adN adC capF capI capO capK capN capC hs (by omega) hf hc hI hO hK aI aO aK (by simpa using hd)
 ·rw[if_pos hd]
  exact Gy n bn w adF adI adO adK adN adC capF capI capO capK capN capC hs (by omega) hf hc hI hO hK aI aO aK (by simpa using hd)
end Nx
end
section
open Go Go.RowKit Go.ChangeShapes Go.WideShapes
namespace Nx
def Sq (z:Int):Prop:=-9223372036854775808≤z/\z≤9223372036854775807
theorem Dw {z:Int}(h:(Lit.int .i64 z).wf=true):Sq z:=by
 rw[show (Lit.int .i64 z).wf=(decide (-9223372036854775808≤z)&&decide (z≤9223372036854775807)) from rfl] at h
 simpa [Sq] using h
theorem pI (b off k:Nat):(⟨b,off,none⟩:Addr).add k=⟨b,off+k,none⟩:=by unfold Addr.add;split<;>simp_all
section
variable {H:Type}{enc:TypeId×Value->H}{W:World}{sp:Nat->Bool}{held:Bool}
theorem iL {t e:TypeId}(ht:Tryz.prog.underlying t=some (.slice e)) (he:Tryz.prog.underlying e=some (.int .i64)) (hc:Tryz.prog.cellsOf e=1) {fuel:Nat}{v:Value}{x:DataW H×List MemPlace}
    (h:DataW.trod enc Tryz.prog W 0 sp held fuel t [v]=some x):∃zs,bL (· < W.heap.size) W v zs/\(∀z∈zs,Sq z):=by
 rcases open_ints ht he hc h with ⟨hcs,_⟩|⟨a,len,cap,zs,hcs,_,hl,hm,hz,_,hcell,hwz⟩
 ·obtain rfl:v=.slice none 0 0:=by simpa using hcs
  exact ⟨[],⟨none,0,0,0,rfl,fun h=>by simp at h,fun k hk=>by simp at hk⟩,fun z hz=>by cases hz⟩
 ·obtain rfl:v=.slice (some a) len cap:=by simpa using hcs
  have hlz:len≤zs.length:=by rw[hz];split<;>omega
  have hlen:(zs.take len).length=len:=by simp;omega
  refine ⟨zs.take len,?_,fun z hz=>Dw (hwz z (List.mem_of_mem_take hz))⟩
  by_cases h0:len=0
  ·subst h0
   exact ⟨some a,0,0,cap,by rw[hlen],fun h=>by omega,fun k hk=>by omega⟩
  ·obtain ⟨b,off,spot⟩:=a
   have hc0:=hcell 0 (by omega)
   have hspot:spot=none:=by simpa [Addr.add] using World.cell?_spot hc0
   subst hspot
   have had:∀j,(⟨b,off,none⟩:Addr).add j=⟨b,off+j,none⟩:=fun j=>by simp[Addr.add]
   refine ⟨some ⟨b,off,none⟩,b,off,cap,by rw[hlen],fun _=>⟨rfl,?_⟩,fun k hk=>?_⟩
   ·rw[had] at hc0;exact cM hc0
   ·have:=hcell k (by omega)
    rw[had] at this
    rw[this]
    simp[List.getD_eq_getElem?_getD,show k<len by omega]
theorem C9 {fuel:Nat}{cs:List Value}{x:DataW H×List MemPlace}(h:DataW.trod enc Tryz.prog W 0 sp held fuel 39 cs=some x) :
    ∃s:Sp,cs=[.int .i64 s.code,.int .i64 s.dst,.int .i64 s.a,.int .i64 s.b,.int .i64 s.c]:=by
 obtain ⟨xs,n,_,_,hl,hlen,hf⟩:=DataW.trod_struct Tryz.underlying39 h
 have h5:cs.length=5:=hl.trans (by kernel_rfl)
 match cs,h5 with
 | [c0,c1,c2,c3,c4],_=>
  have hx:∀i,i<5->∃y,xs[i]?=some y:=fun i hi=>⟨_,List.getElem?_eq_getElem (by rw[hlen];exact hi)⟩
  have k1:Tryz.prog.cellsOf 3=1:=by kernel_rfl
  obtain ⟨y0,e0⟩:=hx 0 (by omega)
  obtain ⟨y1,e1⟩:=hx 1 (by omega)
  obtain ⟨y2,e2⟩:=hx 2 (by omega)
  obtain ⟨y3,e3⟩:=hx 3 (by omega)
  obtain ⟨y4,e4⟩:=hx 4 (by omega)
  have f0:=hf 0 _ rfl
  have f1:=hf 1 _ rfl
  have f2:=hf 2 _ rfl
  have f3:=hf 3 _ rfl
  have f4:=hf 4 _ rfl
  rw[e0] at f0
  rw[e1] at f1
  rw[e2] at f2
  rw[e3] at f3
  rw[e4] at f4
  obtain ⟨z0,g0,_⟩:=DataW.trod_int Tryz.underlying3 f0
  obtain ⟨z1,g1,_⟩:=DataW.trod_int Tryz.underlying3 f1
  obtain ⟨z2,g2,_⟩:=DataW.trod_int Tryz.underlying3 f2
  obtain ⟨z3,g3,_⟩:=DataW.trod_int Tryz.underlying3 f3
  obtain ⟨z4,g4,_⟩:=DataW.trod_int Tryz.underlying3 f4
  simp[k1] at g0 g1 g2 g3 g4
  exact ⟨⟨z0,z1,z2,z3,z4⟩,by rw[g0,g1,g2,g3,g4]⟩
theorem o7 {α:Type}(d:α) (n:Nat) (P:Nat->α->Prop) (h:∀i,i<n->∃x,P i x):∃l:List α,l.length=n/\∀i,i<n->P i (l.getD i d):=by
 induction n with
 | zero=>exact ⟨[],rfl,fun i hi=>by omega⟩
 | succ n ih=>
  obtain ⟨l,hl,hp⟩:=ih fun i hi=>h i (by omega)
  obtain ⟨x,hx⟩:=h n (by omega)
  refine ⟨l++[x],by simp[hl],fun i hi=>?_⟩
  by_cases e:i=n
  ·subst e
   rw[List.getD_eq_getElem?_getD,List.getElem?_append_right (by omega)]
   simpa [hl] using hx
  ·rw[List.getD_eq_getElem?_getD,List.getElem?_append_left (by omega),<-List.getD_eq_getElem?_getD]
   exact hp i (by omega)
theorem yN {fuel:Nat}{v:Value}{x:DataW H×List MemPlace}(h:DataW.trod enc Tryz.prog W 0 sp held fuel 24 [v]=some x):∃l,lH (· < W.heap.size) W v l:=by
 rcases DataW.trod_slice Tryz.underlying24 h with ⟨hcs,_⟩|⟨a,len,cap,elems,rest,n,_,hcs,_,_,_,_,hlen,hel,_⟩
 ·obtain rfl:v=.slice none 0 0:=by simpa using hcs
  exact ⟨[],none,0,0,0,rfl,fun h=>by simp at h,fun k hk=>by simp at hk⟩
 ·obtain rfl:v=.slice (some a) len cap:=by simpa using hcs
  have k5:Tryz.prog.cellsOf 39=5:=by kernel_rfl
  have each:∀i,i<len->∃s:Sp,∀j,j<5->W.cell? ((a.add (i*5)).add j)=[Value.int .i64 s.code,.int .i64 s.dst,.int .i64 s.a,.int .i64 s.b,.int .i64 s.c][j]?:=fun i hi=>by
   have he:=hel i hi
   rw[k5,List.getElem?_eq_getElem (by omega)] at he
   obtain ⟨cs,hcs,hcs2⟩:=Option.bind_eq_some_iff.1 he
   obtain ⟨s,rfl⟩:=C9 hcs2
   exact ⟨s,(World.cells?_some hcs).2.2⟩
  obtain ⟨l,hl,hp⟩:=o7 iC len _ each
  by_cases h0:len=0
  ·subst h0
   exact ⟨l,some a,0,0,cap,by rw[hl],fun h=>by omega,fun k hk=>by omega⟩
  ·obtain ⟨b,off,spot⟩:=a
   have hc0:=hp 0 (by omega) 0 (by omega)
   have hspot:spot=none:=by simpa [Addr.add] using World.cell?_spot hc0
   subst hspot
   have had:∀i j,((⟨b,off,none⟩:Addr).add (i*5)).add j=⟨b,off+i*5+j,none⟩:=fun i j=>by rw[pI,pI]
   refine ⟨l,some ⟨b,off,none⟩,b,off,cap,by rw[hl],fun _=>⟨rfl,?_⟩,fun k hk=>?_⟩
   ·rw[had] at hc0;exact cM hc0
   ·have q:=fun j hj=>hp k (by omega) j hj
    simp only[had] at q
    exact ⟨q 0 (by omega),q 1 (by omega),q 2 (by omega),q 3 (by omega),q 4 (by omega)⟩
theorem X2 {v:Value}{d:DataW H}{p:List MemPlace}{r:Reach}{b0:Nat}(hv:Value.okWide Tryz.prog W r b0 26 v) (h:DataW.Trod enc Tryz.prog W 0 sp held 26 v d p) :
    ∃(n:Nt) (vF vI vO vK vN vC:Value),v=.agg #[.int .i64 n.places,vF,vI,vO,vK,vN,vC]/\eQ W.heap.size W n vF vI vO vK vN vC/\(∀z∈n.first,Sq z)/\(∀z∈n.nums,Sq z):=by
 obtain ⟨cs,rfl,hsz⟩:=okWide_struct Tryz.underlying26 hv
 have h7:cs.size=7:=hsz.trans (by kernel_rfl)
 obtain ⟨fuel,hf⟩:=h
 obtain ⟨xs,n,_,_,hl,hlen,hf⟩:=DataW.trod_struct Tryz.underlying26 hf
 obtain ⟨cs⟩:=cs
 have h7':=h7
 match cs,h7' with
 | [c0,c1,c2,c3,c4,c5,c6],_=>
  have hx:∀i,i<7->∃y,xs[i]?=some y:=fun i hi=>⟨_,List.getElem?_eq_getElem (by rw[hlen];exact hi)⟩
  have k0:Tryz.prog.cellsOf 3=1:=by kernel_rfl
  have k1:Tryz.prog.cellsOf 22=1:=by kernel_rfl
  have k2:Tryz.prog.cellsOf 23=1:=by kernel_rfl
  have k3:Tryz.prog.cellsOf 24=1:=by kernel_rfl
  have k4:Tryz.prog.cellsOf 2=1:=by kernel_rfl
  obtain ⟨y0,e0⟩:=hx 0 (by omega)
  obtain ⟨y1,e1⟩:=hx 1 (by omega)
  obtain ⟨y2,e2⟩:=hx 2 (by omega)
  obtain ⟨y3,e3⟩:=hx 3 (by omega)
  obtain ⟨y4,e4⟩:=hx 4 (by omega)
  obtain ⟨y5,e5⟩:=hx 5 (by omega)
  obtain ⟨y6,e6⟩:=hx 6 (by omega)
  have f0:=hf 0 _ rfl
  have f1:=hf 1 _ rfl
  have f2:=hf 2 _ rfl
  have f3:=hf 3 _ rfl
  have f4:=hf 4 _ rfl
  have f5:=hf 5 _ rfl
  have f6:=hf 6 _ rfl
  rw[e0] at f0
  rw[e1] at f1
  rw[e2] at f2
  rw[e3] at f3
  rw[e4] at f4
  rw[e5] at f5
  rw[e6] at f6
  simp[Value.cells,k0,k1,k2,k3] at f0 f1 f2 f3 f4 f5 f6
  obtain ⟨P,g0,_⟩:=DataW.trod_int Tryz.underlying3 f0
  obtain rfl:c0=.int .i64 P:=by simpa using g0
  obtain ⟨l1,i1,w1⟩:=iL Tryz.underlying22 Tryz.underlying2 k4 f1
  obtain ⟨l2,i2,_⟩:=iL Tryz.underlying23 Tryz.underlying3 k0 f2
  obtain ⟨l3,i3,_⟩:=iL Tryz.underlying23 Tryz.underlying3 k0 f3
  obtain ⟨l4,i4,_⟩:=iL Tryz.underlying23 Tryz.underlying3 k0 f4
  obtain ⟨l5,i5,w5⟩:=iL Tryz.underlying22 Tryz.underlying2 k4 f5
  obtain ⟨l6,i6⟩:=yN f6
  exact ⟨⟨P,l1,l2,l3,l4,l5,l6⟩,c1,c2,c3,c4,c5,c6,rfl,⟨i1,i2,i3,i4,i5,i6⟩,w1,w5⟩
end
end Nx
end
end Go.Proofs.YtcdbhoknhnimcaaGreatDoor
