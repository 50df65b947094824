import Derived.Test.YthieaobjdpfcoaaGreatDoorVNt8b
import Derived.ChangeOld
import Derived.DataReads
set_option maxRecDepth 100000
set_option maxHeartbeats 2000000
namespace Go.Proofs.YthieaobjdpfcoaaGreatDoor
section
open Go.RowKit
namespace Nx
structure jB (n:Nt):Prop where
 p:n.places≤4000
 c:n.code.length≤4000
 m:n.nums.length≤4000
 s:n.ins.length+n.outs.length+n.keeps.length≤4000
theorem Ba (x0 x1 x2 x3:Int) (w:World):(Instr.index 138 (.agg #[.int .i64 x0,.int .i64 x1,.int .i64 x2,.int .i64 x3]) (.int .i64 0)).run Tryz.prog w=.ok (.int .i64 x0) w:=by kernel_rfl
theorem Fq (x0 x1 x2 x3:Int) (w:World):(Instr.index 138 (.agg #[.int .i64 x0,.int .i64 x1,.int .i64 x2,.int .i64 x3]) (.int .i64 1)).run Tryz.prog w=.ok (.int .i64 x1) w:=by kernel_rfl
theorem Fp (x0 x1 x2 x3:Int) (w:World):(Instr.index 138 (.agg #[.int .i64 x0,.int .i64 x1,.int .i64 x2,.int .i64 x3]) (.int .i64 2)).run Tryz.prog w=.ok (.int .i64 x2) w:=by kernel_rfl
theorem Fo (x0 x1 x2 x3:Int) (w:World):(Instr.index 138 (.agg #[.int .i64 x0,.int .i64 x1,.int .i64 x2,.int .i64 x3]) (.int .i64 3)).run Tryz.prog w=.ok (.int .i64 x3) w:=by kernel_rfl
theorem Mf (x0 x1 x2:Value) (w:World):(Instr.index 81 (.agg #[x0,x1,x2]) (.int .i64 0)).run Tryz.prog w=.ok x0 w:=by kernel_rfl
theorem Me (x0 x1 x2:Value) (w:World):(Instr.index 81 (.agg #[x0,x1,x2]) (.int .i64 1)).run Tryz.prog w=.ok x1 w:=by kernel_rfl
theorem Md (x0 x1 x2:Value) (w:World):(Instr.index 81 (.agg #[x0,x1,x2]) (.int .i64 2)).run Tryz.prog w=.ok x2 w:=by kernel_rfl
section
variable {A:Nat->Prop}(n:Nt) (bn:Nat) (w:World) (adF adI adO adK adN adC:Option Addr) (capF capI capO capK capN capC:Nat)
abbrev wN:World:=w.alloc (.cells #[.int .i64 n.places,.slice adF n.first.length capF,.slice adI n.ins.length capI,.slice adO n.outs.length capO,.slice adK n.keeps.length capK,.slice adN n.nums.length capN,.slice adC n.code.length capC] 26)
theorem dZ (v:Value) (zs:List Int) (k:bH A w v zs) (h:zs.length≤4000) (r:w.cell? ⟨bn,0,none⟩=some (.int .i64 n.places)) (w0 w1:World) (l:Below w.heap.size w w0) (hb:Below w0.heap.size w0 w1) :
    Calls Tryz.prog 73 #[v,.func (.func 39) #[] #[.pointer (some ⟨bn,0,none⟩)]] w1 fun e w'=>e=.returned (.bool (zs.all (cR n.places)))/\Below w0.heap.size w0 w':=by
 have c:=iF l hb
 exact (X7 v zs n.places bn w1 (k.carry fun b j h=>⟨j,c.block b h⟩) (by omega) (bG c r)).mono fun e w' ⟨he,hb2⟩=>⟨he,iF hb hb2⟩
theorem lE (w1:World) (hb:Below (wN n w adF adI adO adK adN adC capF capI capO capK capN capC).heap.size (wN n w adF adI adO adK adN adC capF capI capO capK capN capC) w1):w1.cell? ⟨w.heap.size,0,none⟩=some (.int .i64 n.places)/\w1.cell? ⟨w.heap.size,2,none⟩=some (.slice adI n.ins.length capI):=
 ⟨bG hb (by simp),bG hb (by simp)⟩
theorem Jh (h:n.places<0) :
    Calls Tryz.prog 40 #[.agg #[.int .i64 n.places,.slice adF n.first.length capF,.slice adI n.ins.length capI,.slice adO n.outs.length capO,.slice adK n.keeps.length capK,.slice adN n.nums.length capN,.slice adC n.code.length capC],.func (.func 39) #[] #[.pointer (some ⟨bn,0,none⟩)]] w fun e w'=>e=.returned (.int .i64 (4:Int))/\Below w.heap.size w w':=by
 go_enter Tryz.func40,Tryz.ntmps40
 go_wp2
 go_ret
 exact ⟨rfl,aE w _⟩
theorem Df (h:jB n) (U:0≤n.places) (j:(n.first.length:Int)≠n.places) :
    Calls Tryz.prog 40 #[.agg #[.int .i64 n.places,.slice adF n.first.length capF,.slice adI n.ins.length capI,.slice adO n.outs.length capO,.slice adK n.keeps.length capK,.slice adN n.nums.length capN,.slice adC n.code.length capC],.func (.func 39) #[] #[.pointer (some ⟨bn,0,none⟩)]] w fun e w'=>e=.returned (.int .i64 (3:Int))/\Below w.heap.size w w':=by
 have r:=Ba;have J:=Fq;have Y:=Fp;have X:=Fo;have O:=Mf;have I:=Me;have k:=Md
 have Q:=h.p;have y:=h.c;have l:=h.m;have u:=h.s
 have D:((n.first.length:Int) != n.places)=true:=by simpa using j
 clear j h
 go_enter Tryz.func40,Tryz.ntmps40
 go_wp2
 refine wp_loop_rounds 5 ?_
 rw[rounds_succ]
 go_wp2
 rw[rounds_succ]
 go_wp2
 rw[rounds_succ]
 go_wp2
 rw[rounds_succ]
 go_wp2
 rw[rounds_succ]
 go_wp2
 go_ret
 exact ⟨rfl,aE w _⟩
theorem Ji (h:jB n) (U:0≤n.places) (k:(n.first.length:Int)=n.places) (u:w.cell? ⟨bn,0,none⟩=some (.int .i64 n.places)) (l:bH A w (.slice adI n.ins.length capI) n.ins) (r:n.ins.all (cR n.places)=false) :
    Calls Tryz.prog 40 #[.agg #[.int .i64 n.places,.slice adF n.first.length capF,.slice adI n.ins.length capI,.slice adO n.outs.length capO,.slice adK n.keeps.length capK,.slice adN n.nums.length capN,.slice adC n.code.length capC],.func (.func 39) #[] #[.pointer (some ⟨bn,0,none⟩)]] w fun e w'=>e=.returned (.int .i64 (2:Int))/\Below w.heap.size w w':=by
 have D:=Ba;have q1:=Fq;have q2:=Fp;have q3:=Fo;have r0:=Mf;have O:=Me;have Y:=Md
 have Q:=h.p;have s2:=h.c;have Z:=h.m;have I:=h.s
 have J:((n.first.length:Int) != n.places)=false:=by simpa using k
 have X:Hid (∀w1,Below (wN n w adF adI adO adK adN adC capF capI capO capK capN capC).heap.size (wN n w adF adI adO adK adN adC capF capI capO capK capN capC) w1->w1.cell? ⟨w.heap.size,0,none⟩=some (.int .i64 n.places)/\w1.cell? ⟨w.heap.size,2,none⟩=some (.slice adI n.ins.length capI)):=lE n w adF adI adO adK adN adC capF capI capO capK capN capC
 have y:Hid (∀w1,Below (wN n w adF adI adO adK adN adC capF capI capO capK capN capC).heap.size (wN n w adF adI adO adK adN adC capF capI capO capK capN capC) w1->Calls Tryz.prog 73 #[.slice adI n.ins.length capI,.func (.func 39) #[] #[.pointer (some ⟨bn,0,none⟩)]] w1 fun e w'=>e=.returned (.bool false)/\Below (wN n w adF adI adO adK adN adC capF capI capO capK capN capC).heap.size (wN n w adF adI adO adK adN adC capF capI capO capK capN capC) w'):=fun w1 hb=>by
  have:=dZ n bn w _ n.ins l (by omega) u _ w1 (aE w _) hb
  rw[r] at this
  exact this
 clear k h u l r
 go_enter Tryz.func40,Tryz.ntmps40
 go_wp2
 refine wp_loop_rounds 5 ?_
 rw[rounds_succ]
 go_wp2
 rw[rounds_succ]
 go_wp2
 rw[rounds_succ]
 go_wp2
 rw[rounds_succ]
 go_wp2
 rw[rounds_succ]
 go_wp2
 refine wp_loop_rounds 1 ?_
 rw[rounds_succ]
 go_wp2_with (go_at_call 73;refine (y.out _ (Below.refl _ _)).mono ?_;rintro e w1 ⟨rfl,j⟩)
 go_ret
 exact ⟨rfl,iF (aE w _) j⟩
theorem De (h:jB n) (h0:0≤n.places) (r:(n.first.length:Int)=n.places) (l:w.cell? ⟨bn,0,none⟩=some (.int .i64 n.places)) (u:bH A w (.slice adI n.ins.length capI) n.ins) (y:bH A w (.slice adO n.outs.length capO) n.outs) (D:n.ins.all (cR n.places)=true) (I:n.outs.all (cR n.places)=false) :
    Calls Tryz.prog 40 #[.agg #[.int .i64 n.places,.slice adF n.first.length capF,.slice adI n.ins.length capI,.slice adO n.outs.length capO,.slice adK n.keeps.length capK,.slice adN n.nums.length capN,.slice adC n.code.length capC],.func (.func 39) #[] #[.pointer (some ⟨bn,0,none⟩)]] w fun e w'=>e=.returned (.int .i64 (2:Int))/\Below w.heap.size w w':=by
 have Q:=Ba;have q1:=Fq;have q2:=Fp;have q3:=Fo;have r0:=Mf;have Y:=Me;have r2:=Md
 have Z:=h.p;have s2:=h.c;have s3:=h.m;have U:=h.s
 have X:((n.first.length:Int) != n.places)=false:=by simpa using r
 have HW:Hid (∀w1,Below (wN n w adF adI adO adK adN adC capF capI capO capK capN capC).heap.size (wN n w adF adI adO adK adN adC capF capI capO capK capN capC) w1->w1.cell? ⟨w.heap.size,0,none⟩=some (.int .i64 n.places)/\w1.cell? ⟨w.heap.size,2,none⟩=some (.slice adI n.ins.length capI)):=lE n w adF adI adO adK adN adC capF capI capO capK capN capC
 have J:Hid (∀w1,Below (wN n w adF adI adO adK adN adC capF capI capO capK capN capC).heap.size (wN n w adF adI adO adK adN adC capF capI capO capK capN capC) w1->Calls Tryz.prog 73 #[.slice adI n.ins.length capI,.func (.func 39) #[] #[.pointer (some ⟨bn,0,none⟩)]] w1 fun e w'=>e=.returned (.bool true)/\Below (wN n w adF adI adO adK adN adC capF capI capO capK capN capC).heap.size (wN n w adF adI adO adK adN adC capF capI capO capK capN capC) w'):=fun w1 hb=>by
  have:=dZ n bn w _ n.ins u (by omega) l _ w1 (aE w _) hb
  rw[D] at this
  exact this
 have O:Hid (∀w1,Below (wN n w adF adI adO adK adN adC capF capI capO capK capN capC).heap.size (wN n w adF adI adO adK adN adC capF capI capO capK capN capC) w1->Calls Tryz.prog 73 #[.slice adO n.outs.length capO,.func (.func 39) #[] #[.pointer (some ⟨bn,0,none⟩)]] w1 fun e w'=>e=.returned (.bool false)/\Below (wN n w adF adI adO adK adN adC capF capI capO capK capN capC).heap.size (wN n w adF adI adO adK adN adC capF capI capO capK capN capC) w'):=fun w1 hb=>by
  have:=dZ n bn w _ n.outs y (by omega) l _ w1 (aE w _) hb
  rw[I] at this
  exact this
 clear r h l u y D I
 go_enter Tryz.func40,Tryz.ntmps40
 go_wp2
 refine wp_loop_rounds 5 ?_
 rw[rounds_succ]
 go_wp2
 rw[rounds_succ]
 go_wp2
 rw[rounds_succ]
 go_wp2
 rw[rounds_succ]
 go_wp2
 rw[rounds_succ]
 go_wp2
 refine wp_loop_rounds 2 ?_
 rw[rounds_succ]
 go_wp2_with (go_at_call 73;refine (J.out _ (Below.refl _ _)).mono ?_;rintro e w1 ⟨rfl,k⟩)
 rw[rounds_succ]
 go_wp2_with (go_at_call 73;refine (O.out _ k).mono ?_;rintro e w2 ⟨rfl,j⟩)
 go_ret
 exact ⟨rfl,iF (aE w _) j⟩
theorem Y6 (h:jB n) (h0:0≤n.places) (u:(n.first.length:Int)=n.places) (j:w.cell? ⟨bn,0,none⟩=some (.int .i64 n.places)) (y:bH A w (.slice adI n.ins.length capI) n.ins) (D:bH A w (.slice adO n.outs.length capO) n.outs) (I:bH A w (.slice adK n.keeps.length capK) n.keeps) (J:n.ins.all (cR n.places)=true) (Q:n.outs.all (cR n.places)=true) (O:n.keeps.all (cR n.places)=false) :
    Calls Tryz.prog 40 #[.agg #[.int .i64 n.places,.slice adF n.first.length capF,.slice adI n.ins.length capI,.slice adO n.outs.length capO,.slice adK n.keeps.length capK,.slice adN n.nums.length capN,.slice adC n.code.length capC],.func (.func 39) #[] #[.pointer (some ⟨bn,0,none⟩)]] w fun e w'=>e=.returned (.int .i64 (2:Int))/\Below w.heap.size w w':=by
 have Z:=Ba;have q1:=Fq;have q2:=Fp;have q3:=Fo;have r0:=Mf;have r1:=Me;have r2:=Md
 have s1:=h.p;have s2:=h.c;have s3:=h.m;have s4:=h.s
 have t1:((n.first.length:Int) != n.places)=false:=by simpa using u
 have HW:Hid (∀w1,Below (wN n w adF adI adO adK adN adC capF capI capO capK capN capC).heap.size (wN n w adF adI adO adK adN adC capF capI capO capK capN capC) w1->w1.cell? ⟨w.heap.size,0,none⟩=some (.int .i64 n.places)/\w1.cell? ⟨w.heap.size,2,none⟩=some (.slice adI n.ins.length capI)):=lE n w adF adI adO adK adN adC capF capI capO capK capN capC
 have X:Hid (∀w1,Below (wN n w adF adI adO adK adN adC capF capI capO capK capN capC).heap.size (wN n w adF adI adO adK adN adC capF capI capO capK capN capC) w1->Calls Tryz.prog 73 #[.slice adI n.ins.length capI,.func (.func 39) #[] #[.pointer (some ⟨bn,0,none⟩)]] w1 fun e w'=>e=.returned (.bool true)/\Below (wN n w adF adI adO adK adN adC capF capI capO capK capN capC).heap.size (wN n w adF adI adO adK adN adC capF capI capO capK capN capC) w'):=fun w1 hb=>by
  have:=dZ n bn w _ n.ins y (by omega) j _ w1 (aE w _) hb
  rw[J] at this
  exact this
 have Y:Hid (∀w1,Below (wN n w adF adI adO adK adN adC capF capI capO capK capN capC).heap.size (wN n w adF adI adO adK adN adC capF capI capO capK capN capC) w1->Calls Tryz.prog 73 #[.slice adO n.outs.length capO,.func (.func 39) #[] #[.pointer (some ⟨bn,0,none⟩)]] w1 fun e w'=>e=.returned (.bool true)/\Below (wN n w adF adI adO adK adN adC capF capI capO capK capN capC).heap.size (wN n w adF adI adO adK adN adC capF capI capO capK capN capC) w'):=fun w1 hb=>by
  have:=dZ n bn w _ n.outs D (by omega) j _ w1 (aE w _) hb
  rw[Q] at this
  exact this
 have U:Hid (∀w1,Below (wN n w adF adI adO adK adN adC capF capI capO capK capN capC).heap.size (wN n w adF adI adO adK adN adC capF capI capO capK capN capC) w1->Calls Tryz.prog 73 #[.slice adK n.keeps.length capK,.func (.func 39) #[] #[.pointer (some ⟨bn,0,none⟩)]] w1 fun e w'=>e=.returned (.bool false)/\Below (wN n w adF adI adO adK adN adC capF capI capO capK capN capC).heap.size (wN n w adF adI adO adK adN adC capF capI capO capK capN capC) w'):=fun w1 hb=>by
  have:=dZ n bn w _ n.keeps I (by omega) j _ w1 (aE w _) hb
  rw[O] at this
  exact this
 clear u h j y D I J Q O
 go_enter Tryz.func40,Tryz.ntmps40
 go_wp2
 refine wp_loop_rounds 5 ?_
 rw[rounds_succ]
 go_wp2
 rw[rounds_succ]
 go_wp2
 rw[rounds_succ]
 go_wp2
 rw[rounds_succ]
 go_wp2
 rw[rounds_succ]
 go_wp2
 refine wp_loop_rounds 3 ?_
 rw[rounds_succ]
 go_wp2_with (go_at_call 73;refine (X.out _ (Below.refl _ _)).mono ?_;rintro e w1 ⟨rfl,l⟩)
 rw[rounds_succ]
 go_wp2_with (go_at_call 73;refine (Y.out _ l).mono ?_;rintro e w2 ⟨rfl,k⟩)
 rw[rounds_succ]
 go_wp2_with (go_at_call 73;refine (U.out _ k).mono ?_;rintro e w3 ⟨rfl,r⟩)
 go_ret
 exact ⟨rfl,iF (aE w _) r⟩
theorem Jj (j:jB n) (h0:0≤n.places) (X:(n.first.length:Int)=n.places) (l:w.cell? ⟨bn,0,none⟩=some (.int .i64 n.places)) (r:bH A w (.slice adI n.ins.length capI) n.ins) (Q:bH A w (.slice adO n.outs.length capO) n.outs) (J:bH A w (.slice adK n.keeps.length capK) n.keeps) (O:n.ins.all (cR n.places)=true) (U:n.outs.all (cR n.places)=true) (Y:n.keeps.all (cR n.places)=true) (I:decide (¬n.ins.Nodup)=true) :
    Calls Tryz.prog 40 #[.agg #[.int .i64 n.places,.slice adF n.first.length capF,.slice adI n.ins.length capI,.slice adO n.outs.length capO,.slice adK n.keeps.length capK,.slice adN n.nums.length capN,.slice adC n.code.length capC],.func (.func 39) #[] #[.pointer (some ⟨bn,0,none⟩)]] w fun e w'=>e=.returned (.int .i64 (9:Int))/\Below w.heap.size w w':=by
 have q0:=Ba;have q1:=Fq;have q2:=Fp;have q3:=Fo;have r0:=Mf;have r1:=Me;have r2:=Md
 have s1:=j.p;have s2:=j.c;have s3:=j.m;have s4:=j.s
 have t1:((n.first.length:Int) != n.places)=false:=by simpa using X
 have HW:Hid (∀w1,Below (wN n w adF adI adO adK adN adC capF capI capO capK capN capC).heap.size (wN n w adF adI adO adK adN adC capF capI capO capK capN capC) w1->w1.cell? ⟨w.heap.size,0,none⟩=some (.int .i64 n.places)/\w1.cell? ⟨w.heap.size,2,none⟩=some (.slice adI n.ins.length capI)):=lE n w adF adI adO adK adN adC capF capI capO capK capN capC
 have cI:Hid (∀w1,Below (wN n w adF adI adO adK adN adC capF capI capO capK capN capC).heap.size (wN n w adF adI adO adK adN adC capF capI capO capK capN capC) w1->Calls Tryz.prog 73 #[.slice adI n.ins.length capI,.func (.func 39) #[] #[.pointer (some ⟨bn,0,none⟩)]] w1 fun e w'=>e=.returned (.bool true)/\Below (wN n w adF adI adO adK adN adC capF capI capO capK capN capC).heap.size (wN n w adF adI adO adK adN adC capF capI capO capK capN capC) w'):=fun w1 hb=>by
  have:=dZ n bn w _ n.ins r (by omega) l _ w1 (aE w _) hb
  rw[O] at this
  exact this
 have cO:Hid (∀w1,Below (wN n w adF adI adO adK adN adC capF capI capO capK capN capC).heap.size (wN n w adF adI adO adK adN adC capF capI capO capK capN capC) w1->Calls Tryz.prog 73 #[.slice adO n.outs.length capO,.func (.func 39) #[] #[.pointer (some ⟨bn,0,none⟩)]] w1 fun e w'=>e=.returned (.bool true)/\Below (wN n w adF adI adO adK adN adC capF capI capO capK capN capC).heap.size (wN n w adF adI adO adK adN adC capF capI capO capK capN capC) w'):=fun w1 hb=>by
  have:=dZ n bn w _ n.outs Q (by omega) l _ w1 (aE w _) hb
  rw[U] at this
  exact this
 have Z:Hid (∀w1,Below (wN n w adF adI adO adK adN adC capF capI capO capK capN capC).heap.size (wN n w adF adI adO adK adN adC capF capI capO capK capN capC) w1->Calls Tryz.prog 73 #[.slice adK n.keeps.length capK,.func (.func 39) #[] #[.pointer (some ⟨bn,0,none⟩)]] w1 fun e w'=>e=.returned (.bool true)/\Below (wN n w adF adI adO adK adN adC capF capI capO capK capN capC).heap.size (wN n w adF adI adO adK adN adC capF capI capO capK capN capC) w'):=fun w1 hb=>by
  have:=dZ n bn w _ n.keeps J (by omega) l _ w1 (aE w _) hb
  rw[Y] at this
  exact this
 have cT:Hid (∀w1,Below (wN n w adF adI adO adK adN adC capF capI capO capK capN capC).heap.size (wN n w adF adI adO adK adN adC capF capI capO capK capN capC) w1->Calls Tryz.prog 74 #[.slice adI n.ins.length capI] w1 fun e w'=>e=.returned (.bool true)/\Below (wN n w adF adI adO adK adN adC capF capI capO capK capN capC).heap.size (wN n w adF adI adO adK adN adC capF capI capO capK capN capC) w'):=fun w1 hb=>by
  have u:=iF (aE w _) hb
  have:=C5 _ n.ins w1 (r.carry fun b ha hl=>⟨ha,u.block b hl⟩) (by omega)
  rw[I] at this
  exact this.mono fun e w' ⟨he,h⟩=>⟨he,iF hb h⟩
 clear X j l r Q J O U Y I
 go_enter Tryz.func40,Tryz.ntmps40
 go_wp2
 refine wp_loop_rounds 5 ?_
 rw[rounds_succ]
 go_wp2
 rw[rounds_succ]
 go_wp2
 rw[rounds_succ]
 go_wp2
 rw[rounds_succ]
 go_wp2
 rw[rounds_succ]
 go_wp2
 refine wp_loop_rounds 4 ?_
 rw[rounds_succ]
 go_wp2_with (go_at_call 73;refine (cI.out _ (Below.refl _ _)).mono ?_;rintro e w1 ⟨rfl,D⟩)
 rw[rounds_succ]
 go_wp2_with (go_at_call 73;refine (cO.out _ D).mono ?_;rintro e w2 ⟨rfl,h⟩)
 rw[rounds_succ]
 go_wp2_with (go_at_call 73;refine (Z.out _ h).mono ?_;rintro e w3 ⟨rfl,k⟩)
 have dd:=HW.out w3 k
 obtain ⟨d0,d2⟩:=dd
 rw[rounds_succ]
 go_wp2_with (go_at_call 74;refine (cT.out _ k).mono ?_;rintro e w4 ⟨rfl,y⟩)
 go_ret
 exact ⟨rfl,iF (aE w _) y⟩
theorem Dg (j:jB n) (h0:0≤n.places) (X:(n.first.length:Int)=n.places) (l:w.cell? ⟨bn,0,none⟩=some (.int .i64 n.places)) (r:bH A w (.slice adI n.ins.length capI) n.ins) (Q:bH A w (.slice adO n.outs.length capO) n.outs) (J:bH A w (.slice adK n.keeps.length capK) n.keeps) (O:n.ins.all (cR n.places)=true) (U:n.outs.all (cR n.places)=true) (Y:n.keeps.all (cR n.places)=true) (I:decide (¬n.ins.Nodup)=false) :
    Calls Tryz.prog 40 #[.agg #[.int .i64 n.places,.slice adF n.first.length capF,.slice adI n.ins.length capI,.slice adO n.outs.length capO,.slice adK n.keeps.length capK,.slice adN n.nums.length capN,.slice adC n.code.length capC],.func (.func 39) #[] #[.pointer (some ⟨bn,0,none⟩)]] w fun e w'=>e=.returned (.int .i64 (0:Int))/\Below w.heap.size w w':=by
 have q0:=Ba;have q1:=Fq;have q2:=Fp;have q3:=Fo;have r0:=Mf;have r1:=Me;have r2:=Md
 have s1:=j.p;have s2:=j.c;have s3:=j.m;have s4:=j.s
 have t1:((n.first.length:Int) != n.places)=false:=by simpa using X
 have HW:Hid (∀w1,Below (wN n w adF adI adO adK adN adC capF capI capO capK capN capC).heap.size (wN n w adF adI adO adK adN adC capF capI capO capK capN capC) w1->w1.cell? ⟨w.heap.size,0,none⟩=some (.int .i64 n.places)/\w1.cell? ⟨w.heap.size,2,none⟩=some (.slice adI n.ins.length capI)):=lE n w adF adI adO adK adN adC capF capI capO capK capN capC
 have cI:Hid (∀w1,Below (wN n w adF adI adO adK adN adC capF capI capO capK capN capC).heap.size (wN n w adF adI adO adK adN adC capF capI capO capK capN capC) w1->Calls Tryz.prog 73 #[.slice adI n.ins.length capI,.func (.func 39) #[] #[.pointer (some ⟨bn,0,none⟩)]] w1 fun e w'=>e=.returned (.bool true)/\Below (wN n w adF adI adO adK adN adC capF capI capO capK capN capC).heap.size (wN n w adF adI adO adK adN adC capF capI capO capK capN capC) w'):=fun w1 hb=>by
  have:=dZ n bn w _ n.ins r (by omega) l _ w1 (aE w _) hb
  rw[O] at this
  exact this
 have cO:Hid (∀w1,Below (wN n w adF adI adO adK adN adC capF capI capO capK capN capC).heap.size (wN n w adF adI adO adK adN adC capF capI capO capK capN capC) w1->Calls Tryz.prog 73 #[.slice adO n.outs.length capO,.func (.func 39) #[] #[.pointer (some ⟨bn,0,none⟩)]] w1 fun e w'=>e=.returned (.bool true)/\Below (wN n w adF adI adO adK adN adC capF capI capO capK capN capC).heap.size (wN n w adF adI adO adK adN adC capF capI capO capK capN capC) w'):=fun w1 hb=>by
  have:=dZ n bn w _ n.outs Q (by omega) l _ w1 (aE w _) hb
  rw[U] at this
  exact this
 have Z:Hid (∀w1,Below (wN n w adF adI adO adK adN adC capF capI capO capK capN capC).heap.size (wN n w adF adI adO adK adN adC capF capI capO capK capN capC) w1->Calls Tryz.prog 73 #[.slice adK n.keeps.length capK,.func (.func 39) #[] #[.pointer (some ⟨bn,0,none⟩)]] w1 fun e w'=>e=.returned (.bool true)/\Below (wN n w adF adI adO adK adN adC capF capI capO capK capN capC).heap.size (wN n w adF adI adO adK adN adC capF capI capO capK capN capC) w'):=fun w1 hb=>by
  have:=dZ n bn w _ n.keeps J (by omega) l _ w1 (aE w _) hb
  rw[Y] at this
  exact this
 have cT:Hid (∀w1,Below (wN n w adF adI adO adK adN adC capF capI capO capK capN capC).heap.size (wN n w adF adI adO adK adN adC capF capI capO capK capN capC) w1->Calls Tryz.prog 74 #[.slice adI n.ins.length capI] w1 fun e w'=>e=.returned (.bool false)/\Below (wN n w adF adI adO adK adN adC capF capI capO capK capN capC).heap.size (wN n w adF adI adO adK adN adC capF capI capO capK capN capC) w'):=fun w1 hb=>by
  have u:=iF (aE w _) hb
  have:=C5 _ n.ins w1 (r.carry fun b ha hl=>⟨ha,u.block b hl⟩) (by omega)
  rw[I] at this
  exact this.mono fun e w' ⟨he,h⟩=>⟨he,iF hb h⟩
 clear X j l r Q J O U Y I
 go_enter Tryz.func40,Tryz.ntmps40
 go_wp2
 refine wp_loop_rounds 5 ?_
 rw[rounds_succ]
 go_wp2
 rw[rounds_succ]
 go_wp2
 rw[rounds_succ]
 go_wp2
 rw[rounds_succ]
 go_wp2
 rw[rounds_succ]
 go_wp2
 refine wp_loop_rounds 4 ?_
 rw[rounds_succ]
 go_wp2_with (go_at_call 73;refine (cI.out _ (Below.refl _ _)).mono ?_;rintro e w1 ⟨rfl,D⟩)
 rw[rounds_succ]
 go_wp2_with (go_at_call 73;refine (cO.out _ D).mono ?_;rintro e w2 ⟨rfl,h⟩)
 rw[rounds_succ]
 go_wp2_with (go_at_call 73;refine (Z.out _ h).mono ?_;rintro e w3 ⟨rfl,k⟩)
 have dd:=HW.out w3 k
 obtain ⟨d0,d2⟩:=dd
 rw[rounds_succ]
 go_wp2_with (go_at_call 74;refine (cT.out _ k).mono ?_;rintro e w4 ⟨rfl,y⟩)
 go_ret
 exact ⟨rfl,iF (aE w _) y⟩
end
theorem Pd (s:Sp) (P:Int) (nums bn:Nat) (w:World) (j:w.cell? ⟨bn,0,none⟩=some (.int .i64 P)) :
    Calls Tryz.prog 41 #[.agg #[.int .i64 s.code,.int .i64 s.dst,.int .i64 s.a,.int .i64 s.b,.int .i64 s.c],.int .i64 nums,.func (.func 39) #[] #[.pointer (some ⟨bn,0,none⟩)]] w fun e w'=>e=.returned (.int .i64 (eA P nums s:Nat))/\Below w.heap.size w w':=by
 obtain ⟨code,dst,a,b,c⟩:=s
 simp only
 by_cases h:code<1\/17<code\/code=3
 ·have e:eA P nums ⟨code,dst,a,b,c⟩=3:=by unfold eA;rw[if_pos h]
  rw[e];exact Kb code dst a b c nums bn w h
 have O:1≤code:=by omega
 have D:code≤17:=by omega
 have I:code≠3:=by omega
 cases hd:cR P dst with
 | false=>
  have e:eA P nums ⟨code,dst,a,b,c⟩=2:=by unfold eA;rw[if_neg h,if_pos (by simp[hd])]
  rw[e];exact Pb code dst a b c P nums bn w j O D I hd
 | true=>
 cases ha:(asks ⟨code,dst,a,b,c⟩).all (cR P) with
 | false=>
  have e:eA P nums ⟨code,dst,a,b,c⟩=2:=by unfold eA;rw[if_neg h,if_pos (by simp only[ha];simp)]
  rw[e];exact Kc code dst a b c P nums bn w j O D I hd ha
 | true=>
 have Q:eA P nums ⟨code,dst,a,b,c⟩=if code=1/\¬(0≤a/\a<nums) then 2 else if ([a,b,c].drop (if code=1 then 1 else (asks ⟨code,dst,a,b,c⟩).length)).any (· != 0) then 1 else 0:=by
  unfold eA
  rw[if_neg h,if_neg (by simp only[hd,ha];simp)]
 rw[Q]
 by_cases c1:code=1
 ·subst c1
  by_cases hr:0≤a/\a<nums
  ·rw[if_neg (by simp;omega)]
   obtain ⟨l,u⟩:=hr
   by_cases kb:b=0
   ·by_cases kc:c=0
    ·have:=aC3 dst a b c P nums bn w j hd ha l u kb kc
     subst kb kc;exact this
    ·have:=aC4 dst a b c P nums bn w j hd ha l u kb kc
     have e:([a,b,c].drop (if (1:Int)=1 then 1 else (asks ⟨1,dst,a,b,c⟩).length)).any (· != 0)=true:=by simp[kc]
     rw[if_pos e];exact this
   ·have:=aJ9 dst a b c P nums bn w j hd ha l u kb
    have e:([a,b,c].drop (if (1:Int)=1 then 1 else (asks ⟨1,dst,a,b,c⟩).length)).any (· != 0)=true:=by simp[kb]
    rw[if_pos e];exact this
  ·rw[if_pos ⟨rfl,hr⟩]
   by_cases l:a<0
   ·exact aC6 dst a b c P nums bn w j hd l
   ·exact aC7 dst a b c P nums bn w j hd (by omega) (by omega)
 rw[if_neg (fun x=>c1 x.1)]
 have one:∀k:Int,code=k->(k=2\/k=4\/k=5)->((([a,b,c].drop (if code=1 then 1 else (asks ⟨code,dst,a,b,c⟩).length)).any (· != 0))=(b != 0||c != 0)):=by
  intro k e h
  have y:(asks ⟨code,dst,a,b,c⟩).length=1:=by unfold asks;rw[if_pos (by simp;omega)];rfl
  rw[y,if_neg c1];simp
 by_cases c2:code=2
 ·rw[one 2 c2 (by omega)]
  subst c2
  by_cases kb:b=0
  ·by_cases kc:c=0
   ·have:=Xf dst a b c P nums bn w j hd ha kb kc
    subst kb kc;exact this
   ·rw[if_pos (by simp[kc])];exact Xg dst a b c P nums bn w j hd ha kb kc
  ·rw[if_pos (by simp[kb])];exact aC2 dst a b c P nums bn w j hd ha kb
 by_cases c4:code=4
 ·rw[one 4 c4 (by omega)]
  subst c4
  by_cases kb:b=0
  ·by_cases kc:c=0
   ·have:=Xd dst a b c P nums bn w j hd ha kb kc
    subst kb kc;exact this
   ·rw[if_pos (by simp[kc])];exact Xe dst a b c P nums bn w j hd ha kb kc
  ·rw[if_pos (by simp[kb])];exact aC1 dst a b c P nums bn w j hd ha kb
 by_cases c5:code=5
 ·rw[one 5 c5 (by omega)]
  subst c5
  by_cases kb:b=0
  ·by_cases kc:c=0
   ·have:=Xb dst a b c P nums bn w j hd ha kb kc
    subst kb kc;exact this
   ·rw[if_pos (by simp[kc])];exact Xc dst a b c P nums bn w j hd ha kb kc
  ·rw[if_pos (by simp[kb])];exact aC0 dst a b c P nums bn w j hd ha kb
 by_cases c17:code=17
 ·subst c17
  exact aJ0 dst a b c P nums bn w j hd ha
 have J:6≤code:=by omega
 have r:code≤16:=by omega
 have y:(asks ⟨code,dst,a,b,c⟩).length=2:=by unfold asks;rw[if_neg (by simp;omega),if_pos (by simp;omega)];rfl
 rw[y,if_neg c1]
 by_cases kc:c=0
 ·have:=aI3 code dst a b c P nums bn w j hd ha J r kc
  subst kc;exact this
 ·rw[if_pos (by simp[kc])];exact aI5 code dst a b c P nums bn w j hd ha J r kc
structure eJ (B:Nat) (w:World) (n:Nt) (vF vI vO vK vN vC:Value):Prop where
 f:bH (· < B) w vF n.first
 i:bH (· < B) w vI n.ins
 o:bH (· < B) w vO n.outs
 k:bH (· < B) w vK n.keeps
 m:bH (· < B) w vN n.nums
 c:jA (· < B) w vC n.code
theorem eJ.carry {B B':Nat}{w w':World}{n:Nt}{vF vI vO vK vN vC:Value}(h:eJ B w n vF vI vO vK vN vC) (k:bB (· < B) (· < B') w w'):eJ B' w' n vF vI vO vK vN vC:=
 ⟨h.f.carry k,h.i.carry k,h.o.carry k,h.k.carry k,h.m.carry k,h.c.carry k⟩
theorem eJ.below {B B':Nat}{w w':World}{n:Nt}{vF vI vO vK vN vC:Value}(h:eJ B w n vF vI vO vK vN vC) (hb:Below B w w') (hB:B≤B'):eJ B' w' n vF vI vO vK vN vC:=
 h.carry fun b hl _=>⟨aO2 hl hB,hb.block b hl⟩
theorem qJ (B:Nat) (n:Nt) (bn:Nat) (w:World) (J Q X Y O U:Value) (h:eJ B w n J Q X Y O U) (j:jB n) (u:w.cell? ⟨bn,0,none⟩=some (.int .i64 n.places)) :
    Calls Tryz.prog 40 #[.agg #[.int .i64 n.places,J,Q,X,Y,O,U],.func (.func 39) #[] #[.pointer (some ⟨bn,0,none⟩)]] w fun e w'=>e=.returned (.int .i64 (dD n:Nat))/\Below w.heap.size w w':=by
 have r:=h.i;have y:=h.o;have I:=h.k
 obtain ⟨adF,_,_,capF,rfl,-,-⟩:=h.f
 obtain ⟨adI,_,_,capI,rfl,-,-⟩:=h.i
 obtain ⟨adO,_,_,capO,rfl,-,-⟩:=h.o
 obtain ⟨adK,_,_,capK,rfl,-,-⟩:=h.k
 obtain ⟨adN,_,_,capN,rfl,-,-⟩:=h.m
 obtain ⟨adC,_,_,capC,rfl,-,-⟩:=h.c
 have s1:=j.p;have s2:=j.c;have s3:=j.m;have s4:=j.s
 by_cases h0:n.places<0
 ·have e:dD n=4:=by unfold dD;rw[if_pos (.inl h0)]
  rw[e];exact Jh n bn w adF adI adO adK adN adC capF capI capO capK capN capC h0
 have l:¬(n.places<0\/4000<n.places\/4000<n.code.length\/4000<n.nums.length\/4000<n.ins.length+n.outs.length+n.keeps.length):=by omega
 by_cases hf:(n.first.length:Int)≠n.places
 ·have e:dD n=3:=by unfold dD;rw[if_neg l,if_pos hf]
  rw[e];exact Df n bn w adF adI adO adK adN adC capF capI capO capK capN capC j (by omega) hf
 have D:=hf
 replace hf:(n.first.length:Int)=n.places:=Classical.byContradiction hf
 cases aI:n.ins.all (cR n.places) with
 | false=>
  have e:dD n=2:=by unfold dD;rw[if_neg l,if_neg D,if_pos (by simp only[aI];simp)]
  rw[e];exact Ji n bn w adF adI adO adK adN adC capF capI capO capK capN capC j (by omega) hf u r aI
 | true=>
 cases aO:n.outs.all (cR n.places) with
 | false=>
  have e:dD n=2:=by unfold dD;rw[if_neg l,if_neg D,if_pos (by simp only[aO];simp)]
  rw[e];exact De n bn w adF adI adO adK adN adC capF capI capO capK capN capC j (by omega) hf u r y aI aO
 | true=>
 cases aK:n.keeps.all (cR n.places) with
 | false=>
  have e:dD n=2:=by unfold dD;rw[if_neg l,if_neg D,if_pos (by simp only[aK];simp)]
  rw[e];exact Y6 n bn w adF adI adO adK adN adC capF capI capO capK capN capC j (by omega) hf u r y I aI aO aK
 | true=>
 have Z:dD n=if ¬n.ins.Nodup then 9 else 0:=by unfold dD;rw[if_neg l,if_neg D,if_neg (by simp only[aI,aO,aK];simp)]
 rw[Z]
 by_cases hd:n.ins.Nodup
 ·rw[if_neg (fun x=>x hd)]
  exact Dg n bn w adF adI adO adK adN adC capF capI capO capK capN capC j (by omega) hf u r y I aI aO aK (by simpa using hd)
 ·rw[if_pos hd]
  exact Jj n bn w adF adI adO adK adN adC capF capI capO capK capN capC j (by omega) hf u r y I aI aO aK (by simpa using hd)
end Nx
end
section
open Go Go.RowKit Go.ChangeShapes Go.WideShapes
namespace Nx
def Vg (z:Int):Prop:=-9223372036854775808≤z/\z≤9223372036854775807
theorem Gf {z:Int}(h:(Lit.int .i64 z).wf=true):Vg z:=by
 rw[show (Lit.int .i64 z).wf=(decide (-9223372036854775808≤z)&&decide (z≤9223372036854775807)) from rfl] at h
 simpa [Vg] using h
theorem qC (b off k:Nat):(⟨b,off,none⟩:Addr).add k=⟨b,off+k,none⟩:=by unfold Addr.add;split<;>simp_all
section
variable {H:Type}{enc:TypeId×Value->H}{W:World}{sp:Nat->Bool}{held:Bool}
theorem iT {t e:TypeId}(Q:Tryz.prog.underlying t=some (.slice e)) (U:Tryz.prog.underlying e=some (.int .i64)) (X:Tryz.prog.cellsOf e=1) {fuel:Nat}{v:Value}{x:DataW H×List MemPlace}
    (h:DataW.trod enc Tryz.prog W 0 sp held fuel t [v]=some x):∃zs,bH (· < W.heap.size) W v zs/\(∀z∈zs,Vg z):=by
 rcases open_ints Q U X h with ⟨u,_⟩|⟨a,len,cap,zs,u,_,Z,hm,I,_,c,J⟩
 ·obtain rfl:v=.slice none 0 0:=by simpa using u
  exact ⟨[],⟨none,0,0,0,rfl,fun h=>by simp at h,fun k O=>by simp at O⟩,fun z I=>by cases I⟩
 ·obtain rfl:v=.slice (some a) len cap:=by simpa using u
  have Y:len≤zs.length:=by rw[I];split<;>omega
  have hlen:(zs.take len).length=len:=by simp;omega
  refine ⟨zs.take len,?_,fun z I=>Gf (J z (List.mem_of_mem_take I))⟩
  by_cases h0:len=0
  ·subst h0
   exact ⟨some a,0,0,cap,by rw[hlen],fun h=>by omega,fun k O=>by omega⟩
  ·obtain ⟨b,l,y⟩:=a
   have s:=c 0 (by omega)
   have r:y=none:=by simpa [Addr.add] using World.cell?_spot s
   subst r
   have D:∀j,(⟨b,l,none⟩:Addr).add j=⟨b,l+j,none⟩:=fun j=>by simp[Addr.add]
   refine ⟨some ⟨b,l,none⟩,b,l,cap,by rw[hlen],fun _=>⟨rfl,?_⟩,fun k O=>?_⟩
   ·rw[D] at s;exact cC s
   ·have:=c k (by omega)
    rw[D] at this
    rw[this]
    simp[List.getD_eq_getElem?_getD,show k<len by omega]
theorem J3 {fuel:Nat}{cs:List Value}{x:DataW H×List MemPlace}(h:DataW.trod enc Tryz.prog W 0 sp held fuel 38 cs=some x) :
    ∃s:Sp,cs=[.int .i64 s.code,.int .i64 s.dst,.int .i64 s.a,.int .i64 s.b,.int .i64 s.c]:=by
 obtain ⟨e,n,_,_,Z,hlen,j⟩:=DataW.trod_struct Tryz.underlying38 h
 have X:cs.length=5:=Z.trans (by kernel_rfl)
 match cs,X with
 | [c0,c1,c2,c3,c4],_=>
  have hx:∀i,i<5->∃y,e[i]?=some y:=fun i hi=>⟨_,aN3 (by rw[hlen];exact hi)⟩
  have Q:Tryz.prog.cellsOf 3=1:=by kernel_rfl
  obtain ⟨y0,U⟩:=hx 0 (by omega)
  obtain ⟨y1,e1⟩:=hx 1 (by omega)
  obtain ⟨y2,Y⟩:=hx 2 (by omega)
  obtain ⟨y3,e3⟩:=hx 3 (by omega)
  obtain ⟨y4,e4⟩:=hx 4 (by omega)
  have k:=j 0 _ rfl
  have f1:=j 1 _ rfl
  have f2:=j 2 _ rfl
  have J:=j 3 _ rfl
  have I:=j 4 _ rfl
  rw[U] at k
  rw[e1] at f1
  rw[Y] at f2
  rw[e3] at J
  rw[e4] at I
  obtain ⟨z0,r,_⟩:=DataW.trod_int Tryz.underlying3 k
  obtain ⟨z1,D,_⟩:=DataW.trod_int Tryz.underlying3 f1
  obtain ⟨z2,l,_⟩:=DataW.trod_int Tryz.underlying3 f2
  obtain ⟨z3,O,_⟩:=DataW.trod_int Tryz.underlying3 J
  obtain ⟨z4,u,_⟩:=DataW.trod_int Tryz.underlying3 I
  simp[Q] at r D l O u
  exact ⟨⟨z0,z1,z2,z3,z4⟩,by rw[r,D,l,O,u]⟩
theorem Bv {α:Type}(d:α) (n:Nat) (P:Nat->α->Prop) (h:∀i,i<n->∃x,P i x):∃l:List α,l.length=n/\∀i,i<n->P i (l.getD i d):=by
 induction n with
 | zero=>exact ⟨[],rfl,fun i j=>by omega⟩
 | succ n ih=>
  obtain ⟨l,c,k⟩:=ih fun i j=>h i (by omega)
  obtain ⟨x,hx⟩:=h n (by omega)
  refine ⟨l++[x],by simp[c],fun i j=>?_⟩
  by_cases e:i=n
  ·subst e
   rw[iO,aW6 (by omega)]
   simpa [c] using hx
  ·rw[iO,aR4 (by omega),<-iO]
   exact k i (by omega)
theorem zW {fuel:Nat}{v:Value}{x:DataW H×List MemPlace}(h:DataW.trod enc Tryz.prog W 0 sp held fuel 24 [v]=some x):∃l,jA (· < W.heap.size) W v l:=by
 rcases DataW.trod_slice Tryz.underlying24 h with ⟨r,_⟩|⟨a,len,cap,elems,rest,n,_,r,_,_,_,_,hlen,U,_⟩
 ·obtain rfl:v=.slice none 0 0:=by simpa using r
  exact ⟨[],none,0,0,0,rfl,fun h=>by simp at h,fun k Q=>by simp at Q⟩
 ·obtain rfl:v=.slice (some a) len cap:=by simpa using r
  have e:Tryz.prog.cellsOf 38=5:=by kernel_rfl
  have each:∀i,i<len->∃s:Sp,∀j,j<5->W.cell? ((a.add (i*5)).add j)=[Value.int .i64 s.code,.int .i64 s.dst,.int .i64 s.a,.int .i64 s.b,.int .i64 s.c][j]?:=fun i hi=>by
   have Z:=U i hi
   rw[e,aN3 (by omega)] at Z
   obtain ⟨cs,r,J⟩:=Option.bind_eq_some_iff.1 Z
   obtain ⟨s,rfl⟩:=J3 J
   exact ⟨s,(World.cells?_some r).2.2⟩
  obtain ⟨l,Y,X⟩:=Bv eD len _ each
  by_cases h0:len=0
  ·subst h0
   exact ⟨l,some a,0,0,cap,by rw[Y],fun h=>by omega,fun k Q=>by omega⟩
  ·obtain ⟨b,u,I⟩:=a
   have y:=X 0 (by omega) 0 (by omega)
   have D:I=none:=by simpa [Addr.add] using World.cell?_spot y
   subst D
   have O:∀i j,((⟨b,u,none⟩:Addr).add (i*5)).add j=⟨b,u+i*5+j,none⟩:=fun i j=>by rw[qC,qC]
   refine ⟨l,some ⟨b,u,none⟩,b,u,cap,by rw[Y],fun _=>⟨rfl,?_⟩,fun k Q=>?_⟩
   ·rw[O] at y;exact cC y
   ·have q:=fun j hj=>X k (by omega) j hj
    simp only[O] at q
    exact ⟨q 0 (by omega),q 1 (by omega),q 2 (by omega),q 3 (by omega),q 4 (by omega)⟩
theorem Ao {v:Value}{d:DataW H}{p:List MemPlace}{r:Reach}{b0:Nat}(hv:Value.okWide Tryz.prog W r b0 26 v) (h:DataW.Trod enc Tryz.prog W 0 sp held 26 v d p) :
    ∃(n:Nt) (J U O Y Q X:Value),v=.agg #[.int .i64 n.places,J,U,O,Y,Q,X]/\eJ W.heap.size W n J U O Y Q X/\(∀z∈n.first,Vg z)/\(∀z∈n.nums,Vg z):=by
 obtain ⟨cs,rfl,hsz⟩:=okWide_struct Tryz.underlying26 hv
 have h7:cs.size=7:=hsz.trans (by kernel_rfl)
 obtain ⟨fuel,c⟩:=h
 obtain ⟨xs,n,_,_,hl,hlen,c⟩:=DataW.trod_struct Tryz.underlying26 c
 obtain ⟨cs⟩:=cs
 have l:=h7
 match cs,l with
 | [c0,c1,c2,c3,c4,c5,c6],_=>
  have hx:∀i,i<7->∃y,xs[i]?=some y:=fun i hi=>⟨_,aN3 (by rw[hlen];exact hi)⟩
  have j:Tryz.prog.cellsOf 3=1:=by kernel_rfl
  have e:Tryz.prog.cellsOf 22=1:=by kernel_rfl
  have k2:Tryz.prog.cellsOf 23=1:=by kernel_rfl
  have k3:Tryz.prog.cellsOf 24=1:=by kernel_rfl
  have Z:Tryz.prog.cellsOf 2=1:=by kernel_rfl
  obtain ⟨y0,e0⟩:=hx 0 (by omega)
  obtain ⟨y1,e1⟩:=hx 1 (by omega)
  obtain ⟨y2,e2⟩:=hx 2 (by omega)
  obtain ⟨y3,e3⟩:=hx 3 (by omega)
  obtain ⟨y4,e4⟩:=hx 4 (by omega)
  obtain ⟨y5,e5⟩:=hx 5 (by omega)
  obtain ⟨y6,e6⟩:=hx 6 (by omega)
  have k:=c 0 _ rfl
  have f1:=c 1 _ rfl
  have f2:=c 2 _ rfl
  have I:=c 3 _ rfl
  have D:=c 4 _ rfl
  have s:=c 5 _ rfl
  have u:=c 6 _ rfl
  rw[e0] at k
  rw[e1] at f1
  rw[e2] at f2
  rw[e3] at I
  rw[e4] at D
  rw[e5] at s
  rw[e6] at u
  simp[Value.cells,j,e,k2,k3] at k f1 f2 I D s u
  obtain ⟨P,g0,_⟩:=DataW.trod_int Tryz.underlying3 k
  obtain rfl:c0=.int .i64 P:=by simpa using g0
  obtain ⟨l1,i1,w1⟩:=iT Tryz.underlying22 Tryz.underlying2 Z f1
  obtain ⟨l2,i2,_⟩:=iT Tryz.underlying23 Tryz.underlying3 j f2
  obtain ⟨l3,i3,_⟩:=iT Tryz.underlying23 Tryz.underlying3 j I
  obtain ⟨l4,i4,_⟩:=iT Tryz.underlying23 Tryz.underlying3 j D
  obtain ⟨l5,i5,w5⟩:=iT Tryz.underlying22 Tryz.underlying2 Z s
  obtain ⟨l6,i6⟩:=zW u
  exact ⟨⟨P,l1,l2,l3,l4,l5,l6⟩,c1,c2,c3,c4,c5,c6,rfl,⟨i1,i2,i3,i4,i5,i6⟩,w1,w5⟩
end
end Nx
end
end Go.Proofs.YthieaobjdpfcoaaGreatDoor
