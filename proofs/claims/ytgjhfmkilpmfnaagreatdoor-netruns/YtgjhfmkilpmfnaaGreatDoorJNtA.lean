/- What net's whole answers: what is wrong with all of code but its steps. -/
import Derived.Test.YtgjhfmkilpmfnaaGreatDoorJNt8b
namespace Go.Proofs.YtgjhfmkilpmfnaaGreatDoor
open Go.RowKit
namespace Nx

/-- code that is not too much -/
structure Small (n : Nt) : Prop where
  p : n.places ≤ 4000
  c : n.code.length ≤ 4000
  m : n.nums.length ≤ 4000
  s : n.ins.length + n.outs.length + n.keeps.length ≤ 4000

theorem ixA0 (x0 x1 x2 x3 : Int) (w : World) : (Instr.index 80 (.agg #[.int .i64 x0, .int .i64 x1, .int .i64 x2, .int .i64 x3]) (.int .i64 0)).run Tryz.prog w = .ok (.int .i64 x0) w := by kernel_rfl
theorem ixA1 (x0 x1 x2 x3 : Int) (w : World) : (Instr.index 80 (.agg #[.int .i64 x0, .int .i64 x1, .int .i64 x2, .int .i64 x3]) (.int .i64 1)).run Tryz.prog w = .ok (.int .i64 x1) w := by kernel_rfl
theorem ixA2 (x0 x1 x2 x3 : Int) (w : World) : (Instr.index 80 (.agg #[.int .i64 x0, .int .i64 x1, .int .i64 x2, .int .i64 x3]) (.int .i64 2)).run Tryz.prog w = .ok (.int .i64 x2) w := by kernel_rfl
theorem ixA3 (x0 x1 x2 x3 : Int) (w : World) : (Instr.index 80 (.agg #[.int .i64 x0, .int .i64 x1, .int .i64 x2, .int .i64 x3]) (.int .i64 3)).run Tryz.prog w = .ok (.int .i64 x3) w := by kernel_rfl
theorem ixB0 (x0 x1 x2 : Value) (w : World) : (Instr.index 48 (.agg #[x0, x1, x2]) (.int .i64 0)).run Tryz.prog w = .ok x0 w := by kernel_rfl
theorem ixB1 (x0 x1 x2 : Value) (w : World) : (Instr.index 48 (.agg #[x0, x1, x2]) (.int .i64 1)).run Tryz.prog w = .ok x1 w := by kernel_rfl
theorem ixB2 (x0 x1 x2 : Value) (w : World) : (Instr.index 48 (.agg #[x0, x1, x2]) (.int .i64 2)).run Tryz.prog w = .ok x2 w := by kernel_rfl

section
variable {A : Nat → Prop} (n : Nt) (bn : Nat) (w : World) (adF adI adO adK adN adC : Option Addr) (capF capI capO capK capN capC : Nat)

/-- what whole asks of lists -/
theorem whole_calls (v : Value) (zs : List Int) (hv : Ints A w v zs) (hl : zs.length ≤ 4000) (hc : w.cell? ⟨bn, 0, none⟩ = some (.int .i64 n.places)) (w0 w1 : World) (h0 : Below w.heap.size w w0) (hb : Below w0.heap.size w0 w1) :
    Calls Tryz.prog 37 #[v, .func (.func 28) #[] #[.pointer (some ⟨bn, 0, none⟩)]] w1 fun e w' => e = .returned (.bool (zs.all (isPl n.places))) ∧ Below w0.heap.size w0 w' := by
  have hb' := ball h0 hb
  exact (all_any v zs n.places bn w1 (hv.carry fun b ha hl => ⟨ha, hb'.block b hl⟩) (by omega) (cell_below hb' hc)).mono fun e w' ⟨he, hb2⟩ => ⟨he, ball hb hb2⟩

/-- the boxed code's cells, in a world behind -/
theorem whole_cells (w1 : World) (hb : Below (w.alloc (.cells #[.int .i64 n.places, .slice adF n.first.length capF, .slice adI n.ins.length capI, .slice adO n.outs.length capO, .slice adK n.keeps.length capK, .slice adN n.nums.length capN, .slice adC n.code.length capC] 26)).heap.size (w.alloc (.cells #[.int .i64 n.places, .slice adF n.first.length capF, .slice adI n.ins.length capI, .slice adO n.outs.length capO, .slice adK n.keeps.length capK, .slice adN n.nums.length capN, .slice adC n.code.length capC] 26)) w1) : w1.cell? ⟨w.heap.size, 0, none⟩ = some (.int .i64 n.places) ∧ w1.cell? ⟨w.heap.size, 2, none⟩ = some (.slice adI n.ins.length capI) :=
  ⟨cell_below hb (by simp), cell_below hb (by simp)⟩

set_option maxHeartbeats 400000 in
theorem whole_low (h : n.places < 0) :
    Calls Tryz.prog 29 #[.agg #[.int .i64 n.places, .slice adF n.first.length capF, .slice adI n.ins.length capI, .slice adO n.outs.length capO, .slice adK n.keeps.length capK, .slice adN n.nums.length capN, .slice adC n.code.length capC], .func (.func 28) #[] #[.pointer (some ⟨bn, 0, none⟩)]] w fun e w' => e = .returned (.int .i64 (4 : Int)) ∧ Below w.heap.size w w' := by
  go_enter Tryz.func29, Tryz.ntmps29
  go_wp2
  go_ret
  exact ⟨rfl, grown_one w _⟩

set_option maxRecDepth 100000 in
set_option maxHeartbeats 2000000 in
theorem whole_form (hs : Small n) (h0 : 0 ≤ n.places) (hf : (n.first.length : Int) ≠ n.places) :
    Calls Tryz.prog 29 #[.agg #[.int .i64 n.places, .slice adF n.first.length capF, .slice adI n.ins.length capI, .slice adO n.outs.length capO, .slice adK n.keeps.length capK, .slice adN n.nums.length capN, .slice adC n.code.length capC], .func (.func 28) #[] #[.pointer (some ⟨bn, 0, none⟩)]] w fun e w' => e = .returned (.int .i64 (3 : Int)) ∧ Below w.heap.size w w' := by
  have q0 := ixA0; have q1 := ixA1; have q2 := ixA2; have q3 := ixA3; have r0 := ixB0; have r1 := ixB1; have r2 := ixB2
  have s1 := hs.p; have s2 := hs.c; have s3 := hs.m; have s4 := hs.s
  have t1 : ((n.first.length : Int) != n.places) = true := by simpa using hf
  clear hf hs
  go_enter Tryz.func29, Tryz.ntmps29
  go_wp2
  refine wp_loop_rounds 5 ?_
  rw [rounds_succ]
  go_wp2
  rw [rounds_succ]
  go_wp2
  rw [rounds_succ]
  go_wp2
  rw [rounds_succ]
  go_wp2
  rw [rounds_succ]
  go_wp2
  go_ret
  exact ⟨rfl, grown_one w _⟩

set_option maxRecDepth 100000 in
set_option maxHeartbeats 2000000 in
theorem whole_ins (hs : Small n) (h0 : 0 ≤ n.places) (hf : (n.first.length : Int) = n.places) (hc : w.cell? ⟨bn, 0, none⟩ = some (.int .i64 n.places)) (hI : Ints A w (.slice adI n.ins.length capI) n.ins) (aI : n.ins.all (isPl n.places) = false) :
    Calls Tryz.prog 29 #[.agg #[.int .i64 n.places, .slice adF n.first.length capF, .slice adI n.ins.length capI, .slice adO n.outs.length capO, .slice adK n.keeps.length capK, .slice adN n.nums.length capN, .slice adC n.code.length capC], .func (.func 28) #[] #[.pointer (some ⟨bn, 0, none⟩)]] w fun e w' => e = .returned (.int .i64 (2 : Int)) ∧ Below w.heap.size w w' := by
  have q0 := ixA0; have q1 := ixA1; have q2 := ixA2; have q3 := ixA3; have r0 := ixB0; have r1 := ixB1; have r2 := ixB2
  have s1 := hs.p; have s2 := hs.c; have s3 := hs.m; have s4 := hs.s
  have t1 : ((n.first.length : Int) != n.places) = false := by simpa using hf
  have HW : Hid (∀ w1, Below (w.alloc (.cells #[.int .i64 n.places, .slice adF n.first.length capF, .slice adI n.ins.length capI, .slice adO n.outs.length capO, .slice adK n.keeps.length capK, .slice adN n.nums.length capN, .slice adC n.code.length capC] 26)).heap.size (w.alloc (.cells #[.int .i64 n.places, .slice adF n.first.length capF, .slice adI n.ins.length capI, .slice adO n.outs.length capO, .slice adK n.keeps.length capK, .slice adN n.nums.length capN, .slice adC n.code.length capC] 26)) w1 → w1.cell? ⟨w.heap.size, 0, none⟩ = some (.int .i64 n.places) ∧ w1.cell? ⟨w.heap.size, 2, none⟩ = some (.slice adI n.ins.length capI)) := whole_cells n w adF adI adO adK adN adC capF capI capO capK capN capC
  have cI : Hid (∀ w1, Below (w.alloc (.cells #[.int .i64 n.places, .slice adF n.first.length capF, .slice adI n.ins.length capI, .slice adO n.outs.length capO, .slice adK n.keeps.length capK, .slice adN n.nums.length capN, .slice adC n.code.length capC] 26)).heap.size (w.alloc (.cells #[.int .i64 n.places, .slice adF n.first.length capF, .slice adI n.ins.length capI, .slice adO n.outs.length capO, .slice adK n.keeps.length capK, .slice adN n.nums.length capN, .slice adC n.code.length capC] 26)) w1 → Calls Tryz.prog 37 #[.slice adI n.ins.length capI, .func (.func 28) #[] #[.pointer (some ⟨bn, 0, none⟩)]] w1 fun e w' => e = .returned (.bool false) ∧ Below (w.alloc (.cells #[.int .i64 n.places, .slice adF n.first.length capF, .slice adI n.ins.length capI, .slice adO n.outs.length capO, .slice adK n.keeps.length capK, .slice adN n.nums.length capN, .slice adC n.code.length capC] 26)).heap.size (w.alloc (.cells #[.int .i64 n.places, .slice adF n.first.length capF, .slice adI n.ins.length capI, .slice adO n.outs.length capO, .slice adK n.keeps.length capK, .slice adN n.nums.length capN, .slice adC n.code.length capC] 26)) w') := fun w1 hb => by
    have := whole_calls n bn w _ n.ins hI (by omega) hc _ w1 (grown_one w _) hb
    rw [aI] at this
    exact this
  clear hf hs hc hI aI
  go_enter Tryz.func29, Tryz.ntmps29
  go_wp2
  refine wp_loop_rounds 5 ?_
  rw [rounds_succ]
  go_wp2
  rw [rounds_succ]
  go_wp2
  rw [rounds_succ]
  go_wp2
  rw [rounds_succ]
  go_wp2
  rw [rounds_succ]
  go_wp2
  refine wp_loop_rounds 1 ?_
  rw [rounds_succ]
  go_wp2_with (go_at_call 37; refine (cI.out _ (Below.refl _ _)).mono ?_; rintro e w1 ⟨rfl, hb1⟩)
  go_ret
  exact ⟨rfl, ball (grown_one w _) hb1⟩

set_option maxRecDepth 100000 in
set_option maxHeartbeats 2000000 in
theorem whole_outs (hs : Small n) (h0 : 0 ≤ n.places) (hf : (n.first.length : Int) = n.places) (hc : w.cell? ⟨bn, 0, none⟩ = some (.int .i64 n.places)) (hI : Ints A w (.slice adI n.ins.length capI) n.ins) (hO : Ints A w (.slice adO n.outs.length capO) n.outs) (aI : n.ins.all (isPl n.places) = true) (aO : n.outs.all (isPl n.places) = false) :
    Calls Tryz.prog 29 #[.agg #[.int .i64 n.places, .slice adF n.first.length capF, .slice adI n.ins.length capI, .slice adO n.outs.length capO, .slice adK n.keeps.length capK, .slice adN n.nums.length capN, .slice adC n.code.length capC], .func (.func 28) #[] #[.pointer (some ⟨bn, 0, none⟩)]] w fun e w' => e = .returned (.int .i64 (2 : Int)) ∧ Below w.heap.size w w' := by
  have q0 := ixA0; have q1 := ixA1; have q2 := ixA2; have q3 := ixA3; have r0 := ixB0; have r1 := ixB1; have r2 := ixB2
  have s1 := hs.p; have s2 := hs.c; have s3 := hs.m; have s4 := hs.s
  have t1 : ((n.first.length : Int) != n.places) = false := by simpa using hf
  have HW : Hid (∀ w1, Below (w.alloc (.cells #[.int .i64 n.places, .slice adF n.first.length capF, .slice adI n.ins.length capI, .slice adO n.outs.length capO, .slice adK n.keeps.length capK, .slice adN n.nums.length capN, .slice adC n.code.length capC] 26)).heap.size (w.alloc (.cells #[.int .i64 n.places, .slice adF n.first.length capF, .slice adI n.ins.length capI, .slice adO n.outs.length capO, .slice adK n.keeps.length capK, .slice adN n.nums.length capN, .slice adC n.code.length capC] 26)) w1 → w1.cell? ⟨w.heap.size, 0, none⟩ = some (.int .i64 n.places) ∧ w1.cell? ⟨w.heap.size, 2, none⟩ = some (.slice adI n.ins.length capI)) := whole_cells n w adF adI adO adK adN adC capF capI capO capK capN capC
  have cI : Hid (∀ w1, Below (w.alloc (.cells #[.int .i64 n.places, .slice adF n.first.length capF, .slice adI n.ins.length capI, .slice adO n.outs.length capO, .slice adK n.keeps.length capK, .slice adN n.nums.length capN, .slice adC n.code.length capC] 26)).heap.size (w.alloc (.cells #[.int .i64 n.places, .slice adF n.first.length capF, .slice adI n.ins.length capI, .slice adO n.outs.length capO, .slice adK n.keeps.length capK, .slice adN n.nums.length capN, .slice adC n.code.length capC] 26)) w1 → Calls Tryz.prog 37 #[.slice adI n.ins.length capI, .func (.func 28) #[] #[.pointer (some ⟨bn, 0, none⟩)]] w1 fun e w' => e = .returned (.bool true) ∧ Below (w.alloc (.cells #[.int .i64 n.places, .slice adF n.first.length capF, .slice adI n.ins.length capI, .slice adO n.outs.length capO, .slice adK n.keeps.length capK, .slice adN n.nums.length capN, .slice adC n.code.length capC] 26)).heap.size (w.alloc (.cells #[.int .i64 n.places, .slice adF n.first.length capF, .slice adI n.ins.length capI, .slice adO n.outs.length capO, .slice adK n.keeps.length capK, .slice adN n.nums.length capN, .slice adC n.code.length capC] 26)) w') := fun w1 hb => by
    have := whole_calls n bn w _ n.ins hI (by omega) hc _ w1 (grown_one w _) hb
    rw [aI] at this
    exact this
  have cO : Hid (∀ w1, Below (w.alloc (.cells #[.int .i64 n.places, .slice adF n.first.length capF, .slice adI n.ins.length capI, .slice adO n.outs.length capO, .slice adK n.keeps.length capK, .slice adN n.nums.length capN, .slice adC n.code.length capC] 26)).heap.size (w.alloc (.cells #[.int .i64 n.places, .slice adF n.first.length capF, .slice adI n.ins.length capI, .slice adO n.outs.length capO, .slice adK n.keeps.length capK, .slice adN n.nums.length capN, .slice adC n.code.length capC] 26)) w1 → Calls Tryz.prog 37 #[.slice adO n.outs.length capO, .func (.func 28) #[] #[.pointer (some ⟨bn, 0, none⟩)]] w1 fun e w' => e = .returned (.bool false) ∧ Below (w.alloc (.cells #[.int .i64 n.places, .slice adF n.first.length capF, .slice adI n.ins.length capI, .slice adO n.outs.length capO, .slice adK n.keeps.length capK, .slice adN n.nums.length capN, .slice adC n.code.length capC] 26)).heap.size (w.alloc (.cells #[.int .i64 n.places, .slice adF n.first.length capF, .slice adI n.ins.length capI, .slice adO n.outs.length capO, .slice adK n.keeps.length capK, .slice adN n.nums.length capN, .slice adC n.code.length capC] 26)) w') := fun w1 hb => by
    have := whole_calls n bn w _ n.outs hO (by omega) hc _ w1 (grown_one w _) hb
    rw [aO] at this
    exact this
  clear hf hs hc hI hO aI aO
  go_enter Tryz.func29, Tryz.ntmps29
  go_wp2
  refine wp_loop_rounds 5 ?_
  rw [rounds_succ]
  go_wp2
  rw [rounds_succ]
  go_wp2
  rw [rounds_succ]
  go_wp2
  rw [rounds_succ]
  go_wp2
  rw [rounds_succ]
  go_wp2
  refine wp_loop_rounds 2 ?_
  rw [rounds_succ]
  go_wp2_with (go_at_call 37; refine (cI.out _ (Below.refl _ _)).mono ?_; rintro e w1 ⟨rfl, hb1⟩)
  rw [rounds_succ]
  go_wp2_with (go_at_call 37; refine (cO.out _ hb1).mono ?_; rintro e w2 ⟨rfl, hb2⟩)
  go_ret
  exact ⟨rfl, ball (grown_one w _) hb2⟩

set_option maxRecDepth 100000 in
set_option maxHeartbeats 2000000 in
theorem whole_keeps (hs : Small n) (h0 : 0 ≤ n.places) (hf : (n.first.length : Int) = n.places) (hc : w.cell? ⟨bn, 0, none⟩ = some (.int .i64 n.places)) (hI : Ints A w (.slice adI n.ins.length capI) n.ins) (hO : Ints A w (.slice adO n.outs.length capO) n.outs) (hK : Ints A w (.slice adK n.keeps.length capK) n.keeps) (aI : n.ins.all (isPl n.places) = true) (aO : n.outs.all (isPl n.places) = true) (aK : n.keeps.all (isPl n.places) = false) :
    Calls Tryz.prog 29 #[.agg #[.int .i64 n.places, .slice adF n.first.length capF, .slice adI n.ins.length capI, .slice adO n.outs.length capO, .slice adK n.keeps.length capK, .slice adN n.nums.length capN, .slice adC n.code.length capC], .func (.func 28) #[] #[.pointer (some ⟨bn, 0, none⟩)]] w fun e w' => e = .returned (.int .i64 (2 : Int)) ∧ Below w.heap.size w w' := by
  have q0 := ixA0; have q1 := ixA1; have q2 := ixA2; have q3 := ixA3; have r0 := ixB0; have r1 := ixB1; have r2 := ixB2
  have s1 := hs.p; have s2 := hs.c; have s3 := hs.m; have s4 := hs.s
  have t1 : ((n.first.length : Int) != n.places) = false := by simpa using hf
  have HW : Hid (∀ w1, Below (w.alloc (.cells #[.int .i64 n.places, .slice adF n.first.length capF, .slice adI n.ins.length capI, .slice adO n.outs.length capO, .slice adK n.keeps.length capK, .slice adN n.nums.length capN, .slice adC n.code.length capC] 26)).heap.size (w.alloc (.cells #[.int .i64 n.places, .slice adF n.first.length capF, .slice adI n.ins.length capI, .slice adO n.outs.length capO, .slice adK n.keeps.length capK, .slice adN n.nums.length capN, .slice adC n.code.length capC] 26)) w1 → w1.cell? ⟨w.heap.size, 0, none⟩ = some (.int .i64 n.places) ∧ w1.cell? ⟨w.heap.size, 2, none⟩ = some (.slice adI n.ins.length capI)) := whole_cells n w adF adI adO adK adN adC capF capI capO capK capN capC
  have cI : Hid (∀ w1, Below (w.alloc (.cells #[.int .i64 n.places, .slice adF n.first.length capF, .slice adI n.ins.length capI, .slice adO n.outs.length capO, .slice adK n.keeps.length capK, .slice adN n.nums.length capN, .slice adC n.code.length capC] 26)).heap.size (w.alloc (.cells #[.int .i64 n.places, .slice adF n.first.length capF, .slice adI n.ins.length capI, .slice adO n.outs.length capO, .slice adK n.keeps.length capK, .slice adN n.nums.length capN, .slice adC n.code.length capC] 26)) w1 → Calls Tryz.prog 37 #[.slice adI n.ins.length capI, .func (.func 28) #[] #[.pointer (some ⟨bn, 0, none⟩)]] w1 fun e w' => e = .returned (.bool true) ∧ Below (w.alloc (.cells #[.int .i64 n.places, .slice adF n.first.length capF, .slice adI n.ins.length capI, .slice adO n.outs.length capO, .slice adK n.keeps.length capK, .slice adN n.nums.length capN, .slice adC n.code.length capC] 26)).heap.size (w.alloc (.cells #[.int .i64 n.places, .slice adF n.first.length capF, .slice adI n.ins.length capI, .slice adO n.outs.length capO, .slice adK n.keeps.length capK, .slice adN n.nums.length capN, .slice adC n.code.length capC] 26)) w') := fun w1 hb => by
    have := whole_calls n bn w _ n.ins hI (by omega) hc _ w1 (grown_one w _) hb
    rw [aI] at this
    exact this
  have cO : Hid (∀ w1, Below (w.alloc (.cells #[.int .i64 n.places, .slice adF n.first.length capF, .slice adI n.ins.length capI, .slice adO n.outs.length capO, .slice adK n.keeps.length capK, .slice adN n.nums.length capN, .slice adC n.code.length capC] 26)).heap.size (w.alloc (.cells #[.int .i64 n.places, .slice adF n.first.length capF, .slice adI n.ins.length capI, .slice adO n.outs.length capO, .slice adK n.keeps.length capK, .slice adN n.nums.length capN, .slice adC n.code.length capC] 26)) w1 → Calls Tryz.prog 37 #[.slice adO n.outs.length capO, .func (.func 28) #[] #[.pointer (some ⟨bn, 0, none⟩)]] w1 fun e w' => e = .returned (.bool true) ∧ Below (w.alloc (.cells #[.int .i64 n.places, .slice adF n.first.length capF, .slice adI n.ins.length capI, .slice adO n.outs.length capO, .slice adK n.keeps.length capK, .slice adN n.nums.length capN, .slice adC n.code.length capC] 26)).heap.size (w.alloc (.cells #[.int .i64 n.places, .slice adF n.first.length capF, .slice adI n.ins.length capI, .slice adO n.outs.length capO, .slice adK n.keeps.length capK, .slice adN n.nums.length capN, .slice adC n.code.length capC] 26)) w') := fun w1 hb => by
    have := whole_calls n bn w _ n.outs hO (by omega) hc _ w1 (grown_one w _) hb
    rw [aO] at this
    exact this
  have cK : Hid (∀ w1, Below (w.alloc (.cells #[.int .i64 n.places, .slice adF n.first.length capF, .slice adI n.ins.length capI, .slice adO n.outs.length capO, .slice adK n.keeps.length capK, .slice adN n.nums.length capN, .slice adC n.code.length capC] 26)).heap.size (w.alloc (.cells #[.int .i64 n.places, .slice adF n.first.length capF, .slice adI n.ins.length capI, .slice adO n.outs.length capO, .slice adK n.keeps.length capK, .slice adN n.nums.length capN, .slice adC n.code.length capC] 26)) w1 → Calls Tryz.prog 37 #[.slice adK n.keeps.length capK, .func (.func 28) #[] #[.pointer (some ⟨bn, 0, none⟩)]] w1 fun e w' => e = .returned (.bool false) ∧ Below (w.alloc (.cells #[.int .i64 n.places, .slice adF n.first.length capF, .slice adI n.ins.length capI, .slice adO n.outs.length capO, .slice adK n.keeps.length capK, .slice adN n.nums.length capN, .slice adC n.code.length capC] 26)).heap.size (w.alloc (.cells #[.int .i64 n.places, .slice adF n.first.length capF, .slice adI n.ins.length capI, .slice adO n.outs.length capO, .slice adK n.keeps.length capK, .slice adN n.nums.length capN, .slice adC n.code.length capC] 26)) w') := fun w1 hb => by
    have := whole_calls n bn w _ n.keeps hK (by omega) hc _ w1 (grown_one w _) hb
    rw [aK] at this
    exact this
  clear hf hs hc hI hO hK aI aO aK
  go_enter Tryz.func29, Tryz.ntmps29
  go_wp2
  refine wp_loop_rounds 5 ?_
  rw [rounds_succ]
  go_wp2
  rw [rounds_succ]
  go_wp2
  rw [rounds_succ]
  go_wp2
  rw [rounds_succ]
  go_wp2
  rw [rounds_succ]
  go_wp2
  refine wp_loop_rounds 3 ?_
  rw [rounds_succ]
  go_wp2_with (go_at_call 37; refine (cI.out _ (Below.refl _ _)).mono ?_; rintro e w1 ⟨rfl, hb1⟩)
  rw [rounds_succ]
  go_wp2_with (go_at_call 37; refine (cO.out _ hb1).mono ?_; rintro e w2 ⟨rfl, hb2⟩)
  rw [rounds_succ]
  go_wp2_with (go_at_call 37; refine (cK.out _ hb2).mono ?_; rintro e w3 ⟨rfl, hb3⟩)
  go_ret
  exact ⟨rfl, ball (grown_one w _) hb3⟩

set_option maxRecDepth 100000 in
set_option maxHeartbeats 2000000 in
theorem whole_dup (hs : Small n) (h0 : 0 ≤ n.places) (hf : (n.first.length : Int) = n.places) (hc : w.cell? ⟨bn, 0, none⟩ = some (.int .i64 n.places)) (hI : Ints A w (.slice adI n.ins.length capI) n.ins) (hO : Ints A w (.slice adO n.outs.length capO) n.outs) (hK : Ints A w (.slice adK n.keeps.length capK) n.keeps) (aI : n.ins.all (isPl n.places) = true) (aO : n.outs.all (isPl n.places) = true) (aK : n.keeps.all (isPl n.places) = true) (aT : decide (¬ n.ins.Nodup) = true) :
    Calls Tryz.prog 29 #[.agg #[.int .i64 n.places, .slice adF n.first.length capF, .slice adI n.ins.length capI, .slice adO n.outs.length capO, .slice adK n.keeps.length capK, .slice adN n.nums.length capN, .slice adC n.code.length capC], .func (.func 28) #[] #[.pointer (some ⟨bn, 0, none⟩)]] w fun e w' => e = .returned (.int .i64 (9 : Int)) ∧ Below w.heap.size w w' := by
  have q0 := ixA0; have q1 := ixA1; have q2 := ixA2; have q3 := ixA3; have r0 := ixB0; have r1 := ixB1; have r2 := ixB2
  have s1 := hs.p; have s2 := hs.c; have s3 := hs.m; have s4 := hs.s
  have t1 : ((n.first.length : Int) != n.places) = false := by simpa using hf
  have HW : Hid (∀ w1, Below (w.alloc (.cells #[.int .i64 n.places, .slice adF n.first.length capF, .slice adI n.ins.length capI, .slice adO n.outs.length capO, .slice adK n.keeps.length capK, .slice adN n.nums.length capN, .slice adC n.code.length capC] 26)).heap.size (w.alloc (.cells #[.int .i64 n.places, .slice adF n.first.length capF, .slice adI n.ins.length capI, .slice adO n.outs.length capO, .slice adK n.keeps.length capK, .slice adN n.nums.length capN, .slice adC n.code.length capC] 26)) w1 → w1.cell? ⟨w.heap.size, 0, none⟩ = some (.int .i64 n.places) ∧ w1.cell? ⟨w.heap.size, 2, none⟩ = some (.slice adI n.ins.length capI)) := whole_cells n w adF adI adO adK adN adC capF capI capO capK capN capC
  have cI : Hid (∀ w1, Below (w.alloc (.cells #[.int .i64 n.places, .slice adF n.first.length capF, .slice adI n.ins.length capI, .slice adO n.outs.length capO, .slice adK n.keeps.length capK, .slice adN n.nums.length capN, .slice adC n.code.length capC] 26)).heap.size (w.alloc (.cells #[.int .i64 n.places, .slice adF n.first.length capF, .slice adI n.ins.length capI, .slice adO n.outs.length capO, .slice adK n.keeps.length capK, .slice adN n.nums.length capN, .slice adC n.code.length capC] 26)) w1 → Calls Tryz.prog 37 #[.slice adI n.ins.length capI, .func (.func 28) #[] #[.pointer (some ⟨bn, 0, none⟩)]] w1 fun e w' => e = .returned (.bool true) ∧ Below (w.alloc (.cells #[.int .i64 n.places, .slice adF n.first.length capF, .slice adI n.ins.length capI, .slice adO n.outs.length capO, .slice adK n.keeps.length capK, .slice adN n.nums.length capN, .slice adC n.code.length capC] 26)).heap.size (w.alloc (.cells #[.int .i64 n.places, .slice adF n.first.length capF, .slice adI n.ins.length capI, .slice adO n.outs.length capO, .slice adK n.keeps.length capK, .slice adN n.nums.length capN, .slice adC n.code.length capC] 26)) w') := fun w1 hb => by
    have := whole_calls n bn w _ n.ins hI (by omega) hc _ w1 (grown_one w _) hb
    rw [aI] at this
    exact this
  have cO : Hid (∀ w1, Below (w.alloc (.cells #[.int .i64 n.places, .slice adF n.first.length capF, .slice adI n.ins.length capI, .slice adO n.outs.length capO, .slice adK n.keeps.length capK, .slice adN n.nums.length capN, .slice adC n.code.length capC] 26)).heap.size (w.alloc (.cells #[.int .i64 n.places, .slice adF n.first.length capF, .slice adI n.ins.length capI, .slice adO n.outs.length capO, .slice adK n.keeps.length capK, .slice adN n.nums.length capN, .slice adC n.code.length capC] 26)) w1 → Calls Tryz.prog 37 #[.slice adO n.outs.length capO, .func (.func 28) #[] #[.pointer (some ⟨bn, 0, none⟩)]] w1 fun e w' => e = .returned (.bool true) ∧ Below (w.alloc (.cells #[.int .i64 n.places, .slice adF n.first.length capF, .slice adI n.ins.length capI, .slice adO n.outs.length capO, .slice adK n.keeps.length capK, .slice adN n.nums.length capN, .slice adC n.code.length capC] 26)).heap.size (w.alloc (.cells #[.int .i64 n.places, .slice adF n.first.length capF, .slice adI n.ins.length capI, .slice adO n.outs.length capO, .slice adK n.keeps.length capK, .slice adN n.nums.length capN, .slice adC n.code.length capC] 26)) w') := fun w1 hb => by
    have := whole_calls n bn w _ n.outs hO (by omega) hc _ w1 (grown_one w _) hb
    rw [aO] at this
    exact this
  have cK : Hid (∀ w1, Below (w.alloc (.cells #[.int .i64 n.places, .slice adF n.first.length capF, .slice adI n.ins.length capI, .slice adO n.outs.length capO, .slice adK n.keeps.length capK, .slice adN n.nums.length capN, .slice adC n.code.length capC] 26)).heap.size (w.alloc (.cells #[.int .i64 n.places, .slice adF n.first.length capF, .slice adI n.ins.length capI, .slice adO n.outs.length capO, .slice adK n.keeps.length capK, .slice adN n.nums.length capN, .slice adC n.code.length capC] 26)) w1 → Calls Tryz.prog 37 #[.slice adK n.keeps.length capK, .func (.func 28) #[] #[.pointer (some ⟨bn, 0, none⟩)]] w1 fun e w' => e = .returned (.bool true) ∧ Below (w.alloc (.cells #[.int .i64 n.places, .slice adF n.first.length capF, .slice adI n.ins.length capI, .slice adO n.outs.length capO, .slice adK n.keeps.length capK, .slice adN n.nums.length capN, .slice adC n.code.length capC] 26)).heap.size (w.alloc (.cells #[.int .i64 n.places, .slice adF n.first.length capF, .slice adI n.ins.length capI, .slice adO n.outs.length capO, .slice adK n.keeps.length capK, .slice adN n.nums.length capN, .slice adC n.code.length capC] 26)) w') := fun w1 hb => by
    have := whole_calls n bn w _ n.keeps hK (by omega) hc _ w1 (grown_one w _) hb
    rw [aK] at this
    exact this
  have cT : Hid (∀ w1, Below (w.alloc (.cells #[.int .i64 n.places, .slice adF n.first.length capF, .slice adI n.ins.length capI, .slice adO n.outs.length capO, .slice adK n.keeps.length capK, .slice adN n.nums.length capN, .slice adC n.code.length capC] 26)).heap.size (w.alloc (.cells #[.int .i64 n.places, .slice adF n.first.length capF, .slice adI n.ins.length capI, .slice adO n.outs.length capO, .slice adK n.keeps.length capK, .slice adN n.nums.length capN, .slice adC n.code.length capC] 26)) w1 → Calls Tryz.prog 38 #[.slice adI n.ins.length capI] w1 fun e w' => e = .returned (.bool true) ∧ Below (w.alloc (.cells #[.int .i64 n.places, .slice adF n.first.length capF, .slice adI n.ins.length capI, .slice adO n.outs.length capO, .slice adK n.keeps.length capK, .slice adN n.nums.length capN, .slice adC n.code.length capC] 26)).heap.size (w.alloc (.cells #[.int .i64 n.places, .slice adF n.first.length capF, .slice adI n.ins.length capI, .slice adO n.outs.length capO, .slice adK n.keeps.length capK, .slice adN n.nums.length capN, .slice adC n.code.length capC] 26)) w') := fun w1 hb => by
    have hb' := ball (grown_one w _) hb
    have := twice_any _ n.ins w1 (hI.carry fun b ha hl => ⟨ha, hb'.block b hl⟩) (by omega)
    rw [aT] at this
    exact this.mono fun e w' ⟨he, hb2⟩ => ⟨he, ball hb hb2⟩
  clear hf hs hc hI hO hK aI aO aK aT
  go_enter Tryz.func29, Tryz.ntmps29
  go_wp2
  refine wp_loop_rounds 5 ?_
  rw [rounds_succ]
  go_wp2
  rw [rounds_succ]
  go_wp2
  rw [rounds_succ]
  go_wp2
  rw [rounds_succ]
  go_wp2
  rw [rounds_succ]
  go_wp2
  refine wp_loop_rounds 4 ?_
  rw [rounds_succ]
  go_wp2_with (go_at_call 37; refine (cI.out _ (Below.refl _ _)).mono ?_; rintro e w1 ⟨rfl, hb1⟩)
  rw [rounds_succ]
  go_wp2_with (go_at_call 37; refine (cO.out _ hb1).mono ?_; rintro e w2 ⟨rfl, hb2⟩)
  rw [rounds_succ]
  go_wp2_with (go_at_call 37; refine (cK.out _ hb2).mono ?_; rintro e w3 ⟨rfl, hb3⟩)
  have dd := HW.out w3 hb3
  obtain ⟨d0, d2⟩ := dd
  rw [rounds_succ]
  go_wp2_with (go_at_call 38; refine (cT.out _ hb3).mono ?_; rintro e w4 ⟨rfl, hb4⟩)
  go_ret
  exact ⟨rfl, ball (grown_one w _) hb4⟩

set_option maxRecDepth 100000 in
set_option maxHeartbeats 2000000 in
theorem whole_fine (hs : Small n) (h0 : 0 ≤ n.places) (hf : (n.first.length : Int) = n.places) (hc : w.cell? ⟨bn, 0, none⟩ = some (.int .i64 n.places)) (hI : Ints A w (.slice adI n.ins.length capI) n.ins) (hO : Ints A w (.slice adO n.outs.length capO) n.outs) (hK : Ints A w (.slice adK n.keeps.length capK) n.keeps) (aI : n.ins.all (isPl n.places) = true) (aO : n.outs.all (isPl n.places) = true) (aK : n.keeps.all (isPl n.places) = true) (aT : decide (¬ n.ins.Nodup) = false) :
    Calls Tryz.prog 29 #[.agg #[.int .i64 n.places, .slice adF n.first.length capF, .slice adI n.ins.length capI, .slice adO n.outs.length capO, .slice adK n.keeps.length capK, .slice adN n.nums.length capN, .slice adC n.code.length capC], .func (.func 28) #[] #[.pointer (some ⟨bn, 0, none⟩)]] w fun e w' => e = .returned (.int .i64 (0 : Int)) ∧ Below w.heap.size w w' := by
  have q0 := ixA0; have q1 := ixA1; have q2 := ixA2; have q3 := ixA3; have r0 := ixB0; have r1 := ixB1; have r2 := ixB2
  have s1 := hs.p; have s2 := hs.c; have s3 := hs.m; have s4 := hs.s
  have t1 : ((n.first.length : Int) != n.places) = false := by simpa using hf
  have HW : Hid (∀ w1, Below (w.alloc (.cells #[.int .i64 n.places, .slice adF n.first.length capF, .slice adI n.ins.length capI, .slice adO n.outs.length capO, .slice adK n.keeps.length capK, .slice adN n.nums.length capN, .slice adC n.code.length capC] 26)).heap.size (w.alloc (.cells #[.int .i64 n.places, .slice adF n.first.length capF, .slice adI n.ins.length capI, .slice adO n.outs.length capO, .slice adK n.keeps.length capK, .slice adN n.nums.length capN, .slice adC n.code.length capC] 26)) w1 → w1.cell? ⟨w.heap.size, 0, none⟩ = some (.int .i64 n.places) ∧ w1.cell? ⟨w.heap.size, 2, none⟩ = some (.slice adI n.ins.length capI)) := whole_cells n w adF adI adO adK adN adC capF capI capO capK capN capC
  have cI : Hid (∀ w1, Below (w.alloc (.cells #[.int .i64 n.places, .slice adF n.first.length capF, .slice adI n.ins.length capI, .slice adO n.outs.length capO, .slice adK n.keeps.length capK, .slice adN n.nums.length capN, .slice adC n.code.length capC] 26)).heap.size (w.alloc (.cells #[.int .i64 n.places, .slice adF n.first.length capF, .slice adI n.ins.length capI, .slice adO n.outs.length capO, .slice adK n.keeps.length capK, .slice adN n.nums.length capN, .slice adC n.code.length capC] 26)) w1 → Calls Tryz.prog 37 #[.slice adI n.ins.length capI, .func (.func 28) #[] #[.pointer (some ⟨bn, 0, none⟩)]] w1 fun e w' => e = .returned (.bool true) ∧ Below (w.alloc (.cells #[.int .i64 n.places, .slice adF n.first.length capF, .slice adI n.ins.length capI, .slice adO n.outs.length capO, .slice adK n.keeps.length capK, .slice adN n.nums.length capN, .slice adC n.code.length capC] 26)).heap.size (w.alloc (.cells #[.int .i64 n.places, .slice adF n.first.length capF, .slice adI n.ins.length capI, .slice adO n.outs.length capO, .slice adK n.keeps.length capK, .slice adN n.nums.length capN, .slice adC n.code.length capC] 26)) w') := fun w1 hb => by
    have := whole_calls n bn w _ n.ins hI (by omega) hc _ w1 (grown_one w _) hb
    rw [aI] at this
    exact this
  have cO : Hid (∀ w1, Below (w.alloc (.cells #[.int .i64 n.places, .slice adF n.first.length capF, .slice adI n.ins.length capI, .slice adO n.outs.length capO, .slice adK n.keeps.length capK, .slice adN n.nums.length capN, .slice adC n.code.length capC] 26)).heap.size (w.alloc (.cells #[.int .i64 n.places, .slice adF n.first.length capF, .slice adI n.ins.length capI, .slice adO n.outs.length capO, .slice adK n.keeps.length capK, .slice adN n.nums.length capN, .slice adC n.code.length capC] 26)) w1 → Calls Tryz.prog 37 #[.slice adO n.outs.length capO, .func (.func 28) #[] #[.pointer (some ⟨bn, 0, none⟩)]] w1 fun e w' => e = .returned (.bool true) ∧ Below (w.alloc (.cells #[.int .i64 n.places, .slice adF n.first.length capF, .slice adI n.ins.length capI, .slice adO n.outs.length capO, .slice adK n.keeps.length capK, .slice adN n.nums.length capN, .slice adC n.code.length capC] 26)).heap.size (w.alloc (.cells #[.int .i64 n.places, .slice adF n.first.length capF, .slice adI n.ins.length capI, .slice adO n.outs.length capO, .slice adK n.keeps.length capK, .slice adN n.nums.length capN, .slice adC n.code.length capC] 26)) w') := fun w1 hb => by
    have := whole_calls n bn w _ n.outs hO (by omega) hc _ w1 (grown_one w _) hb
    rw [aO] at this
    exact this
  have cK : Hid (∀ w1, Below (w.alloc (.cells #[.int .i64 n.places, .slice adF n.first.length capF, .slice adI n.ins.length capI, .slice adO n.outs.length capO, .slice adK n.keeps.length capK, .slice adN n.nums.length capN, .slice adC n.code.length capC] 26)).heap.size (w.alloc (.cells #[.int .i64 n.places, .slice adF n.first.length capF, .slice adI n.ins.length capI, .slice adO n.outs.length capO, .slice adK n.keeps.length capK, .slice adN n.nums.length capN, .slice adC n.code.length capC] 26)) w1 → Calls Tryz.prog 37 #[.slice adK n.keeps.length capK, .func (.func 28) #[] #[.pointer (some ⟨bn, 0, none⟩)]] w1 fun e w' => e = .returned (.bool true) ∧ Below (w.alloc (.cells #[.int .i64 n.places, .slice adF n.first.length capF, .slice adI n.ins.length capI, .slice adO n.outs.length capO, .slice adK n.keeps.length capK, .slice adN n.nums.length capN, .slice adC n.code.length capC] 26)).heap.size (w.alloc (.cells #[.int .i64 n.places, .slice adF n.first.length capF, .slice adI n.ins.length capI, .slice adO n.outs.length capO, .slice adK n.keeps.length capK, .slice adN n.nums.length capN, .slice adC n.code.length capC] 26)) w') := fun w1 hb => by
    have := whole_calls n bn w _ n.keeps hK (by omega) hc _ w1 (grown_one w _) hb
    rw [aK] at this
    exact this
  have cT : Hid (∀ w1, Below (w.alloc (.cells #[.int .i64 n.places, .slice adF n.first.length capF, .slice adI n.ins.length capI, .slice adO n.outs.length capO, .slice adK n.keeps.length capK, .slice adN n.nums.length capN, .slice adC n.code.length capC] 26)).heap.size (w.alloc (.cells #[.int .i64 n.places, .slice adF n.first.length capF, .slice adI n.ins.length capI, .slice adO n.outs.length capO, .slice adK n.keeps.length capK, .slice adN n.nums.length capN, .slice adC n.code.length capC] 26)) w1 → Calls Tryz.prog 38 #[.slice adI n.ins.length capI] w1 fun e w' => e = .returned (.bool false) ∧ Below (w.alloc (.cells #[.int .i64 n.places, .slice adF n.first.length capF, .slice adI n.ins.length capI, .slice adO n.outs.length capO, .slice adK n.keeps.length capK, .slice adN n.nums.length capN, .slice adC n.code.length capC] 26)).heap.size (w.alloc (.cells #[.int .i64 n.places, .slice adF n.first.length capF, .slice adI n.ins.length capI, .slice adO n.outs.length capO, .slice adK n.keeps.length capK, .slice adN n.nums.length capN, .slice adC n.code.length capC] 26)) w') := fun w1 hb => by
    have hb' := ball (grown_one w _) hb
    have := twice_any _ n.ins w1 (hI.carry fun b ha hl => ⟨ha, hb'.block b hl⟩) (by omega)
    rw [aT] at this
    exact this.mono fun e w' ⟨he, hb2⟩ => ⟨he, ball hb hb2⟩
  clear hf hs hc hI hO hK aI aO aK aT
  go_enter Tryz.func29, Tryz.ntmps29
  go_wp2
  refine wp_loop_rounds 5 ?_
  rw [rounds_succ]
  go_wp2
  rw [rounds_succ]
  go_wp2
  rw [rounds_succ]
  go_wp2
  rw [rounds_succ]
  go_wp2
  rw [rounds_succ]
  go_wp2
  refine wp_loop_rounds 4 ?_
  rw [rounds_succ]
  go_wp2_with (go_at_call 37; refine (cI.out _ (Below.refl _ _)).mono ?_; rintro e w1 ⟨rfl, hb1⟩)
  rw [rounds_succ]
  go_wp2_with (go_at_call 37; refine (cO.out _ hb1).mono ?_; rintro e w2 ⟨rfl, hb2⟩)
  rw [rounds_succ]
  go_wp2_with (go_at_call 37; refine (cK.out _ hb2).mono ?_; rintro e w3 ⟨rfl, hb3⟩)
  have dd := HW.out w3 hb3
  obtain ⟨d0, d2⟩ := dd
  rw [rounds_succ]
  go_wp2_with (go_at_call 38; refine (cT.out _ hb3).mono ?_; rintro e w4 ⟨rfl, hb4⟩)
  go_ret
  exact ⟨rfl, ball (grown_one w _) hb4⟩

end
end Nx
end Go.Proofs.YtgjhfmkilpmfnaaGreatDoor
/- What net's step and whole answer, all ways together. -/
namespace Go.Proofs.YtgjhfmkilpmfnaaGreatDoor
open Go.RowKit
namespace Nx

theorem step_any (s : Sp) (P : Int) (nums bn : Nat) (w : World) (hc : w.cell? ⟨bn, 0, none⟩ = some (.int .i64 P)) :
    Calls Tryz.prog 30 #[.agg #[.int .i64 s.code, .int .i64 s.dst, .int .i64 s.a, .int .i64 s.b, .int .i64 s.c], .int .i64 nums, .func (.func 28) #[] #[.pointer (some ⟨bn, 0, none⟩)]] w fun e w' => e = .returned (.int .i64 (stepE P nums s : Nat)) ∧ Below w.heap.size w w' := by
  obtain ⟨code, dst, a, b, c⟩ := s
  simp only
  by_cases h : code < 1 ∨ 17 < code ∨ code = 3
  · have e : stepE P nums ⟨code, dst, a, b, c⟩ = 3 := by unfold stepE; rw [if_pos h]
    rw [e]; exact step_form code dst a b c nums bn w h
  have h1 : 1 ≤ code := by omega
  have h2 : code ≤ 17 := by omega
  have h3 : code ≠ 3 := by omega
  cases hd : isPl P dst with
  | false =>
    have e : stepE P nums ⟨code, dst, a, b, c⟩ = 2 := by unfold stepE; rw [if_neg h, if_pos (by simp [hd])]
    rw [e]; exact step_dst code dst a b c P nums bn w hc h1 h2 h3 hd
  | true =>
  cases ha : (asks ⟨code, dst, a, b, c⟩).all (isPl P) with
  | false =>
    have e : stepE P nums ⟨code, dst, a, b, c⟩ = 2 := by unfold stepE; rw [if_neg h, if_pos (by simp only [ha]; simp)]
    rw [e]; exact step_asks code dst a b c P nums bn w hc h1 h2 h3 hd ha
  | true =>
  have E0 : stepE P nums ⟨code, dst, a, b, c⟩ = if code = 1 ∧ ¬ (0 ≤ a ∧ a < nums) then 2 else if ([a, b, c].drop (if code = 1 then 1 else (asks ⟨code, dst, a, b, c⟩).length)).any (· != 0) then 1 else 0 := by
    unfold stepE
    rw [if_neg h, if_neg (by simp only [hd, ha]; simp)]
  rw [E0]
  by_cases c1 : code = 1
  · subst c1
    by_cases hr : 0 ≤ a ∧ a < nums
    · rw [if_neg (by simp; omega)]
      obtain ⟨r0, r1⟩ := hr
      by_cases kb : b = 0
      · by_cases kc : c = 0
        · have := num_zz dst a b c P nums bn w hc hd ha r0 r1 kb kc
          subst kb kc; exact this
        · have := num_zn dst a b c P nums bn w hc hd ha r0 r1 kb kc
          have e : ([a, b, c].drop (if (1 : Int) = 1 then 1 else (asks ⟨1, dst, a, b, c⟩).length)).any (· != 0) = true := by simp [kc]
          rw [if_pos e]; exact this
      · have := num_n dst a b c P nums bn w hc hd ha r0 r1 kb
        have e : ([a, b, c].drop (if (1 : Int) = 1 then 1 else (asks ⟨1, dst, a, b, c⟩).length)).any (· != 0) = true := by simp [kb]
        rw [if_pos e]; exact this
    · rw [if_pos ⟨rfl, hr⟩]
      by_cases r0 : a < 0
      · exact num_lo dst a b c P nums bn w hc hd r0
      · exact num_hi dst a b c P nums bn w hc hd (by omega) (by omega)
  rw [if_neg (fun x => c1 x.1)]
  have one : ∀ cc : Int, code = cc → (cc = 2 ∨ cc = 4 ∨ cc = 5) → ((([a, b, c].drop (if code = 1 then 1 else (asks ⟨code, dst, a, b, c⟩).length)).any (· != 0)) = (b != 0 || c != 0)) := by
    intro cc e h
    have ea : (asks ⟨code, dst, a, b, c⟩).length = 1 := by unfold asks; rw [if_pos (by simp; omega)]; rfl
    rw [ea, if_neg c1]; simp
  by_cases c2 : code = 2
  · rw [one 2 c2 (by omega)]
    subst c2
    by_cases kb : b = 0
    · by_cases kc : c = 0
      · have := one2_zz dst a b c P nums bn w hc hd ha kb kc
        subst kb kc; exact this
      · rw [if_pos (by simp [kc])]; exact one2_zn dst a b c P nums bn w hc hd ha kb kc
    · rw [if_pos (by simp [kb])]; exact one2_n dst a b c P nums bn w hc hd ha kb
  by_cases c4 : code = 4
  · rw [one 4 c4 (by omega)]
    subst c4
    by_cases kb : b = 0
    · by_cases kc : c = 0
      · have := one4_zz dst a b c P nums bn w hc hd ha kb kc
        subst kb kc; exact this
      · rw [if_pos (by simp [kc])]; exact one4_zn dst a b c P nums bn w hc hd ha kb kc
    · rw [if_pos (by simp [kb])]; exact one4_n dst a b c P nums bn w hc hd ha kb
  by_cases c5 : code = 5
  · rw [one 5 c5 (by omega)]
    subst c5
    by_cases kb : b = 0
    · by_cases kc : c = 0
      · have := one5_zz dst a b c P nums bn w hc hd ha kb kc
        subst kb kc; exact this
      · rw [if_pos (by simp [kc])]; exact one5_zn dst a b c P nums bn w hc hd ha kb kc
    · rw [if_pos (by simp [kb])]; exact one5_n dst a b c P nums bn w hc hd ha kb
  by_cases c17 : code = 17
  · subst c17
    exact pick_ dst a b c P nums bn w hc hd ha
  have h6 : 6 ≤ code := by omega
  have h16 : code ≤ 16 := by omega
  have ea : (asks ⟨code, dst, a, b, c⟩).length = 2 := by unfold asks; rw [if_neg (by simp; omega), if_pos (by simp; omega)]; rfl
  rw [ea, if_neg c1]
  by_cases kc : c = 0
  · have := two_z code dst a b c P nums bn w hc hd ha h6 h16 kc
    subst kc; exact this
  · rw [if_pos (by simp [kc])]; exact two_n code dst a b c P nums bn w hc hd ha h6 h16 kc

/-- code as it lies in memory -/
structure NetV (B : Nat) (w : World) (n : Nt) (vF vI vO vK vN vC : Value) : Prop where
  f : Ints (· < B) w vF n.first
  i : Ints (· < B) w vI n.ins
  o : Ints (· < B) w vO n.outs
  k : Ints (· < B) w vK n.keeps
  m : Ints (· < B) w vN n.nums
  c : Steps (· < B) w vC n.code
theorem NetV.carry {B B' : Nat} {w w' : World} {n : Nt} {vF vI vO vK vN vC : Value} (h : NetV B w n vF vI vO vK vN vC) (k : Keep (· < B) (· < B') w w') : NetV B' w' n vF vI vO vK vN vC :=
  ⟨h.f.carry k, h.i.carry k, h.o.carry k, h.k.carry k, h.m.carry k, h.c.carry k⟩
theorem NetV.below {B B' : Nat} {w w' : World} {n : Nt} {vF vI vO vK vN vC : Value} (h : NetV B w n vF vI vO vK vN vC) (hb : Below B w w') (hB : B ≤ B') : NetV B' w' n vF vI vO vK vN vC :=
  h.carry fun b hl _ => ⟨Nat.lt_of_lt_of_le hl hB, hb.block b hl⟩

theorem whole_any (B : Nat) (n : Nt) (bn : Nat) (w : World) (vF vI vO vK vN vC : Value) (h : NetV B w n vF vI vO vK vN vC) (hs : Small n) (hc : w.cell? ⟨bn, 0, none⟩ = some (.int .i64 n.places)) :
    Calls Tryz.prog 29 #[.agg #[.int .i64 n.places, vF, vI, vO, vK, vN, vC], .func (.func 28) #[] #[.pointer (some ⟨bn, 0, none⟩)]] w fun e w' => e = .returned (.int .i64 (wholeE n : Nat)) ∧ Below w.heap.size w w' := by
  have hI := h.i; have hO := h.o; have hK := h.k
  obtain ⟨adF, _, _, capF, rfl, -, -⟩ := h.f
  obtain ⟨adI, _, _, capI, rfl, -, -⟩ := h.i
  obtain ⟨adO, _, _, capO, rfl, -, -⟩ := h.o
  obtain ⟨adK, _, _, capK, rfl, -, -⟩ := h.k
  obtain ⟨adN, _, _, capN, rfl, -, -⟩ := h.m
  obtain ⟨adC, _, _, capC, rfl, -, -⟩ := h.c
  have s1 := hs.p; have s2 := hs.c; have s3 := hs.m; have s4 := hs.s
  by_cases h0 : n.places < 0
  · have e : wholeE n = 4 := by unfold wholeE; rw [if_pos (.inl h0)]
    rw [e]; exact whole_low n bn w adF adI adO adK adN adC capF capI capO capK capN capC h0
  have n0 : ¬ (n.places < 0 ∨ 4000 < n.places ∨ 4000 < n.code.length ∨ 4000 < n.nums.length ∨ 4000 < n.ins.length + n.outs.length + n.keeps.length) := by omega
  by_cases hf : (n.first.length : Int) ≠ n.places
  · have e : wholeE n = 3 := by unfold wholeE; rw [if_neg n0, if_pos hf]
    rw [e]; exact whole_form n bn w adF adI adO adK adN adC capF capI capO capK capN capC hs (by omega) hf
  have n1 := hf
  replace hf : (n.first.length : Int) = n.places := Classical.byContradiction hf
  cases aI : n.ins.all (isPl n.places) with
  | false =>
    have e : wholeE n = 2 := by unfold wholeE; rw [if_neg n0, if_neg n1, if_pos (by simp only [aI]; simp)]
    rw [e]; exact whole_ins n bn w adF adI adO adK adN adC capF capI capO capK capN capC hs (by omega) hf hc hI aI
  | true =>
  cases aO : n.outs.all (isPl n.places) with
  | false =>
    have e : wholeE n = 2 := by unfold wholeE; rw [if_neg n0, if_neg n1, if_pos (by simp only [aO]; simp)]
    rw [e]; exact whole_outs n bn w adF adI adO adK adN adC capF capI capO capK capN capC hs (by omega) hf hc hI hO aI aO
  | true =>
  cases aK : n.keeps.all (isPl n.places) with
  | false =>
    have e : wholeE n = 2 := by unfold wholeE; rw [if_neg n0, if_neg n1, if_pos (by simp only [aK]; simp)]
    rw [e]; exact whole_keeps n bn w adF adI adO adK adN adC capF capI capO capK capN capC hs (by omega) hf hc hI hO hK aI aO aK
  | true =>
  have e3 : wholeE n = if ¬ n.ins.Nodup then 9 else 0 := by unfold wholeE; rw [if_neg n0, if_neg n1, if_neg (by simp only [aI, aO, aK]; simp)]
  rw [e3]
  by_cases hd : n.ins.Nodup
  · rw [if_neg (fun x => x hd)]
    exact whole_fine n bn w adF adI adO adK adN adC capF capI capO capK capN capC hs (by omega) hf hc hI hO hK aI aO aK (by simpa using hd)
  · rw [if_pos hd]
    exact whole_dup n bn w adF adI adO adK adN adC capF capI capO capK capN capC hs (by omega) hf hc hI hO hK aI aO aK (by simpa using hd)
end Nx
end Go.Proofs.YtgjhfmkilpmfnaaGreatDoor
