/- What net's whole answers: what is wrong with all of code but its steps. -/
import Derived.Test.YtalfelkblbbmpaaDoorNt6
namespace Go.Proofs.YtalfelkblbbmpaaDoor
open Go.RowKit
namespace Nx

/-- code that is not too much -/
structure Small (n : Nt) : Prop where
  p : n.places ≤ 4000
  c : n.code.length ≤ 4000
  m : n.nums.length ≤ 4000
  s : n.ins.length + n.outs.length + n.keeps.length ≤ 4000

theorem ixA0 (x0 x1 x2 x3 : Int) (w : World) : (Instr.index 106 (.agg #[.int .i64 x0, .int .i64 x1, .int .i64 x2, .int .i64 x3]) (.int .i64 0)).run Tryd.prog w = .ok (.int .i64 x0) w := by kernel_rfl
theorem ixA1 (x0 x1 x2 x3 : Int) (w : World) : (Instr.index 106 (.agg #[.int .i64 x0, .int .i64 x1, .int .i64 x2, .int .i64 x3]) (.int .i64 1)).run Tryd.prog w = .ok (.int .i64 x1) w := by kernel_rfl
theorem ixA2 (x0 x1 x2 x3 : Int) (w : World) : (Instr.index 106 (.agg #[.int .i64 x0, .int .i64 x1, .int .i64 x2, .int .i64 x3]) (.int .i64 2)).run Tryd.prog w = .ok (.int .i64 x2) w := by kernel_rfl
theorem ixA3 (x0 x1 x2 x3 : Int) (w : World) : (Instr.index 106 (.agg #[.int .i64 x0, .int .i64 x1, .int .i64 x2, .int .i64 x3]) (.int .i64 3)).run Tryd.prog w = .ok (.int .i64 x3) w := by kernel_rfl
theorem ixB0 (x0 x1 x2 : Value) (w : World) : (Instr.index 86 (.agg #[x0, x1, x2]) (.int .i64 0)).run Tryd.prog w = .ok x0 w := by kernel_rfl
theorem ixB1 (x0 x1 x2 : Value) (w : World) : (Instr.index 86 (.agg #[x0, x1, x2]) (.int .i64 1)).run Tryd.prog w = .ok x1 w := by kernel_rfl
theorem ixB2 (x0 x1 x2 : Value) (w : World) : (Instr.index 86 (.agg #[x0, x1, x2]) (.int .i64 2)).run Tryd.prog w = .ok x2 w := by kernel_rfl

section
variable {A : Nat → Prop} (n : Nt) (bn : Nat) (w : World) (adF adI adO adK adN adC : Option Addr) (capF capI capO capK capN capC : Nat)

/-- what whole asks of lists -/
theorem whole_calls (v : Value) (zs : List Int) (hv : Ints A w v zs) (hl : zs.length ≤ 4000) (hc : w.cell? ⟨bn, 0, none⟩ = some (.int .i64 n.places)) (w0 w1 : World) (h0 : Below w.heap.size w w0) (hb : Below w0.heap.size w0 w1) :
    Calls Tryd.prog 52 #[v, .func (.func 38) #[] #[.pointer (some ⟨bn, 0, none⟩)]] w1 fun e w' => e = .returned (.bool (zs.all (isPl n.places))) ∧ Below w0.heap.size w0 w' := by
  have hb' := ball h0 hb
  exact (all_any v zs n.places bn w1 (hv.carry fun b ha hl => ⟨ha, hb'.block b hl⟩) (by omega) (cell_below hb' hc)).mono fun e w' ⟨he, hb2⟩ => ⟨he, ball hb hb2⟩

/-- the boxed code's cells, in a world behind -/
theorem whole_cells (w1 : World) (hb : Below (w.alloc (.cells #[.int .i64 n.places, .slice adF n.first.length capF, .slice adI n.ins.length capI, .slice adO n.outs.length capO, .slice adK n.keeps.length capK, .slice adN n.nums.length capN, .slice adC n.code.length capC] 26)).heap.size (w.alloc (.cells #[.int .i64 n.places, .slice adF n.first.length capF, .slice adI n.ins.length capI, .slice adO n.outs.length capO, .slice adK n.keeps.length capK, .slice adN n.nums.length capN, .slice adC n.code.length capC] 26)) w1) : w1.cell? ⟨w.heap.size, 0, none⟩ = some (.int .i64 n.places) ∧ w1.cell? ⟨w.heap.size, 2, none⟩ = some (.slice adI n.ins.length capI) :=
  ⟨cell_below hb (by simp), cell_below hb (by simp)⟩

set_option maxHeartbeats 400000 in
theorem whole_low (h : n.places < 0) :
    Calls Tryd.prog 39 #[.agg #[.int .i64 n.places, .slice adF n.first.length capF, .slice adI n.ins.length capI, .slice adO n.outs.length capO, .slice adK n.keeps.length capK, .slice adN n.nums.length capN, .slice adC n.code.length capC], .func (.func 38) #[] #[.pointer (some ⟨bn, 0, none⟩)]] w fun e w' => e = .returned (.int .i64 (4 : Int)) ∧ Below w.heap.size w w' := by
  go_enter Tryd.func39, Tryd.ntmps39
  go_wp2
  go_ret
  exact ⟨rfl, grown_one w _⟩

set_option maxRecDepth 100000 in
set_option maxHeartbeats 2000000 in
theorem whole_form (hs : Small n) (h0 : 0 ≤ n.places) (hf : (n.first.length : Int) ≠ n.places) :
    Calls Tryd.prog 39 #[.agg #[.int .i64 n.places, .slice adF n.first.length capF, .slice adI n.ins.length capI, .slice adO n.outs.length capO, .slice adK n.keeps.length capK, .slice adN n.nums.length capN, .slice adC n.code.length capC], .func (.func 38) #[] #[.pointer (some ⟨bn, 0, none⟩)]] w fun e w' => e = .returned (.int .i64 (3 : Int)) ∧ Below w.heap.size w w' := by
  have q0 := ixA0; have q1 := ixA1; have q2 := ixA2; have q3 := ixA3; have r0 := ixB0; have r1 := ixB1; have r2 := ixB2
  have s1 := hs.p; have s2 := hs.c; have s3 := hs.m; have s4 := hs.s
  have t1 : ((n.first.length : Int) != n.places) = true := by simpa using hf
  clear hf hs
  go_enter Tryd.func39, Tryd.ntmps39
  go_wp2
  refine wp_loop_rounds 5 ?_
  rw [rounds_succ]
  go_wp2
  rw [rounds_succ]
  go_wp2
  rw [rounds_succ]
  go_wp2
  rw [rounds_succ]
  go_wp2
  rw [rounds_succ]
  go_wp2
  go_ret
  exact ⟨rfl, grown_one w _⟩

set_option maxRecDepth 100000 in
set_option maxHeartbeats 2000000 in
theorem whole_ins (hs : Small n) (h0 : 0 ≤ n.places) (hf : (n.first.length : Int) = n.places) (hc : w.cell? ⟨bn, 0, none⟩ = some (.int .i64 n.places)) (hI : Ints A w (.slice adI n.ins.length capI) n.ins) (aI : n.ins.all (isPl n.places) = false) :
    Calls Tryd.prog 39 #[.agg #[.int .i64 n.places, .slice adF n.first.length capF, .slice adI n.ins.length capI, .slice adO n.outs.length capO, .slice adK n.keeps.length capK, .slice adN n.nums.length capN, .slice adC n.code.length capC], .func (.func 38) #[] #[.pointer (some ⟨bn, 0, none⟩)]] w fun e w' => e = .returned (.int .i64 (2 : Int)) ∧ Below w.heap.size w w' := by
  have q0 := ixA0; have q1 := ixA1; have q2 := ixA2; have q3 := ixA3; have r0 := ixB0; have r1 := ixB1; have r2 := ixB2
  have s1 := hs.p; have s2 := hs.c; have s3 := hs.m; have s4 := hs.s
  have t1 : ((n.first.length : Int) != n.places) = false := by simpa using hf
  have HW : Hid (∀ w1, Below (w.alloc (.cells #[.int .i64 n.places, .slice adF n.first.length capF, .slice adI n.ins.length capI, .slice adO n.outs.length capO, .slice adK n.keeps.length capK, .slice adN n.nums.length capN, .slice adC n.code.length capC] 26)).heap.size (w.alloc (.cells #[.int .i64 n.places, .slice adF n.first.length capF, .slice adI n.ins.length capI, .slice adO n.outs.length capO, .slice adK n.keeps.length capK, .slice adN n.nums.length capN, .slice adC n.code.length capC] 26)) w1 → w1.cell? ⟨w.heap.size, 0, none⟩ = some (.int .i64 n.places) ∧ w1.cell? ⟨w.heap.size, 2, none⟩ = some (.slice adI n.ins.length capI)) := whole_cells n w adF adI adO adK adN adC capF capI capO capK capN capC
  have cI : Hid (∀ w1, Below (w.alloc (.cells #[.int .i64 n.places, .slice adF n.first.length capF, .slice adI n.ins.length capI, .slice adO n.outs.length capO, .slice adK n.keeps.length capK, .slice adN n.nums.length capN, .slice adC n.code.length capC] 26)).heap.size (w.alloc (.cells #[.int .i64 n.places, .slice adF n.first.length capF, .slice adI n.ins.length capI, .slice adO n.outs.length capO, .slice adK n.keeps.length capK, .slice adN n.nums.length capN, .slice adC n.code.length capC] 26)) w1 → Calls Tryd.prog 52 #[.slice adI n.ins.length capI, .func (.func 38) #[] #[.pointer (some ⟨bn, 0, none⟩)]] w1 fun e w' => e = .returned (.bool false) ∧ Below (w.alloc (.cells #[.int .i64 n.places, .slice adF n.first.length capF, .slice adI n.ins.length capI, .slice adO n.outs.length capO, .slice adK n.keeps.length capK, .slice adN n.nums.length capN, .slice adC n.code.length capC] 26)).heap.size (w.alloc (.cells #[.int .i64 n.places, .slice adF n.first.length capF, .slice adI n.ins.length capI, .slice adO n.outs.length capO, .slice adK n.keeps.length capK, .slice adN n.nums.length capN, .slice adC n.code.length capC] 26)) w') := fun w1 hb => by
    have := whole_calls n bn w _ n.ins hI (by omega) hc _ w1 (grown_one w _) hb
    rw [aI] at this
    exact this
  clear hf hs hc hI aI
  go_enter Tryd.func39, Tryd.ntmps39
  go_wp2
  refine wp_loop_rounds 5 ?_
  rw [rounds_succ]
  go_wp2
  rw [rounds_succ]
  go_wp2
  rw [rounds_succ]
  go_wp2
  rw [rounds_succ]
  go_wp2
  rw [rounds_succ]
  go_wp2
  refine wp_loop_rounds 1 ?_
  rw [rounds_succ]
  go_wp2_with (go_at_call 52; refine (cI.out _ (Below.refl _ _)).mono ?_; rintro e w1 ⟨rfl, hb1⟩)
  go_ret
  exact ⟨rfl, ball (grown_one w _) hb1⟩

set_option maxRecDepth 100000 in
set_option maxHeartbeats 2000000 in
theorem whole_outs (hs : Small n) (h0 : 0 ≤ n.places) (hf : (n.first.length : Int) = n.places) (hc : w.cell? ⟨bn, 0, none⟩ = some (.int .i64 n.places)) (hI : Ints A w (.slice adI n.ins.length capI) n.ins) (hO : Ints A w (.slice adO n.outs.length capO) n.outs) (aI : n.ins.all (isPl n.places) = true) (aO : n.outs.all (isPl n.places) = false) :
    Calls Tryd.prog 39 #[.agg #[.int .i64 n.places, .slice adF n.first.length capF, .slice adI n.ins.length capI, .slice adO n.outs.length capO, .slice adK n.keeps.length capK, .slice adN n.nums.length capN, .slice adC n.code.length capC], .func (.func 38) #[] #[.pointer (some ⟨bn, 0, none⟩)]] w fun e w' => e = .returned (.int .i64 (2 : Int)) ∧ Below w.heap.size w w' := by
  have q0 := ixA0; have q1 := ixA1; have q2 := ixA2; have q3 := ixA3; have r0 := ixB0; have r1 := ixB1; have r2 := ixB2
  have s1 := hs.p; have s2 := hs.c; have s3 := hs.m; have s4 := hs.s
  have t1 : ((n.first.length : Int) != n.places) = false := by simpa using hf
  have HW : Hid (∀ w1, Below (w.alloc (.cells #[.int .i64 n.places, .slice adF n.first.length capF, .slice adI n.ins.length capI, .slice adO n.outs.length capO, .slice adK n.keeps.length capK, .slice adN n.nums.length capN, .slice adC n.code.length capC] 26)).heap.size (w.alloc (.cells #[.int .i64 n.places, .slice adF n.first.length capF, .slice adI n.ins.length capI, .slice adO n.outs.length capO, .slice adK n.keeps.length capK, .slice adN n.nums.length capN, .slice adC n.code.length capC] 26)) w1 → w1.cell? ⟨w.heap.size, 0, none⟩ = some (.int .i64 n.places) ∧ w1.cell? ⟨w.heap.size, 2, none⟩ = some (.slice adI n.ins.length capI)) := whole_cells n w adF adI adO adK adN adC capF capI capO capK capN capC
  have cI : Hid (∀ w1, Below (w.alloc (.cells #[.int .i64 n.places, .slice adF n.first.length capF, .slice adI n.ins.length capI, .slice adO n.outs.length capO, .slice adK n.keeps.length capK, .slice adN n.nums.length capN, .slice adC n.code.length capC] 26)).heap.size (w.alloc (.cells #[.int .i64 n.places, .slice adF n.first.length capF, .slice adI n.ins.length capI, .slice adO n.outs.length capO, .slice adK n.keeps.length capK, .slice adN n.nums.length capN, .slice adC n.code.length capC] 26)) w1 → Calls Tryd.prog 52 #[.slice adI n.ins.length capI, .func (.func 38) #[] #[.pointer (some ⟨bn, 0, none⟩)]] w1 fun e w' => e = .returned (.bool true) ∧ Below (w.alloc (.cells #[.int .i64 n.places, .slice adF n.first.length capF, .slice adI n.ins.length capI, .slice adO n.outs.length capO, .slice adK n.keeps.length capK, .slice adN n.nums.length capN, .slice adC n.code.length capC] 26)).heap.size (w.alloc (.cells #[.int .i64 n.places, .slice adF n.first.length capF, .slice adI n.ins.length capI, .slice adO n.outs.length capO, .slice adK n.keeps.length capK, .slice adN n.nums.length capN, .slice adC n.code.length capC] 26)) w') := fun w1 hb => by
    have := whole_calls n bn w _ n.ins hI (by omega) hc _ w1 (grown_one w _) hb
    rw [aI] at this
    exact this
  have cO : Hid (∀ w1, Below (w.alloc (.cells #[.int .i64 n.places, .slice adF n.first.length capF, .slice adI n.ins.length capI, .slice adO n.outs.length capO, .slice adK n.keeps.length capK, .slice adN n.nums.length capN, .slice adC n.code.length capC] 26)).heap.size (w.alloc (.cells #[.int .i64 n.places, .slice adF n.first.length capF, .slice adI n.ins.length capI, .slice adO n.outs.length capO, .slice adK n.keeps.length capK, .slice adN n.nums.length capN, .slice adC n.code.length capC] 26)) w1 → Calls Tryd.prog 52 #[.slice adO n.outs.length capO, .func (.func 38) #[] #[.pointer (some ⟨bn, 0, none⟩)]] w1 fun e w' => e = .returned (.bool false) ∧ Below (w.alloc (.cells #[.int .i64 n.places, .slice adF n.first.length capF, .slice adI n.ins.length capI, .slice adO n.outs.length capO, .slice adK n.keeps.length capK, .slice adN n.nums.length capN, .slice adC n.code.length capC] 26)).heap.size (w.alloc (.cells #[.int .i64 n.places, .slice adF n.first.length capF, .slice adI n.ins.length capI, .slice adO n.outs.length capO, .slice adK n.keeps.length capK, .slice adN n.nums.length capN, .slice adC n.code.length capC] 26)) w') := fun w1 hb => by
    have := whole_calls n bn w _ n.outs hO (by omega) hc _ w1 (grown_one w _) hb
    rw [aO] at this
    exact this
  clear hf hs hc hI hO aI aO
  go_enter Tryd.func39, Tryd.ntmps39
  go_wp2
  refine wp_loop_rounds 5 ?_
  rw [rounds_succ]
  go_wp2
  rw [rounds_succ]
  go_wp2
  rw [rounds_succ]
  go_wp2
  rw [rounds_succ]
  go_wp2
  rw [rounds_succ]
  go_wp2
  refine wp_loop_rounds 2 ?_
  rw [rounds_succ]
  go_wp2_with (go_at_call 52; refine (cI.out _ (Below.refl _ _)).mono ?_; rintro e w1 ⟨rfl, hb1⟩)
  rw [rounds_succ]
  go_wp2_with (go_at_call 52; refine (cO.out _ hb1).mono ?_; rintro e w2 ⟨rfl, hb2⟩)
  go_ret
  exact ⟨rfl, ball (grown_one w _) hb2⟩

set_option maxRecDepth 100000 in
set_option maxHeartbeats 2000000 in
theorem whole_keeps (hs : Small n) (h0 : 0 ≤ n.places) (hf : (n.first.length : Int) = n.places) (hc : w.cell? ⟨bn, 0, none⟩ = some (.int .i64 n.places)) (hI : Ints A w (.slice adI n.ins.length capI) n.ins) (hO : Ints A w (.slice adO n.outs.length capO) n.outs) (hK : Ints A w (.slice adK n.keeps.length capK) n.keeps) (aI : n.ins.all (isPl n.places) = true) (aO : n.outs.all (isPl n.places) = true) (aK : n.keeps.all (isPl n.places) = false) :
    Calls Tryd.prog 39 #[.agg #[.int .i64 n.places, .slice adF n.first.length capF, .slice adI n.ins.length capI, .slice adO n.outs.length capO, .slice adK n.keeps.length capK, .slice adN n.nums.length capN, .slice adC n.code.length capC], .func (.func 38) #[] #[.pointer (some ⟨bn, 0, none⟩)]] w fun e w' => e = .returned (.int .i64 (2 : Int)) ∧ Below w.heap.size w w' := by
  have q0 := ixA0; have q1 := ixA1; have q2 := ixA2; have q3 := ixA3; have r0 := ixB0; have r1 := ixB1; have r2 := ixB2
  have s1 := hs.p; have s2 := hs.c; have s3 := hs.m; have s4 := hs.s
  have t1 : ((n.first.length : Int) != n.places) = false := by simpa using hf
  have HW : Hid (∀ w1, Below (w.alloc (.cells #[.int .i64 n.places, .slice adF n.first.length capF, .slice adI n.ins.length capI, .slice adO n.outs.length capO, .slice adK n.keeps.length capK, .slice adN n.nums.length capN, .slice adC n.code.length capC] 26)).heap.size (w.alloc (.cells #[.int .i64 n.places, .slice adF n.first.length capF, .slice adI n.ins.length capI, .slice adO n.outs.length capO, .slice adK n.keeps.length capK, .slice adN n.nums.length capN, .slice adC n.code.length capC] 26)) w1 → w1.cell? ⟨w.heap.size, 0, none⟩ = some (.int .i64 n.places) ∧ w1.cell? ⟨w.heap.size, 2, none⟩ = some (.slice adI n.ins.length capI)) := whole_cells n w adF adI adO adK adN adC capF capI capO capK capN capC
  have cI : Hid (∀ w1, Below (w.alloc (.cells #[.int .i64 n.places, .slice adF n.first.length capF, .slice adI n.ins.length capI, .slice adO n.outs.length capO, .slice adK n.keeps.length capK, .slice adN n.nums.length capN, .slice adC n.code.length capC] 26)).heap.size (w.alloc (.cells #[.int .i64 n.places, .slice adF n.first.length capF, .slice adI n.ins.length capI, .slice adO n.outs.length capO, .slice adK n.keeps.length capK, .slice adN n.nums.length capN, .slice adC n.code.length capC] 26)) w1 → Calls Tryd.prog 52 #[.slice adI n.ins.length capI, .func (.func 38) #[] #[.pointer (some ⟨bn, 0, none⟩)]] w1 fun e w' => e = .returned (.bool true) ∧ Below (w.alloc (.cells #[.int .i64 n.places, .slice adF n.first.length capF, .slice adI n.ins.length capI, .slice adO n.outs.length capO, .slice adK n.keeps.length capK, .slice adN n.nums.length capN, .slice adC n.code.length capC] 26)).heap.size (w.alloc (.cells #[.int .i64 n.places, .slice adF n.first.length capF, .slice adI n.ins.length capI, .slice adO n.outs.length capO, .slice adK n.keeps.length capK, .slice adN n.nums.length capN, .slice adC n.code.length capC] 26)) w') := fun w1 hb => by
    have := whole_calls n bn w _ n.ins hI (by omega) hc _ w1 (grown_one w _) hb
    rw [aI] at this
    exact this
  have cO : Hid (∀ w1, Below (w.alloc (.cells #[.int .i64 n.places, .slice adF n.first.length capF, .slice adI n.ins.length capI, .slice adO n.outs.length capO, .slice adK n.keeps.length capK, .slice adN n.nums.length capN, .slice adC n.code.length capC] 26)).heap.size (w.alloc (.cells #[.int .i64 n.places, .slice adF n.first.length capF, .slice adI n.ins.length capI, .slice adO n.outs.length capO, .slice adK n.keeps.length capK, .slice adN n.nums.length capN, .slice adC n.code.length capC] 26)) w1 → Calls Tryd.prog 52 #[.slice adO n.outs.length capO, .func (.func 38) #[] #[.pointer (some ⟨bn, 0, none⟩)]] w1 fun e w' => e = .returned (.bool true) ∧ Below (w.alloc (.cells #[.int .i64 n.places, .slice adF n.first.length capF, .slice adI n.ins.length capI, .slice adO n.outs.length capO, .slice adK n.keeps.length capK, .slice adN n.nums.length capN, .slice adC n.code.length capC] 26)).heap.size (w.alloc (.cells #[.int .i64 n.places, .slice adF n.first.length capF, .slice adI n.ins.length capI, .slice adO n.outs.length capO, .slice adK n.keeps.length capK, .slice adN n.nums.length capN, .slice adC n.code.length capC] 26)) w') := fun w1 hb => by
    have := whole_calls n bn w _ n.outs hO (by omega) hc _ w1 (grown_one w _) hb
    rw [aO] at this
    exact this
  have cK : Hid (∀ w1, Below (w.alloc (.cells #[.int .i64 n.places, .slice adF n.first.length capF, .slice adI n.ins.length capI, .slice adO n.outs.length capO, .slice adK n.keeps.length capK, .slice adN n.nums.length capN, .slice adC n.code.length capC] 26)).heap.size (w.alloc (.cells #[.int .i64 n.places, .slice adF n.first.length capF, .slice adI n.ins.length capI, .slice adO n.outs.length capO, .slice adK n.keeps.length capK, .slice adN n.nums.length capN, .slice adC n.code.length capC] 26)) w1 → Calls Tryd.prog 52 #[.slice adK n.keeps.length capK, .func (.func 38) #[] #[.pointer (some ⟨bn, 0, none⟩)]] w1 fun e w' => e = .returned (.bool false) ∧ Below (w.alloc (.cells #[.int .i64 n.places, .slice adF n.first.length capF, .slice adI n.ins.length capI, .slice adO n.outs.length capO, .slice adK n.keeps.length capK, .slice adN n.nums.length capN, .slice adC n.code.length capC] 26)).heap.size (w.alloc (.cells #[.int .i64 n.places, .slice adF n.first.length capF, .slice adI n.ins.length capI, .slice adO n.outs.length capO, .slice adK n.keeps.length capK, .slice adN n.nums.length capN, .slice adC n.code.length capC] 26)) w') := fun w1 hb => by
    have := whole_calls n bn w _ n.keeps hK (by omega) hc _ w1 (grown_one w _) hb
    rw [aK] at this
    exact this
  clear hf hs hc hI hO hK aI aO aK
  go_enter Tryd.func39, Tryd.ntmps39
  go_wp2
  refine wp_loop_rounds 5 ?_
  rw [rounds_succ]
  go_wp2
  rw [rounds_succ]
  go_wp2
  rw [rounds_succ]
  go_wp2
  rw [rounds_succ]
  go_wp2
  rw [rounds_succ]
  go_wp2
  refine wp_loop_rounds 3 ?_
  rw [rounds_succ]
  go_wp2_with (go_at_call 52; refine (cI.out _ (Below.refl _ _)).mono ?_; rintro e w1 ⟨rfl, hb1⟩)
  rw [rounds_succ]
  go_wp2_with (go_at_call 52; refine (cO.out _ hb1).mono ?_; rintro e w2 ⟨rfl, hb2⟩)
  rw [rounds_succ]
  go_wp2_with (go_at_call 52; refine (cK.out _ hb2).mono ?_; rintro e w3 ⟨rfl, hb3⟩)
  go_ret
  exact ⟨rfl, ball (grown_one w _) hb3⟩

set_option maxRecDepth 100000 in
set_option maxHeartbeats 2000000 in
theorem whole_dup (hs : Small n) (h0 : 0 ≤ n.places) (hf : (n.first.length : Int) = n.places) (hc : w.cell? ⟨bn, 0, none⟩ = some (.int .i64 n.places)) (hI : Ints A w (.slice adI n.ins.length capI) n.ins) (hO : Ints A w (.slice adO n.outs.length capO) n.outs) (hK : Ints A w (.slice adK n.keeps.length capK) n.keeps) (aI : n.ins.all (isPl n.places) = true) (aO : n.outs.all (isPl n.places) = true) (aK : n.keeps.all (isPl n.places) = true) (aT : decide (¬ n.ins.Nodup) = true) :
    Calls Tryd.prog 39 #[.agg #[.int .i64 n.places, .slice adF n.first.length capF, .slice adI n.ins.length capI, .slice adO n.outs.length capO, .slice adK n.keeps.length capK, .slice adN n.nums.length capN, .slice adC n.code.length capC], .func (.func 38) #[] #[.pointer (some ⟨bn, 0, none⟩)]] w fun e w' => e = .returned (.int .i64 (9 : Int)) ∧ Below w.heap.size w w' := by
  have q0 := ixA0; have q1 := ixA1; have q2 := ixA2; have q3 := ixA3; have r0 := ixB0; have r1 := ixB1; have r2 := ixB2
  have s1 := hs.p; have s2 := hs.c; have s3 := hs.m; have s4 := hs.s
  have t1 : ((n.first.length : Int) != n.places) = false := by simpa using hf
  have HW : Hid (∀ w1, Below (w.alloc (.cells #[.int .i64 n.places, .slice adF n.first.length capF, .slice adI n.ins.length capI, .slice adO n.outs.length capO, .slice adK n.keeps.length capK, .slice adN n.nums.length capN, .slice adC n.code.length capC] 26)).heap.size (w.alloc (.cells #[.int .i64 n.places, .slice adF n.first.length capF, .slice adI n.ins.length capI, .slice adO n.outs.length capO, .slice adK n.keeps.length capK, .slice adN n.nums.length capN, .slice adC n.code.length capC] 26)) w1 → w1.cell? ⟨w.heap.size, 0, none⟩ = some (.int .i64 n.places) ∧ w1.cell? ⟨w.heap.size, 2, none⟩ = some (.slice adI n.ins.length capI)) := whole_cells n w adF adI adO adK adN adC capF capI capO capK capN capC
  have cI : Hid (∀ w1, Below (w.alloc (.cells #[.int .i64 n.places, .slice adF n.first.length capF, .slice adI n.ins.length capI, .slice adO n.outs.length capO, .slice adK n.keeps.length capK, .slice adN n.nums.length capN, .slice adC n.code.length capC] 26)).heap.size (w.alloc (.cells #[.int .i64 n.places, .slice adF n.first.length capF, .slice adI n.ins.length capI, .slice adO n.outs.length capO, .slice adK n.keeps.length capK, .slice adN n.nums.length capN, .slice adC n.code.length capC] 26)) w1 → Calls Tryd.prog 52 #[.slice adI n.ins.length capI, .func (.func 38) #[] #[.pointer (some ⟨bn, 0, none⟩)]] w1 fun e w' => e = .returned (.bool true) ∧ Below (w.alloc (.cells #[.int .i64 n.places, .slice adF n.first.length capF, .slice adI n.ins.length capI, .slice adO n.outs.length capO, .slice adK n.keeps.length capK, .slice adN n.nums.length capN, .slice adC n.code.length capC] 26)).heap.size (w.alloc (.cells #[.int .i64 n.places, .slice adF n.first.length capF, .slice adI n.ins.length capI, .slice adO n.outs.length capO, .slice adK n.keeps.length capK, .slice adN n.nums.length capN, .slice adC n.code.length capC] 26)) w') := fun w1 hb => by
    have := whole_calls n bn w _ n.ins hI (by omega) hc _ w1 (grown_one w _) hb
    rw [aI] at this
    exact this
  have cO : Hid (∀ w1, Below (w.alloc (.cells #[.int .i64 n.places, .slice adF n.first.length capF, .slice adI n.ins.length capI, .slice adO n.outs.length capO, .slice adK n.keeps.length capK, .slice adN n.nums.length capN, .slice adC n.code.length capC] 26)).heap.size (w.alloc (.cells #[.int .i64 n.places, .slice adF n.first.length capF, .slice adI n.ins.length capI, .slice adO n.outs.length capO, .slice adK n.keeps.length capK, .slice adN n.nums.length capN, .slice adC n.code.length capC] 26)) w1 → Calls Tryd.prog 52 #[.slice adO n.outs.length capO, .func (.func 38) #[] #[.pointer (some ⟨bn, 0, none⟩)]] w1 fun e w' => e = .returned (.bool true) ∧ Below (w.alloc (.cells #[.int .i64 n.places, .slice adF n.first.length capF, .slice adI n.ins.length capI, .slice adO n.outs.length capO, .slice adK n.keeps.length capK, .slice adN n.nums.length capN, .slice adC n.code.length capC] 26)).heap.size (w.alloc (.cells #[.int .i64 n.places, .slice adF n.first.length capF, .slice adI n.ins.length capI, .slice adO n.outs.length capO, .slice adK n.keeps.length capK, .slice adN n.nums.length capN, .slice adC n.code.length capC] 26)) w') := fun w1 hb => by
    have := whole_calls n bn w _ n.outs hO (by omega) hc _ w1 (grown_one w _) hb
    rw [aO] at this
    exact this
  have cK : Hid (∀ w1, Below (w.alloc (.cells #[.int .i64 n.places, .slice adF n.first.length capF, .slice adI n.ins.length capI, .slice adO n.outs.length capO, .slice adK n.keeps.length capK, .slice adN n.nums.length capN, .slice adC n.code.length capC] 26)).heap.size (w.alloc (.cells #[.int .i64 n.places, .slice adF n.first.length capF, .slice adI n.ins.length capI, .slice adO n.outs.length capO, .slice adK n.keeps.length capK, .slice adN n.nums.length capN, .slice adC n.code.length capC] 26)) w1 → Calls Tryd.prog 52 #[.slice adK n.keeps.length capK, .func (.func 38) #[] #[.pointer (some ⟨bn, 0, none⟩)]] w1 fun e w' => e = .returned (.bool true) ∧ Below (w.alloc (.cells #[.int .i64 n.places, .slice adF n.first.length capF, .slice adI n.ins.length capI, .slice adO n.outs.length capO, .slice adK n.keeps.length capK, .slice adN n.nums.length capN, .slice adC n.code.length capC] 26)).heap.size (w.alloc (.cells #[.int .i64 n.places, .slice adF n.first.length capF, .slice adI n.ins.length capI, .slice adO n.outs.length capO, .slice adK n.keeps.length capK, .slice adN n.nums.length capN, .slice adC n.code.length capC] 26)) w') := fun w1 hb => by
    have := whole_calls n bn w _ n.keeps hK (by omega) hc _ w1 (grown_one w _) hb
    rw [aK] at this
    exact this
  have cT : Hid (∀ w1, Below (w.alloc (.cells #[.int .i64 n.places, .slice adF n.first.length capF, .slice adI n.ins.length capI, .slice adO n.outs.length capO, .slice adK n.keeps.length capK, .slice adN n.nums.length capN, .slice adC n.code.length capC] 26)).heap.size (w.alloc (.cells #[.int .i64 n.places, .slice adF n.first.length capF, .slice adI n.ins.length capI, .slice adO n.outs.length capO, .slice adK n.keeps.length capK, .slice adN n.nums.length capN, .slice adC n.code.length capC] 26)) w1 → Calls Tryd.prog 53 #[.slice adI n.ins.length capI] w1 fun e w' => e = .returned (.bool true) ∧ Below (w.alloc (.cells #[.int .i64 n.places, .slice adF n.first.length capF, .slice adI n.ins.length capI, .slice adO n.outs.length capO, .slice adK n.keeps.length capK, .slice adN n.nums.length capN, .slice adC n.code.length capC] 26)).heap.size (w.alloc (.cells #[.int .i64 n.places, .slice adF n.first.length capF, .slice adI n.ins.length capI, .slice adO n.outs.length capO, .slice adK n.keeps.length capK, .slice adN n.nums.length capN, .slice adC n.code.length capC] 26)) w') := fun w1 hb => by
    have hb' := ball (grown_one w _) hb
    have := twice_any _ n.ins w1 (hI.carry fun b ha hl => ⟨ha, hb'.block b hl⟩) (by omega)
    rw [aT] at this
    exact this.mono fun e w' ⟨he, hb2⟩ => ⟨he, ball hb hb2⟩
  clear hf hs hc hI hO hK aI aO aK aT
  go_enter Tryd.func39, Tryd.ntmps39
  go_wp2
  refine wp_loop_rounds 5 ?_
  rw [rounds_succ]
  go_wp2
  rw [rounds_succ]
  go_wp2
  rw [rounds_succ]
  go_wp2
  rw [rounds_succ]
  go_wp2
  rw [rounds_succ]
  go_wp2
  refine wp_loop_rounds 4 ?_
  rw [rounds_succ]
  go_wp2_with (go_at_call 52; refine (cI.out _ (Below.refl _ _)).mono ?_; rintro e w1 ⟨rfl, hb1⟩)
  rw [rounds_succ]
  go_wp2_with (go_at_call 52; refine (cO.out _ hb1).mono ?_; rintro e w2 ⟨rfl, hb2⟩)
  rw [rounds_succ]
  go_wp2_with (go_at_call 52; refine (cK.out _ hb2).mono ?_; rintro e w3 ⟨rfl, hb3⟩)
  have dd := HW.out w3 hb3
  obtain ⟨d0, d2⟩ := dd
  rw [rounds_succ]
  go_wp2_with (go_at_call 53; refine (cT.out _ hb3).mono ?_; rintro e w4 ⟨rfl, hb4⟩)
  go_ret
  exact ⟨rfl, ball (grown_one w _) hb4⟩

set_option maxRecDepth 100000 in
set_option maxHeartbeats 2000000 in
theorem whole_fine (hs : Small n) (h0 : 0 ≤ n.places) (hf : (n.first.length : Int) = n.places) (hc : w.cell? ⟨bn, 0, none⟩ = some (.int .i64 n.places)) (hI : Ints A w (.slice adI n.ins.length capI) n.ins) (hO : Ints A w (.slice adO n.outs.length capO) n.outs) (hK : Ints A w (.slice adK n.keeps.length capK) n.keeps) (aI : n.ins.all (isPl n.places) = true) (aO : n.outs.all (isPl n.places) = true) (aK : n.keeps.all (isPl n.places) = true) (aT : decide (¬ n.ins.Nodup) = false) :
    Calls Tryd.prog 39 #[.agg #[.int .i64 n.places, .slice adF n.first.length capF, .slice adI n.ins.length capI, .slice adO n.outs.length capO, .slice adK n.keeps.length capK, .slice adN n.nums.length capN, .slice adC n.code.length capC], .func (.func 38) #[] #[.pointer (some ⟨bn, 0, none⟩)]] w fun e w' => e = .returned (.int .i64 (0 : Int)) ∧ Below w.heap.size w w' := by
  have q0 := ixA0; have q1 := ixA1; have q2 := ixA2; have q3 := ixA3; have r0 := ixB0; have r1 := ixB1; have r2 := ixB2
  have s1 := hs.p; have s2 := hs.c; have s3 := hs.m; have s4 := hs.s
  have t1 : ((n.first.length : Int) != n.places) = false := by simpa using hf
  have HW : Hid (∀ w1, Below (w.alloc (.cells #[.int .i64 n.places, .slice adF n.first.length capF, .slice adI n.ins.length capI, .slice adO n.outs.length capO, .slice adK n.keeps.length capK, .slice adN n.nums.length capN, .slice adC n.code.length capC] 26)).heap.size (w.alloc (.cells #[.int .i64 n.places, .slice adF n.first.length capF, .slice adI n.ins.length capI, .slice adO n.outs.length capO, .slice adK n.keeps.length capK, .slice adN n.nums.length capN, .slice adC n.code.length capC] 26)) w1 → w1.cell? ⟨w.heap.size, 0, none⟩ = some (.int .i64 n.places) ∧ w1.cell? ⟨w.heap.size, 2, none⟩ = some (.slice adI n.ins.length capI)) := whole_cells n w adF adI adO adK adN adC capF capI capO capK capN capC
  have cI : Hid (∀ w1, Below (w.alloc (.cells #[.int .i64 n.places, .slice adF n.first.length capF, .slice adI n.ins.length capI, .slice adO n.outs.length capO, .slice adK n.keeps.length capK, .slice adN n.nums.length capN, .slice adC n.code.length capC] 26)).heap.size (w.alloc (.cells #[.int .i64 n.places, .slice adF n.first.length capF, .slice adI n.ins.length capI, .slice adO n.outs.length capO, .slice adK n.keeps.length capK, .slice adN n.nums.length capN, .slice adC n.code.length capC] 26)) w1 → Calls Tryd.prog 52 #[.slice adI n.ins.length capI, .func (.func 38) #[] #[.pointer (some ⟨bn, 0, none⟩)]] w1 fun e w' => e = .returned (.bool true) ∧ Below (w.alloc (.cells #[.int .i64 n.places, .slice adF n.first.length capF, .slice adI n.ins.length capI, .slice adO n.outs.length capO, .slice adK n.keeps.length capK, .slice adN n.nums.length capN, .slice adC n.code.length capC] 26)).heap.size (w.alloc (.cells #[.int .i64 n.places, .slice adF n.first.length capF, .slice adI n.ins.length capI, .slice adO n.outs.length capO, .slice adK n.keeps.length capK, .slice adN n.nums.length capN, .slice adC n.code.length capC] 26)) w') := fun w1 hb => by
    have := whole_calls n bn w _ n.ins hI (by omega) hc _ w1 (grown_one w _) hb
    rw [aI] at this
    exact this
  have cO : Hid (∀ w1, Below (w.alloc (.cells #[.int .i64 n.places, .slice adF n.first.length capF, .slice adI n.ins.length capI, .slice adO n.outs.length capO, .slice adK n.keeps.length capK, .slice adN n.nums.length capN, .slice adC n.code.length capC] 26)).heap.size (w.alloc (.cells #[.int .i64 n.places, .slice adF n.first.length capF, .slice adI n.ins.length capI, .slice adO n.outs.length capO, .slice adK n.keeps.length capK, .slice adN n.nums.length capN, .slice adC n.code.length capC] 26)) w1 → Calls Tryd.prog 52 #[.slice adO n.outs.length capO, .func (.func 38) #[] #[.pointer (some ⟨bn, 0, none⟩)]] w1 fun e w' => e = .returned (.bool true) ∧ Below (w.alloc (.cells #[.int .i64 n.places, .slice adF n.first.length capF, .slice adI n.ins.length capI, .slice adO n.outs.length capO, .slice adK n.keeps.length capK, .slice adN n.nums.length capN, .slice adC n.code.length capC] 26)).heap.size (w.alloc (.cells #[.int .i64 n.places, .slice adF n.first.length capF, .slice adI n.ins.length capI, .slice adO n.outs.length capO, .slice adK n.keeps.length capK, .slice adN n.nums.length capN, .slice adC n.code.length capC] 26)) w') := fun w1 hb => by
    have := whole_calls n bn w _ n.outs hO (by omega) hc _ w1 (grown_one w _) hb
    rw [aO] at this
    exact this
  have cK : Hid (∀ w1, Below (w.alloc (.cells #[.int .i64 n.places, .slice adF n.first.length capF, .slice adI n.ins.length capI, .slice adO n.outs.length capO, .slice adK n.keeps.length capK, .slice adN n.nums.length capN, .slice adC n.code.length capC] 26)).heap.size (w.alloc (.cells #[.int .i64 n.places, .slice adF n.first.length capF, .slice adI n.ins.length capI, .slice adO n.outs.length capO, .slice adK n.keeps.length capK, .slice adN n.nums.length capN, .slice adC n.code.length capC] 26)) w1 → Calls Tryd.prog 52 #[.slice adK n.keeps.length capK, .func (.func 38) #[] #[.pointer (some ⟨bn, 0, none⟩)]] w1 fun e w' => e = .returned (.bool true) ∧ Below (w.alloc (.cells #[.int .i64 n.places, .slice adF n.first.length capF, .slice adI n.ins.length capI, .slice adO n.outs.length capO, .slice adK n.keeps.length capK, .slice adN n.nums.length capN, .slice adC n.code.length capC] 26)).heap.size (w.alloc (.cells #[.int .i64 n.places, .slice adF n.first.length capF, .slice adI n.ins.length capI, .slice adO n.outs.length capO, .slice adK n.keeps.length capK, .slice adN n.nums.length capN, .slice adC n.code.length capC] 26)) w') := fun w1 hb => by
    have := whole_calls n bn w _ n.keeps hK (by omega) hc _ w1 (grown_one w _) hb
    rw [aK] at this
    exact this
  have cT : Hid (∀ w1, Below (w.alloc (.cells #[.int .i64 n.places, .slice adF n.first.length capF, .slice adI n.ins.length capI, .slice adO n.outs.length capO, .slice adK n.keeps.length capK, .slice adN n.nums.length capN, .slice adC n.code.length capC] 26)).heap.size (w.alloc (.cells #[.int .i64 n.places, .slice adF n.first.length capF, .slice adI n.ins.length capI, .slice adO n.outs.length capO, .slice adK n.keeps.length capK, .slice adN n.nums.length capN, .slice adC n.code.length capC] 26)) w1 → Calls Tryd.prog 53 #[.slice adI n.ins.length capI] w1 fun e w' => e = .returned (.bool false) ∧ Below (w.alloc (.cells #[.int .i64 n.places, .slice adF n.first.length capF, .slice adI n.ins.length capI, .slice adO n.outs.length capO, .slice adK n.keeps.length capK, .slice adN n.nums.length capN, .slice adC n.code.length capC] 26)).heap.size (w.alloc (.cells #[.int .i64 n.places, .slice adF n.first.length capF, .slice adI n.ins.length capI, .slice adO n.outs.length capO, .slice adK n.keeps.length capK, .slice adN n.nums.length capN, .slice adC n.code.length capC] 26)) w') := fun w1 hb => by
    have hb' := ball (grown_one w _) hb
    have := twice_any _ n.ins w1 (hI.carry fun b ha hl => ⟨ha, hb'.block b hl⟩) (by omega)
    rw [aT] at this
    exact this.mono fun e w' ⟨he, hb2⟩ => ⟨he, ball hb hb2⟩
  clear hf hs hc hI hO hK aI aO aK aT
  go_enter Tryd.func39, Tryd.ntmps39
  go_wp2
  refine wp_loop_rounds 5 ?_
  rw [rounds_succ]
  go_wp2
  rw [rounds_succ]
  go_wp2
  rw [rounds_succ]
  go_wp2
  rw [rounds_succ]
  go_wp2
  rw [rounds_succ]
  go_wp2
  refine wp_loop_rounds 4 ?_
  rw [rounds_succ]
  go_wp2_with (go_at_call 52; refine (cI.out _ (Below.refl _ _)).mono ?_; rintro e w1 ⟨rfl, hb1⟩)
  rw [rounds_succ]
  go_wp2_with (go_at_call 52; refine (cO.out _ hb1).mono ?_; rintro e w2 ⟨rfl, hb2⟩)
  rw [rounds_succ]
  go_wp2_with (go_at_call 52; refine (cK.out _ hb2).mono ?_; rintro e w3 ⟨rfl, hb3⟩)
  have dd := HW.out w3 hb3
  obtain ⟨d0, d2⟩ := dd
  rw [rounds_succ]
  go_wp2_with (go_at_call 53; refine (cT.out _ hb3).mono ?_; rintro e w4 ⟨rfl, hb4⟩)
  go_ret
  exact ⟨rfl, ball (grown_one w _) hb4⟩

end
end Nx
end Go.Proofs.YtalfelkblbbmpaaDoor
