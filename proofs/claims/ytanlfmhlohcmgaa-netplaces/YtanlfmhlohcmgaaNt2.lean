/- What net's made answers: what a step makes of numbers, and of places. -/
import Derived.Test.YtanlfmhlohcmgaaNt1
import Derived.Test.YtanlfmhlohcmgaaVTwos
import Derived.Lib.QuietBelow
import Derived.Deep.QuietTactic
namespace Go.Proofs.Ytanlfmhlohcmgaa
open Go.RowKit Go.Sort
namespace Nx

theorem ball {w w' w'' : World} (h : Below w.heap.size w w') (k : Below w'.heap.size w' w'') : Below w.heap.size w w'' := h.trans (k.mono h.size)
theorem cell_below {w w' : World} (h : Below w.heap.size w w') {b o : Nat} {v : Value} (hc : w.cell? ⟨b, o, none⟩ = some v) : w'.cell? ⟨b, o, none⟩ = some v := by
  rw [cell_of_block (h.block b (lt_of_cell hc))]; exact hc
theorem grown_one (w : World) (o : Obj) : Below w.heap.size w (w.alloc o) := (Below.refl _ _).alloc (Nat.le_refl _) _

/-- what there is of a machine that a step asks: the closure's pointer, the machine's places, the numbers -/
structure MV (A : Nat → Prop) (w : World) (q bm g : Nat) (vp vN : Value) (V nums : List Int) : Prop where
  q : w.cell? ⟨q, 0, none⟩ = some (.pointer (some ⟨bm, 0, none⟩))
  p : w.cell? ⟨bm, 7, none⟩ = some vp
  own : Own w vp V g
  gl : 0 < V.length → g < w.heap.size
  nums : Ints A w vN nums
theorem MV.below {A : Nat → Prop} {w w' : World} {q bm g : Nat} {vp vN : Value} {V nums : List Int} (h : MV A w q bm g vp vN V nums) (hb : Below w.heap.size w w') : MV A w' q bm g vp vN V nums := by
  refine ⟨?_, ?_, ?_, fun hp => Nat.lt_of_lt_of_le (h.gl hp) hb.size, ?_⟩
  · rw [cell_of_block (hb.block q (lt_of_cell h.q))]; exact h.q
  · rw [cell_of_block (hb.block bm (lt_of_cell h.p))]; exact h.p
  · by_cases hp : 0 < V.length
    · exact h.own.keep (hb.block g (h.gl hp))
    · obtain ⟨ad, cap, rfl, _⟩ := h.own
      exact ⟨ad, cap, rfl, fun hp' => absurd hp' hp⟩
  · exact h.nums.carry fun b ha hl => ⟨ha, hb.block b hl⟩
theorem MV.ask {A : Nat → Prop} {w : World} {q bm g : Nat} {vp vN : Value} {V nums : List Int} (h : MV A w q bm g vp vN V nums) (i : Int) :
    Calls Try.prog 17 #[.int .i64 i, .pointer (some ⟨q, 0, none⟩)] w fun e w' => e = .returned (.int .i64 (get V i)) ∧ w' = w :=
  ask_any q bm vp V g i w h.q h.p h.own

def stepV (s : Sp) : Value := .agg #[.int .i64 s.code, .int .i64 s.dst, .int .i64 s.a, .int .i64 s.b, .int .i64 s.c]
def askV (q : Nat) : Value := .func (.func 17) #[] #[.pointer (some ⟨q, 0, none⟩)]

section
variable {A : Nat → Prop} (w : World) (q bm g : Nat) (vp vN : Value) (V nums : List Int) (s : Sp)

set_option maxHeartbeats 400000 in
theorem made_num (h : MV A w q bm g vp vN V nums) (hc : s.code = 1) :
    Calls Try.prog 20 #[.agg #[.int .i64 s.code, .int .i64 s.dst, .int .i64 s.a, .int .i64 s.b, .int .i64 s.c], vN, .func (.func 17) #[] #[.pointer (some ⟨q, 0, none⟩)]] w fun e w' => e = .returned (.int .i64 (get nums s.a)) ∧ Below w.heap.size w w' := by
  have ha := fun o => at_any vN nums s.a (w.alloc o) (h.below (grown_one w o)).nums
  clear h
  obtain ⟨code, dst, a, b, c⟩ := s
  subst hc
  go_enter Try.func20, Try.ntmps20
  go_wp2_with (go_at_call 18; refine (ha _).mono ?_; rintro e w' ⟨rfl, rfl⟩)
  go_ret
  exact ⟨rfl, grown_one w _⟩

set_option maxHeartbeats 400000 in
theorem made_var (h : MV A w q bm g vp vN V nums) (hc : s.code = 2) :
    Calls Try.prog 20 #[.agg #[.int .i64 s.code, .int .i64 s.dst, .int .i64 s.a, .int .i64 s.b, .int .i64 s.c], vN, .func (.func 17) #[] #[.pointer (some ⟨q, 0, none⟩)]] w fun e w' => e = .returned (.int .i64 (get V s.a)) ∧ Below w.heap.size w w' := by
  have ha := fun o => (h.below (grown_one w o)).ask s.a
  clear h
  obtain ⟨code, dst, a, b, c⟩ := s
  subst hc
  go_enter Try.func20, Try.ntmps20
  go_wp2_with (go_at_call 17; refine (ha _).mono ?_; rintro e w' ⟨rfl, rfl⟩)
  go_ret
  exact ⟨rfl, grown_one w _⟩

theorem one_q (c a : Int) (w : World) (d : Nat) (os : Array Obj) :
    Calls Try.prog 25 #[.int .i64 c, .int .i64 a] (grow (redrawn w d) os) fun e w'' => e = .returned (.int .i64 (vOne c a)) ∧ ∃ p : Regrown, w'' = grow (redrawn w p.d) p.os :=
  Calls.regrown_of ((one_any c a _).mono fun _ _ ⟨he, hw⟩ => ⟨he, by rw [hw]; exact Below.refl _ _⟩)
theorem pick_q (a b c : Int) (w : World) (d : Nat) (os : Array Obj) :
    Calls Try.prog 26 #[.int .i64 a, .int .i64 b, .int .i64 c] (grow (redrawn w d) os) fun e w'' => e = .returned (.int .i64 (vPick a b c)) ∧ ∃ p : Regrown, w'' = grow (redrawn w p.d) p.os :=
  Calls.regrown_of ((pick_any a b c _).mono fun _ _ ⟨he, hw⟩ => ⟨he, by rw [hw]; exact Below.refl _ _⟩)
theorem two_q (c a b : Int) (w : World) (d : Nat) (os : Array Obj) :
    Calls Try.prog 27 #[.int .i64 c, .int .i64 a, .int .i64 b] (grow (redrawn w d) os) fun e w'' => e = .returned (.int .i64 (vTwo c a b)) ∧ ∃ p : Regrown, w'' = grow (redrawn w p.d) p.os :=
  Calls.regrown_of ((two_any c a b _).mono fun _ _ ⟨he, hw⟩ => ⟨he, by rw [hw]; exact grown_one _ _⟩)

set_option maxHeartbeats 400000 in
theorem made_one (h : MV A w q bm g vp vN V nums) (hc : s.code = 4 ∨ s.code = 5) :
    Calls Try.prog 20 #[.agg #[.int .i64 s.code, .int .i64 s.dst, .int .i64 s.a, .int .i64 s.b, .int .i64 s.c], vN, .func (.func 17) #[] #[.pointer (some ⟨q, 0, none⟩)]] w fun e w' => e = .returned (.int .i64 (vOne s.code (get V s.a))) ∧ Below w.heap.size w w' := by
  have hask := fun o d os i => Calls.regrown_of (((h.below (ball (grown_one w o) (below_regrown (w.alloc o) d os))).ask i).mono fun _ _ ⟨he, hw⟩ => ⟨he, by rw [hw]; exact Below.refl _ _⟩)
  have hone := one_q
  clear h
  obtain ⟨code, dst, a, b, c⟩ := s
  simp only at hc
  have cq0 := fun d os => cell_regrown (show (w.alloc (.cells #[.int .i64 code, .int .i64 dst, .int .i64 a, .int .i64 b, .int .i64 c] 37)).cell? ⟨w.heap.size, 0, none⟩ = some (.int .i64 code) by simp) d os
  have cq2 := fun d os => cell_regrown (show (w.alloc (.cells #[.int .i64 code, .int .i64 dst, .int .i64 a, .int .i64 b, .int .i64 c] 37)).cell? ⟨w.heap.size, 2, none⟩ = some (.int .i64 a) by simp) d os
  rcases hc with rfl | rfl
  all_goals
    go_enter Try.func20, Try.ntmps20
    go_wp2_with fail
    refine wp_region_quiet_below (by kernel_rfl) (by kernel_rfl) ?_
    repeat (quiet_step (first | exact hask _ _ _ _ | exact hone _ _ _ _ _))
    refine wpQuiet_nil ?_
    intro _ hw'
    obtain ⟨⟨dq, osq⟩, hw''⟩ := hw'
    subst hw''
    go_wp2_with fail
    go_ret
    exact ⟨rfl, ball (grown_one w _) (below_regrown _ dq osq)⟩

set_option maxHeartbeats 400000 in
theorem made_pick (h : MV A w q bm g vp vN V nums) (hc : s.code = 17) :
    Calls Try.prog 20 #[.agg #[.int .i64 s.code, .int .i64 s.dst, .int .i64 s.a, .int .i64 s.b, .int .i64 s.c], vN, .func (.func 17) #[] #[.pointer (some ⟨q, 0, none⟩)]] w fun e w' => e = .returned (.int .i64 (vPick (get V s.a) (get V s.b) (get V s.c))) ∧ Below w.heap.size w w' := by
  have hask := fun o d os i => Calls.regrown_of (((h.below (ball (grown_one w o) (below_regrown (w.alloc o) d os))).ask i).mono fun _ _ ⟨he, hw⟩ => ⟨he, by rw [hw]; exact Below.refl _ _⟩)
  have hone := pick_q
  clear h
  obtain ⟨code, dst, a, b, c⟩ := s
  simp only at hc
  subst hc
  have cq2 := fun d os => cell_regrown (show (w.alloc (.cells #[.int .i64 17, .int .i64 dst, .int .i64 a, .int .i64 b, .int .i64 c] 37)).cell? ⟨w.heap.size, 2, none⟩ = some (.int .i64 a) by simp) d os
  have cq3 := fun d os => cell_regrown (show (w.alloc (.cells #[.int .i64 17, .int .i64 dst, .int .i64 a, .int .i64 b, .int .i64 c] 37)).cell? ⟨w.heap.size, 3, none⟩ = some (.int .i64 b) by simp) d os
  have cq4 := fun d os => cell_regrown (show (w.alloc (.cells #[.int .i64 17, .int .i64 dst, .int .i64 a, .int .i64 b, .int .i64 c] 37)).cell? ⟨w.heap.size, 4, none⟩ = some (.int .i64 c) by simp) d os
  go_enter Try.func20, Try.ntmps20
  go_wp2_with fail
  refine wp_region_quiet_below (by kernel_rfl) (by kernel_rfl) ?_
  repeat (quiet_step (first | exact hask _ _ _ _ | exact hone _ _ _ _ _ _))
  refine wpQuiet_nil ?_
  intro _ hw'
  obtain ⟨⟨dq, osq⟩, hw''⟩ := hw'
  subst hw''
  go_wp2_with fail
  go_ret
  exact ⟨rfl, ball (grown_one w _) (below_regrown _ dq osq)⟩

set_option maxHeartbeats 400000 in
theorem made_two (h : MV A w q bm g vp vN V nums) (h1 : s.code ≠ 1) (h2 : s.code ≠ 2) (h4 : s.code ≠ 4) (h5 : s.code ≠ 5) (h17 : s.code ≠ 17) :
    Calls Try.prog 20 #[.agg #[.int .i64 s.code, .int .i64 s.dst, .int .i64 s.a, .int .i64 s.b, .int .i64 s.c], vN, .func (.func 17) #[] #[.pointer (some ⟨q, 0, none⟩)]] w fun e w' => e = .returned (.int .i64 (vTwo s.code (get V s.a) (get V s.b))) ∧ Below w.heap.size w w' := by
  have hask := fun o d os i => Calls.regrown_of (((h.below (ball (grown_one w o) (below_regrown (w.alloc o) d os))).ask i).mono fun _ _ ⟨he, hw⟩ => ⟨he, by rw [hw]; exact Below.refl _ _⟩)
  have hone := two_q
  clear h
  obtain ⟨code, dst, a, b, c⟩ := s
  have t1 : (code == 1) = false := by simpa using h1
  have t2 : (code == 2) = false := by simpa using h2
  have t4 : (code == 4) = false := by simpa using h4
  have t5 : (code == 5) = false := by simpa using h5
  have t17 : (code == 17) = false := by simpa using h17
  clear h1 h2 h4 h5 h17
  have cq0 := fun d os => cell_regrown (show (w.alloc (.cells #[.int .i64 code, .int .i64 dst, .int .i64 a, .int .i64 b, .int .i64 c] 37)).cell? ⟨w.heap.size, 0, none⟩ = some (.int .i64 code) by simp) d os
  have cq2 := fun d os => cell_regrown (show (w.alloc (.cells #[.int .i64 code, .int .i64 dst, .int .i64 a, .int .i64 b, .int .i64 c] 37)).cell? ⟨w.heap.size, 2, none⟩ = some (.int .i64 a) by simp) d os
  have cq3 := fun d os => cell_regrown (show (w.alloc (.cells #[.int .i64 code, .int .i64 dst, .int .i64 a, .int .i64 b, .int .i64 c] 37)).cell? ⟨w.heap.size, 3, none⟩ = some (.int .i64 b) by simp) d os
  go_enter Try.func20, Try.ntmps20
  go_wp2_with fail
  refine wp_region_quiet_below (by kernel_rfl) (by kernel_rfl) ?_
  repeat (quiet_step (first | exact hask _ _ _ _ | exact hone _ _ _ _ _ _))
  refine wpQuiet_nil ?_
  intro _ hw'
  obtain ⟨⟨dq, osq⟩, hw''⟩ := hw'
  subst hw''
  go_wp2_with fail
  go_ret
  exact ⟨rfl, ball (grown_one w _) (below_regrown _ dq osq)⟩

theorem made_any (h : MV A w q bm g vp vN V nums) :
    Calls Try.prog 20 #[.agg #[.int .i64 s.code, .int .i64 s.dst, .int .i64 s.a, .int .i64 s.b, .int .i64 s.c], vN, .func (.func 17) #[] #[.pointer (some ⟨q, 0, none⟩)]] w fun e w' => e = .returned (.int .i64 (made nums V s)) ∧ Below w.heap.size w w' := by
  unfold made
  by_cases h1 : s.code = 1
  · rw [if_pos h1]; exact made_num w q bm g vp vN V nums s h h1
  rw [if_neg h1]
  by_cases h2 : s.code = 2
  · rw [if_pos h2]; exact made_var w q bm g vp vN V nums s h h2
  rw [if_neg h2]
  by_cases h4 : s.code = 4 ∨ s.code = 5
  · rw [if_pos h4]; exact made_one w q bm g vp vN V nums s h h4
  rw [if_neg h4]
  by_cases h17 : s.code = 17
  · rw [if_pos h17]; exact made_pick w q bm g vp vN V nums s h h17
  rw [if_neg h17]
  exact made_two w q bm g vp vN V nums s h h1 h2 (fun e => h4 (.inl e)) (fun e => h4 (.inr e)) h17
end

end Nx
end Go.Proofs.Ytanlfmhlohcmgaa
