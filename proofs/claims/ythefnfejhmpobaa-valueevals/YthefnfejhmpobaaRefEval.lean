/-
  What the document's own Eval returns of an expression that lies in memory.
-/
import Derived.Test.YthefnfejhmpobaaAsk
import Derived.Deep.RegionWith
namespace Go.Proofs.Ythefnfejhmpobaa
open Go.RowKit Go.Sort

set_option maxHeartbeats 400000 in
theorem refEval_num (n : Int) (b m1 m2 : Nat) (w : World) (c0 : w.cell? ⟨b, 0, none⟩ = some (.int .i64 1)) (c1 : w.cell? ⟨b, 1, none⟩ = some (.int .i64 n)) :
    Calls Try.prog 15 #[.pointer (some ⟨b, 0, none⟩), .map (some m1), .map (some m2)] w fun e w' => e = .returned (.int .i64 n) ∧ Below w.heap.size w w' := by
  go_enter Try.func15, Try.ntmps15
  go_wp2_with fail
  go_ret
  exact ⟨rfl, Below.refl _ _⟩

set_option maxHeartbeats 400000 in
theorem refEval_var (s : ByteArray) (v : Int) (b m1 m2 : Nat) (w : World) (c0 : w.cell? ⟨b, 0, none⟩ = some (.int .i64 2)) (c1 : w.cell? ⟨b, 2, none⟩ = some (.string s)) (ht : Tells w m1 s v) :
    Calls Try.prog 15 #[.pointer (some ⟨b, 0, none⟩), .map (some m1), .map (some m2)] w fun e w' => e = .returned (.int .i64 v) ∧ Below w.heap.size w w' := by
  have hl := ht w (Below.refl _ _)
  clear ht
  go_enter Try.func15, Try.ntmps15
  go_wp2_with fail
  go_ret
  exact ⟨rfl, Below.refl _ _⟩

set_option maxHeartbeats 400000 in
theorem refEval_pre (s : ByteArray) (v : Int) (b m1 m2 : Nat) (w : World) (c0 : w.cell? ⟨b, 0, none⟩ = some (.int .i64 3)) (c1 : w.cell? ⟨b, 2, none⟩ = some (.string s)) (ht : Tells w m2 s v) :
    Calls Try.prog 15 #[.pointer (some ⟨b, 0, none⟩), .map (some m1), .map (some m2)] w fun e w' => e = .returned (.int .i64 v) ∧ Below w.heap.size w w' := by
  have hl := ht w (Below.refl _ _)
  clear ht
  go_enter Try.func15, Try.ntmps15
  go_wp2_with fail
  go_ret
  exact ⟨rfl, Below.refl _ _⟩

def RefEvals (m1 m2 : Nat) (b : Nat) (v : Int) (w : World) : Prop :=
  ∀ w', Below w.heap.size w w' → Calls Try.prog 15 #[.pointer (some ⟨b, 0, none⟩), .map (some m1), .map (some m2)] w' fun e w'' => e = .returned (.int .i64 v) ∧ Below w'.heap.size w' w''

theorem refOne_q (c a : Int) (w : World) (d : Nat) (os : Array Obj) :
    Calls Try.prog 7 #[.int .i64 c, .int .i64 a] (grow (redrawn w d) os) fun e w'' => e = .returned (.int .i64 (vOne c a)) ∧ ∃ p : Regrown, w'' = grow (redrawn w p.d) p.os :=
  Calls.regrown_of ((refOne_any c a _).mono fun _ _ ⟨he, hw⟩ => ⟨he, by rw [hw]; exact Below.refl _ _⟩)

theorem refTwo_q (c a b : Int) (ha : -9223372036854775808 ≤ a ∧ a ≤ 9223372036854775807) (hb : -9223372036854775808 ≤ b ∧ b ≤ 9223372036854775807) (w : World) (d : Nat) (os : Array Obj) :
    Calls Try.prog 9 #[.int .i64 c, .int .i64 a, .int .i64 b] (grow (redrawn w d) os) fun e w'' => e = .returned (.int .i64 (vTwo c a b)) ∧ ∃ p : Regrown, w'' = grow (redrawn w p.d) p.os :=
  Calls.regrown_of ((refTwo_any c a b _ ha hb).mono fun _ _ ⟨he, hw⟩ => ⟨he, by rw [hw]; exact Below.refl _ _⟩)

set_option maxHeartbeats 400000 in
theorem refEval_one (c v : Int) (b b' m1 m2 : Nat) (w : World) (h0 : w.cell? ⟨b, 0, none⟩ = some (.int .i64 c)) (hc : c = 4 ∨ c = 5) (h3 : w.cell? ⟨b, 3, none⟩ = some (.pointer (some ⟨b', 0, none⟩)))
    (he : RefEvals m1 m2 b' v w) :
    Calls Try.prog 15 #[.pointer (some ⟨b, 0, none⟩), .map (some m1), .map (some m2)] w fun e w' => e = .returned (.int .i64 (vOne c v)) ∧ Below w.heap.size w w' := by
  have cq0 := fun d os => cell_regrown h0 d os
  have cq3 := fun d os => cell_regrown h3 d os
  have hcall := fun d os => Calls.regrown_of (he (grow (redrawn w d) os) (below_regrown _ d os))
  have hone := refOne_q
  clear h3 he
  rcases hc with rfl | rfl
  all_goals
    go_enter Try.func15, Try.ntmps15
    go_wp2_with fail
    refine wp_region_quiet_below (by kernel_rfl) (by kernel_rfl) ?_
    repeat (quiet_step (first | exact hcall _ _ | exact hone _ _ _ _ _))
    refine wpQuiet_nil ?_
    intro _ hw'
    obtain ⟨⟨dq, osq⟩, hw''⟩ := hw'
    subst hw''
    go_wp2_with fail
    go_ret
    exact ⟨rfl, below_regrown _ dq osq⟩

set_option maxHeartbeats 400000 in
theorem refEval_two (c v1 v2 : Int) (b b1 b2 m1 m2 : Nat) (w : World) (h0 : w.cell? ⟨b, 0, none⟩ = some (.int .i64 c)) (hc : 6 ≤ c) (h3 : w.cell? ⟨b, 3, none⟩ = some (.pointer (some ⟨b1, 0, none⟩)))
    (h4 : w.cell? ⟨b, 4, none⟩ = some (.pointer (some ⟨b2, 0, none⟩))) (he1 : RefEvals m1 m2 b1 v1 w) (he2 : RefEvals m1 m2 b2 v2 w)
    (hv1 : -9223372036854775808 ≤ v1 ∧ v1 ≤ 9223372036854775807) (hv2 : -9223372036854775808 ≤ v2 ∧ v2 ≤ 9223372036854775807) :
    Calls Try.prog 15 #[.pointer (some ⟨b, 0, none⟩), .map (some m1), .map (some m2)] w fun e w' => e = .returned (.int .i64 (vTwo c v1 v2)) ∧ Below w.heap.size w w' := by
  have cq0 := fun d os => cell_regrown h0 d os
  have cq3 := fun d os => cell_regrown h3 d os
  have cq4 := fun d os => cell_regrown h4 d os
  have hcall1 := fun d os => Calls.regrown_of (he1 (grow (redrawn w d) os) (below_regrown _ d os))
  have hcall2 := fun d os => Calls.regrown_of (he2 (grow (redrawn w d) os) (below_regrown _ d os))
  have htwo := fun d os => refTwo_q c v1 v2 hv1 hv2 w d os
  have t1 : (c == 1) = false := by simp; omega
  have t2 : (c == 2) = false := by simp; omega
  have t3 : (c == 3) = false := by simp; omega
  have t4 : (c == 4) = false := by simp; omega
  have t5 : (c == 5) = false := by simp; omega
  clear h3 h4 he1 he2 hc hv1 hv2
  go_enter Try.func15, Try.ntmps15
  go_wp2_with fail
  refine wp_region_quiet_below (by kernel_rfl) (by kernel_rfl) ?_
  repeat (quiet_step (first | (go_at_call_of 15 b1; exact hcall1 _ _) | (go_at_call_of 15 b2; exact hcall2 _ _) | (go_at_call 9; exact htwo _ _)))
  refine wpQuiet_nil ?_
  intro _ hw'
  obtain ⟨⟨dq, osq⟩, hw''⟩ := hw'
  subst hw''
  go_wp2_with fail
  go_ret
  exact ⟨rfl, below_regrown _ dq osq⟩

theorem yes_bd (b : Bool) : -9223372036854775808 ≤ yes b ∧ yes b ≤ 9223372036854775807 := by cases b <;> simp [yes]

theorem vOne_bd (c a : Int) : -9223372036854775808 ≤ vOne c a ∧ vOne c a ≤ 9223372036854775807 := by
  unfold vOne
  split
  · exact wrap64_lo _
  · split
    · exact yes_bd _
    · omega

theorem vTwo_bd (c a b : Int) (hb : -9223372036854775808 ≤ b ∧ b ≤ 9223372036854775807) : -9223372036854775808 ≤ vTwo c a b ∧ vTwo c a b ≤ 9223372036854775807 := by
  have hd : -9223372036854775808 ≤ vDiv a b ∧ vDiv a b ≤ 9223372036854775807 := by
    unfold vDiv; split
    · omega
    · exact wrap64_lo _
  have hm : -9223372036854775808 ≤ vMod a b ∧ vMod a b ≤ 9223372036854775807 := by
    unfold vMod; split
    · omega
    · exact tmod_small a b hb (by assumption)
  unfold vTwo
  split; exact wrap64_lo _
  split; exact wrap64_lo _
  split; exact wrap64_lo _
  split; exact hd
  split; exact hm
  split; exact yes_bd _
  split; exact yes_bd _
  split; exact yes_bd _
  split; exact yes_bd _
  split; exact yes_bd _
  split; exact yes_bd _
  omega

theorem RefEvals.below {m1 m2 b : Nat} {v : Int} {w w' : World} (h : RefEvals m1 m2 b v w) (hb : Below w.heap.size w w') : RefEvals m1 m2 b v w' := fun _ hb' => h _ (Below.all hb hb')

theorem refEvals_num {n : Int} {b m1 m2 : Nat} {w : World} (h0 : w.cell? ⟨b, 0, none⟩ = some (.int .i64 1)) (h1 : w.cell? ⟨b, 1, none⟩ = some (.int .i64 n)) : RefEvals m1 m2 b n w :=
  fun w' hb => refEval_num n b m1 m2 w' (cell_below hb h0) (cell_below hb h1)

theorem refEvals_var {s : ByteArray} {v : Int} {b m1 m2 : Nat} {w : World} (h0 : w.cell? ⟨b, 0, none⟩ = some (.int .i64 2)) (h1 : w.cell? ⟨b, 2, none⟩ = some (.string s)) (ht : Tells w m1 s v) : RefEvals m1 m2 b v w :=
  fun w' hb => refEval_var s v b m1 m2 w' (cell_below hb h0) (cell_below hb h1) (ht.below hb)

theorem refEvals_pre {s : ByteArray} {v : Int} {b m1 m2 : Nat} {w : World} (h0 : w.cell? ⟨b, 0, none⟩ = some (.int .i64 3)) (h1 : w.cell? ⟨b, 2, none⟩ = some (.string s)) (ht : Tells w m2 s v) : RefEvals m1 m2 b v w :=
  fun w' hb => refEval_pre s v b m1 m2 w' (cell_below hb h0) (cell_below hb h1) (ht.below hb)

theorem refEvals_one {c v : Int} {b b' m1 m2 : Nat} {w : World} (h0 : w.cell? ⟨b, 0, none⟩ = some (.int .i64 c)) (hc : c = 4 ∨ c = 5) (h3 : w.cell? ⟨b, 3, none⟩ = some (.pointer (some ⟨b', 0, none⟩)))
    (he : RefEvals m1 m2 b' v w) : RefEvals m1 m2 b (vOne c v) w :=
  fun w' hb => refEval_one c v b b' m1 m2 w' (cell_below hb h0) hc (cell_below hb h3) (he.below hb)

theorem refEvals_two {c v1 v2 : Int} {b b1 b2 m1 m2 : Nat} {w : World} (h0 : w.cell? ⟨b, 0, none⟩ = some (.int .i64 c)) (hc : 6 ≤ c) (h3 : w.cell? ⟨b, 3, none⟩ = some (.pointer (some ⟨b1, 0, none⟩)))
    (h4 : w.cell? ⟨b, 4, none⟩ = some (.pointer (some ⟨b2, 0, none⟩))) (he1 : RefEvals m1 m2 b1 v1 w) (he2 : RefEvals m1 m2 b2 v2 w)
    (hv1 : -9223372036854775808 ≤ v1 ∧ v1 ≤ 9223372036854775807) (hv2 : -9223372036854775808 ≤ v2 ∧ v2 ≤ 9223372036854775807) : RefEvals m1 m2 b (vTwo c v1 v2) w :=
  fun w' hb => refEval_two c v1 v2 b b1 b2 m1 m2 w' (cell_below hb h0) hc (cell_below hb h3) (cell_below hb h4) (he1.below hb) (he2.below hb) hv1 hv2

end Go.Proofs.Ythefnfejhmpobaa
