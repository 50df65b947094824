/-
  What the program's Eval returns of an expression that lies in memory: what the document says it comes to; the world only grows.
-/
import Derived.Test.YthefnfejhmpobaaAsk
namespace Go.Proofs.Ythefnfejhmpobaa
open Go.RowKit Go.Sort

theorem grown_one (w : World) (o : Obj) : Below w.heap.size w (w.alloc o) := (Below.refl _ _).alloc (Nat.le_refl _) _

theorem asked_env (p1 p2 : Nat) (w : World) : (w.alloc (.cells #[.func (.func 12) #[] #[.pointer (some ⟨p1, 0, none⟩)], .func (.func 13) #[] #[.pointer (some ⟨p2, 0, none⟩)]] 30)).cell? ⟨w.heap.size, 0, none⟩ = some (.func (.func 12) #[] #[.pointer (some ⟨p1, 0, none⟩)]) ∧ (w.alloc (.cells #[.func (.func 12) #[] #[.pointer (some ⟨p1, 0, none⟩)], .func (.func 13) #[] #[.pointer (some ⟨p2, 0, none⟩)]] 30)).cell? ⟨w.heap.size, 1, none⟩ = some (.func (.func 13) #[] #[.pointer (some ⟨p2, 0, none⟩)]) := by
  have e := (MapKept.heap_alloc w (.cells #[.func (.func 12) #[] #[.pointer (some ⟨p1, 0, none⟩)], .func (.func 13) #[] #[.pointer (some ⟨p2, 0, none⟩)]] 30)).1
  exact ⟨by simp only [World.cell?, e]; rfl, by simp only [World.cell?, e]; rfl⟩

set_option maxHeartbeats 400000 in
theorem eval_num (n : Int) (b p1 p2 : Nat) (w : World) (h0 : w.cell? ⟨b, 0, none⟩ = some (.int .i64 1)) (h1 : w.cell? ⟨b, 1, none⟩ = some (.int .i64 n)) :
    Calls Try.prog 14 #[.pointer (some ⟨b, 0, none⟩), .agg #[.func (.func 12) #[] #[.pointer (some ⟨p1, 0, none⟩)], .func (.func 13) #[] #[.pointer (some ⟨p2, 0, none⟩)]]] w fun e w' => e = .returned (.int .i64 n) ∧ Below w.heap.size w w' := by
  have c0 := fun o => cell_below (grown_one w o) h0
  have c1 := fun o => cell_below (grown_one w o) h1
  clear h0 h1
  go_enter Try.func14, Try.ntmps14
  go_wp2_with fail
  go_ret
  exact ⟨rfl, grown_one w _⟩

set_option maxHeartbeats 400000 in
theorem eval_var (s : ByteArray) (v : Int) (b p1 p2 m1 : Nat) (w : World) (h0 : w.cell? ⟨b, 0, none⟩ = some (.int .i64 2)) (h1 : w.cell? ⟨b, 2, none⟩ = some (.string s))
    (hp : w.cell? ⟨p1, 0, none⟩ = some (.map (some m1))) (ht : Tells w m1 s v) :
    Calls Try.prog 14 #[.pointer (some ⟨b, 0, none⟩), .agg #[.func (.func 12) #[] #[.pointer (some ⟨p1, 0, none⟩)], .func (.func 13) #[] #[.pointer (some ⟨p2, 0, none⟩)]]] w fun e w' => e = .returned (.int .i64 v) ∧ Below w.heap.size w w' := by
  have c0 := fun o => cell_below (grown_one w o) h0
  have cq0 := fun d os => cell_regrown (cell_below (grown_one w (.cells #[.func (.func 12) #[] #[.pointer (some ⟨p1, 0, none⟩)], .func (.func 13) #[] #[.pointer (some ⟨p2, 0, none⟩)]] 30)) h1) d os
  have cq1 := fun d os => cell_regrown (asked_env p1 p2 w).1 d os
  have hcall := fun d os => Calls.regrown_of (ask_now p1 s v (grow (redrawn (w.alloc (.cells #[.func (.func 12) #[] #[.pointer (some ⟨p1, 0, none⟩)], .func (.func 13) #[] #[.pointer (some ⟨p2, 0, none⟩)]] 30)) d) os) fun o => tell_now p1 m1 s v _
    (cell_below (Below.all (Below.all (grown_one w _) (below_regrown _ d os)) (grown_one _ o)) hp)
    (ht _ (Below.all (Below.all (grown_one w _) (below_regrown _ d os)) (grown_one _ o))))
  clear h0 h1 hp ht
  go_enter Try.func14, Try.ntmps14
  go_wp2_with fail
  refine wp_region_quiet_below (by kernel_rfl) (by kernel_rfl) ?_
  repeat (quiet_step (exact hcall _ _))
  refine wpQuiet_nil ?_
  intro _ hw'
  obtain ⟨⟨dq, osq⟩, hw''⟩ := hw'
  subst hw''
  go_wp2_with fail
  go_ret
  exact ⟨rfl, Below.all (grown_one w _) (below_regrown _ dq osq)⟩

set_option maxHeartbeats 400000 in
theorem eval_pre (s : ByteArray) (v : Int) (b p1 p2 m2 : Nat) (w : World) (h0 : w.cell? ⟨b, 0, none⟩ = some (.int .i64 3)) (h1 : w.cell? ⟨b, 2, none⟩ = some (.string s))
    (hp : w.cell? ⟨p2, 0, none⟩ = some (.map (some m2))) (ht : Tells w m2 s v) :
    Calls Try.prog 14 #[.pointer (some ⟨b, 0, none⟩), .agg #[.func (.func 12) #[] #[.pointer (some ⟨p1, 0, none⟩)], .func (.func 13) #[] #[.pointer (some ⟨p2, 0, none⟩)]]] w fun e w' => e = .returned (.int .i64 v) ∧ Below w.heap.size w w' := by
  have c0 := fun o => cell_below (grown_one w o) h0
  have cq0 := fun d os => cell_regrown (cell_below (grown_one w (.cells #[.func (.func 12) #[] #[.pointer (some ⟨p1, 0, none⟩)], .func (.func 13) #[] #[.pointer (some ⟨p2, 0, none⟩)]] 30)) h1) d os
  have cq1 := fun d os => cell_regrown (asked_env p1 p2 w).2 d os
  have hcall := fun d os => Calls.regrown_of (ask_was p2 s v (grow (redrawn (w.alloc (.cells #[.func (.func 12) #[] #[.pointer (some ⟨p1, 0, none⟩)], .func (.func 13) #[] #[.pointer (some ⟨p2, 0, none⟩)]] 30)) d) os) fun o => tell_was p2 m2 s v _
    (cell_below (Below.all (Below.all (grown_one w _) (below_regrown _ d os)) (grown_one _ o)) hp)
    (ht _ (Below.all (Below.all (grown_one w _) (below_regrown _ d os)) (grown_one _ o))))
  clear h0 h1 hp ht
  go_enter Try.func14, Try.ntmps14
  go_wp2_with fail
  refine wp_region_quiet_below (by kernel_rfl) (by kernel_rfl) ?_
  repeat (quiet_step (exact hcall _ _))
  refine wpQuiet_nil ?_
  intro _ hw'
  obtain ⟨⟨dq, osq⟩, hw''⟩ := hw'
  subst hw''
  go_wp2_with fail
  go_ret
  exact ⟨rfl, Below.all (grown_one w _) (below_regrown _ dq osq)⟩

/-- The world behind an Eval of another expression: what is asked of it. -/
def Evals (p1 p2 : Nat) (b : Nat) (v : Int) (w : World) : Prop :=
  ∀ w', Below w.heap.size w w' → Calls Try.prog 14 #[.pointer (some ⟨b, 0, none⟩), .agg #[.func (.func 12) #[] #[.pointer (some ⟨p1, 0, none⟩)], .func (.func 13) #[] #[.pointer (some ⟨p2, 0, none⟩)]]] w' fun e w'' => e = .returned (.int .i64 v) ∧ Below w'.heap.size w' w''

theorem one_q (c a : Int) (w : World) (d : Nat) (os : Array Obj) :
    Calls Try.prog 6 #[.int .i64 c, .int .i64 a] (grow (redrawn w d) os) fun e w'' => e = .returned (.int .i64 (vOne c a)) ∧ ∃ p : Regrown, w'' = grow (redrawn w p.d) p.os :=
  Calls.regrown_of ((one_any c a _).mono fun _ _ ⟨he, hw⟩ => ⟨he, by rw [hw]; exact Below.refl _ _⟩)

set_option maxHeartbeats 400000 in
theorem eval_one (c v : Int) (b b' p1 p2 : Nat) (w : World) (h0 : w.cell? ⟨b, 0, none⟩ = some (.int .i64 c)) (hc : c = 4 ∨ c = 5) (h3 : w.cell? ⟨b, 3, none⟩ = some (.pointer (some ⟨b', 0, none⟩)))
    (he : Evals p1 p2 b' v w) :
    Calls Try.prog 14 #[.pointer (some ⟨b, 0, none⟩), .agg #[.func (.func 12) #[] #[.pointer (some ⟨p1, 0, none⟩)], .func (.func 13) #[] #[.pointer (some ⟨p2, 0, none⟩)]]] w fun e w' => e = .returned (.int .i64 (vOne c v)) ∧ Below w.heap.size w w' := by
  have c0 := fun o => cell_below (grown_one w o) h0
  have cq0 := fun d os => cell_regrown (cell_below (grown_one w (.cells #[.func (.func 12) #[] #[.pointer (some ⟨p1, 0, none⟩)], .func (.func 13) #[] #[.pointer (some ⟨p2, 0, none⟩)]] 30)) h0) d os
  have cq3 := fun d os => cell_regrown (cell_below (grown_one w (.cells #[.func (.func 12) #[] #[.pointer (some ⟨p1, 0, none⟩)], .func (.func 13) #[] #[.pointer (some ⟨p2, 0, none⟩)]] 30)) h3) d os
  have ce0 := fun d os => cell_regrown (asked_env p1 p2 w).1 d os
  have ce1 := fun d os => cell_regrown (asked_env p1 p2 w).2 d os
  have hcall := fun d os => Calls.regrown_of (he (grow (redrawn (w.alloc (.cells #[.func (.func 12) #[] #[.pointer (some ⟨p1, 0, none⟩)], .func (.func 13) #[] #[.pointer (some ⟨p2, 0, none⟩)]] 30)) d) os) (Below.all (grown_one w _) (below_regrown _ d os)))
  have hone := one_q
  clear h0 h3 he
  rcases hc with rfl | rfl
  all_goals
    go_enter Try.func14, Try.ntmps14
    go_wp2_with fail
    refine wp_region_quiet_below (by kernel_rfl) (by kernel_rfl) ?_
    repeat (quiet_step (first | exact hcall _ _ | exact hone _ _ _ _ _))
    refine wpQuiet_nil ?_
    intro _ hw'
    obtain ⟨⟨dq, osq⟩, hw''⟩ := hw'
    subst hw''
    go_wp2_with fail
    go_ret
    exact ⟨rfl, Below.all (grown_one w _) (below_regrown _ dq osq)⟩

set_option maxHeartbeats 400000 in
theorem eval_two (c v1 v2 : Int) (b b1 b2 p1 p2 : Nat) (w : World) (h0 : w.cell? ⟨b, 0, none⟩ = some (.int .i64 c)) (hc : 6 ≤ c) (h3 : w.cell? ⟨b, 3, none⟩ = some (.pointer (some ⟨b1, 0, none⟩)))
    (h4 : w.cell? ⟨b, 4, none⟩ = some (.pointer (some ⟨b2, 0, none⟩))) (he1 : Evals p1 p2 b1 v1 w) (he2 : Evals p1 p2 b2 v2 w) :
    Calls Try.prog 14 #[.pointer (some ⟨b, 0, none⟩), .agg #[.func (.func 12) #[] #[.pointer (some ⟨p1, 0, none⟩)], .func (.func 13) #[] #[.pointer (some ⟨p2, 0, none⟩)]]] w fun e w' => e = .returned (.int .i64 (vTwo c v1 v2)) ∧ Below w.heap.size w w' := by
  have c0 := fun o => cell_below (grown_one w o) h0
  have cq0 := fun d os => cell_regrown (cell_below (grown_one w (.cells #[.func (.func 12) #[] #[.pointer (some ⟨p1, 0, none⟩)], .func (.func 13) #[] #[.pointer (some ⟨p2, 0, none⟩)]] 30)) h0) d os
  have cq3 := fun d os => cell_regrown (cell_below (grown_one w (.cells #[.func (.func 12) #[] #[.pointer (some ⟨p1, 0, none⟩)], .func (.func 13) #[] #[.pointer (some ⟨p2, 0, none⟩)]] 30)) h3) d os
  have ce0 := fun d os => cell_regrown (asked_env p1 p2 w).1 d os
  have ce1 := fun d os => cell_regrown (asked_env p1 p2 w).2 d os
  have hcall := fun d os => Calls.regrown_of (he1 (grow (redrawn (w.alloc (.cells #[.func (.func 12) #[] #[.pointer (some ⟨p1, 0, none⟩)], .func (.func 13) #[] #[.pointer (some ⟨p2, 0, none⟩)]] 30)) d) os) (Below.all (grown_one w _) (below_regrown _ d os)))
  have t1 : (c == 1) = false := by simp; omega
  have t2 : (c == 2) = false := by simp; omega
  have t3 : (c == 3) = false := by simp; omega
  have t4 : (c == 4) = false := by simp; omega
  have t5 : (c == 5) = false := by simp; omega
  clear hc
  have H0 : Hid (w.cell? ⟨b, 0, none⟩ = some (.int .i64 c)) := h0
  have H4 : Hid (w.cell? ⟨b, 4, none⟩ = some (.pointer (some ⟨b2, 0, none⟩))) := h4
  clear h0 h3 h4
  go_enter Try.func14, Try.ntmps14
  go_wp2_with fail
  refine wp_region_quiet_below (by kernel_rfl) (by kernel_rfl) ?_
  repeat (quiet_step (exact hcall _ _))
  refine wpQuiet_nil ?_
  intro _ hw'
  obtain ⟨⟨dq, osq⟩, hw''⟩ := hw'
  subst hw''
  go_wp2_with fail
  clear c0 cq0 cq3 ce0 ce1 hcall t1 t2 t3 t4 t5
  have hb2 := below_regrown (w.alloc (.cells #[.func (.func 12) #[] #[.pointer (some ⟨p1, 0, none⟩)], .func (.func 13) #[] #[.pointer (some ⟨p2, 0, none⟩)]] 30)) dq osq
  generalize grow (redrawn (w.alloc (.cells #[.func (.func 12) #[] #[.pointer (some ⟨p1, 0, none⟩)], .func (.func 13) #[] #[.pointer (some ⟨p2, 0, none⟩)]] 30)) dq) osq = W2 at hb2 ⊢
  have cq4 := fun d os => cell_regrown (cell_below (Below.all (grown_one w _) hb2) H4.out) d os
  have ce0 := fun d os => cell_regrown (cell_below hb2 (asked_env p1 p2 w).1) d os
  have ce1 := fun d os => cell_regrown (cell_below hb2 (asked_env p1 p2 w).2) d os
  have hcall := fun d os => Calls.regrown_of (he2 (grow (redrawn W2 d) os) (Below.all (Below.all (grown_one w _) hb2) (below_regrown _ d os)))
  have HB : Hid (Below w.heap.size w W2) := Below.all (grown_one w _) hb2
  clear hb2
  refine wp_region_quiet_below (by kernel_rfl) (by kernel_rfl) ?_
  repeat (quiet_step (exact hcall _ _))
  refine wpQuiet_nil ?_
  intro _ hw'
  obtain ⟨⟨dq2, osq2⟩, hw''⟩ := hw'
  subst hw''
  clear cq4 ce0 ce1 hcall
  have hb3 : Below w.heap.size w (grow (redrawn W2 dq2) osq2) := Below.all HB.out (below_regrown _ _ _)
  generalize grow (redrawn W2 dq2) osq2 = W3 at hb3 ⊢
  have c0 := cell_below hb3 H0.out
  have HB3 : Hid (Below w.heap.size w W3) := hb3
  clear hb3
  go_wp2_with (go_at_call 8; refine (two_any _ _ _ _).mono ?_; rintro e w' ⟨rfl, rfl⟩)
  go_ret
  exact ⟨rfl, Below.all HB3.out (grown_one _ _)⟩

/-! ### An expression of each code is asked, in whatever world grows out of the one in which it lies -/
theorem Evals.below {p1 p2 b : Nat} {v : Int} {w w' : World} (h : Evals p1 p2 b v w) (hb : Below w.heap.size w w') : Evals p1 p2 b v w' := fun _ hb' => h _ (Below.all hb hb')

theorem evals_num {n : Int} {b p1 p2 : Nat} {w : World} (h0 : w.cell? ⟨b, 0, none⟩ = some (.int .i64 1)) (h1 : w.cell? ⟨b, 1, none⟩ = some (.int .i64 n)) : Evals p1 p2 b n w :=
  fun w' hb => eval_num n b p1 p2 w' (cell_below hb h0) (cell_below hb h1)

theorem evals_var {s : ByteArray} {v : Int} {b p1 p2 m1 : Nat} {w : World} (h0 : w.cell? ⟨b, 0, none⟩ = some (.int .i64 2)) (h1 : w.cell? ⟨b, 2, none⟩ = some (.string s))
    (hp : w.cell? ⟨p1, 0, none⟩ = some (.map (some m1))) (ht : Tells w m1 s v) : Evals p1 p2 b v w :=
  fun w' hb => eval_var s v b p1 p2 m1 w' (cell_below hb h0) (cell_below hb h1) (cell_below hb hp) (ht.below hb)

theorem evals_pre {s : ByteArray} {v : Int} {b p1 p2 m2 : Nat} {w : World} (h0 : w.cell? ⟨b, 0, none⟩ = some (.int .i64 3)) (h1 : w.cell? ⟨b, 2, none⟩ = some (.string s))
    (hp : w.cell? ⟨p2, 0, none⟩ = some (.map (some m2))) (ht : Tells w m2 s v) : Evals p1 p2 b v w :=
  fun w' hb => eval_pre s v b p1 p2 m2 w' (cell_below hb h0) (cell_below hb h1) (cell_below hb hp) (ht.below hb)

theorem evals_one {c v : Int} {b b' p1 p2 : Nat} {w : World} (h0 : w.cell? ⟨b, 0, none⟩ = some (.int .i64 c)) (hc : c = 4 ∨ c = 5) (h3 : w.cell? ⟨b, 3, none⟩ = some (.pointer (some ⟨b', 0, none⟩)))
    (he : Evals p1 p2 b' v w) : Evals p1 p2 b (vOne c v) w :=
  fun w' hb => eval_one c v b b' p1 p2 w' (cell_below hb h0) hc (cell_below hb h3) (he.below hb)

theorem evals_two {c v1 v2 : Int} {b b1 b2 p1 p2 : Nat} {w : World} (h0 : w.cell? ⟨b, 0, none⟩ = some (.int .i64 c)) (hc : 6 ≤ c) (h3 : w.cell? ⟨b, 3, none⟩ = some (.pointer (some ⟨b1, 0, none⟩)))
    (h4 : w.cell? ⟨b, 4, none⟩ = some (.pointer (some ⟨b2, 0, none⟩))) (he1 : Evals p1 p2 b1 v1 w) (he2 : Evals p1 p2 b2 v2 w) : Evals p1 p2 b (vTwo c v1 v2) w :=
  fun w' hb => eval_two c v1 v2 b b1 b2 p1 p2 w' (cell_below hb h0) hc (cell_below hb h3) (cell_below hb h4) (he1.below hb) (he2.below hb)

set_option maxHeartbeats 400000 in
theorem eval_nil (p1 p2 : Nat) (w : World) :
    Calls Try.prog 14 #[.pointer none, .agg #[.func (.func 12) #[] #[.pointer (some ⟨p1, 0, none⟩)], .func (.func 13) #[] #[.pointer (some ⟨p2, 0, none⟩)]]] w fun e w' => e = .returned (.int .i64 0) ∧ Below w.heap.size w w' := by
  go_enter Try.func14, Try.ntmps14
  go_wp2_with fail
  go_ret
  exact ⟨rfl, grown_one w _⟩

end Go.Proofs.Ythefnfejhmpobaa
