/-
  ValueEvals: for all codes, operators and numbers, the program's Eval of the expressions that are built by hand of them returns what the document's own Eval returns, and 0 of none; the arguments are left as they were. No condition.
-/
import Derived.Test.YthefnfejhmpobaaRows
import Derived.WalkKit
import Derived.ProofKit
import Derived.OpenShut
import Derived.Test.YthefnfejhmpobaaEvalsLaid
import Derived.ShutString
namespace Go.Proofs.Ythefnfejhmpobaa.valueEvals
open Go.ChangeShapes Go.WideShapes Go.ChangeAt Go.RowKit Go.Sort
open Go.ChangeMaps (open_string shut_string)
set_option linter.unusedVariables false      -- a walk need not use every 'w<i>' (that an integer argument fits its kind)

theorem own : ownKnob Try.prog.godebug = none := by kernel_rfl

/-! ### STEP 1: THE WALK -/
theorem q_e (u : World) (m1 m2 : Nat) (n cc oo : Int) (x y : Int) (hc : 6 ≤ cc) (ho : oo = 4 ∨ oo = 5) (h1 : Tells u m1 ⟨#[97]⟩ x) (h2 : Tells u m2 ⟨#[98]⟩ y) (d : Nat) (os : Array Obj) : Calls Try.prog 14 #[.pointer (some ⟨u.heap.size + 1 + 1 + 1 + 1 + 1 + 1 + 1 + 1, 0, none⟩), .agg #[.func (.func 12) #[] #[.pointer (some ⟨u.heap.size, 0, none⟩)], .func (.func 13) #[] #[.pointer (some ⟨u.heap.size + 1, 0, none⟩)]]] (grow (redrawn (lay9 u m1 m2 n cc oo) d) os) fun e w'' => e = .returned (.int .i64 (exE n cc oo x y)) ∧ ∃ p : Regrown, w'' = grow (redrawn (lay9 u m1 m2 n cc oo) p.d) p.os :=
  Calls.regrown_of (evals_e u m1 m2 n cc oo x y hc ho h1 h2 _ (below_regrown _ d os))

theorem q_f (u : World) (m1 m2 : Nat) (n cc oo : Int) (x y : Int) (hc : 6 ≤ cc) (ho : oo = 4 ∨ oo = 5) (h1 : Tells u m1 ⟨#[97]⟩ x) (h2 : Tells u m2 ⟨#[98]⟩ y) (d : Nat) (os : Array Obj) : Calls Try.prog 14 #[.pointer (some ⟨u.heap.size + 1 + 1 + 1 + 1 + 1 + 1 + 1 + 1 + 1, 0, none⟩), .agg #[.func (.func 12) #[] #[.pointer (some ⟨u.heap.size, 0, none⟩)], .func (.func 13) #[] #[.pointer (some ⟨u.heap.size + 1, 0, none⟩)]]] (grow (redrawn (lay9 u m1 m2 n cc oo) d) os) fun e w'' => e = .returned (.int .i64 (vOne oo (exE n cc oo x y))) ∧ ∃ p : Regrown, w'' = grow (redrawn (lay9 u m1 m2 n cc oo) p.d) p.os :=
  Calls.regrown_of (evals_f u m1 m2 n cc oo x y hc ho h1 h2 _ (below_regrown _ d os))

theorem q_re (u : World) (m1 m2 : Nat) (n cc oo : Int) (x y : Int) (hc : 6 ≤ cc) (ho : oo = 4 ∨ oo = 5) (h1 : Tells u m1 ⟨#[97]⟩ x) (h2 : Tells u m2 ⟨#[98]⟩ y) (hn : -9223372036854775808 ≤ n ∧ n ≤ 9223372036854775807) (hx : -9223372036854775808 ≤ x ∧ x ≤ 9223372036854775807) (hy : -9223372036854775808 ≤ y ∧ y ≤ 9223372036854775807) (d : Nat) (os : Array Obj) : Calls Try.prog 15 #[.pointer (some ⟨u.heap.size + 1 + 1 + 1 + 1 + 1 + 1 + 1 + 1, 0, none⟩), .map (some m1), .map (some m2)] (grow (redrawn (lay9 u m1 m2 n cc oo) d) os) fun e w'' => e = .returned (.int .i64 (exE n cc oo x y)) ∧ ∃ p : Regrown, w'' = grow (redrawn (lay9 u m1 m2 n cc oo) p.d) p.os :=
  Calls.regrown_of (refEvals_e u m1 m2 n cc oo x y hc ho h1 h2 hn hx hy _ (below_regrown _ d os))

theorem q_rf (u : World) (m1 m2 : Nat) (n cc oo : Int) (x y : Int) (hc : 6 ≤ cc) (ho : oo = 4 ∨ oo = 5) (h1 : Tells u m1 ⟨#[97]⟩ x) (h2 : Tells u m2 ⟨#[98]⟩ y) (hn : -9223372036854775808 ≤ n ∧ n ≤ 9223372036854775807) (hx : -9223372036854775808 ≤ x ∧ x ≤ 9223372036854775807) (hy : -9223372036854775808 ≤ y ∧ y ≤ 9223372036854775807) (d : Nat) (os : Array Obj) : Calls Try.prog 15 #[.pointer (some ⟨u.heap.size + 1 + 1 + 1 + 1 + 1 + 1 + 1 + 1 + 1, 0, none⟩), .map (some m1), .map (some m2)] (grow (redrawn (lay9 u m1 m2 n cc oo) d) os) fun e w'' => e = .returned (.int .i64 (vOne oo (exE n cc oo x y))) ∧ ∃ p : Regrown, w'' = grow (redrawn (lay9 u m1 m2 n cc oo) p.d) p.os :=
  Calls.regrown_of (refEvals_f u m1 m2 n cc oo x y hc ho h1 h2 hn hx hy _ (below_regrown _ d os))

theorem q_nil (u : World) (m1 m2 : Nat) (n cc oo : Int) (d : Nat) (os : Array Obj) : Calls Try.prog 14 #[.pointer none, .agg #[.func (.func 12) #[] #[.pointer (some ⟨u.heap.size, 0, none⟩)], .func (.func 13) #[] #[.pointer (some ⟨u.heap.size + 1, 0, none⟩)]]] (grow (redrawn (lay9 u m1 m2 n cc oo) d) os) fun e w'' => e = .returned (.int .i64 0) ∧ ∃ p : Regrown, w'' = grow (redrawn (lay9 u m1 m2 n cc oo) p.d) p.os :=
  Calls.regrown_of (eval_nil _ _ _)

set_option maxRecDepth 100000 in
set_option maxHeartbeats 1000000 in
theorem walk (a0 : Int) (a1 : Int) (a2 : Int) (a3 : Int) (a4 : Int) (a5 : Int) (w0 : (Lit.int .i64 a0).wf = true) (w1 : (Lit.int .i64 a1).wf = true) (w2 : (Lit.int .i64 a2).wf = true) (w3 : (Lit.int .i64 a3).wf = true) (w4 : (Lit.int .i64 a4).wf = true) (w5 : (Lit.int .i64 a5).wf = true) (w : World) :
    Calls Try.prog 4 #[.int .i64 a0, .int .i64 a1, .int .i64 a2, .int .i64 a3, .int .i64 a4, .int .i64 a5] w fun e w' => e = .returned (.bool true) ∧ Below w.heap.size w w' := by
  obtain ⟨v1, v2, v3, u, r1, r2, r3, r4, o1, o2, b4⟩ := maps_made a4 a5 a5 a2 w4 w5 w5 w2 w
  have hmm := @run_makeMap Try.prog
  have hmf : ∀ (fn : Fn) (first cap : Array Value) (w : World), (Instr.makeFunc fn first cap).run Try.prog w = .ok (.func fn first cap) w := fun _ _ _ _ => rfl
  have HB : Hid (Below w.heap.size w u) := b4
  have hc := code_fits a0
  have ho := op_fits a1
  have T1 := (tells_both o1).1
  have T2 := (tells_both o2).2
  have QE := q_e u w.heap.size v2.heap.size a3 _ _ a4 a2 hc ho T1 T2
  have QF := q_f u w.heap.size v2.heap.size a3 _ _ a4 a2 hc ho T1 T2
  have QR := q_re u w.heap.size v2.heap.size a3 _ _ a4 a2 hc ho T1 T2 (bounds_i64 w3) (bounds_i64 w4) (bounds_i64 w2)
  have QS := q_rf u w.heap.size v2.heap.size a3 _ _ a4 a2 hc ho T1 T2 (bounds_i64 w3) (bounds_i64 w4) (bounds_i64 w2)
  have QN := q_nil u w.heap.size v2.heap.size a3 (wrap64 (6 + wrap64 ((IntKind.u64.wrap a0).tmod 11))) (wrap64 (4 + wrap64 ((IntKind.u64.wrap a1).tmod 2)))
  have k0 := fun d os => cell_regrown (cell0_0 u w.heap.size v2.heap.size a3 (wrap64 (6 + wrap64 ((IntKind.u64.wrap a0).tmod 11))) (wrap64 (4 + wrap64 ((IntKind.u64.wrap a1).tmod 2)))) d os
  have k1 := fun d os => cell_regrown (cell1_0 u w.heap.size v2.heap.size a3 (wrap64 (6 + wrap64 ((IntKind.u64.wrap a0).tmod 11))) (wrap64 (4 + wrap64 ((IntKind.u64.wrap a1).tmod 2)))) d os
  have k2 := fun d os => cell_regrown (cell2_0 u w.heap.size v2.heap.size a3 (wrap64 (6 + wrap64 ((IntKind.u64.wrap a0).tmod 11))) (wrap64 (4 + wrap64 ((IntKind.u64.wrap a1).tmod 2)))) d os
  have k3 := fun d os => cell_regrown (cell2_1 u w.heap.size v2.heap.size a3 (wrap64 (6 + wrap64 ((IntKind.u64.wrap a0).tmod 11))) (wrap64 (4 + wrap64 ((IntKind.u64.wrap a1).tmod 2)))) d os
  clear w0 w1 w2 w3 w4 w5 o1 o2 b4 hc ho T1 T2
  go_enter Try.func4, Try.ntmps4
  go_wp2_with fail
  refine wp_region_quiet_below (w := lay9 u w.heap.size v2.heap.size a3 (wrap64 (6 + wrap64 ((IntKind.u64.wrap a0).tmod 11))) (wrap64 (4 + wrap64 ((IntKind.u64.wrap a1).tmod 2)))) (by kernel_rfl) (by kernel_rfl) ?_
  repeat (quiet_step (first | with_reducible exact QE _ _ | with_reducible exact QR _ _ | with_reducible exact QF _ _ | with_reducible exact QS _ _ | with_reducible exact QN _ _))
  refine wpQuiet_nil ?_
  intro _ hw'
  obtain ⟨⟨dq, osq⟩, hw''⟩ := hw'
  subst hw''
  go_wp2_with fail
  go_ret
  exact ⟨rfl, Below.all (Below.all HB.out (to9_u _ _ _ _ _ _)) (below_regrown _ dq osq)⟩

/-! ### THE ROW's STEP: WRITTEN OUT: LEAVE IT -/
set_option maxRecDepth 100000 in
theorem lifted (os : Os) (started : os.Started) (H : Type) (enc : TypeId × Value → H) :
    ReturnsInHanded {} Try.checked os 4 .any (Rows.valueEvalsSpec.pre6 enc Try.prog Try.f4 Rows.valueEvalsRow.domain false) (Rows.valueEvalsSpec.post enc Try.prog Try.f4 false true false false) := by
  refine returnsInHanded_of_change (C := Try.checked) own started (by kernel_rfl) Try.func4
    (ChangeSpec.witness6 (enc := enc) (C := Try.checked) false ⟨#[], #[.int .i64 0, .int .i64 0, .int .i64 0, .int .i64 0, .int .i64 0, .int .i64 0], []⟩ 8 (by kernel_rfl) (by kernel_rfl) (by kernel_rfl) (by kernel_rfl)) ?_
  intro W base args ds gs before hval0 hW hcnd _
  have hval : ∀ (j : Nat) t v, Try.f4.params[j]? = some t → args[j]? = some v → Value.okWide Try.prog W .any base t v := hval0
  have hW' := hW
  obtain ⟨p, q, hA0, hV, rfl, hfz, hnd⟩ := hW
  have hA : DataW.TrodAll enc Try.prog W 0 (fun _ => true) true Try.f4.params.toList args.toList ds p := hA0
  rw [Try.params4] at hA hval
  obtain ⟨v0, vs0, d0, ds0, p0, q0, hargs, rfl, rfl, h0, r0⟩ := trodAll_cons hA
  obtain ⟨v1, vs1, d1, ds1, p1, q1, rfl, rfl, rfl, h1, r1⟩ := trodAll_cons r0
  obtain ⟨v2, vs2, d2, ds2, p2, q2, rfl, rfl, rfl, h2, r2⟩ := trodAll_cons r1
  obtain ⟨v3, vs3, d3, ds3, p3, q3, rfl, rfl, rfl, h3, r3⟩ := trodAll_cons r2
  obtain ⟨v4, vs4, d4, ds4, p4, q4, rfl, rfl, rfl, h4, r4⟩ := trodAll_cons r3
  obtain ⟨v5, vs5, d5, ds5, p5, q5, rfl, rfl, rfl, h5, r5⟩ := trodAll_cons r4
  obtain ⟨rfl, rfl, rfl⟩ := trodAll_nil r5
  obtain rfl : args = #[v0, v1, v2, v3, v4, v5] := by cases args; simp_all
  obtain ⟨rfl, rfl⟩ := trodVars_none hV
  obtain ⟨a0, rfl, rfl, rfl, w0⟩ := open_int Try.underlying3 (hval 0 3 v0 rfl rfl) h0
  obtain ⟨a1, rfl, rfl, rfl, w1⟩ := open_int Try.underlying3 (hval 1 3 v1 rfl rfl) h1
  obtain ⟨a2, rfl, rfl, rfl, w2⟩ := open_int Try.underlying2 (hval 2 2 v2 rfl rfl) h2
  obtain ⟨a3, rfl, rfl, rfl, w3⟩ := open_int Try.underlying2 (hval 3 2 v3 rfl rfl) h3
  obtain ⟨a4, rfl, rfl, rfl, w4⟩ := open_int Try.underlying2 (hval 4 2 v4 rfl rfl) h4
  obtain ⟨a5, rfl, rfl, rfl, w5⟩ := open_int Try.underlying2 (hval 5 2 v5 rfl rfl) h5
  clear hA0 hval0
  simp only [List.append_nil] at hW'
  refine (walk a0 a1 a2 a3 a4 a5 w0 w1 w2 w3 w4 w5 W).mono fun e W' ⟨he, hg⟩ => ?_
  subst he
  exact ⟨_, rfl, _, _, _, [], [], [], hW', trodAll_mk1 (shut_bool Try.underlying4 _), (trodAll_cons_mk (shut_int Try.underlying3 w0) (trodAll_cons_mk (shut_int Try.underlying3 w1) (trodAll_cons_mk (shut_int Try.underlying2 w2) (trodAll_cons_mk (shut_int Try.underlying2 w3) (trodAll_cons_mk (shut_int Try.underlying2 w4) (trodAll_cons_mk (shut_int Try.underlying2 w5) trodAll_mk0)))))), rfl, hg.frame _, fun h => by cases h⟩

theorem over : Rows.valueEvalsRow.holds Try.pinned (OpenSpec.ofChange Rows.valueEvalsSpec) :=
  OpenClaim.holds_of_wide 4 Try.f4 rfl rfl rfl rfl rfl rfl rfl ⟨rfl, rfl, rfl, rfl, rfl⟩ rfl rfl rfl rfl rfl (by kernel_rfl) Try.func4 (by kernel_rfl)
    (of_decide_eq_true (by kernel_rfl)) (by unfold Func.isWrapper; first | (rw [if_pos (by decide +kernel)]; kernel_rfl) | (rw [if_neg (by decide +kernel)]; exact ⟨rfl, rfl⟩))
    (fun os started H enc _ => lifted os started H enc)

/-- ████ THE STATEMENT ████ -/
theorem proved : Rows.ValueEvalsSaid :=
  over
#print axioms proved
end Go.Proofs.Ythefnfejhmpobaa.valueEvals
