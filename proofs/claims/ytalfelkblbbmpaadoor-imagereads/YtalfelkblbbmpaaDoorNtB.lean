/- What net's Check and New answer. -/
import Derived.Test.YtalfelkblbbmpaaDoorNtA
namespace Go.Proofs.YtalfelkblbbmpaaDoor
open Go.RowKit
namespace Nx

/-- an error as it lies in memory -/
def IsErr (B : Nat) (w : World) (v : Value) (f : Nat × Int) : Prop :=
  (f.1 = 0 ∧ f.2 = -1 ∧ v = .nilIface) ∨ (f.1 ≠ 0 ∧ f.2 = -1 ∧ v = .iface 28 (.int .i64 f.1)) ∨
    (f.1 ≠ 0 ∧ ∃ g q : Nat, f.2 = q ∧ B ≤ g ∧ v = .iface 91 (.pointer (some ⟨g, 0, none⟩)) ∧ w.heap[g]? = some (.cells #[.int .i64 f.1, .int .i64 q] 92 (0, 0)))
theorem IsErr.keep {B : Nat} {w w' : World} {v : Value} {f : Nat × Int} (h : IsErr B w v f) (hb : ∀ b, B ≤ b → b < w.heap.size → w'.heap[b]? = w.heap[b]?) : IsErr B w' v f := by
  rcases h with h | h | ⟨h1, g, q, h2, h3, h4, h5⟩
  · exact .inl h
  · exact .inr (.inl h)
  · exact .inr (.inr ⟨h1, g, q, h2, h3, h4, by rw [hb g h3 (lt_of_block h5)]; exact h5⟩)

def netCells (P : Int) (vF vI vO vK vN vC : Value) : Array Value := #[.int .i64 P, vF, vI, vO, vK, vN, vC]

set_option maxHeartbeats 400000 in
theorem check_whole (B : Nat) (n : Nt) (w : World) (vF vI vO vK vN vC : Value) (h : NetV B w n vF vI vO vK vN vC) (hB : B ≤ w.heap.size) (hs : Small n) (hw : wholeE n ≠ 0) :
    Calls Tryd.prog 19 #[.agg #[.int .i64 n.places, vF, vI, vO, vK, vN, vC]] w fun e w' => e = .returned (.iface 28 (.int .i64 (wholeE n : Nat))) ∧ Below w.heap.size w w' := by
  have hwh := whole_any B n w.heap.size (w.alloc (.cells #[.int .i64 n.places, vF, vI, vO, vK, vN, vC] 26)) vF vI vO vK vN vC (h.below ((grown_one w _).mono hB) (Nat.le_refl _)) hs (by simp)
  obtain ⟨e, he⟩ : ∃ e, e = wholeE n := ⟨_, rfl⟩
  rw [← he] at hwh hw ⊢
  have t0 : ((e : Int) != 0) = true := by simp; omega
  clear he hw h hB hs
  go_enter Tryd.func19, Tryd.ntmps19
  go_wp2_with (go_at_call 39; refine hwh.mono ?_; rintro e w1 ⟨rfl, hb1⟩)
  go_ret
  exact ⟨rfl, ball (grown_one w _) hb1⟩

set_option maxHeartbeats 1000000 in
theorem check_steps (B : Nat) (n : Nt) (w : World) (vF vI vO vK vN vC : Value) (h : NetV B w n vF vI vO vK vN vC) (hB : B ≤ w.heap.size) (hs : Small n) (hw : wholeE n = 0) :
    Calls Tryd.prog 19 #[.agg #[.int .i64 n.places, vF, vI, vO, vK, vN, vC]] w fun e w' => ∃ v, e = .returned v ∧ IsErr w.heap.size w' v (stepsE n.places n.nums.length n.code 0) ∧ Below w.heap.size w w' := by
  have hwh := whole_any B n w.heap.size (w.alloc (.cells #[.int .i64 n.places, vF, vI, vO, vK, vN, vC] 26)) vF vI vO vK vN vC (h.below ((grown_one w _).mono hB) (Nat.le_refl _)) hs (by simp)
  rw [hw] at hwh
  have hcl := hs.c; have hml := hs.m
  obtain ⟨adC, bC, offC, capC, rfl, hC1, hC2⟩ := h.c
  obtain ⟨adN, bN, offN, capN, rfl, -, -⟩ := h.m
  have HC1 : Hid ((0 < n.code.length → adC = some ⟨bC, offC, none⟩ ∧ bC < B) ∧ _) := ⟨hC1, hC2⟩
  have HX : Hid (∀ w1, Below (w.alloc (.cells #[.int .i64 n.places, vF, vI, vO, vK, .slice adN n.nums.length capN, .slice adC n.code.length capC] 26)).heap.size (w.alloc (.cells #[.int .i64 n.places, vF, vI, vO, vK, .slice adN n.nums.length capN, .slice adC n.code.length capC] 26)) w1 → w1.cell? ⟨w.heap.size, 0, none⟩ = some (.int .i64 n.places) ∧ w1.cell? ⟨w.heap.size, 5, none⟩ = some (.slice adN n.nums.length capN) ∧ w1.cell? ⟨w.heap.size, 6, none⟩ = some (.slice adC n.code.length capC) ∧ Below w.heap.size w w1 ∧ w.heap.size < w1.heap.size) :=
    fun w1 hb => ⟨cell_below hb (by simp), cell_below hb (by simp), cell_below hb (by simp), ball (grown_one w _) hb, by have := hb.size; simp at this; omega⟩
  clear h hs hw hC1 hC2
  go_enter Tryd.func19, Tryd.ntmps19
  go_wp2_with (go_at_call 39; refine hwh.mono ?_; rintro e w1 ⟨rfl, hb1⟩; obtain ⟨d0, d5, d6, hbw, hlw⟩ := HX.out w1 hb1; have HB1 : Hid (Below w.heap.size w w1) := hbw; clear hwh hb1 hbw)
  go_loopw [19] (fun i wr => ∃ k : Nat, k ≤ n.code.length ∧ i = .int .i64 k ∧ (∀ j, j < k → stepE n.places n.nums.length (n.code.getD j sp0) = 0) ∧ Below w1.heap.size w1 wr) (fun i _ => n.code.length - (intOf i).toNat)
  case atStart => exact ⟨0, Nat.zero_le _, rfl, fun j hj => by omega, Below.refl _ _⟩
  case round =>
    obtain ⟨k, hk, rfl, hall, hbr⟩ := hrel
    have HA : Hid (∀ j, j < k → stepE n.places n.nums.length (n.code.getD j sp0) = 0) := hall
    have HBR : Hid (Below w1.heap.size w1 wr) := hbr
    have f0 := cell_below hbr d0
    have f5 := cell_below hbr d5
    have hbw : Hid (Below w.heap.size w wr) := ball HB1.out hbr
    clear hall hbr
    by_cases hlt : k < n.code.length
    · have hix := ix24 adC bC offC n.code.length capC k hlt (fun h => (HC1.out.1 h).1)
      obtain ⟨s, hs⟩ : ∃ s, s = n.code.getD k sp0 := ⟨_, rfl⟩
      have hb' : wr.heap[bC]? = w.heap[bC]? := hbw.out.block bC (by have := (HC1.out.1 (by omega)).2; omega)
      obtain ⟨x0, x1, x2, x3, x4⟩ := HC1.out.2 k hlt
      rw [← cell_of_block hb', ← hs] at x0 x1 x2 x3 x4
      have HS : Hid (s = n.code.getD k sp0) := hs
      have hst := step_any s n.places n.nums.length w.heap.size (wr.alloc (.cells #[.int .i64 s.code, .int .i64 s.dst, .int .i64 s.a, .int .i64 s.b, .int .i64 s.c] 55)) (cell_below (grown_one wr _) f0)
      have g5 := cell_below (grown_one wr (.cells #[.int .i64 s.code, .int .i64 s.dst, .int .i64 s.a, .int .i64 s.b, .int .i64 s.c] 55)) f5
      obtain ⟨e, he⟩ : ∃ e, e = stepE n.places n.nums.length s := ⟨_, rfl⟩
      rw [← he] at hst
      have HE : Hid (e = stepE n.places n.nums.length s) := he
      clear hs hb' he d0 d5 d6
      by_cases e0 : e = 0
      · subst e0
        go_wp2_with (go_at_call 40; refine hst.mono ?_; rintro e w2 ⟨rfl, hb2⟩)
        go_roundw
        case rel => exact ⟨k + 1, by omega, by go_num, fun j hj => by
          by_cases ej : j = k
          · rw [ej, ← HS.out]; exact HE.out.symm
          · exact HA.out j (by omega), ball HBR.out (ball (grown_one wr _) hb2)⟩
        case measure => simp [intOf]; omega
      · have t0 : ((e : Int) != 0) = true := by simp; omega
        have E0 : Hid (e ≠ 0) := e0
        clear e0
        go_wp2_with (go_at_call 40; refine hst.mono ?_; rintro e w2 ⟨rfl, hb2⟩)
        go_ret
        have hb3 : Below w.heap.size w w2 := ball hbw.out (ball (grown_one wr _) hb2)
        refine ⟨_, rfl, .inr (.inr ⟨?_, w2.heap.size, k, ?_, hb3.size, rfl, ?_⟩), hb3.alloc hb3.size _⟩
        · rw [stepsE_at _ _ _ k HA.out hlt (by rw [← HS.out, ← HE.out]; exact E0.out)]
          rw [← HS.out, ← HE.out]; exact E0.out
        · rw [stepsE_at _ _ _ k HA.out hlt (by rw [← HS.out, ← HE.out]; exact E0.out)]
        · rw [stepsE_at _ _ _ k HA.out hlt (by rw [← HS.out, ← HE.out]; exact E0.out), ← HS.out, ← HE.out]
          exact heap_alloc_new _ _
    · go_wp2
      go_ret
      refine ⟨_, rfl, .inl ?_, hbw.out⟩
      rw [stepsE_fine _ _ _ (fun j hj => HA.out j (by omega))]
      exact ⟨rfl, rfl, rfl⟩

theorem check_any (B : Nat) (n : Nt) (w : World) (vF vI vO vK vN vC : Value) (h : NetV B w n vF vI vO vK vN vC) (hB : B ≤ w.heap.size) (hs : Small n) :
    Calls Tryd.prog 19 #[.agg #[.int .i64 n.places, vF, vI, vO, vK, vN, vC]] w fun e w' => ∃ v, e = .returned v ∧ IsErr w.heap.size w' v (check n) ∧ Below w.heap.size w w' := by
  unfold check
  by_cases hw : wholeE n = 0
  · rw [if_pos hw]; exact check_steps B n w vF vI vO vK vN vC h hB hs hw
  · rw [if_neg hw]
    exact (check_whole B n w vF vI vO vK vN vC h hB hs hw).mono fun e w' ⟨he, hb⟩ => ⟨_, he, .inr (.inl ⟨hw, rfl, rfl⟩), hb⟩
end Nx
end Go.Proofs.YtalfelkblbbmpaaDoor
