/- ImageWrites: the law's walk. -/
import Derived.Test.YtalfelkblbbmpaaDoorIi
namespace Go.Proofs.YtalfelkblbbmpaaDoor
open Go.RowKit
namespace Ix
open Nx

set_option maxHeartbeats 2000000 in
theorem writeR_bad (B : Nat) (n : Nt) (w : World) (vF vI vO vK vN vC : Value) (h : NetV B w n vF vI vO vK vN vC) (hcap : ∃ ad cap, vI = .slice ad n.ins.length cap ∧ n.ins.length ≤ cap) (hB : B ≤ w.heap.size) (hs : Small n) (hno : (check n).1 ≠ 0) (hFine : w.cell? ⟨0, 0, none⟩ = some (.int .i64 0) ∧ w.cell? ⟨0, 1, none⟩ = some (.int .i64 (-1))) :
    Calls Tryd.prog 6 #[.agg #[.int .i64 n.places, vF, vI, vO, vK, vN, vC]] w fun e w' => e = .returned (.tuple #[.string ⟨#[]⟩, .agg #[.int .i64 (check n).1, .int .i64 (check n).2]]) ∧ Below w.heap.size w w' := by
  obtain ⟨c1, hc1⟩ : ∃ c1 : Int, c1 = ((check n).1 : Int) := ⟨_, rfl⟩
  obtain ⟨c2, hc2⟩ : ∃ c2 : Int, c2 = (check n).2 := ⟨_, rfl⟩
  have hne : (c1 == 0) = false := by rw [hc1]; simp; omega
  have hck : Calls Tryd.prog 12 #[.agg #[.int .i64 n.places, vF, vI, vO, vK, vN, vC]] ((w.alloc (.cells #[.int .i64 n.places, vF, vI, vO, vK, vN, vC] 26)).alloc (.cells #[.int .i64 0, .int .i64 0] 30)) fun e w' => e = .returned (.agg #[.int .i64 c1, .int .i64 c2]) ∧ Hid (Below w.heap.size w w' ∧ w'.heap[w.heap.size + 1]? = some (.cells #[.int .i64 0, .int .i64 0] 30 (0, 0))) ∧ w'.cell? ⟨0, 0, none⟩ = some (.int .i64 0) ∧ w'.cell? ⟨0, 1, none⟩ = some (.int .i64 (-1)) := by
    have b2 : Below w.heap.size w ((w.alloc (.cells #[.int .i64 n.places, vF, vI, vO, vK, vN, vC] 26)).alloc (.cells #[.int .i64 0, .int .i64 0] 30)) := below_alloc1 (grown_one w _) _
    refine (cn_any B n _ vF vI vO vK vN vC (h.below (b2.mono hB) (Nat.le_refl _)) hcap hs ⟨cell_below b2 hFine.1, cell_below b2 hFine.2⟩).mono fun e w' ⟨he, hb⟩ => ?_
    have b3 := ball b2 hb
    refine ⟨by rw [he, hc1, hc2], ⟨b3, ?_⟩, cell_below b3 hFine.1, cell_below b3 hFine.2⟩
    rw [hb.block _ (by simp)]; exact new2 _ _ _
  rw [← hc1, ← hc2]
  clear h hs hno hFine hcap hc1 hc2
  go_enter Tryd.func6, Tryd.ntmps6
  go_upto_region 3 with (go_at_call 12; refine hck.mono ?_; rintro e w1 ⟨rfl, X, g0, g1⟩; have y0 := cell_below (grown_one w1 (.cells #[.int .i64 c1, .int .i64 c2] 30)) g0; have y1 := cell_below (grown_one w1 (.cells #[.int .i64 c1, .int .i64 c2] 30)) g1; clear hck g0 g1)
  have hrc : (w1.alloc (.cells #[.int .i64 c1, .int .i64 c2] 30)).heap[w.heap.size + 1]? = some (.cells #[.int .i64 0, .int .i64 0] 30 (0, 0)) := by
    rw [Below.heap_alloc _ _ _ (lt_of_block X.out.2)]; exact X.out.2
  obtain ⟨q0, f0, q1, f1⟩ := rb_cells hrc
  have HR : Hid _ := hrc
  clear hrc
  go_region
  all_goals
    go_wp2_with fail
    refine bodyPost_ret (resultsW _ _ _ _ _ rfl rfl rfl (rb_set HR.out)) rfl ?_
    exact ⟨rfl, below_drew1 (((below_alloc1 X.out.1 _).setCell (by simp) _).setCell (by simp) _)⟩

theorem stepsE_zero (P : Int) (nums : Nat) : ∀ (l : List Sp) (i : Nat), (stepsE P nums l i).1 = 0 → stepsE P nums l i = (0, -1)
  | [], _, _ => rfl
  | s :: r, i, h => by
    rw [stepsE] at h ⊢
    split
    · rename_i h0
      rw [if_pos h0] at h
      exact stepsE_zero P nums r (i + 1) h
    · rename_i h0
      rw [if_neg h0] at h
      exact absurd h h0
theorem check_zero {n : Nt} (h : (check n).1 = 0) : check n = (0, -1) := by
  unfold check at h ⊢
  split
  · rename_i h0
    rw [if_pos h0] at h
    exact stepsE_zero _ _ _ _ h
  · rename_i h0
    rw [if_neg h0] at h
    exact absurd h h0
/-- what is written: nothing, if it may not be -/
def wroteN (n : Nt) : ByteArray := if (check n).1 = 0 then str (writeN n) else ⟨#[]⟩
theorem writeR_any (B : Nat) (n : Nt) (w : World) (vF vI vO vK vN vC : Value) (h : NetV B w n vF vI vO vK vN vC) (hcap : ∃ ad cap, vI = .slice ad n.ins.length cap ∧ n.ins.length ≤ cap) (hB : B ≤ w.heap.size) (hs : Small n) (hf : N64 n.first) (hm : N64 n.nums) (hFine : w.cell? ⟨0, 0, none⟩ = some (.int .i64 0) ∧ w.cell? ⟨0, 1, none⟩ = some (.int .i64 (-1))) :
    Calls Tryd.prog 6 #[.agg #[.int .i64 n.places, vF, vI, vO, vK, vN, vC]] w fun e w' => e = .returned (.tuple #[.string (wroteN n), .agg #[.int .i64 (check n).1, .int .i64 (check n).2]]) ∧ Below w.heap.size w w' := by
  by_cases h0 : (check n).1 = 0
  · have e := check_zero h0
    have e2 : wroteN n = str (writeN n) := by unfold wroteN; rw [if_pos h0]
    rw [e2, e]
    exact writeR_ok B n w vF vI vO vK vN vC h hcap hB hs e hf hm hFine
  · have e2 : wroteN n = ⟨#[]⟩ := by unfold wroteN; rw [if_neg h0]
    rw [e2]
    exact writeR_bad B n w vF vI vO vK vN vC h hcap hB hs h0 hFine
theorem write_any (B : Nat) (n : Nt) (w : World) (vF vI vO vK vN vC : Value) (h : NetV B w n vF vI vO vK vN vC) (hB : B ≤ w.heap.size) (hs : Small n) (hf : N64 n.first) (hm : N64 n.nums) :
    Calls Tryd.prog 7 #[.agg #[.int .i64 n.places, vF, vI, vO, vK, vN, vC]] w fun e w' => ∃ v, e = .returned (.tuple #[.string (wroteN n), v]) ∧ IsErr w.heap.size w' v (check n) ∧ Below w.heap.size w w' := by
  by_cases h0 : (check n).1 = 0
  · have e := check_zero h0
    have e2 : wroteN n = str (writeN n) := by unfold wroteN; rw [if_pos h0]
    rw [e2, e]
    exact (write_ok B n w vF vI vO vK vN vC h hB hs e hf hm).mono fun _ _ ⟨he, hb⟩ => ⟨_, he, .inl ⟨rfl, rfl, rfl⟩, hb⟩
  · have e2 : wroteN n = ⟨#[]⟩ := by unfold wroteN; rw [if_neg h0]
    rw [e2]
    exact write_bad B n w vF vI vO vK vN vC h hB hs (fun e => h0 (by rw [e]))

set_option maxHeartbeats 1000000 in
theorem writes_big (n : Nt) (w : World) (vF vI vO vK vN vC : Value) (h : NetV w.heap.size w n vF vI vO vK vN vC) (hn : ¬ Held n) :
    Calls Tryd.prog 3 #[.agg #[.int .i64 n.places, vF, vI, vO, vK, vN, vC]] w fun e w' => e = .returned (.bool true) ∧ Below w.heap.size w w' := by
  have hh : Calls Tryd.prog 5 #[.agg #[.int .i64 n.places, vF, vI, vO, vK, vN, vC]] (w.alloc (.cells #[.int .i64 n.places, vF, vI, vO, vK, vN, vC] 26)) fun e w' => e = .returned (.bool false) ∧ Hid (Below w.heap.size w w') :=
    (held_any w.heap.size n _ _ _ _ _ _ _ (h.below (grown_one w _) (Nat.le_refl _))).mono fun e w' ⟨b, he, hb, hw⟩ => by
      have : b = false := by cases b with
        | false => rfl
        | true => exact absurd (hb.1 rfl) hn
      exact ⟨by rw [he, this], ball (grown_one w _) hw⟩
  clear h hn
  go_enter Tryd.func3, Tryd.ntmps3
  go_wp2_with (go_at_call 5; refine hh.mono ?_; rintro e w1 ⟨rfl, X⟩)
  go_ret
  exact ⟨rfl, X.out⟩

set_option maxHeartbeats 4000000 in
theorem writes_held (n : Nt) (w : World) (vF vI vO vK vN vC : Value) (h : NetV w.heap.size w n vF vI vO vK vN vC) (hcap : ∃ ad cap, vI = .slice ad n.ins.length cap ∧ n.ins.length ≤ cap) (hn : Held n) (hf : N64 n.first) (hm : N64 n.nums) (hE : ErrType w) (hFine : w.cell? ⟨0, 0, none⟩ = some (.int .i64 0) ∧ w.cell? ⟨0, 1, none⟩ = some (.int .i64 (-1))) :
    Calls Tryd.prog 3 #[.agg #[.int .i64 n.places, vF, vI, vO, vK, vN, vC]] w fun e w' => e = .returned (.bool true) ∧ Below w.heap.size w w' := by
  have hh : Calls Tryd.prog 5 #[.agg #[.int .i64 n.places, vF, vI, vO, vK, vN, vC]] (w.alloc (.cells #[.int .i64 n.places, vF, vI, vO, vK, vN, vC] 26)) fun e w' => e = .returned (.bool true) ∧ Hid (JK w w' n vF vI vO vK vN vC) :=
    (held_any w.heap.size n _ _ _ _ _ _ _ (h.below (grown_one w _) (Nat.le_refl _))).mono fun e w' ⟨b, he, hb, hw⟩ => by
      have : b = true := hb.2 hn
      refine ⟨by rw [he, this], ⟨?_, ball (grown_one w _) hw⟩⟩
      rw [hw.block w.heap.size (by simp)]; exact heap_alloc_new w _
  obtain ⟨c1, hc1⟩ : ∃ c1 : Int, c1 = ((check n).1 : Int) := ⟨_, rfl⟩
  obtain ⟨c2, hc2⟩ : ∃ c2 : Int, c2 = (check n).2 := ⟨_, rfl⟩
  obtain ⟨T, hT⟩ : ∃ T, T = wroteN n := ⟨_, rfl⟩
  have HR : Hid (∀ w', Below w.heap.size w w' → Calls Tryd.prog 6 #[.agg #[.int .i64 n.places, vF, vI, vO, vK, vN, vC]] w' fun e w2 => e = .returned (.tuple #[.string T, .agg #[.int .i64 c1, .int .i64 c2]]) ∧ Hid (Below w'.heap.size w' w2)) := fun w' hb => by
    rw [hT, hc1, hc2]
    exact writeR_any w.heap.size n w' vF vI vO vK vN vC (h.below hb (Nat.le_refl _)) hcap hb.size hn.small hf hm ⟨cell_below hb hFine.1, cell_below hb hFine.2⟩
  have HW : Hid (∀ w', Below w.heap.size w w' → Calls Tryd.prog 7 #[.agg #[.int .i64 n.places, vF, vI, vO, vK, vN, vC]] w' fun e w2 => ∃ v, e = .returned (.tuple #[.string T, v]) ∧ Hid (IsErr w'.heap.size w2 v (check n) ∧ Below w'.heap.size w' w2)) := fun w' hb => by
    rw [hT]
    exact write_any w.heap.size n w' vF vI vO vK vN vC (h.below hb (Nat.le_refl _)) hb.size hn.small hf hm
  have HIS : Hid (∀ B w' v, Below w.heap.size w w' → IsErr B w' v (check n) → Calls Tryd.prog 8 #[v, .agg #[.int .i64 c1, .int .i64 c2]] w' fun e w2 => e = .returned (.bool true) ∧ Hid (Below w'.heap.size w' w2)) := by
    intro B w' v hb hi
    rw [hc1, hc2]
    exact (is_isErr (by have := hE; unfold ErrType at *; exact cell_below hb this) hi).mono fun e w2 ⟨he, hb2⟩ => ⟨he, hb2⟩
  clear h hn hf hm hE hFine hcap hc1 hc2 hT
  go_enter Tryd.func3, Tryd.ntmps3
  go_wp2_with (first
    | (go_at_call 5; refine hh.mono ?_; rintro e w1 ⟨rfl, X⟩; obtain ⟨d0, d1, d2, d3, d4, d5, d6⟩ := X.out.cells; clear hh)
    | (go_at_call 6; refine (HR.out w1 X.out.below).mono ?_; rintro e w2 ⟨rfl, hb2⟩
       have X2 : Hid (JK w (w2.alloc (.cells #[.int .i64 c1, .int .i64 c2] 30)) n vF vI vO vK vN vC) := (X.out.next hb2.out).next (grown_one w2 _)
       have F2 : Hid ((w2.alloc (.cells #[.int .i64 c1, .int .i64 c2] 30)).cell? ⟨w2.heap.size, 0, none⟩ = some (.int .i64 c1) ∧ (w2.alloc (.cells #[.int .i64 c1, .int .i64 c2] 30)).cell? ⟨w2.heap.size, 1, none⟩ = some (.int .i64 c2)) := (by constructor <;> simp)
       clear d0 d1 d2 d3 d4 d5 d6
       obtain ⟨d0, d1, d2, d3, d4, d5, d6⟩ := X2.out.cells)
    | (go_at_call 7; refine (HW.out _ X2.out.below).mono ?_; rintro e w4 ⟨v, rfl, I4⟩
       have X4 : Hid (Below w.heap.size w w4) := ball X2.out.below I4.out.2
       have g0 := cell_below I4.out.2 F2.out.1
       have g1 := cell_below I4.out.2 F2.out.2
       have his := HIS.out _ w4 _ X4.out I4.out.1
       clear d0 d1 d2 d3 d4 d5 d6)
    | (go_at_call 8; refine his.mono ?_; rintro e w5 ⟨rfl, B5⟩
       have X5 : Hid (Below w.heap.size w w5) := ball X4.out B5.out
       clear his))
  go_ret
  exact ⟨rfl, X5.out⟩
end Ix
end Go.Proofs.YtalfelkblbbmpaaDoor
