/- What the laws' held and sameInts answer (held by the document's answer). -/
import Derived.Test.YtalfelkblbbmpaaDoorNh
namespace Go.Proofs.YtalfelkblbbmpaaDoor
open Go.RowKit
namespace Nx

section
variable (n : Nt) (w : World) (adF adI adO adK adN adC : Option Addr) (capF capI capO capK capN capC : Nat)
set_option maxHeartbeats 1000000 in
theorem held_no0 (h0 : 300 < n.places) :
    Calls Tryd.prog 5 #[.agg #[.int .i64 n.places, .slice adF n.first.length capF, .slice adI n.ins.length capI, .slice adO n.outs.length capO, .slice adK n.keeps.length capK, .slice adN n.nums.length capN, .slice adC n.code.length capC]] w fun e w' => e = .returned (.bool false) ∧ Below w.heap.size w w' := by
  go_enter Tryd.func5, Tryd.ntmps5
  go_wp2
  go_ret
  exact ⟨rfl, grown_one w _⟩

set_option maxHeartbeats 1000000 in
theorem held_no1 (h0 : n.places ≤ 300) (h1 : 300 < n.first.length) :
    Calls Tryd.prog 5 #[.agg #[.int .i64 n.places, .slice adF n.first.length capF, .slice adI n.ins.length capI, .slice adO n.outs.length capO, .slice adK n.keeps.length capK, .slice adN n.nums.length capN, .slice adC n.code.length capC]] w fun e w' => e = .returned (.bool false) ∧ Below w.heap.size w w' := by
  go_enter Tryd.func5, Tryd.ntmps5
  go_wp2
  go_ret
  exact ⟨rfl, grown_one w _⟩

set_option maxHeartbeats 1000000 in
theorem held_no2 (h0 : n.places ≤ 300) (h1 : n.first.length ≤ 300) (h2 : 30 < n.ins.length) :
    Calls Tryd.prog 5 #[.agg #[.int .i64 n.places, .slice adF n.first.length capF, .slice adI n.ins.length capI, .slice adO n.outs.length capO, .slice adK n.keeps.length capK, .slice adN n.nums.length capN, .slice adC n.code.length capC]] w fun e w' => e = .returned (.bool false) ∧ Below w.heap.size w w' := by
  go_enter Tryd.func5, Tryd.ntmps5
  go_wp2
  go_ret
  exact ⟨rfl, grown_one w _⟩

set_option maxHeartbeats 1000000 in
theorem held_no3 (h0 : n.places ≤ 300) (h1 : n.first.length ≤ 300) (h2 : n.ins.length ≤ 30) (h3 : 30 < n.outs.length) :
    Calls Tryd.prog 5 #[.agg #[.int .i64 n.places, .slice adF n.first.length capF, .slice adI n.ins.length capI, .slice adO n.outs.length capO, .slice adK n.keeps.length capK, .slice adN n.nums.length capN, .slice adC n.code.length capC]] w fun e w' => e = .returned (.bool false) ∧ Below w.heap.size w w' := by
  go_enter Tryd.func5, Tryd.ntmps5
  go_wp2
  go_ret
  exact ⟨rfl, grown_one w _⟩

set_option maxHeartbeats 1000000 in
theorem held_no4 (h0 : n.places ≤ 300) (h1 : n.first.length ≤ 300) (h2 : n.ins.length ≤ 30) (h3 : n.outs.length ≤ 30) (h4 : 60 < n.keeps.length) :
    Calls Tryd.prog 5 #[.agg #[.int .i64 n.places, .slice adF n.first.length capF, .slice adI n.ins.length capI, .slice adO n.outs.length capO, .slice adK n.keeps.length capK, .slice adN n.nums.length capN, .slice adC n.code.length capC]] w fun e w' => e = .returned (.bool false) ∧ Below w.heap.size w w' := by
  go_enter Tryd.func5, Tryd.ntmps5
  go_wp2
  go_ret
  exact ⟨rfl, grown_one w _⟩

set_option maxHeartbeats 1000000 in
theorem held_no5 (h0 : n.places ≤ 300) (h1 : n.first.length ≤ 300) (h2 : n.ins.length ≤ 30) (h3 : n.outs.length ≤ 30) (h4 : n.keeps.length ≤ 60) (h5 : 60 < n.nums.length) :
    Calls Tryd.prog 5 #[.agg #[.int .i64 n.places, .slice adF n.first.length capF, .slice adI n.ins.length capI, .slice adO n.outs.length capO, .slice adK n.keeps.length capK, .slice adN n.nums.length capN, .slice adC n.code.length capC]] w fun e w' => e = .returned (.bool false) ∧ Below w.heap.size w w' := by
  go_enter Tryd.func5, Tryd.ntmps5
  go_wp2
  go_ret
  exact ⟨rfl, grown_one w _⟩

set_option maxHeartbeats 1000000 in
theorem held_no6 (h0 : n.places ≤ 300) (h1 : n.first.length ≤ 300) (h2 : n.ins.length ≤ 30) (h3 : n.outs.length ≤ 30) (h4 : n.keeps.length ≤ 60) (h5 : n.nums.length ≤ 60) (h6 : 120 < n.code.length) :
    Calls Tryd.prog 5 #[.agg #[.int .i64 n.places, .slice adF n.first.length capF, .slice adI n.ins.length capI, .slice adO n.outs.length capO, .slice adK n.keeps.length capK, .slice adN n.nums.length capN, .slice adC n.code.length capC]] w fun e w' => e = .returned (.bool false) ∧ Below w.heap.size w w' := by
  go_enter Tryd.func5, Tryd.ntmps5
  go_wp2
  go_ret
  have e : decide ((n.code.length : Int) ≤ 120) = false := by simp; omega
  exact ⟨congrArg (fun b => Ending.returned (Value.bool b)) e, grown_one w _⟩

set_option maxHeartbeats 1000000 in
theorem held_yes (h0 : n.places ≤ 300) (h1 : n.first.length ≤ 300) (h2 : n.ins.length ≤ 30) (h3 : n.outs.length ≤ 30) (h4 : n.keeps.length ≤ 60) (h5 : n.nums.length ≤ 60) (h6 : n.code.length ≤ 120) :
    Calls Tryd.prog 5 #[.agg #[.int .i64 n.places, .slice adF n.first.length capF, .slice adI n.ins.length capI, .slice adO n.outs.length capO, .slice adK n.keeps.length capK, .slice adN n.nums.length capN, .slice adC n.code.length capC]] w fun e w' => e = .returned (.bool true) ∧ Below w.heap.size w w' := by
  go_enter Tryd.func5, Tryd.ntmps5
  go_wp2
  go_ret
  have e : decide ((n.code.length : Int) ≤ 120) = true := by simp; omega
  exact ⟨congrArg (fun b => Ending.returned (Value.bool b)) e, grown_one w _⟩

end

theorem held_any (B : Nat) (n : Nt) (w : World) (vF vI vO vK vN vC : Value) (h : NetV B w n vF vI vO vK vN vC) :
    Calls Tryd.prog 5 #[.agg #[.int .i64 n.places, vF, vI, vO, vK, vN, vC]] w fun e w' => ∃ b : Bool, e = .returned (.bool b) ∧ (b = true ↔ Held n) ∧ Below w.heap.size w w' := by
  obtain ⟨adF, _, _, capF, rfl, -, -⟩ := h.f
  obtain ⟨adI, _, _, capI, rfl, -, -⟩ := h.i
  obtain ⟨adO, _, _, capO, rfl, -, -⟩ := h.o
  obtain ⟨adK, _, _, capK, rfl, -, -⟩ := h.k
  obtain ⟨adN, _, _, capN, rfl, -, -⟩ := h.m
  obtain ⟨adC, _, _, capC, rfl, -, -⟩ := h.c
  unfold Held
  by_cases h0 : ¬ (n.places ≤ 300)
  · exact (held_no0 n w adF adI adO adK adN adC capF capI capO capK capN capC  (by omega)).mono fun e w' ⟨he, hb⟩ => ⟨false, he, by simp; omega, hb⟩
  replace h0 := Classical.not_not.1 h0
  by_cases h1 : ¬ (n.first.length ≤ 300)
  · exact (held_no1 n w adF adI adO adK adN adC capF capI capO capK capN capC h0 (by omega)).mono fun e w' ⟨he, hb⟩ => ⟨false, he, by simp; omega, hb⟩
  replace h1 := Classical.not_not.1 h1
  by_cases h2 : ¬ (n.ins.length ≤ 30)
  · exact (held_no2 n w adF adI adO adK adN adC capF capI capO capK capN capC h0 h1 (by omega)).mono fun e w' ⟨he, hb⟩ => ⟨false, he, by simp; omega, hb⟩
  replace h2 := Classical.not_not.1 h2
  by_cases h3 : ¬ (n.outs.length ≤ 30)
  · exact (held_no3 n w adF adI adO adK adN adC capF capI capO capK capN capC h0 h1 h2 (by omega)).mono fun e w' ⟨he, hb⟩ => ⟨false, he, by simp; omega, hb⟩
  replace h3 := Classical.not_not.1 h3
  by_cases h4 : ¬ (n.keeps.length ≤ 60)
  · exact (held_no4 n w adF adI adO adK adN adC capF capI capO capK capN capC h0 h1 h2 h3 (by omega)).mono fun e w' ⟨he, hb⟩ => ⟨false, he, by simp; omega, hb⟩
  replace h4 := Classical.not_not.1 h4
  by_cases h5 : ¬ (n.nums.length ≤ 60)
  · exact (held_no5 n w adF adI adO adK adN adC capF capI capO capK capN capC h0 h1 h2 h3 h4 (by omega)).mono fun e w' ⟨he, hb⟩ => ⟨false, he, by simp; omega, hb⟩
  replace h5 := Classical.not_not.1 h5
  by_cases h6 : ¬ (n.code.length ≤ 120)
  · exact (held_no6 n w adF adI adO adK adN adC capF capI capO capK capN capC h0 h1 h2 h3 h4 h5 (by omega)).mono fun e w' ⟨he, hb⟩ => ⟨false, he, by simp; omega, hb⟩
  replace h6 := Classical.not_not.1 h6
  exact (held_yes n w adF adI adO adK adN adC capF capI capO capK capN capC h0 h1 h2 h3 h4 h5 h6).mono fun e w' ⟨he, hb⟩ => ⟨true, he, by simp; omega, hb⟩

set_option maxHeartbeats 1000000 in
theorem sameI_any {A A' : Nat → Prop} (va vb : Value) (zs : List Int) (w : World) (ha : Ints A w va zs) (hb : Ints A' w vb zs) (hl : zs.length ≤ 1000000) :
    Calls Tryd.prog 34 #[va, vb] w fun e w' => e = .returned (.bool true) ∧ Below w.heap.size w w' := by
  obtain ⟨ad1, b1, o1, c1, rfl, p1, q1⟩ := ha
  obtain ⟨ad2, b2, o2, c2, rfl, p2, q2⟩ := hb
  have H1 : Hid (0 < zs.length → ad1 = some ⟨b1, o1, none⟩ ∧ A b1) := p1
  have H2 : Hid (0 < zs.length → ad2 = some ⟨b2, o2, none⟩ ∧ A' b2) := p2
  have Q1 : Hid (∀ k, k < zs.length → w.cell? ⟨b1, o1 + k, none⟩ = some (.int .i64 (zs.getD k 0))) := q1
  have Q2 : Hid (∀ k, k < zs.length → w.cell? ⟨b2, o2 + k, none⟩ = some (.int .i64 (zs.getD k 0))) := q2
  clear p1 p2 q1 q2
  go_enter Tryd.func34, Tryd.ntmps34
  go_wp2
  go_loopw [5] (fun i wr => ∃ k : Nat, k ≤ zs.length ∧ i = .int .i64 k ∧ Below w.heap.size w wr) (fun i _ => zs.length - (intOf i).toNat)
  case atStart => exact ⟨0, Nat.zero_le _, rfl, Below.refl _ _⟩
  case round =>
    obtain ⟨k, hk, rfl, hbr⟩ := hrel
    have HB : Hid (Below w.heap.size w wr) := hbr
    clear hbr
    by_cases hlt : k < zs.length
    · have hi1 := ix23 ad1 b1 o1 zs.length c1 k hlt (fun h => (H1.out h).1)
      have hi2 := ix23 ad2 b2 o2 zs.length c2 k hlt (fun h => (H2.out h).1)
      obtain ⟨x, hx⟩ : ∃ x, x = zs.getD k 0 := ⟨_, rfl⟩
      have y1 : wr.cell? ⟨b1, o1 + k, none⟩ = some (.int .i64 x) := by rw [hx]; exact cell_below HB.out (Q1.out k hlt)
      have y2 : wr.cell? ⟨b2, o2 + k, none⟩ = some (.int .i64 x) := by rw [hx]; exact cell_below HB.out (Q2.out k hlt)
      clear hx
      go_wp2_with fail
      go_quiet (fail)
      go_wp2_with fail
      go_roundw
      case rel => exact ⟨k + 1, by omega, by go_num, ball HB.out ⟨rfl, rfl, rfl, Nat.le_refl _, fun _ _ => rfl⟩⟩
      case measure => simp [intOf]; omega
    · go_wp2
      go_ret
      exact ⟨rfl, HB.out⟩
end Nx
end Go.Proofs.YtalfelkblbbmpaaDoor
