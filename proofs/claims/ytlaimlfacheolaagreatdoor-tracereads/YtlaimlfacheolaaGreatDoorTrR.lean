/- chapter 14: the law's few, sameNumbers; what both readers tell is the same. -/
import Derived.Test.YtlaimlfacheolaaGreatDoorTrQ
import Derived.Test.YtlaimlfacheolaaGreatDoorEs5
namespace Go.Proofs.YtlaimlfacheolaaGreatDoor
open Go.RowKit
namespace Tq
open Nx (Ints lt_of_block)
theorem few_big (ad : Option Addr) (n cap : Nat) (w : World) (hn : 40 < n) :
    Calls Tryz.prog 4 #[.slice ad n cap] w fun e w' => e = .returned (.bool false) ∧ w' = w := by
  go_enter Tryz.func4, Tryz.ntmps4
  go_wp2
  go_ret
  exact ⟨rfl, rfl⟩
set_option maxHeartbeats 1000000 in
/-- rows of these lengths: few, or not -/
theorem few_any (ad : Option Addr) (n cap b off : Nat) (w : World) (L : Nat → Nat) (hn : n ≤ 40) (ha : 0 < n → ad = some ⟨b, off, none⟩)
    (hc : ∀ k, k < n → ∃ a c, w.cell? ⟨b, off + k, none⟩ = some (.slice a (L k) c)) :
    Calls Tryz.prog 4 #[.slice ad n cap] w fun e w' => (e = .returned (.bool true) ∧ (∀ k, k < n → L k ≤ 30) ∨ e = .returned (.bool false) ∧ ¬ ∀ k, k < n → L k ≤ 30) ∧ w' = w := by
  have HA : Hid (0 < n → ad = some ⟨b, off, none⟩) := ha
  have HC : Hid (∀ k, k < n → ∃ a c, w.cell? ⟨b, off + k, none⟩ = some (.slice a (L k) c)) := hc
  clear ha hc
  go_enter Tryz.func4, Tryz.ntmps4
  go_wp2
  go_loopw [3] (fun i wr => ∃ k : Nat, k ≤ n ∧ i = .int .i64 k ∧ Hid (∀ j, j < k → L j ≤ 30) ∧ wr = w) (fun i _ => n - (intOf i).toNat)
  case atStart => exact ⟨0, Nat.zero_le _, rfl, fun j hj => by omega, rfl⟩
  case round =>
    obtain ⟨k, hk, rfl, HL, hw⟩ := hrel
    obtain rfl := hw
    by_cases hlt : k < n
    · have hix := ixRow ad b off n cap k hlt HA.out
      obtain ⟨a, c, cx⟩ := HC.out k hlt
      obtain ⟨l, hl⟩ : ∃ l, l = L k := ⟨_, rfl⟩
      rw [← hl] at cx
      have HLK : Hid (l = L k) := hl
      clear hl
      by_cases h30 : l ≤ 30
      · go_wp2
        go_roundw
        case rel => exact ⟨k + 1, by omega, by go_num, fun j hj => by
          by_cases e : j = k
          · subst e; rw [← HLK.out]; exact h30
          · exact HL.out j (by omega), by first | trivial | rfl⟩
        case measure => simp [intOf]; omega
      · go_wp2
        go_ret
        exact ⟨.inr ⟨rfl, fun hh => h30 (by rw [HLK.out]; exact hh k hlt)⟩, rfl⟩
    · obtain rfl : k = n := by omega
      go_wp2
      go_ret
      exact ⟨.inl ⟨rfl, HL.out⟩, rfl⟩
set_option maxHeartbeats 1000000 in
theorem sameN_any {A A' : Nat → Prop} (va vb : Value) (zs : List Int) (w : World) (ha : Ints A w va zs) (hb : Ints A' w vb zs) (hl : zs.length ≤ 1000000) :
    Calls Tryz.prog 10 #[va, vb] w fun e w' => e = .returned (.bool true) ∧ Hid (Below w.heap.size w w') := by
  obtain ⟨ad1, b1, o1, c1, rfl, p1, q1⟩ := ha
  obtain ⟨ad2, b2, o2, c2, rfl, p2, q2⟩ := hb
  have H1 : Hid (0 < zs.length → ad1 = some ⟨b1, o1, none⟩ ∧ A b1) := p1
  have H2 : Hid (0 < zs.length → ad2 = some ⟨b2, o2, none⟩ ∧ A' b2) := p2
  have Q1 : Hid (∀ k, k < zs.length → w.cell? ⟨b1, o1 + k, none⟩ = some (.int .i64 (zs.getD k 0))) := q1
  have Q2 : Hid (∀ k, k < zs.length → w.cell? ⟨b2, o2 + k, none⟩ = some (.int .i64 (zs.getD k 0))) := q2
  clear p1 p2 q1 q2
  go_enter Tryz.func10, Tryz.ntmps10
  go_wp2
  go_loopw [5] (fun i wr => ∃ k : Nat, k ≤ zs.length ∧ i = .int .i64 k ∧ Hid (Below w.heap.size w wr)) (fun i _ => zs.length - (intOf i).toNat)
  case atStart => exact ⟨0, Nat.zero_le _, rfl, Below.refl _ _⟩
  case round =>
    obtain ⟨k, hk, rfl, HB⟩ := hrel
    by_cases hlt : k < zs.length
    · have hi1 := ixNum ad1 b1 o1 zs.length c1 k hlt (fun h => (H1.out h).1)
      have hi2 := ixNum ad2 b2 o2 zs.length c2 k hlt (fun h => (H2.out h).1)
      obtain ⟨x, hx⟩ : ∃ x, x = zs.getD k 0 := ⟨_, rfl⟩
      have y1 : wr.cell? ⟨b1, o1 + k, none⟩ = some (.int .i64 x) := by rw [hx]; exact ck_cell HB.out (Q1.out k hlt)
      have y2 : wr.cell? ⟨b2, o2 + k, none⟩ = some (.int .i64 x) := by rw [hx]; exact ck_cell HB.out (Q2.out k hlt)
      clear hx
      go_wp2_with fail
      go_region
      all_goals
        go_wp2_with fail
        go_roundw
        case rel => exact ⟨k + 1, by omega, by go_num, HB.out.drew⟩
        case measure => simp [intOf]; omega
    · go_wp2
      go_ret
      exact ⟨rfl, HB.out⟩
/-- what both readers tell is the same -/
theorem read_both {w W1 W2 : World} {l : By} {a1 a2 : Option Addr} {n1 n2 c1 c2 : Nat} {f0 f1 : Int} {ev : Value} (h1 : RefO w W1 l (.slice a1 n1 c1) (f0, f1)) {W1' : World} (hb : Below W1.heap.size W1 W1') (h2 : ReadO W1' W2 l (.slice a2 n2 c2) ev) :
    ∃ rs : List (List Int), (readT l = .ok rs ∨ rs = []) ∧ n1 = rs.length ∧ n2 = rs.length ∧ OutR w.heap.size W2 (.slice a1 n1 c1) rs ∧ OutR W1'.heap.size W2 (.slice a2 n2 c2) rs ∧
      ∀ W3, Below W2.heap.size W2 W3 → ErrType W3 → Calls Tryz.prog 7 #[ev, .agg #[.int .i64 f0, .int .i64 f1]] W3 fun e w' => e = .returned (.bool true) ∧ Hid (Below W3.heap.size W3 w') := by
  obtain ⟨b1, m1⟩ := h1
  obtain ⟨b2, m2⟩ := h2
  cases hr : readT l with
  | ok rs =>
    rw [hr] at m1 m2
    obtain ⟨e1, o1⟩ := m1
    obtain ⟨e2, o2⟩ := m2
    obtain ⟨x1, x2, x3⟩ := o1.form
    injection x3 with _ x4 _
    obtain ⟨y1, y2, y3⟩ := o2.form
    injection y3 with _ y4 _
    obtain ⟨rfl, rfl⟩ : f0 = 0 ∧ f1 = -1 := by simpa using e1
    subst e2
    exact ⟨rs, .inl rfl, x4, y4, (o1.below hb).below b2, o2, fun W3 _ _ => is_nil W3⟩
  | error f =>
    rw [hr] at m1 m2
    obtain ⟨e1, o1⟩ := m1
    obtain ⟨e2, o2⟩ := m2
    injection o1 with z1 z2 z3
    injection e2 with z4 z5 z6
    subst z1 z2 z3 z4 z5 z6
    refine ⟨[], .inr rfl, rfl, rfl, OutR.nil _ _, OutR.nil _ _, fun W3 hb3 hE => ?_⟩
    rcases o2 with ⟨hf, rfl⟩ | ⟨g, i, hf, hg, rfl, hk⟩
    · rw [hf] at e1
      obtain ⟨rfl, rfl⟩ : f0 = 4 ∧ f1 = -1 := by simpa using e1
      exact is_err 4 W3 hE
    · rw [hf] at e1
      obtain ⟨rfl, rfl⟩ : f0 = 3 ∧ f1 = (i : Int) := by simpa using e1
      exact is_at g 3 i W3 hE (ck_block hb3 hk)
end Tq
end Go.Proofs.YtlaimlfacheolaaGreatDoor
