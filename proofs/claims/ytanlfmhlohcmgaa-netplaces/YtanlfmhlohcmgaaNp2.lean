/- The law's few (keep). -/
import Derived.Test.YtanlfmhlohcmgaaNk
namespace Go.Proofs.Ytanlfmhlohcmgaa
open Go.RowKit
namespace Nx

theorem ix27 (ad : Option Addr) (b off n cap k : Nat) (hk : k < n) (ha : 0 < n → ad = some ⟨b, off, none⟩) (w : World) : (Instr.indexAt 27 (.slice ad n cap) (.int .i64 (k : Int))).run Try.prog w = .ok (.pointer (some ⟨b, off + k, none⟩)) w := by
  obtain rfl := ha (by omega)
  rw [run_indexAt_slice _ _ _ _ _ _ _ (by kernel_rfl), if_pos ⟨by omega, by omega⟩]
  have e : (sizeOf (Try.prog.elem 27)).run Try.prog w = .ok 1 w := by kernel_rfl
  rw [e]
  simp [Result.andThen, Addr.add]

theorem few_big (ad : Option Addr) (n cap : Nat) (w : World) (hn : 40 < n) :
    Calls Try.prog 5 #[.slice ad n cap] w fun e w' => e = .returned (.bool false) ∧ w' = w := by
  go_enter Try.func5, Try.ntmps5
  go_wp2
  go_ret
  exact ⟨rfl, rfl⟩

set_option maxHeartbeats 1000000 in
/-- rows of these lengths: few, or not -/
theorem few_any (ad : Option Addr) (n cap b off : Nat) (w : World) (L : Nat → Nat) (hn : n ≤ 40) (ha : 0 < n → ad = some ⟨b, off, none⟩)
    (hc : ∀ k, k < n → ∃ a c, w.cell? ⟨b, off + k, none⟩ = some (.slice a (L k) c)) :
    Calls Try.prog 5 #[.slice ad n cap] w fun e w' => (e = .returned (.bool true) ∧ (∀ k, k < n → L k ≤ 30) ∨ e = .returned (.bool false) ∧ ¬ ∀ k, k < n → L k ≤ 30) ∧ w' = w := by
  have HA : Hid (0 < n → ad = some ⟨b, off, none⟩) := ha
  have HC : Hid (∀ k, k < n → ∃ a c, w.cell? ⟨b, off + k, none⟩ = some (.slice a (L k) c)) := hc
  clear ha hc
  go_enter Try.func5, Try.ntmps5
  go_wp2
  go_loopw [3] (fun i wr => ∃ k : Nat, k ≤ n ∧ i = .int .i64 k ∧ Hid (∀ j, j < k → L j ≤ 30) ∧ wr = w) (fun i _ => n - (intOf i).toNat)
  case atStart => exact ⟨0, Nat.zero_le _, rfl, fun j hj => by omega, rfl⟩
  case round =>
    obtain ⟨k, hk, rfl, HL, hw⟩ := hrel
    obtain rfl := hw
    by_cases hlt : k < n
    · have hix := ix27 ad b off n cap k hlt HA.out
      obtain ⟨a, c, cx⟩ := HC.out k hlt
      obtain ⟨l, hl⟩ : ∃ l, l = L k := ⟨_, rfl⟩
      rw [← hl] at cx
      have HLK : Hid (l = L k) := hl
      clear hl
      by_cases h30 : l ≤ 30
      · go_wp2
        go_roundw
        case rel => exact ⟨k + 1, by omega, by go_num, fun j hj => by
          by_cases e : j = k
          · subst e; rw [← HLK.out]; exact h30
          · exact HL.out j (by omega), by first | trivial | rfl⟩
        case measure => simp [intOf]; omega
      · go_wp2
        go_ret
        exact ⟨.inr ⟨rfl, fun hh => h30 (by rw [HLK.out]; exact hh k hlt)⟩, rfl⟩
    · obtain rfl : k = n := by omega
      go_wp2
      go_ret
      exact ⟨.inl ⟨rfl, HL.out⟩, rfl⟩
end Nx
end Go.Proofs.Ytanlfmhlohcmgaa
