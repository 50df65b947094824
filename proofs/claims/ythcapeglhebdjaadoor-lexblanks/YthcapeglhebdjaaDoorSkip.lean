/- pass, skip: where a run ends, where what is nothing ends. -/
import Derived.Test.YthcapeglhebdjaaDoorSmall
namespace Go.Proofs.YthcapeglhebdjaaDoor
open Go.RowKit

abbrev bs (s : ByteArray) : List UInt8 := s.data.toList
theorem bs_at (s : ByteArray) (k : Nat) (h : k < s.size) : (bs s)[k]? = some s[k] := by
  rw [List.getElem?_eq_getElem (by simpa using h)]; rfl
theorem bs_len (s : ByteArray) : (bs s).length = s.size := by simp
theorem ret_int {k : IntKind} {a b : Int} (h : a = b) : Ending.returned (.int k a) = .returned (.int k b) := by rw [h]

set_option maxHeartbeats 800000 in
theorem pass_inl (s : ByteArray) (a : Nat) (w : World) (hs : s.size ≤ 20000) (ha : a ≤ s.size) :
    Calls Tryd.prog 26 #[.string s, .int .i64 a, .func (.func 27) #[] #[]] w fun e w' => e = .returned (.int .i64 (Lx.runTo Lx.inl (bs s) a : Nat)) ∧ w' = w := by
  go_enter Tryd.func26, Tryd.ntmps26
  go_wp2
  go_loop [1] (fun i => ∃ k : Nat, k ≤ s.size ∧ i = .int .i64 k ∧ Hid (Lx.runTo Lx.inl (bs s) a = Lx.runTo Lx.inl (bs s) k)) (fun i => s.size - (intOf i).toNat)
  case atStart => exact ⟨a, ha, rfl, rfl⟩
  case round =>
    obtain ⟨k, hk, rfl, hr⟩ := hrel
    by_cases hlt : k < s.size
    · have hc := bs_at s k hlt
      have HC : Hid ((bs s)[k]? = some s[k]) := hc
      clear hc
      by_cases hp : Lx.inl s[k] = true
      · go_wp2_with (go_at_call 27; refine (inLine_any _ _).mono ?_; rintro e w' ⟨rfl, rfl⟩)
        go_round
        case rel => exact ⟨k + 1, by omega, by go_num, hr.out.trans (Lx.runTo_yes HC.out hp)⟩
        case measure => simp [intOf]; omega
      · have hp' : Lx.inl s[k] = false := by simpa using hp
        clear hp
        go_wp2_with (go_at_call 27; refine (inLine_any _ _).mono ?_; rintro e w' ⟨rfl, rfl⟩)
        go_ret
        exact ⟨ret_int (by rw [hr.out, Lx.runTo_no HC.out hp']), rfl⟩
    · go_wp2
      go_ret
      exact ⟨ret_int (by rw [hr.out, Lx.runTo_end (by rw [bs_len]; omega)]), rfl⟩
set_option maxHeartbeats 800000 in
theorem pass_digit (s : ByteArray) (a : Nat) (w : World) (hs : s.size ≤ 20000) (ha : a ≤ s.size) :
    Calls Tryd.prog 26 #[.string s, .int .i64 a, .func (.func 28) #[] #[]] w fun e w' => e = .returned (.int .i64 (Lx.runTo Lx.digit (bs s) a : Nat)) ∧ w' = w := by
  go_enter Tryd.func26, Tryd.ntmps26
  go_wp2
  go_loop [1] (fun i => ∃ k : Nat, k ≤ s.size ∧ i = .int .i64 k ∧ Hid (Lx.runTo Lx.digit (bs s) a = Lx.runTo Lx.digit (bs s) k)) (fun i => s.size - (intOf i).toNat)
  case atStart => exact ⟨a, ha, rfl, rfl⟩
  case round =>
    obtain ⟨k, hk, rfl, hr⟩ := hrel
    by_cases hlt : k < s.size
    · have hc := bs_at s k hlt
      have HC : Hid ((bs s)[k]? = some s[k]) := hc
      clear hc
      by_cases hp : Lx.digit s[k] = true
      · go_wp2_with (go_at_call 28; refine (isDigit_any _ _).mono ?_; rintro e w' ⟨rfl, rfl⟩)
        go_round
        case rel => exact ⟨k + 1, by omega, by go_num, hr.out.trans (Lx.runTo_yes HC.out hp)⟩
        case measure => simp [intOf]; omega
      · have hp' : Lx.digit s[k] = false := by simpa using hp
        clear hp
        go_wp2_with (go_at_call 28; refine (isDigit_any _ _).mono ?_; rintro e w' ⟨rfl, rfl⟩)
        go_ret
        exact ⟨ret_int (by rw [hr.out, Lx.runTo_no HC.out hp']), rfl⟩
    · go_wp2
      go_ret
      exact ⟨ret_int (by rw [hr.out, Lx.runTo_end (by rw [bs_len]; omega)]), rfl⟩
set_option maxHeartbeats 800000 in
theorem pass_word (s : ByteArray) (a : Nat) (w : World) (hs : s.size ≤ 20000) (ha : a ≤ s.size) :
    Calls Tryd.prog 26 #[.string s, .int .i64 a, .func (.func 29) #[] #[]] w fun e w' => e = .returned (.int .i64 (Lx.runTo Lx.word (bs s) a : Nat)) ∧ w' = w := by
  go_enter Tryd.func26, Tryd.ntmps26
  go_wp2
  go_loop [1] (fun i => ∃ k : Nat, k ≤ s.size ∧ i = .int .i64 k ∧ Hid (Lx.runTo Lx.word (bs s) a = Lx.runTo Lx.word (bs s) k)) (fun i => s.size - (intOf i).toNat)
  case atStart => exact ⟨a, ha, rfl, rfl⟩
  case round =>
    obtain ⟨k, hk, rfl, hr⟩ := hrel
    by_cases hlt : k < s.size
    · have hc := bs_at s k hlt
      have HC : Hid ((bs s)[k]? = some s[k]) := hc
      clear hc
      by_cases hp : Lx.word s[k] = true
      · go_wp2_with (go_at_call 29; refine (isWord_any _ _).mono ?_; rintro e w' ⟨rfl, rfl⟩)
        go_round
        case rel => exact ⟨k + 1, by omega, by go_num, hr.out.trans (Lx.runTo_yes HC.out hp)⟩
        case measure => simp [intOf]; omega
      · have hp' : Lx.word s[k] = false := by simpa using hp
        clear hp
        go_wp2_with (go_at_call 29; refine (isWord_any _ _).mono ?_; rintro e w' ⟨rfl, rfl⟩)
        go_ret
        exact ⟨ret_int (by rw [hr.out, Lx.runTo_no HC.out hp']), rfl⟩
    · go_wp2
      go_ret
      exact ⟨ret_int (by rw [hr.out, Lx.runTo_end (by rw [bs_len]; omega)]), rfl⟩
end Go.Proofs.YthcapeglhebdjaaDoor
