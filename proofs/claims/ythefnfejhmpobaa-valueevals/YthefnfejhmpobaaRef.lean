/-
  What the document's own answer for numbers returns.
-/
import Derived.Test.YthefnfejhmpobaaSmall
namespace Go.Proofs.Ythefnfejhmpobaa
open Go.RowKit

theorem refOne_any (c a : Int) (w : World) :
    Calls Try.prog 7 #[.int .i64 c, .int .i64 a] w fun e w' => e = .returned (.int .i64 (vOne c a)) ∧ w' = w := by
  by_cases h4 : c = 4
  · subst h4
    go_enter Try.func7, Try.ntmps7
    go_wp2
    go_ret
    exact ⟨rfl, rfl⟩
  · by_cases h5 : c = 5
    · subst h5
      go_enter Try.func7, Try.ntmps7
      go_wp2_with (go_at_call 19; refine (yes_any _ _).mono ?_; rintro e w' ⟨rfl, rfl⟩)
      go_ret
      exact ⟨rfl, rfl⟩
    · have E : Hid (vOne c a = yes false) := by unfold Hid vOne; rw [if_neg h4, if_neg h5]; rfl
      have b4 : (c == 4) = false := by simpa using h4
      have b5 : (c == 5) = false := by simpa using h5
      go_enter Try.func7, Try.ntmps7
      go_wp2_with (go_at_call 19; refine (yes_any _ _).mono ?_; rintro e w' ⟨rfl, rfl⟩)
      go_ret
      exact ⟨by rw [E.out]; rfl, rfl⟩

theorem refPick_any (a b c : Int) (w : World) :
    Calls Try.prog 11 #[.int .i64 a, .int .i64 b, .int .i64 c] w fun e w' => e = .returned (.int .i64 (vPick a b c)) ∧ w' = w := by
  by_cases h : a = 0
  · subst h
    go_enter Try.func11, Try.ntmps11
    go_wp2
    go_ret
    exact ⟨rfl, rfl⟩
  · have E : Hid (vPick a b c = b) := by unfold Hid vPick; rw [if_neg h]
    have b4 : (a == 0) = false := by simpa using h
    go_enter Try.func11, Try.ntmps11
    go_wp2
    go_ret
    exact ⟨by rw [E.out]; rfl, rfl⟩

theorem size_neg (a : Int) (ha : -9223372036854775808 ≤ a) (h : a < 0) : IntKind.u64.wrap (-IntKind.u64.wrap a) = (a.natAbs : Int) := by
  rw [IntKind.wrap_u64, IntKind.wrap_u64]
  omega

theorem size_any (a : Int) (w : World) (ha : -9223372036854775808 ≤ a ∧ a ≤ 9223372036854775807) :
    Calls Try.prog 33 #[.int .i64 a] w fun e w' => e = .returned (.int .u64 a.natAbs) ∧ w' = w := by
  by_cases h : a < 0
  · have E : Hid (IntKind.u64.wrap (-IntKind.u64.wrap a) = (a.natAbs : Int)) := size_neg a ha.1 h
    go_enter Try.func33, Try.ntmps33
    go_wp2
    go_ret
    exact ⟨by rw [← E.out]; rfl, rfl⟩
  · have E : Hid ((a.natAbs : Int) = a) := by unfold Hid; omega
    go_enter Try.func33, Try.ntmps33
    go_wp2
    go_ret
    exact ⟨by rw [E.out]; rfl, rfl⟩

theorem ret2 {k : IntKind} {a b c d : Int} (h : a = c) (h' : b = d) : Ending.returned (.tuple #[.int k a, .int k b]) = .returned (.tuple #[.int k c, .int k d]) := by rw [h, h']

theorem ret1 {k : IntKind} {a b : Int} (h : a = b) : Ending.returned (.int k a) = .returned (.int k b) := by rw [h]

set_option maxHeartbeats 400000 in
theorem divide_any (a b : Int) (w : World) (ha : -9223372036854775808 ≤ a ∧ a ≤ 9223372036854775807) (hb : -9223372036854775808 ≤ b ∧ b ≤ 9223372036854775807) :
    Calls Try.prog 31 #[.int .i64 a, .int .i64 b] w fun e w' => e = .returned (.tuple #[.int .i64 (vDiv a b), .int .i64 (vMod a b)]) ∧ w' = w := by
  by_cases h : b = 0
  · subst h
    go_enter Try.func31, Try.ntmps31
    go_wp2
    go_ret2
    exact ⟨rfl, rfl⟩
  · have hl : Hid (wrap64 (a - wrap64 (vDiv a b * b)) = vMod a b) := left_is a b hb h
    by_cases hs : decide (a < 0) = decide (b < 0)
    · have hq : Hid (wrap64 (IntKind.u64.wrap ((a.natAbs : Int) / (b.natAbs : Int))) = vDiv a b) := quo_same a b ha h hs
      have ht : (!decide (a < 0) == decide (b < 0)) = false := by simp [hs]
      have ht' : (decide (a < 0) != decide (b < 0)) = false := by simp [hs]
      clear hs
      go_enter Try.func31, Try.ntmps31
      go_wp2_with (go_at_call 33; refine (size_any _ _ (by assumption)).mono ?_; rintro e w' ⟨rfl, rfl⟩)
      go_ret2
      exact ⟨ret2 hq.out (by rw [hq.out]; exact hl.out), rfl⟩
    · have hq : Hid (wrap64 (-wrap64 (IntKind.u64.wrap ((a.natAbs : Int) / (b.natAbs : Int)))) = vDiv a b) := quo_other a b ha h hs
      have ht : (!decide (a < 0) == decide (b < 0)) = true := by simpa using hs
      have ht' : (decide (a < 0) != decide (b < 0)) = true := by simpa using hs
      clear hs
      go_enter Try.func31, Try.ntmps31
      go_wp2_with (go_at_call 33; refine (size_any _ _ (by assumption)).mono ?_; rintro e w' ⟨rfl, rfl⟩)
      go_ret2
      exact ⟨ret2 hq.out (by rw [hq.out]; exact hl.out), rfl⟩

end Go.Proofs.Ythefnfejhmpobaa
