/-
  What the document's own Two returns, code by code; and what the program's Two returns, of any code.
-/
import Derived.Test.YthefnfejhmpobaaRef
import Derived.Test.YthefnfejhmpobaaTwo
namespace Go.Proofs.Ythefnfejhmpobaa
open Go.RowKit

theorem vTwo_none {c : Int} (h : ∀ k : Int, 6 ≤ k → k ≤ 16 → c ≠ k) (a b : Int) : vTwo c a b = 0 := by
  unfold vTwo
  rw [if_neg (h 6 (by omega) (by omega)), if_neg (h 7 (by omega) (by omega)), if_neg (h 8 (by omega) (by omega)), if_neg (h 9 (by omega) (by omega)), if_neg (h 10 (by omega) (by omega)), if_neg (h 11 (by omega) (by omega)), if_neg (h 12 (by omega) (by omega)), if_neg (h 13 (by omega) (by omega)), if_neg (h 14 (by omega) (by omega)), if_neg (h 15 (by omega) (by omega)), if_neg (h 16 (by omega) (by omega))]

theorem asked_nil (c : Int) (h0 : 0 ≤ c) (h1 : c < 6) : asked[c.toNat]? = some .nilFunc := by
  have h : c = 0 ∨ c = 1 ∨ c = 2 ∨ c = 3 ∨ c = 4 ∨ c = 5 := by omega
  rcases h with rfl | rfl | rfl | rfl | rfl | rfl <;> rfl

theorem two_any (c a b : Int) (w : World) :
    Calls Try.prog 8 #[.int .i64 c, .int .i64 a, .int .i64 b] w fun e w' => e = .returned (.int .i64 (vTwo c a b)) ∧ w' = w.alloc (.cells asked 42) := by
  by_cases h0 : c < 0
  · rw [vTwo_none (fun k hk _ => by omega)]
    exact two_low c a b w h0
  by_cases h1 : 17 ≤ c
  · rw [vTwo_none (fun k _ hk => by omega)]
    exact two_high c a b w h1
  by_cases h2 : c < 6
  · rw [vTwo_none (fun k hk _ => by omega)]
    exact two_nil c a b w (by omega) (by omega) (asked_nil c (by omega) h2)
  have h : c = 6 ∨ c = 7 ∨ c = 8 ∨ c = 9 ∨ c = 10 ∨ c = 11 ∨ c = 12 ∨ c = 13 ∨ c = 14 ∨ c = 15 ∨ c = 16 := by omega
  clear h0 h1 h2
  rcases h with rfl | rfl | rfl | rfl | rfl | rfl | rfl | rfl | rfl | rfl | rfl
  · exact two_func 6 20 a b _ w (by omega) (by omega) rfl (by omega) (add_any a b)
  · exact two_func 7 21 a b _ w (by omega) (by omega) rfl (by omega) (sub_any a b)
  · exact two_func 8 22 a b _ w (by omega) (by omega) rfl (by omega) (mul_any a b)
  · exact two_func 9 23 a b _ w (by omega) (by omega) rfl (by omega) (quotient_any a b)
  · exact two_func 10 24 a b _ w (by omega) (by omega) rfl (by omega) (rest_any a b)
  · exact two_func 11 25 a b _ w (by omega) (by omega) rfl (by omega) (eq_any a b)
  · exact two_func 12 26 a b _ w (by omega) (by omega) rfl (by omega) (ne_any a b)
  · exact two_func 13 27 a b _ w (by omega) (by omega) rfl (by omega) (lt_any a b)
  · exact two_func 14 28 a b _ w (by omega) (by omega) rfl (by omega) (le_any a b)
  · exact two_func 15 29 a b _ w (by omega) (by omega) rfl (by omega) (and_any a b)
  · exact two_func 16 30 a b _ w (by omega) (by omega) rfl (by omega) (or_any a b)

set_option maxHeartbeats 400000 in
theorem refTwo_6 (a b : Int) (w : World) :
    Calls Try.prog 9 #[.int .i64 6, .int .i64 a, .int .i64 b] w fun e w' => e = .returned (.int .i64 (vTwo 6 a b)) ∧ w' = w := by
  go_enter Try.func9, Try.ntmps9
  go_wp2
  go_ret
  exact ⟨ret1 (u_add a b), rfl⟩

set_option maxHeartbeats 400000 in
theorem refTwo_7 (a b : Int) (w : World) :
    Calls Try.prog 9 #[.int .i64 7, .int .i64 a, .int .i64 b] w fun e w' => e = .returned (.int .i64 (vTwo 7 a b)) ∧ w' = w := by
  go_enter Try.func9, Try.ntmps9
  go_wp2
  go_ret
  exact ⟨ret1 (u_sub a b), rfl⟩

set_option maxHeartbeats 400000 in
theorem refTwo_8 (a b : Int) (w : World) :
    Calls Try.prog 9 #[.int .i64 8, .int .i64 a, .int .i64 b] w fun e w' => e = .returned (.int .i64 (vTwo 8 a b)) ∧ w' = w := by
  go_enter Try.func9, Try.ntmps9
  go_wp2
  go_ret
  exact ⟨ret1 (u_mul a b), rfl⟩

set_option maxHeartbeats 400000 in
theorem refTwo_9 (a b : Int) (w : World) (ha : -9223372036854775808 ≤ a ∧ a ≤ 9223372036854775807) (hb : -9223372036854775808 ≤ b ∧ b ≤ 9223372036854775807) :
    Calls Try.prog 9 #[.int .i64 9, .int .i64 a, .int .i64 b] w fun e w' => e = .returned (.int .i64 (vTwo 9 a b)) ∧ w' = w := by
  go_enter Try.func9, Try.ntmps9
  go_wp2_with (go_at_call 31; refine (divide_any _ _ _ ha hb).mono ?_; rintro e w' ⟨rfl, rfl⟩)
  go_ret
  exact ⟨rfl, rfl⟩

set_option maxHeartbeats 400000 in
theorem refTwo_10 (a b : Int) (w : World) (ha : -9223372036854775808 ≤ a ∧ a ≤ 9223372036854775807) (hb : -9223372036854775808 ≤ b ∧ b ≤ 9223372036854775807) :
    Calls Try.prog 9 #[.int .i64 10, .int .i64 a, .int .i64 b] w fun e w' => e = .returned (.int .i64 (vTwo 10 a b)) ∧ w' = w := by
  go_enter Try.func9, Try.ntmps9
  go_wp2_with (go_at_call 31; refine (divide_any _ _ _ ha hb).mono ?_; rintro e w' ⟨rfl, rfl⟩)
  go_ret
  exact ⟨rfl, rfl⟩

set_option maxHeartbeats 400000 in
theorem refTwo_11 (a b : Int) (w : World) :
    Calls Try.prog 9 #[.int .i64 11, .int .i64 a, .int .i64 b] w fun e w' => e = .returned (.int .i64 (vTwo 11 a b)) ∧ w' = w := by
  go_enter Try.func9, Try.ntmps9
  go_wp2_with (go_at_call 19; refine (yes_any _ _).mono ?_; rintro e w' ⟨rfl, rfl⟩)
  go_ret
  exact ⟨ret1 (rfl), rfl⟩

set_option maxHeartbeats 400000 in
theorem refTwo_12 (a b : Int) (w : World) :
    Calls Try.prog 9 #[.int .i64 12, .int .i64 a, .int .i64 b] w fun e w' => e = .returned (.int .i64 (vTwo 12 a b)) ∧ w' = w := by
  go_enter Try.func9, Try.ntmps9
  go_wp2_with (go_at_call 19; refine (yes_any _ _).mono ?_; rintro e w' ⟨rfl, rfl⟩)
  go_ret
  exact ⟨ret1 (rfl), rfl⟩

set_option maxHeartbeats 400000 in
theorem refTwo_13 (a b : Int) (w : World) :
    Calls Try.prog 9 #[.int .i64 13, .int .i64 a, .int .i64 b] w fun e w' => e = .returned (.int .i64 (vTwo 13 a b)) ∧ w' = w := by
  go_enter Try.func9, Try.ntmps9
  go_wp2_with (go_at_call 19; refine (yes_any _ _).mono ?_; rintro e w' ⟨rfl, rfl⟩)
  go_ret
  exact ⟨ret1 (rfl), rfl⟩

theorem not_gt (a b : Int) : (!decide (b < a)) = decide (a ≤ b) := by
  by_cases h : b < a
  · simp [h]
  · simp [h, Int.not_lt.1 h]

set_option maxHeartbeats 400000 in
theorem refTwo_14 (a b : Int) (w : World) :
    Calls Try.prog 9 #[.int .i64 14, .int .i64 a, .int .i64 b] w fun e w' => e = .returned (.int .i64 (vTwo 14 a b)) ∧ w' = w := by
  go_enter Try.func9, Try.ntmps9
  go_wp2_with (go_at_call 19; refine (yes_any _ _).mono ?_; rintro e w' ⟨rfl, rfl⟩)
  go_ret
  exact ⟨ret1 (congrArg yes (not_gt a b)), rfl⟩

set_option maxHeartbeats 400000 in
theorem refTwo_15 (a b : Int) (w : World) :
    Calls Try.prog 9 #[.int .i64 15, .int .i64 a, .int .i64 b] w fun e w' => e = .returned (.int .i64 (vTwo 15 a b)) ∧ w' = w := by
  by_cases h : a = 0
  · subst h
    go_enter Try.func9, Try.ntmps9
    go_wp2_with (go_at_call 19; refine (yes_any _ _).mono ?_; rintro e w' ⟨rfl, rfl⟩)
    go_ret
    exact ⟨rfl, rfl⟩
  · have h0 : (a == 0) = false := by simpa using h
    have E : Hid (vTwo 15 a b = yes (!(b == 0))) := by
      show yes (!(a == 0) && !(b == 0)) = _
      rw [h0]; rfl
    go_enter Try.func9, Try.ntmps9
    go_wp2_with (go_at_call 19; refine (yes_any _ _).mono ?_; rintro e w' ⟨rfl, rfl⟩)
    go_ret
    exact ⟨ret1 E.out.symm, rfl⟩

set_option maxHeartbeats 400000 in
theorem refTwo_16 (a b : Int) (w : World) :
    Calls Try.prog 9 #[.int .i64 16, .int .i64 a, .int .i64 b] w fun e w' => e = .returned (.int .i64 (vTwo 16 a b)) ∧ w' = w := by
  by_cases h : a = 0
  · subst h
    go_enter Try.func9, Try.ntmps9
    go_wp2_with (go_at_call 19; refine (yes_any _ _).mono ?_; rintro e w' ⟨rfl, rfl⟩)
    go_ret
    exact ⟨rfl, rfl⟩
  · have h0 : (a == 0) = false := by simpa using h
    have E : Hid (vTwo 16 a b = yes true) := by
      show yes (!(a == 0) || !(b == 0)) = _
      rw [h0]; rfl
    go_enter Try.func9, Try.ntmps9
    go_wp2_with (go_at_call 19; refine (yes_any _ _).mono ?_; rintro e w' ⟨rfl, rfl⟩)
    go_ret
    exact ⟨ret1 E.out.symm, rfl⟩

set_option maxHeartbeats 400000 in
theorem refTwo_no (c a b : Int) (w : World) (h : ∀ k : Int, 6 ≤ k → k ≤ 16 → c ≠ k) :
    Calls Try.prog 9 #[.int .i64 c, .int .i64 a, .int .i64 b] w fun e w' => e = .returned (.int .i64 (vTwo c a b)) ∧ w' = w := by
  rw [vTwo_none h]
  have b6 : (c == 6) = false := by simpa using h 6 (by omega) (by omega)
  have b7 : (c == 7) = false := by simpa using h 7 (by omega) (by omega)
  have b8 : (c == 8) = false := by simpa using h 8 (by omega) (by omega)
  have b9 : (c == 9) = false := by simpa using h 9 (by omega) (by omega)
  have b10 : (c == 10) = false := by simpa using h 10 (by omega) (by omega)
  have b11 : (c == 11) = false := by simpa using h 11 (by omega) (by omega)
  have b12 : (c == 12) = false := by simpa using h 12 (by omega) (by omega)
  have b13 : (c == 13) = false := by simpa using h 13 (by omega) (by omega)
  have b14 : (c == 14) = false := by simpa using h 14 (by omega) (by omega)
  have b15 : (c == 15) = false := by simpa using h 15 (by omega) (by omega)
  have b16 : (c == 16) = false := by simpa using h 16 (by omega) (by omega)
  clear h
  go_enter Try.func9, Try.ntmps9
  go_wp2
  go_ret
  exact ⟨rfl, rfl⟩

theorem refTwo_any (c a b : Int) (w : World) (ha : -9223372036854775808 ≤ a ∧ a ≤ 9223372036854775807) (hb : -9223372036854775808 ≤ b ∧ b ≤ 9223372036854775807) :
    Calls Try.prog 9 #[.int .i64 c, .int .i64 a, .int .i64 b] w fun e w' => e = .returned (.int .i64 (vTwo c a b)) ∧ w' = w := by
  by_cases h0 : c < 6
  · exact refTwo_no c a b w (fun k hk _ => by omega)
  by_cases h1 : 16 < c
  · exact refTwo_no c a b w (fun k _ hk => by omega)
  have h : c = 6 ∨ c = 7 ∨ c = 8 ∨ c = 9 ∨ c = 10 ∨ c = 11 ∨ c = 12 ∨ c = 13 ∨ c = 14 ∨ c = 15 ∨ c = 16 := by omega
  clear h0 h1
  rcases h with rfl | rfl | rfl | rfl | rfl | rfl | rfl | rfl | rfl | rfl | rfl
  · exact refTwo_6 a b w
  · exact refTwo_7 a b w
  · exact refTwo_8 a b w
  · exact refTwo_9 a b w ha hb
  · exact refTwo_10 a b w ha hb
  · exact refTwo_11 a b w
  · exact refTwo_12 a b w
  · exact refTwo_13 a b w
  · exact refTwo_14 a b w
  · exact refTwo_15 a b w
  · exact refTwo_16 a b w

end Go.Proofs.Ythefnfejhmpobaa
