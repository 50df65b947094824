/-
  ValueEven, one of three ways through it.
-/
import Derived.Test.YthefnfejhmpobaaEvenCalls
namespace Go.Proofs.Ythefnfejhmpobaa.valueEven
open Go.ChangeShapes Go.WideShapes Go.ChangeAt Go.RowKit

set_option maxRecDepth 100000 in
set_option maxHeartbeats 2000000 in
theorem walk3 (a0 : Int) (a1 : Int) (a2 : Int) (b0 : -9223372036854775808 ≤ a0 ∧ a0 ≤ 9223372036854775807) (w : World) (h : ¬ a1 = 0) (hr : ¬ vTwo 10 a0 a1 = 0) :
    Calls Try.prog 5 #[.int .i64 a0, .int .i64 a1, .int .i64 a2] w fun e w' => e = .returned (.bool true) ∧ Grown w w' := by
  have f1 : (vTwo 6 a0 a1 != vTwo 6 a1 a0) = false := by rw [even_1 a0 a1]; simp
  have f2 : (vTwo 7 (vTwo 6 a0 a1) a1 != a0) = false := by rw [even_2 a0 a1 b0]; simp
  have f3 : (vTwo 6 (vOne 4 a0) a0 != 0) = false := by rw [even_3]; simp
  have f4 : (vTwo 8 a0 (vTwo 6 a1 a2) != vTwo 6 (vTwo 8 a0 a1) (vTwo 8 a0 a2)) = false := by rw [even_4]; simp
  have f7 : (wrap64 (wrap64 (vTwo 13 a0 a1 + vTwo 11 a0 a1) + vTwo 13 a1 a0) != 1) = false := by rw [even_7]; simp
  have f8 : (wrap64 (vTwo 14 a0 a1 + vTwo 13 a1 a0) != 1) = false := by rw [even_8]; simp
  have f9 : (wrap64 (vTwo 12 a0 a1 + vTwo 11 a0 a1) != 1) = false := by rw [even_9]; simp
  have f10 : (vOne 5 (vTwo 15 a0 a1) == vTwo 16 (vOne 5 a0) (vOne 5 a1)) = true := by rw [even_10]; simp
  have f11 : (vOne 5 (vOne 5 (vOne 5 a0)) == vOne 5 a0) = true := by rw [even_11]; simp
  have f12 : (vPick a0 a1 a1 == a1) = true := by rw [even_12]; simp
  have f13 : (vPick (vOne 5 a0) a1 a2 == vPick a0 a2 a1) = true := by rw [even_13]; simp
  have hg := Grown.refl w
  have q1 : (a1 != 0) = true := by simpa using h
  have q3 : (a1 == 0) = false := by simpa using h
  have q2 : (vTwo 6 (vTwo 8 (vTwo 9 a0 a1) a1) (vTwo 10 a0 a1) != a0) = false := by rw [even_5 a0 a1 b0 h]; simp
  have q4 : (vTwo 10 a0 a1 != 0) = true := by simpa using hr
  have hs := even_6 a0 a1 h hr
  have ht : (!decide (vTwo 10 a0 a1 < 0) == decide (a0 < 0)) = false := by simp [hs]
  have ht' : (decide (vTwo 10 a0 a1 < 0) != decide (a0 < 0)) = false := by simp [hs]
  clear hs hr b0 h
  go_enter Try.func5, Try.ntmps5
  go_wp2_with (first | (go_at_call 8; refine (two_g _ _ _ hg).mono ?_; clear hg; rintro e w' ⟨rfl, hg⟩) | (go_at_call 6; refine (one_any _ _ _).mono ?_; rintro e w' ⟨rfl, rfl⟩) | (go_at_call 17; refine (not_any _ _).mono ?_; rintro e w' ⟨rfl, rfl⟩) | (go_at_call 10; refine (pick_any _ _ _ _).mono ?_; rintro e w' ⟨rfl, rfl⟩) | (go_at_call 16; refine (counted_any hg).mono ?_; clear hg; rintro e w' ⟨rfl, hg⟩))
  go_ret
  exact ⟨rfl, hg⟩

end Go.Proofs.Ythefnfejhmpobaa.valueEven
