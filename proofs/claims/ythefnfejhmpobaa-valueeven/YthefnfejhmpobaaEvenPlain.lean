/-
  The plain arithmetic behind ValueEven: sums are those of 64 bits, what is divided is put together again, less, same and more are one of three.
-/
import Derived.Test.YthefnfejhmpobaaPlain
namespace Go.Proofs.Ythefnfejhmpobaa
open Go.RowKit

theorem even_1 (a b : Int) : vTwo 6 a b = vTwo 6 b a := by
  show wrap64 (a + b) = wrap64 (b + a)
  rw [Int.add_comm]

theorem even_2 (a b : Int) (ha : -9223372036854775808 ≤ a ∧ a ≤ 9223372036854775807) : vTwo 7 (vTwo 6 a b) b = a := by
  show wrap64 (wrap64 (a + b) - b) = a
  unfold wrap64; omega

theorem even_3 (a : Int) : vTwo 6 (vOne 4 a) a = 0 := by
  show wrap64 (wrap64 (-a) + a) = 0
  unfold wrap64; omega

theorem even_4 (a b c : Int) : vTwo 8 a (vTwo 6 b c) = vTwo 6 (vTwo 8 a b) (vTwo 8 a c) := by
  show wrap64 (a * wrap64 (b + c)) = wrap64 (wrap64 (a * b) + wrap64 (a * c))
  rw [wrap64_mulR, wrap64_add, Int.mul_add]

theorem even_5 (a b : Int) (ha : -9223372036854775808 ≤ a ∧ a ≤ 9223372036854775807) (h : ¬ b = 0) :
    vTwo 6 (vTwo 8 (vTwo 9 a b) b) (vTwo 10 a b) = a := by
  show wrap64 (wrap64 (vDiv a b * b) + vMod a b) = a
  unfold vDiv vMod
  rw [if_neg h, if_neg h, wrap64_mulL]
  have e : a.tdiv b * b + a.tmod b = a := Int.tdiv_mul_add_tmod a b
  have h1 : wrap64 (wrap64 (a.tdiv b * b) + a.tmod b) = wrap64 (a.tdiv b * b + a.tmod b) := by
    apply wrap64_congr
    rw [Int.add_emod, wrap64_mod, ← Int.add_emod]
  rw [h1, e, IntWalk.wrap64_in a ha]

theorem even_6 (a b : Int) (h : ¬ b = 0) (hr : ¬ vTwo 10 a b = 0) : decide (vTwo 10 a b < 0) = decide (a < 0) := by
  have e : vTwo 10 a b = a.tmod b := by
    show vMod a b = _
    unfold vMod; rw [if_neg h]
  rw [e] at hr ⊢
  by_cases h1 : a < 0
  · have := Int.tmod_nonneg b (show 0 ≤ -a by omega)
    rw [Int.neg_tmod] at this
    have h2 : a.tmod b < 0 := by omega
    simp [h1, h2]
  · have := Int.tmod_nonneg b (show 0 ≤ a by omega)
    have h2 : ¬ a.tmod b < 0 := by omega
    simp [h1, h2]

theorem yes01 (b : Bool) : yes b = 0 ∨ yes b = 1 := by cases b <;> simp [yes]

theorem even_7 (a b : Int) : wrap64 (wrap64 (vTwo 13 a b + vTwo 11 a b) + vTwo 13 b a) = 1 := by
  show wrap64 (wrap64 (yes (decide (a < b)) + yes (a == b)) + yes (decide (b < a))) = 1
  by_cases h1 : a < b
  · have h2 : ¬ b < a := by omega
    have h3 : ¬ a = b := by omega
    simp [h1, h2, h3, yes, wrap64]
  · by_cases h3 : a = b
    · subst h3; simp [yes, wrap64]
    · have h2 : b < a := by omega
      simp [h1, h2, h3, yes, wrap64]

theorem even_8 (a b : Int) : wrap64 (vTwo 14 a b + vTwo 13 b a) = 1 := by
  show wrap64 (yes (decide (a ≤ b)) + yes (decide (b < a))) = 1
  by_cases h1 : a ≤ b
  · have h2 : ¬ b < a := by omega
    simp [h1, h2, yes, wrap64]
  · have h2 : b < a := by omega
    simp [h1, h2, yes, wrap64]

theorem even_9 (a b : Int) : wrap64 (vTwo 12 a b + vTwo 11 a b) = 1 := by
  show wrap64 (yes (a != b) + yes (a == b)) = 1
  by_cases h1 : a = b
  · subst h1; simp [yes, wrap64]
  · simp [h1, yes, wrap64]

theorem even_10 (a b : Int) : vOne 5 (vTwo 15 a b) = vTwo 16 (vOne 5 a) (vOne 5 b) := by
  show yes (yes (a != 0 && b != 0) == 0) = yes (yes (a == 0) != 0 || yes (b == 0) != 0)
  by_cases h1 : a = 0 <;> by_cases h2 : b = 0 <;> simp [h1, h2, yes]

theorem even_11 (a : Int) : vOne 5 (vOne 5 (vOne 5 a)) = vOne 5 a := by
  show yes (yes (yes (a == 0) == 0) == 0) = yes (a == 0)
  by_cases h1 : a = 0 <;> simp [h1, yes]

theorem even_12 (a b : Int) : vPick a b b = b := by
  unfold vPick; split <;> rfl

theorem even_13 (a b c : Int) : vPick (vOne 5 a) b c = vPick a c b := by
  show (if yes (a == 0) = 0 then c else b) = if a = 0 then b else c
  by_cases h1 : a = 0 <;> simp [h1, yes]

end Go.Proofs.Ythefnfejhmpobaa
