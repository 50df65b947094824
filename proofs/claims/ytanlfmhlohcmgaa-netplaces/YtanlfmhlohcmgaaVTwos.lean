/-
  What the program's Two returns, of any code.
-/
import Derived.Test.YtanlfmhlohcmgaaVSmall
import Derived.Test.YtanlfmhlohcmgaaVTwo
namespace Go.Proofs.Ytanlfmhlohcmgaa
open Go.RowKit

theorem vTwo_none {c : Int} (h : ∀ k : Int, 6 ≤ k → k ≤ 16 → c ≠ k) (a b : Int) : vTwo c a b = 0 := by
  unfold vTwo
  rw [if_neg (h 6 (by omega) (by omega)), if_neg (h 7 (by omega) (by omega)), if_neg (h 8 (by omega) (by omega)), if_neg (h 9 (by omega) (by omega)), if_neg (h 10 (by omega) (by omega)), if_neg (h 11 (by omega) (by omega)), if_neg (h 12 (by omega) (by omega)), if_neg (h 13 (by omega) (by omega)), if_neg (h 14 (by omega) (by omega)), if_neg (h 15 (by omega) (by omega)), if_neg (h 16 (by omega) (by omega))]

theorem asked_nil (c : Int) (h0 : 0 ≤ c) (h1 : c < 6) : asked[c.toNat]? = some .nilFunc := by
  have h : c = 0 ∨ c = 1 ∨ c = 2 ∨ c = 3 ∨ c = 4 ∨ c = 5 := by omega
  rcases h with rfl | rfl | rfl | rfl | rfl | rfl <;> rfl

theorem two_any (c a b : Int) (w : World) :
    Calls Try.prog 27 #[.int .i64 c, .int .i64 a, .int .i64 b] w fun e w' => e = .returned (.int .i64 (vTwo c a b)) ∧ w' = w.alloc (.cells asked 71) := by
  by_cases h0 : c < 0
  · rw [vTwo_none (fun k hk _ => by omega)]
    exact two_low c a b w h0
  by_cases h1 : 17 ≤ c
  · rw [vTwo_none (fun k _ hk => by omega)]
    exact two_high c a b w h1
  by_cases h2 : c < 6
  · rw [vTwo_none (fun k hk _ => by omega)]
    exact two_nil c a b w (by omega) (by omega) (asked_nil c (by omega) h2)
  have h : c = 6 ∨ c = 7 ∨ c = 8 ∨ c = 9 ∨ c = 10 ∨ c = 11 ∨ c = 12 ∨ c = 13 ∨ c = 14 ∨ c = 15 ∨ c = 16 := by omega
  clear h0 h1 h2
  rcases h with rfl | rfl | rfl | rfl | rfl | rfl | rfl | rfl | rfl | rfl | rfl
  · exact two_func 6 31 a b _ w (by omega) (by omega) rfl (by omega) (add_any a b)
  · exact two_func 7 32 a b _ w (by omega) (by omega) rfl (by omega) (sub_any a b)
  · exact two_func 8 33 a b _ w (by omega) (by omega) rfl (by omega) (mul_any a b)
  · exact two_func 9 34 a b _ w (by omega) (by omega) rfl (by omega) (quotient_any a b)
  · exact two_func 10 35 a b _ w (by omega) (by omega) rfl (by omega) (rest_any a b)
  · exact two_func 11 36 a b _ w (by omega) (by omega) rfl (by omega) (eq_any a b)
  · exact two_func 12 37 a b _ w (by omega) (by omega) rfl (by omega) (ne_any a b)
  · exact two_func 13 38 a b _ w (by omega) (by omega) rfl (by omega) (lt_any a b)
  · exact two_func 14 39 a b _ w (by omega) (by omega) rfl (by omega) (le_any a b)
  · exact two_func 15 40 a b _ w (by omega) (by omega) rfl (by omega) (and_any a b)
  · exact two_func 16 41 a b _ w (by omega) (by omega) rfl (by omega) (or_any a b)

end Go.Proofs.Ytanlfmhlohcmgaa
