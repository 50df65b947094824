/-
  What the program's Two returns, of any code.
-/
import Derived.Test.YtlaimlfacheolaaGreatDoorVSmall
import Derived.Test.YtlaimlfacheolaaGreatDoorVTwo
namespace Go.Proofs.YtlaimlfacheolaaGreatDoor
open Go.RowKit

theorem vTwo_none {c : Int} (h : ∀ k : Int, 6 ≤ k → k ≤ 16 → c ≠ k) (a b : Int) : vTwo c a b = 0 := by
  unfold vTwo
  rw [if_neg (h 6 (by omega) (by omega)), if_neg (h 7 (by omega) (by omega)), if_neg (h 8 (by omega) (by omega)), if_neg (h 9 (by omega) (by omega)), if_neg (h 10 (by omega) (by omega)), if_neg (h 11 (by omega) (by omega)), if_neg (h 12 (by omega) (by omega)), if_neg (h 13 (by omega) (by omega)), if_neg (h 14 (by omega) (by omega)), if_neg (h 15 (by omega) (by omega)), if_neg (h 16 (by omega) (by omega))]

end Go.Proofs.YtlaimlfacheolaaGreatDoor
