/-
  The calls that ValueEven makes, by what they return; the world only grows.
-/
import Derived.Test.YthefnfejhmpobaaRows
import Derived.WalkKit
import Derived.ProofKit
import Derived.OpenShut
import Derived.Test.YthefnfejhmpobaaTwos
import Derived.Test.YthefnfejhmpobaaEvenPlain
namespace Go.Proofs.Ythefnfejhmpobaa.valueEven
open Go.ChangeShapes Go.WideShapes Go.ChangeAt Go.RowKit
theorem two_g {W w : World} (c a b : Int) (hg : Grown W w) :
    Calls Try.prog 8 #[.int .i64 c, .int .i64 a, .int .i64 b] w fun e w' => e = .returned (.int .i64 (vTwo c a b)) ∧ Grown W w' :=
  (two_any c a b w).mono fun e w' ⟨he, hw⟩ => ⟨he, by rw [hw]; exact hg.alloc _ _⟩

theorem not_any (a : Int) (w : World) :
    Calls Try.prog 17 #[.int .i64 a] w fun e w' => e = .returned (.int .i64 (vOne 5 a)) ∧ w' = w := by
  go_enter Try.func17, Try.ntmps17
  go_wp2_with (go_at_call 6; refine (one_any _ _ _).mono ?_; rintro e w' ⟨rfl, rfl⟩)
  go_ret
  exact ⟨rfl, rfl⟩

theorem counted_any {W w : World} (hg : Grown W w) :
    Calls Try.prog 16 #[] w fun e w' => e = .returned (.bool true) ∧ Grown W w' := by
  have c1 : (vTwo 9 (-7) 2 == -3) = true := by decide +kernel
  have c2 : (vTwo 10 (-7) 2 == -1) = true := by decide +kernel
  have c3 : (vOne 5 0 == 1) = true := by decide
  have c4 : (vPick 0 1 2 == 2) = true := by decide
  go_enter Try.func16, Try.ntmps16
  go_wp2_with (first | (go_at_call 8; refine (two_g _ _ _ hg).mono ?_; clear hg; rintro e w' ⟨rfl, hg⟩) | (go_at_call 6; refine (one_any _ _ _).mono ?_; rintro e w' ⟨rfl, rfl⟩) | (go_at_call 17; refine (not_any _ _).mono ?_; rintro e w' ⟨rfl, rfl⟩) | (go_at_call 10; refine (pick_any _ _ _ _).mono ?_; rintro e w' ⟨rfl, rfl⟩))
  go_ret
  exact ⟨rfl, hg⟩

end Go.Proofs.Ythefnfejhmpobaa.valueEven
