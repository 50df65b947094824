/-
  What numbers come to, as plain integers: the functions that the program's package value and the document's own answer are both held against. No program in sight.
-/
import Derived.RowKit
import Derived.IntWalk
import Derived.Laws.Bits64
namespace Go.Proofs.YtlaimlfacheolaaGreatDoor
open Go.RowKit

def yes (b : Bool) : Int := if b then 1 else 0

def vOne (c a : Int) : Int := if c = 4 then wrap64 (-a) else if c = 5 then yes (a == 0) else 0

def vDiv (a b : Int) : Int := if b = 0 then 0 else wrap64 (a.tdiv b)
def vMod (a b : Int) : Int := if b = 0 then 0 else a.tmod b

def vTwo (c a b : Int) : Int :=
  if c = 6 then wrap64 (a + b) else
  if c = 7 then wrap64 (a - b) else
  if c = 8 then wrap64 (a * b) else
  if c = 9 then vDiv a b else
  if c = 10 then vMod a b else
  if c = 11 then yes (a == b) else
  if c = 12 then yes (a != b) else
  if c = 13 then yes (decide (a < b)) else
  if c = 14 then yes (decide (a ≤ b)) else
  if c = 15 then yes (a != 0 && b != 0) else
  if c = 16 then yes (a != 0 || b != 0) else 0

def vPick (a b c : Int) : Int := if a = 0 then c else b

/-! ### wraps -/
theorem wrap64_congr {x y : Int} (h : x % 18446744073709551616 = y % 18446744073709551616) : wrap64 x = wrap64 y := by
  unfold wrap64; omega

theorem wrap64_mod (x : Int) : wrap64 x % 18446744073709551616 = x % 18446744073709551616 := by
  unfold wrap64; omega

theorem wrap64_lo (x : Int) : -9223372036854775808 ≤ wrap64 x ∧ wrap64 x ≤ 9223372036854775807 := by
  unfold wrap64; omega

theorem wrap64_add (x y : Int) : wrap64 (wrap64 x + wrap64 y) = wrap64 (x + y) := by
  apply wrap64_congr
  rw [Int.add_emod, wrap64_mod, wrap64_mod, ← Int.add_emod]

theorem wrap64_mulL (x y : Int) : wrap64 (wrap64 x * y) = wrap64 (x * y) := by
  apply wrap64_congr
  rw [Int.mul_emod, wrap64_mod, ← Int.mul_emod]

theorem wrap64_mulR (x y : Int) : wrap64 (x * wrap64 y) = wrap64 (x * y) := by
  rw [Int.mul_comm, wrap64_mulL, Int.mul_comm]

theorem wrap64_subR (x y : Int) : wrap64 (x - wrap64 y) = wrap64 (x - y) := by
  unfold wrap64; omega

theorem wrap64_neg (x : Int) : wrap64 (-wrap64 x) = wrap64 (-x) := by
  unfold wrap64; omega

/-! ### sums of 64 bits without a sign -/
theorem u_add (a b : Int) : wrap64 (IntKind.u64.wrap (IntKind.u64.wrap a + IntKind.u64.wrap b)) = wrap64 (a + b) := by
  rw [IntKind.wrap_u64, IntKind.wrap_u64, IntKind.wrap_u64]; unfold wrap64; omega

theorem u_sub (a b : Int) : wrap64 (IntKind.u64.wrap (IntKind.u64.wrap a - IntKind.u64.wrap b)) = wrap64 (a - b) := by
  rw [IntKind.wrap_u64, IntKind.wrap_u64, IntKind.wrap_u64]; unfold wrap64; omega

theorem u_mul (a b : Int) : wrap64 (IntKind.u64.wrap (IntKind.u64.wrap a * IntKind.u64.wrap b)) = wrap64 (a * b) := by
  rw [IntKind.wrap_u64, IntKind.wrap_u64, IntKind.wrap_u64]
  apply wrap64_congr
  rw [Int.emod_emod_of_dvd _ (Int.dvd_refl _), ← Int.mul_emod]

/-! ### quotients by their sizes -/
theorem size_quo (a b : Int) (ha : -9223372036854775808 ≤ a ∧ a ≤ 9223372036854775807) :
    IntKind.u64.wrap ((a.natAbs : Int) / (b.natAbs : Int)) = ((a.natAbs / b.natAbs : Nat) : Int) := by
  have h := Nat.div_le_self a.natAbs b.natAbs
  rw [IntKind.wrap_u64, ← Int.natCast_ediv]
  generalize a.natAbs / b.natAbs = q at h ⊢
  omega

theorem tdiv_same (a b : Int) (h : (decide (a < 0)) = decide (b < 0)) : a.tdiv b = ((a.natAbs / b.natAbs : Nat) : Int) := by
  by_cases h1 : a < 0
  · have h2 : b < 0 := by simpa [h1] using h
    obtain ⟨x, rfl⟩ : ∃ x : Nat, a = -(x : Int) := ⟨a.natAbs, by omega⟩
    obtain ⟨y, rfl⟩ : ∃ y : Nat, b = -(y : Int) := ⟨b.natAbs, by omega⟩
    rw [Int.neg_tdiv, Int.tdiv_neg, Int.neg_neg, Int.natAbs_neg, Int.natAbs_neg, Int.natAbs_natCast, Int.natAbs_natCast, Int.ofNat_tdiv]
  · have h2 : ¬ b < 0 := by simpa [h1] using h
    obtain ⟨x, rfl⟩ : ∃ x : Nat, a = (x : Int) := ⟨a.natAbs, by omega⟩
    obtain ⟨y, rfl⟩ : ∃ y : Nat, b = (y : Int) := ⟨b.natAbs, by omega⟩
    rw [Int.natAbs_natCast, Int.natAbs_natCast, Int.ofNat_tdiv]

theorem tdiv_other (a b : Int) (h : (decide (a < 0)) ≠ decide (b < 0)) : a.tdiv b = -((a.natAbs / b.natAbs : Nat) : Int) := by
  by_cases h1 : a < 0
  · have h2 : ¬ b < 0 := by simpa [h1] using h
    obtain ⟨x, rfl⟩ : ∃ x : Nat, a = -(x : Int) := ⟨a.natAbs, by omega⟩
    obtain ⟨y, rfl⟩ : ∃ y : Nat, b = (y : Int) := ⟨b.natAbs, by omega⟩
    rw [Int.neg_tdiv, Int.natAbs_neg, Int.natAbs_natCast, Int.natAbs_natCast, Int.ofNat_tdiv]
  · have h2 : b < 0 := by simpa [h1] using h
    obtain ⟨x, rfl⟩ : ∃ x : Nat, a = (x : Int) := ⟨a.natAbs, by omega⟩
    obtain ⟨y, rfl⟩ : ∃ y : Nat, b = -(y : Int) := ⟨b.natAbs, by omega⟩
    rw [Int.tdiv_neg, Int.natAbs_neg, Int.natAbs_natCast, Int.natAbs_natCast, Int.ofNat_tdiv]

theorem tmod_small (a b : Int) (hb : -9223372036854775808 ≤ b ∧ b ≤ 9223372036854775807) (h : ¬ b = 0) :
    -9223372036854775808 ≤ a.tmod b ∧ a.tmod b ≤ 9223372036854775807 := by
  have h1 := Int.natAbs_tmod a b
  have h2 := Nat.mod_lt a.natAbs (show 0 < b.natAbs by omega)
  omega

theorem left_is (a b : Int) (hb : -9223372036854775808 ≤ b ∧ b ≤ 9223372036854775807) (h : ¬ b = 0) :
    wrap64 (a - wrap64 (vDiv a b * b)) = vMod a b := by
  unfold vDiv vMod
  rw [if_neg h, if_neg h, wrap64_subR, ← wrap64_subR, wrap64_mulL, wrap64_subR, IntWalk.wrap64_in]
  · rw [Int.tmod_def, Int.mul_comm]
  · have e : a - a.tdiv b * b = a.tmod b := by rw [Int.tmod_def, Int.mul_comm]
    rw [e]
    exact tmod_small a b hb h

theorem quo_same (a b : Int) (ha : -9223372036854775808 ≤ a ∧ a ≤ 9223372036854775807) (h : ¬ b = 0) (hs : (decide (a < 0)) = decide (b < 0)) :
    wrap64 (IntKind.u64.wrap ((a.natAbs : Int) / (b.natAbs : Int))) = vDiv a b := by
  unfold vDiv
  rw [if_neg h, size_quo a b ha, tdiv_same a b hs]

theorem quo_other (a b : Int) (ha : -9223372036854775808 ≤ a ∧ a ≤ 9223372036854775807) (h : ¬ b = 0) (hs : (decide (a < 0)) ≠ decide (b < 0)) :
    wrap64 (-wrap64 (IntKind.u64.wrap ((a.natAbs : Int) / (b.natAbs : Int)))) = vDiv a b := by
  unfold vDiv
  rw [if_neg h, size_quo a b ha, wrap64_neg, tdiv_other a b hs]

end Go.Proofs.YtlaimlfacheolaaGreatDoor
