/- Two of some numbers are one just where sorted, and made compact, they are fewer: plain. -/
import Derived.Test.YtlaimlfacheolaaGreatDoorNm
import Derived.Lib.SlicesCompact
namespace Go.Proofs.YtlaimlfacheolaaGreatDoor
namespace Nx
open Go.Lib

theorem keeps_at (s : List Int) (j : Nat) (hj : j < s.length) : keeps s.toArray j = true ↔ (j = 0 ∨ s[j] ≠ s[j - 1]) := by
  unfold keeps
  have h1 : s.toArray[j]! = s[j] := by simp [hj]
  have h2 : s.toArray[j - 1]! = s[j - 1] := by
    have : j - 1 < s.length := by omega
    simp [this]
  rw [h1, h2]
  simp

theorem compact_less (s : List Int) : (Lib.compact s).length < s.length ↔ ∃ j, j < s.length ∧ keeps s.toArray j = false := by
  have e : (Lib.compact s).length = ((List.range s.length).filter (keeps s.toArray)).length := by unfold Lib.compact compactUpTo; simp
  rw [e]
  have hl : ((List.range s.length).filter (keeps s.toArray)).length ≤ (List.range s.length).length := List.length_filter_le _ _
  rw [List.length_range] at hl
  constructor
  · intro h
    apply Classical.byContradiction
    intro hn
    have : (List.range s.length).filter (keeps s.toArray) = List.range s.length := List.filter_eq_self.2 fun j hj => by
      have hj' := List.mem_range.1 hj
      cases hk : keeps s.toArray j with
      | true => rfl
      | false => exact absurd ⟨j, hj', hk⟩ hn
    rw [this, List.length_range] at h
    omega
  · rintro ⟨j, hj, hk⟩
    rcases Nat.lt_or_ge ((List.range s.length).filter (keeps s.toArray)).length s.length with h | h
    · exact h
    · have h2 : ((List.range s.length).filter (keeps s.toArray)).length = (List.range s.length).length := by rw [List.length_range]; omega
      have h3 := List.length_filter_eq_length_iff.1 h2 j (List.mem_range.2 hj)
      rw [hk] at h3; cases h3

theorem sorted_dup (s : List Int) (hs : s.Pairwise (· ≤ ·)) : (Lib.compact s).length < s.length ↔ ¬ s.Nodup := by
  rw [compact_less]
  constructor
  · rintro ⟨j, hj, hk⟩ hn
    have h1 : ¬ (j = 0 ∨ s[j] ≠ s[j - 1]) := fun h => by rw [(keeps_at s j hj).2 h] at hk; cases hk
    have h0 : j ≠ 0 := fun h => h1 (.inl h)
    have e : s[j] = s[j - 1] := Classical.byContradiction fun h => h1 (.inr h)
    exact (List.pairwise_iff_getElem.1 hn) (j - 1) j (by omega) hj (by omega) e.symm
  · intro hn
    apply Classical.byContradiction
    intro hno
    have hall : ∀ j (hj : j < s.length), 0 < j → s[j] ≠ s[j - 1] := fun j hj h0 => by
      have hk : keeps s.toArray j = true := by
        cases hk : keeps s.toArray j with
        | true => rfl
        | false => exact absurd ⟨j, hj, hk⟩ hno
      rcases (keeps_at s j hj).1 hk with h | h
      · omega
      · exact h
    apply hn
    apply List.pairwise_iff_getElem.2
    intro i j hi hj hij e
    have hle := List.pairwise_iff_getElem.1 hs
    have h1 : s[j - 1] ≤ s[j] := hle (j - 1) j (by omega) hj (by omega)
    have h2 := hall j hj (by omega)
    by_cases hc : i = j - 1
    · subst hc; exact h2 e.symm
    · have h3 : s[i] ≤ s[j - 1] := hle i (j - 1) hi (by omega) (by omega)
      have : s[j] = s[j - 1] := by omega
      exact h2 this

theorem dup_iff (zs : List Int) : (Lib.compact (zs.mergeSort fun x y => decide (x ≤ y))).length < zs.length ↔ ¬ zs.Nodup := by
  have hp := List.mergeSort_perm zs (fun x y => decide (x ≤ y))
  have hs : (zs.mergeSort fun x y => decide (x ≤ y)).Pairwise (· ≤ ·) := by
    have := List.pairwise_mergeSort (le := fun x y : Int => decide (x ≤ y)) (fun a b c h1 h2 => by simp at *; omega) (fun a b => by simp; omega) zs
    exact this.imp fun h => by simpa using h
  have h := sorted_dup _ hs
  rw [hp.length_eq, hp.nodup_iff] at h
  exact h
end Nx
end Go.Proofs.YtlaimlfacheolaaGreatDoor
