/- Numbers, and rows of them, that came in, as they lie in memory. -/
import Derived.Test.YtecbilopliblpaaGreatDoorQVe
import Derived.ChangeOld
import Derived.DataReads
import Derived.Deep.Slices
namespace Go.Proofs.YtecbilopliblpaaGreatDoor
open Go Go.RowKit Go.ChangeShapes Go.WideShapes
namespace Kx
theorem n64_of_wf {z : Int} (h : (Lit.int .i64 z).wf = true) : N64 z := by
  rw [show (Lit.int .i64 z).wf = (decide (-9223372036854775808 ≤ z) && decide (z ≤ 9223372036854775807)) from rfl] at h
  simpa [N64] using h
theorem add_none (b off k : Nat) : (⟨b, off, none⟩ : Addr).add k = ⟨b, off + k, none⟩ := by unfold Addr.add; split <;> simp_all
section
variable {H : Type} {enc : TypeId × Value → H} {W : World} {sp : Nat → Bool} {held : Bool}
theorem nums_of_trod {fuel : Nat} {v : Value} {x : DataW H × List MemPlace} (hc : Tryz.prog.cellsOf 2 = 1) (h : DataW.trod enc Tryz.prog W 0 sp held fuel 36 [v] = some x) : ∃ zs, INums W v zs ∧ ∀ z ∈ zs, N64 z := by
  rcases open_ints Tryz.underlying36 Tryz.underlying2 hc h with ⟨hcs, _⟩ | ⟨a, len, cap, zs, hcs, _, hl, hm, hz, _, hcell, hwz⟩
  · obtain rfl : v = .slice none 0 0 := by simpa using hcs
    exact ⟨[], ⟨none, 0, 0, 0, rfl, Nat.le_refl _, by unfold maxLen; omega, fun h => by simp at h, fun k hk => by simp at hk⟩, fun z hz => by cases hz⟩
  · obtain rfl : v = .slice (some a) len cap := by simpa using hcs
    have hlz : len ≤ zs.length := by rw [hz]; split <;> omega
    have hlen : (zs.take len).length = len := by simp; omega
    refine ⟨zs.take len, ?_, fun z hz => n64_of_wf (hwz z (List.mem_of_mem_take hz))⟩
    by_cases h0 : len = 0
    · subst h0
      exact ⟨some a, 0, 0, cap, by rw [hlen], by omega, hm, fun h => by omega, fun k hk => by omega⟩
    · obtain ⟨b, off, spot⟩ := a
      have hc0 := hcell 0 (by omega)
      have hspot : spot = none := by simpa [Addr.add] using World.cell?_spot hc0
      subst hspot
      refine ⟨some ⟨b, off, none⟩, b, off, cap, by rw [hlen], by omega, hm, fun _ => rfl, fun k hk => ?_⟩
      have := hcell k (by omega)
      rw [add_none] at this
      rw [this]
      simp [List.getD_eq_getElem?_getD, show k < len by omega]
theorem choose_rows (m : Nat) (p : Nat → List Int → Prop) (h : ∀ i, i < m → ∃ z, p i z) : ∃ l : List (List Int), l.length = m ∧ ∀ i z, l[i]? = some z → p i z := by
  induction m with
  | zero => exact ⟨[], rfl, fun i z hi => by simp at hi⟩
  | succ m ih =>
    obtain ⟨l, hl, hp⟩ := ih (fun i hi => h i (by omega))
    obtain ⟨z, hz⟩ := h m (by omega)
    refine ⟨l ++ [z], by simp [hl], fun i y hi => ?_⟩
    by_cases e : i < m
    · rw [List.getElem?_append_left (by omega)] at hi; exact hp i y hi
    · have hlt := (List.getElem?_eq_some_iff.1 hi).1
      rw [List.length_append, List.length_singleton] at hlt
      obtain rfl : i = m := by omega
      rw [List.getElem?_append_right (by omega), hl, Nat.sub_self] at hi
      simp at hi
      rw [← hi]; exact hz
theorem rows_of_trod {fuel : Nat} {v : Value} {x : DataW H × List MemPlace} (hc1 : Tryz.prog.cellsOf 36 = 1) (hc2 : Tryz.prog.cellsOf 2 = 1)
    (h : DataW.trod enc Tryz.prog W 0 sp held fuel 22 [v] = some x) : ∃ zss, IRws W v zss ∧ ∀ zs ∈ zss, ∀ z ∈ zs, N64 z := by
  rcases Deep.open_slice1 Tryz.underlying22 hc1 h with ⟨hcs, _⟩ | ⟨a, len, cap, m, n, V, D, Pl, hcs, _, hl, hm, hmm, _, hx⟩
  · obtain rfl : v = .slice none 0 0 := by simpa using hcs
    exact ⟨[], ⟨none, 0, 0, 0, rfl, fun h => by simp at h, fun k zs hk => by simp at hk⟩, fun zs h => by cases h⟩
  · obtain rfl : v = .slice (some a) len cap := by simpa using hcs
    have hlm : len ≤ m := by rw [hmm]; split <;> omega
    obtain ⟨rows, hrl, hr⟩ := choose_rows len (fun i z => INums W (V i) z ∧ ∀ y ∈ z, N64 y) (fun i hi => nums_of_trod hc2 (hx i (by omega)).2)
    refine ⟨rows, ?_, fun zs hz => ?_⟩
    · by_cases h0 : len = 0
      · exact ⟨some a, 0, 0, cap, by rw [hrl], fun h => by omega, fun k zs hk => by have := (List.getElem?_eq_some_iff.1 hk).1; omega⟩
      · obtain ⟨b, off, spot⟩ := a
        have hc0 := (hx 0 (by omega)).1
        have hspot : spot = none := by simpa [Addr.add] using World.cell?_spot hc0
        subst hspot
        refine ⟨some ⟨b, off, none⟩, b, off, cap, by rw [hrl], fun _ => rfl, fun k zs hk => ?_⟩
        have hkl : k < len := by rw [← hrl]; exact (List.getElem?_eq_some_iff.1 hk).1
        have hc := (hx k (by omega)).1
        rw [add_none] at hc
        have hI := (hr k zs hk).1
        obtain ⟨ad, b', o', cap', e, _⟩ := id hI
        rw [e] at hI hc
        exact ⟨ad, cap', hc, hI⟩
    · obtain ⟨i, hi, e⟩ := List.getElem_of_mem hz
      exact (hr i zs (by rw [List.getElem?_eq_getElem hi, e])).2
end
end Kx
end Go.Proofs.YtecbilopliblpaaGreatDoor
