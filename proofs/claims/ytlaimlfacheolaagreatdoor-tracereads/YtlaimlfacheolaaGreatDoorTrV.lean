/- Rows of numbers that came in, as they lie in memory. -/
import Derived.Test.YtlaimlfacheolaaGreatDoorTrU
import Derived.Test.YtlaimlfacheolaaGreatDoorNo
import Derived.Deep.Slices
namespace Go.Proofs.YtlaimlfacheolaaGreatDoor
open Go Go.RowKit Go.ChangeShapes Go.WideShapes Nx
namespace Tq
section
variable {H : Type} {enc : TypeId × Value → H} {W : World} {sp : Nat → Bool} {held : Bool}

theorem choose_rows (m : Nat) (p : Nat → List Int → Prop) (h : ∀ i, i < m → ∃ z, p i z) : ∃ l : List (List Int), l.length = m ∧ ∀ i, i < m → p i (l.getD i []) := by
  induction m with
  | zero => exact ⟨[], rfl, fun i hi => by omega⟩
  | succ m ih =>
    obtain ⟨l, hl, hp⟩ := ih (fun i hi => h i (by omega))
    obtain ⟨z, hz⟩ := h m (by omega)
    refine ⟨l ++ [z], by simp [hl], fun i hi => ?_⟩
    by_cases e : i < m
    · have : (l ++ [z]).getD i [] = l.getD i [] := by simp [List.getD_eq_getElem?_getD, List.getElem?_append_left (show i < l.length by omega)]
      rw [this]; exact hp i e
    · obtain rfl : i = m := by omega
      have : (l ++ [z]).getD i [] = z := by subst hl; simp [List.getD_eq_getElem?_getD]
      rw [this]; exact hz

theorem irows_of_trod {fuel : Nat} {v : Value} {x : DataW H × List MemPlace} (hc1 : Tryz.prog.cellsOf 36 = 1) (hc2 : Tryz.prog.cellsOf 2 = 1)
    (h : DataW.trod enc Tryz.prog W 0 sp held fuel 22 [v] = some x) : ∃ (rows : List (List Int)) (ad : Option Addr) (b off cap : Nat), v = .slice ad rows.length cap ∧ (0 < rows.length → ad = some ⟨b, off, none⟩ ∧ b < W.heap.size) ∧
      (∀ k, k < rows.length → ∃ u, W.cell? ⟨b, off + k, none⟩ = some u ∧ Ints (· < W.heap.size) W u (rows.getD k [])) ∧ ∀ k j, I64 ((rows.getD k []).getD j 0) := by
  rcases Deep.open_slice1 Tryz.underlying22 hc1 h with ⟨hcs, _⟩ | ⟨a, len, cap, m, n, V, D, Pl, hcs, _, hl, hm, hmm, _, hx⟩
  · obtain rfl : v = .slice none 0 0 := by simpa using hcs
    exact ⟨[], none, 0, 0, 0, rfl, fun h => by simp at h, fun k hk => by simp at hk, fun k j => by simp [I64]⟩
  · obtain rfl : v = .slice (some a) len cap := by simpa using hcs
    have hlm : len ≤ m := by rw [hmm]; split <;> omega
    obtain ⟨rows, hrl, hr⟩ := choose_rows len (fun i z => Ints (· < W.heap.size) W (V i) z ∧ ∀ y ∈ z, Fits y) (fun i hi => by
      obtain ⟨zs, h1, h2⟩ := ints_of_trod Tryz.underlying36 Tryz.underlying2 hc2 (hx i (by omega)).2
      exact ⟨zs, h1, h2⟩)
    have hF : ∀ k j, I64 ((rows.getD k []).getD j 0) := by
      intro k j
      by_cases hk : k < len
      · by_cases hj : j < (rows.getD k []).length
        · have := (hr k hk).2 ((rows.getD k []).getD j 0) (by rw [List.getD_eq_getElem?_getD (l := rows.getD k []), List.getElem?_eq_getElem hj]; simp)
          exact this
        · rw [List.getD_eq_getElem?_getD (l := rows.getD k []), List.getElem?_eq_none (by omega)]; simp [I64]
      · have : rows.getD k [] = [] := by rw [List.getD_eq_getElem?_getD, List.getElem?_eq_none (by omega)]; rfl
        rw [this]; simp [I64]
    by_cases h0 : len = 0
    · exact ⟨rows, some a, 0, 0, cap, by rw [hrl], fun h => by omega, fun k hk => by omega, hF⟩
    · obtain ⟨b, off, spot⟩ := a
      have hc0 := (hx 0 (by omega)).1
      have hspot : spot = none := by simpa [Addr.add] using World.cell?_spot hc0
      subst hspot
      refine ⟨rows, some ⟨b, off, none⟩, b, off, cap, by rw [hrl], fun _ => ⟨rfl, ?_⟩, fun k hk => ⟨V k, ?_, (hr k (by omega)).1⟩, hF⟩
      · rw [add_none] at hc0; exact lt_of_cell hc0
      · have := (hx k (by omega)).1
        rw [add_none] at this
        exact this
end
end Tq
end Go.Proofs.YtlaimlfacheolaaGreatDoor
