/- Code that came in, as it lies in memory: its lists read off what the reader trod. -/
import Derived.Test.YtlaimlfacheolaaGreatDoorNtA
import Derived.ChangeOld
import Derived.DataReads
namespace Go.Proofs.YtlaimlfacheolaaGreatDoor
open Go Go.RowKit Go.ChangeShapes Go.WideShapes
namespace Nx

def Fits (z : Int) : Prop := -9223372036854775808 ≤ z ∧ z ≤ 9223372036854775807
theorem fits_of_wf {z : Int} (h : (Lit.int .i64 z).wf = true) : Fits z := by
  rw [show (Lit.int .i64 z).wf = (decide (-9223372036854775808 ≤ z) && decide (z ≤ 9223372036854775807)) from rfl] at h
  simpa [Fits] using h

theorem add_none (b off k : Nat) : (⟨b, off, none⟩ : Addr).add k = ⟨b, off + k, none⟩ := by unfold Addr.add; split <;> simp_all

section
variable {H : Type} {enc : TypeId × Value → H} {W : World} {sp : Nat → Bool} {held : Bool}

theorem ints_of_trod {t e : TypeId} (ht : Tryz.prog.underlying t = some (.slice e)) (he : Tryz.prog.underlying e = some (.int .i64)) (hc : Tryz.prog.cellsOf e = 1) {fuel : Nat} {v : Value} {x : DataW H × List MemPlace}
    (h : DataW.trod enc Tryz.prog W 0 sp held fuel t [v] = some x) : ∃ zs, Ints (· < W.heap.size) W v zs ∧ (∀ z ∈ zs, Fits z) := by
  rcases open_ints ht he hc h with ⟨hcs, _⟩ | ⟨a, len, cap, zs, hcs, _, hl, hm, hz, _, hcell, hwz⟩
  · obtain rfl : v = .slice none 0 0 := by simpa using hcs
    exact ⟨[], ⟨none, 0, 0, 0, rfl, fun h => by simp at h, fun k hk => by simp at hk⟩, fun z hz => by cases hz⟩
  · obtain rfl : v = .slice (some a) len cap := by simpa using hcs
    have hlz : len ≤ zs.length := by rw [hz]; split <;> omega
    have hlen : (zs.take len).length = len := by simp; omega
    refine ⟨zs.take len, ?_, fun z hz => fits_of_wf (hwz z (List.mem_of_mem_take hz))⟩
    by_cases h0 : len = 0
    · subst h0
      exact ⟨some a, 0, 0, cap, by rw [hlen], fun h => by omega, fun k hk => by omega⟩
    · obtain ⟨b, off, spot⟩ := a
      have hc0 := hcell 0 (by omega)
      have hspot : spot = none := by simpa [Addr.add] using World.cell?_spot hc0
      subst hspot
      have had : ∀ j, (⟨b, off, none⟩ : Addr).add j = ⟨b, off + j, none⟩ := fun j => by simp [Addr.add]
      refine ⟨some ⟨b, off, none⟩, b, off, cap, by rw [hlen], fun _ => ⟨rfl, ?_⟩, fun k hk => ?_⟩
      · rw [had] at hc0; exact lt_of_cell hc0
      · have := hcell k (by omega)
        rw [had] at this
        rw [this]
        simp [List.getD_eq_getElem?_getD, show k < len by omega]

theorem exists_list {α : Type} (d : α) (n : Nat) (P : Nat → α → Prop) (h : ∀ i, i < n → ∃ x, P i x) : ∃ l : List α, l.length = n ∧ ∀ i, i < n → P i (l.getD i d) := by
  induction n with
  | zero => exact ⟨[], rfl, fun i hi => by omega⟩
  | succ n ih =>
    obtain ⟨l, hl, hp⟩ := ih fun i hi => h i (by omega)
    obtain ⟨x, hx⟩ := h n (by omega)
    refine ⟨l ++ [x], by simp [hl], fun i hi => ?_⟩
    by_cases e : i = n
    · subst e
      rw [List.getD_eq_getElem?_getD, List.getElem?_append_right (by omega)]
      simpa [hl] using hx
    · rw [List.getD_eq_getElem?_getD, List.getElem?_append_left (by omega), ← List.getD_eq_getElem?_getD]
      exact hp i (by omega)

/-- rows of numbers -/
def IRows (A : Nat → Prop) (w : World) (v : Value) (l : List (List Int)) : Prop :=
  ∃ ad b off cap, v = .slice ad l.length cap ∧ (0 < l.length → ad = some ⟨b, off, none⟩ ∧ A b) ∧ ∀ k, k < l.length → ∃ u, w.cell? ⟨b, off + k, none⟩ = some u ∧ Ints A w u (l.getD k [])
theorem IRows.carry {A A' : Nat → Prop} {w w' : World} {v : Value} {l : List (List Int)} (h : IRows A w v l) (k : Keep A A' w w') : IRows A' w' v l := by
  obtain ⟨ad, b, off, cap, rfl, h1, h2⟩ := h
  refine ⟨ad, b, off, cap, rfl, fun hp => ?_, fun j hj => ?_⟩
  · obtain ⟨e, ha⟩ := h1 hp
    obtain ⟨u, hu, _⟩ := h2 0 hp
    exact ⟨e, (k b ha (lt_of_cell hu)).1⟩
  · obtain ⟨e, ha⟩ := h1 (by omega)
    obtain ⟨u, hu, hi⟩ := h2 j hj
    exact ⟨u, by rw [cell_of_block (k b ha (lt_of_cell hu)).2]; exact hu, hi.carry k⟩
end
end Nx
end Go.Proofs.YtlaimlfacheolaaGreatDoor
