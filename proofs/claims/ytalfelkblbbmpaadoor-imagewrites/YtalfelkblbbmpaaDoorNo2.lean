/- Code that came in, once more: its inputs are no more than their capacity. -/
import Derived.Test.YtalfelkblbbmpaaDoorNo
namespace Go.Proofs.YtalfelkblbbmpaaDoor
open Go Go.RowKit Go.ChangeShapes Go.WideShapes
namespace Nx

section
variable {H : Type} {enc : TypeId × Value → H} {W : World} {sp : Nat → Bool} {held : Bool}

theorem cap_of_trod {t e : TypeId} (ht : Tryd.prog.underlying t = some (.slice e)) (he : Tryd.prog.underlying e = some (.int .i64)) (hc : Tryd.prog.cellsOf e = 1) {fuel : Nat} {v : Value} {x : DataW H × List MemPlace}
    (h : DataW.trod enc Tryd.prog W 0 sp held fuel t [v] = some x) {A : Nat → Prop} {zs : List Int} (hi : Ints A W v zs) : ∃ ad cap, v = .slice ad zs.length cap ∧ zs.length ≤ cap := by
  obtain ⟨ad, b, off, cap, rfl, _, _⟩ := hi
  refine ⟨ad, cap, rfl, ?_⟩
  rcases open_ints ht he hc h with ⟨hcs, _⟩ | ⟨a, len, cap', zs', hcs, _, hl, _⟩
  · have := hcs
    simp at this
    simp [this.2.1]
  · have := hcs
    simp at this
    omega

set_option maxRecDepth 100000 in
/-- code that was trod -/
theorem net_of_trodC {v : Value} {d : DataW H} {p : List MemPlace} {r : Reach} {b0 : Nat} (hv : Value.okWide Tryd.prog W r b0 26 v) (h : DataW.Trod enc Tryd.prog W 0 sp held 26 v d p) :
    ∃ (n : Nt) (vF vI vO vK vN vC : Value), v = .agg #[.int .i64 n.places, vF, vI, vO, vK, vN, vC] ∧ NetV W.heap.size W n vF vI vO vK vN vC ∧ (∀ z ∈ n.first, Fits z) ∧ (∀ z ∈ n.nums, Fits z) ∧ ∃ ad cap, vI = .slice ad n.ins.length cap ∧ n.ins.length ≤ cap := by
  obtain ⟨cs, rfl, hsz⟩ := okWide_struct Tryd.underlying26 hv
  have h7 : cs.size = 7 := hsz.trans (by kernel_rfl)
  obtain ⟨fuel, hf⟩ := h
  obtain ⟨xs, n, _, _, hl, hlen, hf⟩ := DataW.trod_struct Tryd.underlying26 hf
  obtain ⟨cs⟩ := cs
  have h7' : cs.length = 7 := h7
  match cs, h7' with
  | [c0, c1, c2, c3, c4, c5, c6], _ =>
    have hx : ∀ i, i < 7 → ∃ y, xs[i]? = some y := fun i hi => ⟨_, List.getElem?_eq_getElem (by rw [hlen]; exact hi)⟩
    have k0 : Tryd.prog.cellsOf 3 = 1 := by kernel_rfl
    have k1 : Tryd.prog.cellsOf 22 = 1 := by kernel_rfl
    have k2 : Tryd.prog.cellsOf 23 = 1 := by kernel_rfl
    have k3 : Tryd.prog.cellsOf 24 = 1 := by kernel_rfl
    have k4 : Tryd.prog.cellsOf 2 = 1 := by kernel_rfl
    obtain ⟨y0, e0⟩ := hx 0 (by omega)
    obtain ⟨y1, e1⟩ := hx 1 (by omega)
    obtain ⟨y2, e2⟩ := hx 2 (by omega)
    obtain ⟨y3, e3⟩ := hx 3 (by omega)
    obtain ⟨y4, e4⟩ := hx 4 (by omega)
    obtain ⟨y5, e5⟩ := hx 5 (by omega)
    obtain ⟨y6, e6⟩ := hx 6 (by omega)
    have f0 := hf 0 _ rfl
    have f1 := hf 1 _ rfl
    have f2 := hf 2 _ rfl
    have f3 := hf 3 _ rfl
    have f4 := hf 4 _ rfl
    have f5 := hf 5 _ rfl
    have f6 := hf 6 _ rfl
    rw [e0] at f0
    rw [e1] at f1
    rw [e2] at f2
    rw [e3] at f3
    rw [e4] at f4
    rw [e5] at f5
    rw [e6] at f6
    simp [Value.cells, k0, k1, k2, k3] at f0 f1 f2 f3 f4 f5 f6
    obtain ⟨P, g0, _⟩ := DataW.trod_int Tryd.underlying3 f0
    obtain rfl : c0 = .int .i64 P := by simpa using g0
    obtain ⟨l1, i1, w1⟩ := ints_of_trod Tryd.underlying22 Tryd.underlying2 k4 f1
    obtain ⟨l2, i2, _⟩ := ints_of_trod Tryd.underlying23 Tryd.underlying3 k0 f2
    have hcap := cap_of_trod Tryd.underlying23 Tryd.underlying3 k0 f2 i2
    obtain ⟨l3, i3, _⟩ := ints_of_trod Tryd.underlying23 Tryd.underlying3 k0 f3
    obtain ⟨l4, i4, _⟩ := ints_of_trod Tryd.underlying23 Tryd.underlying3 k0 f4
    obtain ⟨l5, i5, w5⟩ := ints_of_trod Tryd.underlying22 Tryd.underlying2 k4 f5
    obtain ⟨l6, i6⟩ := steps_of_trod f6
    exact ⟨⟨P, l1, l2, l3, l4, l5, l6⟩, c1, c2, c3, c4, c5, c6, rfl, ⟨i1, i2, i3, i4, i5, i6⟩, w1, w5, hcap⟩

end
end Nx
end Go.Proofs.YtalfelkblbbmpaaDoor
