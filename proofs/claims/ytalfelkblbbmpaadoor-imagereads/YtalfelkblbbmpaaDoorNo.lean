/- Code that came in, as it lies in memory: its lists read off what the reader trod. -/
import Derived.Test.YtalfelkblbbmpaaDoorNtA
import Derived.ChangeOld
import Derived.DataReads
namespace Go.Proofs.YtalfelkblbbmpaaDoor
open Go Go.RowKit Go.ChangeShapes Go.WideShapes
namespace Nx

def Fits (z : Int) : Prop := -9223372036854775808 ≤ z ∧ z ≤ 9223372036854775807
theorem fits_of_wf {z : Int} (h : (Lit.int .i64 z).wf = true) : Fits z := by
  rw [show (Lit.int .i64 z).wf = (decide (-9223372036854775808 ≤ z) && decide (z ≤ 9223372036854775807)) from rfl] at h
  simpa [Fits] using h

theorem add_none (b off k : Nat) : (⟨b, off, none⟩ : Addr).add k = ⟨b, off + k, none⟩ := by unfold Addr.add; split <;> simp_all

section
variable {H : Type} {enc : TypeId × Value → H} {W : World} {sp : Nat → Bool} {held : Bool}

theorem ints_of_trod {t e : TypeId} (ht : Tryd.prog.underlying t = some (.slice e)) (he : Tryd.prog.underlying e = some (.int .i64)) (hc : Tryd.prog.cellsOf e = 1) {fuel : Nat} {v : Value} {x : DataW H × List MemPlace}
    (h : DataW.trod enc Tryd.prog W 0 sp held fuel t [v] = some x) : ∃ zs, Ints (· < W.heap.size) W v zs ∧ (∀ z ∈ zs, Fits z) := by
  rcases open_ints ht he hc h with ⟨hcs, _⟩ | ⟨a, len, cap, zs, hcs, _, hl, hm, hz, _, hcell, hwz⟩
  · obtain rfl : v = .slice none 0 0 := by simpa using hcs
    exact ⟨[], ⟨none, 0, 0, 0, rfl, fun h => by simp at h, fun k hk => by simp at hk⟩, fun z hz => by cases hz⟩
  · obtain rfl : v = .slice (some a) len cap := by simpa using hcs
    have hlz : len ≤ zs.length := by rw [hz]; split <;> omega
    have hlen : (zs.take len).length = len := by simp; omega
    refine ⟨zs.take len, ?_, fun z hz => fits_of_wf (hwz z (List.mem_of_mem_take hz))⟩
    by_cases h0 : len = 0
    · subst h0
      exact ⟨some a, 0, 0, cap, by rw [hlen], fun h => by omega, fun k hk => by omega⟩
    · obtain ⟨b, off, spot⟩ := a
      have hc0 := hcell 0 (by omega)
      have hspot : spot = none := by simpa [Addr.add] using World.cell?_spot hc0
      subst hspot
      have had : ∀ j, (⟨b, off, none⟩ : Addr).add j = ⟨b, off + j, none⟩ := fun j => by simp [Addr.add]
      refine ⟨some ⟨b, off, none⟩, b, off, cap, by rw [hlen], fun _ => ⟨rfl, ?_⟩, fun k hk => ?_⟩
      · rw [had] at hc0; exact lt_of_cell hc0
      · have := hcell k (by omega)
        rw [had] at this
        rw [this]
        simp [List.getD_eq_getElem?_getD, show k < len by omega]

set_option maxRecDepth 100000 in
/-- a struct of five numbers that was trod -/
theorem step_of_trod {fuel : Nat} {cs : List Value} {x : DataW H × List MemPlace} (h : DataW.trod enc Tryd.prog W 0 sp held fuel 55 cs = some x) :
    ∃ s : Sp, cs = [.int .i64 s.code, .int .i64 s.dst, .int .i64 s.a, .int .i64 s.b, .int .i64 s.c] := by
  obtain ⟨xs, n, _, _, hl, hlen, hf⟩ := DataW.trod_struct Tryd.underlying55 h
  have h5 : cs.length = 5 := hl.trans (by kernel_rfl)
  match cs, h5 with
  | [c0, c1, c2, c3, c4], _ =>
    have hx : ∀ i, i < 5 → ∃ y, xs[i]? = some y := fun i hi => ⟨_, List.getElem?_eq_getElem (by rw [hlen]; exact hi)⟩
    have k1 : Tryd.prog.cellsOf 3 = 1 := by kernel_rfl
    obtain ⟨y0, e0⟩ := hx 0 (by omega)
    obtain ⟨y1, e1⟩ := hx 1 (by omega)
    obtain ⟨y2, e2⟩ := hx 2 (by omega)
    obtain ⟨y3, e3⟩ := hx 3 (by omega)
    obtain ⟨y4, e4⟩ := hx 4 (by omega)
    have f0 := hf 0 _ rfl
    have f1 := hf 1 _ rfl
    have f2 := hf 2 _ rfl
    have f3 := hf 3 _ rfl
    have f4 := hf 4 _ rfl
    rw [e0] at f0
    rw [e1] at f1
    rw [e2] at f2
    rw [e3] at f3
    rw [e4] at f4
    obtain ⟨z0, g0, _⟩ := DataW.trod_int Tryd.underlying3 f0
    obtain ⟨z1, g1, _⟩ := DataW.trod_int Tryd.underlying3 f1
    obtain ⟨z2, g2, _⟩ := DataW.trod_int Tryd.underlying3 f2
    obtain ⟨z3, g3, _⟩ := DataW.trod_int Tryd.underlying3 f3
    obtain ⟨z4, g4, _⟩ := DataW.trod_int Tryd.underlying3 f4
    simp [k1] at g0 g1 g2 g3 g4
    exact ⟨⟨z0, z1, z2, z3, z4⟩, by rw [g0, g1, g2, g3, g4]⟩

theorem exists_list {α : Type} (d : α) (n : Nat) (P : Nat → α → Prop) (h : ∀ i, i < n → ∃ x, P i x) : ∃ l : List α, l.length = n ∧ ∀ i, i < n → P i (l.getD i d) := by
  induction n with
  | zero => exact ⟨[], rfl, fun i hi => by omega⟩
  | succ n ih =>
    obtain ⟨l, hl, hp⟩ := ih fun i hi => h i (by omega)
    obtain ⟨x, hx⟩ := h n (by omega)
    refine ⟨l ++ [x], by simp [hl], fun i hi => ?_⟩
    by_cases e : i = n
    · subst e
      rw [List.getD_eq_getElem?_getD, List.getElem?_append_right (by omega)]
      simpa [hl] using hx
    · rw [List.getD_eq_getElem?_getD, List.getElem?_append_left (by omega), ← List.getD_eq_getElem?_getD]
      exact hp i (by omega)

theorem steps_of_trod {fuel : Nat} {v : Value} {x : DataW H × List MemPlace} (h : DataW.trod enc Tryd.prog W 0 sp held fuel 24 [v] = some x) : ∃ l, Steps (· < W.heap.size) W v l := by
  rcases DataW.trod_slice Tryd.underlying24 h with ⟨hcs, _⟩ | ⟨a, len, cap, elems, rest, n, _, hcs, _, _, _, _, hlen, hel, _⟩
  · obtain rfl : v = .slice none 0 0 := by simpa using hcs
    exact ⟨[], none, 0, 0, 0, rfl, fun h => by simp at h, fun k hk => by simp at hk⟩
  · obtain rfl : v = .slice (some a) len cap := by simpa using hcs
    have k5 : Tryd.prog.cellsOf 55 = 5 := by kernel_rfl
    have each : ∀ i, i < len → ∃ s : Sp, ∀ j, j < 5 → W.cell? ((a.add (i * 5)).add j) = [Value.int .i64 s.code, .int .i64 s.dst, .int .i64 s.a, .int .i64 s.b, .int .i64 s.c][j]? := fun i hi => by
      have he := hel i hi
      rw [k5, List.getElem?_eq_getElem (by omega)] at he
      obtain ⟨cs, hcs, hcs2⟩ := Option.bind_eq_some_iff.1 he
      obtain ⟨s, rfl⟩ := step_of_trod hcs2
      exact ⟨s, (World.cells?_some hcs).2.2⟩
    obtain ⟨l, hl, hp⟩ := exists_list sp0 len _ each
    by_cases h0 : len = 0
    · subst h0
      exact ⟨l, some a, 0, 0, cap, by rw [hl], fun h => by omega, fun k hk => by omega⟩
    · obtain ⟨b, off, spot⟩ := a
      have hc0 := hp 0 (by omega) 0 (by omega)
      have hspot : spot = none := by simpa [Addr.add] using World.cell?_spot hc0
      subst hspot
      have had : ∀ i j, ((⟨b, off, none⟩ : Addr).add (i * 5)).add j = ⟨b, off + i * 5 + j, none⟩ := fun i j => by rw [add_none, add_none]
      refine ⟨l, some ⟨b, off, none⟩, b, off, cap, by rw [hl], fun _ => ⟨rfl, ?_⟩, fun k hk => ?_⟩
      · rw [had] at hc0; exact lt_of_cell hc0
      · have q := fun j hj => hp k (by omega) j hj
        simp only [had] at q
        exact ⟨q 0 (by omega), q 1 (by omega), q 2 (by omega), q 3 (by omega), q 4 (by omega)⟩

set_option maxRecDepth 100000 in
/-- code that was trod -/
theorem net_of_trod {v : Value} {d : DataW H} {p : List MemPlace} {r : Reach} {b0 : Nat} (hv : Value.okWide Tryd.prog W r b0 26 v) (h : DataW.Trod enc Tryd.prog W 0 sp held 26 v d p) :
    ∃ (n : Nt) (vF vI vO vK vN vC : Value), v = .agg #[.int .i64 n.places, vF, vI, vO, vK, vN, vC] ∧ NetV W.heap.size W n vF vI vO vK vN vC ∧ (∀ z ∈ n.first, Fits z) ∧ (∀ z ∈ n.nums, Fits z) := by
  obtain ⟨cs, rfl, hsz⟩ := okWide_struct Tryd.underlying26 hv
  have h7 : cs.size = 7 := hsz.trans (by kernel_rfl)
  obtain ⟨fuel, hf⟩ := h
  obtain ⟨xs, n, _, _, hl, hlen, hf⟩ := DataW.trod_struct Tryd.underlying26 hf
  obtain ⟨cs⟩ := cs
  have h7' : cs.length = 7 := h7
  match cs, h7' with
  | [c0, c1, c2, c3, c4, c5, c6], _ =>
    have hx : ∀ i, i < 7 → ∃ y, xs[i]? = some y := fun i hi => ⟨_, List.getElem?_eq_getElem (by rw [hlen]; exact hi)⟩
    have k0 : Tryd.prog.cellsOf 3 = 1 := by kernel_rfl
    have k1 : Tryd.prog.cellsOf 22 = 1 := by kernel_rfl
    have k2 : Tryd.prog.cellsOf 23 = 1 := by kernel_rfl
    have k3 : Tryd.prog.cellsOf 24 = 1 := by kernel_rfl
    have k4 : Tryd.prog.cellsOf 2 = 1 := by kernel_rfl
    obtain ⟨y0, e0⟩ := hx 0 (by omega)
    obtain ⟨y1, e1⟩ := hx 1 (by omega)
    obtain ⟨y2, e2⟩ := hx 2 (by omega)
    obtain ⟨y3, e3⟩ := hx 3 (by omega)
    obtain ⟨y4, e4⟩ := hx 4 (by omega)
    obtain ⟨y5, e5⟩ := hx 5 (by omega)
    obtain ⟨y6, e6⟩ := hx 6 (by omega)
    have f0 := hf 0 _ rfl
    have f1 := hf 1 _ rfl
    have f2 := hf 2 _ rfl
    have f3 := hf 3 _ rfl
    have f4 := hf 4 _ rfl
    have f5 := hf 5 _ rfl
    have f6 := hf 6 _ rfl
    rw [e0] at f0
    rw [e1] at f1
    rw [e2] at f2
    rw [e3] at f3
    rw [e4] at f4
    rw [e5] at f5
    rw [e6] at f6
    simp [Value.cells, k0, k1, k2, k3] at f0 f1 f2 f3 f4 f5 f6
    obtain ⟨P, g0, _⟩ := DataW.trod_int Tryd.underlying3 f0
    obtain rfl : c0 = .int .i64 P := by simpa using g0
    obtain ⟨l1, i1, w1⟩ := ints_of_trod Tryd.underlying22 Tryd.underlying2 k4 f1
    obtain ⟨l2, i2, _⟩ := ints_of_trod Tryd.underlying23 Tryd.underlying3 k0 f2
    obtain ⟨l3, i3, _⟩ := ints_of_trod Tryd.underlying23 Tryd.underlying3 k0 f3
    obtain ⟨l4, i4, _⟩ := ints_of_trod Tryd.underlying23 Tryd.underlying3 k0 f4
    obtain ⟨l5, i5, w5⟩ := ints_of_trod Tryd.underlying22 Tryd.underlying2 k4 f5
    obtain ⟨l6, i6⟩ := steps_of_trod f6
    exact ⟨⟨P, l1, l2, l3, l4, l5, l6⟩, c1, c2, c3, c4, c5, c6, rfl, ⟨i1, i2, i3, i4, i5, i6⟩, w1, w5⟩

/-- rows of numbers -/
def IRows (A : Nat → Prop) (w : World) (v : Value) (l : List (List Int)) : Prop :=
  ∃ ad b off cap, v = .slice ad l.length cap ∧ (0 < l.length → ad = some ⟨b, off, none⟩ ∧ A b) ∧ ∀ k, k < l.length → ∃ u, w.cell? ⟨b, off + k, none⟩ = some u ∧ Ints A w u (l.getD k [])
theorem IRows.carry {A A' : Nat → Prop} {w w' : World} {v : Value} {l : List (List Int)} (h : IRows A w v l) (k : Keep A A' w w') : IRows A' w' v l := by
  obtain ⟨ad, b, off, cap, rfl, h1, h2⟩ := h
  refine ⟨ad, b, off, cap, rfl, fun hp => ?_, fun j hj => ?_⟩
  · obtain ⟨e, ha⟩ := h1 hp
    obtain ⟨u, hu, _⟩ := h2 0 hp
    exact ⟨e, (k b ha (lt_of_cell hu)).1⟩
  · obtain ⟨e, ha⟩ := h1 (by omega)
    obtain ⟨u, hu, hi⟩ := h2 j hj
    exact ⟨u, by rw [cell_of_block (k b ha (lt_of_cell hu)).2]; exact hu, hi.carry k⟩
end
end Nx
end Go.Proofs.YtalfelkblbbmpaaDoor
