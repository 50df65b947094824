/- NetJudges: the law's walk. -/
import Derived.Test.YtalfelkblbbmpaaDoorNr4
import Derived.Test.YtalfelkblbbmpaaDoorNl
import Derived.Test.YtalfelkblbbmpaaDoorNtB
import Derived.Test.YtalfelkblbbmpaaDoorEs5
import Derived.Deep.RegionHeld3
namespace Go.Proofs.YtalfelkblbbmpaaDoor
open Go.RowKit
namespace Nx

/-- the document's CheckNet, of whatever code is held -/
theorem cn_any (B : Nat) (n : Nt) (w : World) (vF vI vO vK vN vC : Value) (h : NetV B w n vF vI vO vK vN vC) (hcap : ∃ ad cap, vI = .slice ad n.ins.length cap ∧ n.ins.length ≤ cap) (hs : Small n) (hFine : w.cell? ⟨0, 0, none⟩ = some (.int .i64 0) ∧ w.cell? ⟨0, 1, none⟩ = some (.int .i64 (-1))) :
    Calls Tryd.prog 12 #[.agg #[.int .i64 n.places, vF, vI, vO, vK, vN, vC]] w fun e w' => e = .returned (.agg #[.int .i64 (check n).1, .int .i64 (check n).2]) ∧ Below w.heap.size w w' := by
  obtain ⟨adI, capI, rfl, hc⟩ := hcap
  have hI := h.i; have hO := h.o; have hK := h.k; have hC := h.c
  obtain ⟨adF, _, _, capF, rfl, -, -⟩ := h.f
  obtain ⟨adO, _, _, capO, rfl, -, -⟩ := h.o
  obtain ⟨adK, _, _, capK, rfl, -, -⟩ := h.k
  obtain ⟨adN, _, _, capN, rfl, -, -⟩ := h.m
  obtain ⟨adC, _, _, capC, rfl, -, -⟩ := h.c
  by_cases h0 : n.places < 0
  · have e : check n = (4, -1) := by
      have e : wholeE n = 4 := by unfold wholeE; rw [if_pos (.inl h0)]
      unfold check; rw [e]; rfl
    rw [e]; exact cn_low n w _ _ _ adI adO adK capI capO capK h0 hs.s
  · by_cases hf : (n.first.length : Int) = n.places
    · exact cn_main n w adF adI adO adK adN adC capF capI capO capK capN capC hs hc hFine (by omega) hf hI hO hK hC
    · rw [check_form hs (by omega) hf]; exact cn_form n w adF adI adO adK adN adC capF capI capO capK capN capC hs (by omega) hf

/-- the box that holds the code, and what it leads to -/
structure JK (w W : World) (n : Nt) (vF vI vO vK vN vC : Value) : Prop where
  box : W.heap[w.heap.size]? = some (.cells #[.int .i64 n.places, vF, vI, vO, vK, vN, vC] 26 (0, 0))
  below : Below w.heap.size w W
theorem JK.next {w W W' : World} {n : Nt} {vF vI vO vK vN vC : Value} (h : JK w W n vF vI vO vK vN vC) (hb : Below W.heap.size W W') : JK w W' n vF vI vO vK vN vC :=
  ⟨by rw [hb.block _ (lt_of_block h.box)]; exact h.box, ball h.below hb⟩

theorem JK.cells {w W : World} {n : Nt} {vF vI vO vK vN vC : Value} (h : JK w W n vF vI vO vK vN vC) : W.cell? ⟨w.heap.size, 0, none⟩ = some (.int .i64 n.places) ∧ W.cell? ⟨w.heap.size, 1, none⟩ = some vF ∧ W.cell? ⟨w.heap.size, 2, none⟩ = some vI ∧ W.cell? ⟨w.heap.size, 3, none⟩ = some vO ∧ W.cell? ⟨w.heap.size, 4, none⟩ = some vK ∧ W.cell? ⟨w.heap.size, 5, none⟩ = some vN ∧ W.cell? ⟨w.heap.size, 6, none⟩ = some vC :=
  ⟨cell_row h.box 0, cell_row h.box 1, cell_row h.box 2, cell_row h.box 3, cell_row h.box 4, cell_row h.box 5, cell_row h.box 6⟩
theorem below_drew (w : World) : Below w.heap.size w w.drew := ⟨rfl, rfl, rfl, Nat.le_refl _, fun _ _ => rfl⟩

end Nx
end Go.Proofs.YtalfelkblbbmpaaDoor
