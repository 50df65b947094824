/- What net's forget does: all places are 0 but those that are kept. -/
import Derived.Test.YtlaimlfacheolaaGreatDoorNt2
namespace Go.Proofs.YtlaimlfacheolaaGreatDoor
open Go.RowKit
namespace Nx

theorem own_of_row {w : World} {B e n : Nat} {v : Value} {V : List Int} (h : w.ownsRow B e 1 v n (V.map (Value.int .i64))) : ∃ g, Own w v V g ∧ B ≤ g ∧ (0 < n → g < w.heap.size) ∧ V.length = n := by
  obtain ⟨hl, h2⟩ := h
  have hl' : V.length = n := by simpa using hl
  rcases h2 with ⟨rfl, rfl⟩ | ⟨g, cap, cur, rfl, hB, hg, hn, hc, hs, ht⟩
  · exact ⟨B, ⟨none, 0, by rw [hl'], fun hp => by omega⟩, Nat.le_refl _, fun h => by omega, hl'⟩
  · refine ⟨g, ⟨some ⟨g, 0, none⟩, cap, by rw [hl'], fun _ => ⟨rfl, cur.toList.drop n, e, ?_⟩⟩, hB, fun _ => lt_of_block hg, hl'⟩
    rw [hg, ← ht, Nat.mul_one, List.take_append_drop]

theorem own_made {w : World} {B e g n cap : Nat} {V : List Int} (h : w.ownsRow B e 1 (.slice (some ⟨g, 0, none⟩) n cap) n (V.map (Value.int .i64))) (hn : V.length = n) : Own w (.slice (some ⟨g, 0, none⟩) n cap) V g := by
  obtain ⟨hl, h2⟩ := h
  rcases h2 with ⟨h0, _⟩ | ⟨g', cap', cur, e1, hB, hg, _, hc, hs, ht⟩
  · exact absurd h0 (by simp)
  · obtain ⟨rfl, rfl⟩ : g = g' ∧ cap = cap' := by simpa using e1
    refine ⟨some ⟨g, 0, none⟩, cap, by rw [hn], fun _ => ⟨rfl, cur.toList.drop n, e, ?_⟩⟩
    rw [hg, ← ht, Nat.mul_one, List.take_append_drop]

theorem Tryz.infoI64 : (Tryz.prog.info? 2).map (fun i => (i.zero, i.size, i.bytes)) = some (some (.int .i64 0), 1, 8) := by kernel_rfl

theorem made0 (n : Nat) : (madeCells (Value.cells (.int .i64 0)) (n * 1)).toList = (List.replicate n (0 : Int)).map (Value.int .i64) := by
  apply List.ext_getElem
  · simp [madeCells]
  · intro k h1 h2
    simp [madeCells, Value.cells, Nat.mod_one]

/-- a machine's cells -/
def mCells (P : Int) (vF vI vO vK vN vC vp : Value) : Array Value := #[.int .i64 P, vF, vI, vO, vK, vN, vC, vp]

theorem cell_row {w : World} {g : Nat} {l : Array Value} {T : TypeId} {f : Nat × Nat} (h : w.heap[g]? = some (.cells l T f)) (k : Nat) : w.cell? ⟨g, k, none⟩ = l[k]? := by
  simp only [World.cell?, h]
  simp

end Nx
end Go.Proofs.YtlaimlfacheolaaGreatDoor
