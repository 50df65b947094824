/- What net's at, put and the closure that asks places answer. -/
import Derived.Test.YtlaimlfacheolaaGreatDoorNv
namespace Go.Proofs.YtlaimlfacheolaaGreatDoor
open Go.RowKit
namespace Nx

theorem set_cells {w : World} {g : Nat} {l : List Value} {T : TypeId} {f : Nat × Nat} (h : w.heap[g]? = some (.cells l.toArray T f)) (k : Nat) (x : Value) : (w.setCell ⟨g, k, none⟩ x).heap[g]? = some (.cells (l.set k x).toArray T f) := by
  have hl := lt_of_block h
  have e : w.heap[g] = .cells l.toArray T f := by rw [Array.getElem?_eq_getElem hl] at h; exact Option.some.inj h
  simp only [World.setCell]
  rw [Array.getElem?_eq_getElem (by simpa using hl), Array.getElem_modify]
  simp [e]

theorem frozen_cells {w : World} {g : Nat} {l : Array Value} {T : TypeId} (h : w.heap[g]? = some (.cells l T (0, 0))) (k : Nat) : w.frozen? ⟨g, k, none⟩ = false := by
  simp [World.frozen?, h]

end Nx
end Go.Proofs.YtlaimlfacheolaaGreatDoor
