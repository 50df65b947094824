/- What net's Check and New answer. -/
import Derived.Test.YtlaimlfacheolaaGreatDoorNtA
namespace Go.Proofs.YtlaimlfacheolaaGreatDoor
open Go.RowKit
namespace Nx

/-- an error as it lies in memory -/
def IsErr (B : Nat) (w : World) (v : Value) (f : Nat × Int) : Prop :=
  (f.1 = 0 ∧ f.2 = -1 ∧ v = .nilIface) ∨ (f.1 ≠ 0 ∧ f.2 = -1 ∧ v = .iface 24 (.int .i64 f.1)) ∨
    (f.1 ≠ 0 ∧ ∃ g q : Nat, f.2 = q ∧ B ≤ g ∧ v = .iface 48 (.pointer (some ⟨g, 0, none⟩)) ∧ w.heap[g]? = some (.cells #[.int .i64 f.1, .int .i64 q] 49 (0, 0)))
theorem IsErr.keep {B : Nat} {w w' : World} {v : Value} {f : Nat × Int} (h : IsErr B w v f) (hb : ∀ b, B ≤ b → b < w.heap.size → w'.heap[b]? = w.heap[b]?) : IsErr B w' v f := by
  rcases h with h | h | ⟨h1, g, q, h2, h3, h4, h5⟩
  · exact .inl h
  · exact .inr (.inl h)
  · exact .inr (.inr ⟨h1, g, q, h2, h3, h4, by rw [hb g h3 (lt_of_block h5)]; exact h5⟩)

def netCells (P : Int) (vF vI vO vK vN vC : Value) : Array Value := #[.int .i64 P, vF, vI, vO, vK, vN, vC]

end Nx
end Go.Proofs.YtlaimlfacheolaaGreatDoor
