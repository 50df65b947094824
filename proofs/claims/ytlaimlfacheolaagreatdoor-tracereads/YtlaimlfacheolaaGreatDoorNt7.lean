/- What net's step answers: what is wrong with one step. -/
import Derived.Test.YtlaimlfacheolaaGreatDoorNt6
namespace Go.Proofs.YtlaimlfacheolaaGreatDoor
open Go.RowKit
namespace Nx

section
variable (code dst a b c P : Int) (nums bn : Nat) (w : World)

/-- the step as it lies in memory behind the box, and what tells places -/
def Boxed (w1 : World) (q bn : Nat) (code dst a b c P : Int) : Prop :=
  w1.cell? ⟨q, 0, none⟩ = some (.int .i64 code) ∧ w1.cell? ⟨q, 1, none⟩ = some (.int .i64 dst) ∧ w1.cell? ⟨q, 2, none⟩ = some (.int .i64 a) ∧ w1.cell? ⟨q, 3, none⟩ = some (.int .i64 b) ∧ w1.cell? ⟨q, 4, none⟩ = some (.int .i64 c) ∧ w1.cell? ⟨bn, 0, none⟩ = some (.int .i64 P)
theorem Boxed.below {w1 w2 : World} {q bn : Nat} {code dst a b c P : Int} (h : Boxed w1 q bn code dst a b c P) (hb : Below w1.heap.size w1 w2) : Boxed w2 q bn code dst a b c P :=
  ⟨cell_below hb h.1, cell_below hb h.2.1, cell_below hb h.2.2.1, cell_below hb h.2.2.2.1, cell_below hb h.2.2.2.2.1, cell_below hb h.2.2.2.2.2⟩
end
end Nx
end Go.Proofs.YtlaimlfacheolaaGreatDoor
