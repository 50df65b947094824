/- What net's Tick does: one tick of code. -/
import Derived.Test.YtlaimlfacheolaaGreatDoorNt3
import Derived.Deep.RegionHeld3
namespace Go.Proofs.YtlaimlfacheolaaGreatDoor
open Go.RowKit
namespace Nx

structure Few (n : Nt) (V : List Int) : Prop where
  v : V.length ≤ 100000
  ins : n.ins.length ≤ 100000
  outs : n.outs.length ≤ 100000
  keeps : n.keeps.length ≤ 100000
  code : n.code.length ≤ 100000

theorem frKeep {B B1 : Nat} {X : List Nat} {w w' : World} (h : Fr B1 X w w') (hB : B ≤ B1) (hX : ∀ x ∈ X, B ≤ x) : Keep (· < B) (· < B) w w' :=
  fun b hb _ => ⟨hb, h.block b (Nat.lt_of_lt_of_le hb hB) (fun hm => by have := hX b hm; omega)⟩

end Nx
end Go.Proofs.YtlaimlfacheolaaGreatDoor
