/- What net's Tick does: one tick of code. -/
import Derived.Test.YtalfelkblbbmpaaDoorNt3
import Derived.Deep.RegionHeld3
namespace Go.Proofs.YtalfelkblbbmpaaDoor
open Go.RowKit
namespace Nx

structure Few (n : Nt) (V : List Int) : Prop where
  v : V.length ≤ 100000
  ins : n.ins.length ≤ 100000
  outs : n.outs.length ≤ 100000
  keeps : n.keeps.length ≤ 100000
  code : n.code.length ≤ 100000

theorem frKeep {B B1 : Nat} {X : List Nat} {w w' : World} (h : Fr B1 X w w') (hB : B ≤ B1) (hX : ∀ x ∈ X, B ≤ x) : Keep (· < B) (· < B) w w' :=
  fun b hb _ => ⟨hb, h.block b (Nat.lt_of_lt_of_le hb hB) (fun hm => by have := hX b hm; omega)⟩

theorem ix24 (ad : Option Addr) (b off n cap k : Nat) (hk : k < n) (ha : 0 < n → ad = some ⟨b, off, none⟩) (w : World) : (Instr.indexAt 24 (.slice ad n cap) (.int .i64 (k : Int))).run Tryd.prog w = .ok (.pointer (some ⟨b, off + k * 5, none⟩)) w := by
  obtain rfl := ha (by omega)
  rw [run_indexAt_slice _ _ _ _ _ _ _ (by kernel_rfl), if_pos ⟨by omega, by omega⟩]
  have e : (sizeOf (Tryd.prog.elem 24)).run Tryd.prog w = .ok 5 w := by kernel_rfl
  rw [e]
  simp [Result.andThen, Addr.add]

end Nx
end Go.Proofs.YtalfelkblbbmpaaDoor
