/- What the laws' held tells of code. -/
import Derived.Test.YtalfelkblbbmpaaDoorNo
import Derived.BigQuiet
namespace Go.Proofs.YtalfelkblbbmpaaDoor
open Go.RowKit
namespace Nx

/-- code is short enough to be held -/
def Held (n : Nt) : Prop := n.places ≤ 300 ∧ n.first.length ≤ 300 ∧ n.ins.length ≤ 30 ∧ n.outs.length ≤ 30 ∧ n.keeps.length ≤ 60 ∧ n.nums.length ≤ 60 ∧ n.code.length ≤ 120
theorem Held.small {n : Nt} (h : Held n) : Small n := ⟨by have := h.1; omega, by have := h.2.2.2.2.2.2; omega, by have := h.2.2.2.2.2.1; omega, by have := h.2.2.1; have := h.2.2.2.1; have := h.2.2.2.2.1; omega⟩
theorem Held.few {n : Nt} {V : List Int} (h : Held n) (hV : V.length ≤ 300) : Few n V := ⟨by omega, by have := h.2.2.1; omega, by have := h.2.2.2.1; omega, by have := h.2.2.2.2.1; omega, by have := h.2.2.2.2.2.2; omega⟩

theorem ix22 (ad : Option Addr) (b off n cap k : Nat) (hk : k < n) (ha : 0 < n → ad = some ⟨b, off, none⟩) (w : World) : (Instr.indexAt 22 (.slice ad n cap) (.int .i64 (k : Int))).run Tryd.prog w = .ok (.pointer (some ⟨b, off + k, none⟩)) w := by
  obtain rfl := ha (by omega)
  rw [run_indexAt_slice _ _ _ _ _ _ _ (by kernel_rfl), if_pos ⟨by omega, by omega⟩]
  have e : (sizeOf (Tryd.prog.elem 22)).run Tryd.prog w = .ok 1 w := by kernel_rfl
  rw [e]
  simp [Result.andThen, Addr.add]

end Nx
end Go.Proofs.YtalfelkblbbmpaaDoor
