/- What net's made answers: what a step makes of numbers, and of places. -/
import Derived.Test.YtlaimlfacheolaaGreatDoorNt1
import Derived.Test.YtlaimlfacheolaaGreatDoorVTwos
import Derived.Lib.QuietBelow
import Derived.Deep.QuietTactic
namespace Go.Proofs.YtlaimlfacheolaaGreatDoor
open Go.RowKit Go.Sort
namespace Nx

theorem ball {w w' w'' : World} (h : Below w.heap.size w w') (k : Below w'.heap.size w' w'') : Below w.heap.size w w'' := h.trans (k.mono h.size)
theorem cell_below {w w' : World} (h : Below w.heap.size w w') {b o : Nat} {v : Value} (hc : w.cell? ⟨b, o, none⟩ = some v) : w'.cell? ⟨b, o, none⟩ = some v := by
  rw [cell_of_block (h.block b (lt_of_cell hc))]; exact hc
theorem grown_one (w : World) (o : Obj) : Below w.heap.size w (w.alloc o) := (Below.refl _ _).alloc (Nat.le_refl _) _

/-- what there is of a machine that a step asks: the closure's pointer, the machine's places, the numbers -/
structure MV (A : Nat → Prop) (w : World) (q bm g : Nat) (vp vN : Value) (V nums : List Int) : Prop where
  q : w.cell? ⟨q, 0, none⟩ = some (.pointer (some ⟨bm, 0, none⟩))
  p : w.cell? ⟨bm, 7, none⟩ = some vp
  own : Own w vp V g
  gl : 0 < V.length → g < w.heap.size
  nums : Ints A w vN nums
theorem MV.below {A : Nat → Prop} {w w' : World} {q bm g : Nat} {vp vN : Value} {V nums : List Int} (h : MV A w q bm g vp vN V nums) (hb : Below w.heap.size w w') : MV A w' q bm g vp vN V nums := by
  refine ⟨?_, ?_, ?_, fun hp => Nat.lt_of_lt_of_le (h.gl hp) hb.size, ?_⟩
  · rw [cell_of_block (hb.block q (lt_of_cell h.q))]; exact h.q
  · rw [cell_of_block (hb.block bm (lt_of_cell h.p))]; exact h.p
  · by_cases hp : 0 < V.length
    · exact h.own.keep (hb.block g (h.gl hp))
    · obtain ⟨ad, cap, rfl, _⟩ := h.own
      exact ⟨ad, cap, rfl, fun hp' => absurd hp' hp⟩
  · exact h.nums.carry fun b ha hl => ⟨ha, hb.block b hl⟩
def stepV (s : Sp) : Value := .agg #[.int .i64 s.code, .int .i64 s.dst, .int .i64 s.a, .int .i64 s.b, .int .i64 s.c]
section
variable {A : Nat → Prop} (w : World) (q bm g : Nat) (vp vN : Value) (V nums : List Int) (s : Sp)

end

end Nx
end Go.Proofs.YtlaimlfacheolaaGreatDoor
