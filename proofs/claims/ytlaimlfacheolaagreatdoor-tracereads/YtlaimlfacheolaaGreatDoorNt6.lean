/- What net's closure that tells a place, all and Asks answer. -/
import Derived.Test.YtlaimlfacheolaaGreatDoorNt5
namespace Go.Proofs.YtlaimlfacheolaaGreatDoor
open Go.RowKit
namespace Nx

/-! Asks -/
theorem ints1 (w : World) (a : Int) : Ints (fun b => w.heap.size ≤ b) (w.alloc (.cells #[.int .i64 a] 3)) (.slice (some ⟨w.heap.size, 0, none⟩) 1 1) [a] :=
  ⟨_, w.heap.size, 0, 1, rfl, fun _ => ⟨rfl, Nat.le_refl _⟩, fun k hk => by
    match k, hk with
    | 0, _ => simp⟩
theorem ints2 (w : World) (a b : Int) : Ints (fun b => w.heap.size ≤ b) (w.alloc (.cells #[.int .i64 a, .int .i64 b] 3)) (.slice (some ⟨w.heap.size, 0, none⟩) 2 2) [a, b] :=
  ⟨_, w.heap.size, 0, 2, rfl, fun _ => ⟨rfl, Nat.le_refl _⟩, fun k hk => by
    match k, hk with
    | 0, _ => simp
    | 1, _ => simp⟩
theorem ints3 (w : World) (a b c : Int) : Ints (fun b => w.heap.size ≤ b) (w.alloc (.cells #[.int .i64 a, .int .i64 b, .int .i64 c] 3)) (.slice (some ⟨w.heap.size, 0, none⟩) 3 3) [a, b, c] :=
  ⟨_, w.heap.size, 0, 3, rfl, fun _ => ⟨rfl, Nat.le_refl _⟩, fun k hk => by
    match k, hk with
    | 0, _ => simp
    | 1, _ => simp
    | 2, _ => simp⟩

end Nx
end Go.Proofs.YtlaimlfacheolaaGreatDoor
