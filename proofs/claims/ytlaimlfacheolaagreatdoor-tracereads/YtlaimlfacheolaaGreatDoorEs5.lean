/- plain.Place and the laws' is, at an error without a place; and at whatever net's Check answers. -/
import Derived.Test.YtlaimlfacheolaaGreatDoorEs4
namespace Go.Proofs.YtlaimlfacheolaaGreatDoor
open Go.RowKit Go.Extern.Stop Go.Stop Go.Extern Nx

theorem Tryz.isNoAt (e : Int) (x : TypeId) (w : World) : (Instr.typeAssert (.iface 24 (.int .i64 e)) x 48 true).run Tryz.prog w = .ok (.tuple #[.pointer none, .bool false]) w := by kernel_rfl
theorem Tryz.noUnwrap (v : Value) (x : TypeId) (w : World) : (Instr.typeAssert (.iface 24 v) x 72 true).run Tryz.prog w = .ok (.tuple #[.nilIface, .bool false]) w := run_typeAssert_lacksB Tryz.underlying72 (by kernel_rfl) (by kernel_rfl) v x w

set_option maxRecDepth 100000 in
set_option maxHeartbeats 1000000 in
theorem place_err (e : Nat) (w : World) (hg : ErrType w) :
    Calls Tryz.prog 17 #[.iface 24 (.int .i64 e)] w fun ev w' => ev = .returned (.tuple #[.int .i64 e, .int .i64 (-1)]) ∧ Below w.heap.size w w' := by
  have ht := tell_err e w hg
  have hi := Tryz.isNoAt
  have hu := Tryz.noUnwrap
  go_enter Tryz.func17, Tryz.ntmps17
  go_wp2_with (go_at_call 29; refine ht.mono ?_; rintro e' w1 ⟨rfl, hb⟩)
  refine wp_loop_rounds 1 ?_
  rw [rounds_succ]
  go_wp2
  go_ret2
  exact ⟨rfl, hb⟩

set_option maxRecDepth 100000 in
set_option maxHeartbeats 1000000 in
theorem is_err (e : Nat) (w : World) (hg : ErrType w) :
    Calls Tryz.prog 7 #[.iface 24 (.int .i64 e), .agg #[.int .i64 e, .int .i64 (-1)]] w fun ev w' => ev = .returned (.bool true) ∧ Below w.heap.size w w' := by
  have hg2 : ErrType (w.alloc (.cells #[.int .i64 e, .int .i64 (-1)] 26)) := by
    rw [ErrType, World.cell?_alloc_lt _ _ ⟨1, 0, none⟩ (lt_of_cell hg)]; exact hg
  have hp := place_err e _ hg2
  clear hg2
  have hn0 : ∀ w1, Below (w.alloc (.cells #[.int .i64 e, .int .i64 (-1)] 26)).heap.size (w.alloc (.cells #[.int .i64 e, .int .i64 (-1)] 26)) w1 → w1.cell? ⟨w.heap.size, 0, none⟩ = some (.int .i64 e) ∧ w1.cell? ⟨w.heap.size, 1, none⟩ = some (.int .i64 (-1)) := fun w1 hb => by
    rw [hb.cell (p := ⟨w.heap.size, 0, none⟩) (by simp), hb.cell (p := ⟨w.heap.size, 1, none⟩) (by simp)]
    simp
  go_enter Tryz.func7, Tryz.ntmps7
  go_wp2_with (go_at_call 17; refine hp.mono ?_; rintro e' w1 ⟨rfl, hb⟩; obtain ⟨hc0, hc1⟩ := hn0 w1 hb)
  go_ret
  exact ⟨rfl, ((Below.refl _ _).alloc (Nat.le_refl _) _).trans (hb.mono (by simp))⟩

theorem is_isErr {B : Nat} {w : World} {v : Value} {f : Nat × Int} (hg : ErrType w) (h : IsErr B w v f) :
    Calls Tryz.prog 7 #[v, .agg #[.int .i64 f.1, .int .i64 f.2]] w fun ev w' => ev = .returned (.bool true) ∧ Below w.heap.size w w' := by
  rcases h with ⟨h1, h2, rfl⟩ | ⟨_, h2, rfl⟩ | ⟨_, g, q, h2, _, rfl, hA⟩
  · rw [h1, h2]; exact is_nil w
  · rw [h2]; exact is_err f.1 w hg
  · rw [h2]; exact is_at g f.1 q w hg hA
end Go.Proofs.YtlaimlfacheolaaGreatDoor
