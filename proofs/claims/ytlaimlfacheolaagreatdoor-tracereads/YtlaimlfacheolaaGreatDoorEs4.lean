/- plain.Place and the laws' is, at what net's Check answers. -/
import Derived.Test.YtlaimlfacheolaaGreatDoorEs3
namespace Go.Proofs.YtlaimlfacheolaaGreatDoor
open Go.RowKit Go.Extern.Stop Go.Stop Go.Extern Nx

set_option maxRecDepth 100000 in
set_option maxHeartbeats 1000000 in
theorem place_nil (w : World) : Calls Tryz.prog 17 #[.nilIface] w fun e w' => e = .returned (.tuple #[.int .i64 0, .int .i64 (-1)]) ∧ w' = w := by
  go_enter Tryz.func17, Tryz.ntmps17
  go_wp2_with (go_at_call 29; refine (tell_nil _).mono ?_; rintro e' w' ⟨rfl, hw⟩; obtain rfl := hw.symm)
  refine wp_loop_rounds 1 ?_
  rw [rounds_succ]
  go_wp2
  go_ret2
  exact ⟨rfl, rfl⟩

theorem Tryz.isAt (v : Value) (x : TypeId) (w : World) : (Instr.typeAssert (.iface 48 v) x 48 true).run Tryz.prog w = .ok (.tuple #[v, .bool true]) w := by kernel_rfl

set_option maxRecDepth 100000 in
set_option maxHeartbeats 1000000 in
theorem place_at (g e q : Nat) (w : World) (hg : ErrType w) (hA : w.heap[g]? = some (.cells #[.int .i64 e, .int .i64 q] 49 (0, 0))) :
    Calls Tryz.prog 17 #[.iface 48 (.pointer (some ⟨g, 0, none⟩))] w fun ev w' => ev = .returned (.tuple #[.int .i64 e, .int .i64 q]) ∧ Below w.heap.size w w' := by
  have hAlt : g < w.heap.size := (Array.getElem?_eq_some_iff.1 hA).1
  have ht := tell_at g e q w hg hA
  have hi := Tryz.isAt
  go_enter Tryz.func17, Tryz.ntmps17
  go_wp2_with (go_at_call 29; refine ht.mono ?_; rintro e' w1 ⟨rfl, hb⟩; have hc1 : w1.cell? ⟨g, 1, none⟩ = some (.int .i64 q) := by (rw [hb.cell (p := ⟨g, 1, none⟩) hAlt, cell_of_row _ _ _ _ _ _ hA]; rfl))
  refine wp_loop_rounds 1 ?_
  rw [rounds_succ]
  go_wp2
  go_quiet (fail)
  go_wp2
  go_ret2
  exact ⟨rfl, hb.trans ⟨rfl, rfl, rfl, Nat.le_refl _, fun _ _ => rfl⟩⟩

set_option maxRecDepth 100000 in
set_option maxHeartbeats 1000000 in
theorem is_nil (w : World) : Calls Tryz.prog 7 #[.nilIface, .agg #[.int .i64 0, .int .i64 (-1)]] w fun e w' => e = .returned (.bool true) ∧ Below w.heap.size w w' := by
  go_enter Tryz.func7, Tryz.ntmps7
  go_wp2_with (go_at_call 17; refine (place_nil _).mono ?_; rintro e' w' ⟨rfl, hw⟩; obtain rfl := hw.symm)
  go_ret
  exact ⟨rfl, (Below.refl _ _).alloc (Nat.le_refl _) _⟩

set_option maxRecDepth 100000 in
set_option maxHeartbeats 1000000 in
theorem is_at (g e q : Nat) (w : World) (hg : ErrType w) (hA : w.heap[g]? = some (.cells #[.int .i64 e, .int .i64 q] 49 (0, 0))) :
    Calls Tryz.prog 7 #[.iface 48 (.pointer (some ⟨g, 0, none⟩)), .agg #[.int .i64 e, .int .i64 q]] w fun ev w' => ev = .returned (.bool true) ∧ Below w.heap.size w w' := by
  have hglt : 1 < w.heap.size := lt_of_cell hg
  have hAlt : g < w.heap.size := (Array.getElem?_eq_some_iff.1 hA).1
  have hg2 : ErrType (w.alloc (.cells #[.int .i64 e, .int .i64 q] 26)) := by
    rw [ErrType, World.cell?_alloc_lt _ _ ⟨1, 0, none⟩ hglt]; exact hg
  have hA2 : (w.alloc (.cells #[.int .i64 e, .int .i64 q] 26)).heap[g]? = some (.cells #[.int .i64 e, .int .i64 q] 49 (0, 0)) := by
    rw [Below.heap_alloc _ _ _ hAlt]; exact hA
  have hp := place_at g e q _ hg2 hA2
  clear hg2 hA2
  have hn0 : ∀ w1, Below (w.alloc (.cells #[.int .i64 e, .int .i64 q] 26)).heap.size (w.alloc (.cells #[.int .i64 e, .int .i64 q] 26)) w1 → w1.cell? ⟨w.heap.size, 0, none⟩ = some (.int .i64 e) ∧ w1.cell? ⟨w.heap.size, 1, none⟩ = some (.int .i64 q) := fun w1 hb => by
    rw [hb.cell (p := ⟨w.heap.size, 0, none⟩) (by simp), hb.cell (p := ⟨w.heap.size, 1, none⟩) (by simp)]
    simp
  go_enter Tryz.func7, Tryz.ntmps7
  go_wp2_with (go_at_call 17; refine hp.mono ?_; rintro e' w1 ⟨rfl, hb⟩; obtain ⟨hc0, hc1⟩ := hn0 w1 hb)
  go_ret
  exact ⟨rfl, ((Below.refl _ _).alloc (Nat.le_refl _) _).trans (hb.mono (by simp))⟩
end Go.Proofs.YtlaimlfacheolaaGreatDoor
