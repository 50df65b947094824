/- plain.Place and the laws' is, at what net's Check answers. -/
import Derived.Test.YtalfelkblbbmpaaDoorEs3
namespace Go.Proofs.YtalfelkblbbmpaaDoor
open Go.RowKit Go.Extern.Stop Go.Stop Go.Extern Nx

set_option maxRecDepth 100000 in
set_option maxHeartbeats 1000000 in
theorem place_nil (w : World) : Calls Tryd.prog 25 #[.nilIface] w fun e w' => e = .returned (.tuple #[.int .i64 0, .int .i64 (-1)]) ∧ w' = w := by
  go_enter Tryd.func25, Tryd.ntmps25
  go_wp2_with (go_at_call 43; refine (tell_nil _).mono ?_; rintro e' w' ⟨rfl, hw⟩; obtain rfl := hw.symm)
  refine wp_loop_rounds 1 ?_
  rw [rounds_succ]
  go_wp2
  go_ret2
  exact ⟨rfl, rfl⟩

theorem Tryd.isAt (v : Value) (x : TypeId) (w : World) : (Instr.typeAssert (.iface 91 v) x 91 true).run Tryd.prog w = .ok (.tuple #[v, .bool true]) w := by kernel_rfl

set_option maxRecDepth 100000 in
set_option maxHeartbeats 1000000 in
theorem place_at (g e q : Nat) (w : World) (hg : ErrType w) (hA : w.heap[g]? = some (.cells #[.int .i64 e, .int .i64 q] 92 (0, 0))) :
    Calls Tryd.prog 25 #[.iface 91 (.pointer (some ⟨g, 0, none⟩))] w fun ev w' => ev = .returned (.tuple #[.int .i64 e, .int .i64 q]) ∧ Below w.heap.size w w' := by
  have hAlt : g < w.heap.size := (Array.getElem?_eq_some_iff.1 hA).1
  have ht := tell_at g e q w hg hA
  have hi := Tryd.isAt
  go_enter Tryd.func25, Tryd.ntmps25
  go_wp2_with (go_at_call 43; refine ht.mono ?_; rintro e' w1 ⟨rfl, hb⟩; have hc1 : w1.cell? ⟨g, 1, none⟩ = some (.int .i64 q) := by (rw [hb.cell (p := ⟨g, 1, none⟩) hAlt, cell_of_row _ _ _ _ _ _ hA]; rfl))
  refine wp_loop_rounds 1 ?_
  rw [rounds_succ]
  go_wp2
  go_quiet (fail)
  go_wp2
  go_ret2
  exact ⟨rfl, hb.trans ⟨rfl, rfl, rfl, Nat.le_refl _, fun _ _ => rfl⟩⟩

set_option maxRecDepth 100000 in
set_option maxHeartbeats 1000000 in
theorem is_nil (w : World) : Calls Tryd.prog 8 #[.nilIface, .agg #[.int .i64 0, .int .i64 (-1)]] w fun e w' => e = .returned (.bool true) ∧ Below w.heap.size w w' := by
  go_enter Tryd.func8, Tryd.ntmps8
  go_wp2_with (go_at_call 25; refine (place_nil _).mono ?_; rintro e' w' ⟨rfl, hw⟩; obtain rfl := hw.symm)
  go_ret
  exact ⟨rfl, (Below.refl _ _).alloc (Nat.le_refl _) _⟩

set_option maxRecDepth 100000 in
set_option maxHeartbeats 1000000 in
theorem is_at (g e q : Nat) (w : World) (hg : ErrType w) (hA : w.heap[g]? = some (.cells #[.int .i64 e, .int .i64 q] 92 (0, 0))) :
    Calls Tryd.prog 8 #[.iface 91 (.pointer (some ⟨g, 0, none⟩)), .agg #[.int .i64 e, .int .i64 q]] w fun ev w' => ev = .returned (.bool true) ∧ Below w.heap.size w w' := by
  have hglt : 1 < w.heap.size := lt_of_cell hg
  have hAlt : g < w.heap.size := (Array.getElem?_eq_some_iff.1 hA).1
  have hg2 : ErrType (w.alloc (.cells #[.int .i64 e, .int .i64 q] 30)) := by
    rw [ErrType, World.cell?_alloc_lt _ _ ⟨1, 0, none⟩ hglt]; exact hg
  have hA2 : (w.alloc (.cells #[.int .i64 e, .int .i64 q] 30)).heap[g]? = some (.cells #[.int .i64 e, .int .i64 q] 92 (0, 0)) := by
    rw [Below.heap_alloc _ _ _ hAlt]; exact hA
  have hp := place_at g e q _ hg2 hA2
  clear hg2 hA2
  have hn0 : ∀ w1, Below (w.alloc (.cells #[.int .i64 e, .int .i64 q] 30)).heap.size (w.alloc (.cells #[.int .i64 e, .int .i64 q] 30)) w1 → w1.cell? ⟨w.heap.size, 0, none⟩ = some (.int .i64 e) ∧ w1.cell? ⟨w.heap.size, 1, none⟩ = some (.int .i64 q) := fun w1 hb => by
    rw [hb.cell (p := ⟨w.heap.size, 0, none⟩) (by simp), hb.cell (p := ⟨w.heap.size, 1, none⟩) (by simp)]
    simp
  go_enter Tryd.func8, Tryd.ntmps8
  go_wp2_with (go_at_call 25; refine hp.mono ?_; rintro e' w1 ⟨rfl, hb⟩; obtain ⟨hc0, hc1⟩ := hn0 w1 hb)
  go_ret
  exact ⟨rfl, ((Below.refl _ _).alloc (Nat.le_refl _) _).trans (hb.mono (by simp))⟩
end Go.Proofs.YtalfelkblbbmpaaDoor
