/- api.Tell and plain.Place at what Split answers. -/
import Derived.Test.YtlaimlfacheolaaGreatDoorEs2
import Derived.Test.YtlaimlfacheolaaGreatDoorNtB
import Derived.Deep.QuietTactic
import Derived.BigQuiet
namespace Go.Proofs.YtlaimlfacheolaaGreatDoor
open Go.RowKit Go.Extern.Stop Go.Stop Go.Extern Nx

theorem tell_nil (w : World) : Calls Tryz.prog 29 #[.nilIface] w fun e w' => e = .returned (.int .i64 0) ∧ w' = w := by
  go_enter Tryz.func29, Tryz.ntmps29
  go_wp2
  go_ret
  exact ⟨rfl, rfl⟩

set_option maxRecDepth 100000 in
set_option maxHeartbeats 1000000 in
theorem tell_at (g e q : Nat) (w : World) (hg : ErrType w) (hA : w.heap[g]? = some (.cells #[.int .i64 e, .int .i64 q] 49 (0, 0))) :
    Calls Tryz.prog 29 #[.iface 48 (.pointer (some ⟨g, 0, none⟩))] w fun ev w' => ev = .returned (.int .i64 e) ∧ Below w.heap.size w w' := by
  have hglt : 1 < w.heap.size := lt_of_cell hg
  have hAlt : g < w.heap.size := (Array.getElem?_eq_some_iff.1 hA).1
  have hg2 : ErrType (w.alloc (.cells #[.int .i64 0] 24)) := by
    rw [ErrType, World.cell?_alloc_lt _ _ ⟨1, 0, none⟩ hglt]; exact hg
  have hA2 : (w.alloc (.cells #[.int .i64 0] 24)).heap[g]? = some (.cells #[.int .i64 e, .int .i64 q] 49 (0, 0)) := by
    rw [Below.heap_alloc _ _ _ hAlt]; exact hA
  have has := as_any g e q ⟨w.heap.size, 0, none⟩ (.int .i64 0) _ hg2 hA2 (by simp) (by simp)
  clear hg2 hA2
  go_enter Tryz.func29, Tryz.ntmps29
  go_wp2_with (go_at_call 38; refine has.mono ?_; rintro e' w' ⟨rfl, rfl⟩)
  go_ret
  exact ⟨rfl, (((((Below.refl _ _).alloc (Nat.le_refl _) _).alloc (by simp) _).alloc (by simp; omega) _).alloc (by simp; omega) _).alloc (by simp; omega) _⟩

set_option maxRecDepth 100000 in
set_option maxHeartbeats 1000000 in
theorem tell_err (e : Nat) (w : World) (hg : ErrType w) :
    Calls Tryz.prog 29 #[.iface 24 (.int .i64 e)] w fun ev w' => ev = .returned (.int .i64 e) ∧ Below w.heap.size w w' := by
  have hglt : 1 < w.heap.size := lt_of_cell hg
  have hg2 : ErrType (w.alloc (.cells #[.int .i64 0] 24)) := by
    rw [ErrType, World.cell?_alloc_lt _ _ ⟨1, 0, none⟩ hglt]; exact hg
  have has := as_err e ⟨w.heap.size, 0, none⟩ (.int .i64 0) _ hg2 (by simp) (by simp)
  clear hg2
  go_enter Tryz.func29, Tryz.ntmps29
  go_wp2_with (go_at_call 38; refine has.mono ?_; rintro e' w' ⟨rfl, rfl⟩)
  go_ret
  exact ⟨rfl, (((((Below.refl _ _).alloc (Nat.le_refl _) _).alloc (by simp) _).alloc (by simp; omega) _).alloc (by simp; omega) _).alloc (by simp; omega) _⟩


theorem tell_isErr {B : Nat} {w : World} {v : Value} {f : Nat × Int} (hg : ErrType w) (h : IsErr B w v f) :
    Calls Tryz.prog 29 #[v] w fun ev w' => ev = .returned (.int .i64 f.1) ∧ Below w.heap.size w w' := by
  rcases h with ⟨h1, _, rfl⟩ | ⟨_, _, rfl⟩ | ⟨_, g, q, _, _, rfl, hA⟩
  · rw [h1]; exact (tell_nil w).mono fun e w' ⟨he, hw⟩ => ⟨he, by rw [hw]; exact Below.refl _ _⟩
  · exact tell_err f.1 w hg
  · exact tell_at g f.1 q w hg hA
end Go.Proofs.YtlaimlfacheolaaGreatDoor
