/- image.told: the parts of a step that are told. -/
import Derived.Test.YtalfelkblbbmpaaDoorId
import Derived.Test.YtalfelkblbbmpaaDoorIq
namespace Go.Proofs.YtalfelkblbbmpaaDoor
open Go.RowKit
namespace Ix
open Nx

theorem below_drew1 {w w1 : World} (h : Below w.heap.size w w1) : Below w.heap.size w w1.drew := ⟨h.os, h.tape, h.output, h.size, h.block⟩
/-- five pointers at the parts of what lies at b -/
def ptrs (b : Nat) : Array Value := #[.pointer (some ⟨b, 0, none⟩), .pointer (some ⟨b, 1, none⟩), .pointer (some ⟨b, 2, none⟩), .pointer (some ⟨b, 3, none⟩), .pointer (some ⟨b, 4, none⟩)]

set_option maxHeartbeats 2000000 in
theorem told_any (b : Nat) (code dst a1 a2 a3 : Int) (w : World) (h : w.heap[b]? = some (.cells #[.int .i64 code, .int .i64 dst, .int .i64 a1, .int .i64 a2, .int .i64 a3] 55 (0, 0))) :
    Calls Tryd.prog 24 #[.pointer (some ⟨b, 0, none⟩)] w fun e w' => ∃ g, e = .returned (.slice (some ⟨g, 0, none⟩) (2 + nAsk code) 5) ∧ w.heap.size ≤ g ∧ w'.heap[g]? = some (.cells (ptrs b) 65 (0, 0)) ∧ Below w.heap.size w w' := by
  have hc0 : w.cell? ⟨b, 0, none⟩ = some (.int .i64 code) := (cel h 0 _ rfl).1
  have hc1 : w.cell? ⟨b, 1, none⟩ = some (.int .i64 dst) := (cel h 1 _ rfl).1
  have hc2 : w.cell? ⟨b, 2, none⟩ = some (.int .i64 a1) := (cel h 2 _ rfl).1
  have hc3 : w.cell? ⟨b, 3, none⟩ = some (.int .i64 a2) := (cel h 3 _ rfl).1
  have hc4 : w.cell? ⟨b, 4, none⟩ = some (.int .i64 a3) := (cel h 4 _ rfl).1
  have hask : Calls Tryd.prog 42 #[.agg #[.int .i64 code, .int .i64 dst, .int .i64 a1, .int .i64 a2, .int .i64 a3]] w fun e w' => ∃ ao cap, e = .returned (.slice ao (asks ⟨code, dst, a1, a2, a3⟩).length cap) ∧ w'.cell? ⟨b, 0, none⟩ = some (.int .i64 code) ∧ Hid (Below w.heap.size w w') :=
    (asks_any code dst a1 a2 a3 w).mono fun e w' ⟨v, he, ⟨ad, _, _, cap, hv, _, _⟩, hb⟩ => ⟨ad, cap, by rw [he, hv], by rw [cell_of_block (hb.block b (lt_of_block h))]; exact hc0, hb⟩
  by_cases h1 : code = 1
  · subst h1
    rw [asks_num _ rfl] at hask
    have e : nAsk 1 = 1 := rfl
    rw [e]
    clear h
    go_enter Tryd.func24, Tryd.ntmps24
    go_wp2_with (go_at_call 42; refine hask.mono ?_; rintro e w1 ⟨ao, cap, rfl, hc0', X⟩; clear hask)
    go_region
    go_wp2_with fail
    go_ret
    exact ⟨w1.heap.size, rfl, X.out.size, heap_alloc_new w1 _, below_drew1 (below_alloc1 X.out _)⟩
  · have hm : (asks ⟨code, dst, a1, a2, a3⟩).length = nAsk code := by
      rw [asks_take _ h1, List.length_take]
      show min (nAsk code) 3 = nAsk code
      have : nAsk code ≤ 3 := by unfold nAsk; split <;> (try split) <;> (try split) <;> omega
      omega
    have hm3 : nAsk code = 0 ∨ nAsk code = 1 ∨ nAsk code = 2 ∨ nAsk code = 3 := by unfold nAsk; split <;> (try split) <;> (try split) <;> omega
    rw [hm] at hask
    have h1' : (code == 1) = false := by simpa using h1
    clear h hm
    rcases hm3 with hm3 | hm3 | hm3 | hm3
    all_goals
      rw [hm3] at hask ⊢
      clear hm3
      go_enter Tryd.func24, Tryd.ntmps24
      go_wp2_with (go_at_call 42; refine hask.mono ?_; rintro e w1 ⟨ao, cap, rfl, hc0', X⟩; clear hask)
      go_region
      go_wp2_with fail
      go_ret
      exact ⟨w1.heap.size, rfl, X.out.size, heap_alloc_new w1 _, below_drew1 (below_alloc1 X.out _)⟩
end Ix
end Go.Proofs.YtalfelkblbbmpaaDoor
