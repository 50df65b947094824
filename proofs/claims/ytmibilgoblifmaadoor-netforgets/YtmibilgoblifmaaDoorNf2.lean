/- NetForgets: the law's walk. -/
import Derived.Test.YtmibilgoblifmaaDoorNf
import Derived.Test.YtmibilgoblifmaaDoorEs3
namespace Go.Proofs.YtmibilgoblifmaaDoor
open Go.RowKit
namespace Nx

section
variable (n : Nt) (w : World) (vF vI vO vK vN vC va vb : Value) (za zb : List Int)

/-- what the law is handed -/
def argsF : Array Value := #[.agg #[.int .i64 n.places, vF, vI, vO, vK, vN, vC], va, vb]

theorem box_net (B : Nat) (hB : B ≤ w.heap.size) (h : NetV B w n vF vI vO vK vN vC) : NetV B (w.alloc (.cells #[.int .i64 n.places, vF, vI, vO, vK, vN, vC] 26)) n vF vI vO vK vN vC :=
  h.below ((grown_one w _).mono hB) (Nat.le_refl _)

set_option maxHeartbeats 1000000 in
theorem forgets_big (h : NetV w.heap.size w n vF vI vO vK vN vC) (hn : ¬ Held n) :
    Calls Tryd.prog 4 #[.agg #[.int .i64 n.places, vF, vI, vO, vK, vN, vC], va, vb] w fun e w' => e = .returned (.bool true) ∧ Below w.heap.size w w' := by
  have hh : Calls Tryd.prog 12 #[.agg #[.int .i64 n.places, vF, vI, vO, vK, vN, vC]] (w.alloc (.cells #[.int .i64 n.places, vF, vI, vO, vK, vN, vC] 26)) fun e w' => e = .returned (.bool false) ∧ Hid (Below w.heap.size w w') :=
    (held_any w.heap.size n _ _ _ _ _ _ _ (box_net n w vF vI vO vK vN vC _ (Nat.le_refl _) h)).mono fun e w' ⟨b, he, hb, hw⟩ => by
      have : b = false := by cases b with
        | false => rfl
        | true => exact absurd (hb.1 rfl) hn
      exact ⟨by rw [he, this], ball (grown_one w _) hw⟩
  clear h hn
  go_enter Tryd.func4, Tryd.ntmps4
  go_wp2_with (go_at_call 12; refine hh.mono ?_; rintro e w1 ⟨rfl, X⟩)
  go_ret
  exact ⟨rfl, X.out⟩

theorem held_box (h : NetV w.heap.size w n vF vI vO vK vN vC) (hn : Held n) : Calls Tryd.prog 12 #[.agg #[.int .i64 n.places, vF, vI, vO, vK, vN, vC]] (w.alloc (.cells #[.int .i64 n.places, vF, vI, vO, vK, vN, vC] 26)) fun e w' => e = .returned (.bool true) ∧ Hid (Below (w.alloc (.cells #[.int .i64 n.places, vF, vI, vO, vK, vN, vC] 26)).heap.size (w.alloc (.cells #[.int .i64 n.places, vF, vI, vO, vK, vN, vC] 26)) w') :=
  (held_any w.heap.size n _ _ _ _ _ _ _ (box_net n w vF vI vO vK vN vC _ (Nat.le_refl _) h)).mono fun e w' ⟨b, he, hb, hw⟩ => by
      have : b = true := hb.2 hn
      exact ⟨by rw [he, this], hw⟩

set_option maxHeartbeats 1000000 in
theorem forgets_long (h : NetV w.heap.size w n vF vI vO vK vN vC) (hn : Held n) (ad : Option Addr) (la ca : Nat) (ad' : Option Addr) (lb cb : Nat) (hl : 30 < la ∨ 30 < lb) :
    Calls Tryd.prog 4 #[.agg #[.int .i64 n.places, vF, vI, vO, vK, vN, vC], .slice ad la ca, .slice ad' lb cb] w fun e w' => e = .returned (.bool true) ∧ Below w.heap.size w w' := by
  have hh := held_box n w vF vI vO vK vN vC h hn
  clear h hn
  by_cases h1 : 30 < la
  · clear hl
    go_enter Tryd.func4, Tryd.ntmps4
    go_wp2_with (go_at_call 12; refine hh.mono ?_; rintro e w1 ⟨rfl, X⟩)
    go_ret
    exact ⟨rfl, ball (grown_one w _) X.out⟩
  · have h2 : 30 < lb := by omega
    have h3 : la ≤ 30 := by omega
    clear hl h1
    go_enter Tryd.func4, Tryd.ntmps4
    go_wp2_with (go_at_call 12; refine hh.mono ?_; rintro e w1 ⟨rfl, X⟩)
    go_ret
    exact ⟨rfl, ball (grown_one w _) X.out⟩

/-- the code of which nothing is kept -/
def bare (n : Nt) : Nt := { n with keeps := [] }
theorem bare_small (h : Held n) : Small (bare n) := by
  have := h.small
  exact ⟨this.p, this.c, this.m, by have := this.s; simp [bare]; omega⟩

/-- behind coded, with nothing kept: the box, and the code -/
theorem box_bare (w2 : World) (h : NetV w.heap.size w n vF vI vO vK vN vC) (hb : Below (w.alloc (.cells #[.int .i64 n.places, vF, vI, vO, vK, vN, vC] 26)).heap.size (w.alloc (.cells #[.int .i64 n.places, vF, vI, vO, vK, vN, vC] 26)) w2) :
    w2.cell? ⟨w.heap.size, 4, none⟩ = some vK ∧ w2.frozen? ⟨w.heap.size, 4, none⟩ = false ∧
    (w2.setCell ⟨w.heap.size, 4, none⟩ (.slice none 0 0)).heap[w.heap.size]? = some (.cells #[.int .i64 n.places, vF, vI, vO, .slice none 0 0, vN, vC] 26 (0, 0)) ∧
    NetV w.heap.size (w2.setCell ⟨w.heap.size, 4, none⟩ (.slice none 0 0)) (bare n) vF vI vO (.slice none 0 0) vN vC ∧ Below w.heap.size w (w2.setCell ⟨w.heap.size, 4, none⟩ (.slice none 0 0)) := by
  have hrow : w2.heap[w.heap.size]? = some (.cells #[.int .i64 n.places, vF, vI, vO, vK, vN, vC] 26 (0, 0)) := by
    rw [hb.block w.heap.size (by simp)]; exact heap_alloc_new w _
  have hbw : Below w.heap.size w w2 := ball (grown_one w _) hb
  have hbs : Below w.heap.size w (w2.setCell ⟨w.heap.size, 4, none⟩ (.slice none 0 0)) := hbw.setCell (Nat.le_refl _) _
  refine ⟨(cell_row hrow 4), frozen_cells hrow 4, set_cells (l := [.int .i64 n.places, vF, vI, vO, vK, vN, vC]) hrow 4 _, ?_, hbs⟩
  have h' := h.below hbs (Nat.le_refl _)
  exact ⟨h'.f, h'.i, h'.o, nilInts _ _, h'.m, h'.c⟩
end
end Nx
end Go.Proofs.YtmibilgoblifmaaDoor
