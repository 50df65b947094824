/- NetPlaces: the law's walk, where it ends early. -/
import Derived.Test.YtanlfmhlohcmgaaNp5
import Derived.Test.YtanlfmhlohcmgaaNc
namespace Go.Proofs.Ytanlfmhlohcmgaa
open Go.RowKit
namespace Nx

/-- the boxes that hold the code and the number -/
structure NB (w W : World) (n : Nt) (vF vI vO vK vN vC : Value) (y : Int) : Prop where
  box : W.heap[w.heap.size]? = some (.cells #[.int .i64 n.places, vF, vI, vO, vK, vN, vC] 26 (0, 0))
  byb : W.heap[w.heap.size + 1]? = some (.cells #[.int .i64 y] 3 (0, 0))
  below : Below w.heap.size w W
theorem NB.next {w W W' : World} {n : Nt} {vF vI vO vK vN vC : Value} {y : Int} (h : NB w W n vF vI vO vK vN vC y) (hb : Below W.heap.size W W') : NB w W' n vF vI vO vK vN vC y :=
  ⟨by rw [hb.block _ (lt_of_block h.box)]; exact h.box, by rw [hb.block _ (lt_of_block h.byb)]; exact h.byb, ball h.below hb⟩
theorem NB.cells {w W : World} {n : Nt} {vF vI vO vK vN vC : Value} {y : Int} (h : NB w W n vF vI vO vK vN vC y) : W.cell? ⟨w.heap.size, 0, none⟩ = some (.int .i64 n.places) ∧ W.cell? ⟨w.heap.size, 1, none⟩ = some vF ∧ W.cell? ⟨w.heap.size, 2, none⟩ = some vI ∧ W.cell? ⟨w.heap.size, 3, none⟩ = some vO ∧ W.cell? ⟨w.heap.size, 4, none⟩ = some vK ∧ W.cell? ⟨w.heap.size, 5, none⟩ = some vN ∧ W.cell? ⟨w.heap.size, 6, none⟩ = some vC ∧ W.cell? ⟨w.heap.size + 1, 0, none⟩ = some (.int .i64 y) :=
  ⟨cell_row h.box 0, cell_row h.box 1, cell_row h.box 2, cell_row h.box 3, cell_row h.box 4, cell_row h.box 5, cell_row h.box 6, cell_row h.byb 0⟩
theorem nb_start (w : World) (n : Nt) (vF vI vO vK vN vC : Value) (y : Int) : NB w ((w.alloc (.cells #[.int .i64 n.places, vF, vI, vO, vK, vN, vC] 26)).alloc (.cells #[.int .i64 y] 3)) n vF vI vO vK vN vC y := by
  have e : (w.alloc (.cells #[.int .i64 n.places, vF, vI, vO, vK, vN, vC] 26)).heap.size = w.heap.size + 1 := by simp
  refine ⟨?_, ?_, ball (grown_one w _) (grown_one _ _)⟩
  · rw [Below.heap_alloc _ _ _ (by omega)]; exact heap_alloc_new _ _
  · rw [← e]; exact heap_alloc_new _ _

section
variable (n : Nt) (y : Int) (w : World) (vF vI vO vK vN vC vm vr : Value)
theorem held_nb (b : Bool) (h : NetV w.heap.size w n vF vI vO vK vN vC) (hb : b = true ↔ Held n) :
    Calls Try.prog 4 #[.agg #[.int .i64 n.places, vF, vI, vO, vK, vN, vC]] ((w.alloc (.cells #[.int .i64 n.places, vF, vI, vO, vK, vN, vC] 26)).alloc (.cells #[.int .i64 y] 3)) fun e w' => e = .returned (.bool b) ∧ Hid (NB w w' n vF vI vO vK vN vC y) :=
  (held_any w.heap.size n _ _ _ _ _ _ _ (h.below ((nb_start w n vF vI vO vK vN vC y).below) (Nat.le_refl _))).mono fun e w' ⟨b', he, hb', hw⟩ => by
    have : b' = b := by
      cases b <;> cases b' <;> simp_all
    exact ⟨by rw [he, this], (nb_start w n vF vI vO vK vN vC y).next hw⟩

set_option maxRecDepth 100000 in
set_option maxHeartbeats 1000000 in
theorem places_big (h : NetV w.heap.size w n vF vI vO vK vN vC) (hn : ¬ Held n) :
    Calls Try.prog 3 #[.agg #[.int .i64 n.places, vF, vI, vO, vK, vN, vC], .int .i64 y, vm, vr] w fun e w' => e = .returned (.bool true) ∧ Below w.heap.size w w' := by
  have hh := held_nb n y w vF vI vO vK vN vC false h (by simp [hn])
  clear h hn
  go_enter Try.func3, Try.ntmps3
  go_wp2_with (go_at_call 4; refine hh.mono ?_; rintro e w1 ⟨rfl, X⟩)
  go_ret
  exact ⟨rfl, X.out.below⟩

set_option maxRecDepth 100000 in
set_option maxHeartbeats 1000000 in
theorem places_more (h : NetV w.heap.size w n vF vI vO vK vN vC) (hn : Held n) (adm : Option Addr) (lm cm : Nat) (hm : 20 < lm) :
    Calls Try.prog 3 #[.agg #[.int .i64 n.places, vF, vI, vO, vK, vN, vC], .int .i64 y, .slice adm lm cm, vr] w fun e w' => e = .returned (.bool true) ∧ Below w.heap.size w w' := by
  have hh := held_nb n y w vF vI vO vK vN vC true h (by simp [hn])
  clear h hn
  go_enter Try.func3, Try.ntmps3
  go_wp2_with (go_at_call 4; refine hh.mono ?_; rintro e w1 ⟨rfl, X⟩)
  go_ret
  exact ⟨rfl, X.out.below⟩

set_option maxRecDepth 100000 in
set_option maxHeartbeats 1000000 in
theorem places_many (h : NetV w.heap.size w n vF vI vO vK vN vC) (hn : Held n) (adm : Option Addr) (lm cm : Nat) (hm : lm ≤ 20)
    (hf : ∀ w', Below w.heap.size w w' → Calls Try.prog 5 #[vr] w' fun e w2 => e = .returned (.bool false) ∧ w2 = w') :
    Calls Try.prog 3 #[.agg #[.int .i64 n.places, vF, vI, vO, vK, vN, vC], .int .i64 y, .slice adm lm cm, vr] w fun e w' => e = .returned (.bool true) ∧ Below w.heap.size w w' := by
  have hh := held_nb n y w vF vI vO vK vN vC true h (by simp [hn])
  have HF : Hid (∀ w', Below w.heap.size w w' → Calls Try.prog 5 #[vr] w' fun e w2 => e = .returned (.bool false) ∧ w2 = w') := hf
  clear h hn hf
  go_enter Try.func3, Try.ntmps3
  go_wp2_with (first
    | (go_at_call 4; refine hh.mono ?_; rintro e w1 ⟨rfl, X⟩; clear hh)
    | (go_at_call 5; refine (HF.out w1 X.out.below).mono ?_; rintro e w2 ⟨rfl, hw2⟩; obtain rfl := hw2.symm))
  go_ret
  exact ⟨rfl, X.out.below⟩

theorem coded_at {W : World} (X : NB w W n vF vI vO vK vN vC y) : Calls Try.prog 6 #[] W fun e w' => e = .returned (.bool true) ∧ Hid (NB w w' n vF vI vO vK vN vC y) :=
  (coded_any W).mono fun _ _ ⟨he, hb⟩ => ⟨he, X.next hb⟩

set_option maxRecDepth 100000 in
set_option maxHeartbeats 1000000 in
theorem places_bad (h : NetV w.heap.size w n vF vI vO vK vN vC) (hn : Held n) (adm : Option Addr) (lm cm : Nat) (hm : lm ≤ 20)
    (hf : ∀ w', Below w.heap.size w w' → Calls Try.prog 5 #[vr] w' fun e w2 => e = .returned (.bool true) ∧ w2 = w') (hw : (check n).1 ≠ 0) :
    Calls Try.prog 3 #[.agg #[.int .i64 n.places, vF, vI, vO, vK, vN, vC], .int .i64 y, .slice adm lm cm, vr] w fun e w' => e = .returned (.bool true) ∧ Below w.heap.size w w' := by
  have hh := held_nb n y w vF vI vO vK vN vC true h (by simp [hn])
  have HF : Hid (∀ w', Below w.heap.size w w' → Calls Try.prog 5 #[vr] w' fun e w2 => e = .returned (.bool true) ∧ w2 = w') := hf
  have HT : Hid (∀ w', Below w.heap.size w w' → Calls Try.prog 7 #[.agg #[.int .i64 n.places, vF, vI, vO, vK, vN, vC], vr] w' fun e w2 => e = .returned (.tuple #[.slice none 0 0, .bool false]) ∧ Hid (Below w'.heap.size w' w2)) := fun w' hb =>
    (tells_bad n w' vF vI vO vK vN vC vr ((h.below hb (Nat.le_refl _)).carry fun b hl _ => ⟨Nat.lt_of_lt_of_le hl hb.size, rfl⟩) hn.small hw).mono fun e w2 ⟨he, hb2⟩ => ⟨he, hb2⟩
  clear h hn hf hw
  go_enter Try.func3, Try.ntmps3
  go_wp2_with (first
    | (go_at_call 4; refine hh.mono ?_; rintro e w1 ⟨rfl, X⟩; clear hh)
    | (go_at_call 5; refine (HF.out w1 X.out.below).mono ?_; rintro e w2 ⟨rfl, hw2⟩; obtain rfl := hw2.symm)
    | (go_at_call 6; refine (coded_at n y w vF vI vO vK vN vC X.out).mono ?_; rintro e w3 ⟨rfl, X3⟩; obtain ⟨d0, d1, d2, d3, d4, d5, d6, b0⟩ := X3.out.cells)
    | (go_at_call 7; refine (HT.out w3 X3.out.below).mono ?_; rintro e w4 ⟨rfl, B4⟩))
  go_ret
  exact ⟨rfl, ball X3.out.below B4.out⟩
end

set_option maxRecDepth 100000 in
set_option maxHeartbeats 1000000 in
theorem places_none (n : Nt) (y : Int) (w : World) (vF vI vO vK vN vC vr : Value) (L : List Int) (h : NetV w.heap.size w n vF vI vO vK vN vC) (hn : Held n) (adm : Option Addr) (lm cm : Nat) (hm : lm ≤ 20)
    (hf : ∀ w', Below w.heap.size w w' → Calls Try.prog 5 #[vr] w' fun e w2 => e = .returned (.bool true) ∧ w2 = w') (h0 : n.places = 0)
    (ht : ∀ w', Below w.heap.size w w' → Calls Try.prog 7 #[.agg #[.int .i64 n.places, vF, vI, vO, vK, vN, vC], vr] w' fun e w2 => ∃ v, e = .returned (.tuple #[v, .bool true]) ∧ Hid (Ints (fun b => w'.heap.size ≤ b ∧ b < w2.heap.size) w2 v L ∧ Below w'.heap.size w' w2)) :
    Calls Try.prog 3 #[.agg #[.int .i64 n.places, vF, vI, vO, vK, vN, vC], .int .i64 y, .slice adm lm cm, vr] w fun e w' => e = .returned (.bool true) ∧ Below w.heap.size w w' := by
  have hh := held_nb n y w vF vI vO vK vN vC true h (by simp [hn])
  have HF : Hid (∀ w', Below w.heap.size w w' → Calls Try.prog 5 #[vr] w' fun e w2 => e = .returned (.bool true) ∧ w2 = w') := hf
  have HT : Hid (∀ w', Below w.heap.size w w' → Calls Try.prog 7 #[.agg #[.int .i64 n.places, vF, vI, vO, vK, vN, vC], vr] w' fun e w2 => ∃ v, e = .returned (.tuple #[v, .bool true]) ∧ Hid (Ints (fun b => w'.heap.size ≤ b ∧ b < w2.heap.size) w2 v L ∧ Below w'.heap.size w' w2)) := ht
  have hpb : (n.places == 0) = true := by simp [h0]
  have hpd : decide (n.places = 0) = true := by simp [h0]
  clear h hn hf ht h0
  go_enter Try.func3, Try.ntmps3
  go_wp2_with (first
    | (go_at_call 4; refine hh.mono ?_; rintro e w1 ⟨rfl, X⟩; clear hh)
    | (go_at_call 5; refine (HF.out w1 X.out.below).mono ?_; rintro e w2 ⟨rfl, hw2⟩; obtain rfl := hw2.symm)
    | (go_at_call 6; refine (coded_at n y w vF vI vO vK vN vC X.out).mono ?_; rintro e w3 ⟨rfl, X3⟩; obtain ⟨d0, d1, d2, d3, d4, d5, d6, b0⟩ := X3.out.cells)
    | (go_at_call 7; refine (HT.out w3 X3.out.below).mono ?_; rintro e w4 ⟨v4, rfl, B4⟩; have X4 : Hid (NB w w4 n vF vI vO vK vN vC y) := X3.out.next B4.out.2; clear d0 d1 d2 d3 d4 d5 d6 b0; obtain ⟨d0, d1, d2, d3, d4, d5, d6, b0⟩ := X4.out.cells))
  go_ret
  exact ⟨rfl, X4.out.below⟩
end Nx
end Go.Proofs.Ytanlfmhlohcmgaa
