/- NetForgets: the law's walk, where code may not be. -/
import Derived.Test.YtmibilgoblifmaaDoorNf2
namespace Go.Proofs.YtmibilgoblifmaaDoor
open Go.RowKit
namespace Nx

theorem errBelow {w w' : World} (h : ErrType w) (hb : Below w.heap.size w w') : ErrType w' := by
  unfold ErrType at *; exact cell_below hb h

/-- the box's seven cells -/
structure Box (w : World) (q : Nat) (P : Int) (vF vI vO vK vN vC : Value) : Prop where
  row : w.heap[q]? = some (.cells #[.int .i64 P, vF, vI, vO, vK, vN, vC] 26 (0, 0))
theorem Box.cells {w : World} {q : Nat} {P : Int} {vF vI vO vK vN vC : Value} (h : Box w q P vF vI vO vK vN vC) :
    w.cell? ⟨q, 0, none⟩ = some (.int .i64 P) ∧ w.cell? ⟨q, 1, none⟩ = some vF ∧ w.cell? ⟨q, 2, none⟩ = some vI ∧ w.cell? ⟨q, 3, none⟩ = some vO ∧ w.cell? ⟨q, 4, none⟩ = some vK ∧ w.cell? ⟨q, 5, none⟩ = some vN ∧ w.cell? ⟨q, 6, none⟩ = some vC :=
  ⟨cell_row h.row 0, cell_row h.row 1, cell_row h.row 2, cell_row h.row 3, cell_row h.row 4, cell_row h.row 5, cell_row h.row 6⟩
theorem Box.below {w w' : World} {q : Nat} {P : Int} {vF vI vO vK vN vC : Value} (h : Box w q P vF vI vO vK vN vC) (hb : Below w.heap.size w w') : Box w' q P vF vI vO vK vN vC :=
  ⟨by rw [hb.block q (lt_of_block h.row)]; exact h.row⟩

section
variable (n : Nt) (w : World) (vF vI vO vK vN vC : Value)

theorem new_err (P : Int) (hP : n.places = P) (B : Nat) (w3 : World) (hv : NetV B w3 n vF vI vO vK vN vC) (hB : B ≤ w3.heap.size) (hs : Small n) (hbad : (check n).1 ≠ 0) :
    Calls Tryd.prog 14 #[.agg #[.int .i64 P, vF, vI, vO, vK, vN, vC]] w3 fun e w' => ∃ T u, e = .returned (.tuple #[.pointer none, .iface T u]) ∧ Hid (IsErr w3.heap.size w' (.iface T u) (check n)) ∧ Hid (Below w3.heap.size w3 w') := by
  subst hP
  refine (new_bad B n w3 vF vI vO vK vN vC hv hB hs hbad).mono fun e w' ⟨v, he, hi, hb⟩ => ?_
  rcases hi.nil_iff with ⟨h0, _⟩ | ⟨_, T, u, rfl⟩
  · exact absurd h0 hbad
  · exact ⟨T, u, he, hi, hb⟩

set_option maxHeartbeats 2000000 in
theorem forgets_bad (h : NetV w.heap.size w n vF vI vO vK vN vC) (hn : Held n) (hE : ErrType w) (ad : Option Addr) (la ca : Nat) (ad' : Option Addr) (lb cb : Nat) (hla : la ≤ 30) (hlb : lb ≤ 30) (hbad : (check (bare n)).1 ≠ 0) :
    Calls Tryd.prog 4 #[.agg #[.int .i64 n.places, vF, vI, vO, vK, vN, vC], .slice ad la ca, .slice ad' lb cb] w fun e w' => e = .returned (.bool true) ∧ Below w.heap.size w w' := by
  have hh := held_box n w vF vI vO vK vN vC h hn
  have H : Hid (NetV w.heap.size w n vF vI vO vK vN vC ∧ Small (bare n) ∧ (check (bare n)).1 ≠ 0 ∧ ErrType w) := ⟨h, bare_small n hn, hbad, hE⟩
  clear h hn hbad hE
  go_enter Tryd.func4, Tryd.ntmps4
  go_wp2_with (first
    | (go_at_call 12; refine hh.mono ?_; rintro e w1 ⟨rfl, X1⟩; clear hh)
    | (go_at_call 13; refine (coded_any _).mono ?_; rintro e w2 ⟨rfl, hb2⟩
       obtain ⟨c4, f4, hrow3, hnet3, hb3⟩ := box_bare n w vF vI vO vK vN vC w2 H.out.1 (ball X1.out hb2)
       obtain ⟨d0, d1, d2, d3, d4, d5, d6⟩ := Box.cells ⟨hrow3⟩
       have hnew := new_err (bare n) vF vI vO (.slice none 0 0) vN vC n.places rfl w.heap.size _ hnet3 hb3.size H.out.2.1 H.out.2.2.1
       have X3 : Hid (Box (w2.setCell ⟨w.heap.size, 4, none⟩ (.slice none 0 0)) w.heap.size n.places vF vI vO (.slice none 0 0) vN vC ∧ NetV w.heap.size (w2.setCell ⟨w.heap.size, 4, none⟩ (.slice none 0 0)) (bare n) vF vI vO (.slice none 0 0) vN vC ∧ Below w.heap.size w (w2.setCell ⟨w.heap.size, 4, none⟩ (.slice none 0 0))) := ⟨⟨hrow3⟩, hnet3, hb3⟩
       clear hrow3 hnet3 hb3 hb2)
    | (go_at_call 14; refine hnew.mono ?_; rintro e w4 ⟨T, u, rfl, I4, B4⟩
       obtain ⟨e0, e1, e2, e3, e4, e5, e6⟩ := (X3.out.1.below B4.out).cells
       have hnew2 := new_err (bare n) vF vI vO (.slice none 0 0) vN vC n.places rfl w.heap.size w4 (X3.out.2.1.below (B4.out.mono X3.out.2.2.size) (Nat.le_refl _)) (Nat.le_trans X3.out.2.2.size B4.out.size) H.out.2.1 H.out.2.2.1
       clear hnew d0 d1 d2 d3 d4 d5 d6 c4 f4)
    | (go_at_call 14; refine hnew2.mono ?_; rintro e w5 ⟨T', u', rfl, I5, B5⟩
       have hb5 : Below w.heap.size w w5 := ball (ball X3.out.2.2 B4.out) B5.out
       have X5 : Hid (Below w.heap.size w w5) := hb5
       have ht1 := tell_isErr (errBelow H.out.2.2.2 hb5) (I4.out.keep (w' := w5) fun b _ hl => B5.out.block b hl)
       clear hnew2 hb5 e0 e1 e2 e3 e4 e5 e6)
    | (go_at_call 15; refine ht1.mono ?_; rintro e w6 ⟨rfl, hb6⟩
       have X6 : Hid (Below w.heap.size w w6) := ball X5.out hb6
       have ht2 := tell_isErr (errBelow H.out.2.2.2 X6.out) (I5.out.keep (w' := w6) fun b _ hl => hb6.block b hl)
       clear ht1 hb6)
    | (go_at_call 15; refine ht2.mono ?_; rintro e w7 ⟨rfl, hb7⟩
       have X7 : Hid (Below w.heap.size w w7) := ball X6.out hb7
       clear ht2 hb7))
  go_ret
  exact ⟨rfl, X7.out⟩
end
end Nx
end Go.Proofs.YtmibilgoblifmaaDoor
