/- NetJudges: the law's walk. -/
import Derived.Test.YtmibilgoblifmaaDoorNr4
import Derived.Test.YtmibilgoblifmaaDoorNl
import Derived.Test.YtmibilgoblifmaaDoorNtB
import Derived.Test.YtmibilgoblifmaaDoorEs5
import Derived.Deep.RegionHeld3
namespace Go.Proofs.YtmibilgoblifmaaDoor
open Go.RowKit
namespace Nx

/-- the document's CheckNet, of whatever code is held -/
theorem cn_any (B : Nat) (n : Nt) (w : World) (vF vI vO vK vN vC : Value) (h : NetV B w n vF vI vO vK vN vC) (hcap : ∃ ad cap, vI = .slice ad n.ins.length cap ∧ n.ins.length ≤ cap) (hs : Small n) (hFine : w.cell? ⟨0, 0, none⟩ = some (.int .i64 0) ∧ w.cell? ⟨0, 1, none⟩ = some (.int .i64 (-1))) :
    Calls Tryd.prog 11 #[.agg #[.int .i64 n.places, vF, vI, vO, vK, vN, vC]] w fun e w' => e = .returned (.agg #[.int .i64 (check n).1, .int .i64 (check n).2]) ∧ Below w.heap.size w w' := by
  obtain ⟨adI, capI, rfl, hc⟩ := hcap
  have hI := h.i; have hO := h.o; have hK := h.k; have hC := h.c
  obtain ⟨adF, _, _, capF, rfl, -, -⟩ := h.f
  obtain ⟨adO, _, _, capO, rfl, -, -⟩ := h.o
  obtain ⟨adK, _, _, capK, rfl, -, -⟩ := h.k
  obtain ⟨adN, _, _, capN, rfl, -, -⟩ := h.m
  obtain ⟨adC, _, _, capC, rfl, -, -⟩ := h.c
  by_cases h0 : n.places < 0
  · have e : check n = (4, -1) := by
      have e : wholeE n = 4 := by unfold wholeE; rw [if_pos (.inl h0)]
      unfold check; rw [e]; rfl
    rw [e]; exact cn_low n w _ _ _ adI adO adK capI capO capK h0 hs.s
  · by_cases hf : (n.first.length : Int) = n.places
    · exact cn_main n w adF adI adO adK adN adC capF capI capO capK capN capC hs hc hFine (by omega) hf hI hO hK hC
    · rw [check_form hs (by omega) hf]; exact cn_form n w adF adI adO adK adN adC capF capI capO capK capN capC hs (by omega) hf

set_option maxHeartbeats 1000000 in
theorem judges_big (n : Nt) (w : World) (vF vI vO vK vN vC : Value) (h : NetV w.heap.size w n vF vI vO vK vN vC) (hn : ¬ Held n) :
    Calls Tryd.prog 3 #[.agg #[.int .i64 n.places, vF, vI, vO, vK, vN, vC]] w fun e w' => e = .returned (.bool true) ∧ Below w.heap.size w w' := by
  have hh : Calls Tryd.prog 5 #[.agg #[.int .i64 n.places, vF, vI, vO, vK, vN, vC]] (w.alloc (.cells #[.int .i64 n.places, vF, vI, vO, vK, vN, vC] 26)) fun e w' => e = .returned (.bool false) ∧ Hid (Below w.heap.size w w') :=
    (held_any w.heap.size n _ _ _ _ _ _ _ (h.below (grown_one w _) (Nat.le_refl _))).mono fun e w' ⟨b, he, hb, hw⟩ => by
      have : b = false := by cases b with
        | false => rfl
        | true => exact absurd (hb.1 rfl) hn
      exact ⟨by rw [he, this], ball (grown_one w _) hw⟩
  clear h hn
  go_enter Tryd.func3, Tryd.ntmps3
  go_wp2_with (go_at_call 5; refine hh.mono ?_; rintro e w1 ⟨rfl, X⟩)
  go_ret
  exact ⟨rfl, X.out⟩

/-- the box that holds the code, and what it leads to -/
structure JK (w W : World) (n : Nt) (vF vI vO vK vN vC : Value) : Prop where
  box : W.heap[w.heap.size]? = some (.cells #[.int .i64 n.places, vF, vI, vO, vK, vN, vC] 26 (0, 0))
  below : Below w.heap.size w W
theorem JK.next {w W W' : World} {n : Nt} {vF vI vO vK vN vC : Value} (h : JK w W n vF vI vO vK vN vC) (hb : Below W.heap.size W W') : JK w W' n vF vI vO vK vN vC :=
  ⟨by rw [hb.block _ (lt_of_block h.box)]; exact h.box, ball h.below hb⟩

theorem JK.cells {w W : World} {n : Nt} {vF vI vO vK vN vC : Value} (h : JK w W n vF vI vO vK vN vC) : W.cell? ⟨w.heap.size, 0, none⟩ = some (.int .i64 n.places) ∧ W.cell? ⟨w.heap.size, 1, none⟩ = some vF ∧ W.cell? ⟨w.heap.size, 2, none⟩ = some vI ∧ W.cell? ⟨w.heap.size, 3, none⟩ = some vO ∧ W.cell? ⟨w.heap.size, 4, none⟩ = some vK ∧ W.cell? ⟨w.heap.size, 5, none⟩ = some vN ∧ W.cell? ⟨w.heap.size, 6, none⟩ = some vC :=
  ⟨cell_row h.box 0, cell_row h.box 1, cell_row h.box 2, cell_row h.box 3, cell_row h.box 4, cell_row h.box 5, cell_row h.box 6⟩
theorem below_drew (w : World) : Below w.heap.size w w.drew := ⟨rfl, rfl, rfl, Nat.le_refl _, fun _ _ => rfl⟩

set_option maxHeartbeats 4000000 in
theorem judges_held (n : Nt) (w : World) (vF vI vO vK vN : Value) (adC : Option Addr) (capC : Nat) (h : NetV w.heap.size w n vF vI vO vK vN (.slice adC n.code.length capC)) (hcap : ∃ ad cap, vI = .slice ad n.ins.length cap ∧ n.ins.length ≤ cap) (hn : Held n) (hE : ErrType w) (hFine : w.cell? ⟨0, 0, none⟩ = some (.int .i64 0) ∧ w.cell? ⟨0, 1, none⟩ = some (.int .i64 (-1))) :
    Calls Tryd.prog 3 #[.agg #[.int .i64 n.places, vF, vI, vO, vK, vN, .slice adC n.code.length capC]] w fun e w' => e = .returned (.bool true) ∧ Below w.heap.size w w' := by
  have hh : Calls Tryd.prog 5 #[.agg #[.int .i64 n.places, vF, vI, vO, vK, vN, .slice adC n.code.length capC]] (w.alloc (.cells #[.int .i64 n.places, vF, vI, vO, vK, vN, .slice adC n.code.length capC] 26)) fun e w' => e = .returned (.bool true) ∧ Hid (JK w w' n vF vI vO vK vN (.slice adC n.code.length capC)) :=
    (held_any w.heap.size n _ _ _ _ _ _ _ (h.below (grown_one w _) (Nat.le_refl _))).mono fun e w' ⟨b, he, hb, hw⟩ => by
      have : b = true := hb.2 hn
      refine ⟨by rw [he, this], ⟨?_, ball (grown_one w _) hw⟩⟩
      rw [hw.block w.heap.size (by simp)]; exact heap_alloc_new w _
  obtain ⟨_, bC, offC, _, eC, pC, qC⟩ := id h.c
  cases eC
  have HC : Hid ((0 < n.code.length → adC = some ⟨bC, offC, none⟩ ∧ bC < w.heap.size) ∧ _) := ⟨pC, qC⟩
  have H : Hid (NetV w.heap.size w n vF vI vO vK vN (.slice adC n.code.length capC) ∧ Small n ∧ ErrType w) := ⟨h, hn.small, hE⟩
  have HCAP : Hid (∃ ad cap, vI = .slice ad n.ins.length cap ∧ n.ins.length ≤ cap) := hcap
  have HFI : Hid (w.cell? ⟨0, 0, none⟩ = some (.int .i64 0) ∧ w.cell? ⟨0, 1, none⟩ = some (.int .i64 (-1))) := hFine
  have hcl : n.code.length ≤ 120 := hn.2.2.2.2.2.2
  clear h hn hE pC qC hcap hFine
  go_enter Tryd.func3, Tryd.ntmps3
  go_wp2_with (go_at_call 5; refine hh.mono ?_; rintro e w1 ⟨rfl, X⟩; clear hh)
  go_loopw [3] (fun i wr => ∃ k : Nat, k ≤ n.code.length ∧ i = .int .i64 k ∧ JK w wr n vF vI vO vK vN (.slice adC n.code.length capC)) (fun i _ => n.code.length - (intOf i).toNat)
  case atStart => exact ⟨0, Nat.zero_le _, rfl, X.out⟩
  case round =>
    clear X
    obtain ⟨k, hk, rfl, hJ⟩ := hrel
    have J : Hid (JK w wr n vF vI vO vK vN (.slice adC n.code.length capC)) := hJ
    clear hJ
    obtain ⟨d0, d1, d2, d3, d4, d5, d6⟩ := J.out.cells
    by_cases hlt : k < n.code.length
    · have hix := ix24 adC bC offC n.code.length capC k hlt (fun h => (HC.out.1 h).1)
      obtain ⟨s, hsx⟩ : ∃ s, s = n.code.getD k sp0 := ⟨_, rfl⟩
      obtain ⟨x0, x1, x2, x3, x4⟩ := HC.out.2 k hlt
      rw [← hsx] at x0 x1 x2 x3 x4
      replace x0 := cell_below J.out.below x0; replace x1 := cell_below J.out.below x1; replace x2 := cell_below J.out.below x2; replace x3 := cell_below J.out.below x3; replace x4 := cell_below J.out.below x4
      clear hsx
      obtain ⟨code, dst, a, b, c⟩ := s
      simp only at x0 x1 x2 x3 x4
      clear d0 d1 d2 d3 d4 d5
      have hask := asks_any code dst a b c wr.drew
      have HN : Hid (∀ w2, Below wr.heap.size wr w2 → (w2.cell? ⟨w.heap.size, 6, none⟩ = some (.slice adC n.code.length capC) ∧ w2.cell? ⟨bC, offC + k * 5, none⟩ = some (.int .i64 code) ∧ w2.cell? ⟨bC, offC + k * 5 + 1, none⟩ = some (.int .i64 dst) ∧ w2.cell? ⟨bC, offC + k * 5 + 2, none⟩ = some (.int .i64 a) ∧ w2.cell? ⟨bC, offC + k * 5 + 3, none⟩ = some (.int .i64 b) ∧ w2.cell? ⟨bC, offC + k * 5 + 4, none⟩ = some (.int .i64 c))) := fun w' hb => ⟨cell_below hb d6, cell_below hb x0, cell_below hb x1, cell_below hb x2, cell_below hb x3, cell_below hb x4⟩
      go_wp2_with fail
      go_region_held3 (fun w' => w'.cell? ⟨w.heap.size, 6, none⟩ = some (.slice adC n.code.length capC) ∧ w'.cell? ⟨bC, offC + k * 5, none⟩ = some (.int .i64 code) ∧ w'.cell? ⟨bC, offC + k * 5 + 1, none⟩ = some (.int .i64 dst) ∧ w'.cell? ⟨bC, offC + k * 5 + 2, none⟩ = some (.int .i64 a) ∧ w'.cell? ⟨bC, offC + k * 5 + 3, none⟩ = some (.int .i64 b) ∧ w'.cell? ⟨bC, offC + k * 5 + 4, none⟩ = some (.int .i64 c)) (first | exact hS4 | exact hS3 | exact hS2 | go_keep)
        ((first | (go_at_call 7; refine hask.mono ?_; rintro e w2 ⟨v1, rfl, I1, hb2⟩; have B2 : Hid (Below wr.heap.size wr w2) := ball (below_drew wr) hb2; have hS2 := HN.out w2 B2.out; have K1 : Hid (Ints (fun b => wr.drew.heap.size ≤ b) w2 v1 (asks ⟨code, dst, a, b, c⟩)) := I1; have hask2 := refAsks_any code dst a b c w2; clear hask I1 hb2) | (go_at_call 8; refine hask2.mono ?_; rintro e w3 ⟨v2, rfl, I2, hb3⟩; have B3 : Hid (Below wr.heap.size wr w3) := ball B2.out hb3; have hS3 := HN.out w3 B3.out; have hsame := sameI_any v1 v2 _ w3 (K1.out.carry fun y hy hl => ⟨hy, hb3.block y hl⟩) I2 (by unfold asks; split <;> (try split) <;> (try split) <;> simp); clear hask2 hb3 I2) | (go_at_call 6; refine hsame.mono ?_; rintro e w4 ⟨rfl, hb4⟩; have B4 : Hid (Below wr.heap.size wr w4) := ball B3.out hb4; have hS4 := HN.out w4 B4.out; clear hsame hb4)))
      all_goals
        go_wp2_with fail
        go_roundw
        case rel => exact ⟨k + 1, by omega, by go_num, J.out.next B4.out⟩
        case measure => simp [intOf]; omega
    · have hck : Calls Tryd.prog 10 #[.agg #[.int .i64 n.places, vF, vI, vO, vK, vN, .slice adC n.code.length capC]] wr.drew fun e w2 => ∃ v, e = .returned v ∧ Hid (IsErr wr.heap.size w2 v (check n)) ∧ Hid (Below wr.heap.size wr w2) :=
        (check_any w.heap.size n wr.drew vF vI vO vK vN _ ((H.out.1.below J.out.below (Nat.le_refl _)).below ((below_drew wr).mono J.out.below.size) (Nat.le_refl _)) J.out.below.size H.out.2.1).mono fun e w2 ⟨v, he, hi, hb⟩ => ⟨v, he, hi, ball (below_drew wr) hb⟩
      have HN : Hid (∀ w2, Below wr.heap.size wr w2 → (w2.cell? ⟨w.heap.size, 0, none⟩ = some (.int .i64 n.places) ∧ w2.cell? ⟨w.heap.size, 1, none⟩ = some vF ∧ w2.cell? ⟨w.heap.size, 2, none⟩ = some vI ∧ w2.cell? ⟨w.heap.size, 3, none⟩ = some vO ∧ w2.cell? ⟨w.heap.size, 4, none⟩ = some vK ∧ w2.cell? ⟨w.heap.size, 5, none⟩ = some vN ∧ w2.cell? ⟨w.heap.size, 6, none⟩ = some (.slice adC n.code.length capC)) ∧ ErrType w2 ∧ Calls Tryd.prog 11 #[.agg #[.int .i64 n.places, vF, vI, vO, vK, vN, .slice adC n.code.length capC]] w2 fun e w3 => e = .returned (.agg #[.int .i64 (check n).1, .int .i64 (check n).2]) ∧ Below w2.heap.size w2 w3) := fun w' hb => by
        have hbw := ball J.out.below hb
        refine ⟨⟨cell_below hb d0, cell_below hb d1, cell_below hb d2, cell_below hb d3, cell_below hb d4, cell_below hb d5, cell_below hb d6⟩, ?_, cn_any w.heap.size n w' vF vI vO vK vN _ (H.out.1.below hbw (Nat.le_refl _)) HCAP.out H.out.2.1 ⟨cell_below hbw HFI.out.1, cell_below hbw HFI.out.2⟩⟩
        have := H.out.2.2
        unfold ErrType at *
        exact cell_below hbw this
      go_wp2_with fail
      go_region_held3 (fun w' => w'.cell? ⟨w.heap.size, 0, none⟩ = some (.int .i64 n.places) ∧ w'.cell? ⟨w.heap.size, 1, none⟩ = some vF ∧ w'.cell? ⟨w.heap.size, 2, none⟩ = some vI ∧ w'.cell? ⟨w.heap.size, 3, none⟩ = some vO ∧ w'.cell? ⟨w.heap.size, 4, none⟩ = some vK ∧ w'.cell? ⟨w.heap.size, 5, none⟩ = some vN ∧ w'.cell? ⟨w.heap.size, 6, none⟩ = some (.slice adC n.code.length capC)) (first | exact hS4 | exact hS3 | exact hS2 | go_keep)
        ((first | (go_at_call 10; refine hck.mono ?_; rintro e w2 ⟨v1, rfl, I1, B2⟩; obtain ⟨hS2, hE2, hcn⟩ := HN.out w2 B2.out; clear hck hE2) | (go_at_call 11; refine hcn.mono ?_; rintro e w3 ⟨rfl, hb3⟩; have B3 : Hid (Below wr.heap.size wr w3) := ball B2.out hb3; obtain ⟨hS3, hE3, _⟩ := HN.out w3 B3.out; have his := is_isErr hE3 (I1.out.keep (w' := w3) fun y _ hl => hb3.block y hl); clear hcn hb3 hE3) | (go_at_call 9; refine his.mono ?_; rintro e w4 ⟨rfl, hb4⟩; have B4 : Hid (Below wr.heap.size wr w4) := ball B3.out hb4; obtain ⟨hS4, _, _⟩ := HN.out w4 B4.out; clear his hb4)))
      all_goals
        go_wp2_with fail
        go_ret
        exact ⟨rfl, ball J.out.below B4.out⟩
end Nx
end Go.Proofs.YtmibilgoblifmaaDoor
