/- NetForgets: the law's walk, where code may be. -/
import Derived.Test.YtmibilgoblifmaaDoorNf3
namespace Go.Proofs.YtmibilgoblifmaaDoor
open Go.RowKit
namespace Nx

section
variable (n : Nt) (w : World) (vF vI vK vN vC : Value)

theorem new_ok (vO : Value) (P : Int) (hP : n.places = P) (B : Nat) (w3 : World) (hv : NetV B w3 n vF vI vO vK vN vC) (hB : B ≤ w3.heap.size) (hs : Small n) (hfl : n.first.length ≤ 300) (hok : (check n).1 = 0) :
    Calls Tryd.prog 14 #[.agg #[.int .i64 P, vF, vI, vO, vK, vN, vC]] w3 fun e w' => ∃ bm, e = .returned (.tuple #[.pointer (some ⟨bm, 0, none⟩), .nilIface]) ∧ Hid (∃ g, IsM B w' bm g n n.first ∧ w3.heap.size ≤ bm ∧ w3.heap.size ≤ g ∧ Below w3.heap.size w3 w') := by
  subst hP
  exact (new_fine B n w3 vF vI vO vK vN vC hv hB hs (by omega) hok).mono fun e w' ⟨bm, g, he, hM, h1, h2, _, hb⟩ => ⟨bm, he, g, hM, h1, h2, hb⟩

set_option maxHeartbeats 4000000 in
theorem forgets_fine (adO : Option Addr) (capO : Nat) (h : NetV w.heap.size w n vF vI (.slice adO n.outs.length capO) vK vN vC) (hn : Held n) (za zb : List Int) (ad : Option Addr) (la ca : Nat) (ad' : Option Addr) (lb cb : Nat) (ha : Ints (· < w.heap.size) w (.slice ad la ca) za) (hb : Ints (· < w.heap.size) w (.slice ad' lb cb) zb) (hla : la ≤ 30) (hlb : lb ≤ 30) (hok : (check (bare n)).1 = 0) :
    Calls Tryd.prog 4 #[.agg #[.int .i64 n.places, vF, vI, .slice adO n.outs.length capO, vK, vN, vC], .slice ad la ca, .slice ad' lb cb] w fun e w' => e = .returned (.bool true) ∧ Below w.heap.size w w' := by
  have hh := held_box n w vF vI (.slice adO n.outs.length capO) vK vN vC h hn
  obtain ⟨Z, hZ⟩ : ∃ Z, Z = List.replicate n.first.length (0 : Int) := ⟨_, rfl⟩
  have HZ1 : Hid (after (bare n) n.first za = Z) := by unfold Hid; rw [hZ]; exact after_none _ _ _ rfl
  have HZ2 : Hid (∀ x, after (bare n) Z x = Z) := by intro x; rw [after_none _ _ _ rfl, hZ, List.length_replicate]
  have HFF : Hid (Few (bare n) n.first) := by
    have := hn.few (V := n.first) hn.2.1
    exact ⟨this.v, this.ins, this.outs, by simp [bare], this.code⟩
  have HFZ : Hid (Few (bare n) Z) := by
    have := HFF.out
    exact ⟨by rw [hZ, List.length_replicate]; exact this.v, this.ins, this.outs, this.keeps, this.code⟩
  have H : Hid (NetV w.heap.size w n vF vI (.slice adO n.outs.length capO) vK vN vC ∧ Small (bare n) ∧ (check (bare n)).1 = 0 ∧ n.first.length ≤ 300) := ⟨h, bare_small n hn, hok, hn.2.1⟩
  have HA : Hid (∀ w', Below w.heap.size w w' → Ints (· < w.heap.size) w' (.slice ad la ca) za ∧ Ints (· < w.heap.size) w' (.slice ad' lb cb) zb) := fun w' hx => ⟨ha.carry fun b hl _ => ⟨hl, hx.block b hl⟩, hb.carry fun b hl _ => ⟨hl, hx.block b hl⟩⟩
  have hol := hn.2.2.2.1
  have HO : Hid (n.outs.length ≤ 1000000) := by unfold Hid; omega
  clear h hn hok hZ ha hb hol
  go_enter Tryd.func4, Tryd.ntmps4
  go_wp2_with (first
    | (go_at_call 12; refine hh.mono ?_; rintro e w1 ⟨rfl, X1⟩; clear hh)
    | (go_at_call 13; refine (coded_any _).mono ?_; rintro e w2 ⟨rfl, hb2⟩
       obtain ⟨c4, f4, hrow3, hnet3, hb3⟩ := box_bare n w vF vI (.slice adO n.outs.length capO) vK vN vC w2 H.out.1 (ball X1.out hb2)
       obtain ⟨d0, d1, d2, d3, d4, d5, d6⟩ := Box.cells ⟨hrow3⟩
       have hnew := new_ok (bare n) vF vI (.slice none 0 0) vN vC (.slice adO n.outs.length capO) n.places rfl w.heap.size _ hnet3 hb3.size H.out.2.1 H.out.2.2.2 H.out.2.2.1
       have X3 : Hid (Box (w2.setCell ⟨w.heap.size, 4, none⟩ (.slice none 0 0)) w.heap.size n.places vF vI (.slice adO n.outs.length capO) (.slice none 0 0) vN vC ∧ NetV w.heap.size (w2.setCell ⟨w.heap.size, 4, none⟩ (.slice none 0 0)) (bare n) vF vI (.slice adO n.outs.length capO) (.slice none 0 0) vN vC ∧ Below w.heap.size w (w2.setCell ⟨w.heap.size, 4, none⟩ (.slice none 0 0))) := ⟨⟨hrow3⟩, hnet3, hb3⟩
       clear hrow3 hnet3 hb3 hb2)
    | (go_at_call 14; refine hnew.mono ?_; rintro e w4 ⟨b1, rfl, X4⟩
       obtain ⟨g1, X4⟩ : ∃ g1, Hid (IsM w.heap.size w4 b1 g1 (bare n) n.first ∧ (w2.setCell ⟨w.heap.size, 4, none⟩ (.slice none 0 0)).heap.size ≤ b1 ∧ (w2.setCell ⟨w.heap.size, 4, none⟩ (.slice none 0 0)).heap.size ≤ g1 ∧ Below (w2.setCell ⟨w.heap.size, 4, none⟩ (.slice none 0 0)).heap.size (w2.setCell ⟨w.heap.size, 4, none⟩ (.slice none 0 0)) w4) := X4.out
       obtain ⟨e0, e1, e2, e3, e4, e5, e6⟩ := (X3.out.1.below X4.out.2.2.2).cells
       have hnew2 := new_ok (bare n) vF vI (.slice none 0 0) vN vC (.slice adO n.outs.length capO) n.places rfl w.heap.size w4 (X3.out.2.1.below (X4.out.2.2.2.mono X3.out.2.2.size) (Nat.le_refl _)) (Nat.le_trans X3.out.2.2.size X4.out.2.2.2.size) H.out.2.1 H.out.2.2.2 H.out.2.2.1
       clear hnew d0 d1 d2 d3 d4 d5 d6 c4 f4)
    | (go_at_call 14; refine hnew2.mono ?_; rintro e w5 ⟨b2, rfl, X5⟩
       obtain ⟨g2, X5⟩ : ∃ g2, Hid (Two w.heap.size w.heap.size (.slice adO n.outs.length capO) (bare n) w5 b1 g1 b2 g2 n.first n.first ∧ Below w.heap.size w w5) := (by
         obtain ⟨g2, hM2, hb2, hg2, hB5⟩ := X5.out
         have k1 := X4.out.1.lt; have k2 := X4.out.1.gl; have k3 := lt_of_block X3.out.1.row; have k4 := X4.out.2.1; have k5 := X4.out.2.2.1
         exact ⟨g2, ⟨X4.out.1.fr (Fr.of_below hB5 []) (by simp) (by simp) (by simp), hM2, by omega, by omega, by omega, by omega, cell_below hB5 e3, Nat.le_refl _, by omega, by have := X4.out.2.2.2.size; omega⟩, ball (ball X3.out.2.2 X4.out.2.2.2) hB5⟩)
       have ht1 := tick_first _ _ _ _ _ _ _ _ _ _ za (.slice ad la ca) w5 X5.out.1 (HA.out w5 X5.out.2).1 HFF.out _ _ HZ1.out rfl n.outs.length (tells_len _ _ _)
       clear hnew2 e0 e1 e2 e3 e4 e5 e6)
    | (go_at_call 17; refine ht1.mono ?_; rintro e w6 ⟨r1, s1, rfl, Y⟩
       obtain ⟨g3, X6⟩ : ∃ g3, Hid (Two w.heap.size w.heap.size (.slice adO n.outs.length capO) (bare n) w6 b1 g3 b2 g2 Z n.first ∧ Res w6 b1 g3 b2 g2 (.slice r1 n.outs.length s1) (tells (bare n) n.first za) ∧ Below w.heap.size w w6) := (by
         obtain ⟨g3, y1, y2, _, y4⟩ := Y.out
         exact ⟨g3, y1, y2, X5.out.2.trans y4⟩)
       have ht2 := tick_second _ _ _ _ _ _ _ _ _ _ za (.slice ad la ca) w6 X6.out.1 (HA.out w6 X6.out.2.2).1 HFF.out _ _ HZ1.out rfl n.outs.length (tells_len _ _ _)
       clear ht1 Y X5)
    | (go_at_call 17; refine ht2.mono ?_; rintro e w7 ⟨r2, s2, rfl, Y⟩
       obtain ⟨g4, X7⟩ : ∃ g4, Hid (Two w.heap.size w.heap.size (.slice adO n.outs.length capO) (bare n) w7 b1 g3 b2 g4 Z Z ∧ Res w7 b1 g3 b2 g4 (.slice r1 n.outs.length s1) (tells (bare n) n.first za) ∧ Res w7 b1 g3 b2 g4 (.slice r2 n.outs.length s2) (tells (bare n) n.first za) ∧ Below w.heap.size w w7) := (by
         obtain ⟨g4, y1, y2, y3, y4⟩ := Y.out
         exact ⟨g4, y1, y3 _ _ X6.out.2.1, y2, X6.out.2.2.trans y4⟩)
       have hs1 := same_any _ _ _ w7 X7.out.2.1 X7.out.2.2.1 (by rw [tells_len]; exact HO.out)
       clear ht2 Y X6)
    | (go_at_call 16; refine hs1.mono ?_; rintro e w8 ⟨rfl, hb8⟩
       have X8 : Hid (Two w.heap.size w.heap.size (.slice adO n.outs.length capO) (bare n) w8 b1 g3 b2 g4 Z Z ∧ Below w.heap.size w w8) := ⟨X7.out.1.below hb8, ball X7.out.2.2.2 hb8⟩
       have ht3 := tick_first _ _ _ _ _ _ _ _ _ _ zb (.slice ad' lb cb) w8 X8.out.1 (HA.out w8 X8.out.2).2 HFZ.out _ _ (HZ2.out zb) rfl n.outs.length (tells_len _ _ _)
       clear hs1 hb8 X7)
    | (go_at_call 17; refine ht3.mono ?_; rintro e w9 ⟨r3, s3, rfl, Y⟩
       obtain ⟨g5, X9⟩ : ∃ g5, Hid (Two w.heap.size w.heap.size (.slice adO n.outs.length capO) (bare n) w9 b1 g5 b2 g4 Z Z ∧ Res w9 b1 g5 b2 g4 (.slice r3 n.outs.length s3) (tells (bare n) Z zb) ∧ Below w.heap.size w w9) := (by
         obtain ⟨g5, y1, y2, _, y4⟩ := Y.out
         exact ⟨g5, y1, y2, X8.out.2.trans y4⟩)
       clear ht3 Y X8))
  go_loopw [12] (fun i wr => ∃ k : Nat, k ≤ 3 ∧ i = .int .i64 k ∧ ∃ g, Two w.heap.size w.heap.size (.slice adO n.outs.length capO) (bare n) wr b1 g b2 g4 Z Z ∧ Res wr b1 g b2 g4 (.slice r3 n.outs.length s3) (tells (bare n) Z zb) ∧ Below w.heap.size w wr) (fun i _ => 3 - (intOf i).toNat)
  case atStart => exact ⟨0, by omega, rfl, g5, X9.out⟩
  case round =>
    clear X9
    obtain ⟨k, hk, rfl, g6, hX⟩ := hrel
    have X : Hid (Two w.heap.size w.heap.size (.slice adO n.outs.length capO) (bare n) wr b1 g6 b2 g4 Z Z ∧ Res wr b1 g6 b2 g4 (.slice r3 n.outs.length s3) (tells (bare n) Z zb) ∧ Below w.heap.size w wr) := hX
    clear hX
    by_cases hlt : k < 3
    · have ht4 := tick_first _ _ _ _ _ _ _ _ _ _ za (.slice ad la ca) wr X.out.1 (HA.out wr X.out.2.2).1 HFZ.out _ _ (HZ2.out za) rfl n.outs.length (tells_len _ _ _)
      go_wp2_with (go_at_call 17; refine ht4.mono ?_; rintro e w10 ⟨r4, s4, rfl, Y⟩)
      go_roundw
      case rel =>
        obtain ⟨g7, y1, _, y3, y4⟩ := Y.out
        exact ⟨k + 1, by omega, by go_num, g7, y1, y3 _ _ X.out.2.1, X.out.2.2.trans y4⟩
      case measure => simp [intOf]; omega
    · obtain rfl : k = 3 := by omega
      have ht5 := tick_first _ _ _ _ _ _ _ _ _ _ zb (.slice ad' lb cb) wr X.out.1 (HA.out wr X.out.2.2).2 HFZ.out _ _ (HZ2.out zb) rfl n.outs.length (tells_len _ _ _)
      go_wp2_with (first
        | (go_at_call 17; refine ht5.mono ?_; rintro e w11 ⟨r5, s5, rfl, Y⟩
           obtain ⟨g7, X11⟩ : ∃ g7, Hid (Two w.heap.size w.heap.size (.slice adO n.outs.length capO) (bare n) w11 b1 g7 b2 g4 Z Z ∧ Res w11 b1 g7 b2 g4 (.slice r3 n.outs.length s3) (tells (bare n) Z zb) ∧ Res w11 b1 g7 b2 g4 (.slice r5 n.outs.length s5) (tells (bare n) Z zb) ∧ Below w.heap.size w w11) := (by
             obtain ⟨g7, y1, y2, y3, y4⟩ := Y.out
             exact ⟨g7, y1, y3 _ _ X.out.2.1, y2, X.out.2.2.trans y4⟩)
           have hs2 := same_any _ _ _ w11 X11.out.2.2.1 X11.out.2.1 (by rw [tells_len]; exact HO.out)
           clear ht5 Y X)
        | (go_at_call 16; refine hs2.mono ?_; rintro e w12 ⟨rfl, hb12⟩
           have X12 : Hid (Two w.heap.size w.heap.size (.slice adO n.outs.length capO) (bare n) w12 b1 g7 b2 g4 Z Z ∧ Res w12 b1 g7 b2 g4 (.slice r3 n.outs.length s3) (tells (bare n) Z zb) ∧ Below w.heap.size w w12) := ⟨X11.out.1.below hb12, X11.out.2.1.below hb12, ball X11.out.2.2.2 hb12⟩
           have ht6 := tick_second _ _ _ _ _ _ _ _ _ _ zb (.slice ad' lb cb) w12 X12.out.1 (HA.out w12 X12.out.2.2).2 HFZ.out _ _ (HZ2.out zb) rfl n.outs.length (tells_len _ _ _)
           clear hs2 hb12 X11)
        | (go_at_call 17; refine ht6.mono ?_; rintro e w13 ⟨r6, s6, rfl, Y⟩
           obtain ⟨g8, X13⟩ : ∃ g8, Hid (Two w.heap.size w.heap.size (.slice adO n.outs.length capO) (bare n) w13 b1 g7 b2 g8 Z Z ∧ Res w13 b1 g7 b2 g8 (.slice r3 n.outs.length s3) (tells (bare n) Z zb) ∧ Res w13 b1 g7 b2 g8 (.slice r6 n.outs.length s6) (tells (bare n) Z zb) ∧ Below w.heap.size w w13) := (by
             obtain ⟨g8, y1, y2, y3, y4⟩ := Y.out
             exact ⟨g8, y1, y3 _ _ X12.out.2.1, y2, X12.out.2.2.trans y4⟩)
           have hs3 := same_any _ _ _ w13 X13.out.2.2.1 X13.out.2.1 (by rw [tells_len]; exact HO.out)
           clear ht6 Y X12)
        | (go_at_call 16; refine hs3.mono ?_; rintro e w14 ⟨rfl, hb14⟩
           have X14 : Hid (Below w.heap.size w w14) := ball X13.out.2.2.2 hb14
           have cq := (X13.out.1.below hb14).cq
           clear hs3 hb14 X13))
      go_ret
      exact ⟨rfl, X14.out⟩
end
end Nx
end Go.Proofs.YtmibilgoblifmaaDoor
