/- chapter 14: the program's Print. -/
import Derived.Test.YtlaimlfacheolaaGreatDoorTrP0
namespace Go.Proofs.YtlaimlfacheolaaGreatDoor
open Go.RowKit
namespace Tq
open Nx (Ints lt_of_block)
/-- a builder at b that holds these bytes -/
def Bld (w : World) (b : Nat) (l : By) : Prop := Lib.IsBuilderF 55 5 b b (Lib.byteCells l) w
theorem ws_any (b : Nat) (l : By) (x : ByteArray) (w : World) (h : Bld w b l) (hu : l.length + x.size ≤ 100000000) (hb : b ≤ w.heap.size) :
    Calls Tryz.prog 19 #[.pointer (some ⟨b, 0, none⟩), .string x] w fun e w' => e = .returned (.tuple #[.int .i64 x.size, .nilIface]) ∧ Hid (Bld w' b (l ++ x.data.toList) ∧ Below b w w') := by
  refine (Tryz.Builder_WriteString_k b b _ x w h (by rw [Lib.byteCells_length]; omega) hb).mono ?_
  rintro e w' ⟨rfl, h1, h2, h3⟩
  refine ⟨rfl, ?_, h2⟩
  unfold Bld
  rw [Lib.byteCells_append, ← Lib.strCells_eq]
  exact .inr h1
theorem wr_any (b : Nat) (l : By) (w : World) (h : Bld w b l) (hu : l.length ≤ 100000000) (hb : b ≤ w.heap.size) :
    Calls Tryz.prog 18 #[.pointer (some ⟨b, 0, none⟩), .int .i32 32] w fun e w' => e = .returned (.tuple #[.int .i64 1, .nilIface]) ∧ Hid (Bld w' b (l ++ [32]) ∧ Below b w w') := by
  refine (Tryz.Builder_WriteRune_k b b _ 32 (by omega) (by omega) w h (by rw [Lib.byteCells_length]; omega) hb).mono ?_
  rintro e w' ⟨rfl, h1, h2, h3⟩
  have e1 : Lib.runeCells 32 = Lib.byteCells [32] := by simp [Lib.runeCells, Lib.encodeRuneZ_one, Lib.byteCells]
  rw [e1] at h1
  refine ⟨by rw [e1]; rfl, ?_, h2⟩
  unfold Bld
  rw [Lib.byteCells_append]
  exact .inr h1
theorem bs_any (b : Nat) (l : By) (w : World) (h : Bld w b l) (hb : b ≤ w.heap.size) :
    Calls Tryz.prog 21 #[.pointer (some ⟨b, 0, none⟩)] w fun e w' => e = .returned (.string (st l)) ∧ Hid (Below b w w') :=
  (Tryz.Builder_String_any_k b b l w h hb).mono fun _ _ ⟨he, _, h2, _⟩ => ⟨he, h2⟩
theorem bld_new (w : World) : Bld (w.alloc (.cells #[.pointer none, .slice none 0 0] 55)) w.heap.size [] :=
  .inl ⟨Nat.le_refl _, .slice none 0 0, heap_alloc_new _ _, World.ownsRowF_nil _ _ _ _, by simp [Value.ownBlock]⟩
/-- what leaves the builder and all bytes alone -/
theorem Bld.below {w w' : World} {b : Nat} {l : By} (h : Bld w b l) (k : Below w.heap.size w w') : Bld w' b l := by
  have key : ∀ p, Lib.BuilderAtF 55 5 b b p (Lib.byteCells l) w → Lib.BuilderAtF 55 5 b b p (Lib.byteCells l) w' := by
    rintro p ⟨hB, v, hv, hown, hne⟩
    refine ⟨hB, v, by rw [k.block b (lt_of_block hv)]; exact hv, ⟨hown.1, ?_⟩, hne⟩
    rcases hown.2 with hn | ⟨g, cap, cur, fz, rfl, hbg, hg, rest⟩
    · exact .inl hn
    · exact .inr ⟨g, cap, cur, fz, rfl, hbg, by rw [k.block g (lt_of_block hg)]; exact hg, rest⟩
  exact h.imp (key _) (key _)
set_option maxRecDepth 100000 in
set_option maxHeartbeats 8000000 in
theorem print_any {rows : List (List Int)} {v : Value} {w : World} (hr : RowsI w v rows) (hg : GV w) (hN : ∀ k j, I64 ((rows.getD k []).getD j 0)) (hl : rows.length ≤ 1000) (hm : ∀ k, k < rows.length → (rows.getD k []).length ≤ 1000) :
    Calls Tryz.prog 8 #[v] w fun e w' => e = .returned (.string (st (printT rows))) ∧ Hid (Below w.heap.size w w') := by
  obtain ⟨aR, bR, oR, cR, rfl, hRa, hRc⟩ := hr
  obtain ⟨n, hn⟩ : ∃ n, n = rows.length := ⟨_, rfl⟩
  obtain ⟨b, hb⟩ : ∃ b, b = w.heap.size := ⟨_, rfl⟩
  obtain ⟨U, hU⟩ : ∃ U, U = w.alloc (.cells #[.pointer none, .slice none 0 0] 55) := ⟨_, rfl⟩
  have HR : Hid ((0 < n → aR = some ⟨bR, oR, none⟩) ∧ (∀ k, k < n → ∃ u, w.cell? ⟨bR, oR + k, none⟩ = some u ∧ Ints (fun b => b < w.heap.size) w u (rows.getD k [])) ∧ n = rows.length ∧ (∀ k j, I64 ((rows.getD k []).getD j 0)) ∧ (∀ k, k < n → (rows.getD k []).length ≤ 1000) ∧ GV w) := ⟨by rw [hn]; exact hRa, by rw [hn]; exact hRc, hn, hN, by rw [hn]; exact hm, hg⟩
  have HB : Hid (Bld U b [] ∧ Below b w U ∧ b = w.heap.size) := ⟨by rw [hU, hb]; exact bld_new w, by rw [hU, hb]; exact ck_grown w _, hb⟩
  have hPL := fun k (hk : k ≤ rows.length) => print_len hN hm k hk
  have HP : Hid (∀ k, k ≤ n → (printT (rows.take k)).length ≤ 22001 * k) := by rw [hn]; exact hPL
  rw [← hn] at hl ⊢
  clear hRa hRc hN hm hg hn hPL
  go_enter Tryz.func8, Tryz.ntmps8
  go_upto_region 2 with fail
  rw [← hU, ← hb]
  clear hU hb
  go_wp2_with fail
  go_loopw [10] (fun i wr => ∃ k : Nat, k ≤ n ∧ i = .int .i64 k ∧ Hid (Bld wr b (printT (rows.take k)) ∧ Below b w wr)) (fun i _ => n - (intOf i).toNat)
  case atStart => exact ⟨0, Nat.zero_le _, rfl, HB.out.1, HB.out.2.1⟩
  case round =>
    obtain ⟨k, hk, rfl, HK⟩ := hrel
    by_cases hlt : k < n
    · have hix := ixRow aR bR oR n cR k hlt HR.out.1
      obtain ⟨u, hu, hi⟩ := HR.out.2.1 k hlt
      obtain ⟨ai, bi, oi, ci, rfl, hi1, hi2⟩ := hi
      have cx : wr.cell? ⟨bR, oR + k, none⟩ = some (.slice ai (rows.getD k []).length ci) := by
        have h := HK.out.2
        rw [HB.out.2.2] at h
        exact ck_cell h hu
      obtain ⟨row, hrow⟩ : ∃ row, row = rows.getD k [] := ⟨_, rfl⟩
      obtain ⟨m, hm⟩ : ∃ m, m = row.length := ⟨_, rfl⟩
      rw [← hrow, ← hm] at cx
      have hm1 : m ≤ 1000 := by rw [hm, hrow]; exact HR.out.2.2.2.2.1 k hlt
      have HI : Hid ((0 < m → ai = some ⟨bi, oi, none⟩) ∧ (∀ j, j < m → w.cell? ⟨bi, oi + j, none⟩ = some (.int .i64 (row.getD j 0))) ∧ m = row.length ∧ row = rows.getD k [] ∧ (∀ j, I64 (row.getD j 0)) ∧ (printT (rows.take k)).length ≤ 22001 * k) := ⟨fun hp => (hi1 (by rw [← hrow, ← hm]; exact hp)).1, fun j hj => by rw [hrow]; exact hi2 j (by rw [← hrow, ← hm]; exact hj), hm, hrow, fun j => by rw [hrow]; exact HR.out.2.2.2.1 k j, HP.out k hk⟩
      clear hu hi1 hi2 hrow hm
      go_wp2_with fail
      go_loopw [16] (fun i wq => ∃ j : Nat, j ≤ m ∧ i = .int .i64 j ∧ Hid (Bld wq b (printT (rows.take k) ++ rowK (row.take j)) ∧ Below b w wq)) (fun i _ => m - (intOf i).toNat)
      case atStart => exact ⟨0, Nat.zero_le _, rfl, by rw [show row.take 0 = [] from rfl, show rowK [] = [] from rfl, List.append_nil]; exact HK.out.1, HK.out.2⟩
      case round =>
        obtain ⟨j, hj, rfl, HJ⟩ := hrel
        have hbw : b ≤ wr.heap.size := by have := HB.out.2.2; have := HJ.out.2.size; omega
        by_cases hjt : j < m
        · have hiy := ixNum ai bi oi m ci j hjt HI.out.1
          obtain ⟨x, hx⟩ : ∃ x, x = row.getD j 0 := ⟨_, rfl⟩
          have cy : wr.cell? ⟨bi, oi + j, none⟩ = some (.int .i64 x) := by
            have h := HJ.out.2
            rw [HB.out.2.2] at h
            rw [hx]; exact ck_cell h (HI.out.2.1 j hjt)
          have hx64 : I64 x := by rw [hx]; exact HI.out.2.2.2.2.1 j
          have hlen : (printT (rows.take k) ++ rowK (row.take j)).length ≤ 22001 * k + 22 * j := by
            rw [List.length_append]
            have := HI.out.2.2.2.2.2
            have := rowK_len HI.out.2.2.2.2.1 (j := j) (by rw [← HI.out.2.2.1]; exact hj)
            omega
          have hil := Lib.itoa_length_le x hx64.1 hx64.2
          have hgr : GV wr := HR.out.2.2.2.2.2.below HJ.out.2 (by rw [HB.out.2.2]; exact HR.out.2.2.2.2.2.big)
          obtain ⟨pk, hpk⟩ : ∃ pk, pk = printT (rows.take k) ++ rowK (row.take j) := ⟨_, rfl⟩
          rw [← hpk] at hlen
          have HX : Hid (x = row.getD j 0 ∧ j < row.length ∧ I64 x ∧ (Lib.itoa x).length ≤ 21 ∧ pk.length ≤ 22001 * k + 22 * j ∧ GV wr ∧ pk = printT (rows.take k) ++ rowK (row.take j) ∧ Bld wr b pk) := ⟨hx, by rw [← HI.out.2.2.1]; exact hjt, hx64, hil, hlen, hgr, hpk, by rw [hpk]; exact HJ.out.1⟩
          have hbound : 22001 * k + 22 * j ≤ 50000000 := by omega
          clear hx hx64 hil hlen hgr hpk hix cx
          by_cases hj0 : j = 0
          · have hj0' : ¬ (0 : Int) < (j : Int) := by omega
            have HJ0 : Hid (j = 0) := hj0
            clear hj0
            have hfm := fmt_any HX.out.2.2.1 HX.out.2.2.2.2.2.1
            go_wp2_with (first
              | (go_at_call 20; refine hfm.mono ?_; rintro e w3 ⟨rfl, h3⟩; clear hfm
                 have hws := ws_any b pk (st (Lib.itoa x)) w3 (HX.out.2.2.2.2.2.2.2.below h3.out) (by rw [st_size]; have := HX.out; omega) (Nat.le_trans hbw h3.out.size))
              | (go_at_call 19; refine hws.mono ?_; rintro e w4 ⟨rfl, h4⟩; clear hws))
            go_roundw
            case rel => exact ⟨j + 1, by omega, by go_num, by
              have h := h4.out.1
              have hx := HX.out.1
              have hl := HX.out.2.1
              rw [HX.out.2.2.2.2.2.2.1] at h
              rw [HJ0.out] at h hx hl ⊢
              rw [row_first hl, ← hx]
              simpa [rowK] using h, HJ.out.2.trans ((h3.out.mono hbw).trans h4.out.2)⟩
            case measure => simp [intOf]; omega
          · have hj0' : (0 : Int) < (j : Int) := by omega
            have HJ0 : Hid (0 < j) := by show 0 < j; omega
            clear hj0
            have hwr := wr_any b pk wr HX.out.2.2.2.2.2.2.2 (by have := HX.out; omega) hbw
            go_wp2_with (first
              | (go_at_call 18; refine hwr.mono ?_; rintro e w2 ⟨rfl, h2⟩; clear hwr
                 have hfm := fmt_any (w := w2) HX.out.2.2.1 (HX.out.2.2.2.2.2.1.below h2.out.2 (by rw [HB.out.2.2]; exact HR.out.2.2.2.2.2.big)))
              | (go_at_call 20; refine hfm.mono ?_; rintro e w3 ⟨rfl, h3⟩; clear hfm
                 have hws := ws_any b (pk ++ [32]) (st (Lib.itoa x)) w3 (h2.out.1.below h3.out) (by rw [st_size, List.length_append, List.length_singleton]; have := HX.out; omega) (Nat.le_trans hbw (Nat.le_trans h2.out.2.size h3.out.size)))
              | (go_at_call 19; refine hws.mono ?_; rintro e w4 ⟨rfl, h4⟩; clear hws))
            go_roundw
            case rel => exact ⟨j + 1, by omega, by go_num, by
              rw [row_more HX.out.2.1 HJ0.out, ← HX.out.1]
              have := h4.out.1
              rw [HX.out.2.2.2.2.2.2.1] at this
              simpa [List.append_assoc] using this, HJ.out.2.trans (h2.out.2.trans ((h3.out.mono (Nat.le_trans hbw h2.out.2.size)).trans h4.out.2))⟩
            case measure => simp [intOf]; omega
        · obtain rfl : j = m := by omega
          have hlen : (printT (rows.take k) ++ rowK (row.take j)).length ≤ 22001 * k + 22 * j := by
            rw [List.length_append]
            have := HI.out.2.2.2.2.2
            have := rowK_len HI.out.2.2.2.2.1 (j := j) (by rw [← HI.out.2.2.1]; exact hj)
            omega
          have hws := ws_any b _ ⟨#[10]⟩ wr HJ.out.1 (by have : (⟨#[10]⟩ : ByteArray).size = 1 := rfl; rw [this]; omega) hbw
          clear hlen hix cx
          go_wp2_with (go_at_call 19; refine hws.mono ?_; rintro e w4 ⟨rfl, h4⟩; clear hws)
          go_roundw
          case rel => exact ⟨k + 1, by omega, by go_num, by
            rw [print_more (by rw [← HR.out.2.2.1]; exact hlt), ← HI.out.2.2.2.1]
            have := h4.out.1
            rw [HI.out.2.2.1, List.take_length] at this
            simpa [List.append_assoc] using this, HJ.out.2.trans h4.out.2⟩
          case measure => simp [intOf]; omega
    · obtain rfl : k = n := by omega
      have hbs := bs_any b _ wr HK.out.1 (by have := HB.out.2.2; have := HK.out.2.size; omega)
      rw [HR.out.2.2.1, List.take_length] at hbs
      go_wp2_with (go_at_call 21; refine hbs.mono ?_; rintro e w4 ⟨rfl, h4⟩; clear hbs)
      go_ret
      refine ⟨rfl, ?_⟩
      have := HK.out.2.trans h4.out
      rw [HB.out.2.2] at this
      exact this
end Tq
end Go.Proofs.YtlaimlfacheolaaGreatDoor
