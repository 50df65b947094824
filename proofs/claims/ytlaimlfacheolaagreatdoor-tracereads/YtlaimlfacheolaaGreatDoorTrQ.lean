/- chapter 14: the document's PrintTicks. -/
import Derived.Test.YtlaimlfacheolaaGreatDoorTrP
namespace Go.Proofs.YtlaimlfacheolaaGreatDoor
open Go.RowKit
namespace Tq
open Nx (Ints lt_of_block)
/-- a row, with a blank ahead of each -/
def rowJ (l : List Int) : By := l.flatMap fun n => 32 :: Lib.itoa n
theorem rowJ_more {l : List Int} {j : Nat} (h : j < l.length) : rowJ (l.take (j + 1)) = rowJ (l.take j) ++ (32 :: Lib.itoa (l.getD j 0)) := by
  unfold rowJ
  rw [List.take_succ_eq_append_getElem h, List.flatMap_append, List.flatMap_singleton, List.getD_eq_getElem?_getD, List.getElem?_eq_getElem h]; rfl
theorem trim_row (l : List Int) : Lib.trimPrefix (rowJ l) [32] = rowK l := by
  unfold rowK
  cases l with
  | nil => rfl
  | cons x t => simp [rowJ, Lib.trimPrefix, Lib.hasPrefix, List.isPrefixOf]
theorem trim_any (x : By) (w : World) : Calls Tryz.prog 22 #[.string (st x), .string ⟨#[32]⟩] w fun e w' => e = .returned (.string (st (Lib.trimPrefix x [32]))) ∧ w' = w :=
  Tryz.strings_TrimPrefix (st x) ⟨#[32]⟩ w
set_option maxRecDepth 100000 in
set_option maxHeartbeats 8000000 in
theorem refPrint_any {rows : List (List Int)} {v : Value} {w : World} (hr : RowsI w v rows) (hg : GV w) (hN : ∀ k j, I64 ((rows.getD k []).getD j 0)) (hl : rows.length ≤ 1000) (hm : ∀ k, k < rows.length → (rows.getD k []).length ≤ 1000) :
    Calls Tryz.prog 9 #[v] w fun e w' => e = .returned (.string (st (printT rows))) ∧ Hid (Below w.heap.size w w') := by
  obtain ⟨aR, bR, oR, cR, rfl, hRa, hRc⟩ := hr
  obtain ⟨n, hn⟩ : ∃ n, n = rows.length := ⟨_, rfl⟩
  have HR : Hid ((0 < n → aR = some ⟨bR, oR, none⟩) ∧ (∀ k, k < n → ∃ u, w.cell? ⟨bR, oR + k, none⟩ = some u ∧ Ints (fun b => b < w.heap.size) w u (rows.getD k [])) ∧ n = rows.length ∧ (∀ k j, I64 ((rows.getD k []).getD j 0)) ∧ (∀ k, k < n → (rows.getD k []).length ≤ 1000) ∧ GV w) := ⟨by rw [hn]; exact hRa, by rw [hn]; exact hRc, hn, hN, by rw [hn]; exact hm, hg⟩
  have hPL := fun k (hk : k ≤ rows.length) => print_len hN hm k hk
  have HP : Hid (∀ k, k ≤ n → (printT (rows.take k)).length ≤ 22001 * k) := by rw [hn]; exact hPL
  rw [← hn] at hl ⊢
  clear hRa hRc hN hm hg hn hPL
  go_enter Tryz.func9, Tryz.ntmps9
  go_wp2_with fail
  go_loopw [3, 11] (fun sv i wr => ∃ k : Nat, k ≤ n ∧ i = .int .i64 k ∧ sv = .string (st (printT (rows.take k))) ∧ Hid (Below w.heap.size w wr)) (fun _ i _ => n - (intOf i).toNat)
  case atStart => exact ⟨0, Nat.zero_le _, rfl, rfl, Below.refl _ _⟩
  case round =>
    obtain ⟨k, hk, rfl, rfl, HK⟩ := hrel
    have hpl := HP.out k hk
    obtain ⟨pk, hpk⟩ : ∃ pk, pk = printT (rows.take k) := ⟨_, rfl⟩
    rw [← hpk] at hpl ⊢
    have HPK : Hid (pk = printT (rows.take k) ∧ pk.length ≤ 22001 * k) := ⟨hpk, hpl⟩
    obtain ⟨sk, hsk⟩ : ∃ sk, sk = st pk := ⟨_, rfl⟩
    have hszk : sk.size ≤ 30000000 := by rw [hsk, st_size]; omega
    have HSK : Hid (sk = st pk) := hsk
    rw [← hsk]
    clear hpl hpk hsk
    by_cases hlt : k < n
    · have hix := ixRow aR bR oR n cR k hlt HR.out.1
      obtain ⟨u, hu, hi⟩ := HR.out.2.1 k hlt
      obtain ⟨ai, bi, oi, ci, rfl, hi1, hi2⟩ := hi
      have cx : wr.cell? ⟨bR, oR + k, none⟩ = some (.slice ai (rows.getD k []).length ci) := ck_cell HK.out hu
      obtain ⟨row, hrow⟩ : ∃ row, row = rows.getD k [] := ⟨_, rfl⟩
      obtain ⟨m, hm⟩ : ∃ m, m = row.length := ⟨_, rfl⟩
      rw [← hrow, ← hm] at cx
      have hm1 : m ≤ 1000 := by rw [hm, hrow]; exact HR.out.2.2.2.2.1 k hlt
      have HI : Hid ((0 < m → ai = some ⟨bi, oi, none⟩) ∧ (∀ j, j < m → w.cell? ⟨bi, oi + j, none⟩ = some (.int .i64 (row.getD j 0))) ∧ m = row.length ∧ row = rows.getD k [] ∧ (∀ j, I64 (row.getD j 0))) := ⟨fun hp => (hi1 (by rw [← hrow, ← hm]; exact hp)).1, fun j hj => by rw [hrow]; exact hi2 j (by rw [← hrow, ← hm]; exact hj), hm, hrow, fun j => by rw [hrow]; exact HR.out.2.2.2.1 k j⟩
      clear hu hi1 hi2 hrow hm
      go_wp2_with fail
      go_loopw [6, 17] (fun tv i wq => ∃ j : Nat, j ≤ m ∧ i = .int .i64 j ∧ tv = .string (st (rowJ (row.take j))) ∧ Hid (Below w.heap.size w wq)) (fun _ i _ => m - (intOf i).toNat)
      case atStart => exact ⟨0, Nat.zero_le _, rfl, rfl, HK.out⟩
      case round =>
        obtain ⟨j, hj, rfl, rfl, HJ⟩ := hrel
        have hjl := row_len HI.out.2.2.2.2 j (by rw [← HI.out.2.2.1]; exact hj)
        obtain ⟨pj, hpj⟩ : ∃ pj, pj = rowJ (row.take j) := ⟨_, rfl⟩
        rw [show ((row.take j).flatMap fun n => 32 :: Lib.itoa n) = rowJ (row.take j) from rfl, ← hpj] at hjl
        rw [← hpj]
        have HPJ : Hid (pj = rowJ (row.take j)) := hpj
        clear hpj
        by_cases hjt : j < m
        · have hiy := ixNum ai bi oi m ci j hjt HI.out.1
          obtain ⟨x, hx⟩ : ∃ x, x = row.getD j 0 := ⟨_, rfl⟩
          have cy : wr.cell? ⟨bi, oi + j, none⟩ = some (.int .i64 x) := by rw [hx]; exact ck_cell HJ.out (HI.out.2.1 j hjt)
          have hx64 : I64 x := by rw [hx]; exact HI.out.2.2.2.2 j
          have hil := Lib.itoa_length_le x hx64.1 hx64.2
          have hgr : GV wr := HR.out.2.2.2.2.2.below HJ.out HR.out.2.2.2.2.2.big
          have HX : Hid (x = row.getD j 0 ∧ j < row.length) := ⟨hx, by rw [← HI.out.2.2.1]; exact hjt⟩
          have hfm := fmt_any hx64 hgr
          obtain ⟨sj, hsj⟩ : ∃ sj, sj = st pj := ⟨_, rfl⟩
          obtain ⟨sx, hsx⟩ : ∃ sx, sx = st (Lib.itoa x) := ⟨_, rfl⟩
          have hz1 : sj.size ≤ 30000 := by rw [hsj, st_size]; omega
          have hz2 : sx.size ≤ 21 := by rw [hsx, st_size]; exact hil
          have HS : Hid (sj = st pj ∧ sx = st (Lib.itoa x)) := ⟨hsj, hsx⟩
          rw [← hsx] at hfm
          rw [← hsj]
          clear hx hx64 hil hgr hsj hsx hjl hix cx
          go_wp2_with (go_at_call 20; refine hfm.mono ?_; rintro e w3 ⟨rfl, h3⟩; clear hfm)
          go_roundw
          case rel => exact ⟨j + 1, by omega, by go_num, by
            rw [rowJ_more HX.out.2, ← HX.out.1, ← HPJ.out, HS.out.1, HS.out.2]
            rw [show (⟨#[32]⟩ : ByteArray) = st [32] from rfl, st_app, st_app]
            rfl, ck_all HJ.out h3.out⟩
          case measure => simp [intOf]; omega
        · obtain rfl : j = m := by omega
          have htr := trim_any pj wr
          have htp : Lib.trimPrefix pj [32] = rowK row := by rw [HPJ.out, HI.out.2.2.1, List.take_length]; exact trim_row row
          rw [htp] at htr
          have hrl := rowK_len HI.out.2.2.2.2 (Nat.le_refl row.length)
          rw [List.take_length, ← HI.out.2.2.1] at hrl
          obtain ⟨sj, hsj⟩ : ∃ sj, sj = st pj := ⟨_, rfl⟩
          obtain ⟨sr, hsr⟩ : ∃ sr, sr = st (rowK row) := ⟨_, rfl⟩
          have hz1 : sr.size ≤ 30000 := by rw [hsr, st_size]; omega
          have HS : Hid (sr = st (rowK row)) := hsr
          rw [← hsj, ← hsr] at htr
          rw [← hsj]
          clear htp hrl hsj hsr hjl hix cx
          go_wp2_with (go_at_call 22; refine htr.mono ?_; rintro e w3 ⟨rfl, rfl⟩; clear htr)
          go_roundw
          case rel => exact ⟨k + 1, by omega, by go_num, by
            rw [print_more (by rw [← HR.out.2.2.1]; exact hlt), ← HI.out.2.2.2.1, ← HPK.out.1, HSK.out, HS.out]
            rw [show (⟨#[10]⟩ : ByteArray) = st [10] from rfl, st_app, st_app], HJ.out⟩
          case measure => simp [intOf]; omega
    · obtain rfl : k = n := by omega
      go_wp2_with fail
      go_ret
      refine ⟨?_, HK.out⟩
      rw [HSK.out, HPK.out.1, HR.out.2.2.1, List.take_length]
      rfl
end Tq
end Go.Proofs.YtlaimlfacheolaaGreatDoor
