/- The document's (*Machine).Tick. -/
import Derived.Test.YtgjhfmkilpmfnaaGreatDoorJNr2
import Derived.Deep.RegionHeld3
import Derived.Deep.QuietTactic
import Derived.Test.YtgjhfmkilpmfnaaGreatDoorJNt8b
namespace Go.Proofs.YtgjhfmkilpmfnaaGreatDoor
open Go.RowKit Go.Maps
namespace Nx

set_option maxRecDepth 100000 in
set_option maxHeartbeats 4000000 in
theorem tickR_any (B : Nat) (n : Nt) (V ins : List Int) (bm g : Nat) (vi : Value) (w : World) (hM : IsR B w bm g 100000 n V) (hi : Ints (· < B) w vi ins) (hf : Few n V) (hfine : Fine n V.length) (hins : ∀ k, F64 (ins.getD k 0)) (hwm : g < w.heap.size) :
    Calls Tryz.prog 12 #[.pointer (some ⟨bm, 0, none⟩), vi] w fun e w' => ∃ v g', e = .returned v ∧ IsR B w' bm g' 100000 n (after n V ins) ∧ Ints (fun b => w.heap.size ≤ b ∧ b < g') w' v (tells n V ins) ∧ Fr w.heap.size [bm, g] w w' ∧ w.heap.size ≤ g' ∧ g' < w'.heap.size := by
  obtain ⟨⟨vF, vI, vO, vK, vN, vC, hm, hI, hO, hK, hN, hC, hp⟩, hbm, hgB, hgm⟩ := hM
  have hbl := lt_of_block hm
  obtain ⟨adI, bI, offI, capI, rfl, hI1, hI2⟩ := id hI
  obtain ⟨adO, bO, offO, capO, rfl, hO1, hO2⟩ := id hO
  obtain ⟨adK, bK, offK, capK, rfl, hK1, hK2⟩ := id hK
  obtain ⟨adC, bC, offC, capC, rfl, hC1, hC2⟩ := id hC
  obtain ⟨adi, bi, offi, capi, rfl, hi1, hi2⟩ := id hi
  obtain ⟨adN, bN, offN, capN, rfl, hN1, hN2⟩ := id hN
  have h1 := hf.ins; have h2 := hf.outs; have h3 := hf.code; have h4 := hf.v; have hkp := hf.keeps
  have HM : Hid (w.heap[bm]? = some (.cells (mCells n.places vF (.slice adI n.ins.length capI) (.slice adO n.outs.length capO) (.slice adK n.keeps.length capK) (.slice adN n.nums.length capN) (.slice adC n.code.length capC) (.map (some g))) 59 (0, 0))) := hm
  have HI : Hid (Ints (· < B) w (.slice adI n.ins.length capI) n.ins) := hI
  have HO : Hid (Ints (· < B) w (.slice adO n.outs.length capO) n.outs) := hO
  have HK : Hid (Ints (· < B) w (.slice adK n.keeps.length capK) n.keeps) := hK
  have HN : Hid (Ints (· < B) w (.slice adN n.nums.length capN) n.nums) := hN
  have HC : Hid (Steps (· < B) w (.slice adC n.code.length capC) n.code) := hC
  have HI1 : Hid ((0 < n.ins.length → adI = some ⟨bI, offI, none⟩ ∧ bI < B) ∧ ∀ k, k < n.ins.length → w.cell? ⟨bI, offI + k, none⟩ = some (.int .i64 (n.ins.getD k 0))) := ⟨hI1, hI2⟩
  have HO1 : Hid ((0 < n.outs.length → adO = some ⟨bO, offO, none⟩ ∧ bO < B) ∧ ∀ k, k < n.outs.length → w.cell? ⟨bO, offO + k, none⟩ = some (.int .i64 (n.outs.getD k 0))) := ⟨hO1, hO2⟩
  have HK1 : Hid ((0 < n.keeps.length → adK = some ⟨bK, offK, none⟩ ∧ bK < B) ∧ ∀ k, k < n.keeps.length → w.cell? ⟨bK, offK + k, none⟩ = some (.int .i64 (n.keeps.getD k 0))) := ⟨hK1, hK2⟩
  have HN1 : Hid ((0 < n.nums.length → adN = some ⟨bN, offN, none⟩ ∧ bN < B) ∧ ∀ k, k < n.nums.length → w.cell? ⟨bN, offN + k, none⟩ = some (.int .i64 (n.nums.getD k 0))) := ⟨hN1, hN2⟩
  have Hi1 : Hid ((0 < ins.length → adi = some ⟨bi, offi, none⟩ ∧ bi < B) ∧ ∀ k, k < ins.length → w.cell? ⟨bi, offi + k, none⟩ = some (.int .i64 (ins.getD k 0))) := ⟨hi1, hi2⟩
  have HC1 : Hid ((0 < n.code.length → adC = some ⟨bC, offC, none⟩ ∧ bC < B) ∧ _) := ⟨hC1, hC2⟩
  have HP : Hid (MapIs w g 100000 V) := hp
  have HG : Hid (g < w.heap.size) := hwm
  have HFI : Hid (Fine n V.length) := hfine
  have HNS : Hid (∀ k, F64 (ins.getD k 0)) := hins
  have HGM : Hid (g ≠ bm ∧ B ≤ bm ∧ B ≤ g ∧ bm < w.heap.size) := ⟨hgm, hbm, hgB, hbl⟩
  have HST : Hid (∀ wr, Fr w.heap.size [g] w wr → wr.heap[bm]? = w.heap[bm]? ∧ Keep (· < B) (· < B) w wr) := by
    intro wr h
    refine ⟨h.block bm hbl (by simp; omega), fun b hb hl => ⟨hb, h.block b hl (by simp; omega)⟩⟩
  have c2 : w.cell? ⟨bm, 2, none⟩ = some (.slice adI n.ins.length capI) := by rw [cell_row hm]; rfl
  clear hm hI hO hK hN hC hi hI1 hI2 hO1 hO2 hC1 hC2 hK1 hK2 hN1 hN2 hp hi1 hi2 hf hfine hins hwm hgm hbm hgB hbl
  have hmm := @run_makeMap Tryz.prog
  go_enter Tryz.func12, Tryz.ntmps12
  go_wp2_with fail
  clear c2
  go_loopw [22] (fun i wr => ∃ k : Nat, k ≤ n.ins.length ∧ i = .int .i64 k ∧ Hid (MapIs wr g (100000 + 2 * k) (insK n.ins ins V k)) ∧ Hid (Fr w.heap.size [g] w wr)) (fun i _ => n.ins.length - (intOf i).toNat)
  case atStart => exact ⟨0, Nat.zero_le _, rfl, HP.out, Fr.refl _ _ _⟩
  case round =>
    obtain ⟨k, hk, rfl, HOW, HF⟩ := hrel
    obtain ⟨sb, sk⟩ := HST.out wr HF.out
    have SB : Hid (wr.heap[bm]? = w.heap[bm]?) := sb
    have SK : Hid (Keep (· < B) (· < B) w wr) := sk
    clear sb sk
    by_cases hlt : k < n.ins.length
    · have hix := ix23 adI bI offI n.ins.length capI k hlt (fun h => (HI1.out.1 h).1)
      obtain ⟨x, hx⟩ : ∃ x, x = n.ins.getD k 0 := ⟨_, rfl⟩
      have cx : wr.cell? ⟨bI, offI + k, none⟩ = some (.int .i64 x) := by
        have := HI1.out.2 k hlt
        rw [cell_of_block (SK.out bI (HI1.out.1 (by omega)).2 (lt_of_cell this)).2, hx]; exact this
      have c7 : wr.cell? ⟨bm, 7, none⟩ = some (.map (some g)) := by rw [cell_of_block SB.out, cell_row HM.out]; rfl
      have hxr := HFI.out.ins k hlt
      rw [← hx] at hxr
      obtain ⟨hx0, hx1⟩ := hxr
      have HX : Hid (x = n.ins.getD k 0) := hx
      clear hx
      have hvl := insK_len n.ins ins V k
      obtain ⟨w1, hrun1, hm1, hg1⟩ := HOW.out.put (by unfold maxLen; omega) x 0 hx0 ⟨by omega, by omega⟩ f64_0
      have HF1 : Hid (Fr w.heap.size [g] w w1) := frGrown HF.out hg1 (.inr (by simp)) HF.out.size
      obtain ⟨sb1, sk1⟩ := HST.out w1 HF1.out
      by_cases hl2 : k < ins.length
      · have hiy := ix22 adi bi offi ins.length capi k hl2 (fun h => (Hi1.out.1 h).1)
        obtain ⟨y, hy⟩ : ∃ y, y = ins.getD k 0 := ⟨_, rfl⟩
        have cy : w1.cell? ⟨bi, offi + k, none⟩ = some (.int .i64 y) := by
          have := Hi1.out.2 k hl2
          rw [cell_of_block (sk1 bi (Hi1.out.1 (by omega)).2 (lt_of_cell this)).2, hy]; exact this
        have d7 : w1.cell? ⟨bm, 7, none⟩ = some (.map (some g)) := by rw [cell_of_block sb1, cell_row HM.out]; rfl
        have hy64 : F64 y := by rw [hy]; exact HNS.out k
        obtain ⟨w2, hrun2, hm2, hg2⟩ := (hm1.keep (w' := w1.drew) rfl).put (by unfold maxLen; omega) x y hx0 ⟨by omega, by omega⟩ hy64
        have HY : Hid (y = ins.getD k 0) := hy
        have HF2 : Hid (Fr w.heap.size [g] w w2) := frGrown HF1.out.drew hg2 (.inr (by simp)) HF1.out.size
        have HM2 : Hid (MapIs w2 g (100000 + 2 * k + 1 + 1) (put (put (insK n.ins ins V k) x 0) x y)) := hm2
        clear hy hm2 hg2 hm1 hg1 hvl sb1 sk1 hy64
        go_wp2_with fail
        go_region
        all_goals
          go_wp2_with fail
          go_roundw
          case rel => exact ⟨k + 1, by omega, by go_num, by unfold Hid; rw [insK, ← HX.out, ← HY.out, ← put_put _ x 0 y]; exact HM2.out.mono (by omega), HF2.out⟩
          case measure => simp [intOf]; omega
      · have HY : Hid (ins.getD k 0 = 0) := by unfold Hid; rw [List.getD_eq_getElem?_getD, List.getElem?_eq_none (by omega)]; rfl
        have HM1 : Hid (MapIs w1 g (100000 + 2 * k + 1) (put (insK n.ins ins V k) x 0)) := hm1
        clear hm1 hg1 hvl sb1 sk1
        go_wp2_with fail
        go_roundw
        case rel => exact ⟨k + 1, by omega, by go_num, by unfold Hid; rw [insK, ← HX.out, HY.out]; exact HM1.out.mono (by omega), HF1.out⟩
        case measure => simp [intOf]; omega
    · obtain rfl : k = n.ins.length := by omega
      have c6 : wr.cell? ⟨bm, 6, none⟩ = some (.slice adC n.code.length capC) := by rw [cell_of_block SB.out, cell_row HM.out]; rfl
      obtain ⟨V1, hV1⟩ : ∃ V1, V1 = insK n.ins ins V n.ins.length := ⟨_, rfl⟩
      rw [← hV1] at HOW
      have HL1 : Hid (V1.length = V.length) := by unfold Hid; rw [hV1, insK_len]
      have HV1 : Hid (V1 = insK n.ins ins V n.ins.length) := hV1
      obtain ⟨M1, hM1⟩ : ∃ M1, M1 = 100000 + 2 * n.ins.length := ⟨_, rfl⟩
      rw [← hM1] at HOW
      have hM1b : M1 ≤ 300000 := by omega
      clear hV1 hM1 hlt hk
      go_wp2_with fail
      clear c6
      go_loopw [52] (fun i wr => ∃ k : Nat, k ≤ n.code.length ∧ i = .int .i64 k ∧ Hid (MapIs wr g (M1 + k) (codeK n.nums n.code V1 k)) ∧ Hid (Fr w.heap.size [g] w wr)) (fun i _ => n.code.length - (intOf i).toNat)
      case atStart => exact ⟨0, Nat.zero_le _, rfl, HOW.out, HF.out⟩
      case round =>
        clear HOW HF SB SK
        obtain ⟨k, hk, rfl, HOW, HF⟩ := hrel
        obtain ⟨sb, sk⟩ := HST.out wr HF.out
        have SB : Hid (wr.heap[bm]? = w.heap[bm]?) := sb
        have SK : Hid (Keep (· < B) (· < B) w wr) := sk
        clear sb sk
        by_cases hlt : k < n.code.length
        · have hix := ix24 adC bC offC n.code.length capC k hlt (fun h => (HC1.out.1 h).1)
          obtain ⟨s, hs⟩ : ∃ s, s = n.code.getD k sp0 := ⟨_, rfl⟩
          have hb' : wr.heap[bC]? = w.heap[bC]? := (SK.out bC (HC1.out.1 (by omega)).2 (lt_of_cell (HC1.out.2 k hlt).1)).2
          obtain ⟨x0, x1, x2, x3, x4⟩ := HC1.out.2 k hlt
          rw [← cell_of_block hb', ← hs] at x0 x1 x2 x3 x4
          have hfs := HFI.out.code k hlt
          rw [← hs] at hfs
          have HX : Hid (s = n.code.getD k sp0) := hs
          have HCS : Hid _ := step_parts hfs
          obtain ⟨Vk, hVk⟩ : ∃ Vk, Vk = codeK n.nums n.code V1 k := ⟨_, rfl⟩
          rw [← hVk] at HOW
          have HVL : Hid (Vk.length = V.length) := by unfold Hid; rw [hVk, codeK_len, HL1.out]
          have HVk : Hid (Vk = codeK n.nums n.code V1 k) := hVk
          clear hs hb' hfs hVk
          go_wp2_with fail
          obtain ⟨W2, hW2⟩ : ∃ W2, W2 = wr.alloc (.cells #[.int .i64 s.code, .int .i64 s.dst, .int .i64 s.a, .int .i64 s.b, .int .i64 s.c] 50) := ⟨_, rfl⟩
          have hb2 : Below wr.heap.size wr W2 := by rw [hW2]; exact grown_one wr _
          have e0 : W2.cell? ⟨wr.heap.size, 0, none⟩ = some (.int .i64 s.code) := by rw [hW2]; simp
          have e1 : W2.cell? ⟨wr.heap.size, 1, none⟩ = some (.int .i64 s.dst) := by rw [hW2]; simp
          have e2 : W2.cell? ⟨wr.heap.size, 2, none⟩ = some (.int .i64 s.a) := by rw [hW2]; simp
          have e3 : W2.cell? ⟨wr.heap.size, 3, none⟩ = some (.int .i64 s.b) := by rw [hW2]; simp
          have e4 : W2.cell? ⟨wr.heap.size, 4, none⟩ = some (.int .i64 s.c) := by rw [hW2]; simp
          rw [← hW2]
          clear hW2 x0 x1 x2 x3 x4 hix
          have hask := refAsks_any s.code s.dst s.a s.b s.c W2
          have HNX : Hid (∀ w3, Below W2.heap.size W2 w3 → (w3.cell? ⟨bm, 7, none⟩ = some (.map (some g)) ∧ w3.cell? ⟨bm, 5, none⟩ = some (.slice adN n.nums.length capN) ∧ w3.cell? ⟨wr.heap.size, 0, none⟩ = some (.int .i64 s.code) ∧ w3.cell? ⟨wr.heap.size, 1, none⟩ = some (.int .i64 s.dst) ∧ w3.cell? ⟨wr.heap.size, 2, none⟩ = some (.int .i64 s.a) ∧ w3.cell? ⟨wr.heap.size, 3, none⟩ = some (.int .i64 s.b) ∧ w3.cell? ⟨wr.heap.size, 4, none⟩ = some (.int .i64 s.c)) ∧ Hid (MapIs w3 g (M1 + k) Vk) ∧ Hid (Fr w.heap.size [g] w w3)) := by
            intro w3 hb3
            have hb : Below wr.heap.size wr w3 := ball hb2 hb3
            have hF3 : Fr w.heap.size [g] w w3 := HF.out.trans (Fr.of_below (hb.mono HF.out.size) _)
            have hbm3 := (HST.out w3 hF3).1
            exact ⟨⟨by rw [cell_of_block hbm3, cell_row HM.out]; rfl, by rw [cell_of_block hbm3, cell_row HM.out]; rfl, cell_below hb3 e0, cell_below hb3 e1, cell_below hb3 e2, cell_below hb3 e3, cell_below hb3 e4⟩, HOW.out.keep (hb.block g HOW.out.lt), hF3⟩
          have HASK : Hid (∀ N, (asks s).length = N → Calls Tryz.prog 16 #[.agg #[.int .i64 s.code, .int .i64 s.dst, .int .i64 s.a, .int .i64 s.b, .int .i64 s.c]] W2 fun e w3 => ∃ ad cap, e = .returned (.slice ad N cap) ∧ Hid (Below W2.heap.size W2 w3)) := by
            intro N hN
            refine hask.mono fun e w3 ⟨v, he, ⟨ad, b, off, cap, hv, _⟩, hb⟩ => ⟨ad, cap, ?_, hb⟩
            rw [he, hv, ← hN]
          clear hask e1 e2 e3 e4 hb2
          obtain ⟨⟨hd0, hd1⟩, hcs⟩ := HCS.out
          clear HCS
          rcases hcs with hcs | hcs | hcs | hcs | hcs
          · obtain ⟨hc, has, ha0, ha1⟩ := hcs
            have hask := HASK.out 0 (by rw [has]; rfl)
            have HC0 : Hid _ := hc
            clear e0 hc
            go_wp2_with (go_at_call 16; refine hask.mono ?_; rintro e w3 ⟨ad, cap, rfl, HB3⟩; clear hask)
            obtain ⟨⟨c7, c5, e0, e1, e2, e3, e4⟩, HM3, HF3⟩ := HNX.out w3 HB3.out
            have hvl := HVL.out
            have hc := HC0.out
            have hixn := ix22 adN bN offN n.nums.length capN s.a.toNat (by omega) (fun h => (HN1.out.1 h).1)
            rw [Int.toNat_of_nonneg ha0] at hixn
            obtain ⟨z, hz⟩ : ∃ z, z = get n.nums s.a := ⟨_, rfl⟩
            have cz : w3.cell? ⟨bN, offN + s.a.toNat, none⟩ = some (.int .i64 z) := by
              have := HN1.out.2 s.a.toNat (by omega)
              rw [cell_of_block ((HST.out w3 HF3.out).2 bN (HN1.out.1 (by omega)).2 (lt_of_cell this)).2, hz, get_in _ _ ha0]; exact this
            have hz64 : F64 z := by rw [hz, get_in _ _ ha0]; exact HFI.out.nums _
            have HZ : Hid (made n.nums Vk s = z) := by unfold Hid made; rw [if_pos hc, hz]
            clear hz hc has
            obtain ⟨w5, hrun5, hm5, hg5⟩ := (HM3.out.keep (w' := w3.drew.drew) rfl).put (by unfold maxLen; omega) s.dst z hd0 ⟨by omega, by omega⟩ hz64
            have HM5 : Hid (MapIs w5 g (M1 + k + 1) (put Vk s.dst z)) := hm5
            have HF5 : Hid (Fr w.heap.size [g] w w5) := frGrown HF3.out.drew.drew hg5 (.inr (by simp)) HF3.out.size
            clear hm5 hg5 hz64 hvl
            
            go_region
            all_goals
              go_wp2_with fail
              go_region
            all_goals
              go_wp2_with fail
              go_roundw
              case rel => exact ⟨k + 1, by omega, by go_num, by unfold Hid; rw [codeK, ← HX.out, ← HVk.out, HZ.out]; exact HM5.out.mono (by omega), HF5.out⟩
              case measure => simp [intOf]; omega
          · obtain ⟨hc, has, ha0, ha1⟩ := hcs
            have hask := HASK.out 1 (by rw [has]; rfl)
            have HC0 : Hid _ := hc
            clear e0 hc
            go_wp2_with (go_at_call 16; refine hask.mono ?_; rintro e w3 ⟨ad, cap, rfl, HB3⟩; clear hask)
            obtain ⟨⟨c7, c5, e0, e1, e2, e3, e4⟩, HM3, HF3⟩ := HNX.out w3 HB3.out
            have hvl := HVL.out
            have hc := HC0.out
            obtain ⟨hl1, hw1⟩ := (HM3.out.keep (w' := w3.drew) rfl).look s.a ha0 (by omega) ⟨by omega, by omega⟩
            obtain ⟨y1, hy1⟩ : ∃ y, y = get Vk s.a := ⟨_, rfl⟩
            rw [← hy1] at hl1 hw1
            have hv1 := f64_of_wf hw1
            
            obtain ⟨z, hz⟩ : ∃ z, z = y1 := ⟨_, rfl⟩
            have hz64 : F64 z := by rw [hz]; exact hv1
            have HZ : Hid (made n.nums Vk s = z) := by unfold Hid made; rw [if_neg (by omega), if_pos hc, hz, hy1]
            have hc2 : (s.code != 2) = false := by rw [hc]; rfl
            rw [← hz] at hl1
            clear hz hc has hy1 hw1 hv1
            obtain ⟨w5, hrun5, hm5, hg5⟩ := (HM3.out.keep (w' := w3.drew.drew) rfl).put (by unfold maxLen; omega) s.dst z hd0 ⟨by omega, by omega⟩ hz64
            have HM5 : Hid (MapIs w5 g (M1 + k + 1) (put Vk s.dst z)) := hm5
            have HF5 : Hid (Fr w.heap.size [g] w w5) := frGrown HF3.out.drew.drew hg5 (.inr (by simp)) HF3.out.size
            clear hm5 hg5 hz64 hvl
            
            go_region
            all_goals
              go_wp2_with fail
              go_region
            all_goals
              go_wp2_with fail
              go_roundw
              case rel => exact ⟨k + 1, by omega, by go_num, by unfold Hid; rw [codeK, ← HX.out, ← HVk.out, HZ.out]; exact HM5.out.mono (by omega), HF5.out⟩
              case measure => simp [intOf]; omega
          · obtain ⟨hc, has, ha0, ha1⟩ := hcs
            have hask := HASK.out 1 (by rw [has]; rfl)
            have HC0 : Hid _ := hc
            clear e0 hc
            go_wp2_with (go_at_call 16; refine hask.mono ?_; rintro e w3 ⟨ad, cap, rfl, HB3⟩; clear hask)
            obtain ⟨⟨c7, c5, e0, e1, e2, e3, e4⟩, HM3, HF3⟩ := HNX.out w3 HB3.out
            have hvl := HVL.out
            have hc := HC0.out
            obtain ⟨hl1, hw1⟩ := (HM3.out.keep (w' := w3.drew) rfl).look s.a ha0 (by omega) ⟨by omega, by omega⟩
            obtain ⟨y1, hy1⟩ : ∃ y, y = get Vk s.a := ⟨_, rfl⟩
            rw [← hy1] at hl1 hw1
            have hv1 := f64_of_wf hw1
            
            obtain ⟨z, hz⟩ : ∃ z, z = vOne s.code y1 := ⟨_, rfl⟩
            have hz64 : F64 z := by rw [hz]; exact f64_one _ _
            have HZ : Hid (made n.nums Vk s = z) := by unfold Hid made; rw [if_neg (by omega), if_neg (by omega), if_pos hc, hz, hy1]
            have hc2 : (s.code != 2) = true := by rw [bne_iff_ne]; omega
            have hone := refOne_any s.code y1 w3.drew
            rw [← hz] at hone
            clear hz hc has hy1 hw1 hv1
            obtain ⟨w5, hrun5, hm5, hg5⟩ := (HM3.out.keep (w' := w3.drew.drew) rfl).put (by unfold maxLen; omega) s.dst z hd0 ⟨by omega, by omega⟩ hz64
            have HM5 : Hid (MapIs w5 g (M1 + k + 1) (put Vk s.dst z)) := hm5
            have HF5 : Hid (Fr w.heap.size [g] w w5) := frGrown HF3.out.drew.drew hg5 (.inr (by simp)) HF3.out.size
            clear hm5 hg5 hz64 hvl
            
            go_region
            all_goals
              go_wp2_with (go_at_call 25; refine hone.mono ?_; rintro e w' ⟨rfl, rfl⟩)
              go_region
            all_goals
              go_wp2_with fail
              go_roundw
              case rel => exact ⟨k + 1, by omega, by go_num, by unfold Hid; rw [codeK, ← HX.out, ← HVk.out, HZ.out]; exact HM5.out.mono (by omega), HF5.out⟩
              case measure => simp [intOf]; omega
          · obtain ⟨hc, has, ⟨ha0, ha1⟩, hb0, hb1⟩ := hcs
            have hask := HASK.out 2 (by rw [has]; rfl)
            have HC0 : Hid _ := hc
            clear e0 hc
            go_wp2_with (go_at_call 16; refine hask.mono ?_; rintro e w3 ⟨ad, cap, rfl, HB3⟩; clear hask)
            obtain ⟨⟨c7, c5, e0, e1, e2, e3, e4⟩, HM3, HF3⟩ := HNX.out w3 HB3.out
            have hvl := HVL.out
            have hc := HC0.out
            obtain ⟨hl1, hw1⟩ := HM3.out.look s.a ha0 (by omega) ⟨by omega, by omega⟩
            obtain ⟨y1, hy1⟩ : ∃ y, y = get Vk s.a := ⟨_, rfl⟩
            rw [← hy1] at hl1 hw1
            have hq1 : ∀ m, (Instr.lookup 57 (.map (some g)) (.int .i64 s.a) false).run Tryz.prog (w3.drewN m) = .ok (.int .i64 y1) (w3.drewN m) := fun m => by rw [hy1]; exact ((HM3.out.keep (w' := w3.drewN m) rfl).look s.a ha0 (by omega) ⟨by omega, by omega⟩).1
            clear hl1
            have hv1 := f64_of_wf hw1
            
            obtain ⟨hl2, hw2⟩ := HM3.out.look s.b hb0 (by omega) ⟨by omega, by omega⟩
            obtain ⟨y2, hy2⟩ : ∃ y, y = get Vk s.b := ⟨_, rfl⟩
            rw [← hy2] at hl2 hw2
            have hq2 : ∀ m, (Instr.lookup 57 (.map (some g)) (.int .i64 s.b) false).run Tryz.prog (w3.drewN m) = .ok (.int .i64 y2) (w3.drewN m) := fun m => by rw [hy2]; exact ((HM3.out.keep (w' := w3.drewN m) rfl).look s.b hb0 (by omega) ⟨by omega, by omega⟩).1
            clear hl2
            have hv2 := f64_of_wf hw2
            
            obtain ⟨z, hz⟩ : ∃ z, z = vTwo s.code y1 y2 := ⟨_, rfl⟩
            have hz64 : F64 z := by rw [hz]; exact f64_two _ _ _ hv1
            have HZ : Hid (made n.nums Vk s = z) := by unfold Hid made; rw [if_neg (by omega), if_neg (by omega), if_neg (by omega), if_neg (by omega), hz, hy1, hy2]
            have htwo := fun w' => refTwo_any s.code y1 y2 w' hv1 hv2
            rw [← hz] at htwo
            clear hz hc has hy1 hw1 hv1 hy2 hw2 hv2
            go_quiet ((go_at_call 26; exact Calls.quiet_of_same (htwo _)))
            go_wp2_with fail
            obtain ⟨w5, hrun5, hm5, hg5⟩ := (HM3.out.keep (w' := w3.drewN (nq + 1)) rfl).put (by unfold maxLen; omega) s.dst z hd0 ⟨by omega, by omega⟩ hz64
            have HM5 : Hid (MapIs w5 g (M1 + k + 1) (put Vk s.dst z)) := hm5
            have HF5 : Hid (Fr w.heap.size [g] w w5) := frGrown (HF3.out.drewN (nq + 1)) hg5 (.inr (by simp)) HF3.out.size
            clear hm5 hg5 hz64 hvl
            
            go_region
            all_goals
              go_wp2_with fail
              go_roundw
              case rel => exact ⟨k + 1, by omega, by go_num, by unfold Hid; rw [codeK, ← HX.out, ← HVk.out, HZ.out]; exact HM5.out.mono (by omega), HF5.out⟩
              case measure => simp [intOf]; omega
          · obtain ⟨hc, has, ⟨ha0, ha1⟩, ⟨hb0, hb1⟩, hc0, hc1⟩ := hcs
            have hask := HASK.out 3 (by rw [has]; rfl)
            have HC0 : Hid _ := hc
            clear e0 hc
            go_wp2_with (go_at_call 16; refine hask.mono ?_; rintro e w3 ⟨ad, cap, rfl, HB3⟩; clear hask)
            obtain ⟨⟨c7, c5, e0, e1, e2, e3, e4⟩, HM3, HF3⟩ := HNX.out w3 HB3.out
            have hvl := HVL.out
            have hc := HC0.out
            obtain ⟨hl1, hw1⟩ := HM3.out.look s.a ha0 (by omega) ⟨by omega, by omega⟩
            obtain ⟨y1, hy1⟩ : ∃ y, y = get Vk s.a := ⟨_, rfl⟩
            rw [← hy1] at hl1 hw1
            have hq1 : ∀ m, (Instr.lookup 57 (.map (some g)) (.int .i64 s.a) false).run Tryz.prog (w3.drewN m) = .ok (.int .i64 y1) (w3.drewN m) := fun m => by rw [hy1]; exact ((HM3.out.keep (w' := w3.drewN m) rfl).look s.a ha0 (by omega) ⟨by omega, by omega⟩).1
            clear hl1
            have hv1 := f64_of_wf hw1
            
            obtain ⟨hl2, hw2⟩ := HM3.out.look s.b hb0 (by omega) ⟨by omega, by omega⟩
            obtain ⟨y2, hy2⟩ : ∃ y, y = get Vk s.b := ⟨_, rfl⟩
            rw [← hy2] at hl2 hw2
            have hq2 : ∀ m, (Instr.lookup 57 (.map (some g)) (.int .i64 s.b) false).run Tryz.prog (w3.drewN m) = .ok (.int .i64 y2) (w3.drewN m) := fun m => by rw [hy2]; exact ((HM3.out.keep (w' := w3.drewN m) rfl).look s.b hb0 (by omega) ⟨by omega, by omega⟩).1
            clear hl2
            have hv2 := f64_of_wf hw2
            
            obtain ⟨hl3, hw3⟩ := HM3.out.look s.c hc0 (by omega) ⟨by omega, by omega⟩
            obtain ⟨y3, hy3⟩ : ∃ y, y = get Vk s.c := ⟨_, rfl⟩
            rw [← hy3] at hl3 hw3
            have hq3 : ∀ m, (Instr.lookup 57 (.map (some g)) (.int .i64 s.c) false).run Tryz.prog (w3.drewN m) = .ok (.int .i64 y3) (w3.drewN m) := fun m => by rw [hy3]; exact ((HM3.out.keep (w' := w3.drewN m) rfl).look s.c hc0 (by omega) ⟨by omega, by omega⟩).1
            clear hl3
            have hv3 := f64_of_wf hw3
            
            obtain ⟨z, hz⟩ : ∃ z, z = vPick y1 y2 y3 := ⟨_, rfl⟩
            have hz64 : F64 z := by rw [hz]; exact f64_pick _ _ _ hv2 hv3
            have HZ : Hid (made n.nums Vk s = z) := by unfold Hid made; rw [if_neg (by omega), if_neg (by omega), if_neg (by omega), if_pos hc, hz, hy1, hy2, hy3]
            have hpick := fun w' => refPick_any y1 y2 y3 w'
            rw [← hz] at hpick
            clear hz hc has hy1 hw1 hv1 hy2 hw2 hv2 hy3 hw3 hv3
            go_quiet ((go_at_call 27; exact Calls.quiet_of_same (hpick _)))
            go_wp2_with fail
            obtain ⟨w5, hrun5, hm5, hg5⟩ := (HM3.out.keep (w' := w3.drewN (nq + 1)) rfl).put (by unfold maxLen; omega) s.dst z hd0 ⟨by omega, by omega⟩ hz64
            have HM5 : Hid (MapIs w5 g (M1 + k + 1) (put Vk s.dst z)) := hm5
            have HF5 : Hid (Fr w.heap.size [g] w w5) := frGrown (HF3.out.drewN (nq + 1)) hg5 (.inr (by simp)) HF3.out.size
            clear hm5 hg5 hz64 hvl
            
            go_region
            all_goals
              go_wp2_with fail
              go_roundw
              case rel => exact ⟨k + 1, by omega, by go_num, by unfold Hid; rw [codeK, ← HX.out, ← HVk.out, HZ.out]; exact HM5.out.mono (by omega), HF5.out⟩
              case measure => simp [intOf]; omega
        · obtain rfl : k = n.code.length := by omega
          have c3 : wr.cell? ⟨bm, 3, none⟩ = some (.slice adO n.outs.length capO) := by rw [cell_of_block SB.out, cell_row HM.out]; rfl
          obtain ⟨V2, hV2⟩ : ∃ V2, V2 = codeK n.nums n.code V1 n.code.length := ⟨_, rfl⟩
          rw [← hV2] at HOW
          have HV2 : Hid (V2 = ran n V ins) := by unfold Hid ran; rw [hV2, HV1.out]
          have HL2 : Hid (V2.length = V.length) := by unfold Hid; rw [hV2, codeK_len, HL1.out]
          obtain ⟨M2, hM2⟩ : ∃ M2, M2 = M1 + n.code.length := ⟨_, rfl⟩
          rw [← hM2] at HOW
          clear hV2 hM2 hlt hk HV1 HL1 hM1b
          obtain ⟨i0, hi, hz0, hz1, hz2⟩ := info_parts Tryz.infoI64
          go_wp2_with fail
          clear c3
          go_loopw [10, 143] (fun v i wr => ∃ k : Nat, k ≤ n.outs.length ∧ i = .int .i64 k ∧ wr.ownsRow w.heap.size 2 1 v k (((n.outs.take k).map (get V2)).map (Value.int .i64)) ∧ Hid (MapIs wr g M2 V2) ∧ Hid (Fr w.heap.size [g] w wr)) (fun _ i _ => n.outs.length - (intOf i).toNat)
          case atStart => exact ⟨0, Nat.zero_le _, rfl, World.ownsRow_nil _ _ _ _, HOW.out, HF.out⟩
          case round =>
            clear HOW HF SB SK
            obtain ⟨k, hk, rfl, hrow, HOW, HF⟩ := hrel
            obtain ⟨sb, sk⟩ := HST.out wr HF.out
            have SB : Hid (wr.heap[bm]? = w.heap[bm]?) := sb
            have SK : Hid (Keep (· < B) (· < B) w wr) := sk
            clear sb sk
            by_cases hlt : k < n.outs.length
            · have hix := ix23 adO bO offO n.outs.length capO k hlt (fun h => (HO1.out.1 h).1)
              obtain ⟨x, hx⟩ : ∃ x, x = n.outs.getD k 0 := ⟨_, rfl⟩
              have cx : wr.cell? ⟨bO, offO + k, none⟩ = some (.int .i64 x) := by
                have := HO1.out.2 k hlt
                rw [cell_of_block (SK.out bO (HO1.out.1 (by omega)).2 (lt_of_cell this)).2, hx]; exact this
              have c7 : wr.cell? ⟨bm, 7, none⟩ = some (.map (some g)) := by rw [cell_of_block SB.out, cell_row HM.out]; rfl
              have hxr := HFI.out.outs k hlt
              rw [← hx] at hxr
              obtain ⟨hx0, hx1⟩ := hxr
              have hvl := HL2.out
              have hlk := (HOW.out.look x hx0 (by omega) ⟨by omega, by omega⟩).1
              have HX : Hid ((n.outs.take (k + 1)).map (get V2) = (n.outs.take k).map (get V2) ++ [get V2 x]) := by unfold Hid; rw [hx, HV2.out]; exact tells_at n V ins k hlt
              have HWS : Hid (w.heap.size ≤ wr.heap.size) := HF.out.size
              clear hx hvl hx0 hx1
              go_wp2_with (at_builtin; refine wpList_append_own _ rfl (.tmp 147) (.tmp 154) 22 rfl w.heap.size 2 i0 (.int .i64 0) 1 8 Tryz.underlying22 hi hz0 hz1 hz2 rfl (by decide) _ _ _ rfl (hrow.alloc _) ⟨wr.heap.size, 0, none⟩ 1 1 [.int .i64 (get V2 x)] rfl rfl (cell_one_new _ _ _) (ints_oneCell .i64 [get V2 x]) (by unfold maxLen; omega) (by omega) (by have := HWS.out; simp; omega) ?_; intro v' w1 hown1 hgrow1 _)
              go_roundw
              case rel =>
                have hG := HG.out
                have hws := HWS.out
                refine ⟨k + 1, by omega, by go_num, by rw [HX.out, List.map_append]; exact hown1, HOW.out.keep ?_, (HF.out.alloc hws _).trans ⟨hgrow1.os, hgrow1.tape, hgrow1.output, hgrow1.size, fun b hb _ => hgrow1.block b (by simp; omega) (fun e => by have := (hrow.lt b e.symm).1; omega)⟩⟩
                rw [hgrow1.block g (by simp; omega) (fun e => by have := (hrow.lt g e.symm).1; omega)]
                exact Below.heap_alloc _ _ _ (by omega)
              case measure => simp [intOf]; omega
            · obtain rfl : k = n.outs.length := by omega
              rw [List.take_length] at hrow
              have HROW : Hid (∃ gr, Own wr u10 (tells n V ins) gr ∧ w.heap.size ≤ gr ∧ (0 < n.outs.length → gr < wr.heap.size) ∧ (tells n V ins).length = n.outs.length) := by
                have e : tells n V ins = n.outs.map (get V2) := by unfold tells; rw [HV2.out]
                rw [e]; exact own_of_row hrow
              have hsw := HF.out.size
              have c4 : (wr.alloc (.map #[] 0)).cell? ⟨bm, 4, none⟩ = some (.slice adK n.keeps.length capK) := by
                rw [cell_of_block (Below.heap_alloc _ _ _ (by have := HGM.out; omega)), cell_of_block SB.out, cell_row HM.out]; rfl
              have HSW : Hid (w.heap.size ≤ wr.heap.size) := hsw
              clear hrow hlt hk hsw
              go_wp2_with fail
              clear c4
              go_loopw [164] (fun i w4 => ∃ k : Nat, k ≤ n.keeps.length ∧ i = .int .i64 k ∧ Hid (MapIs w4 wr.heap.size k (keepK n.keeps V2 k)) ∧ Hid (Below wr.heap.size wr w4)) (fun i _ => n.keeps.length - (intOf i).toNat)
              case atStart => exact ⟨0, Nat.zero_le _, rfl, mapIs_made _ V2.length, (Below.refl _ _).alloc (Nat.le_refl _) _⟩
              case round =>
                have HF0 := HF
                have HOW0 := HOW
                clear HF HOW SB SK
                obtain ⟨k, hk, rfl, HKM, HBW⟩ := hrel
                have HF : Hid (Fr w.heap.size [g] w wr) := HF0.out.trans (Fr.of_below (HBW.out.mono HF0.out.size) _)
                obtain ⟨sb, sk⟩ := HST.out wr HF.out
                have SB : Hid (wr.heap[bm]? = w.heap[bm]?) := sb
                have SK : Hid (Keep (· < B) (· < B) w wr) := sk
                clear sb sk
                by_cases hlt : k < n.keeps.length
                · have hix := ix23 adK bK offK n.keeps.length capK k hlt (fun h => (HK1.out.1 h).1)
                  obtain ⟨x, hx⟩ : ∃ x, x = n.keeps.getD k 0 := ⟨_, rfl⟩
                  have cx : wr.cell? ⟨bK, offK + k, none⟩ = some (.int .i64 x) := by
                    have := HK1.out.2 k hlt
                    rw [cell_of_block (SK.out bK (HK1.out.1 (by omega)).2 (lt_of_cell this)).2, hx]; exact this
                  have c7 : wr.cell? ⟨bm, 7, none⟩ = some (.map (some g)) := by rw [cell_of_block SB.out, cell_row HM.out]; rfl
                  have hxr := HFI.out.keeps k hlt
                  rw [← hx] at hxr
                  obtain ⟨hx0, hx1⟩ := hxr
                  have hvl := HL2.out
                  obtain ⟨hlk, hwf⟩ := (HOW0.out.keep (HBW.out.block g HOW0.out.lt)).look x hx0 (by omega) ⟨by omega, by omega⟩
                  obtain ⟨w5, hrun5, hm5, hg5⟩ := HKM.out.put (by unfold maxLen; omega) x (get V2 x) hx0 ⟨by omega, by omega⟩ (f64_of_wf hwf)
                  have HX : Hid (x = n.keeps.getD k 0) := hx
                  have HM5 : Hid (MapIs w5 _ (k + 1) (put (keepK n.keeps V2 k) x (get V2 x))) := hm5
                  have HB5 : Hid (Below _ _ w5) := HBW.out.grown hg5 HBW.out.size (fun j hj => by cases hj; exact Nat.le_refl _)
                  clear hx hvl hx0 hx1 hm5 hg5 hwf
                  go_wp2_with fail
                  go_roundw
                  case rel => exact ⟨k + 1, by omega, by go_num, by unfold Hid; rw [keepK, ← HX.out]; exact HM5.out, HB5.out⟩
                  case measure => simp [intOf]; omega
                · obtain rfl : k = n.keeps.length := by omega
                  have f7 : wr.frozen? ⟨bm, 7, none⟩ = false := frozen_cells (SB.out.trans HM.out) 7
                  have c7 : wr.cell? ⟨bm, 7, none⟩ = some (.map (some g)) := by rw [cell_of_block SB.out, cell_row HM.out]; rfl
                  go_wp2
                  go_ret
                  obtain ⟨gr, hr, hgr, hgl, -⟩ := HROW.out
                  obtain ⟨k1, k2, k3, k4⟩ := HGM.out
                  have hG := HG.out
                  have hsw := HSW.out
                  have hkl := HKM.out.lt
                  have hb9 : ∀ (b : Nat) (u : Value), b ≠ bm → (wr.setCell ⟨bm, 7, none⟩ u).heap[b]? = wr.heap[b]? := fun b u hb => Below.heap_setCell _ _ _ _ (by simpa using hb)
                  have hkeep : ∀ u, Keep (· < B) (· < B) w (wr.setCell ⟨bm, 7, none⟩ u) := fun u b hb hl => ⟨hb, by rw [hb9 b u (by omega)]; exact (SK.out b hb hl).2⟩
                  refine ⟨_, rfl, _, ⟨⟨vF, _, _, _, _, _, set_cells (l := (mCells n.places vF (.slice adI n.ins.length capI) (.slice adO n.outs.length capO) (.slice adK n.keeps.length capK) (.slice adN n.nums.length capN) (.slice adC n.code.length capC) (.map (some g))).toList) (T := 59) (f := (0, 0)) (SB.out.trans HM.out) 7 _, HI.out.carry (hkeep _), HO.out.carry (hkeep _), HK.out.carry (hkeep _), HN.out.carry (hkeep _), HC.out.carry (hkeep _), ?_⟩, k2, by omega, by omega⟩, ?_, ?_, hsw, ?_⟩
                  · unfold after; rw [← HV2.out]; exact (HKM.out.keep (hb9 _ _ (by omega))).mono hkp
                  · have h0 := tells_len n V ins
                    by_cases hp : 0 < n.outs.length
                    · exact ((hr.keep (HBW.out.block gr (hgl hp))).keep (hb9 gr _ (by omega))).ints (fun _ => ⟨hgr, hgl hp⟩)
                    · obtain ⟨ad, cap, e, _⟩ := hr
                      exact ⟨ad, 0, 0, cap, e, fun h => by omega, fun k hk => by omega⟩
                  · exact (HF.out.mono (Nat.le_refl _) (fun y hy _ => by simp at hy; simp [hy])).setCell (.inr (by simp)) _
                  · simpa [World.setCell] using hkl
end Nx
end Go.Proofs.YtgjhfmkilpmfnaaGreatDoor
/- The document's own answer on code: CheckNet, all but its steps. -/
namespace Go.Proofs.YtgjhfmkilpmfnaaGreatDoor
open Go.RowKit
namespace Nx

section
variable (n : Nt) (w : World) (adF adI adO adK adN adC : Option Addr) (capF capI capO capK capN capC : Nat)

def cnCells : Array Value := #[.int .i64 n.places, .slice adF n.first.length capF, .slice adI n.ins.length capI, .slice adO n.outs.length capO, .slice adK n.keeps.length capK, .slice adN n.nums.length capN, .slice adC n.code.length capC]

/-- what CheckNet knows of the world behind its two blocks -/
structure CnK (w W : World) (n : Nt) (cs : Array Value) : Prop where
  box : W.heap[w.heap.size]? = some (.cells cs 26 (0, 0))
  rb : W.heap[w.heap.size + 1]? = some (.cells #[.int .i64 0, .int .i64 0] 32 (0, 0))
  below : Below w.heap.size w W
theorem CnK.start (w : World) (n : Nt) (cs : Array Value) : CnK w (CnW w cs) n cs := ⟨CnW_box w cs, CnW_rb w cs, CnW_below w cs⟩
theorem CnK.next {w W W' : World} {n : Nt} {cs : Array Value} (h : CnK w W n cs) (hb : Below W.heap.size W W') : CnK w W' n cs :=
  ⟨by rw [hb.block _ (lt_of_block h.box)]; exact h.box, by rw [hb.block _ (lt_of_block h.rb)]; exact h.rb, ball h.below hb⟩
theorem CnK.done {w W : World} {n : Nt} {cs : Array Value} (h : CnK w W n cs) (a b : Value) : ((W.setCell ⟨w.heap.size + 1, 0, none⟩ a).setCell ⟨w.heap.size + 1, 1, none⟩ b).heap[w.heap.size + 1]? = some (.cells #[a, b] 32 (0, 0)) ∧ Below w.heap.size w ((W.setCell ⟨w.heap.size + 1, 0, none⟩ a).setCell ⟨w.heap.size + 1, 1, none⟩ b) :=
  ⟨rb_set h.rb, (h.below.setCell (by simp) _).setCell (by simp) _⟩

set_option maxRecDepth 100000 in
set_option maxHeartbeats 2000000 in
theorem cn_form (hs : Small n) (h0 : 0 ≤ n.places) (hf : (n.first.length : Int) ≠ n.places) :
    Calls Tryz.prog 6 #[.agg (cnCells n adF adI adO adK adN adC capF capI capO capK capN capC)] w fun e w' => e = .returned (.agg #[.int .i64 3, .int .i64 (-1)]) ∧ Below w.heap.size w w' := by
  have s1 := hs.p; have s2 := hs.c; have s3 := hs.m; have s4 := hs.s
  have hin := fun W => in_any n.places 0 4000 W
  have E : (decide (0 ≤ n.places) && decide (n.places ≤ 4000)) = true := by simp; omega
  rw [E] at hin
  have t1 : ((n.first.length : Int) != n.places) = true := by simpa using hf
  have HK : Hid (∀ w2, Below (CnW w (cnCells n adF adI adO adK adN adC capF capI capO capK capN capC)).heap.size (CnW w (cnCells n adF adI adO adK adN adC capF capI capO capK capN capC)) w2 → CnK w w2 n (cnCells n adF adI adO adK adN adC capF capI capO capK capN capC)) := fun w2 hb => (CnK.start w n _).next hb
  clear E hf hs
  unfold cnCells at *
  go_enter Tryz.func6, Tryz.ntmps6
  go_wp2_with (first | (go_at_call 13; refine (hin _).mono ?_; rintro e w' ⟨rfl, hw⟩; obtain rfl := hw.symm) | (go_at_call 14; refine (bare_any 3 _).mono ?_; rintro e w2 ⟨rfl, hb2⟩; have HR : Hid (CnK w w2 n _) := HK.out w2 hb2; obtain ⟨c0, f0, c1, f1⟩ := rb_cells HR.out.rb; clear hb2))
  refine bodyPost_ret (resultsN _ _ _ _ rfl rfl (HR.out.done _ _).1) rfl ?_
  exact ⟨rfl, (HR.out.done _ _).2⟩
end
end Nx
end Go.Proofs.YtgjhfmkilpmfnaaGreatDoor
/- What is wrong with a step, as the document's own answer asks it: plain; and its Asks once more. -/
namespace Go.Proofs.YtgjhfmkilpmfnaaGreatDoor
open Go.RowKit
namespace Nx

def okB (P : Int) (nums : Nat) (s : Sp) : Bool := isPl P s.dst && (s.code != 1 || (decide (0 ≤ s.a) && decide (s.a ≤ (nums : Int) - 1)))
def restB (s : Sp) : Bool := (decide ((asks s).length < 3) && s.c != 0) || (decide ((asks s).length < 2) && s.b != 0)

theorem refStep (P : Int) (nums : Nat) (s : Sp) : stepE P nums s = if s.code ≠ 1 ∧ (asks s).length = 0 then 3 else if (okB P nums s && (asks s).all (isPl P)) = false then 2 else if restB s = true then 1 else 0 := by
  obtain ⟨code, dst, a, b, c⟩ := s
  by_cases h : code < 1 ∨ 17 < code ∨ code = 3
  · have ea : asks ⟨code, dst, a, b, c⟩ = [] := by unfold asks; rw [if_neg (by simp; omega), if_neg (by simp; omega), if_neg (by simp; omega)]
    have h1 : code ≠ 1 := by omega
    unfold stepE
    rw [if_pos h, ea, if_pos ⟨h1, rfl⟩]
  by_cases c1 : code = 1
  · subst c1
    have ea : asks ⟨1, dst, a, b, c⟩ = [] := rfl
    have n1 : ¬ ((1 : Int) ≠ 1 ∧ (asks ⟨1, dst, a, b, c⟩).length = 0) := fun x => x.1 rfl
    rw [if_neg n1]
    have al : (asks ⟨1, dst, a, b, c⟩).all (isPl P) = true := rfl
    have rs : restB ⟨1, dst, a, b, c⟩ = (c != 0 || b != 0) := by unfold restB; rw [ea]; simp
    have dr : ([a, b, c].drop (if (1 : Int) = 1 then 1 else (asks ⟨1, dst, a, b, c⟩).length)).any (· != 0) = (b != 0 || c != 0) := by simp
    cases hd : isPl P dst with
    | false =>
      have ok : okB P nums ⟨1, dst, a, b, c⟩ = false := by unfold okB; simp [hd]
      rw [ok, if_pos (by simp)]
      unfold stepE
      rw [if_neg h, if_pos (by simp [hd])]
    | true =>
      by_cases hr : 0 ≤ a ∧ a < nums
      · have hr2 : 0 ≤ a ∧ a ≤ (nums : Int) - 1 := by omega
        have ok : okB P nums ⟨1, dst, a, b, c⟩ = true := by unfold okB; simp [hd, hr2]
        rw [ok, al, if_neg (by simp), rs]
        unfold stepE
        rw [if_neg h, if_neg (fun x => x ⟨hd, al⟩), if_neg (fun x => x.2 hr), dr, Bool.or_comm]
      · have hr2 : ¬ (0 ≤ a ∧ a ≤ (nums : Int) - 1) := by omega
        have ok : okB P nums ⟨1, dst, a, b, c⟩ = false := by
          unfold okB
          simp only [hd, Bool.true_and]
          rw [show ((1 : Int) != 1) = false from rfl, Bool.false_or]
          apply Bool.eq_false_iff.2
          intro x
          simp at x
          exact hr2 (by omega)
        rw [ok, if_pos (by simp)]
        unfold stepE
        rw [if_neg h, if_neg (fun x => x ⟨hd, al⟩), if_pos ⟨rfl, hr⟩]
  · have e3 : stepE P nums ⟨code, dst, a, b, c⟩ = if ¬ (isPl P dst = true ∧ (asks ⟨code, dst, a, b, c⟩).all (isPl P) = true) then 2 else if ([a, b, c].drop (asks ⟨code, dst, a, b, c⟩).length).any (· != 0) then 1 else 0 := by
      unfold stepE
      rw [if_neg h]
      simp only [c1, false_and, if_false]
    have ok : okB P nums ⟨code, dst, a, b, c⟩ = isPl P dst := by unfold okB; simp [c1]
    have len : (asks ⟨code, dst, a, b, c⟩).length = 1 ∨ (asks ⟨code, dst, a, b, c⟩).length = 2 ∨ (asks ⟨code, dst, a, b, c⟩).length = 3 := by
      unfold asks
      by_cases k1 : code = 2 ∨ code = 4 ∨ code = 5
      · rw [if_pos k1]; simp
      · by_cases k2 : 6 ≤ code ∧ code ≤ 16
        · rw [if_neg k1, if_pos k2]; simp
        · rw [if_neg k1, if_neg k2, if_pos (by simp; omega)]; simp
    have n1 : ¬ (code ≠ 1 ∧ (asks ⟨code, dst, a, b, c⟩).length = 0) := fun x => by omega
    rw [if_neg n1]
    cases hd : isPl P dst with
    | false =>
      rw [ok, hd, if_pos (by simp), e3, if_pos (by simp [hd])]
    | true =>
      cases ha : (asks ⟨code, dst, a, b, c⟩).all (isPl P) with
      | false =>
        rw [ok, hd, if_pos (by simp), e3, if_pos (by simp only [ha]; simp)]
      | true =>
        rw [ok, hd, if_neg (by simp), e3, if_neg (fun x => x ⟨hd, ha⟩)]
        unfold restB
        rcases len with e | e | e <;> rw [e] <;> by_cases kb : b = 0 <;> by_cases kc : c = 0 <;> simp [kb, kc]

theorem take_all {P : Int} {l : List Int} {j : Nat} (hj : j < l.length) : (l.take (j + 1)).all (isPl P) = ((l.take j).all (isPl P) && isPl P (l.getD j 0)) := by
  rw [List.take_succ_eq_append_getElem hj, List.all_append]
  simp [List.getD_eq_getElem?_getD, hj]

theorem refAsksL (code dst a b c : Int) (w : World) (l : List Int) (hl : l = asks ⟨code, dst, a, b, c⟩) (K : Nat) (hK : K = l.length) :
    Calls Tryz.prog 16 #[.agg #[.int .i64 code, .int .i64 dst, .int .i64 a, .int .i64 b, .int .i64 c]] w fun e w' => ∃ ad bA oA cap, e = .returned (.slice ad K cap) ∧ Hid ((0 < K → ad = some ⟨bA, oA, none⟩) ∧ ∀ j, j < K → w'.cell? ⟨bA, oA + j, none⟩ = some (.int .i64 (l.getD j 0))) ∧ Hid (Below w.heap.size w w') := by
  subst hl hK
  refine (refAsks_any code dst a b c w).mono fun e w' ⟨v, he, hi, hb⟩ => ?_
  obtain ⟨ad, b', off, cap, rfl, h1, h2⟩ := hi
  exact ⟨ad, b', off, cap, he, ⟨fun h => (h1 h).1, h2⟩, hb⟩
end Nx
end Go.Proofs.YtgjhfmkilpmfnaaGreatDoor
