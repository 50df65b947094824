/- The program's writer: ways, variables. -/
import Derived.Test.YtpbfmfhjgghldaaDoorJWr7
import Derived.Deep.RegionHeld3
import Derived.Test.YtpbfmfhjgghldaaDoorJRead
namespace Go.Proofs.YtpbfmfhjgghldaaDoor
open Go.RowKit Go.Lib Go.Sort Px

theorem itoaN {w : World} (n : Nat) (h0 : n ≤ 1000) (hp : Lib.TabIs Tryd.prog w "internal/strconv.uint64pow10" .u64 Lib.pow10Tab) :
    Calls Tryd.prog 78 #[.int .i64 n] w fun e w' => e = .returned (.string ⟨(Lib.itoa n).toArray⟩) ∧ Below w.heap.size w w' := by
  refine (Tryd.strconv_Itoa n (by omega) (by omega) w hp).mono ?_
  rintro e w' ⟨rfl, k, os, rfl⟩
  exact ⟨rfl, ⟨rfl, rfl, rfl, by simp [grow, World.drewN], fun i hi => by simp [grow, World.drewN, Array.getElem?_append_left hi]⟩⟩

set_option maxRecDepth 100000 in
set_option maxHeartbeats 4000000 in
theorem wway_any {wb : Nat} {w : World} {v p q : Value} {t : Str} {d : Nat} (y : Wy) (hy : GoodWay y) (hd : d ≤ 1000) (hW : WAt wb w v t d) (hE : WEnv wb w) (hp : IsE (· < wb) w y.cond p) (hq : IsSets (· < wb) w y.sets q) (hlim : t.length + (padT d ++ wayT y ++ [10]).length ≤ 140737488355328) :
    Calls Tryd.prog 61 #[.pointer (some ⟨wb, 0, none⟩), .agg #[.int .i64 y.kind, .bool y.now, p, .int .i64 y.times, q, .string ⟨y.to.toArray⟩, .bool y.back]] w fun e' w' => e' = .returned (.tuple #[]) ∧ Wrote wb w v (t ++ (padT d ++ wayT y ++ [10])) d w' := by
  obtain ⟨P, hP⟩ : ∃ P, Hid (P = padT d) := ⟨_, rfl⟩
  obtain ⟨K, hK⟩ : ∃ K, Hid (K = leadT y.kind) := ⟨_, rfl⟩
  obtain ⟨NW, hNW⟩ : ∃ NW, Hid (NW = if y.now then ([32, 105, 109, 109, 101, 100, 105, 97, 116, 101] : Str) else []) := ⟨_, rfl⟩
  obtain ⟨CT, hCT⟩ : ∃ CT, Hid (CT = condT y) := ⟨_, rfl⟩
  obtain ⟨DT, hDT⟩ : ∃ DT, Hid (DT = doesT y.sets) := ⟨_, rfl⟩
  obtain ⟨BK, hBK⟩ : ∃ BK, Hid (BK = if y.back then ([32, 104, 105, 115, 116, 111, 114, 121] : Str) else []) := ⟨_, rfl⟩
  have HT : Hid (padT d ++ wayT y ++ [10] = P ++ K ++ NW ++ CT ++ DT ++ ([32, 45, 45, 62, 32] ++ y.to) ++ BK ++ [59, 10]) := by
    rw [Hid, wayT, hP.out, hK.out, hNW.out, hCT.out, hDT.out, hBK.out]; simp [List.append_assoc]
  rw [HT.out] at hlim ⊢
  have HL : Hid (t.length + P.length + K.length + NW.length + CT.length + DT.length + (5 + y.to.length) + BK.length + 2 ≤ 140737488355328) := by rw [Hid]; simp at hlim; omega
  clear hlim
  obtain ⟨g1, g2, g3, g4⟩ := hy
  have HG : Hid (GoodE y.cond ∧ GoodSets y.sets ∧ y.kind ≤ 2 ∧ y.times ≤ 1000) := ⟨g3, g4, g1, g2⟩
  clear g1 g2 g3 g4
  obtain ⟨u, rfl⟩ : ∃ u, p = .pointer u := by
    cases he : y.cond with
    | nil => rw [he] at hp; exact ⟨none, hp⟩
    | node _ _ _ _ _ => rw [he] at hp; obtain ⟨g', _, _, e, _⟩ := hp; exact ⟨_, e⟩
  obtain ⟨ao, cap, rfl⟩ := hq.cut
  obtain ⟨M, hM⟩ : ∃ M, Hid (M = y.sets.length) := ⟨_, rfl⟩
  rw [← hM.out] at hq ⊢
  obtain ⟨nw, hnw⟩ : ∃ x, Hid (x = y.now) := ⟨_, rfl⟩
  obtain ⟨bk, hbkw⟩ : ∃ x, Hid (x = y.back) := ⟨_, rfl⟩
  rw [show y.now = nw from hnw.out.symm, show y.back = bk from hbkw.out.symm]
  obtain ⟨S0, hb, nb, nv⟩ := hW.local #[.int .i64 y.kind, .bool nw, .pointer u, .int .i64 y.times, .slice ao M cap, .string ⟨y.to.toArray⟩, .bool bk] 103
  have hleave : ∀ wk vk t', WSt wb (w.alloc (.cells #[.int .i64 y.kind, .bool nw, .pointer u, .int .i64 y.times, .slice ao M cap, .string ⟨y.to.toArray⟩, .bool bk] 103)) v wk vk t' d → Wrote wb w v t' d wk := fun wk vk t' h => h.leave hW
  have hE0 := ((WSt.start hW).alloc (.cells #[.int .i64 y.kind, .bool nw, .pointer u, .int .i64 y.times, .slice ao M cap, .string ⟨y.to.toArray⟩, .bool bk] 103)).env hE
  have kp : Keep (· < wb) (· < wb) w (w.alloc (.cells #[.int .i64 y.kind, .bool nw, .pointer u, .int .i64 y.times, .slice ao M cap, .string ⟨y.to.toArray⟩, .bool bk] 103)) := fun b hb' hl => ⟨hb', heap_alloc_old _ _ hl⟩
  have hp0 := hp.carry kp
  have hq0 : Hid _ := IsSets.carry kp hq
  clear kp hp hq
  go_enter Tryd.func61, Tryd.ntmps61
  go_upto_region 1 with fail
  generalize w.alloc (.cells #[.int .i64 y.kind, .bool nw, .pointer u, .int .i64 y.times, .slice ao M cap, .string ⟨y.to.toArray⟩, .bool bk] 103) = W at S0 hb hleave hE0 hp0 hq0 ⊢
  go_upto_if 13 with (first
    | (go_at_call 31; refine (begin_any S0.at_ hd (by rw [← hP.out]; have := HL.out; omega)).mono ?_; rintro _ w1 ⟨rfl, hw1⟩; rw [← hP.out] at hw1; obtain ⟨v1, S1⟩ := S0.step hw1; obtain ⟨y0, -⟩ := cel (S1.blk hb nb nv) 0 _ rfl)
    | (go_at_call 77; refine (leadBy_any HG.out.2.2.1 (S1.env hE0).tabs).mono ?_; rintro _ w2 ⟨rfl, hb2⟩; rw [← hK.out]; have S2 := S1.below hb2)
    | (go_at_call 11; refine (say1 S2.at_ K (by have := HL.out; simp; omega)).mono ?_; rintro _ w3 ⟨rfl, hw3⟩; obtain ⟨v3, S3⟩ := S2.step hw3; obtain ⟨y1, -⟩ := cel (S3.blk hb nb nv) 1 (.bool nw) rfl; rw [show nw = y.now from hnw.out] at y1))
  go_cut [] (fun wx => Hid (∃ vx, WSt wb W v wx vx (t ++ P ++ K ++ NW) d))
  case first =>
    by_cases hnow : y.now = true
    · have H : Hid (NW = [32, 105, 109, 109, 101, 100, 105, 97, 116, 101]) := by rw [Hid, hNW.out, hnow]; rfl
      rw [hnow] at y1 ⊢
      go_wp2_with (go_at_call 11; refine (say1 S3.at_ [32, 105, 109, 109, 101, 100, 105, 97, 116, 101] (by have := HL.out; rw [H.out] at this; simp at this ⊢; omega)).mono ?_; rintro _ w4 ⟨rfl, hw4⟩; obtain ⟨v4, S4⟩ := S3.step hw4)
      go_meet
      exact ⟨v4, by rw [H.out]; exact S4⟩
    · replace hnow : y.now = false := by simpa using hnow
      have H : Hid (NW = []) := by rw [Hid, hNW.out, hnow]; rfl
      rw [hnow] at y1 ⊢
      go_wp2_with fail
      go_meet
      exact ⟨v3, by rw [H.out, List.append_nil]; exact S3⟩
  case rest =>
    obtain ⟨v4, S4⟩ := hcut.out
    clear hcut S1 S2 S3 y0 y1 hw1 hw3 hb2
    obtain ⟨y2, -⟩ := cel (S4.blk hb nb nv) 2 _ rfl
    go_upto_if 19 with fail
    go_cut [] (fun wx => Hid (∃ vx, WSt wb W v wx vx (t ++ P ++ K ++ NW ++ CT) d))
    case first =>
      by_cases hcn : Hid (y.cond = .nil)
      · have H : Hid (CT = []) := by rw [Hid, hCT.out, condT, hcn.out]
        obtain rfl : u = none := by rw [hcn.out] at hp0; injection hp0
        go_wp2_with fail
        go_meet
        exact ⟨v4, by rw [H.out, List.append_nil]; exact S4⟩
      · obtain ⟨X, hX⟩ : ∃ X, Hid (X = exprT y.cond 0) := ⟨_, rfl⟩
        obtain ⟨a, rfl⟩ : ∃ a, u = some a := by
          cases he : y.cond with
          | nil => exact absurd he hcn
          | node _ _ _ _ _ => rw [he] at hp0; obtain ⟨g', _, _, e, _⟩ := hp0; injection e with e; exact ⟨_, e⟩
        have hcd : ∀ z, condT { y with times := z } = [32, 105, 102, 32] ++ (if 1 < z then [99, 111, 117, 110, 116, 32] ++ itoa z ++ [32] else []) ++ X := fun z => by
          rw [hX.out]
          cases he : y.cond with
          | nil => exact absurd he hcn
          | node _ _ _ _ _ => simp [condT]
        by_cases ht : 1 < y.times
        · have H : Hid (CT = [32, 105, 102, 32] ++ ([99, 111, 117, 110, 116, 32] ++ (itoa y.times ++ [32])) ++ X) := by
            rw [Hid, hCT.out]; have := hcd y.times; rw [if_pos ht] at this; rw [List.append_assoc [99, 111, 117, 110, 116, 32]] at this; exact this
          have ht1 : (1 : Int) < (y.times : Int) := by omega
          have HLc : Hid (CT.length = 4 + (6 + ((itoa y.times).length + 1)) + X.length) := by rw [Hid, H.out]; simp; omega
          have T1 : Hid True := trivial
          go_wp2_with (first
            | (go_at_call 11; clear T1; refine (say1 S4.at_ [32, 105, 102, 32] (by have := HL.out; have := HLc.out; simp; omega)).mono ?_; rintro _ w5 ⟨rfl, hw5⟩; obtain ⟨v5, S5⟩ := S4.step hw5; obtain ⟨y3, -⟩ := cel (S5.blk hb nb nv) 3 _ rfl)
            | (go_at_call 78; refine (itoaN y.times HG.out.2.2.2 (S5.env hE0).pow).mono ?_; rintro _ w6 ⟨rfl, hb6⟩; have S6 := S5.below hb6)
            | (go_at_call 11; refine (say3 S6.at_ [99, 111, 117, 110, 116, 32] (itoa y.times) [32] (by have := HL.out; have := HLc.out; simp; omega)).mono ?_; rintro _ w7 ⟨rfl, hw7⟩; obtain ⟨v7, S7⟩ := S6.step hw7; obtain ⟨y4, -⟩ := cel (S7.blk hb nb nv) 2 _ rfl)
            | (go_at_call 60; refine (expr_top HG.out.1 S7.at_ (hp0.carry S7.keep) (S7.env hE0) (by rw [← hX.out]; have := HL.out; have := HLc.out; simp; omega)).mono ?_; rintro _ w8 ⟨rfl, hw8⟩; rw [← hX.out] at hw8; obtain ⟨v8, S8⟩ := S7.step hw8))
          go_meet
          exact ⟨v8, by rw [H.out]; simpa [List.append_assoc] using S8⟩
        · have H : Hid (CT = [32, 105, 102, 32] ++ X) := by
            rw [Hid, hCT.out]; have := hcd y.times; rw [if_neg ht, List.append_nil] at this; exact this
          have ht1 : ¬ (1 : Int) < (y.times : Int) := by omega
          have HLc : Hid (CT.length = 4 + X.length) := by rw [Hid, H.out]; simp; omega
          go_wp2_with (first
            | (go_at_call 11; refine (say1 S4.at_ [32, 105, 102, 32] (by have := HL.out; have := HLc.out; simp; omega)).mono ?_; rintro _ w5 ⟨rfl, hw5⟩; obtain ⟨v5, S5⟩ := S4.step hw5; obtain ⟨y3, -⟩ := cel (S5.blk hb nb nv) 3 _ rfl; obtain ⟨y4, -⟩ := cel (S5.blk hb nb nv) 2 _ rfl)
            | (go_at_call 60; refine (expr_top HG.out.1 S5.at_ (hp0.carry S5.keep) (S5.env hE0) (by rw [← hX.out]; have := HL.out; have := HLc.out; simp; omega)).mono ?_; rintro _ w8 ⟨rfl, hw8⟩; rw [← hX.out] at hw8; obtain ⟨v8, S8⟩ := S5.step hw8))
          go_meet
          exact ⟨v8, by rw [H.out]; simpa [List.append_assoc] using S8⟩
    case rest =>
      obtain ⟨v5, S5⟩ := hcut.out
      clear hcut S4 y2
      obtain ⟨y4, -⟩ := cel (S5.blk hb nb nv) 4 _ rfl
      go_upto_if 39 with fail
      go_cut [] (fun wx => Hid (∃ vx, WSt wb W v wx vx (t ++ P ++ K ++ NW ++ CT ++ DT) d))
      case first =>
        by_cases hsn : Hid (y.sets = [])
        · have H : Hid (DT = []) := by rw [Hid, hDT.out, doesT, if_pos hsn.out]
          have hM0 : M = 0 := by rw [hM.out, hsn.out]; rfl
          have hM1 : ¬ (0 : Int) < (M : Int) := by omega
          have hM2 : ¬ 0 < M := by omega
          clear hM0
          go_wp2_with fail
          go_meet
          exact ⟨v5, by rw [H.out, List.append_nil]; exact S5⟩
        · have H : Hid (DT = [32, 100, 111, 32] ++ setsT y.sets) := by rw [Hid, hDT.out, doesT, if_neg (show ¬ y.sets = [] from hsn)]
          have hM0 : 0 < M := by rw [hM.out]; exact List.length_pos_iff.2 hsn
          have hM1 : (0 : Int) < (M : Int) := by omega
          have HLc : Hid (DT.length = 4 + (setsT y.sets).length) := by rw [Hid, H.out]; simp; omega
          go_wp2_with (first
            | (go_at_call 11; refine (say1 S5.at_ [32, 100, 111, 32] (by have := HL.out; have := HLc.out; simp; omega)).mono ?_; rintro _ w6 ⟨rfl, hw6⟩; obtain ⟨v6, S6⟩ := S5.step hw6; obtain ⟨y5, -⟩ := cel (S6.blk hb nb nv) 4 _ rfl)
            | (go_at_call 73; refine (wsets_any hsn HG.out.2.1 S6.at_ (S6.env hE0) (IsSets.carry S6.keep hq0.out) (by have := HL.out; have := HLc.out; simp; omega)).mono ?_; rintro _ w7 ⟨rfl, hw7⟩; obtain ⟨v7, S7⟩ := S6.step hw7))
          go_meet
          exact ⟨v7, by rw [H.out]; simpa [List.append_assoc] using S7⟩
      case rest =>
        obtain ⟨v6, S6⟩ := hcut.out
        clear hcut S5 y4
        obtain ⟨y5, -⟩ := cel (S6.blk hb nb nv) 5 _ rfl
        go_upto_if 53 with (go_at_call 11; refine (say2 S6.at_ [32, 45, 45, 62, 32] y.to (by have := HL.out; simp; omega)).mono ?_; rintro _ w7 ⟨rfl, hw7⟩; obtain ⟨v7, S7⟩ := S6.step hw7; obtain ⟨y6, -⟩ := cel (S7.blk hb nb nv) 6 (.bool bk) rfl; rw [show bk = y.back from hbkw.out] at y6)
        go_cut [] (fun wx => Hid (∃ vx, WSt wb W v wx vx (t ++ P ++ K ++ NW ++ CT ++ DT ++ ([32, 45, 45, 62, 32] ++ y.to) ++ BK) d))
        case first =>
          by_cases hbk : y.back = true
          · have H : Hid (BK = [32, 104, 105, 115, 116, 111, 114, 121]) := by rw [Hid, hBK.out, hbk]; rfl
            rw [hbk] at y6 ⊢
            go_wp2_with (go_at_call 11; refine (say1 S7.at_ [32, 104, 105, 115, 116, 111, 114, 121] (by have := HL.out; rw [H.out] at this; simp at this ⊢; omega)).mono ?_; rintro _ w8 ⟨rfl, hw8⟩; obtain ⟨v8, S8⟩ := S7.step hw8)
            go_meet
            exact ⟨v8, by rw [H.out]; exact S8⟩
          · replace hbk : y.back = false := by simpa using hbk
            have H : Hid (BK = []) := by rw [Hid, hBK.out, hbk]; rfl
            rw [hbk] at y6 ⊢
            go_wp2_with fail
            go_meet
            exact ⟨v7, by rw [H.out, List.append_nil]; exact S7⟩
        case rest =>
          obtain ⟨v8, S8⟩ := hcut.out
          clear hcut
          go_wp2_with (go_at_call 11; refine (say1 S8.at_ [59, 10] (by have := HL.out; simp; omega)).mono ?_; rintro _ w9 ⟨rfl, hw9⟩; obtain ⟨v9, S9⟩ := S8.step hw9)
          go_end0
          exact ⟨rfl, by have := hleave _ _ _ S9; simpa [List.append_assoc] using this⟩
end Go.Proofs.YtpbfmfhjgghldaaDoor
/- The program's writer: variables; braced. -/
namespace Go.Proofs.YtpbfmfhjgghldaaDoor
open Go.RowKit Go.Lib Go.Sort Px

set_option maxRecDepth 100000 in
set_option maxHeartbeats 4000000 in
theorem wvar_any {wb : Nat} {w : World} {v : Value} {t : Str} (y : Decl) (hy : GoodDecl y) (hW : WAt wb w v t 1) (hE : WEnv wb w) (hlim : t.length + (declT y).length ≤ 140737488355328) :
    Calls Tryd.prog 14 #[.pointer (some ⟨wb, 0, none⟩), .agg #[.int .i64 y.kind, .string ⟨y.name.toArray⟩, .int .i64 y.first]] w fun e' w' => e' = .returned (.tuple #[]) ∧ Wrote wb w v (t ++ declT y) 1 w' := by
  obtain ⟨K, hK⟩ : ∃ K, Hid (K = kindT y.kind) := ⟨_, rfl⟩
  obtain ⟨FT, hFT⟩ : ∃ FT : Str, Hid (FT = if y.first ≠ 0 then ([32, 58, 61, 32] : Str) ++ itoa y.first else []) := ⟨_, rfl⟩
  have HT : Hid (declT y = padT 1 ++ (K ++ ([32] ++ y.name)) ++ FT ++ [59, 10]) := by rw [Hid, declT, hK.out, hFT.out]; simp [padT, List.append_assoc]
  rw [HT.out] at hlim ⊢
  have HL : Hid (t.length + 2 + (K.length + (1 + y.name.length)) + FT.length + 2 ≤ 140737488355328) := by rw [Hid]; simp [padT_len] at hlim; omega
  clear hlim
  obtain ⟨g1, g2, g3, g4⟩ := hy
  obtain ⟨S0, hb, nb, nv⟩ := hW.local #[.int .i64 y.kind, .string ⟨y.name.toArray⟩, .int .i64 y.first] 34
  have hleave : ∀ wk vk t', WSt wb (w.alloc (.cells #[.int .i64 y.kind, .string ⟨y.name.toArray⟩, .int .i64 y.first] 34)) v wk vk t' 1 → Wrote wb w v t' 1 wk := fun wk vk t' h => h.leave hW
  have hE0 := ((WSt.start hW).alloc (.cells #[.int .i64 y.kind, .string ⟨y.name.toArray⟩, .int .i64 y.first] 34)).env hE
  go_enter Tryd.func14, Tryd.ntmps14
  go_upto_region 1 with fail
  generalize w.alloc (.cells #[.int .i64 y.kind, .string ⟨y.name.toArray⟩, .int .i64 y.first] 34) = W at S0 hb hleave hE0 ⊢
  go_upto_region 2 with (go_at_call 31; refine (begin_any S0.at_ (by omega) (by have := HL.out; rw [padT_len]; omega)).mono ?_; rintro _ w1 ⟨rfl, hw1⟩; obtain ⟨v1, S1⟩ := S0.step hw1)
  have HS8 : Hid (∀ wk vk tk dk, WSt wb W v wk vk tk dk → wk.cell? ⟨w.heap.size, 0, none⟩ = some (.int .i64 y.kind) ∧ wk.cell? ⟨w.heap.size, 1, none⟩ = some (.string ⟨y.name.toArray⟩)) := fun wk vk tk dk h => ⟨(cel (h.blk hb nb nv) 0 _ rfl).1, (cel (h.blk hb nb nv) 1 _ rfl).1⟩
  have hS1 := HS8.out _ _ _ _ S1.drew
  go_region_held3 (fun w' => w'.cell? ⟨w.heap.size, 0, none⟩ = some (.int .i64 y.kind) ∧ w'.cell? ⟨w.heap.size, 1, none⟩ = some (.string ⟨y.name.toArray⟩))
    (first | with_reducible exact hS3 | with_reducible exact hS2 | with_reducible exact hS1 | go_keep)
    (first
      | (go_at_call 32; refine (wordOf_any g1 g2 (S1.drew.env hE0).tabs).mono ?_; rintro _ w2 ⟨rfl, hb2⟩; rw [← hK.out]; have S2 := S1.drew.below hb2; have hS2 := HS8.out _ _ _ _ S2)
      | (go_at_call 11; refine (say3 S2.at_ K [32] y.name (by have := HL.out; simp [padT_len]; omega)).mono ?_; rintro _ w3 ⟨rfl, hw3⟩; obtain ⟨v3, S3⟩ := S2.step hw3; have hS3 := HS8.out _ _ _ _ S3; obtain ⟨y2, -⟩ := cel (S3.blk hb nb nv) 2 _ rfl))
  go_upto_if 16 with fail
  go_cut [] (fun wx => Hid (∃ vx, WSt wb W v wx vx (t ++ padT 1 ++ (K ++ ([32] ++ y.name)) ++ FT) 1))
  case first =>
    by_cases h0 : y.first = 0
    · have H : Hid (FT = []) := by rw [Hid, hFT.out, if_neg (by simp [h0])]
      rw [h0] at y2
      have hz : (y.first != 0) = false := by simp [h0]
      try rw [hz]
      go_wp2_with fail
      go_meet
      exact ⟨v3, by rw [H.out, List.append_nil]; exact S3⟩
    · have H : Hid (FT = [32, 58, 61, 32] ++ itoa y.first) := by rw [Hid, hFT.out, if_pos h0]
      have HLc : Hid (FT.length = 4 + (itoa y.first).length) := by rw [Hid, H.out]; simp; omega
      go_wp2_with (first
        | (go_at_call 33; refine (formatInt y.first ⟨g3, g4⟩ (S3.env hE0).pow).mono ?_; rintro _ w4 ⟨rfl, hb4⟩; have S4 := S3.below hb4)
        | (go_at_call 11; refine (say2 S4.at_ [32, 58, 61, 32] (itoa y.first) (by have := HL.out; have := HLc.out; simp [padT_len]; omega)).mono ?_; rintro _ w5 ⟨rfl, hw5⟩; obtain ⟨v5, S5⟩ := S4.step hw5))
      go_meet
      exact ⟨v5, by rw [H.out]; simpa [List.append_assoc] using S5⟩
  case rest =>
    obtain ⟨v5, S5⟩ := hcut.out
    clear hcut
    go_wp2_with (go_at_call 11; refine (say1 S5.at_ [59, 10] (by have := HL.out; simp [padT_len]; omega)).mono ?_; rintro _ w6 ⟨rfl, hw6⟩; obtain ⟨v6, S6⟩ := S5.step hw6)
    go_end0
    exact ⟨rfl, by have := hleave _ _ _ S6; simpa [List.append_assoc] using this⟩

set_option maxRecDepth 100000 in
set_option maxHeartbeats 4000000 in
/-- braced around what a closure writes -/
theorem braced_print {wb : Nat} {w : World} {v c1 c2 : Value} {t X : Str} {d : Nat} (hd : d ≤ 900) (hW : WAt wb w v t d) (hlim : t.length + ([32, 123, 10] ++ X ++ padT d ++ [125, 10]).length ≤ 140737488355328)
    (hin : ∀ w1 v1, WSt wb w v w1 v1 (t ++ [32, 123, 10]) (d + 1) → Calls Tryd.prog 13 #[c1, c2] w1 fun e w2 => e = .returned (.tuple #[]) ∧ Wrote wb w1 v1 (t ++ [32, 123, 10] ++ X) (d + 1) w2) :
    Calls Tryd.prog 12 #[.pointer (some ⟨wb, 0, none⟩), .func (.func 13) #[] #[c1, c2]] w fun e' w' => e' = .returned (.tuple #[]) ∧ Wrote wb w v (t ++ ([32, 123, 10] ++ X ++ padT d ++ [125, 10])) d w' := by
  have HL : Hid (t.length + 3 + X.length + (padT d).length + 2 ≤ 140737488355328) := by rw [Hid]; simp at hlim; omega
  have HI : Hid _ := hin
  have S0 := WSt.start hW
  have T1 : Hid True := trivial
  have T2 : Hid True := trivial
  have hw1 : IntKind.i64.wrap ((d : Int) + 1) = ((d + 1 : Nat) : Int) := wrap_small (by omega)
  have hw2 : IntKind.i64.wrap (((d + 1 : Nat) : Int) - 1) = (d : Int) := by rw [IntKind.wrap_i64]; omega
  obtain ⟨m, hm⟩ : ∃ m, m = d + 1 := ⟨_, rfl⟩
  rw [← hm] at hw1 hw2 HI
  clear hlim hin hm
  go_enter Tryd.func12, Tryd.ntmps12
  go_wp2_with (first
    | (go_at_call 11; clear T1; refine (say1 hW [32, 123, 10] (by have := HL.out; simp; omega)).mono ?_; rintro _ w1 ⟨rfl, hw1'⟩; obtain ⟨v1, S1⟩ := S0.step hw1'; obtain ⟨c1', z1⟩ := S1.cells; have S2 := S1.deep m)
    | (go_at_call 13; refine (HI.out _ _ S2).mono ?_; rintro _ w3 ⟨rfl, hw3⟩; obtain ⟨v3, S3⟩ := S2.step hw3; obtain ⟨c3, z3⟩ := S3.cells; have S4 := S3.deep d)
    | (go_at_call 31; refine (begin_any S4.at_ (by omega) (by have := HL.out; simp; omega)).mono ?_; rintro _ w5 ⟨rfl, hw5⟩; obtain ⟨v5, S5⟩ := S4.step hw5)
    | (go_at_call 11; refine (say1 S5.at_ [125, 10] (by have := HL.out; simp; omega)).mono ?_; rintro _ w6 ⟨rfl, hw6⟩; obtain ⟨v6, S6⟩ := S5.step hw6))
  go_end0
  exact ⟨rfl, by have := S6.out; simpa [List.append_assoc] using this⟩

set_option maxRecDepth 100000 in
set_option maxHeartbeats 4000000 in
/-- braced around what a closure writes -/
theorem braced_regions {wb : Nat} {w : World} {v c1 c2 : Value} {t X : Str} {d : Nat} (hd : d ≤ 900) (hW : WAt wb w v t d) (hlim : t.length + ([32, 123, 10] ++ X ++ padT d ++ [125, 10]).length ≤ 140737488355328)
    (hin : ∀ w1 v1, WSt wb w v w1 v1 (t ++ [32, 123, 10]) (d + 1) → Calls Tryd.prog 34 #[c1, c2] w1 fun e w2 => e = .returned (.tuple #[]) ∧ Wrote wb w1 v1 (t ++ [32, 123, 10] ++ X) (d + 1) w2) :
    Calls Tryd.prog 12 #[.pointer (some ⟨wb, 0, none⟩), .func (.func 34) #[] #[c1, c2]] w fun e' w' => e' = .returned (.tuple #[]) ∧ Wrote wb w v (t ++ ([32, 123, 10] ++ X ++ padT d ++ [125, 10])) d w' := by
  have HL : Hid (t.length + 3 + X.length + (padT d).length + 2 ≤ 140737488355328) := by rw [Hid]; simp at hlim; omega
  have HI : Hid _ := hin
  have S0 := WSt.start hW
  have T1 : Hid True := trivial
  have T2 : Hid True := trivial
  have hw1 : IntKind.i64.wrap ((d : Int) + 1) = ((d + 1 : Nat) : Int) := wrap_small (by omega)
  have hw2 : IntKind.i64.wrap (((d + 1 : Nat) : Int) - 1) = (d : Int) := by rw [IntKind.wrap_i64]; omega
  obtain ⟨m, hm⟩ : ∃ m, m = d + 1 := ⟨_, rfl⟩
  rw [← hm] at hw1 hw2 HI
  clear hlim hin hm
  go_enter Tryd.func12, Tryd.ntmps12
  go_wp2_with (first
    | (go_at_call 11; clear T1; refine (say1 hW [32, 123, 10] (by have := HL.out; simp; omega)).mono ?_; rintro _ w1 ⟨rfl, hw1'⟩; obtain ⟨v1, S1⟩ := S0.step hw1'; obtain ⟨c1', z1⟩ := S1.cells; have S2 := S1.deep m)
    | (go_at_call 34; refine (HI.out _ _ S2).mono ?_; rintro _ w3 ⟨rfl, hw3⟩; obtain ⟨v3, S3⟩ := S2.step hw3; obtain ⟨c3, z3⟩ := S3.cells; have S4 := S3.deep d)
    | (go_at_call 31; refine (begin_any S4.at_ (by omega) (by have := HL.out; simp; omega)).mono ?_; rintro _ w5 ⟨rfl, hw5⟩; obtain ⟨v5, S5⟩ := S4.step hw5)
    | (go_at_call 11; refine (say1 S5.at_ [125, 10] (by have := HL.out; simp; omega)).mono ?_; rintro _ w6 ⟨rfl, hw6⟩; obtain ⟨v6, S6⟩ := S5.step hw6))
  go_end0
  exact ⟨rfl, by have := S6.out; simpa [List.append_assoc] using this⟩

set_option maxRecDepth 100000 in
set_option maxHeartbeats 4000000 in
/-- braced around what a closure writes -/
theorem braced_state {wb : Nat} {w : World} {v c1 c2 : Value} {t X : Str} {d : Nat} (hd : d ≤ 900) (hW : WAt wb w v t d) (hlim : t.length + ([32, 123, 10] ++ X ++ padT d ++ [125, 10]).length ≤ 140737488355328)
    (hin : ∀ w1 v1, WSt wb w v w1 v1 (t ++ [32, 123, 10]) (d + 1) → Calls Tryd.prog 49 #[c1, c2] w1 fun e w2 => e = .returned (.tuple #[]) ∧ Wrote wb w1 v1 (t ++ [32, 123, 10] ++ X) (d + 1) w2) :
    Calls Tryd.prog 12 #[.pointer (some ⟨wb, 0, none⟩), .func (.func 49) #[] #[c1, c2]] w fun e' w' => e' = .returned (.tuple #[]) ∧ Wrote wb w v (t ++ ([32, 123, 10] ++ X ++ padT d ++ [125, 10])) d w' := by
  have HL : Hid (t.length + 3 + X.length + (padT d).length + 2 ≤ 140737488355328) := by rw [Hid]; simp at hlim; omega
  have HI : Hid _ := hin
  have S0 := WSt.start hW
  have T1 : Hid True := trivial
  have T2 : Hid True := trivial
  have hw1 : IntKind.i64.wrap ((d : Int) + 1) = ((d + 1 : Nat) : Int) := wrap_small (by omega)
  have hw2 : IntKind.i64.wrap (((d + 1 : Nat) : Int) - 1) = (d : Int) := by rw [IntKind.wrap_i64]; omega
  obtain ⟨m, hm⟩ : ∃ m, m = d + 1 := ⟨_, rfl⟩
  rw [← hm] at hw1 hw2 HI
  clear hlim hin hm
  go_enter Tryd.func12, Tryd.ntmps12
  go_wp2_with (first
    | (go_at_call 11; clear T1; refine (say1 hW [32, 123, 10] (by have := HL.out; simp; omega)).mono ?_; rintro _ w1 ⟨rfl, hw1'⟩; obtain ⟨v1, S1⟩ := S0.step hw1'; obtain ⟨c1', z1⟩ := S1.cells; have S2 := S1.deep m)
    | (go_at_call 49; refine (HI.out _ _ S2).mono ?_; rintro _ w3 ⟨rfl, hw3⟩; obtain ⟨v3, S3⟩ := S2.step hw3; obtain ⟨c3, z3⟩ := S3.cells; have S4 := S3.deep d)
    | (go_at_call 31; refine (begin_any S4.at_ (by omega) (by have := HL.out; simp; omega)).mono ?_; rintro _ w5 ⟨rfl, hw5⟩; obtain ⟨v5, S5⟩ := S4.step hw5)
    | (go_at_call 11; refine (say1 S5.at_ [125, 10] (by have := HL.out; simp; omega)).mono ?_; rintro _ w6 ⟨rfl, hw6⟩; obtain ⟨v6, S6⟩ := S5.step hw6))
  go_end0
  exact ⟨rfl, by have := S6.out; simpa [List.append_assoc] using this⟩
end Go.Proofs.YtpbfmfhjgghldaaDoor
/- The program's writer: whether a state is bare; what states must be. -/
namespace Go.Proofs.YtpbfmfhjgghldaaDoor
open Go.RowKit Go.Lib Go.Sort Px

/-- a state such as there are -/
def Px.OkStF {ρ : Type} (G : ρ → Prop) (x : StF ρ) : Prop :=
  (GoodSets x.enter ∧ GoodSets x.during ∧ GoodSets x.leave ∧ GoodE x.rests ∧ ∀ y ∈ x.ways, GoodWay y) ∧ (x.enter.length ≤ 10000 ∧ x.during.length ≤ 10000 ∧ x.leave.length ≤ 10000) ∧ ∀ r ∈ x.regions, ∀ s ∈ r, G s
def Px.OkSt : (k : Nat) → St k → Prop
  | 0 => fun _ => True
  | k + 1 => fun s => OkStF (OkSt k) s
/-- regions are written -/
def RegsW (k : Nat) : Prop := ∀ (wb : Nat) (w : World) (v p : Value) (t : Str) (d : Nat) (l : List (List (St k))), d + 2 * k ≤ 800 → WAt wb w v t d → WEnv wb w → (∀ r ∈ l, ∀ s ∈ r, OkSt k s) → IsRegs (· < wb) w (IsStates (· < wb) w k) l p → t.length + (regT (stateT k) l d).length ≤ 140737488355328 →
  Calls Tryd.prog 15 #[.pointer (some ⟨wb, 0, none⟩), p] w fun e' w' => e' = .returned (.tuple #[]) ∧ Wrote wb w v (t ++ regT (stateT k) l d) d w'

set_option maxRecDepth 100000 in
set_option maxHeartbeats 2000000 in
theorem isBare_any {w : World} {s : ByteArray} {f la : Bool} {a3 a4 a5 a7 a8 u : Option Addr} {n3 n4 n5 n7 n8 m3 m4 m5 m7 m8 : Nat} (h3 : n3 ≤ 10000) (h4 : n4 ≤ 10000) (h5 : n5 ≤ 10000) :
    Calls Tryd.prog 48 #[.agg #[.string s, .bool f, .bool la, .slice a3 n3 m3, .slice a4 n4 m4, .slice a5 n5 m5, .pointer u, .slice a7 n7 m7, .slice a8 n8 m8]] w fun e w' => e = .returned (.bool (decide (n3 + n4 + n5 = 0 ∧ u = none ∧ n7 = 0 ∧ n8 = 0))) ∧ Below w.heap.size w w' := by
  obtain ⟨q, hq⟩ : ∃ q, Hid (q = n3 + n4) := ⟨_, rfl⟩
  obtain ⟨z, hz⟩ : ∃ z, Hid (z = n3 + n4 + n5) := ⟨_, rfl⟩
  have hw1 : IntKind.i64.wrap ((n3 : Int) + (n4 : Int)) = (q : Int) := by rw [IntKind.wrap_i64, hq.out]; omega
  have hw2 : IntKind.i64.wrap ((q : Int) + (n5 : Int)) = (z : Int) := by rw [IntKind.wrap_i64, hq.out, hz.out]; omega
  rw [show n3 + n4 + n5 = z from hz.out.symm]
  clear h3 h4 h5
  have hb := (Below.refl w.heap.size w).alloc (Nat.le_refl _) (.cells #[.string s, .bool f, .bool la, .slice a3 n3 m3, .slice a4 n4 m4, .slice a5 n5 m5, .pointer u, .slice a7 n7 m7, .slice a8 n8 m8] 56)
  by_cases hz0 : z = 0
  · have i0 : (z : Int) = 0 := by omega
    have b0 : ((z : Int) == 0) = true := by simp [i0]
    cases u with
    | some a =>
      have H : Hid (decide (z = 0 ∧ (some a) = (none : Option Addr) ∧ n7 = 0 ∧ n8 = 0) = false) := by rw [Hid]; simp
      rw [H.out]
      go_enter Tryd.func48, Tryd.ntmps48
      go_wp2_with fail
      go_ret
      exact ⟨rfl, hb⟩
    | none =>
      by_cases h7 : n7 = 0
      · have i7 : (n7 : Int) = 0 := by omega
        have b7 : ((n7 : Int) == 0) = true := by simp [i7]
        by_cases h8 : n8 = 0
        · have b8 : ((n8 : Int) == 0) = true := by simp [h8]
          have H : Hid (decide (z = 0 ∧ (none : Option Addr) = none ∧ n7 = 0 ∧ n8 = 0) = true) := by rw [Hid]; simp [hz0, h7, h8]
          rw [H.out]
          clear hz0 h7 h8 i0 i7
          go_enter Tryd.func48, Tryd.ntmps48
          go_wp2_with fail
          go_ret
          exact ⟨rfl, hb⟩
        · have b8 : ((n8 : Int) == 0) = false := beq_false_of_ne (by omega)
          have H : Hid (decide (z = 0 ∧ (none : Option Addr) = none ∧ n7 = 0 ∧ n8 = 0) = false) := by rw [Hid]; simp [h8]
          rw [H.out]
          clear hz0 h7 h8 i0 i7
          go_enter Tryd.func48, Tryd.ntmps48
          go_wp2_with fail
          go_ret
          exact ⟨rfl, hb⟩
      · have b7 : ((n7 : Int) == 0) = false := beq_false_of_ne (by omega)
        have H : Hid (decide (z = 0 ∧ (none : Option Addr) = none ∧ n7 = 0 ∧ n8 = 0) = false) := by rw [Hid]; simp [h7]
        rw [H.out]
        clear hz0 h7 i0
        go_enter Tryd.func48, Tryd.ntmps48
        go_wp2_with fail
        go_ret
        exact ⟨rfl, hb⟩
  · have b0 : ((z : Int) == 0) = false := beq_false_of_ne (by omega)
    have H : Hid (decide (z = 0 ∧ u = none ∧ n7 = 0 ∧ n8 = 0) = false) := by rw [Hid]; simp [hz0]
    rw [H.out]
    clear hz0
    go_enter Tryd.func48, Tryd.ntmps48
    go_wp2_with fail
    go_ret
    exact ⟨rfl, hb⟩
end Go.Proofs.YtpbfmfhjgghldaaDoor
