/- The document's own Print: ways. -/
import Derived.Test.YtlgoclebedjiiaaGreatDoorJXr3
namespace Go.Proofs.YtlgoclebedjiiaaGreatDoor
open Go.RowKit Go.Lib Go.Sort Px

set_option maxRecDepth 100000 in
set_option maxHeartbeats 4000000 in
theorem xway_any {A : Nat → Prop} {w : World} {p q : Value} (y : Wy) (hy : GoodWay y) (hE : PEnv w) (hp : IsE A w y.cond p) (hq : IsSets A w y.sets q) (hlim : (wayT y).length ≤ 140737488355328) :
    Calls Tryz.prog 105 #[.agg #[.int .i64 y.kind, .bool y.now, p, .int .i64 y.times, q, .string ⟨y.to.toArray⟩, .bool y.back]] w fun e' w' => e' = .returned (.string ⟨(wayT y).toArray⟩) ∧ Below w.heap.size w w' := by
  obtain ⟨T1, hT1⟩ : ∃ T1, Hid (T1 = if y.kind = 1 then kAbort else kGo) := ⟨_, rfl⟩
  obtain ⟨T2, hT2⟩ : ∃ T2, Hid (T2 = leadT y.kind) := ⟨_, rfl⟩
  obtain ⟨NW, hNW⟩ : ∃ NW, Hid (NW = if y.now then ([32, 105, 109, 109, 101, 100, 105, 97, 116, 101] : Str) else []) := ⟨_, rfl⟩
  obtain ⟨CT, hCT⟩ : ∃ CT, Hid (CT = condT y) := ⟨_, rfl⟩
  obtain ⟨DT, hDT⟩ : ∃ DT, Hid (DT = doesT y.sets) := ⟨_, rfl⟩
  obtain ⟨BK, hBK⟩ : ∃ BK, Hid (BK = if y.back then ([32, 104, 105, 115, 116, 111, 114, 121] : Str) else []) := ⟨_, rfl⟩
  have HT : Hid (wayT y = T2 ++ NW ++ CT ++ DT ++ ([32, 45, 45, 62, 32] ++ y.to) ++ BK ++ [59]) := by
    rw [Hid, wayT, hT2.out, hNW.out, hCT.out, hDT.out, hBK.out]; simp [List.append_assoc]
  rw [HT.out] at hlim ⊢
  have HL : Hid (T2.length + NW.length + CT.length + DT.length + (5 + y.to.length) + BK.length + 1 ≤ 140737488355328) := by rw [Hid]; simp at hlim; omega
  clear hlim HT
  obtain ⟨T3, hT3⟩ : ∃ T3, Hid (T3 = T2 ++ NW) := ⟨_, rfl⟩
  obtain ⟨T4, hT4⟩ : ∃ T4, Hid (T4 = T3 ++ CT) := ⟨_, rfl⟩
  obtain ⟨T5, hT5⟩ : ∃ T5, Hid (T5 = T4 ++ DT) := ⟨_, rfl⟩
  obtain ⟨T6, hT6⟩ : ∃ T6 : Str, Hid (T6 = T5 ++ ([32, 45, 45, 62, 32] ++ y.to)) := ⟨T5 ++ ([32, 45, 45, 62, 32] ++ y.to), rfl⟩
  obtain ⟨T7, hT7⟩ : ∃ T7, Hid (T7 = T6 ++ BK) := ⟨_, rfl⟩
  have L3 : Hid (T3.length = T2.length + NW.length) := by rw [Hid, hT3.out, List.length_append]
  have L4 : Hid (T4.length = T3.length + CT.length) := by rw [Hid, hT4.out, List.length_append]
  have L5 : Hid (T5.length = T4.length + DT.length) := by rw [Hid, hT5.out, List.length_append]
  have L6 : Hid (T6.length = T5.length + (5 + y.to.length)) := by rw [Hid, hT6.out]; simp; omega
  have L7 : Hid (T7.length = T6.length + BK.length) := by rw [Hid, hT7.out, List.length_append]
  rw [← hT3.out, ← hT4.out, ← hT5.out, ← hT6.out, ← hT7.out]
  obtain ⟨g1, g2, g3, g4⟩ := hy
  have HG : Hid (GoodE y.cond ∧ GoodSets y.sets ∧ y.kind ≤ 2 ∧ y.times ≤ 1000) := ⟨g3, g4, g1, g2⟩
  clear g1 g2 g3 g4
  obtain ⟨u, rfl⟩ : ∃ u, p = .pointer u := by
    cases he : y.cond with
    | nil => rw [he] at hp; exact ⟨none, hp⟩
    | node _ _ _ _ _ => rw [he] at hp; obtain ⟨g', _, _, e, _⟩ := hp; exact ⟨_, e⟩
  obtain ⟨ao, cap, rfl⟩ := hq.cut
  obtain ⟨M, hM⟩ : ∃ M, Hid (M = y.sets.length) := ⟨_, rfl⟩
  rw [← hM.out] at hq ⊢
  obtain ⟨kd, hkd⟩ : ∃ x, Hid (x = y.kind) := ⟨_, rfl⟩
  obtain ⟨nw, hnw⟩ : ∃ x, Hid (x = y.now) := ⟨_, rfl⟩
  obtain ⟨bk, hbkw⟩ : ∃ x, Hid (x = y.back) := ⟨_, rfl⟩
  rw [show y.kind = kd from hkd.out.symm, show y.now = nw from hnw.out.symm, show y.back = bk from hbkw.out.symm]
  obtain ⟨g, hg⟩ : ∃ g, Hid (g = w.heap.size) := ⟨_, rfl⟩
  have hb := heap_alloc_new w (.cells #[.int .i64 kd, .bool nw, .pointer u, .int .i64 y.times, .slice ao M cap, .string ⟨y.to.toArray⟩, .bool bk] 94)
  have hBW : Hid (Below w.heap.size w (w.alloc (.cells #[.int .i64 kd, .bool nw, .pointer u, .int .i64 y.times, .slice ao M cap, .string ⟨y.to.toArray⟩, .bool bk] 94))) := (Below.refl _ w).alloc (Nat.le_refl _) _
  have hE0 : Hid (PEnv (w.alloc (.cells #[.int .i64 kd, .bool nw, .pointer u, .int .i64 y.times, .slice ao M cap, .string ⟨y.to.toArray⟩, .bool bk] 94))) := hE.up hBW.out
  have hp0 := hp.carry (keep_below hBW.out)
  have hq0 : Hid _ := IsSets.carry (keep_below hBW.out) hq
  clear hp hq hE
  go_enter Tryz.func105, Tryz.ntmps105
  go_upto_region 1 with fail
  generalize w.alloc (.cells #[.int .i64 kd, .bool nw, .pointer u, .int .i64 y.times, .slice ao M cap, .string ⟨y.to.toArray⟩, .bool bk] 94) = W at hb hBW hE0 hp0 hq0 ⊢
  rw [← hg.out] at hb ⊢
  have hgl : Hid (g < W.heap.size) := by rw [Hid]; exact (Array.getElem?_eq_some_iff.1 hb).1
  have hbx : Hid (∀ wx, Below W.heap.size W wx → wx.heap[g]? = some (.cells #[.int .i64 kd, .bool nw, .pointer u, .int .i64 y.times, .slice ao M cap, .string ⟨y.to.toArray⟩, .bool bk] 94 (0, 0))) := fun wx h => by rw [h.block _ hgl.out]; exact hb
  obtain ⟨y0, -⟩ := cel hb 0 (.int .i64 kd) rfl
  rw [show kd = y.kind from hkd.out] at y0
  go_upto_if 6 with fail
  go_cut [3] (fun s0 wx => Hid (s0 = .string ⟨T1.toArray⟩ ∧ wx = W))
  case first =>
    by_cases h1 : y.kind = 1
    · have H : Hid (T1 = kAbort) := by rw [Hid, hT1.out, if_pos h1]
      have h1' : (y.kind : Int) = 1 := by omega
      go_wp2_with fail
      go_meet
      exact ⟨by rw [H.out]; rfl, rfl⟩
    · have H : Hid (T1 = kGo) := by rw [Hid, hT1.out, if_neg h1]
      have h1' : ¬ (y.kind : Int) = 1 := by omega
      go_wp2_with fail
      go_meet
      exact ⟨by rw [H.out]; rfl, rfl⟩
  case rest =>
    obtain ⟨rfl, hw⟩ := hcut.out
    obtain rfl := hw.symm
    clear hcut
    go_upto_if 9 with fail
    go_cut [3] (fun s0 wx => Hid (s0 = .string ⟨T2.toArray⟩ ∧ wx = W))
    case first =>
      by_cases h1 : y.kind = 2
      · have H : Hid (T2 = kJoin) := by rw [Hid, hT2.out, leadT, if_neg (by omega), if_pos h1]
        have h1' : (y.kind : Int) = 2 := by omega
        go_wp2_with fail
        go_meet
        exact ⟨by rw [H.out]; rfl, rfl⟩
      · have H : Hid (T2 = T1) := by rw [Hid, hT2.out, hT1.out, leadT, if_neg h1]
        have h1' : ¬ (y.kind : Int) = 2 := by omega
        go_wp2_with fail
        go_meet
        exact ⟨by rw [H.out], rfl⟩
    case rest =>
      obtain ⟨rfl, hw⟩ := hcut.out
      obtain rfl := hw.symm
      clear hcut y0
      obtain ⟨y1, -⟩ := cel hb 1 (.bool nw) rfl
      rw [show nw = y.now from hnw.out] at y1
      go_upto_if 11 with fail
      go_cut [3] (fun s0 wx => Hid (s0 = .string ⟨T3.toArray⟩ ∧ wx = W))
      case first =>
        by_cases hnow : y.now = true
        · have H : Hid (NW = [32, 105, 109, 109, 101, 100, 105, 97, 116, 101]) := by rw [Hid, hNW.out, hnow]; rfl
          have k1 : ¬ 9223372036854775807 < T2.length + 10 := by have := HL.out; omega
          rw [hnow] at y1 ⊢
          go_wp2_with fail
          go_meet
          exact ⟨by rw [hT3.out, H.out]; simp [ByteArray.mk_append_mk], rfl⟩
        · replace hnow : y.now = false := by simpa using hnow
          have H : Hid (NW = []) := by rw [Hid, hNW.out, hnow]; rfl
          rw [hnow] at y1 ⊢
          go_wp2_with fail
          go_meet
          exact ⟨by rw [hT3.out, H.out, List.append_nil], rfl⟩
      case rest =>
        obtain ⟨rfl, hw⟩ := hcut.out
        obtain rfl := hw.symm
        clear hcut y1
        obtain ⟨y2, -⟩ := cel hb 2 _ rfl
        obtain ⟨y3, -⟩ := cel hb 3 _ rfl
        obtain ⟨X, hX⟩ : ∃ X, Hid (X = exprT y.cond 0) := ⟨_, rfl⟩
        have hcd : Hid (y.cond ≠ .nil → ∀ z, condT { y with times := z } = [32, 105, 102, 32] ++ (if 1 < z then [99, 111, 117, 110, 116, 32] ++ itoa z ++ [32] else []) ++ X) := fun hcn z => by
          rw [hX.out]
          cases he : y.cond with
          | nil => exact absurd he hcn
          | node _ _ _ _ _ => simp [condT]
        have hC : Hid (X.length ≤ 140737488355328 → ∀ W1, Below W.heap.size W W1 → Calls Tryz.prog 12 #[.pointer u, .int .i64 0] W1 fun e' w' => e' = .returned (.string ⟨X.toArray⟩) ∧ Below W1.heap.size W1 w') := fun hx W1 hb1 => by
          rw [hX.out]; exact xexpr_ok y.cond HG.out.1 A W1 (.pointer u) 0 (hp0.carry (keep_below hb1)) (by omega) (hE0.out.up hb1) (by rw [← hX.out]; exact hx)
        have h3 : Hid (u = none ∧ CT = []) ∨ Hid ((∃ a, u = some a) ∧ 1 < y.times ∧ CT = [32, 105, 102, 32] ++ ([99, 111, 117, 110, 116, 32] ++ (itoa y.times ++ [32])) ++ X) ∨ Hid ((∃ a, u = some a) ∧ ¬ 1 < y.times ∧ CT = [32, 105, 102, 32] ++ X) := by
          by_cases hcn : y.cond = .nil
          · refine .inl ⟨?_, ?_⟩
            · rw [hcn] at hp0; injection hp0
            · rw [hCT.out, condT, hcn]
          · have ha : ∃ a, u = some a := by
              cases he : y.cond with
              | nil => exact absurd he hcn
              | node _ _ _ _ _ => rw [he] at hp0; obtain ⟨g', _, _, e, _⟩ := hp0; injection e with e; exact ⟨_, e⟩
            by_cases ht : 1 < y.times
            · refine .inr (.inl ⟨ha, ht, ?_⟩)
              rw [hCT.out]; have := hcd.out hcn y.times; rw [if_pos ht] at this; rw [List.append_assoc [99, 111, 117, 110, 116, 32]] at this; exact this
            · refine .inr (.inr ⟨ha, ht, ?_⟩)
              rw [hCT.out]; have := hcd.out hcn y.times; rw [if_neg ht, List.append_nil] at this; exact this
        have hItoa : Hid (∀ W1, Below W.heap.size W W1 → Calls Tryz.prog 142 #[.int .i64 y.times] W1 fun e w' => e = .returned (.string ⟨(itoa y.times).toArray⟩) ∧ Below W1.heap.size W1 w') := fun W1 hb1 => itoaN y.times HG.out.2.2.2 (hE0.out.up hb1).pow
        have hS : Hid (y.sets ≠ [] → (setsT y.sets).length ≤ 140737488355328 → ∀ W1, Below W.heap.size W W1 → Calls Tryz.prog 104 #[.slice ao M cap] W1 fun e w' => e = .returned (.string ⟨(setsT y.sets).toArray⟩) ∧ Below W1.heap.size W1 w') := fun hne hl W1 hb1 =>
          xsets_any hne HG.out.2.1 (hE0.out.up hb1) (IsSets.carry (keep_below hb1) hq0.out) hl
        clear hcd hp0 hq0 hE0
        obtain ⟨nt, hnt⟩ : ∃ z : Str, Hid (z = itoa y.times) := ⟨_, rfl⟩
        rw [← hnt.out] at hItoa h3
        rcases h3 with h3 | h3 | h3
        · obtain ⟨rfl, H⟩ := h3.out
          clear h3
          go_upto_region 12 with fail
          rw [show T3 = T4 by rw [hT4.out, H, List.append_nil]]
          have hB4 : Hid (Below W.heap.size W W) := Below.refl _ _
          clear H y2 y3 hC hItoa
          have hb4 := hbx.out W hB4.out
          obtain ⟨y4, -⟩ := cel hb4 4 _ rfl
          go_upto_if 45 with fail
          go_cut [3] (fun s0 wx => Hid (s0 = .string ⟨T5.toArray⟩ ∧ Below W.heap.size W wx))
          case first =>
            by_cases hsn : Hid (y.sets = [])
            · have H : Hid (DT = []) := by rw [Hid, hDT.out, doesT, if_pos hsn.out]
              have hM0 : M = 0 := by rw [hM.out, hsn.out]; rfl
              have hM1 : ¬ (0 : Int) < (M : Int) := by omega
              have hM2 : ¬ 0 < M := by omega
              clear hM0
              go_wp2_with fail
              go_meet
              exact ⟨by rw [hT5.out, H.out, List.append_nil], hB4.out⟩
            · have H : Hid (DT = [32, 100, 111, 32] ++ setsT y.sets) := by rw [Hid, hDT.out, doesT, if_neg (show ¬ y.sets = [] from hsn)]
              have hM0 : 0 < M := by rw [hM.out]; exact List.length_pos_iff.2 hsn
              have hM1 : (0 : Int) < (M : Int) := by omega
              have HLc : Hid (DT.length = 4 + (setsT y.sets).length) := by rw [Hid, H.out]; simp; omega
              have k5 : (setsT y.sets).length ≤ 140737488355328 := by have := HL.out; have := HLc.out; omega
              have k6 : T4.length ≤ 140737488355328 := by have := HL.out; have := HLc.out; have := L3.out; have := L4.out; omega
              go_wp2_with (go_at_call 104; refine (hS.out hsn k5 W hB4.out).mono ?_; rintro _ W5 ⟨rfl, hB5⟩)
              go_meet
              exact ⟨by rw [hT5.out, H.out]; simp [ByteArray.mk_append_mk], below_up hB4.out hB5⟩
          case rest =>
            obtain ⟨rfl, hB5⟩ := hcut.out
            replace hB5 : Hid _ := hB5
            clear hcut y4
            have hb5 := hbx.out wc hB5.out
            obtain ⟨y5, -⟩ := cel hb5 5 _ rfl
            obtain ⟨y6, -⟩ := cel hb5 6 (.bool bk) rfl
            rw [show bk = y.back from hbkw.out] at y6
            have k7 : T5.length ≤ 140737488355328 := by have := HL.out; have := L3.out; have := L4.out; have := L5.out; omega
            have k8 : y.to.length ≤ 140737488355328 := by have := HL.out; omega
            have k9 : T6.length ≤ 140737488355328 := by have := HL.out; have := L3.out; have := L4.out; have := L5.out; have := L6.out; omega
            have k10 : T7.length ≤ 140737488355328 := by have := HL.out; have := L3.out; have := L4.out; have := L5.out; have := L6.out; have := L7.out; omega
            go_upto_if 58 with fail
            rw [show ((⟨T5.toArray⟩ : ByteArray) ++ ((⟨#[32, 45, 45, 62, 32]⟩ : ByteArray) ++ ⟨y.to.toArray⟩)) = ⟨T6.toArray⟩ by rw [hT6.out]; simp [ByteArray.mk_append_mk]]
            go_cut [3] (fun s0 wx => Hid (s0 = .string ⟨T7.toArray⟩ ∧ wx = wc))
            case first =>
              by_cases hbk : y.back = true
              · have H : Hid (BK = [32, 104, 105, 115, 116, 111, 114, 121]) := by rw [Hid, hBK.out, hbk]; rfl
                rw [hbk] at y6 ⊢
                go_wp2_with fail
                go_meet
                exact ⟨by rw [hT7.out, H.out]; simp [ByteArray.mk_append_mk], rfl⟩
              · replace hbk : y.back = false := by simpa using hbk
                have H : Hid (BK = []) := by rw [Hid, hBK.out, hbk]; rfl
                rw [hbk] at y6 ⊢
                go_wp2_with fail
                go_meet
                exact ⟨by rw [hT7.out, H.out, List.append_nil], rfl⟩
            case rest =>
              obtain ⟨rfl, hw⟩ := hcut.out
              obtain rfl := hw.symm
              clear hcut
              go_wp2_with fail
              go_ret
              exact ⟨by simp [ByteArray.mk_append_mk], below_up hBW.out hB5.out⟩
        · obtain ⟨⟨a, rfl⟩, ht, H⟩ := h3.out
          have HLc : Hid (CT.length = 4 + (6 + (nt.length + 1)) + X.length) := by rw [Hid, H]; simp; omega
          replace H : Hid _ := H
          clear h3
          have ht1 : (1 : Int) < (y.times : Int) := by omega
          have k1 : ¬ 9223372036854775807 < 10 + nt.length := by have := HL.out; have := HLc.out; omega
          have k2 : ¬ 9223372036854775807 < 10 + nt.length + 1 := by have := HL.out; have := HLc.out; omega
          have k3 : ¬ 9223372036854775807 < 10 + nt.length + 1 + X.length := by have := HL.out; have := HLc.out; omega
          have k4 : ¬ 9223372036854775807 < T3.length + (10 + nt.length + 1 + X.length) := by have := HL.out; have := HLc.out; have := L3.out; omega
          have q2 := fun x os => cell_regrown (cel hb 2 _ rfl).1 x os
          have q3 := fun x os => cell_regrown (cel hb 3 _ rfl).1 x os
          have hq1 := fun x os => Calls.regrown_of (hC.out (by have := HL.out; have := HLc.out; omega) (grow (redrawn W x) os) (below_regrown _ x os))
          have hq2 := fun x os => Calls.regrown_of (hItoa.out (grow (redrawn W x) os) (below_regrown _ x os))
          go_upto_region 9 with fail
          refine wp_region_quiet_below (by kernel_rfl) (by kernel_rfl) ?_
          repeat (quiet_step (first | (go_at_call 12; exact hq1 _ _) | (go_at_call 142; exact hq2 _ _)))
          refine wpQuiet_nil ?_
          intro _ hw'
          obtain ⟨⟨dq, osq⟩, hw''⟩ := hw'
          subst hw''
          have hB4 : Hid (Below W.heap.size W (grow (redrawn W dq) osq)) := below_regrown _ dq osq
          generalize grow (redrawn W dq) osq = W4 at hB4 ⊢
          go_upto_region 12 with fail
          rw [show ((⟨T3.toArray⟩ : ByteArray) ++ ((⟨#[32, 105, 102, 32, 99, 111, 117, 110, 116, 32]⟩ : ByteArray) ++ ⟨nt.toArray⟩ ++ ⟨#[32]⟩ ++ ⟨X.toArray⟩)) = ⟨T4.toArray⟩ by rw [hT4.out, H.out]; simp [ByteArray.mk_append_mk]]
          clear H HLc y2 y3 hC hItoa k1 k2 k3 k4 q2 q3 hq1 hq2
          have hb4 := hbx.out W4 hB4.out
          obtain ⟨y4, -⟩ := cel hb4 4 _ rfl
          go_upto_if 45 with fail
          go_cut [3] (fun s0 wx => Hid (s0 = .string ⟨T5.toArray⟩ ∧ Below W.heap.size W wx))
          case first =>
            by_cases hsn : Hid (y.sets = [])
            · have H : Hid (DT = []) := by rw [Hid, hDT.out, doesT, if_pos hsn.out]
              have hM0 : M = 0 := by rw [hM.out, hsn.out]; rfl
              have hM1 : ¬ (0 : Int) < (M : Int) := by omega
              have hM2 : ¬ 0 < M := by omega
              clear hM0
              go_wp2_with fail
              go_meet
              exact ⟨by rw [hT5.out, H.out, List.append_nil], hB4.out⟩
            · have H : Hid (DT = [32, 100, 111, 32] ++ setsT y.sets) := by rw [Hid, hDT.out, doesT, if_neg (show ¬ y.sets = [] from hsn)]
              have hM0 : 0 < M := by rw [hM.out]; exact List.length_pos_iff.2 hsn
              have hM1 : (0 : Int) < (M : Int) := by omega
              have HLc : Hid (DT.length = 4 + (setsT y.sets).length) := by rw [Hid, H.out]; simp; omega
              have k5 : (setsT y.sets).length ≤ 140737488355328 := by have := HL.out; have := HLc.out; omega
              have k6 : T4.length ≤ 140737488355328 := by have := HL.out; have := HLc.out; have := L3.out; have := L4.out; omega
              go_wp2_with (go_at_call 104; refine (hS.out hsn k5 W4 hB4.out).mono ?_; rintro _ W5 ⟨rfl, hB5⟩)
              go_meet
              exact ⟨by rw [hT5.out, H.out]; simp [ByteArray.mk_append_mk], below_up hB4.out hB5⟩
          case rest =>
            obtain ⟨rfl, hB5⟩ := hcut.out
            replace hB5 : Hid _ := hB5
            clear hcut y4
            have hb5 := hbx.out wc hB5.out
            obtain ⟨y5, -⟩ := cel hb5 5 _ rfl
            obtain ⟨y6, -⟩ := cel hb5 6 (.bool bk) rfl
            rw [show bk = y.back from hbkw.out] at y6
            have k7 : T5.length ≤ 140737488355328 := by have := HL.out; have := L3.out; have := L4.out; have := L5.out; omega
            have k8 : y.to.length ≤ 140737488355328 := by have := HL.out; omega
            have k9 : T6.length ≤ 140737488355328 := by have := HL.out; have := L3.out; have := L4.out; have := L5.out; have := L6.out; omega
            have k10 : T7.length ≤ 140737488355328 := by have := HL.out; have := L3.out; have := L4.out; have := L5.out; have := L6.out; have := L7.out; omega
            go_upto_if 58 with fail
            rw [show ((⟨T5.toArray⟩ : ByteArray) ++ ((⟨#[32, 45, 45, 62, 32]⟩ : ByteArray) ++ ⟨y.to.toArray⟩)) = ⟨T6.toArray⟩ by rw [hT6.out]; simp [ByteArray.mk_append_mk]]
            go_cut [3] (fun s0 wx => Hid (s0 = .string ⟨T7.toArray⟩ ∧ wx = wc))
            case first =>
              by_cases hbk : y.back = true
              · have H : Hid (BK = [32, 104, 105, 115, 116, 111, 114, 121]) := by rw [Hid, hBK.out, hbk]; rfl
                rw [hbk] at y6 ⊢
                go_wp2_with fail
                go_meet
                exact ⟨by rw [hT7.out, H.out]; simp [ByteArray.mk_append_mk], rfl⟩
              · replace hbk : y.back = false := by simpa using hbk
                have H : Hid (BK = []) := by rw [Hid, hBK.out, hbk]; rfl
                rw [hbk] at y6 ⊢
                go_wp2_with fail
                go_meet
                exact ⟨by rw [hT7.out, H.out, List.append_nil], rfl⟩
            case rest =>
              obtain ⟨rfl, hw⟩ := hcut.out
              obtain rfl := hw.symm
              clear hcut
              go_wp2_with fail
              go_ret
              exact ⟨by simp [ByteArray.mk_append_mk], below_up hBW.out hB5.out⟩
        · obtain ⟨⟨a, rfl⟩, ht, H⟩ := h3.out
          have HLc : Hid (CT.length = 4 + X.length) := by rw [Hid, H]; simp; omega
          replace H : Hid _ := H
          clear h3
          have ht1 : ¬ (1 : Int) < (y.times : Int) := by omega
          have k1 : X.length ≤ 140737488355328 := by have := HL.out; have := HLc.out; omega
          have k3 : T3.length ≤ 140737488355328 := by have := HL.out; have := HLc.out; have := L3.out; omega
          go_upto_region 12 with (go_at_call 12; refine (hC.out k1 W (Below.refl _ _)).mono ?_; rintro _ W4 ⟨rfl, hB4⟩)
          replace hB4 : Hid _ := hB4
          rw [show ((⟨T3.toArray⟩ : ByteArray) ++ ((⟨#[32, 105, 102, 32]⟩ : ByteArray) ++ ⟨X.toArray⟩)) = ⟨T4.toArray⟩ by rw [hT4.out, H.out]; simp [ByteArray.mk_append_mk]]
          clear H HLc y2 y3 hC hItoa k1 k3
          have hb4 := hbx.out W4 hB4.out
          obtain ⟨y4, -⟩ := cel hb4 4 _ rfl
          go_upto_if 45 with fail
          go_cut [3] (fun s0 wx => Hid (s0 = .string ⟨T5.toArray⟩ ∧ Below W.heap.size W wx))
          case first =>
            by_cases hsn : Hid (y.sets = [])
            · have H : Hid (DT = []) := by rw [Hid, hDT.out, doesT, if_pos hsn.out]
              have hM0 : M = 0 := by rw [hM.out, hsn.out]; rfl
              have hM1 : ¬ (0 : Int) < (M : Int) := by omega
              have hM2 : ¬ 0 < M := by omega
              clear hM0
              go_wp2_with fail
              go_meet
              exact ⟨by rw [hT5.out, H.out, List.append_nil], hB4.out⟩
            · have H : Hid (DT = [32, 100, 111, 32] ++ setsT y.sets) := by rw [Hid, hDT.out, doesT, if_neg (show ¬ y.sets = [] from hsn)]
              have hM0 : 0 < M := by rw [hM.out]; exact List.length_pos_iff.2 hsn
              have hM1 : (0 : Int) < (M : Int) := by omega
              have HLc : Hid (DT.length = 4 + (setsT y.sets).length) := by rw [Hid, H.out]; simp; omega
              have k5 : (setsT y.sets).length ≤ 140737488355328 := by have := HL.out; have := HLc.out; omega
              have k6 : T4.length ≤ 140737488355328 := by have := HL.out; have := HLc.out; have := L3.out; have := L4.out; omega
              go_wp2_with (go_at_call 104; refine (hS.out hsn k5 W4 hB4.out).mono ?_; rintro _ W5 ⟨rfl, hB5⟩)
              go_meet
              exact ⟨by rw [hT5.out, H.out]; simp [ByteArray.mk_append_mk], below_up hB4.out hB5⟩
          case rest =>
            obtain ⟨rfl, hB5⟩ := hcut.out
            replace hB5 : Hid _ := hB5
            clear hcut y4
            have hb5 := hbx.out wc hB5.out
            obtain ⟨y5, -⟩ := cel hb5 5 _ rfl
            obtain ⟨y6, -⟩ := cel hb5 6 (.bool bk) rfl
            rw [show bk = y.back from hbkw.out] at y6
            have k7 : T5.length ≤ 140737488355328 := by have := HL.out; have := L3.out; have := L4.out; have := L5.out; omega
            have k8 : y.to.length ≤ 140737488355328 := by have := HL.out; omega
            have k9 : T6.length ≤ 140737488355328 := by have := HL.out; have := L3.out; have := L4.out; have := L5.out; have := L6.out; omega
            have k10 : T7.length ≤ 140737488355328 := by have := HL.out; have := L3.out; have := L4.out; have := L5.out; have := L6.out; have := L7.out; omega
            go_upto_if 58 with fail
            rw [show ((⟨T5.toArray⟩ : ByteArray) ++ ((⟨#[32, 45, 45, 62, 32]⟩ : ByteArray) ++ ⟨y.to.toArray⟩)) = ⟨T6.toArray⟩ by rw [hT6.out]; simp [ByteArray.mk_append_mk]]
            go_cut [3] (fun s0 wx => Hid (s0 = .string ⟨T7.toArray⟩ ∧ wx = wc))
            case first =>
              by_cases hbk : y.back = true
              · have H : Hid (BK = [32, 104, 105, 115, 116, 111, 114, 121]) := by rw [Hid, hBK.out, hbk]; rfl
                rw [hbk] at y6 ⊢
                go_wp2_with fail
                go_meet
                exact ⟨by rw [hT7.out, H.out]; simp [ByteArray.mk_append_mk], rfl⟩
              · replace hbk : y.back = false := by simpa using hbk
                have H : Hid (BK = []) := by rw [Hid, hBK.out, hbk]; rfl
                rw [hbk] at y6 ⊢
                go_wp2_with fail
                go_meet
                exact ⟨by rw [hT7.out, H.out, List.append_nil], rfl⟩
            case rest =>
              obtain ⟨rfl, hw⟩ := hcut.out
              obtain rfl := hw.symm
              clear hcut
              go_wp2_with fail
              go_ret
              exact ⟨by simp [ByteArray.mk_append_mk], below_up hBW.out hB5.out⟩
end Go.Proofs.YtlgoclebedjiiaaGreatDoor
