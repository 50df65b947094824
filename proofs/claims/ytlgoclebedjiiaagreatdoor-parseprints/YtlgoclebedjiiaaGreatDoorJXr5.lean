/- The document's own Print: states. -/
import Derived.Test.YtlgoclebedjiiaaGreatDoorJXr4
namespace Go.Proofs.YtlgoclebedjiiaaGreatDoor
open Go.RowKit Go.Lib Go.Sort Px

/-- regions are written, as the document tells -/
def RegsX (k : Nat) : Prop := ∀ (A : Nat → Prop) (w : World) (p : Value) (d : Nat) (l : List (List (St k))), d + 2 * k ≤ 800 → PEnv w → (∀ r ∈ l, ∀ s ∈ r, Px.OkSt k s) → IsRegs A w (IsStates A w k) l p → (regT (stateT k) l d).length ≤ 140737488355328 →
  Calls Tryz.prog 35 #[p, .int .i64 d] w fun e' w' => e' = .returned (.string ⟨(regT (stateT k) l d).toArray⟩) ∧ Below w.heap.size w w'
/-- a state is written, as the document tells -/
def StateX (k : Nat) : Prop := ∀ (A : Nat → Prop) (w : World) (d : Nat) (s : StF (St k)) (cs : List Value), d + 1 + 2 * k ≤ 800 → PEnv w → Px.OkStF (Px.OkSt k) s → StC A w (IsStates A w k) s cs → (stT (regT (stateT k)) s d).length ≤ 140737488355328 →
  Calls Tryz.prog 65 #[.agg cs.toArray, .int .i64 d] w fun e' w' => e' = .returned (.string ⟨(stT (regT (stateT k)) s d).toArray⟩) ∧ Below w.heap.size w w'

set_option maxRecDepth 100000 in
set_option maxHeartbeats 4000000 in
theorem xstate_nil {k d cap : Nat} {A : Nat → Prop} {w : World} {e3 e4 e5 e8 : Value} {u ao : Option Addr} (hR : RegsX k) (s : StF (St k)) (hG : Px.OkStF (Px.OkSt k) s) (hd : d + 1 + 2 * k ≤ 800) (hE : PEnv w) (h3 : IsSets A w s.enter e3) (h4 : IsSets A w s.during e4) (h5 : IsSets A w s.leave e5) (h6 : IsE A w s.rests (.pointer u))
    (hways : s.ways = []) (h8 : IsRegs A w (IsStates A w k) s.regions e8) (hlim : (stT (regT (stateT k)) s d).length ≤ 140737488355328) :
    Calls Tryz.prog 65 #[.agg #[.string ⟨s.name.toArray⟩, .bool s.first, .bool s.last, e3, e4, e5, .pointer u, .slice ao 0 cap, e8], .int .i64 d] w fun e' w' => e' = .returned (.string ⟨(stT (regT (stateT k)) s d).toArray⟩) ∧ Below w.heap.size w w' := by
  obtain ⟨⟨q1, q2, q3, q4, q5⟩, -, q6⟩ := hG
  have HG : Hid (GoodSets s.enter ∧ GoodSets s.during ∧ GoodSets s.leave ∧ GoodE s.rests ∧ (∀ y ∈ s.ways, GoodWay y) ∧ ∀ r ∈ s.regions, ∀ x ∈ r, Px.OkSt k x) := ⟨q1, q2, q3, q4, q5, q6⟩
  clear q1 q2 q3 q4 q5 q6
  obtain ⟨m, hmd⟩ : ∃ m, Hid (m = d + 1) := ⟨_, rfl⟩
  have hwr : IntKind.i64.wrap ((d : Int) + 1) = (m : Int) := by rw [hmd.out]; exact wrap_small (by omega)
  obtain ⟨P, hP⟩ : ∃ M : Str, Hid (M = padT d) := ⟨_, rfl⟩
  obtain ⟨P1, hP1⟩ : ∃ M : Str, Hid (M = padT m) := ⟨_, rfl⟩
  obtain ⟨FI, hFI⟩ : ∃ FI : Str, Hid (FI = if s.first then ([105, 110, 105, 116, 105, 97, 108, 32] : Str) else []) := ⟨_, rfl⟩
  obtain ⟨LA, hLA⟩ : ∃ LA : Str, Hid (LA = if s.last then ([102, 105, 110, 97, 108, 32] : Str) else []) := ⟨_, rfl⟩
  obtain ⟨M1, hM1⟩ : ∃ M : Str, Hid (M = momT m [101, 110, 116, 114, 121, 32] s.enter) := ⟨_, rfl⟩
  obtain ⟨M2, hM2⟩ : ∃ M : Str, Hid (M = momT m [100, 117, 114, 105, 110, 103, 32] s.during) := ⟨_, rfl⟩
  obtain ⟨M3, hM3⟩ : ∃ M : Str, Hid (M = momT m [101, 120, 105, 116, 32] s.leave) := ⟨_, rfl⟩
  obtain ⟨RT, hRT⟩ : ∃ M : Str, Hid (M = restT m s.rests) := ⟨_, rfl⟩
  obtain ⟨WT, hWT⟩ : ∃ M : Str, Hid (M = s.ways.flatMap (wlT m)) := ⟨_, rfl⟩
  obtain ⟨GT, hGT⟩ : ∃ M : Str, Hid (M = regT (stateT k) s.regions m) := ⟨_, rfl⟩
  obtain ⟨S1, hS1⟩ : ∃ M : Str, Hid (M = P ++ FI) := ⟨_, rfl⟩
  obtain ⟨S2, hS2⟩ : ∃ M : Str, Hid (M = S1 ++ LA) := ⟨_, rfl⟩
  obtain ⟨S3, hS3⟩ : ∃ M : Str, Hid (M = S2 ++ ([115, 116, 97, 116, 101, 32] ++ s.name)) := ⟨S2 ++ ([115, 116, 97, 116, 101, 32] ++ s.name), rfl⟩
  obtain ⟨I2, hI2⟩ : ∃ M : Str, Hid (M = M1 ++ M2) := ⟨_, rfl⟩
  obtain ⟨I3, hI3⟩ : ∃ M : Str, Hid (M = I2 ++ M3) := ⟨_, rfl⟩
  obtain ⟨I4, hI4⟩ : ∃ M : Str, Hid (M = I3 ++ RT) := ⟨_, rfl⟩
  obtain ⟨I5, hI5⟩ : ∃ M : Str, Hid (M = I4 ++ WT) := ⟨_, rfl⟩
  obtain ⟨I6, hI6⟩ : ∃ M : Str, Hid (M = I5 ++ GT) := ⟨_, rfl⟩
  have HI : Hid (inT (regT (stateT k)) s (d + 1) = I6) := by rw [Hid, inT, hI6.out, hI5.out, hI4.out, hI3.out, hI2.out, hM1.out, hM2.out, hM3.out, hRT.out, hWT.out, hGT.out, hmd.out]; rfl
  have HT : Hid (stT (regT (stateT k)) s d = S3 ++ (if I6 = [] then [59, 10] else [32, 123, 10] ++ I6 ++ P ++ [125, 10])) := by
    rw [Hid, stT, HI.out, headT, hS3.out, hS2.out, hS1.out, hP.out, hFI.out, hLA.out]; simp only [List.append_assoc]
  rw [HT.out] at hlim ⊢
  have HL : Hid (S3.length + I6.length + 2 ≤ 140737488355328 ∧ (I6 ≠ [] → S3.length + 3 + I6.length + P.length + 2 ≤ 140737488355328)) := by
    rw [Hid]
    by_cases h : I6 = []
    · rw [if_pos h] at hlim
      simp at hlim
      exact ⟨by rw [h]; simp; omega, fun h' => absurd h h'⟩
    · rw [if_neg h] at hlim
      simp at hlim
      exact ⟨by omega, fun _ => by omega⟩
  have LS : Hid (S1.length = P.length + FI.length ∧ S2.length = S1.length + LA.length ∧ S3.length = S2.length + (6 + s.name.length)) := by
    rw [Hid, hS3.out, hS2.out, hS1.out]; simp; omega
  have LI : Hid (I2.length = M1.length + M2.length ∧ I3.length = I2.length + M3.length ∧ I4.length = I3.length + RT.length ∧ I5.length = I4.length + WT.length ∧ I6.length = I5.length + GT.length) := by
    rw [Hid, hI6.out, hI5.out, hI4.out, hI3.out, hI2.out]; simp; omega
  clear hlim HT HI
  obtain ⟨b3, m3, rfl⟩ := h3.cut
  obtain ⟨b4, m4, rfl⟩ := h4.cut
  obtain ⟨b5, m5, rfl⟩ := h5.cut
  obtain ⟨b8, m8, rfl⟩ := h8.sl
  obtain ⟨n3, hn3⟩ : ∃ n, Hid (n = s.enter.length) := ⟨_, rfl⟩
  obtain ⟨n4, hn4⟩ : ∃ n, Hid (n = s.during.length) := ⟨_, rfl⟩
  obtain ⟨n5, hn5⟩ : ∃ n, Hid (n = s.leave.length) := ⟨_, rfl⟩
  obtain ⟨n8, hn8⟩ : ∃ n, Hid (n = s.regions.length) := ⟨_, rfl⟩
  rw [← hn3.out] at h3 ⊢
  rw [← hn4.out] at h4 ⊢
  rw [← hn5.out] at h5 ⊢
  rw [← hn8.out] at h8 ⊢
  obtain ⟨fs, hfs⟩ : ∃ x, Hid (x = s.first) := ⟨_, rfl⟩
  obtain ⟨ls, hls⟩ : ∃ x, Hid (x = s.last) := ⟨_, rfl⟩
  rw [show s.first = fs from hfs.out.symm, show s.last = ls from hls.out.symm]
  obtain ⟨gb, hgb⟩ : ∃ g, Hid (g = w.heap.size) := ⟨_, rfl⟩
  have hb := heap_alloc_new w (.cells #[.string ⟨s.name.toArray⟩, .bool fs, .bool ls, .slice b3 n3 m3, .slice b4 n4 m4, .slice b5 n5 m5, .pointer u, .slice ao 0 cap, .slice b8 n8 m8] 38)
  have hBW : Hid (Below w.heap.size w (w.alloc (.cells #[.string ⟨s.name.toArray⟩, .bool fs, .bool ls, .slice b3 n3 m3, .slice b4 n4 m4, .slice b5 n5 m5, .pointer u, .slice ao 0 cap, .slice b8 n8 m8] 38))) := (Below.refl _ w).alloc (Nat.le_refl _) _
  have hC3 : Hid (∀ W1, Below w.heap.size w W1 → s.enter ≠ [] → (setsT s.enter).length ≤ 140737488355328 → Calls Tryz.prog 104 #[.slice b3 n3 m3] W1 fun e w' => e = .returned (.string ⟨(setsT s.enter).toArray⟩) ∧ Below W1.heap.size W1 w') := fun W1 hb1 hne hl => xsets_any hne HG.out.1 (hE.up hb1) (IsSets.carry (keep_below hb1) h3) hl
  have hC4 : Hid (∀ W1, Below w.heap.size w W1 → s.during ≠ [] → (setsT s.during).length ≤ 140737488355328 → Calls Tryz.prog 104 #[.slice b4 n4 m4] W1 fun e w' => e = .returned (.string ⟨(setsT s.during).toArray⟩) ∧ Below W1.heap.size W1 w') := fun W1 hb1 hne hl => xsets_any hne HG.out.2.1 (hE.up hb1) (IsSets.carry (keep_below hb1) h4) hl
  have hC5 : Hid (∀ W1, Below w.heap.size w W1 → s.leave ≠ [] → (setsT s.leave).length ≤ 140737488355328 → Calls Tryz.prog 104 #[.slice b5 n5 m5] W1 fun e w' => e = .returned (.string ⟨(setsT s.leave).toArray⟩) ∧ Below W1.heap.size W1 w') := fun W1 hb1 hne hl => xsets_any hne HG.out.2.2.1 (hE.up hb1) (IsSets.carry (keep_below hb1) h5) hl
  have hC6 : Hid (∀ W1, Below w.heap.size w W1 → (exprT s.rests 0).length ≤ 140737488355328 → Calls Tryz.prog 12 #[.pointer u, .int .i64 0] W1 fun e w' => e = .returned (.string ⟨(exprT s.rests 0).toArray⟩) ∧ Below W1.heap.size W1 w') := fun W1 hb1 hl => xexpr_ok s.rests HG.out.2.2.2.1 A W1 (.pointer u) 0 (h6.carry (keep_below hb1)) (by omega) (hE.up hb1) hl
  have hC8 : Hid (∀ W1, Below w.heap.size w W1 → GT.length ≤ 140737488355328 → Calls Tryz.prog 35 #[.slice b8 n8 m8, .int .i64 m] W1 fun e w' => e = .returned (.string ⟨GT.toArray⟩) ∧ Below W1.heap.size W1 w') := fun W1 hb1 hl => by
    rw [hGT.out] at hl ⊢; exact hR A W1 _ m s.regions (by have := hmd.out; omega) (hE.up hb1) HG.out.2.2.2.2.2 (h8.carry (keep_below hb1) (IsStates.carry (keep_below hb1) k)) hl
  have hPd : Hid (∀ W1, Calls Tryz.prog 64 #[.int .i64 d] W1 fun e w' => e = .returned (.string ⟨P.toArray⟩) ∧ Below W1.heap.size W1 w') := fun W1 => by rw [hP.out]; exact xpad_any d (by omega) W1
  have hPm : Hid (∀ W1, Calls Tryz.prog 64 #[.int .i64 m] W1 fun e w' => e = .returned (.string ⟨P1.toArray⟩) ∧ Below W1.heap.size W1 w') := fun W1 => by rw [hP1.out]; exact xpad_any m (by have := hmd.out; omega) W1
  have hu : Hid (u = none ↔ s.rests = .nil) := by
    rw [Hid]
    cases he : s.rests with
    | nil => rw [he] at h6; injection h6 with h6; simp [h6]
    | node _ _ _ _ _ => rw [he] at h6; obtain ⟨g', _, _, e, _⟩ := h6; injection e with e; simp [e]
  clear h3 h4 h5 h6 h8 hE hR hd
  go_enter Tryz.func65, Tryz.ntmps65
  go_upto_region 1 with fail
  generalize w.alloc (.cells #[.string ⟨s.name.toArray⟩, .bool fs, .bool ls, .slice b3 n3 m3, .slice b4 n4 m4, .slice b5 n5 m5, .pointer u, .slice ao 0 cap, .slice b8 n8 m8] 38) = W at hb hBW ⊢
  rw [← hgb.out] at hb ⊢
  have hgl : Hid (gb < W.heap.size) := by rw [Hid]; exact (Array.getElem?_eq_some_iff.1 hb).1
  have hbx : Hid (∀ wx, Below W.heap.size W wx → wx.heap[gb]? = some (.cells #[.string ⟨s.name.toArray⟩, .bool fs, .bool ls, .slice b3 n3 m3, .slice b4 n4 m4, .slice b5 n5 m5, .pointer u, .slice ao 0 cap, .slice b8 n8 m8] 38 (0, 0))) := fun wx h => by rw [h.block _ hgl.out]; exact hb
  have hw1 : Hid (∀ wx, Below W.heap.size W wx → Below w.heap.size w wx) := fun wx h => below_up hBW.out h
  go_upto_region 2 with (go_at_call 64; refine (hPd.out W).mono ?_; rintro _ w0 ⟨rfl, hB0⟩)
  replace hB0 : Hid (Below W.heap.size W w0) := hB0
  obtain ⟨y1, -⟩ := cel (hbx.out w0 hB0.out) 1 (.bool fs) rfl
  obtain ⟨y2, -⟩ := cel (hbx.out w0 hB0.out) 2 (.bool ls) rfl
  rw [show fs = s.first from hfs.out] at y1
  rw [show ls = s.last from hls.out] at y2
  have z1 : P.length ≤ 140737488355328 := by have := HL.out.1; have := LS.out; omega
  have z2 : S1.length ≤ 140737488355328 := by have := HL.out.1; have := LS.out; omega
  have z3 : S2.length ≤ 140737488355328 := by have := HL.out.1; have := LS.out; omega
  have z4 : s.name.length ≤ 140737488355328 := by have := HL.out.1; have := LS.out; omega
  go_upto_if 12 with fail
  go_cut [5] (fun s0 wx => Hid (s0 = .string ⟨S1.toArray⟩ ∧ wx = w0))
  case first =>
    by_cases hf : s.first = true
    · have H : Hid (FI = [105, 110, 105, 116, 105, 97, 108, 32]) := by rw [Hid, hFI.out, hf]; rfl
      rw [hf] at y1 ⊢
      go_wp2_with fail
      go_meet
      exact ⟨by rw [hS1.out, H.out]; simp [ByteArray.mk_append_mk], rfl⟩
    · replace hf : s.first = false := by simpa using hf
      have H : Hid (FI = []) := by rw [Hid, hFI.out, hf]; rfl
      rw [hf] at y1 ⊢
      go_wp2_with fail
      go_meet
      exact ⟨by rw [hS1.out, H.out, List.append_nil], rfl⟩
  case rest =>
    obtain ⟨rfl, hw⟩ := hcut.out
    obtain rfl := hw.symm
    clear hcut y1
    go_upto_if 16 with fail
    go_cut [5] (fun s0 wx => Hid (s0 = .string ⟨S2.toArray⟩ ∧ wx = w0))
    case first =>
      by_cases hf : s.last = true
      · have H : Hid (LA = [102, 105, 110, 97, 108, 32]) := by rw [Hid, hLA.out, hf]; rfl
        rw [hf] at y2 ⊢
        go_wp2_with fail
        go_meet
        exact ⟨by rw [hS2.out, H.out]; simp [ByteArray.mk_append_mk], rfl⟩
      · replace hf : s.last = false := by simpa using hf
        have H : Hid (LA = []) := by rw [Hid, hLA.out, hf]; rfl
        rw [hf] at y2 ⊢
        go_wp2_with fail
        go_meet
        exact ⟨by rw [hS2.out, H.out, List.append_nil], rfl⟩
    case rest =>
      obtain ⟨rfl, hw⟩ := hcut.out
      obtain rfl := hw.symm
      clear hcut y2
      obtain ⟨y0, -⟩ := cel (hbx.out w0 hB0.out) 0 _ rfl
      go_upto_region 7 with fail
      rw [show ((⟨S2.toArray⟩ : ByteArray) ++ ((⟨#[115, 116, 97, 116, 101, 32]⟩ : ByteArray) ++ ⟨s.name.toArray⟩)) = ⟨S3.toArray⟩ by rw [hS3.out]; simp [ByteArray.mk_append_mk]]
      clear y0 z1 z2 z3 z4
      have hb3 := hbx.out w0 hB0.out
      obtain ⟨y3, -⟩ := cel hb3 3 _ rfl
      go_upto_if 27 with fail
      go_cut [6] (fun s0 wx => Hid (s0 = .string ⟨M1.toArray⟩ ∧ Below W.heap.size W wx))
      case first =>
        by_cases hsn : Hid (s.enter = [])
        · have H : Hid (M1 = []) := by rw [Hid, hM1.out, momT, if_pos hsn.out]
          have hM0 : n3 = 0 := by rw [hn3.out, hsn.out]; rfl
          have hM1' : ¬ (0 : Int) < (n3 : Int) := by omega
          have hM2' : ¬ 0 < n3 := by omega
          clear hM0
          go_wp2_with fail
          go_meet
          exact ⟨by rw [H.out], hB0.out⟩
        · obtain ⟨SX, hSX⟩ : ∃ M : Str, Hid (M = setsT s.enter) := ⟨_, rfl⟩
          have H : Hid (M1 = P1 ++ [101, 110, 116, 114, 121, 32] ++ SX ++ [59, 10]) := by rw [Hid, hM1.out, momT, if_neg (show ¬ s.enter = [] from hsn), hSX.out, hP1.out]
          have hM0 : 0 < n3 := by rw [hn3.out]; exact List.length_pos_iff.2 hsn
          have hM1' : (0 : Int) < (n3 : Int) := by omega
          have HLc : Hid (M1.length = P1.length + 6 + SX.length + 2) := by rw [Hid, H.out]; simp; omega
          have k1 : ¬ 9223372036854775807 < P1.length + 6 := by have := HL.out.1; have := LI.out; have := HLc.out; omega
          have k2 : ¬ 9223372036854775807 < P1.length + 6 + SX.length := by have := HL.out.1; have := LI.out; have := HLc.out; omega
          have k3 : ¬ 9223372036854775807 < P1.length + 6 + SX.length + 2 := by have := HL.out.1; have := LI.out; have := HLc.out; omega
          have k4 : ¬ 9223372036854775807 < P1.length + 6 + SX.length + 2 := by have := HL.out.1; have := LI.out; have := HLc.out; omega
          have k5 : Hid ((setsT s.enter).length ≤ 140737488355328) := by rw [Hid, ← hSX.out]; have := HL.out.1; have := LI.out; have := HLc.out; omega
          have qf := fun x os => cell_regrown (cel hb3 3 _ rfl).1 x os
          have hq1 := fun x os => Calls.regrown_of (hPm.out (grow (redrawn w0 x) os))
          have hq2 := fun x os => Calls.regrown_of (hC3.out (grow (redrawn w0 x) os) (hw1.out _ (below_up hB0.out (below_regrown _ x os))) hsn k5.out)
          rw [← hSX.out] at hq2
          go_upto_region 9 with fail
          refine wp_region_quiet_below (by kernel_rfl) (by kernel_rfl) ?_
          repeat (quiet_step (first | (go_at_call 64; exact hq1 _ _) | (go_at_call 104; exact hq2 _ _)))
          refine wpQuiet_nil ?_
          intro _ hw'
          obtain ⟨⟨dq, osq⟩, hw''⟩ := hw'
          subst hw''
          have hBq : Hid (Below W.heap.size W (grow (redrawn w0 dq) osq)) := below_up hB0.out (below_regrown _ dq osq)
          generalize grow (redrawn w0 dq) osq = Wq at hBq ⊢
          go_wp2_with fail
          go_meet
          exact ⟨by rw [H.out]; simp [ByteArray.mk_append_mk], hBq.out⟩
      case rest =>
        obtain ⟨rfl, hB3⟩ := hcut.out
        replace hB3 : Hid (Below W.heap.size W wc) := hB3
        clear hcut y3 hb3
        generalize wc = w3 at hB3 ⊢
        have hb4 := hbx.out w3 hB3.out
        obtain ⟨y4, -⟩ := cel hb4 4 _ rfl
        go_upto_if 42 with fail
        go_cut [6] (fun s0 wx => Hid (s0 = .string ⟨I2.toArray⟩ ∧ Below W.heap.size W wx))
        case first =>
          by_cases hsn : Hid (s.during = [])
          · have H : Hid (M2 = []) := by rw [Hid, hM2.out, momT, if_pos hsn.out]
            have hM0 : n4 = 0 := by rw [hn4.out, hsn.out]; rfl
            have hM1' : ¬ (0 : Int) < (n4 : Int) := by omega
            have hM2' : ¬ 0 < n4 := by omega
            clear hM0
            go_wp2_with fail
            go_meet
            exact ⟨by rw [hI2.out, H.out, List.append_nil], hB3.out⟩
          · obtain ⟨SX, hSX⟩ : ∃ M : Str, Hid (M = setsT s.during) := ⟨_, rfl⟩
            have H : Hid (M2 = P1 ++ [100, 117, 114, 105, 110, 103, 32] ++ SX ++ [59, 10]) := by rw [Hid, hM2.out, momT, if_neg (show ¬ s.during = [] from hsn), hSX.out, hP1.out]
            have hM0 : 0 < n4 := by rw [hn4.out]; exact List.length_pos_iff.2 hsn
            have hM1' : (0 : Int) < (n4 : Int) := by omega
            have HLc : Hid (M2.length = P1.length + 7 + SX.length + 2) := by rw [Hid, H.out]; simp; omega
            have k1 : ¬ 9223372036854775807 < P1.length + 7 := by have := HL.out.1; have := LI.out; have := HLc.out; omega
            have k2 : ¬ 9223372036854775807 < P1.length + 7 + SX.length := by have := HL.out.1; have := LI.out; have := HLc.out; omega
            have k3 : ¬ 9223372036854775807 < P1.length + 7 + SX.length + 2 := by have := HL.out.1; have := LI.out; have := HLc.out; omega
            have k4 : ¬ 9223372036854775807 < M1.length + (P1.length + 7 + SX.length + 2) := by have := HL.out.1; have := LI.out; have := HLc.out; omega
            have k5 : Hid ((setsT s.during).length ≤ 140737488355328) := by rw [Hid, ← hSX.out]; have := HL.out.1; have := LI.out; have := HLc.out; omega
            have qf := fun x os => cell_regrown (cel hb4 4 _ rfl).1 x os
            have hq1 := fun x os => Calls.regrown_of (hPm.out (grow (redrawn w3 x) os))
            have hq2 := fun x os => Calls.regrown_of (hC4.out (grow (redrawn w3 x) os) (hw1.out _ (below_up hB3.out (below_regrown _ x os))) hsn k5.out)
            rw [← hSX.out] at hq2
            go_upto_region 11 with fail
            refine wp_region_quiet_below (by kernel_rfl) (by kernel_rfl) ?_
            repeat (quiet_step (first | (go_at_call 64; exact hq1 _ _) | (go_at_call 104; exact hq2 _ _)))
            refine wpQuiet_nil ?_
            intro _ hw'
            obtain ⟨⟨dq, osq⟩, hw''⟩ := hw'
            subst hw''
            have hBq : Hid (Below W.heap.size W (grow (redrawn w3 dq) osq)) := below_up hB3.out (below_regrown _ dq osq)
            generalize grow (redrawn w3 dq) osq = Wq at hBq ⊢
            go_wp2_with fail
            go_meet
            exact ⟨by rw [hI2.out, H.out]; simp [ByteArray.mk_append_mk], hBq.out⟩
        case rest =>
          obtain ⟨rfl, hB4⟩ := hcut.out
          replace hB4 : Hid (Below W.heap.size W wc) := hB4
          clear hcut y4 hb4
          generalize wc = w4 at hB4 ⊢
          have hb5 := hbx.out w4 hB4.out
          obtain ⟨y5, -⟩ := cel hb5 5 _ rfl
          go_upto_if 57 with fail
          go_cut [6] (fun s0 wx => Hid (s0 = .string ⟨I3.toArray⟩ ∧ Below W.heap.size W wx))
          case first =>
            by_cases hsn : Hid (s.leave = [])
            · have H : Hid (M3 = []) := by rw [Hid, hM3.out, momT, if_pos hsn.out]
              have hM0 : n5 = 0 := by rw [hn5.out, hsn.out]; rfl
              have hM1' : ¬ (0 : Int) < (n5 : Int) := by omega
              have hM2' : ¬ 0 < n5 := by omega
              clear hM0
              go_wp2_with fail
              go_meet
              exact ⟨by rw [hI3.out, H.out, List.append_nil], hB4.out⟩
            · obtain ⟨SX, hSX⟩ : ∃ M : Str, Hid (M = setsT s.leave) := ⟨_, rfl⟩
              have H : Hid (M3 = P1 ++ [101, 120, 105, 116, 32] ++ SX ++ [59, 10]) := by rw [Hid, hM3.out, momT, if_neg (show ¬ s.leave = [] from hsn), hSX.out, hP1.out]
              have hM0 : 0 < n5 := by rw [hn5.out]; exact List.length_pos_iff.2 hsn
              have hM1' : (0 : Int) < (n5 : Int) := by omega
              have HLc : Hid (M3.length = P1.length + 5 + SX.length + 2) := by rw [Hid, H.out]; simp; omega
              have k1 : ¬ 9223372036854775807 < P1.length + 5 := by have := HL.out.1; have := LI.out; have := HLc.out; omega
              have k2 : ¬ 9223372036854775807 < P1.length + 5 + SX.length := by have := HL.out.1; have := LI.out; have := HLc.out; omega
              have k3 : ¬ 9223372036854775807 < P1.length + 5 + SX.length + 2 := by have := HL.out.1; have := LI.out; have := HLc.out; omega
              have k4 : ¬ 9223372036854775807 < I2.length + (P1.length + 5 + SX.length + 2) := by have := HL.out.1; have := LI.out; have := HLc.out; omega
              have k5 : Hid ((setsT s.leave).length ≤ 140737488355328) := by rw [Hid, ← hSX.out]; have := HL.out.1; have := LI.out; have := HLc.out; omega
              have qf := fun x os => cell_regrown (cel hb5 5 _ rfl).1 x os
              have hq1 := fun x os => Calls.regrown_of (hPm.out (grow (redrawn w4 x) os))
              have hq2 := fun x os => Calls.regrown_of (hC5.out (grow (redrawn w4 x) os) (hw1.out _ (below_up hB4.out (below_regrown _ x os))) hsn k5.out)
              rw [← hSX.out] at hq2
              go_upto_region 13 with fail
              refine wp_region_quiet_below (by kernel_rfl) (by kernel_rfl) ?_
              repeat (quiet_step (first | (go_at_call 64; exact hq1 _ _) | (go_at_call 104; exact hq2 _ _)))
              refine wpQuiet_nil ?_
              intro _ hw'
              obtain ⟨⟨dq, osq⟩, hw''⟩ := hw'
              subst hw''
              have hBq : Hid (Below W.heap.size W (grow (redrawn w4 dq) osq)) := below_up hB4.out (below_regrown _ dq osq)
              generalize grow (redrawn w4 dq) osq = Wq at hBq ⊢
              go_wp2_with fail
              go_meet
              exact ⟨by rw [hI3.out, H.out]; simp [ByteArray.mk_append_mk], hBq.out⟩
          case rest =>
            obtain ⟨rfl, hB5⟩ := hcut.out
            replace hB5 : Hid (Below W.heap.size W wc) := hB5
            clear hcut y5 hb5
            generalize wc = w5 at hB5 ⊢
            have hb6 := hbx.out w5 hB5.out
            obtain ⟨y6, -⟩ := cel hb6 6 _ rfl
            go_upto_if 71 with fail
            go_cut [6] (fun s0 wx => Hid (s0 = .string ⟨I4.toArray⟩ ∧ Below W.heap.size W wx))
            case first =>
              by_cases hcn : Hid (s.rests = .nil)
              · have H : Hid (RT = []) := by rw [Hid, hRT.out, hcn.out]; rfl
                obtain rfl : u = none := hu.out.2 hcn.out
                go_wp2_with fail
                go_meet
                exact ⟨by rw [hI4.out, H.out, List.append_nil], hB5.out⟩
              · obtain ⟨SX, hSX⟩ : ∃ X, Hid (X = exprT s.rests 0) := ⟨_, rfl⟩
                obtain ⟨a, rfl⟩ : ∃ a, u = some a := by
                  cases u with
                  | none => exact absurd (hu.out.1 rfl) hcn
                  | some a => exact ⟨a, rfl⟩
                have H : Hid (RT = P1 ++ [115, 117, 115, 112, 101, 110, 100, 32] ++ SX ++ [59, 10]) := by
                  rw [Hid, hRT.out, hSX.out, hP1.out]
                  cases he : s.rests with
                  | nil => exact absurd he hcn
                  | node _ _ _ _ _ => rfl
                have HLc : Hid (RT.length = P1.length + 8 + SX.length + 2) := by rw [Hid, H.out]; simp; omega
                have k1 : ¬ 9223372036854775807 < P1.length + 8 := by have := HL.out.1; have := LI.out; have := HLc.out; omega
                have k2 : ¬ 9223372036854775807 < P1.length + 8 + SX.length := by have := HL.out.1; have := LI.out; have := HLc.out; omega
                have k3 : ¬ 9223372036854775807 < P1.length + 8 + SX.length + 2 := by have := HL.out.1; have := LI.out; have := HLc.out; omega
                have k4 : ¬ 9223372036854775807 < I3.length + (P1.length + 8 + SX.length + 2) := by have := HL.out.1; have := LI.out; have := HLc.out; omega
                have k5 : Hid ((exprT s.rests 0).length ≤ 140737488355328) := by rw [Hid, ← hSX.out]; have := HL.out.1; have := LI.out; have := HLc.out; omega
                have qf := fun x os => cell_regrown (cel hb6 6 _ rfl).1 x os
                have hq1 := fun x os => Calls.regrown_of (hPm.out (grow (redrawn w5 x) os))
                have hq2 := fun x os => Calls.regrown_of (hC6.out (grow (redrawn w5 x) os) (hw1.out _ (below_up hB5.out (below_regrown _ x os))) k5.out)
                rw [← hSX.out] at hq2
                go_upto_region 15 with fail
                refine wp_region_quiet_below (by kernel_rfl) (by kernel_rfl) ?_
                repeat (quiet_step (first | (go_at_call 64; exact hq1 _ _) | (go_at_call 12; exact hq2 _ _)))
                refine wpQuiet_nil ?_
                intro _ hw'
                obtain ⟨⟨dq, osq⟩, hw''⟩ := hw'
                subst hw''
                have hBq : Hid (Below W.heap.size W (grow (redrawn w5 dq) osq)) := below_up hB5.out (below_regrown _ dq osq)
                generalize grow (redrawn w5 dq) osq = Wq at hBq ⊢
                go_wp2_with fail
                go_meet
                exact ⟨by rw [hI4.out, H.out]; simp [ByteArray.mk_append_mk], hBq.out⟩
            case rest =>
              obtain ⟨rfl, hB6⟩ := hcut.out
              replace hB6 : Hid (Below W.heap.size W wc) := hB6
              clear hcut y6 hb6
              generalize wc = w6 at hB6 ⊢
              obtain ⟨y7, -⟩ := cel (hbx.out w6 hB6.out) 7 _ rfl
              go_wp2_with fail
              refine wp_loop_rounds 1 ?_
              rw [rounds_succ]
              have hr : Hid (Below W.heap.size W w6) := hB6
              have h54 : I4 = I5 := by rw [hI5.out, hWT.out, hways]; simp
              rw [h54]
              clear h54

              go_upto_region 21 with fail
              obtain ⟨y8, -⟩ := cel (hbx.out w6 hr.out) 8 _ rfl
              have k1 : I5.length ≤ 140737488355328 := by have := HL.out.1; have := LI.out; omega
              have k2 : GT.length ≤ 140737488355328 := by have := HL.out.1; have := LI.out; omega
              have k3 : S3.length ≤ 140737488355328 := by have := HL.out.1; omega
              have k4 : I6.length ≤ 140737488355328 := by have := HL.out.1; omega
              go_upto_region 22 with (go_at_call 35; refine (hC8.out _ (hw1.out _ hr.out) k2).mono ?_; rintro _ w8 ⟨rfl, hB8⟩)
              replace hB8 : Hid (Below W.heap.size W w8) := below_up hr.out hB8
              rw [show ((⟨I5.toArray⟩ : ByteArray) ++ ⟨GT.toArray⟩) = ⟨I6.toArray⟩ by rw [hI6.out]; simp [ByteArray.mk_append_mk]]
              by_cases hI : Hid (I6 = [])
              · have he : (⟨I6.toArray⟩ : ByteArray) = ⟨#[]⟩ := by rw [hI.out]
                rw [he]
                clear he
                go_wp2_with fail
                go_ret
                exact ⟨by simp [ByteArray.mk_append_mk], hw1.out _ hB8.out⟩
              · have HL2 : Hid _ := HL.out.2 hI
                have hne : ¬ I6 = [] := hI
                have hie : List.isEmpty I6 = false := by simpa using hne
                have k5 : ¬ 9223372036854775807 < S3.length + 3 := by have := HL2.out; omega
                have k6 : ¬ 9223372036854775807 < S3.length + 3 + I6.length := by have := HL2.out; omega
                have k7 : ¬ 9223372036854775807 < S3.length + 3 + I6.length + P.length := by have := HL2.out; omega
                have k8 : ¬ 9223372036854775807 < S3.length + 3 + I6.length + P.length + 2 := by have := HL2.out; omega
                go_wp2_with (go_at_call 64; refine (hPd.out w8).mono ?_; rintro _ w9 ⟨rfl, hB9⟩)
                go_ret
                exact ⟨by first | (rw [if_neg hne]; simp [ByteArray.mk_append_mk]) | simp [ByteArray.mk_append_mk], hw1.out _ (below_up hB8.out hB9)⟩
set_option maxRecDepth 100000 in
set_option maxHeartbeats 4000000 in
theorem xstate_some {k d g N cap : Nat} {A : Nat → Prop} {w : World} {e3 e4 e5 e8 : Value} {u : Option Addr} (hR : RegsX k) (s : StF (St k)) (hG : Px.OkStF (Px.OkSt k) s) (hd : d + 1 + 2 * k ≤ 800) (hE : PEnv w) (h3 : IsSets A w s.enter e3) (h4 : IsSets A w s.during e4) (h5 : IsSets A w s.leave e5) (h6 : IsE A w s.rests (.pointer u))
    (hN : Hid (N = s.ways.length)) (hm : N ≤ maxLen) (h7 : ∀ (i : Nat) (a : Wy), s.ways[i]? = some a → ∃ p q n c, WayAt w g i a (.pointer p) (.slice q n c) ∧ IsE A w a.cond (.pointer p) ∧ IsSets A w a.sets (.slice q n c)) (h8 : IsRegs A w (IsStates A w k) s.regions e8) (hlim : (stT (regT (stateT k)) s d).length ≤ 140737488355328) :
    Calls Tryz.prog 65 #[.agg #[.string ⟨s.name.toArray⟩, .bool s.first, .bool s.last, e3, e4, e5, .pointer u, .slice (some ⟨g, 0, none⟩) N cap, e8], .int .i64 d] w fun e' w' => e' = .returned (.string ⟨(stT (regT (stateT k)) s d).toArray⟩) ∧ Below w.heap.size w w' := by
  obtain ⟨⟨q1, q2, q3, q4, q5⟩, -, q6⟩ := hG
  have HG : Hid (GoodSets s.enter ∧ GoodSets s.during ∧ GoodSets s.leave ∧ GoodE s.rests ∧ (∀ y ∈ s.ways, GoodWay y) ∧ ∀ r ∈ s.regions, ∀ x ∈ r, Px.OkSt k x) := ⟨q1, q2, q3, q4, q5, q6⟩
  clear q1 q2 q3 q4 q5 q6
  obtain ⟨m, hmd⟩ : ∃ m, Hid (m = d + 1) := ⟨_, rfl⟩
  have hwr : IntKind.i64.wrap ((d : Int) + 1) = (m : Int) := by rw [hmd.out]; exact wrap_small (by omega)
  obtain ⟨P, hP⟩ : ∃ M : Str, Hid (M = padT d) := ⟨_, rfl⟩
  obtain ⟨P1, hP1⟩ : ∃ M : Str, Hid (M = padT m) := ⟨_, rfl⟩
  obtain ⟨FI, hFI⟩ : ∃ FI : Str, Hid (FI = if s.first then ([105, 110, 105, 116, 105, 97, 108, 32] : Str) else []) := ⟨_, rfl⟩
  obtain ⟨LA, hLA⟩ : ∃ LA : Str, Hid (LA = if s.last then ([102, 105, 110, 97, 108, 32] : Str) else []) := ⟨_, rfl⟩
  obtain ⟨M1, hM1⟩ : ∃ M : Str, Hid (M = momT m [101, 110, 116, 114, 121, 32] s.enter) := ⟨_, rfl⟩
  obtain ⟨M2, hM2⟩ : ∃ M : Str, Hid (M = momT m [100, 117, 114, 105, 110, 103, 32] s.during) := ⟨_, rfl⟩
  obtain ⟨M3, hM3⟩ : ∃ M : Str, Hid (M = momT m [101, 120, 105, 116, 32] s.leave) := ⟨_, rfl⟩
  obtain ⟨RT, hRT⟩ : ∃ M : Str, Hid (M = restT m s.rests) := ⟨_, rfl⟩
  obtain ⟨WT, hWT⟩ : ∃ M : Str, Hid (M = s.ways.flatMap (wlT m)) := ⟨_, rfl⟩
  obtain ⟨GT, hGT⟩ : ∃ M : Str, Hid (M = regT (stateT k) s.regions m) := ⟨_, rfl⟩
  obtain ⟨S1, hS1⟩ : ∃ M : Str, Hid (M = P ++ FI) := ⟨_, rfl⟩
  obtain ⟨S2, hS2⟩ : ∃ M : Str, Hid (M = S1 ++ LA) := ⟨_, rfl⟩
  obtain ⟨S3, hS3⟩ : ∃ M : Str, Hid (M = S2 ++ ([115, 116, 97, 116, 101, 32] ++ s.name)) := ⟨S2 ++ ([115, 116, 97, 116, 101, 32] ++ s.name), rfl⟩
  obtain ⟨I2, hI2⟩ : ∃ M : Str, Hid (M = M1 ++ M2) := ⟨_, rfl⟩
  obtain ⟨I3, hI3⟩ : ∃ M : Str, Hid (M = I2 ++ M3) := ⟨_, rfl⟩
  obtain ⟨I4, hI4⟩ : ∃ M : Str, Hid (M = I3 ++ RT) := ⟨_, rfl⟩
  obtain ⟨I5, hI5⟩ : ∃ M : Str, Hid (M = I4 ++ WT) := ⟨_, rfl⟩
  obtain ⟨I6, hI6⟩ : ∃ M : Str, Hid (M = I5 ++ GT) := ⟨_, rfl⟩
  have HI : Hid (inT (regT (stateT k)) s (d + 1) = I6) := by rw [Hid, inT, hI6.out, hI5.out, hI4.out, hI3.out, hI2.out, hM1.out, hM2.out, hM3.out, hRT.out, hWT.out, hGT.out, hmd.out]; rfl
  have HT : Hid (stT (regT (stateT k)) s d = S3 ++ (if I6 = [] then [59, 10] else [32, 123, 10] ++ I6 ++ P ++ [125, 10])) := by
    rw [Hid, stT, HI.out, headT, hS3.out, hS2.out, hS1.out, hP.out, hFI.out, hLA.out]; simp only [List.append_assoc]
  rw [HT.out] at hlim ⊢
  have HL : Hid (S3.length + I6.length + 2 ≤ 140737488355328 ∧ (I6 ≠ [] → S3.length + 3 + I6.length + P.length + 2 ≤ 140737488355328)) := by
    rw [Hid]
    by_cases h : I6 = []
    · rw [if_pos h] at hlim
      simp at hlim
      exact ⟨by rw [h]; simp; omega, fun h' => absurd h h'⟩
    · rw [if_neg h] at hlim
      simp at hlim
      exact ⟨by omega, fun _ => by omega⟩
  have LS : Hid (S1.length = P.length + FI.length ∧ S2.length = S1.length + LA.length ∧ S3.length = S2.length + (6 + s.name.length)) := by
    rw [Hid, hS3.out, hS2.out, hS1.out]; simp; omega
  have LI : Hid (I2.length = M1.length + M2.length ∧ I3.length = I2.length + M3.length ∧ I4.length = I3.length + RT.length ∧ I5.length = I4.length + WT.length ∧ I6.length = I5.length + GT.length) := by
    rw [Hid, hI6.out, hI5.out, hI4.out, hI3.out, hI2.out]; simp; omega
  clear hlim HT HI
  obtain ⟨b3, m3, rfl⟩ := h3.cut
  obtain ⟨b4, m4, rfl⟩ := h4.cut
  obtain ⟨b5, m5, rfl⟩ := h5.cut
  obtain ⟨b8, m8, rfl⟩ := h8.sl
  obtain ⟨n3, hn3⟩ : ∃ n, Hid (n = s.enter.length) := ⟨_, rfl⟩
  obtain ⟨n4, hn4⟩ : ∃ n, Hid (n = s.during.length) := ⟨_, rfl⟩
  obtain ⟨n5, hn5⟩ : ∃ n, Hid (n = s.leave.length) := ⟨_, rfl⟩
  obtain ⟨n8, hn8⟩ : ∃ n, Hid (n = s.regions.length) := ⟨_, rfl⟩
  rw [← hn3.out] at h3 ⊢
  rw [← hn4.out] at h4 ⊢
  rw [← hn5.out] at h5 ⊢
  rw [← hn8.out] at h8 ⊢
  obtain ⟨fs, hfs⟩ : ∃ x, Hid (x = s.first) := ⟨_, rfl⟩
  obtain ⟨ls, hls⟩ : ∃ x, Hid (x = s.last) := ⟨_, rfl⟩
  rw [show s.first = fs from hfs.out.symm, show s.last = ls from hls.out.symm]
  obtain ⟨gb, hgb⟩ : ∃ g, Hid (g = w.heap.size) := ⟨_, rfl⟩
  have hb := heap_alloc_new w (.cells #[.string ⟨s.name.toArray⟩, .bool fs, .bool ls, .slice b3 n3 m3, .slice b4 n4 m4, .slice b5 n5 m5, .pointer u, .slice (some ⟨g, 0, none⟩) N cap, .slice b8 n8 m8] 38)
  have hBW : Hid (Below w.heap.size w (w.alloc (.cells #[.string ⟨s.name.toArray⟩, .bool fs, .bool ls, .slice b3 n3 m3, .slice b4 n4 m4, .slice b5 n5 m5, .pointer u, .slice (some ⟨g, 0, none⟩) N cap, .slice b8 n8 m8] 38))) := (Below.refl _ w).alloc (Nat.le_refl _) _
  have hC3 : Hid (∀ W1, Below w.heap.size w W1 → s.enter ≠ [] → (setsT s.enter).length ≤ 140737488355328 → Calls Tryz.prog 104 #[.slice b3 n3 m3] W1 fun e w' => e = .returned (.string ⟨(setsT s.enter).toArray⟩) ∧ Below W1.heap.size W1 w') := fun W1 hb1 hne hl => xsets_any hne HG.out.1 (hE.up hb1) (IsSets.carry (keep_below hb1) h3) hl
  have hC4 : Hid (∀ W1, Below w.heap.size w W1 → s.during ≠ [] → (setsT s.during).length ≤ 140737488355328 → Calls Tryz.prog 104 #[.slice b4 n4 m4] W1 fun e w' => e = .returned (.string ⟨(setsT s.during).toArray⟩) ∧ Below W1.heap.size W1 w') := fun W1 hb1 hne hl => xsets_any hne HG.out.2.1 (hE.up hb1) (IsSets.carry (keep_below hb1) h4) hl
  have hC5 : Hid (∀ W1, Below w.heap.size w W1 → s.leave ≠ [] → (setsT s.leave).length ≤ 140737488355328 → Calls Tryz.prog 104 #[.slice b5 n5 m5] W1 fun e w' => e = .returned (.string ⟨(setsT s.leave).toArray⟩) ∧ Below W1.heap.size W1 w') := fun W1 hb1 hne hl => xsets_any hne HG.out.2.2.1 (hE.up hb1) (IsSets.carry (keep_below hb1) h5) hl
  have hC6 : Hid (∀ W1, Below w.heap.size w W1 → (exprT s.rests 0).length ≤ 140737488355328 → Calls Tryz.prog 12 #[.pointer u, .int .i64 0] W1 fun e w' => e = .returned (.string ⟨(exprT s.rests 0).toArray⟩) ∧ Below W1.heap.size W1 w') := fun W1 hb1 hl => xexpr_ok s.rests HG.out.2.2.2.1 A W1 (.pointer u) 0 (h6.carry (keep_below hb1)) (by omega) (hE.up hb1) hl
  have hC8 : Hid (∀ W1, Below w.heap.size w W1 → GT.length ≤ 140737488355328 → Calls Tryz.prog 35 #[.slice b8 n8 m8, .int .i64 m] W1 fun e w' => e = .returned (.string ⟨GT.toArray⟩) ∧ Below W1.heap.size W1 w') := fun W1 hb1 hl => by
    rw [hGT.out] at hl ⊢; exact hR A W1 _ m s.regions (by have := hmd.out; omega) (hE.up hb1) HG.out.2.2.2.2.2 (h8.carry (keep_below hb1) (IsStates.carry (keep_below hb1) k)) hl
  have hPd : Hid (∀ W1, Calls Tryz.prog 64 #[.int .i64 d] W1 fun e w' => e = .returned (.string ⟨P.toArray⟩) ∧ Below W1.heap.size W1 w') := fun W1 => by rw [hP.out]; exact xpad_any d (by omega) W1
  have hPm : Hid (∀ W1, Calls Tryz.prog 64 #[.int .i64 m] W1 fun e w' => e = .returned (.string ⟨P1.toArray⟩) ∧ Below W1.heap.size W1 w') := fun W1 => by rw [hP1.out]; exact xpad_any m (by have := hmd.out; omega) W1
  have hu : Hid (u = none ↔ s.rests = .nil) := by
    rw [Hid]
    cases he : s.rests with
    | nil => rw [he] at h6; injection h6 with h6; simp [h6]
    | node _ _ _ _ _ => rw [he] at h6; obtain ⟨g', _, _, e, _⟩ := h6; injection e with e; simp [e]
  have hN6 : (N : Int) ≤ 9223372036854775807 := by unfold maxLen at hm; omega
  have hWy : Hid (∀ (i : Nat) (a : Wy), s.ways[i]? = some a → ∃ p q n c, WayAt w g i a (.pointer p) (.slice q n c) ∧ ((wayT a).length ≤ 140737488355328 → ∀ W1, Below w.heap.size w W1 → Calls Tryz.prog 105 #[.agg #[.int .i64 a.kind, .bool a.now, .pointer p, .int .i64 a.times, .slice q n c, .string ⟨a.to.toArray⟩, .bool a.back]] W1 fun e' w' => e' = .returned (.string ⟨(wayT a).toArray⟩) ∧ Below W1.heap.size W1 w')) := fun i a hi => by
    obtain ⟨p, q, n, c, hy, hp, hq⟩ := h7 i a hi
    exact ⟨p, q, n, c, hy, fun hl W1 hb1 => xway_any a (HG.out.2.2.2.2.1 a (List.mem_of_getElem? hi)) (hE.up hb1) (hp.carry (keep_below hb1)) (IsSets.carry (keep_below hb1) hq) hl⟩
  clear h7 hm
  clear h3 h4 h5 h6 h8 hE hR hd
  go_enter Tryz.func65, Tryz.ntmps65
  go_upto_region 1 with fail
  generalize w.alloc (.cells #[.string ⟨s.name.toArray⟩, .bool fs, .bool ls, .slice b3 n3 m3, .slice b4 n4 m4, .slice b5 n5 m5, .pointer u, .slice (some ⟨g, 0, none⟩) N cap, .slice b8 n8 m8] 38) = W at hb hBW ⊢
  rw [← hgb.out] at hb ⊢
  have hgl : Hid (gb < W.heap.size) := by rw [Hid]; exact (Array.getElem?_eq_some_iff.1 hb).1
  have hbx : Hid (∀ wx, Below W.heap.size W wx → wx.heap[gb]? = some (.cells #[.string ⟨s.name.toArray⟩, .bool fs, .bool ls, .slice b3 n3 m3, .slice b4 n4 m4, .slice b5 n5 m5, .pointer u, .slice (some ⟨g, 0, none⟩) N cap, .slice b8 n8 m8] 38 (0, 0))) := fun wx h => by rw [h.block _ hgl.out]; exact hb
  have hw1 : Hid (∀ wx, Below W.heap.size W wx → Below w.heap.size w wx) := fun wx h => below_up hBW.out h
  go_upto_region 2 with (go_at_call 64; refine (hPd.out W).mono ?_; rintro _ w0 ⟨rfl, hB0⟩)
  replace hB0 : Hid (Below W.heap.size W w0) := hB0
  obtain ⟨y1, -⟩ := cel (hbx.out w0 hB0.out) 1 (.bool fs) rfl
  obtain ⟨y2, -⟩ := cel (hbx.out w0 hB0.out) 2 (.bool ls) rfl
  rw [show fs = s.first from hfs.out] at y1
  rw [show ls = s.last from hls.out] at y2
  have z1 : P.length ≤ 140737488355328 := by have := HL.out.1; have := LS.out; omega
  have z2 : S1.length ≤ 140737488355328 := by have := HL.out.1; have := LS.out; omega
  have z3 : S2.length ≤ 140737488355328 := by have := HL.out.1; have := LS.out; omega
  have z4 : s.name.length ≤ 140737488355328 := by have := HL.out.1; have := LS.out; omega
  go_upto_if 12 with fail
  go_cut [5] (fun s0 wx => Hid (s0 = .string ⟨S1.toArray⟩ ∧ wx = w0))
  case first =>
    by_cases hf : s.first = true
    · have H : Hid (FI = [105, 110, 105, 116, 105, 97, 108, 32]) := by rw [Hid, hFI.out, hf]; rfl
      rw [hf] at y1 ⊢
      go_wp2_with fail
      go_meet
      exact ⟨by rw [hS1.out, H.out]; simp [ByteArray.mk_append_mk], rfl⟩
    · replace hf : s.first = false := by simpa using hf
      have H : Hid (FI = []) := by rw [Hid, hFI.out, hf]; rfl
      rw [hf] at y1 ⊢
      go_wp2_with fail
      go_meet
      exact ⟨by rw [hS1.out, H.out, List.append_nil], rfl⟩
  case rest =>
    obtain ⟨rfl, hw⟩ := hcut.out
    obtain rfl := hw.symm
    clear hcut y1
    go_upto_if 16 with fail
    go_cut [5] (fun s0 wx => Hid (s0 = .string ⟨S2.toArray⟩ ∧ wx = w0))
    case first =>
      by_cases hf : s.last = true
      · have H : Hid (LA = [102, 105, 110, 97, 108, 32]) := by rw [Hid, hLA.out, hf]; rfl
        rw [hf] at y2 ⊢
        go_wp2_with fail
        go_meet
        exact ⟨by rw [hS2.out, H.out]; simp [ByteArray.mk_append_mk], rfl⟩
      · replace hf : s.last = false := by simpa using hf
        have H : Hid (LA = []) := by rw [Hid, hLA.out, hf]; rfl
        rw [hf] at y2 ⊢
        go_wp2_with fail
        go_meet
        exact ⟨by rw [hS2.out, H.out, List.append_nil], rfl⟩
    case rest =>
      obtain ⟨rfl, hw⟩ := hcut.out
      obtain rfl := hw.symm
      clear hcut y2
      obtain ⟨y0, -⟩ := cel (hbx.out w0 hB0.out) 0 _ rfl
      go_upto_region 7 with fail
      rw [show ((⟨S2.toArray⟩ : ByteArray) ++ ((⟨#[115, 116, 97, 116, 101, 32]⟩ : ByteArray) ++ ⟨s.name.toArray⟩)) = ⟨S3.toArray⟩ by rw [hS3.out]; simp [ByteArray.mk_append_mk]]
      clear y0 z1 z2 z3 z4
      have hb3 := hbx.out w0 hB0.out
      obtain ⟨y3, -⟩ := cel hb3 3 _ rfl
      go_upto_if 27 with fail
      go_cut [6] (fun s0 wx => Hid (s0 = .string ⟨M1.toArray⟩ ∧ Below W.heap.size W wx))
      case first =>
        by_cases hsn : Hid (s.enter = [])
        · have H : Hid (M1 = []) := by rw [Hid, hM1.out, momT, if_pos hsn.out]
          have hM0 : n3 = 0 := by rw [hn3.out, hsn.out]; rfl
          have hM1' : ¬ (0 : Int) < (n3 : Int) := by omega
          have hM2' : ¬ 0 < n3 := by omega
          clear hM0
          go_wp2_with fail
          go_meet
          exact ⟨by rw [H.out], hB0.out⟩
        · obtain ⟨SX, hSX⟩ : ∃ M : Str, Hid (M = setsT s.enter) := ⟨_, rfl⟩
          have H : Hid (M1 = P1 ++ [101, 110, 116, 114, 121, 32] ++ SX ++ [59, 10]) := by rw [Hid, hM1.out, momT, if_neg (show ¬ s.enter = [] from hsn), hSX.out, hP1.out]
          have hM0 : 0 < n3 := by rw [hn3.out]; exact List.length_pos_iff.2 hsn
          have hM1' : (0 : Int) < (n3 : Int) := by omega
          have HLc : Hid (M1.length = P1.length + 6 + SX.length + 2) := by rw [Hid, H.out]; simp; omega
          have k1 : ¬ 9223372036854775807 < P1.length + 6 := by have := HL.out.1; have := LI.out; have := HLc.out; omega
          have k2 : ¬ 9223372036854775807 < P1.length + 6 + SX.length := by have := HL.out.1; have := LI.out; have := HLc.out; omega
          have k3 : ¬ 9223372036854775807 < P1.length + 6 + SX.length + 2 := by have := HL.out.1; have := LI.out; have := HLc.out; omega
          have k4 : ¬ 9223372036854775807 < P1.length + 6 + SX.length + 2 := by have := HL.out.1; have := LI.out; have := HLc.out; omega
          have k5 : Hid ((setsT s.enter).length ≤ 140737488355328) := by rw [Hid, ← hSX.out]; have := HL.out.1; have := LI.out; have := HLc.out; omega
          have qf := fun x os => cell_regrown (cel hb3 3 _ rfl).1 x os
          have hq1 := fun x os => Calls.regrown_of (hPm.out (grow (redrawn w0 x) os))
          have hq2 := fun x os => Calls.regrown_of (hC3.out (grow (redrawn w0 x) os) (hw1.out _ (below_up hB0.out (below_regrown _ x os))) hsn k5.out)
          rw [← hSX.out] at hq2
          go_upto_region 9 with fail
          refine wp_region_quiet_below (by kernel_rfl) (by kernel_rfl) ?_
          repeat (quiet_step (first | (go_at_call 64; exact hq1 _ _) | (go_at_call 104; exact hq2 _ _)))
          refine wpQuiet_nil ?_
          intro _ hw'
          obtain ⟨⟨dq, osq⟩, hw''⟩ := hw'
          subst hw''
          have hBq : Hid (Below W.heap.size W (grow (redrawn w0 dq) osq)) := below_up hB0.out (below_regrown _ dq osq)
          generalize grow (redrawn w0 dq) osq = Wq at hBq ⊢
          go_wp2_with fail
          go_meet
          exact ⟨by rw [H.out]; simp [ByteArray.mk_append_mk], hBq.out⟩
      case rest =>
        obtain ⟨rfl, hB3⟩ := hcut.out
        replace hB3 : Hid (Below W.heap.size W wc) := hB3
        clear hcut y3 hb3
        generalize wc = w3 at hB3 ⊢
        have hb4 := hbx.out w3 hB3.out
        obtain ⟨y4, -⟩ := cel hb4 4 _ rfl
        go_upto_if 42 with fail
        go_cut [6] (fun s0 wx => Hid (s0 = .string ⟨I2.toArray⟩ ∧ Below W.heap.size W wx))
        case first =>
          by_cases hsn : Hid (s.during = [])
          · have H : Hid (M2 = []) := by rw [Hid, hM2.out, momT, if_pos hsn.out]
            have hM0 : n4 = 0 := by rw [hn4.out, hsn.out]; rfl
            have hM1' : ¬ (0 : Int) < (n4 : Int) := by omega
            have hM2' : ¬ 0 < n4 := by omega
            clear hM0
            go_wp2_with fail
            go_meet
            exact ⟨by rw [hI2.out, H.out, List.append_nil], hB3.out⟩
          · obtain ⟨SX, hSX⟩ : ∃ M : Str, Hid (M = setsT s.during) := ⟨_, rfl⟩
            have H : Hid (M2 = P1 ++ [100, 117, 114, 105, 110, 103, 32] ++ SX ++ [59, 10]) := by rw [Hid, hM2.out, momT, if_neg (show ¬ s.during = [] from hsn), hSX.out, hP1.out]
            have hM0 : 0 < n4 := by rw [hn4.out]; exact List.length_pos_iff.2 hsn
            have hM1' : (0 : Int) < (n4 : Int) := by omega
            have HLc : Hid (M2.length = P1.length + 7 + SX.length + 2) := by rw [Hid, H.out]; simp; omega
            have k1 : ¬ 9223372036854775807 < P1.length + 7 := by have := HL.out.1; have := LI.out; have := HLc.out; omega
            have k2 : ¬ 9223372036854775807 < P1.length + 7 + SX.length := by have := HL.out.1; have := LI.out; have := HLc.out; omega
            have k3 : ¬ 9223372036854775807 < P1.length + 7 + SX.length + 2 := by have := HL.out.1; have := LI.out; have := HLc.out; omega
            have k4 : ¬ 9223372036854775807 < M1.length + (P1.length + 7 + SX.length + 2) := by have := HL.out.1; have := LI.out; have := HLc.out; omega
            have k5 : Hid ((setsT s.during).length ≤ 140737488355328) := by rw [Hid, ← hSX.out]; have := HL.out.1; have := LI.out; have := HLc.out; omega
            have qf := fun x os => cell_regrown (cel hb4 4 _ rfl).1 x os
            have hq1 := fun x os => Calls.regrown_of (hPm.out (grow (redrawn w3 x) os))
            have hq2 := fun x os => Calls.regrown_of (hC4.out (grow (redrawn w3 x) os) (hw1.out _ (below_up hB3.out (below_regrown _ x os))) hsn k5.out)
            rw [← hSX.out] at hq2
            go_upto_region 11 with fail
            refine wp_region_quiet_below (by kernel_rfl) (by kernel_rfl) ?_
            repeat (quiet_step (first | (go_at_call 64; exact hq1 _ _) | (go_at_call 104; exact hq2 _ _)))
            refine wpQuiet_nil ?_
            intro _ hw'
            obtain ⟨⟨dq, osq⟩, hw''⟩ := hw'
            subst hw''
            have hBq : Hid (Below W.heap.size W (grow (redrawn w3 dq) osq)) := below_up hB3.out (below_regrown _ dq osq)
            generalize grow (redrawn w3 dq) osq = Wq at hBq ⊢
            go_wp2_with fail
            go_meet
            exact ⟨by rw [hI2.out, H.out]; simp [ByteArray.mk_append_mk], hBq.out⟩
        case rest =>
          obtain ⟨rfl, hB4⟩ := hcut.out
          replace hB4 : Hid (Below W.heap.size W wc) := hB4
          clear hcut y4 hb4
          generalize wc = w4 at hB4 ⊢
          have hb5 := hbx.out w4 hB4.out
          obtain ⟨y5, -⟩ := cel hb5 5 _ rfl
          go_upto_if 57 with fail
          go_cut [6] (fun s0 wx => Hid (s0 = .string ⟨I3.toArray⟩ ∧ Below W.heap.size W wx))
          case first =>
            by_cases hsn : Hid (s.leave = [])
            · have H : Hid (M3 = []) := by rw [Hid, hM3.out, momT, if_pos hsn.out]
              have hM0 : n5 = 0 := by rw [hn5.out, hsn.out]; rfl
              have hM1' : ¬ (0 : Int) < (n5 : Int) := by omega
              have hM2' : ¬ 0 < n5 := by omega
              clear hM0
              go_wp2_with fail
              go_meet
              exact ⟨by rw [hI3.out, H.out, List.append_nil], hB4.out⟩
            · obtain ⟨SX, hSX⟩ : ∃ M : Str, Hid (M = setsT s.leave) := ⟨_, rfl⟩
              have H : Hid (M3 = P1 ++ [101, 120, 105, 116, 32] ++ SX ++ [59, 10]) := by rw [Hid, hM3.out, momT, if_neg (show ¬ s.leave = [] from hsn), hSX.out, hP1.out]
              have hM0 : 0 < n5 := by rw [hn5.out]; exact List.length_pos_iff.2 hsn
              have hM1' : (0 : Int) < (n5 : Int) := by omega
              have HLc : Hid (M3.length = P1.length + 5 + SX.length + 2) := by rw [Hid, H.out]; simp; omega
              have k1 : ¬ 9223372036854775807 < P1.length + 5 := by have := HL.out.1; have := LI.out; have := HLc.out; omega
              have k2 : ¬ 9223372036854775807 < P1.length + 5 + SX.length := by have := HL.out.1; have := LI.out; have := HLc.out; omega
              have k3 : ¬ 9223372036854775807 < P1.length + 5 + SX.length + 2 := by have := HL.out.1; have := LI.out; have := HLc.out; omega
              have k4 : ¬ 9223372036854775807 < I2.length + (P1.length + 5 + SX.length + 2) := by have := HL.out.1; have := LI.out; have := HLc.out; omega
              have k5 : Hid ((setsT s.leave).length ≤ 140737488355328) := by rw [Hid, ← hSX.out]; have := HL.out.1; have := LI.out; have := HLc.out; omega
              have qf := fun x os => cell_regrown (cel hb5 5 _ rfl).1 x os
              have hq1 := fun x os => Calls.regrown_of (hPm.out (grow (redrawn w4 x) os))
              have hq2 := fun x os => Calls.regrown_of (hC5.out (grow (redrawn w4 x) os) (hw1.out _ (below_up hB4.out (below_regrown _ x os))) hsn k5.out)
              rw [← hSX.out] at hq2
              go_upto_region 13 with fail
              refine wp_region_quiet_below (by kernel_rfl) (by kernel_rfl) ?_
              repeat (quiet_step (first | (go_at_call 64; exact hq1 _ _) | (go_at_call 104; exact hq2 _ _)))
              refine wpQuiet_nil ?_
              intro _ hw'
              obtain ⟨⟨dq, osq⟩, hw''⟩ := hw'
              subst hw''
              have hBq : Hid (Below W.heap.size W (grow (redrawn w4 dq) osq)) := below_up hB4.out (below_regrown _ dq osq)
              generalize grow (redrawn w4 dq) osq = Wq at hBq ⊢
              go_wp2_with fail
              go_meet
              exact ⟨by rw [hI3.out, H.out]; simp [ByteArray.mk_append_mk], hBq.out⟩
          case rest =>
            obtain ⟨rfl, hB5⟩ := hcut.out
            replace hB5 : Hid (Below W.heap.size W wc) := hB5
            clear hcut y5 hb5
            generalize wc = w5 at hB5 ⊢
            have hb6 := hbx.out w5 hB5.out
            obtain ⟨y6, -⟩ := cel hb6 6 _ rfl
            go_upto_if 71 with fail
            go_cut [6] (fun s0 wx => Hid (s0 = .string ⟨I4.toArray⟩ ∧ Below W.heap.size W wx))
            case first =>
              by_cases hcn : Hid (s.rests = .nil)
              · have H : Hid (RT = []) := by rw [Hid, hRT.out, hcn.out]; rfl
                obtain rfl : u = none := hu.out.2 hcn.out
                go_wp2_with fail
                go_meet
                exact ⟨by rw [hI4.out, H.out, List.append_nil], hB5.out⟩
              · obtain ⟨SX, hSX⟩ : ∃ X, Hid (X = exprT s.rests 0) := ⟨_, rfl⟩
                obtain ⟨a, rfl⟩ : ∃ a, u = some a := by
                  cases u with
                  | none => exact absurd (hu.out.1 rfl) hcn
                  | some a => exact ⟨a, rfl⟩
                have H : Hid (RT = P1 ++ [115, 117, 115, 112, 101, 110, 100, 32] ++ SX ++ [59, 10]) := by
                  rw [Hid, hRT.out, hSX.out, hP1.out]
                  cases he : s.rests with
                  | nil => exact absurd he hcn
                  | node _ _ _ _ _ => rfl
                have HLc : Hid (RT.length = P1.length + 8 + SX.length + 2) := by rw [Hid, H.out]; simp; omega
                have k1 : ¬ 9223372036854775807 < P1.length + 8 := by have := HL.out.1; have := LI.out; have := HLc.out; omega
                have k2 : ¬ 9223372036854775807 < P1.length + 8 + SX.length := by have := HL.out.1; have := LI.out; have := HLc.out; omega
                have k3 : ¬ 9223372036854775807 < P1.length + 8 + SX.length + 2 := by have := HL.out.1; have := LI.out; have := HLc.out; omega
                have k4 : ¬ 9223372036854775807 < I3.length + (P1.length + 8 + SX.length + 2) := by have := HL.out.1; have := LI.out; have := HLc.out; omega
                have k5 : Hid ((exprT s.rests 0).length ≤ 140737488355328) := by rw [Hid, ← hSX.out]; have := HL.out.1; have := LI.out; have := HLc.out; omega
                have qf := fun x os => cell_regrown (cel hb6 6 _ rfl).1 x os
                have hq1 := fun x os => Calls.regrown_of (hPm.out (grow (redrawn w5 x) os))
                have hq2 := fun x os => Calls.regrown_of (hC6.out (grow (redrawn w5 x) os) (hw1.out _ (below_up hB5.out (below_regrown _ x os))) k5.out)
                rw [← hSX.out] at hq2
                go_upto_region 15 with fail
                refine wp_region_quiet_below (by kernel_rfl) (by kernel_rfl) ?_
                repeat (quiet_step (first | (go_at_call 64; exact hq1 _ _) | (go_at_call 12; exact hq2 _ _)))
                refine wpQuiet_nil ?_
                intro _ hw'
                obtain ⟨⟨dq, osq⟩, hw''⟩ := hw'
                subst hw''
                have hBq : Hid (Below W.heap.size W (grow (redrawn w5 dq) osq)) := below_up hB5.out (below_regrown _ dq osq)
                generalize grow (redrawn w5 dq) osq = Wq at hBq ⊢
                go_wp2_with fail
                go_meet
                exact ⟨by rw [hI4.out, H.out]; simp [ByteArray.mk_append_mk], hBq.out⟩
            case rest =>
              obtain ⟨rfl, hB6⟩ := hcut.out
              replace hB6 : Hid (Below W.heap.size W wc) := hB6
              clear hcut y6 hb6
              generalize wc = w6 at hB6 ⊢
              obtain ⟨y7, -⟩ := cel (hbx.out w6 hB6.out) 7 _ rfl
              go_wp2_with fail
              go_loopg [6, 86] N (fun f s0 i wr => ∃ j : Nat, f = N - j ∧ j ≤ N ∧ s0 = .string ⟨(I4 ++ (s.ways.take j).flatMap (wlT m)).toArray⟩ ∧ i = .int .i64 j ∧ Hid (Below W.heap.size W wr))
              case atStart => exact ⟨0, by omega, by omega, by simp, rfl, hB6⟩
              case round =>
                obtain ⟨j, rfl, hj, rfl, rfl, hr⟩ := hrel
                obtain ⟨T, hT⟩ : ∃ T : Str, Hid (T = I4 ++ (s.ways.take j).flatMap (wlT m)) := ⟨_, rfl⟩
                rw [← hT.out]
                by_cases hlt : j < N
                · obtain ⟨a, ha⟩ : ∃ a, Hid (s.ways[j]? = some a) := ⟨s.ways[j]'(by rw [← hN.out]; exact hlt), by rw [Hid, List.getElem?_eq_getElem]⟩
                  obtain ⟨p, qa, qn, qc, hy, hcw⟩ := hWy.out j a ha.out
                  replace hcw : Hid _ := hcw
                  have hbr : Hid (Below w.heap.size w wr) := hw1.out _ hr.out
                  obtain ⟨-, x0, x1, x2, x3, x4, x5, x6⟩ := hy
                  rw [← hbr.out.cell (block_lt_of_cell x0)] at x0
                  rw [← hbr.out.cell (block_lt_of_cell x1)] at x1
                  rw [← hbr.out.cell (block_lt_of_cell x2)] at x2
                  rw [← hbr.out.cell (block_lt_of_cell x3)] at x3
                  rw [← hbr.out.cell (block_lt_of_cell x4)] at x4
                  rw [← hbr.out.cell (block_lt_of_cell x5)] at x5
                  rw [← hbr.out.cell (block_lt_of_cell x6)] at x6
                  rw [sv] at x5
                  have hbw := heap_alloc_new wr (.cells #[.int .i64 a.kind, .bool a.now, .pointer p, .int .i64 a.times, .slice qa qn qc, .string ⟨a.to.toArray⟩, .bool a.back] 94)
                  have hB7 : Hid (Below W.heap.size W (wr.alloc (.cells #[.int .i64 a.kind, .bool a.now, .pointer p, .int .i64 a.times, .slice qa qn qc, .string ⟨a.to.toArray⟩, .bool a.back] 94))) := hr.out.alloc hr.out.size _
                  obtain ⟨WX, hWX⟩ : ∃ X : Str, Hid (X = wayT a) := ⟨_, rfl⟩
                  have HB : Hid (T.length + (P1.length + WX.length + 1) ≤ 140737488355328 ∧ I4 ++ (s.ways.take (j + 1)).flatMap (wlT m) = T ++ (P1 ++ WX ++ [10])) := by
                    have e1 : I4 ++ (s.ways.take (j + 1)).flatMap (wlT m) = T ++ (P1 ++ WX ++ [10]) := by
                      rw [take_snoc ha.out, List.flatMap_append, hT.out, hWX.out, hP1.out]; simp [List.append_assoc, wlT]
                    refine ⟨?_, e1⟩
                    have h1 := congrArg List.length e1
                    have h2 := flatMap_take_le (wlT m) s.ways (j + 1)
                    rw [← hWT.out] at h2
                    have h3 := HL.out.1
                    have h4 := LI.out
                    simp only [List.length_append, List.length_cons, List.length_nil] at h1
                    omega
                  have hi0 : (0 : Int) ≤ (j : Int) := Int.natCast_nonneg _
                  have hi1 : (j : Int) < (N : Int) := by omega
                  have k1 : ¬ 9223372036854775807 < P1.length + WX.length := by have := HB.out.1; omega
                  have k2 : ¬ 9223372036854775807 < P1.length + WX.length + 1 := by have := HB.out.1; omega
                  have k3 : ¬ 9223372036854775807 < T.length + (P1.length + WX.length + 1) := by have := HB.out.1; omega
                  have k4 : Hid ((wayT a).length ≤ 140737488355328) := by rw [Hid, ← hWX.out]; have := HB.out.1; omega
                  go_upto_region 19 with fail
                  generalize wr.alloc (.cells #[.int .i64 a.kind, .bool a.now, .pointer p, .int .i64 a.times, .slice qa qn qc, .string ⟨a.to.toArray⟩, .bool a.back] 94) = W7 at hbw hB7 ⊢
                  have r0 := fun x os => cell_regrown (cel hbw 0 _ rfl).1 x os
                  have r1 := fun x os => cell_regrown (cel hbw 1 _ rfl).1 x os
                  have r2 := fun x os => cell_regrown (cel hbw 2 _ rfl).1 x os
                  have r3 := fun x os => cell_regrown (cel hbw 3 _ rfl).1 x os
                  have r4 := fun x os => cell_regrown (cel hbw 4 _ rfl).1 x os
                  have r5 := fun x os => cell_regrown (cel hbw 5 _ rfl).1 x os
                  have r6 := fun x os => cell_regrown (cel hbw 6 _ rfl).1 x os
                  have hq1 := fun x os => Calls.regrown_of (hPm.out (grow (redrawn W7 x) os))
                  have hq2 := fun x os => Calls.regrown_of (hcw.out k4.out (grow (redrawn W7 x) os) (hw1.out _ (below_up hB7.out (below_regrown _ x os))))
                  rw [← hWX.out] at hq2
                  refine wp_region_quiet_below (by kernel_rfl) (by kernel_rfl) ?_
                  repeat (quiet_step (first | (go_at_call 64; exact hq1 _ _) | (go_at_call 105; exact hq2 _ _)))
                  refine wpQuiet_nil ?_
                  intro _ hw'
                  obtain ⟨⟨dq, osq⟩, hw''⟩ := hw'
                  subst hw''
                  have hBq : Hid (Below W.heap.size W (grow (redrawn W7 dq) osq)) := below_up hB7.out (below_regrown _ dq osq)
                  generalize grow (redrawn W7 dq) osq = Wq at hBq ⊢
                  go_wp2_with fail
                  go_roundg (N - (j + 1))
                  case measure => omega
                  case rel => exact ⟨j + 1, rfl, by omega, by rw [HB.out.2]; simp [ByteArray.mk_append_mk], by go_num, hBq⟩
                · have hjN : T = I5 := by rw [hT.out, hI5.out, hWT.out, List.take_of_length_le (by rw [← hN.out]; omega)]
                  rw [hjN]
                  clear hjN
                  go_upto_region 21 with fail
                  obtain ⟨y8, -⟩ := cel (hbx.out wr hr.out) 8 _ rfl
                  have k1 : I5.length ≤ 140737488355328 := by have := HL.out.1; have := LI.out; omega
                  have k2 : GT.length ≤ 140737488355328 := by have := HL.out.1; have := LI.out; omega
                  have k3 : S3.length ≤ 140737488355328 := by have := HL.out.1; omega
                  have k4 : I6.length ≤ 140737488355328 := by have := HL.out.1; omega
                  go_upto_region 22 with (go_at_call 35; refine (hC8.out _ (hw1.out _ hr.out) k2).mono ?_; rintro _ w8 ⟨rfl, hB8⟩)
                  replace hB8 : Hid (Below W.heap.size W w8) := below_up hr.out hB8
                  rw [show ((⟨I5.toArray⟩ : ByteArray) ++ ⟨GT.toArray⟩) = ⟨I6.toArray⟩ by rw [hI6.out]; simp [ByteArray.mk_append_mk]]
                  by_cases hI : Hid (I6 = [])
                  · have he : (⟨I6.toArray⟩ : ByteArray) = ⟨#[]⟩ := by rw [hI.out]
                    rw [he]
                    clear he
                    go_wp2_with fail
                    go_ret
                    exact ⟨by simp [ByteArray.mk_append_mk], hw1.out _ hB8.out⟩
                  · have HL2 : Hid _ := HL.out.2 hI
                    have hne : ¬ I6 = [] := hI
                    have hie : List.isEmpty I6 = false := by simpa using hne
                    have k5 : ¬ 9223372036854775807 < S3.length + 3 := by have := HL2.out; omega
                    have k6 : ¬ 9223372036854775807 < S3.length + 3 + I6.length := by have := HL2.out; omega
                    have k7 : ¬ 9223372036854775807 < S3.length + 3 + I6.length + P.length := by have := HL2.out; omega
                    have k8 : ¬ 9223372036854775807 < S3.length + 3 + I6.length + P.length + 2 := by have := HL2.out; omega
                    go_wp2_with (go_at_call 64; refine (hPd.out w8).mono ?_; rintro _ w9 ⟨rfl, hB9⟩)
                    go_ret
                    exact ⟨by first | (rw [if_neg hne]; simp [ByteArray.mk_append_mk]) | simp [ByteArray.mk_append_mk], hw1.out _ (below_up hB8.out hB9)⟩

theorem xstate_x {k : Nat} (hR : RegsX k) : StateX k := by
  intro A w d s cs hd hE hG hs hlim
  obtain ⟨e3, e4, e5, p, y, e8, rfl, h3, h4, h5, h6, h7, h8⟩ := hs
  obtain ⟨u, rfl⟩ := h6.pt
  rcases h7.look with ⟨hw, ao, cap, rfl⟩ | ⟨g, cap, rfl, g0, gm, gl, ga, gr⟩
  · exact xstate_nil hR s hG hd hE h3 h4 h5 h6 hw h8 hlim
  · exact xstate_some hR s hG hd hE h3 h4 h5 h6 rfl gm gr h8 hlim
end Go.Proofs.YtlgoclebedjiiaaGreatDoor
