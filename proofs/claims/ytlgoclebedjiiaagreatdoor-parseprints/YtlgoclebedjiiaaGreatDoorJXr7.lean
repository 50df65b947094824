/- The document's own Print: regions. -/
import Derived.Test.YtlgoclebedjiiaaGreatDoorJXr5
namespace Go.Proofs.YtlgoclebedjiiaaGreatDoor
open Go.RowKit Go.Lib Go.Sort Px

/-- a state in a row, as the document's loop reads it -/
def StLook (w : World) (k m g i : Nat) (a : St k) : Prop :=
  ∃ (nm : ByteArray) (fs ls : Bool) (b3 b4 b5 u b7 b8 : Option Addr) (n3 n4 n5 n7 n8 m3 m4 m5 m7 m8 : Nat),
    (w.cell? ⟨g, i * 9, none⟩ = some (.string nm) ∧ w.cell? ⟨g, i * 9 + 1, none⟩ = some (.bool fs) ∧ w.cell? ⟨g, i * 9 + 2, none⟩ = some (.bool ls) ∧ w.cell? ⟨g, i * 9 + 3, none⟩ = some (.slice b3 n3 m3) ∧ w.cell? ⟨g, i * 9 + 4, none⟩ = some (.slice b4 n4 m4) ∧ w.cell? ⟨g, i * 9 + 5, none⟩ = some (.slice b5 n5 m5) ∧ w.cell? ⟨g, i * 9 + 6, none⟩ = some (.pointer u) ∧ w.cell? ⟨g, i * 9 + 7, none⟩ = some (.slice b7 n7 m7) ∧ w.cell? ⟨g, i * 9 + 8, none⟩ = some (.slice b8 n8 m8)) ∧
    ((stateT k a m).length ≤ 140737488355328 → ∀ W1, Below w.heap.size w W1 → Calls Tryz.prog 65 #[.agg #[.string nm, .bool fs, .bool ls, .slice b3 n3 m3, .slice b4 n4 m4, .slice b5 n5 m5, .pointer u, .slice b7 n7 m7, .slice b8 n8 m8], .int .i64 m] W1 fun e w' => e = .returned (.string ⟨(stateT k a m).toArray⟩) ∧ Below W1.heap.size W1 w')
def RowLook (w : World) (k m : Nat) (r : List (St k)) (v : Value) : Prop :=
  (r = [] ∧ ∃ ao cap, v = .slice ao 0 cap) ∨ ∃ g cap, v = .slice (some ⟨g, 0, none⟩) r.length cap ∧ r.length ≤ maxLen ∧ ∀ (i : Nat) (a : St k), r[i]? = some a → StLook w k m g i a
theorem row_zero {A : Nat → Prop} {w : World} {m : Nat} {r : List (St 0)} {v : Value} (h : IsStates A w 0 r v) : RowLook w 0 m r v := by
  obtain ⟨rfl, rfl⟩ := h
  exact .inl ⟨rfl, _, _, rfl⟩
theorem row_succ {k m : Nat} (hX : StateX k) {A : Nat → Prop} {w : World} {r : List (St (k + 1))} {v : Value} (hm : m + 1 + 2 * k ≤ 800) (hE : PEnv w) (hG : ∀ x ∈ r, Px.OkSt (k + 1) x) (h : IsStates A w (k + 1) r v) : RowLook w (k + 1) m r v := by
  obtain ⟨xs, hr, hrs⟩ := h
  have hk9 : ∀ (a : StF (St k)) (c : List Value), StC A w (IsStates A w k) a c → c.length = 9 := fun a c ⟨_, _, _, _, _, _, hc, _⟩ => by rw [hc]; rfl
  rcases Row.recs hk9 hr hrs with ⟨h, ao, cap, rfl⟩ | ⟨g, cap, rfl, h2, h3, h4, h5, h6⟩
  · exact .inl ⟨h, _, _, rfl⟩
  · refine .inr ⟨g, cap, rfl, h3, fun i a hi => ?_⟩
    obtain ⟨c, hc, hx⟩ := h6 i a hi
    have hc0 := hc
    obtain ⟨e3, e4, e5, p, y, e8, rfl, q3, q4, q5, q6, q7, q8⟩ := hc
    obtain ⟨u, rfl⟩ := q6.pt
    obtain ⟨b3, n3, m3, rfl⟩ := q3.sl
    obtain ⟨b4, n4, m4, rfl⟩ := q4.sl
    obtain ⟨b5, n5, m5, rfl⟩ := q5.sl
    obtain ⟨b7, m7, g7, rfl, -, -⟩ := q7.read
    obtain ⟨b8, m8, rfl⟩ := q8.sl
    refine ⟨⟨a.name.toArray⟩, a.first, a.last, b3, b4, b5, u, b7, b8, n3, n4, n5, a.ways.length, a.regions.length, m3, m4, m5, m7, m8, ⟨hx 0 _ rfl, hx 1 _ rfl, hx 2 _ rfl, hx 3 _ rfl, hx 4 _ rfl, hx 5 _ rfl, hx 6 _ rfl, hx 7 _ rfl, hx 8 _ rfl⟩, fun hl W1 hb1 => ?_⟩
    exact hX A W1 m a _ hm (hE.up hb1) (hG a (List.mem_of_getElem? hi)) (StC.carry (keep_below hb1) (IsStates.carry (keep_below hb1) k) _ _ hc0) hl

set_option maxRecDepth 100000 in
set_option maxHeartbeats 2000000 in
theorem xregions_nil {cap d : Nat} {w : World} {ao : Option Addr} :
    Calls Tryz.prog 35 #[.slice ao 0 cap, .int .i64 d] w fun e w' => e = .returned (.string ⟨#[]⟩) ∧ Below w.heap.size w w' := by
  go_enter Tryz.func35, Tryz.ntmps35
  go_wp2_with fail
  refine wp_loop_rounds 1 ?_
  rw [rounds_succ]
  go_wp2_with fail
  go_ret
  exact ⟨rfl, Below.refl _ _⟩

set_option maxRecDepth 100000 in
set_option maxHeartbeats 4000000 in
theorem xregions_some {k g N cap d : Nat} {w : World} (l : List (List (St k))) (hd : d + 2 * k ≤ 800) (hN : Hid (N = l.length)) (hm : N ≤ maxLen)
    (R : Hid (∀ (i : Nat) (r : List (St k)), l[i]? = some r → ∃ u, w.cell? ⟨g, i, none⟩ = some u ∧ RowLook w k (d + 1) r u)) (hlim : (regT (stateT k) l d).length ≤ 140737488355328) :
    Calls Tryz.prog 35 #[.slice (some ⟨g, 0, none⟩) N cap, .int .i64 d] w fun e w' => e = .returned (.string ⟨(regT (stateT k) l d).toArray⟩) ∧ Below w.heap.size w w' := by
  have hN6 : (N : Int) ≤ 9223372036854775807 := by unfold maxLen at hm; omega
  obtain ⟨OT, hOT⟩ : ∃ OT : List (St k) → Str, Hid (OT = oneRegT (stateT k) d) := ⟨oneRegT (stateT k) d, rfl⟩
  obtain ⟨m, hmd⟩ : ∃ m, Hid (m = d + 1) := ⟨_, rfl⟩
  rw [← hmd.out] at R
  have hwr : IntKind.i64.wrap ((d : Int) + 1) = (m : Int) := by rw [hmd.out]; exact wrap_small (by omega)
  obtain ⟨P, hP⟩ : ∃ P : Str, Hid (P = padT d) := ⟨_, rfl⟩
  have HT : Hid (regT (stateT k) l d = l.flatMap OT) := by rw [Hid, hOT.out]; rfl
  rw [HT.out] at hlim ⊢
  have HL : Hid _ := hlim
  have hPd : Hid (∀ W1, Calls Tryz.prog 64 #[.int .i64 d] W1 fun e w' => e = .returned (.string ⟨P.toArray⟩) ∧ Below W1.heap.size W1 w') := fun W1 => by rw [hP.out]; exact xpad_any d (by omega) W1
  clear hlim hm hd
  go_enter Tryz.func35, Tryz.ntmps35
  go_wp2_with fail
  go_loopg [5, 12] N (fun f s0 i wr => ∃ j : Nat, f = N - j ∧ j ≤ N ∧ s0 = .string ⟨((l.take j).flatMap OT).toArray⟩ ∧ i = .int .i64 j ∧ Hid (Below w.heap.size w wr))
  case atStart => exact ⟨0, by omega, by omega, rfl, rfl, Below.refl _ _⟩
  case round =>
    obtain ⟨j, rfl, hj, rfl, rfl, hr⟩ := hrel
    obtain ⟨T, hT⟩ : ∃ T : Str, Hid (T = (l.take j).flatMap OT) := ⟨_, rfl⟩
    rw [← hT.out]
    by_cases hlt : j < N
    · obtain ⟨r, hjr⟩ : ∃ r, Hid (l[j]? = some r) := ⟨l[j]'(by rw [← hN.out]; exact hlt), by rw [Hid, List.getElem?_eq_getElem]⟩
      obtain ⟨u, x0, hu⟩ := R.out j r hjr.out
      rw [← hr.out.cell (block_lt_of_cell x0)] at x0
      obtain ⟨ST, hST⟩ : ∃ ST : St k → Str, Hid (ST = fun x => stateT k x m) := ⟨fun x => stateT k x m, rfl⟩
      obtain ⟨X, hX⟩ : ∃ X : Str, Hid (X = r.flatMap ST) := ⟨_, rfl⟩
      obtain ⟨T1, hT1⟩ : ∃ T1 : Str, Hid (T1 = T ++ (P ++ [114, 101, 103, 105, 111, 110, 32, 123, 10])) := ⟨T ++ (P ++ [114, 101, 103, 105, 111, 110, 32, 123, 10]), rfl⟩
      obtain ⟨T2, hT2⟩ : ∃ T2 : Str, Hid (T2 = T1 ++ X) := ⟨_, rfl⟩
      have HB : Hid (T.length + P.length + 9 + X.length + P.length + 2 ≤ 140737488355328 ∧ (l.take (j + 1)).flatMap OT = T2 ++ (P ++ [125, 10])) := by
        have e1 : (l.take (j + 1)).flatMap OT = T2 ++ (P ++ [125, 10]) := by
          rw [take_snoc hjr.out, List.flatMap_append, hT2.out, hT1.out, hT.out, hOT.out, hX.out, hP.out, hST.out, hmd.out]; simp [List.append_assoc, oneRegT]
        refine ⟨?_, e1⟩
        have h1 := congrArg List.length e1
        have h2 := flatMap_take_le OT l (j + 1)
        have h3 := HL.out
        rw [hT2.out, hT1.out] at h1
        simp only [List.length_append, List.length_cons, List.length_nil] at h1
        omega
      have L1 : Hid (T1.length = T.length + (P.length + 9) ∧ T2.length = T1.length + X.length) := by rw [Hid, hT2.out, hT1.out]; simp; omega
      have hi0 : (0 : Int) ≤ (j : Int) := Int.natCast_nonneg _
      have hi1 : (j : Int) < (N : Int) := by omega
      have z1 : P.length ≤ 140737488355328 := by have := HB.out.1; omega
      have z2 : T.length ≤ 140737488355328 := by have := HB.out.1; omega
      have z3 : T2.length ≤ 140737488355328 := by have := HB.out.1; have := L1.out; omega
      rcases hu with ⟨hre, ao, uc, rfl⟩ | ⟨g2, uc, rfl, hm2, R2⟩
      · have h12 : Hid (T1 = T2) := by rw [Hid, hT2.out, hX.out, hre]; simp
        clear hre
        go_upto_region 6 with (go_at_call 64; refine (hPd.out wr).mono ?_; rintro _ w6 ⟨rfl, hB6⟩)
        rw [show ((⟨T.toArray⟩ : ByteArray) ++ ((⟨P.toArray⟩ : ByteArray) ++ ⟨#[114, 101, 103, 105, 111, 110, 32, 123, 10]⟩)) = ⟨T2.toArray⟩ by rw [← h12.out, hT1.out]; simp [ByteArray.mk_append_mk]]
        replace hB6 : Hid (Below w.heap.size w w6) := below_up hr.out hB6
        go_wp2_with fail
        refine wp_loop_rounds 1 ?_
        rw [rounds_succ]
        go_wp2_with (go_at_call 64; refine (hPd.out w6).mono ?_; rintro _ w7 ⟨rfl, hB7⟩)
        go_roundg (N - (j + 1))
        case measure => omega
        case rel => exact ⟨j + 1, rfl, by omega, by rw [HB.out.2]; simp [ByteArray.mk_append_mk], by go_num, below_up hB6.out hB7⟩
      · obtain ⟨M, hM⟩ : ∃ M, Hid (M = r.length) := ⟨_, rfl⟩
        rw [← hM.out] at x0 hm2
        have hM6 : (M : Int) ≤ 9223372036854775807 := by unfold maxLen at hm2; omega
        replace R2 : Hid _ := R2
        clear hm2
        go_upto_region 6 with (go_at_call 64; refine (hPd.out wr).mono ?_; rintro _ w6 ⟨rfl, hB6⟩)
        rw [show ((⟨T.toArray⟩ : ByteArray) ++ ((⟨P.toArray⟩ : ByteArray) ++ ⟨#[114, 101, 103, 105, 111, 110, 32, 123, 10]⟩)) = ⟨T1.toArray⟩ by rw [hT1.out]; simp [ByteArray.mk_append_mk]]
        replace hB6 : Hid (Below w.heap.size w w6) := below_up hr.out hB6
        clear x0
        go_wp2_with fail
        go_loopg [5, 23] M (fun f s0 i wx => ∃ q : Nat, f = M - q ∧ q ≤ M ∧ s0 = .string ⟨(T1 ++ (r.take q).flatMap ST).toArray⟩ ∧ i = .int .i64 q ∧ Hid (Below w.heap.size w wx))
        case atStart => exact ⟨0, by omega, by omega, by simp, rfl, hB6⟩
        case round =>
          obtain ⟨q, rfl, hq, rfl, rfl, hrx⟩ := hrel
          obtain ⟨Tq, hTq⟩ : ∃ T : Str, Hid (T = T1 ++ (r.take q).flatMap ST) := ⟨_, rfl⟩
          rw [← hTq.out]
          by_cases hlq : q < M
          · obtain ⟨a, hqa⟩ : ∃ a, Hid (r[q]? = some a) := ⟨r[q]'(by rw [← hM.out]; exact hlq), by rw [Hid, List.getElem?_eq_getElem]⟩
            obtain ⟨nm, fs, ls, b3, b4, b5, u, b7, b8, n3, n4, n5, n7, n8, m3, m4, m5, m7, m8, ⟨x0, x1, x2, x3, x4, x5, x6, x7, x8⟩, hcs⟩ := R2.out q a hqa.out
            replace hcs : Hid _ := hcs
            rw [← hrx.out.cell (block_lt_of_cell x0)] at x0
            rw [← hrx.out.cell (block_lt_of_cell x1)] at x1
            rw [← hrx.out.cell (block_lt_of_cell x2)] at x2
            rw [← hrx.out.cell (block_lt_of_cell x3)] at x3
            rw [← hrx.out.cell (block_lt_of_cell x4)] at x4
            rw [← hrx.out.cell (block_lt_of_cell x5)] at x5
            rw [← hrx.out.cell (block_lt_of_cell x6)] at x6
            rw [← hrx.out.cell (block_lt_of_cell x7)] at x7
            rw [← hrx.out.cell (block_lt_of_cell x8)] at x8
            have hb9 := heap_alloc_new wr (.cells #[.string nm, .bool fs, .bool ls, .slice b3 n3 m3, .slice b4 n4 m4, .slice b5 n5 m5, .pointer u, .slice b7 n7 m7, .slice b8 n8 m8] 38)
            have hB9 : Hid (Below w.heap.size w (wr.alloc (.cells #[.string nm, .bool fs, .bool ls, .slice b3 n3 m3, .slice b4 n4 m4, .slice b5 n5 m5, .pointer u, .slice b7 n7 m7, .slice b8 n8 m8] 38))) := hrx.out.alloc hrx.out.size _
            obtain ⟨SX, hSX⟩ : ∃ X : Str, Hid (X = stateT k a m) := ⟨_, rfl⟩
            have HQ : Hid (Tq.length + SX.length ≤ 140737488355328 ∧ T1 ++ (r.take (q + 1)).flatMap ST = Tq ++ SX) := by
              have e1 : T1 ++ (r.take (q + 1)).flatMap ST = Tq ++ SX := by
                rw [take_snoc hqa.out, List.flatMap_append, hTq.out, hST.out, hSX.out]; simp [List.append_assoc]
              refine ⟨?_, e1⟩
              have h1 := congrArg List.length e1
              have h2 := flatMap_take_le ST r (q + 1)
              rw [← hX.out] at h2
              have h3 := HB.out.1
              have h4 := L1.out
              simp only [List.length_append] at h1
              omega
            have i0 : (0 : Int) ≤ (q : Int) := Int.natCast_nonneg _
            have i1 : (q : Int) < (M : Int) := by omega
            have k1 : Tq.length ≤ 140737488355328 := by have := HQ.out.1; omega
            have k2 : SX.length ≤ 140737488355328 := by have := HQ.out.1; omega
            have k3 : Hid ((stateT k a m).length ≤ 140737488355328) := by rw [Hid, ← hSX.out]; exact k2
            go_upto_region 9 with fail
            generalize wr.alloc (.cells #[.string nm, .bool fs, .bool ls, .slice b3 n3 m3, .slice b4 n4 m4, .slice b5 n5 m5, .pointer u, .slice b7 n7 m7, .slice b8 n8 m8] 38) = W9 at hb9 hB9 ⊢
            clear x0 x1 x2 x3 x4 x5 x6 x7 x8
            obtain ⟨r0, -⟩ := cel hb9 0 _ rfl
            obtain ⟨r1, -⟩ := cel hb9 1 _ rfl
            obtain ⟨r2, -⟩ := cel hb9 2 _ rfl
            obtain ⟨r3, -⟩ := cel hb9 3 _ rfl
            obtain ⟨r4, -⟩ := cel hb9 4 _ rfl
            obtain ⟨r5, -⟩ := cel hb9 5 _ rfl
            obtain ⟨r6, -⟩ := cel hb9 6 _ rfl
            obtain ⟨r7, -⟩ := cel hb9 7 _ rfl
            obtain ⟨r8, -⟩ := cel hb9 8 _ rfl
            have hcq := hcs.out k3.out W9 hB9.out
            rw [← hSX.out] at hcq
            replace hcq : Hid _ := hcq
            go_wp2_with (go_at_call 65; refine (Calls.mono hcq.out) ?_; rintro _ wx ⟨rfl, hBx⟩)
            go_roundg (M - (q + 1))
            case measure => omega
            case rel => exact ⟨q + 1, rfl, by omega, by rw [HQ.out.2]; simp [ByteArray.mk_append_mk], by go_num, below_up hB9.out hBx⟩
          · rw [show Tq = T2 by rw [hTq.out, hT2.out, hX.out, List.take_of_length_le (by rw [← hM.out]; omega)]]
            go_wp2_with (go_at_call 64; refine (hPd.out wr).mono ?_; rintro _ w7 ⟨rfl, hB7⟩)
            go_roundg (N - (j + 1))
            case measure => omega
            case rel => exact ⟨j + 1, rfl, by omega, by rw [HB.out.2]; simp [ByteArray.mk_append_mk], by go_num, below_up hrx.out hB7⟩
    · go_wp2_with fail
      go_ret
      exact ⟨by rw [hT.out, List.take_of_length_le (by rw [← hN.out]; omega)]; rfl, hr.out⟩
theorem xregs_of {k : Nat} (hL : ∀ (A : Nat → Prop) (w : World) (m : Nat) (r : List (St k)) (v : Value), m + 2 * k ≤ 801 → PEnv w → (∀ x ∈ r, Px.OkSt k x) → IsStates A w k r v → RowLook w k m r v) : RegsX k := by
  intro A w p d l hd hE hG hp hlim
  obtain ⟨xs, hr, hs⟩ := hp
  rcases Row.recs (k := 1) (fun a c ⟨u, hc, _⟩ => by rw [hc]; rfl) hr hs with ⟨rfl, ao, cap, rfl⟩ | ⟨g, cap, rfl, h2, h3, h4, h5, h6⟩
  · have := xregions_nil (ao := ao) (cap := cap) (d := d) (w := w)
    simpa [regT] using this
  · refine xregions_some l hd rfl h3 (fun i r hi => ?_) hlim
    obtain ⟨c, ⟨u, rfl, hu⟩, hx⟩ := h6 i r hi
    have x0 := hx 0 _ rfl
    rw [Nat.mul_one, Nat.add_zero] at x0
    exact ⟨u, x0, hL A w (d + 1) r u (by omega) hE (hG r (List.mem_of_getElem? hi)) hu⟩
theorem xregs_x : ∀ k, RegsX k := by
  intro k
  induction k with
  | zero => exact xregs_of fun A w m r v _ _ _ h => row_zero h
  | succ k ih => exact xregs_of fun A w m r v hm hE hG h => row_succ (xstate_x ih) (by omega) hE hG h
end Go.Proofs.YtlgoclebedjiiaaGreatDoor
/- The document's own Print, whole. -/
namespace Go.Proofs.YtlgoclebedjiiaaGreatDoor
open Go.RowKit Go.Lib Go.Sort Px

set_option maxRecDepth 100000 in
set_option maxHeartbeats 4000000 in
theorem xprint_nil {cap n8 m8 : Nat} {A : Nat → Prop} {w : World} {ao b8 : Option Addr} {c : Chart} (hG : Px.OkChart c) (hE : PEnv w) (hvars : c.vars = []) (h8 : IsRegs A w (IsStates A w 6) c.regions (.slice b8 n8 m8)) (hlim : (printT c).length ≤ 140737488355328) :
    Calls Tryz.prog 10 #[.agg #[.string ⟨c.name.toArray⟩, .slice ao 0 cap, .slice b8 n8 m8]] w fun e w' => e = .returned (.string ⟨(printT c).toArray⟩) ∧ Below w.heap.size w w' := by
  obtain ⟨T0, hT0⟩ : ∃ T : Str, Hid (T = [99, 104, 97, 114, 116, 32] ++ c.name ++ [32, 123, 10]) := ⟨[99, 104, 97, 114, 116, 32] ++ c.name ++ [32, 123, 10], rfl⟩
  obtain ⟨VT, hVT⟩ : ∃ T : Str, Hid (T = c.vars.flatMap declT) := ⟨_, rfl⟩
  obtain ⟨GT, hGT⟩ : ∃ T : Str, Hid (T = regT (stateT 6) c.regions 1) := ⟨_, rfl⟩
  obtain ⟨T1, hT1⟩ : ∃ T : Str, Hid (T = T0 ++ VT) := ⟨_, rfl⟩
  have HT : Hid (printT c = T1 ++ GT ++ [125, 10]) := by rw [Hid, printT, hT1.out, hT0.out, hVT.out, hGT.out]
  rw [HT.out] at hlim ⊢
  have L0 : Hid (T0.length = 6 + c.name.length + 3 ∧ T1.length = T0.length + VT.length) := by rw [Hid, hT1.out, hT0.out]; simp; omega
  have HL : Hid (T1.length + GT.length + 2 ≤ 140737488355328) := by rw [Hid]; simp at hlim; omega
  have HG : Hid _ := hG.1
  have hC8 : Hid (∀ W1, Below w.heap.size w W1 → GT.length ≤ 140737488355328 → Calls Tryz.prog 35 #[.slice b8 n8 m8, .int .i64 1] W1 fun e w' => e = .returned (.string ⟨GT.toArray⟩) ∧ Below W1.heap.size W1 w') := fun W1 hb1 hl => by
    rw [hGT.out] at hl ⊢; exact xregs_x 6 A W1 _ 1 c.regions (by omega) (hE.up hb1) hG.2 (h8.carry (keep_below hb1) (IsStates.carry (keep_below hb1) 6)) hl
  have hE0 : Hid (PEnv w) := hE
  obtain ⟨gb, hgb⟩ : ∃ g, Hid (g = w.heap.size) := ⟨_, rfl⟩
  have hb := heap_alloc_new w (.cells #[.string ⟨c.name.toArray⟩, .slice ao 0 cap, .slice b8 n8 m8] 25)
  have hBW : Hid (Below w.heap.size w (w.alloc (.cells #[.string ⟨c.name.toArray⟩, .slice ao 0 cap, .slice b8 n8 m8] 25))) := (Below.refl _ w).alloc (Nat.le_refl _) _
  clear hlim hG hE h8 HT
  go_enter Tryz.func10, Tryz.ntmps10
  go_upto_region 1 with fail
  generalize w.alloc (.cells #[.string ⟨c.name.toArray⟩, .slice ao 0 cap, .slice b8 n8 m8] 25) = W at hb hBW ⊢
  rw [← hgb.out] at hb ⊢
  have hgl : Hid (gb < W.heap.size) := by rw [Hid]; exact (Array.getElem?_eq_some_iff.1 hb).1
  have hbx : Hid (∀ wx, Below W.heap.size W wx → wx.heap[gb]? = some (.cells #[.string ⟨c.name.toArray⟩, .slice ao 0 cap, .slice b8 n8 m8] 25 (0, 0))) := fun wx h => by rw [h.block _ hgl.out]; exact hb
  have hw1 : Hid (∀ wx, Below W.heap.size W wx → Below w.heap.size w wx) := fun wx h => below_up hBW.out h
  obtain ⟨y0, -⟩ := cel hb 0 _ rfl
  obtain ⟨y1, -⟩ := cel hb 1 _ rfl
  have z0 : c.name.length ≤ 140737488355328 := by have := HL.out; have := L0.out; omega
  go_upto_region 2 with fail
  rw [show ((⟨#[99, 104, 97, 114, 116, 32]⟩ : ByteArray) ++ ⟨c.name.toArray⟩ ++ ⟨#[32, 123, 10]⟩) = ⟨T0.toArray⟩ by rw [hT0.out]; simp [ByteArray.mk_append_mk]]
  clear y0 z0
  go_wp2_with fail
  refine wp_loop_rounds 1 ?_
  rw [rounds_succ]
  have hr : Hid (Below W.heap.size W W) := Below.refl _ _
  have h54 : T0 = T1 := by rw [hT1.out, hVT.out, hvars]; simp
  rw [h54]
  clear h54
  obtain ⟨y8, -⟩ := cel (hbx.out W hr.out) 2 _ rfl
  have k1 : GT.length ≤ 140737488355328 := by have := HL.out; omega
  have k2 : ¬ 9223372036854775807 < T1.length + GT.length := by have := HL.out; omega
  have k3 : ¬ 9223372036854775807 < T1.length + GT.length + 2 := by have := HL.out; omega
  go_wp2_with (go_at_call 35; refine (hC8.out _ (hw1.out _ hr.out) k1).mono ?_; rintro _ w8 ⟨rfl, hB8⟩)
  go_ret
  exact ⟨by simp [ByteArray.mk_append_mk], hw1.out _ (below_up hr.out hB8)⟩
set_option maxRecDepth 100000 in
set_option maxHeartbeats 4000000 in
theorem xprint_some {g N cap n8 m8 : Nat} {A : Nat → Prop} {w : World} {b8 : Option Addr} {c : Chart} (hG : Px.OkChart c) (hE : PEnv w) (hN : Hid (N = c.vars.length)) (hm : N ≤ maxLen) (hv : Hid (∀ (i : Nat) (a : Decl), c.vars[i]? = some a → w.cell? ⟨g, i * 3, none⟩ = some (.int .i64 a.kind) ∧ w.cell? ⟨g, i * 3 + 1, none⟩ = some (sv a.name) ∧ w.cell? ⟨g, i * 3 + 2, none⟩ = some (.int .i64 a.first))) (h8 : IsRegs A w (IsStates A w 6) c.regions (.slice b8 n8 m8)) (hlim : (printT c).length ≤ 140737488355328) :
    Calls Tryz.prog 10 #[.agg #[.string ⟨c.name.toArray⟩, .slice (some ⟨g, 0, none⟩) N cap, .slice b8 n8 m8]] w fun e w' => e = .returned (.string ⟨(printT c).toArray⟩) ∧ Below w.heap.size w w' := by
  obtain ⟨T0, hT0⟩ : ∃ T : Str, Hid (T = [99, 104, 97, 114, 116, 32] ++ c.name ++ [32, 123, 10]) := ⟨[99, 104, 97, 114, 116, 32] ++ c.name ++ [32, 123, 10], rfl⟩
  obtain ⟨VT, hVT⟩ : ∃ T : Str, Hid (T = c.vars.flatMap declT) := ⟨_, rfl⟩
  obtain ⟨GT, hGT⟩ : ∃ T : Str, Hid (T = regT (stateT 6) c.regions 1) := ⟨_, rfl⟩
  obtain ⟨T1, hT1⟩ : ∃ T : Str, Hid (T = T0 ++ VT) := ⟨_, rfl⟩
  have HT : Hid (printT c = T1 ++ GT ++ [125, 10]) := by rw [Hid, printT, hT1.out, hT0.out, hVT.out, hGT.out]
  rw [HT.out] at hlim ⊢
  have L0 : Hid (T0.length = 6 + c.name.length + 3 ∧ T1.length = T0.length + VT.length) := by rw [Hid, hT1.out, hT0.out]; simp; omega
  have HL : Hid (T1.length + GT.length + 2 ≤ 140737488355328) := by rw [Hid]; simp at hlim; omega
  have HG : Hid _ := hG.1
  have hC8 : Hid (∀ W1, Below w.heap.size w W1 → GT.length ≤ 140737488355328 → Calls Tryz.prog 35 #[.slice b8 n8 m8, .int .i64 1] W1 fun e w' => e = .returned (.string ⟨GT.toArray⟩) ∧ Below W1.heap.size W1 w') := fun W1 hb1 hl => by
    rw [hGT.out] at hl ⊢; exact xregs_x 6 A W1 _ 1 c.regions (by omega) (hE.up hb1) hG.2 (h8.carry (keep_below hb1) (IsStates.carry (keep_below hb1) 6)) hl
  have hE0 : Hid (PEnv w) := hE
  obtain ⟨gb, hgb⟩ : ∃ g, Hid (g = w.heap.size) := ⟨_, rfl⟩
  have hb := heap_alloc_new w (.cells #[.string ⟨c.name.toArray⟩, .slice (some ⟨g, 0, none⟩) N cap, .slice b8 n8 m8] 25)
  have hBW : Hid (Below w.heap.size w (w.alloc (.cells #[.string ⟨c.name.toArray⟩, .slice (some ⟨g, 0, none⟩) N cap, .slice b8 n8 m8] 25))) := (Below.refl _ w).alloc (Nat.le_refl _) _
  have hN6 : (N : Int) ≤ 9223372036854775807 := by unfold maxLen at hm; omega
  clear hm
  clear hlim hG hE h8 HT
  go_enter Tryz.func10, Tryz.ntmps10
  go_upto_region 1 with fail
  generalize w.alloc (.cells #[.string ⟨c.name.toArray⟩, .slice (some ⟨g, 0, none⟩) N cap, .slice b8 n8 m8] 25) = W at hb hBW ⊢
  rw [← hgb.out] at hb ⊢
  have hgl : Hid (gb < W.heap.size) := by rw [Hid]; exact (Array.getElem?_eq_some_iff.1 hb).1
  have hbx : Hid (∀ wx, Below W.heap.size W wx → wx.heap[gb]? = some (.cells #[.string ⟨c.name.toArray⟩, .slice (some ⟨g, 0, none⟩) N cap, .slice b8 n8 m8] 25 (0, 0))) := fun wx h => by rw [h.block _ hgl.out]; exact hb
  have hw1 : Hid (∀ wx, Below W.heap.size W wx → Below w.heap.size w wx) := fun wx h => below_up hBW.out h
  obtain ⟨y0, -⟩ := cel hb 0 _ rfl
  obtain ⟨y1, -⟩ := cel hb 1 _ rfl
  have z0 : c.name.length ≤ 140737488355328 := by have := HL.out; have := L0.out; omega
  go_upto_region 2 with fail
  rw [show ((⟨#[99, 104, 97, 114, 116, 32]⟩ : ByteArray) ++ ⟨c.name.toArray⟩ ++ ⟨#[32, 123, 10]⟩) = ⟨T0.toArray⟩ by rw [hT0.out]; simp [ByteArray.mk_append_mk]]
  clear y0 z0
  go_wp2_with fail
  go_loopg [3, 13] N (fun f s0 i wr => ∃ j : Nat, f = N - j ∧ j ≤ N ∧ s0 = .string ⟨(T0 ++ (c.vars.take j).flatMap declT).toArray⟩ ∧ i = .int .i64 j ∧ Hid (Below W.heap.size W wr))
  case atStart => exact ⟨0, by omega, by omega, by simp, rfl, Below.refl _ _⟩
  case round =>
    obtain ⟨j, rfl, hj, rfl, rfl, hr⟩ := hrel
    obtain ⟨T, hT⟩ : ∃ T : Str, Hid (T = T0 ++ (c.vars.take j).flatMap declT) := ⟨_, rfl⟩
    rw [← hT.out]
    by_cases hlt : j < N
    · obtain ⟨a, ha⟩ : ∃ a, Hid (c.vars[j]? = some a) := ⟨c.vars[j]'(by rw [← hN.out]; exact hlt), by rw [Hid, List.getElem?_eq_getElem]⟩
      obtain ⟨x0, x1, x2⟩ := hv.out j a ha.out
      have hbr : Hid (Below w.heap.size w wr) := hw1.out _ hr.out
      rw [← hbr.out.cell (block_lt_of_cell x0)] at x0
      rw [← hbr.out.cell (block_lt_of_cell x1)] at x1
      rw [← hbr.out.cell (block_lt_of_cell x2)] at x2
      rw [sv] at x1
      obtain ⟨gd1, gd2, gd3, gd4⟩ := HG.out a (List.mem_of_getElem? ha.out)
      have HF : Hid (-9223372036854775808 ≤ a.first ∧ a.first ≤ 9223372036854775807) := ⟨gd3, gd4⟩
      obtain ⟨kd, hkd⟩ : ∃ x, Hid (x = a.kind) := ⟨_, rfl⟩
      obtain ⟨fv, hfv⟩ : ∃ x, Hid (x = a.first) := ⟨_, rfl⟩
      have hk3 : kd = 1 ∨ kd = 2 ∨ kd = 3 := by have := hkd.out; omega
      rw [← hkd.out] at x0
      rw [← hfv.out] at x2 HF
      have hfmt : Hid (∀ W1, Below w.heap.size w W1 → Calls Tryz.prog 34 #[.int .i64 fv, .int .i64 10] W1 fun e w' => e = .returned (.string ⟨(itoa fv).toArray⟩) ∧ Below W1.heap.size W1 w') := fun W1 hb1 => formatInt fv HF.out (hE0.out.up hb1).pow
      obtain ⟨FX, hFX⟩ : ∃ X : Str, Hid (X = itoa fv) := ⟨_, rfl⟩
      rw [← hFX.out] at hfmt
      obtain ⟨KT, hKT⟩ : ∃ X : Str, Hid (X = kindT kd) := ⟨_, rfl⟩
      obtain ⟨Q1, hQ1⟩ : ∃ X : Str, Hid (X = T ++ ([32, 32] ++ KT ++ [32] ++ a.name)) := ⟨T ++ ([32, 32] ++ KT ++ [32] ++ a.name), rfl⟩
      obtain ⟨Q2, hQ2⟩ : ∃ X : Str, Hid (X = Q1 ++ (if fv ≠ 0 then [32, 58, 61, 32] ++ FX else [])) := ⟨Q1 ++ (if fv ≠ 0 then [32, 58, 61, 32] ++ FX else []), rfl⟩
      have HB : Hid (Q2.length + 2 ≤ 140737488355328 ∧ T0 ++ (c.vars.take (j + 1)).flatMap declT = Q2 ++ [59, 10]) := by
        have e1 : T0 ++ (c.vars.take (j + 1)).flatMap declT = Q2 ++ [59, 10] := by
          rw [take_snoc ha.out, List.flatMap_append, hQ2.out, hQ1.out, hT.out, hFX.out, hKT.out, hkd.out, hfv.out]; simp [List.append_assoc, declT]
        refine ⟨?_, e1⟩
        have h1 := congrArg List.length e1
        have h2 := flatMap_take_le declT c.vars (j + 1)
        rw [← hVT.out] at h2
        have h3 := HL.out
        have h4 := L0.out
        simp only [List.length_append, List.length_cons, List.length_nil] at h1
        omega
      have LQ : Hid (Q1.length = T.length + (2 + KT.length + 1 + a.name.length) ∧ Q1.length ≤ Q2.length) := by rw [Hid, hQ2.out, hQ1.out]; simp; omega
      have hi0 : (0 : Int) ≤ (j : Int) := Int.natCast_nonneg _
      have hi1 : (j : Int) < (N : Int) := by omega
      have z1 : T.length ≤ 140737488355328 := by have := HB.out.1; have := LQ.out; omega
      have z2 : Q1.length ≤ 140737488355328 := by have := HB.out.1; have := LQ.out; omega
      have z3 : Q2.length ≤ 140737488355328 := by have := HB.out.1; omega
      clear gd1 gd2 gd3 gd4 HF
      have hbd := heap_alloc_new wr (.cells #[.int .i64 kd, .string ⟨a.name.toArray⟩, .int .i64 fv] 69)
      have hBd : Hid (Below W.heap.size W (wr.alloc (.cells #[.int .i64 kd, .string ⟨a.name.toArray⟩, .int .i64 fv] 69))) := hr.out.alloc hr.out.size _
      go_upto_region 5 with fail
      generalize wr.alloc (.cells #[.int .i64 kd, .string ⟨a.name.toArray⟩, .int .i64 fv] 69) = W5 at hbd hBd ⊢
      clear x0 x1 x2
      have r0 := fun x os => cell_regrown (cel hbd 0 _ rfl).1 x os
      have r1 := fun x os => cell_regrown (cel hbd 1 _ rfl).1 x os
      obtain ⟨r2, -⟩ := cel hbd 2 _ rfl
      rcases hk3 with rfl | rfl | rfl
      · have HK : Hid (KT = [105, 110, 112, 117, 116]) := by rw [Hid, hKT.out]; rfl
        have k1 : ¬ 9223372036854775807 < 8 + a.name.length := by have := HB.out.1; have := LQ.out; omega
        have k2 : ¬ 9223372036854775807 < T.length + (8 + a.name.length) := by have := HB.out.1; have := LQ.out; have := congrArg List.length HK.out; simp at this; omega
        have hix : ∀ W : World, (Instr.index 72 (.agg #[.string ⟨#[]⟩, .string ⟨#[105, 110, 112, 117, 116]⟩, .string ⟨#[111, 117, 116, 112, 117, 116]⟩, .string ⟨#[118, 97, 114]⟩]) (.int .i64 1)).run Tryz.prog W = .ok (.string ⟨#[105, 110, 112, 117, 116]⟩) W := fun W => by kernel_rfl
        refine wp_region_quiet_below (by kernel_rfl) (by kernel_rfl) ?_
        repeat (quiet_step (fail))
        refine wpQuiet_nil ?_
        intro _ hw'
        obtain ⟨⟨dq, osq⟩, hw''⟩ := hw'
        subst hw''
        have r2' := cell_regrown r2 dq osq
        have hBq : Hid (Below W.heap.size W (grow (redrawn W5 dq) osq)) := below_up hBd.out (below_regrown _ dq osq)
        generalize grow (redrawn W5 dq) osq = W6 at hBq r2' ⊢
        rw [show ((⟨T.toArray⟩ : ByteArray) ++ ((⟨#[32, 32]⟩ : ByteArray) ++ ⟨#[105, 110, 112, 117, 116]⟩ ++ ⟨#[32]⟩ ++ ⟨a.name.toArray⟩)) = ⟨Q1.toArray⟩ by rw [hQ1.out, HK.out]; simp [ByteArray.mk_append_mk]]
        clear k1 k2 r0 r1 r2 hix
        by_cases hf0 : Hid (fv = 0)
        · have H2 : Q1 = Q2 := by rw [hQ2.out, if_neg (fun h => h hf0.out), List.append_nil]
          rw [H2]
          clear H2
          rw [show fv = 0 from hf0.out] at r2'
          go_wp2_with fail
          go_roundg (N - (j + 1))
          case measure => omega
          case rel => exact ⟨j + 1, rfl, by omega, by rw [HB.out.2]; simp [ByteArray.mk_append_mk], by go_num, hBq⟩
        · have hf1 : ¬ fv = 0 := hf0
          have H2 : Hid (Q2 = Q1 ++ ([32, 58, 61, 32] ++ FX)) := by rw [Hid, hQ2.out, if_pos hf1]
          have z4 : FX.length ≤ 140737488355328 := by have := HB.out.1; have := congrArg List.length H2.out; simp at this; omega
          have hf2 := hfmt.out W6 (hw1.out _ hBq.out)
          replace hf2 : Hid _ := hf2
          have k3 : ¬ 9223372036854775807 < Q1.length + (4 + FX.length) := by have := HB.out.1; have := congrArg List.length H2.out; simp at this; omega
          have k4 : ¬ 9223372036854775807 < Q1.length + (4 + FX.length) + 2 := by have := HB.out.1; have := congrArg List.length H2.out; simp at this; omega
          go_wp2_with (go_at_call 34; refine (Calls.mono hf2.out) ?_; rintro _ W7 ⟨rfl, hB7⟩)
          go_roundg (N - (j + 1))
          case measure => omega
          case rel => exact ⟨j + 1, rfl, by omega, by rw [HB.out.2, H2.out]; simp [ByteArray.mk_append_mk], by go_num, below_up hBq.out hB7⟩
      · have HK : Hid (KT = [111, 117, 116, 112, 117, 116]) := by rw [Hid, hKT.out]; rfl
        have k1 : ¬ 9223372036854775807 < 9 + a.name.length := by have := HB.out.1; have := LQ.out; omega
        have k2 : ¬ 9223372036854775807 < T.length + (9 + a.name.length) := by have := HB.out.1; have := LQ.out; have := congrArg List.length HK.out; simp at this; omega
        have hix : ∀ W : World, (Instr.index 72 (.agg #[.string ⟨#[]⟩, .string ⟨#[105, 110, 112, 117, 116]⟩, .string ⟨#[111, 117, 116, 112, 117, 116]⟩, .string ⟨#[118, 97, 114]⟩]) (.int .i64 2)).run Tryz.prog W = .ok (.string ⟨#[111, 117, 116, 112, 117, 116]⟩) W := fun W => by kernel_rfl
        refine wp_region_quiet_below (by kernel_rfl) (by kernel_rfl) ?_
        repeat (quiet_step (fail))
        refine wpQuiet_nil ?_
        intro _ hw'
        obtain ⟨⟨dq, osq⟩, hw''⟩ := hw'
        subst hw''
        have r2' := cell_regrown r2 dq osq
        have hBq : Hid (Below W.heap.size W (grow (redrawn W5 dq) osq)) := below_up hBd.out (below_regrown _ dq osq)
        generalize grow (redrawn W5 dq) osq = W6 at hBq r2' ⊢
        rw [show ((⟨T.toArray⟩ : ByteArray) ++ ((⟨#[32, 32]⟩ : ByteArray) ++ ⟨#[111, 117, 116, 112, 117, 116]⟩ ++ ⟨#[32]⟩ ++ ⟨a.name.toArray⟩)) = ⟨Q1.toArray⟩ by rw [hQ1.out, HK.out]; simp [ByteArray.mk_append_mk]]
        clear k1 k2 r0 r1 r2 hix
        by_cases hf0 : Hid (fv = 0)
        · have H2 : Q1 = Q2 := by rw [hQ2.out, if_neg (fun h => h hf0.out), List.append_nil]
          rw [H2]
          clear H2
          rw [show fv = 0 from hf0.out] at r2'
          go_wp2_with fail
          go_roundg (N - (j + 1))
          case measure => omega
          case rel => exact ⟨j + 1, rfl, by omega, by rw [HB.out.2]; simp [ByteArray.mk_append_mk], by go_num, hBq⟩
        · have hf1 : ¬ fv = 0 := hf0
          have H2 : Hid (Q2 = Q1 ++ ([32, 58, 61, 32] ++ FX)) := by rw [Hid, hQ2.out, if_pos hf1]
          have z4 : FX.length ≤ 140737488355328 := by have := HB.out.1; have := congrArg List.length H2.out; simp at this; omega
          have hf2 := hfmt.out W6 (hw1.out _ hBq.out)
          replace hf2 : Hid _ := hf2
          have k3 : ¬ 9223372036854775807 < Q1.length + (4 + FX.length) := by have := HB.out.1; have := congrArg List.length H2.out; simp at this; omega
          have k4 : ¬ 9223372036854775807 < Q1.length + (4 + FX.length) + 2 := by have := HB.out.1; have := congrArg List.length H2.out; simp at this; omega
          go_wp2_with (go_at_call 34; refine (Calls.mono hf2.out) ?_; rintro _ W7 ⟨rfl, hB7⟩)
          go_roundg (N - (j + 1))
          case measure => omega
          case rel => exact ⟨j + 1, rfl, by omega, by rw [HB.out.2, H2.out]; simp [ByteArray.mk_append_mk], by go_num, below_up hBq.out hB7⟩
      · have HK : Hid (KT = [118, 97, 114]) := by rw [Hid, hKT.out]; rfl
        have k1 : ¬ 9223372036854775807 < 6 + a.name.length := by have := HB.out.1; have := LQ.out; omega
        have k2 : ¬ 9223372036854775807 < T.length + (6 + a.name.length) := by have := HB.out.1; have := LQ.out; have := congrArg List.length HK.out; simp at this; omega
        have hix : ∀ W : World, (Instr.index 72 (.agg #[.string ⟨#[]⟩, .string ⟨#[105, 110, 112, 117, 116]⟩, .string ⟨#[111, 117, 116, 112, 117, 116]⟩, .string ⟨#[118, 97, 114]⟩]) (.int .i64 3)).run Tryz.prog W = .ok (.string ⟨#[118, 97, 114]⟩) W := fun W => by kernel_rfl
        refine wp_region_quiet_below (by kernel_rfl) (by kernel_rfl) ?_
        repeat (quiet_step (fail))
        refine wpQuiet_nil ?_
        intro _ hw'
        obtain ⟨⟨dq, osq⟩, hw''⟩ := hw'
        subst hw''
        have r2' := cell_regrown r2 dq osq
        have hBq : Hid (Below W.heap.size W (grow (redrawn W5 dq) osq)) := below_up hBd.out (below_regrown _ dq osq)
        generalize grow (redrawn W5 dq) osq = W6 at hBq r2' ⊢
        rw [show ((⟨T.toArray⟩ : ByteArray) ++ ((⟨#[32, 32]⟩ : ByteArray) ++ ⟨#[118, 97, 114]⟩ ++ ⟨#[32]⟩ ++ ⟨a.name.toArray⟩)) = ⟨Q1.toArray⟩ by rw [hQ1.out, HK.out]; simp [ByteArray.mk_append_mk]]
        clear k1 k2 r0 r1 r2 hix
        by_cases hf0 : Hid (fv = 0)
        · have H2 : Q1 = Q2 := by rw [hQ2.out, if_neg (fun h => h hf0.out), List.append_nil]
          rw [H2]
          clear H2
          rw [show fv = 0 from hf0.out] at r2'
          go_wp2_with fail
          go_roundg (N - (j + 1))
          case measure => omega
          case rel => exact ⟨j + 1, rfl, by omega, by rw [HB.out.2]; simp [ByteArray.mk_append_mk], by go_num, hBq⟩
        · have hf1 : ¬ fv = 0 := hf0
          have H2 : Hid (Q2 = Q1 ++ ([32, 58, 61, 32] ++ FX)) := by rw [Hid, hQ2.out, if_pos hf1]
          have z4 : FX.length ≤ 140737488355328 := by have := HB.out.1; have := congrArg List.length H2.out; simp at this; omega
          have hf2 := hfmt.out W6 (hw1.out _ hBq.out)
          replace hf2 : Hid _ := hf2
          have k3 : ¬ 9223372036854775807 < Q1.length + (4 + FX.length) := by have := HB.out.1; have := congrArg List.length H2.out; simp at this; omega
          have k4 : ¬ 9223372036854775807 < Q1.length + (4 + FX.length) + 2 := by have := HB.out.1; have := congrArg List.length H2.out; simp at this; omega
          go_wp2_with (go_at_call 34; refine (Calls.mono hf2.out) ?_; rintro _ W7 ⟨rfl, hB7⟩)
          go_roundg (N - (j + 1))
          case measure => omega
          case rel => exact ⟨j + 1, rfl, by omega, by rw [HB.out.2, H2.out]; simp [ByteArray.mk_append_mk], by go_num, below_up hBq.out hB7⟩
    · have hjN : T = T1 := by rw [hT.out, hT1.out, hVT.out, List.take_of_length_le (by rw [← hN.out]; omega)]
      rw [hjN]
      clear hjN
      obtain ⟨y8, -⟩ := cel (hbx.out wr hr.out) 2 _ rfl
      have k1 : GT.length ≤ 140737488355328 := by have := HL.out; omega
      have k2 : ¬ 9223372036854775807 < T1.length + GT.length := by have := HL.out; omega
      have k3 : ¬ 9223372036854775807 < T1.length + GT.length + 2 := by have := HL.out; omega
      go_wp2_with (go_at_call 35; refine (hC8.out _ (hw1.out _ hr.out) k1).mono ?_; rintro _ w8 ⟨rfl, hB8⟩)
      go_ret
      exact ⟨by simp [ByteArray.mk_append_mk], hw1.out _ (below_up hr.out hB8)⟩

theorem xprint_any {A : Nat → Prop} {c : Chart} {w : World} {cv : Value} (hG : Px.OkChart c) (h : IsChart A w c cv) (hE : PEnv w) (hlim : (printT c).length ≤ 140737488355328) :
    Calls Tryz.prog 10 #[cv] w fun e w' => e = .returned (.string ⟨(printT c).toArray⟩) ∧ Below w.heap.size w w' := by
  obtain ⟨a, n, m, b, n', m', rfl, hv, hr⟩ := h
  rw [sv]
  obtain ⟨xs, h1, h2⟩ := hv
  rcases Row.recs (k := 3) (fun a c hc => by rw [hc]; rfl) h1 h2 with ⟨h, ao, cap, he⟩ | ⟨g, cap, he, h2, h3, h4, h5, h6⟩
  · rw [he]
    exact xprint_nil hG hE h hr hlim
  · rw [he]
    refine xprint_some hG hE rfl h3 (fun i a hi => ?_) hr hlim
    obtain ⟨c', rfl, hx⟩ := h6 i a hi
    exact ⟨hx 0 _ rfl, hx 1 _ rfl, hx 2 _ rfl⟩
end Go.Proofs.YtlgoclebedjiiaaGreatDoor
