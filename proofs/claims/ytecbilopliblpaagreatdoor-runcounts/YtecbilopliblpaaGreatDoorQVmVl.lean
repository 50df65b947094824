/- RunCounts: its charts, and what they do. -/
import Derived.Test.YtecbilopliblpaaGreatDoorQViVh
import Derived.Laws.BytesString
namespace Go.Proofs.YtecbilopliblpaaGreatDoor
open Go.RowKit Px
namespace Kx
def cntS (N : Nat) : StF (St 5) := ⟨[115], true, false, [], [], [], .nil, [⟨0, false, eName 2 [97], N, [⟨[120], eNum 1⟩], [116], false⟩], []⟩
def cntC (N : Nat) : Chart := ⟨[99], [⟨1, [97], 0⟩, ⟨2, [120], 0⟩], [[cntS N, ordT]]⟩
def digs (n : Nat) : List UInt8 := if n < 10 then [UInt8.ofNat (48 + n)] else [UInt8.ofNat (48 + n / 10), UInt8.ofNat (48 + n % 10)]
def cntPre : List UInt8 := [99, 104, 97, 114, 116, 32, 99, 32, 123, 32, 105, 110, 112, 117, 116, 32, 97, 59, 32, 111, 117, 116, 112, 117, 116, 32, 120, 59, 32, 114, 101, 103, 105, 111, 110, 32, 123, 32, 105, 110, 105, 116, 105, 97, 108, 32, 115, 116, 97, 116, 101, 32, 115, 32, 123, 32, 103, 111, 32, 105, 102, 32, 99, 111, 117, 110, 116, 32]
def cntPost : List UInt8 := [32, 97, 32, 100, 111, 32, 120, 32, 58, 61, 32, 49, 32, 45, 45, 62, 32, 116, 59, 32, 125, 32, 115, 116, 97, 116, 101, 32, 116, 59, 32, 125, 32, 125]
def cntKa : List Lx.Tok := [⟨1, [99, 104, 97, 114, 116], 0⟩, ⟨1, [99], 6⟩, ⟨3, [123], 8⟩, ⟨1, [105, 110, 112, 117, 116], 10⟩, ⟨1, [97], 16⟩, ⟨3, [59], 17⟩, ⟨1, [111, 117, 116, 112, 117, 116], 19⟩, ⟨1, [120], 26⟩, ⟨3, [59], 27⟩, ⟨1, [114, 101, 103, 105, 111, 110], 29⟩, ⟨3, [123], 36⟩, ⟨1, [105, 110, 105, 116, 105, 97, 108], 38⟩, ⟨1, [115, 116, 97, 116, 101], 46⟩, ⟨1, [115], 52⟩, ⟨3, [123], 54⟩, ⟨1, [103, 111], 56⟩, ⟨1, [105, 102], 59⟩, ⟨1, [99, 111, 117, 110, 116], 62⟩]
def cntKb : List Lx.Tok := [⟨1, [97], 69⟩, ⟨1, [100, 111], 71⟩, ⟨1, [120], 74⟩, ⟨3, [58, 61], 76⟩, ⟨2, [49], 79⟩, ⟨3, [45, 45, 62], 81⟩, ⟨1, [116], 85⟩, ⟨3, [59], 86⟩, ⟨3, [125], 88⟩, ⟨1, [115, 116, 97, 116, 101], 90⟩, ⟨1, [116], 96⟩, ⟨3, [59], 97⟩, ⟨3, [125], 99⟩, ⟨3, [125], 101⟩]
def cntL (n : Nat) : List UInt8 := cntPre ++ digs n ++ cntPost
def cntK (n : Nat) : List Lx.Tok := cntKa ++ [⟨2, digs n, 68⟩] ++ cntKb.map fun t => ⟨t.kind, t.text, t.place + (digs n).length⟩
set_option maxRecDepth 100000 in
theorem cnt_lex {n : Nat} (h1 : 1 ≤ n) (h2 : n ≤ 20) : lexF 60 (cntL n) 0 = some (cntK n) := by
  rcases (by omega : n = 1 ∨ n = 2 ∨ n = 3 ∨ n = 4 ∨ n = 5 ∨ n = 6 ∨ n = 7 ∨ n = 8 ∨ n = 9 ∨ n = 10 ∨ n = 11 ∨ n = 12 ∨ n = 13 ∨ n = 14 ∨ n = 15 ∨ n = 16 ∨ n = 17 ∨ n = 18 ∨ n = 19 ∨ n = 20) with rfl | rfl | rfl | rfl | rfl | rfl | rfl | rfl | rfl | rfl | rfl | rfl | rfl | rfl | rfl | rfl | rfl | rfl | rfl | rfl <;> kernel_rfl
set_option maxRecDepth 100000 in
theorem cnt_chart {n : Nat} (h1 : 1 ≤ n) (h2 : n ≤ 20) (m : Nat) : chart (cntK n ++ [⟨4, [], m⟩]) = .ok (cntC n) := by
  rcases (by omega : n = 1 ∨ n = 2 ∨ n = 3 ∨ n = 4 ∨ n = 5 ∨ n = 6 ∨ n = 7 ∨ n = 8 ∨ n = 9 ∨ n = 10 ∨ n = 11 ∨ n = 12 ∨ n = 13 ∨ n = 14 ∨ n = 15 ∨ n = 16 ∨ n = 17 ∨ n = 18 ∨ n = 19 ∨ n = 20) with rfl | rfl | rfl | rfl | rfl | rfl | rfl | rfl | rfl | rfl | rfl | rfl | rfl | rfl | rfl | rfl | rfl | rfl | rfl | rfl <;> kernel_rfl
set_option maxRecDepth 100000 in
theorem cnt_check {n : Nat} (h1 : 1 ≤ n) (h2 : n ≤ 20) : checkC (cntC n) = none := by
  rcases (by omega : n = 1 ∨ n = 2 ∨ n = 3 ∨ n = 4 ∨ n = 5 ∨ n = 6 ∨ n = 7 ∨ n = 8 ∨ n = 9 ∨ n = 10 ∨ n = 11 ∨ n = 12 ∨ n = 13 ∨ n = 14 ∨ n = 15 ∨ n = 16 ∨ n = 17 ∨ n = 18 ∨ n = 19 ∨ n = 20) with rfl | rfl | rfl | rfl | rfl | rfl | rfl | rfl | rfl | rfl | rfl | rfl | rfl | rfl | rfl | rfl | rfl | rfl | rfl | rfl <;> kernel_rfl
theorem cnt_ok {n : Nat} (h1 : 1 ≤ n) (h2 : n ≤ 20) {s : ByteArray} (h : bs s = cntL n) : Lx.Ok (bs s) (cntK n) ∧ chart (fin s (cntK n)) = .ok (cntC n) := by
  refine ⟨⟨by unfold cntK; simp; decide, ?_⟩, cnt_chart h1 h2 _⟩
  rw [h]
  exact lexF_ok _ _ _ _ (cnt_lex h1 h2)
def cntD0 (so : Int) : Rd 6 := (⟨some 0, none, [⟨[so], []⟩, ⟨[], []⟩]⟩ : RdF (Rd 5))
def cntD1 (so : Int) : Rd 6 := (⟨some 1, some 0, [⟨[so], []⟩, ⟨[], []⟩]⟩ : RdF (Rd 5))
theorem cnt_new (N : Nat) (z : Int) : tickC (cntC N) [z] (newC (cntC N)) = some ⟨updE (firstE (cntC N).vars) [97] z, updE (firstE (cntC N).vars) [97] z, [cntD0 0]⟩ := by kernel_rfl
theorem cnt_rest (N : Nat) (z so : Int) (n w : Px.Env) : tickC (cntC N) [z] ⟨n, w, [cntD1 so]⟩ = some ⟨updE n [97] z, updE n [97] z, [cntD1 so]⟩ := by kernel_rfl
theorem cnt_zero (N : Nat) (so : Int) (n w : Px.Env) : tickC (cntC N) [Int.ofNat 0] ⟨n, w, [cntD0 so]⟩ = some ⟨updE n [97] (Int.ofNat 0), updE n [97] (Int.ofNat 0), [cntD0 so]⟩ := by kernel_rfl
theorem cnt_pass (N : Nat) (so : Int) (n w : Px.Env) : passR (OpsK 5) w [cntS N, ordT] n (cntD0 so) = some ((opnW true n w askW (cntS N).ways [so]).1, n, ⟨some 0, none, [⟨(opnW true n w askW (cntS N).ways [so]).2, []⟩, ⟨[], []⟩]⟩) := rfl
theorem cnt_opn {N : Nat} {so : Int} {n w : Px.Env} (hz : n [97] ≠ 0) : opnW true n w askW (cntS N).ways [so] = if (N : Int) ≤ wrap64 (so + 1) then (some 0, [wrap64 (so + 1)]) else (none, [wrap64 (so + 1)]) := by
  have e : (askW ((cntS N).ways.getD 0 ⟨0, false, .nil, 0, [], [], false⟩) && isSo true n w ((cntS N).ways.getD 0 ⟨0, false, .nil, 0, [], [], false⟩)) = true := by
    show (true && ((true || true) && (false || decide (n [97] ≠ 0)))) = true
    simp [hz]
  show (if (askW ((cntS N).ways.getD 0 ⟨0, false, .nil, 0, [], [], false⟩) && isSo true n w ((cntS N).ways.getD 0 ⟨0, false, .nil, 0, [], [], false⟩)) = true then (if (N : Int) ≤ wrap64 (so + 1) then ((some 0 : Option Nat), [wrap64 (so + 1)]) else (none, [wrap64 (so + 1)])) else (none, [so])) = _
  rw [if_pos e]
theorem allI_one {σ ρ : Type} {f : List σ → Px.Env → ρ → Option (Px.Env × ρ)} {r : List σ} {n n' : Px.Env} {d d' : ρ} (h : f r n d = some (n', d')) : allI f [r] 1 0 n [d] = some (n', [d']) := by
  rw [allI]
  simp [h, allI]
theorem cnt_tick {N : Nat} {z so : Int} {n w n' : Px.Env} {d : Rd 6} (h : goR (OpsK 5) w [cntS N, ordT] (updE n [97] z) (cntD0 so) = some (n', d)) : tickC (cntC N) [z] ⟨n, w, [cntD0 so]⟩ = some ⟨n', n', [d]⟩ := by
  have hg : tickG w ([cntS N, ordT] : List (StF (St 5))) (updE n [97] z) (cntD0 so) = some (n', d) := h
  have ha : allI (tickG w) (cntC N).regions (cntC N).regions.length 0 (hearE (cntC N).vars [z] n) [cntD0 so] = some (n', [d]) := allI_one hg
  unfold tickC
  rw [ha]
theorem cnt_go {N : Nat} {so : Nat} {n w : Px.Env} (z : Int) (hz : z ≠ 0) (hs : so ≤ 100) : ∃ n' d, tickC (cntC N) [z] ⟨n, w, [cntD0 (so : Int)]⟩ = some ⟨n', n', [d]⟩ ∧ ((N ≤ so + 1 ∧ d = cntD1 ((so + 1 : Nat) : Int) ∧ n' [120] = 1) ∨ (¬ N ≤ so + 1 ∧ d = cntD0 ((so + 1 : Nat) : Int) ∧ n' [120] = n [120])) := by
  have hw : wrap64 ((so : Int) + 1) = ((so + 1 : Nat) : Int) := by unfold wrap64; omega
  have ho := cnt_opn (N := N) (so := (so : Int)) (n := updE n [97] z) (w := w) (show (updE n [97] z) [97] ≠ 0 from hz)
  rw [hw] at ho
  by_cases hN : N ≤ so + 1
  · rw [if_pos (by omega)] at ho
    refine ⟨updE (updE n [97] z) [120] 1, cntD1 ((so + 1 : Nat) : Int), cnt_tick ?_, .inl ⟨hN, rfl, rfl⟩⟩
    unfold goR
    rw [cnt_pass, ho]
    rfl
  · rw [if_neg (by omega)] at ho
    refine ⟨updE n [97] z, cntD0 ((so + 1 : Nat) : Int), cnt_tick ?_, .inr ⟨hN, rfl, rfl⟩⟩
    unfold goR
    rw [cnt_pass, ho]
    rfl
/-- how often it was so, with one tick more -/
def cntH (i so : Nat) (z : Int) : Nat := if 0 < i ∧ z ≠ 0 then so + 1 else so
def CntI (N i : Nat) (r : Rn) (so : Nat) : Prop :=
  (i = 0 ∧ r = newC (cntC N) ∧ so = 0) ∨ (0 < i ∧ so ≤ i ∧ ∃ n w, (so < N ∧ n [120] = 0 ∧ r = ⟨n, w, [cntD0 (so : Int)]⟩) ∨ (N ≤ so ∧ n [120] = 1 ∧ ∃ so' : Int, r = ⟨n, w, [cntD1 so']⟩))
theorem cnt_step {N i so : Nat} {r : Rn} (hN : 1 ≤ N) (hi : i ≤ 60) (h : CntI N i r so) (z : Int) : ∃ r', tickC (cntC N) [z] r = some r' ∧ CntI N (i + 1) r' (cntH i so z) ∧ outsC (cntC N) r' = [if N ≤ cntH i so z then 1 else 0] := by
  rcases h with ⟨rfl, rfl, rfl⟩ | ⟨h0, hs, n, w, ⟨h1, h2, rfl⟩ | ⟨h1, h2, so', rfl⟩⟩
  · have e : cntH 0 0 z = 0 := by unfold cntH; rw [if_neg (by omega)]
    rw [e]
    refine ⟨_, cnt_new N z, .inr ⟨by omega, by omega, _, _, .inl ⟨by omega, rfl, rfl⟩⟩, ?_⟩
    rw [if_neg (by omega)]
    rfl
  · by_cases hz : z = 0
    · subst hz
      have e : cntH i so 0 = so := by unfold cntH; rw [if_neg (by simp)]
      rw [e]
      refine ⟨_, cnt_zero N so n w, .inr ⟨by omega, by omega, updE n [97] 0, updE n [97] 0, .inl ⟨h1, h2, rfl⟩⟩, ?_⟩
      rw [if_neg (by omega)]
      show [n [120]] = _
      rw [h2]
    · have e : cntH i so z = so + 1 := by unfold cntH; rw [if_pos ⟨h0, hz⟩]
      rw [e]
      obtain ⟨n', d, ht, ⟨q1, rfl, q3⟩ | ⟨q1, rfl, q3⟩⟩ := cnt_go (N := N) (so := so) (n := n) (w := w) z hz (by omega)
      · refine ⟨_, ht, .inr ⟨by omega, by omega, _, _, .inr ⟨q1, q3, _, rfl⟩⟩, ?_⟩
        rw [if_pos q1]
        show [n' [120]] = _
        rw [q3]
      · refine ⟨_, ht, .inr ⟨by omega, by omega, _, _, .inl ⟨by omega, by rw [q3, h2], rfl⟩⟩, ?_⟩
        rw [if_neg q1]
        show [n' [120]] = _
        rw [q3, h2]
  · have hge : so ≤ cntH i so z := by unfold cntH; split <;> omega
    have hle : cntH i so z ≤ i + 1 := by unfold cntH; split <;> omega
    refine ⟨_, cnt_rest N z so' n w, .inr ⟨by omega, hle, updE n [97] z, updE n [97] z, .inr ⟨by omega, h2, so', rfl⟩⟩, ?_⟩
    rw [if_pos (by omega)]
    show [n [120]] = _
    rw [h2]
end Kx
end Go.Proofs.YtecbilopliblpaaGreatDoor
/- keep's pick and digits. -/
namespace Go.Proofs.YtecbilopliblpaaGreatDoor
open Go.RowKit Px
namespace Kx
theorem pick_u (a n : Int) (w : World) (hn : 0 < n) (hn2 : n ≤ 100000) :
    Calls Tryz.prog 24 #[.int .i64 a, .int .i64 n] w fun e w' => e = .returned (.int .i64 (a % 18446744073709551616 % n)) ∧ w' = w := by
  have e1 : IntKind.u64.wrap a = a % 18446744073709551616 := IntKind.wrap_u64 a
  have e2 : IntKind.u64.wrap n = n := by rw [IntKind.wrap_u64, Int.emod_eq_of_lt (by omega) (by omega)]
  have h0 := Int.emod_nonneg a (show (18446744073709551616 : Int) ≠ 0 by omega)
  obtain ⟨u, hu⟩ : ∃ u, u = a % 18446744073709551616 := ⟨_, rfl⟩
  rw [← hu] at e1 h0
  have h1 := Int.emod_nonneg u (show n ≠ 0 by omega)
  have h2 := Int.emod_lt_of_pos u hn
  have e3 : u.tmod n = u % n := Int.tmod_eq_emod_of_nonneg h0
  obtain ⟨r, hr⟩ : ∃ r, r = u % n := ⟨_, rfl⟩
  rw [← hr] at h1 h2 e3
  have e4 : IntKind.u64.wrap r = r := by rw [IntKind.wrap_u64, Int.emod_eq_of_lt (by omega) (by omega)]
  have e5 : IntKind.i64.wrap r = r := by rw [IntKind.wrap_i64]; omega
  have hn0 : ¬ n = 0 := by omega
  have HU : Hid (a % 18446744073709551616 % n = r) := by unfold Hid; rw [← hu, ← hr]
  clear hu hr
  go_enter Tryz.func24, Tryz.ntmps24
  go_wp2
  go_ret
  rw [HU.out]
  exact ⟨rfl, rfl⟩
theorem conv1 (w : World) (x : Nat) : (convert 110 9 (.slice (some ⟨w.heap.size, 0, none⟩) 1 1)).run Tryz.prog (w.alloc (.cells #[.int .u8 (x : Int)] 5)) = .ok (.string ⟨#[UInt8.ofNat x]⟩) (w.alloc (.cells #[.int .u8 (x : Int)] 5)) := by
  rw [run_convert_bytes_string _ _ _ _ _ _ _ Tryz.underlying110 Tryz.underlying5 Tryz.underlying9, run_bytesToString _ _ _ _ [(x : Int)] (by
    have h : (w.alloc (.cells #[.int .u8 (x : Int)] 5)).cell? ⟨w.heap.size, 0, none⟩ = some (.int .u8 (x : Int)) := cell_row (ck_new _ _) 0 rfl
    simp [loadCells, loadCellsFrom, Addr.add, h])]
  rfl
set_option maxRecDepth 100000 in
set_option maxHeartbeats 1000000 in
theorem digit_0 (w : World) : Calls Tryz.prog 26 #[.int .i64 0] w fun e w' => ∃ s : ByteArray, e = .returned (.string s) ∧ Hid (bs s = digs 0 ∧ Below w.heap.size w w') := by
  have hb : Hid (Below w.heap.size w (w.alloc (.cells #[.int .u8 48] 5))) := ck_grown _ _
  have hc : (convert 110 9 (.slice (some ⟨w.heap.size, 0, none⟩) 1 1)).run Tryz.prog (w.alloc (.cells #[.int .u8 48] 5)) = .ok (.string ⟨#[UInt8.ofNat 48]⟩) (w.alloc (.cells #[.int .u8 48] 5)) := conv1 w 48
  go_enter Tryz.func26, Tryz.ntmps26
  go_wp2_with fail
  go_ret
  exact ⟨_, rfl, rfl, hb.out⟩
set_option maxRecDepth 100000 in
set_option maxHeartbeats 1000000 in
theorem digit_1 (w : World) : Calls Tryz.prog 26 #[.int .i64 1] w fun e w' => ∃ s : ByteArray, e = .returned (.string s) ∧ Hid (bs s = digs 1 ∧ Below w.heap.size w w') := by
  have hb : Hid (Below w.heap.size w (w.alloc (.cells #[.int .u8 49] 5))) := ck_grown _ _
  have hc : (convert 110 9 (.slice (some ⟨w.heap.size, 0, none⟩) 1 1)).run Tryz.prog (w.alloc (.cells #[.int .u8 49] 5)) = .ok (.string ⟨#[UInt8.ofNat 49]⟩) (w.alloc (.cells #[.int .u8 49] 5)) := conv1 w 49
  go_enter Tryz.func26, Tryz.ntmps26
  go_wp2_with fail
  go_ret
  exact ⟨_, rfl, rfl, hb.out⟩
set_option maxRecDepth 100000 in
set_option maxHeartbeats 1000000 in
theorem digit_2 (w : World) : Calls Tryz.prog 26 #[.int .i64 2] w fun e w' => ∃ s : ByteArray, e = .returned (.string s) ∧ Hid (bs s = digs 2 ∧ Below w.heap.size w w') := by
  have hb : Hid (Below w.heap.size w (w.alloc (.cells #[.int .u8 50] 5))) := ck_grown _ _
  have hc : (convert 110 9 (.slice (some ⟨w.heap.size, 0, none⟩) 1 1)).run Tryz.prog (w.alloc (.cells #[.int .u8 50] 5)) = .ok (.string ⟨#[UInt8.ofNat 50]⟩) (w.alloc (.cells #[.int .u8 50] 5)) := conv1 w 50
  go_enter Tryz.func26, Tryz.ntmps26
  go_wp2_with fail
  go_ret
  exact ⟨_, rfl, rfl, hb.out⟩
set_option maxRecDepth 100000 in
set_option maxHeartbeats 1000000 in
theorem digit_3 (w : World) : Calls Tryz.prog 26 #[.int .i64 3] w fun e w' => ∃ s : ByteArray, e = .returned (.string s) ∧ Hid (bs s = digs 3 ∧ Below w.heap.size w w') := by
  have hb : Hid (Below w.heap.size w (w.alloc (.cells #[.int .u8 51] 5))) := ck_grown _ _
  have hc : (convert 110 9 (.slice (some ⟨w.heap.size, 0, none⟩) 1 1)).run Tryz.prog (w.alloc (.cells #[.int .u8 51] 5)) = .ok (.string ⟨#[UInt8.ofNat 51]⟩) (w.alloc (.cells #[.int .u8 51] 5)) := conv1 w 51
  go_enter Tryz.func26, Tryz.ntmps26
  go_wp2_with fail
  go_ret
  exact ⟨_, rfl, rfl, hb.out⟩
set_option maxRecDepth 100000 in
set_option maxHeartbeats 1000000 in
theorem digit_4 (w : World) : Calls Tryz.prog 26 #[.int .i64 4] w fun e w' => ∃ s : ByteArray, e = .returned (.string s) ∧ Hid (bs s = digs 4 ∧ Below w.heap.size w w') := by
  have hb : Hid (Below w.heap.size w (w.alloc (.cells #[.int .u8 52] 5))) := ck_grown _ _
  have hc : (convert 110 9 (.slice (some ⟨w.heap.size, 0, none⟩) 1 1)).run Tryz.prog (w.alloc (.cells #[.int .u8 52] 5)) = .ok (.string ⟨#[UInt8.ofNat 52]⟩) (w.alloc (.cells #[.int .u8 52] 5)) := conv1 w 52
  go_enter Tryz.func26, Tryz.ntmps26
  go_wp2_with fail
  go_ret
  exact ⟨_, rfl, rfl, hb.out⟩
set_option maxRecDepth 100000 in
set_option maxHeartbeats 1000000 in
theorem digit_5 (w : World) : Calls Tryz.prog 26 #[.int .i64 5] w fun e w' => ∃ s : ByteArray, e = .returned (.string s) ∧ Hid (bs s = digs 5 ∧ Below w.heap.size w w') := by
  have hb : Hid (Below w.heap.size w (w.alloc (.cells #[.int .u8 53] 5))) := ck_grown _ _
  have hc : (convert 110 9 (.slice (some ⟨w.heap.size, 0, none⟩) 1 1)).run Tryz.prog (w.alloc (.cells #[.int .u8 53] 5)) = .ok (.string ⟨#[UInt8.ofNat 53]⟩) (w.alloc (.cells #[.int .u8 53] 5)) := conv1 w 53
  go_enter Tryz.func26, Tryz.ntmps26
  go_wp2_with fail
  go_ret
  exact ⟨_, rfl, rfl, hb.out⟩
set_option maxRecDepth 100000 in
set_option maxHeartbeats 1000000 in
theorem digit_6 (w : World) : Calls Tryz.prog 26 #[.int .i64 6] w fun e w' => ∃ s : ByteArray, e = .returned (.string s) ∧ Hid (bs s = digs 6 ∧ Below w.heap.size w w') := by
  have hb : Hid (Below w.heap.size w (w.alloc (.cells #[.int .u8 54] 5))) := ck_grown _ _
  have hc : (convert 110 9 (.slice (some ⟨w.heap.size, 0, none⟩) 1 1)).run Tryz.prog (w.alloc (.cells #[.int .u8 54] 5)) = .ok (.string ⟨#[UInt8.ofNat 54]⟩) (w.alloc (.cells #[.int .u8 54] 5)) := conv1 w 54
  go_enter Tryz.func26, Tryz.ntmps26
  go_wp2_with fail
  go_ret
  exact ⟨_, rfl, rfl, hb.out⟩
set_option maxRecDepth 100000 in
set_option maxHeartbeats 1000000 in
theorem digit_7 (w : World) : Calls Tryz.prog 26 #[.int .i64 7] w fun e w' => ∃ s : ByteArray, e = .returned (.string s) ∧ Hid (bs s = digs 7 ∧ Below w.heap.size w w') := by
  have hb : Hid (Below w.heap.size w (w.alloc (.cells #[.int .u8 55] 5))) := ck_grown _ _
  have hc : (convert 110 9 (.slice (some ⟨w.heap.size, 0, none⟩) 1 1)).run Tryz.prog (w.alloc (.cells #[.int .u8 55] 5)) = .ok (.string ⟨#[UInt8.ofNat 55]⟩) (w.alloc (.cells #[.int .u8 55] 5)) := conv1 w 55
  go_enter Tryz.func26, Tryz.ntmps26
  go_wp2_with fail
  go_ret
  exact ⟨_, rfl, rfl, hb.out⟩
set_option maxRecDepth 100000 in
set_option maxHeartbeats 1000000 in
theorem digit_8 (w : World) : Calls Tryz.prog 26 #[.int .i64 8] w fun e w' => ∃ s : ByteArray, e = .returned (.string s) ∧ Hid (bs s = digs 8 ∧ Below w.heap.size w w') := by
  have hb : Hid (Below w.heap.size w (w.alloc (.cells #[.int .u8 56] 5))) := ck_grown _ _
  have hc : (convert 110 9 (.slice (some ⟨w.heap.size, 0, none⟩) 1 1)).run Tryz.prog (w.alloc (.cells #[.int .u8 56] 5)) = .ok (.string ⟨#[UInt8.ofNat 56]⟩) (w.alloc (.cells #[.int .u8 56] 5)) := conv1 w 56
  go_enter Tryz.func26, Tryz.ntmps26
  go_wp2_with fail
  go_ret
  exact ⟨_, rfl, rfl, hb.out⟩
set_option maxRecDepth 100000 in
set_option maxHeartbeats 1000000 in
theorem digit_9 (w : World) : Calls Tryz.prog 26 #[.int .i64 9] w fun e w' => ∃ s : ByteArray, e = .returned (.string s) ∧ Hid (bs s = digs 9 ∧ Below w.heap.size w w') := by
  have hb : Hid (Below w.heap.size w (w.alloc (.cells #[.int .u8 57] 5))) := ck_grown _ _
  have hc : (convert 110 9 (.slice (some ⟨w.heap.size, 0, none⟩) 1 1)).run Tryz.prog (w.alloc (.cells #[.int .u8 57] 5)) = .ok (.string ⟨#[UInt8.ofNat 57]⟩) (w.alloc (.cells #[.int .u8 57] 5)) := conv1 w 57
  go_enter Tryz.func26, Tryz.ntmps26
  go_wp2_with fail
  go_ret
  exact ⟨_, rfl, rfl, hb.out⟩
set_option maxRecDepth 100000 in
set_option maxHeartbeats 1000000 in
theorem digit_10 (w : World) : Calls Tryz.prog 26 #[.int .i64 10] w fun e w' => ∃ s : ByteArray, e = .returned (.string s) ∧ Hid (bs s = digs 10 ∧ Below w.heap.size w w') := by
  have h1 := digit_1 w
  go_enter Tryz.func26, Tryz.ntmps26
  go_wp2_with fail
  refine h1.mono ?_
  rintro e w1 ⟨S, rfl, k1⟩
  clear h1
  have h2 := digit_0 w1
  go_wp2_with fail
  refine h2.mono ?_
  rintro e w2 ⟨T, rfl, k2⟩
  clear h2
  have hS : S.size = 1 := by rw [← bs_len, k1.out.1]; rfl
  have hT : T.size = 1 := by rw [← bs_len, k2.out.1]; rfl
  have hsz : ¬ 9223372036854775807 < S.size + T.size := by omega
  have HB : Hid (bs (S ++ T) = digs 10 ∧ Below w.heap.size w w2) := ⟨by
    have : bs (S ++ T) = bs S ++ bs T := by simp
    rw [this, k1.out.1, k2.out.1]; rfl, ck_all k1.out.2 k2.out.2⟩
  clear hS hT k1 k2
  go_wp2_with fail
  go_ret
  exact ⟨_, rfl, HB.out⟩
set_option maxRecDepth 100000 in
set_option maxHeartbeats 1000000 in
theorem digit_11 (w : World) : Calls Tryz.prog 26 #[.int .i64 11] w fun e w' => ∃ s : ByteArray, e = .returned (.string s) ∧ Hid (bs s = digs 11 ∧ Below w.heap.size w w') := by
  have h1 := digit_1 w
  go_enter Tryz.func26, Tryz.ntmps26
  go_wp2_with fail
  refine h1.mono ?_
  rintro e w1 ⟨S, rfl, k1⟩
  clear h1
  have h2 := digit_1 w1
  go_wp2_with fail
  refine h2.mono ?_
  rintro e w2 ⟨T, rfl, k2⟩
  clear h2
  have hS : S.size = 1 := by rw [← bs_len, k1.out.1]; rfl
  have hT : T.size = 1 := by rw [← bs_len, k2.out.1]; rfl
  have hsz : ¬ 9223372036854775807 < S.size + T.size := by omega
  have HB : Hid (bs (S ++ T) = digs 11 ∧ Below w.heap.size w w2) := ⟨by
    have : bs (S ++ T) = bs S ++ bs T := by simp
    rw [this, k1.out.1, k2.out.1]; rfl, ck_all k1.out.2 k2.out.2⟩
  clear hS hT k1 k2
  go_wp2_with fail
  go_ret
  exact ⟨_, rfl, HB.out⟩
set_option maxRecDepth 100000 in
set_option maxHeartbeats 1000000 in
theorem digit_12 (w : World) : Calls Tryz.prog 26 #[.int .i64 12] w fun e w' => ∃ s : ByteArray, e = .returned (.string s) ∧ Hid (bs s = digs 12 ∧ Below w.heap.size w w') := by
  have h1 := digit_1 w
  go_enter Tryz.func26, Tryz.ntmps26
  go_wp2_with fail
  refine h1.mono ?_
  rintro e w1 ⟨S, rfl, k1⟩
  clear h1
  have h2 := digit_2 w1
  go_wp2_with fail
  refine h2.mono ?_
  rintro e w2 ⟨T, rfl, k2⟩
  clear h2
  have hS : S.size = 1 := by rw [← bs_len, k1.out.1]; rfl
  have hT : T.size = 1 := by rw [← bs_len, k2.out.1]; rfl
  have hsz : ¬ 9223372036854775807 < S.size + T.size := by omega
  have HB : Hid (bs (S ++ T) = digs 12 ∧ Below w.heap.size w w2) := ⟨by
    have : bs (S ++ T) = bs S ++ bs T := by simp
    rw [this, k1.out.1, k2.out.1]; rfl, ck_all k1.out.2 k2.out.2⟩
  clear hS hT k1 k2
  go_wp2_with fail
  go_ret
  exact ⟨_, rfl, HB.out⟩
set_option maxRecDepth 100000 in
set_option maxHeartbeats 1000000 in
theorem digit_13 (w : World) : Calls Tryz.prog 26 #[.int .i64 13] w fun e w' => ∃ s : ByteArray, e = .returned (.string s) ∧ Hid (bs s = digs 13 ∧ Below w.heap.size w w') := by
  have h1 := digit_1 w
  go_enter Tryz.func26, Tryz.ntmps26
  go_wp2_with fail
  refine h1.mono ?_
  rintro e w1 ⟨S, rfl, k1⟩
  clear h1
  have h2 := digit_3 w1
  go_wp2_with fail
  refine h2.mono ?_
  rintro e w2 ⟨T, rfl, k2⟩
  clear h2
  have hS : S.size = 1 := by rw [← bs_len, k1.out.1]; rfl
  have hT : T.size = 1 := by rw [← bs_len, k2.out.1]; rfl
  have hsz : ¬ 9223372036854775807 < S.size + T.size := by omega
  have HB : Hid (bs (S ++ T) = digs 13 ∧ Below w.heap.size w w2) := ⟨by
    have : bs (S ++ T) = bs S ++ bs T := by simp
    rw [this, k1.out.1, k2.out.1]; rfl, ck_all k1.out.2 k2.out.2⟩
  clear hS hT k1 k2
  go_wp2_with fail
  go_ret
  exact ⟨_, rfl, HB.out⟩
set_option maxRecDepth 100000 in
set_option maxHeartbeats 1000000 in
theorem digit_14 (w : World) : Calls Tryz.prog 26 #[.int .i64 14] w fun e w' => ∃ s : ByteArray, e = .returned (.string s) ∧ Hid (bs s = digs 14 ∧ Below w.heap.size w w') := by
  have h1 := digit_1 w
  go_enter Tryz.func26, Tryz.ntmps26
  go_wp2_with fail
  refine h1.mono ?_
  rintro e w1 ⟨S, rfl, k1⟩
  clear h1
  have h2 := digit_4 w1
  go_wp2_with fail
  refine h2.mono ?_
  rintro e w2 ⟨T, rfl, k2⟩
  clear h2
  have hS : S.size = 1 := by rw [← bs_len, k1.out.1]; rfl
  have hT : T.size = 1 := by rw [← bs_len, k2.out.1]; rfl
  have hsz : ¬ 9223372036854775807 < S.size + T.size := by omega
  have HB : Hid (bs (S ++ T) = digs 14 ∧ Below w.heap.size w w2) := ⟨by
    have : bs (S ++ T) = bs S ++ bs T := by simp
    rw [this, k1.out.1, k2.out.1]; rfl, ck_all k1.out.2 k2.out.2⟩
  clear hS hT k1 k2
  go_wp2_with fail
  go_ret
  exact ⟨_, rfl, HB.out⟩
set_option maxRecDepth 100000 in
set_option maxHeartbeats 1000000 in
theorem digit_15 (w : World) : Calls Tryz.prog 26 #[.int .i64 15] w fun e w' => ∃ s : ByteArray, e = .returned (.string s) ∧ Hid (bs s = digs 15 ∧ Below w.heap.size w w') := by
  have h1 := digit_1 w
  go_enter Tryz.func26, Tryz.ntmps26
  go_wp2_with fail
  refine h1.mono ?_
  rintro e w1 ⟨S, rfl, k1⟩
  clear h1
  have h2 := digit_5 w1
  go_wp2_with fail
  refine h2.mono ?_
  rintro e w2 ⟨T, rfl, k2⟩
  clear h2
  have hS : S.size = 1 := by rw [← bs_len, k1.out.1]; rfl
  have hT : T.size = 1 := by rw [← bs_len, k2.out.1]; rfl
  have hsz : ¬ 9223372036854775807 < S.size + T.size := by omega
  have HB : Hid (bs (S ++ T) = digs 15 ∧ Below w.heap.size w w2) := ⟨by
    have : bs (S ++ T) = bs S ++ bs T := by simp
    rw [this, k1.out.1, k2.out.1]; rfl, ck_all k1.out.2 k2.out.2⟩
  clear hS hT k1 k2
  go_wp2_with fail
  go_ret
  exact ⟨_, rfl, HB.out⟩
set_option maxRecDepth 100000 in
set_option maxHeartbeats 1000000 in
theorem digit_16 (w : World) : Calls Tryz.prog 26 #[.int .i64 16] w fun e w' => ∃ s : ByteArray, e = .returned (.string s) ∧ Hid (bs s = digs 16 ∧ Below w.heap.size w w') := by
  have h1 := digit_1 w
  go_enter Tryz.func26, Tryz.ntmps26
  go_wp2_with fail
  refine h1.mono ?_
  rintro e w1 ⟨S, rfl, k1⟩
  clear h1
  have h2 := digit_6 w1
  go_wp2_with fail
  refine h2.mono ?_
  rintro e w2 ⟨T, rfl, k2⟩
  clear h2
  have hS : S.size = 1 := by rw [← bs_len, k1.out.1]; rfl
  have hT : T.size = 1 := by rw [← bs_len, k2.out.1]; rfl
  have hsz : ¬ 9223372036854775807 < S.size + T.size := by omega
  have HB : Hid (bs (S ++ T) = digs 16 ∧ Below w.heap.size w w2) := ⟨by
    have : bs (S ++ T) = bs S ++ bs T := by simp
    rw [this, k1.out.1, k2.out.1]; rfl, ck_all k1.out.2 k2.out.2⟩
  clear hS hT k1 k2
  go_wp2_with fail
  go_ret
  exact ⟨_, rfl, HB.out⟩
set_option maxRecDepth 100000 in
set_option maxHeartbeats 1000000 in
theorem digit_17 (w : World) : Calls Tryz.prog 26 #[.int .i64 17] w fun e w' => ∃ s : ByteArray, e = .returned (.string s) ∧ Hid (bs s = digs 17 ∧ Below w.heap.size w w') := by
  have h1 := digit_1 w
  go_enter Tryz.func26, Tryz.ntmps26
  go_wp2_with fail
  refine h1.mono ?_
  rintro e w1 ⟨S, rfl, k1⟩
  clear h1
  have h2 := digit_7 w1
  go_wp2_with fail
  refine h2.mono ?_
  rintro e w2 ⟨T, rfl, k2⟩
  clear h2
  have hS : S.size = 1 := by rw [← bs_len, k1.out.1]; rfl
  have hT : T.size = 1 := by rw [← bs_len, k2.out.1]; rfl
  have hsz : ¬ 9223372036854775807 < S.size + T.size := by omega
  have HB : Hid (bs (S ++ T) = digs 17 ∧ Below w.heap.size w w2) := ⟨by
    have : bs (S ++ T) = bs S ++ bs T := by simp
    rw [this, k1.out.1, k2.out.1]; rfl, ck_all k1.out.2 k2.out.2⟩
  clear hS hT k1 k2
  go_wp2_with fail
  go_ret
  exact ⟨_, rfl, HB.out⟩
set_option maxRecDepth 100000 in
set_option maxHeartbeats 1000000 in
theorem digit_18 (w : World) : Calls Tryz.prog 26 #[.int .i64 18] w fun e w' => ∃ s : ByteArray, e = .returned (.string s) ∧ Hid (bs s = digs 18 ∧ Below w.heap.size w w') := by
  have h1 := digit_1 w
  go_enter Tryz.func26, Tryz.ntmps26
  go_wp2_with fail
  refine h1.mono ?_
  rintro e w1 ⟨S, rfl, k1⟩
  clear h1
  have h2 := digit_8 w1
  go_wp2_with fail
  refine h2.mono ?_
  rintro e w2 ⟨T, rfl, k2⟩
  clear h2
  have hS : S.size = 1 := by rw [← bs_len, k1.out.1]; rfl
  have hT : T.size = 1 := by rw [← bs_len, k2.out.1]; rfl
  have hsz : ¬ 9223372036854775807 < S.size + T.size := by omega
  have HB : Hid (bs (S ++ T) = digs 18 ∧ Below w.heap.size w w2) := ⟨by
    have : bs (S ++ T) = bs S ++ bs T := by simp
    rw [this, k1.out.1, k2.out.1]; rfl, ck_all k1.out.2 k2.out.2⟩
  clear hS hT k1 k2
  go_wp2_with fail
  go_ret
  exact ⟨_, rfl, HB.out⟩
set_option maxRecDepth 100000 in
set_option maxHeartbeats 1000000 in
theorem digit_19 (w : World) : Calls Tryz.prog 26 #[.int .i64 19] w fun e w' => ∃ s : ByteArray, e = .returned (.string s) ∧ Hid (bs s = digs 19 ∧ Below w.heap.size w w') := by
  have h1 := digit_1 w
  go_enter Tryz.func26, Tryz.ntmps26
  go_wp2_with fail
  refine h1.mono ?_
  rintro e w1 ⟨S, rfl, k1⟩
  clear h1
  have h2 := digit_9 w1
  go_wp2_with fail
  refine h2.mono ?_
  rintro e w2 ⟨T, rfl, k2⟩
  clear h2
  have hS : S.size = 1 := by rw [← bs_len, k1.out.1]; rfl
  have hT : T.size = 1 := by rw [← bs_len, k2.out.1]; rfl
  have hsz : ¬ 9223372036854775807 < S.size + T.size := by omega
  have HB : Hid (bs (S ++ T) = digs 19 ∧ Below w.heap.size w w2) := ⟨by
    have : bs (S ++ T) = bs S ++ bs T := by simp
    rw [this, k1.out.1, k2.out.1]; rfl, ck_all k1.out.2 k2.out.2⟩
  clear hS hT k1 k2
  go_wp2_with fail
  go_ret
  exact ⟨_, rfl, HB.out⟩
set_option maxRecDepth 100000 in
set_option maxHeartbeats 1000000 in
theorem digit_20 (w : World) : Calls Tryz.prog 26 #[.int .i64 20] w fun e w' => ∃ s : ByteArray, e = .returned (.string s) ∧ Hid (bs s = digs 20 ∧ Below w.heap.size w w') := by
  have h1 := digit_2 w
  go_enter Tryz.func26, Tryz.ntmps26
  go_wp2_with fail
  refine h1.mono ?_
  rintro e w1 ⟨S, rfl, k1⟩
  clear h1
  have h2 := digit_0 w1
  go_wp2_with fail
  refine h2.mono ?_
  rintro e w2 ⟨T, rfl, k2⟩
  clear h2
  have hS : S.size = 1 := by rw [← bs_len, k1.out.1]; rfl
  have hT : T.size = 1 := by rw [← bs_len, k2.out.1]; rfl
  have hsz : ¬ 9223372036854775807 < S.size + T.size := by omega
  have HB : Hid (bs (S ++ T) = digs 20 ∧ Below w.heap.size w w2) := ⟨by
    have : bs (S ++ T) = bs S ++ bs T := by simp
    rw [this, k1.out.1, k2.out.1]; rfl, ck_all k1.out.2 k2.out.2⟩
  clear hS hT k1 k2
  go_wp2_with fail
  go_ret
  exact ⟨_, rfl, HB.out⟩
theorem digits_any {n : Nat} (h1 : 1 ≤ n) (h2 : n ≤ 20) (w : World) : Calls Tryz.prog 26 #[.int .i64 (n : Int)] w fun e w' => ∃ s : ByteArray, e = .returned (.string s) ∧ Hid (bs s = digs n ∧ Below w.heap.size w w') := by
  rcases (by omega : n = 1 ∨ n = 2 ∨ n = 3 ∨ n = 4 ∨ n = 5 ∨ n = 6 ∨ n = 7 ∨ n = 8 ∨ n = 9 ∨ n = 10 ∨ n = 11 ∨ n = 12 ∨ n = 13 ∨ n = 14 ∨ n = 15 ∨ n = 16 ∨ n = 17 ∨ n = 18 ∨ n = 19 ∨ n = 20) with rfl | rfl | rfl | rfl | rfl | rfl | rfl | rfl | rfl | rfl | rfl | rfl | rfl | rfl | rfl | rfl | rfl | rfl | rfl | rfl
  · exact digit_1 w
  · exact digit_2 w
  · exact digit_3 w
  · exact digit_4 w
  · exact digit_5 w
  · exact digit_6 w
  · exact digit_7 w
  · exact digit_8 w
  · exact digit_9 w
  · exact digit_10 w
  · exact digit_11 w
  · exact digit_12 w
  · exact digit_13 w
  · exact digit_14 w
  · exact digit_15 w
  · exact digit_16 w
  · exact digit_17 w
  · exact digit_18 w
  · exact digit_19 w
  · exact digit_20 w
end Kx
end Go.Proofs.YtecbilopliblpaaGreatDoor
