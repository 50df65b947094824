/- The document's own answer on code: CheckNet, its lists and its steps. -/
import Derived.Test.YtalfelkblbbmpaaDoorNr3
import Derived.Test.YtalfelkblbbmpaaDoorNr5
import Derived.Deep.DeepCutAuto
namespace Go.Proofs.YtalfelkblbbmpaaDoor
open Go.RowKit
namespace Nx

theorem ixC0 (x0 x1 x2 : Value) (w : World) : (Instr.index 86 (.agg #[x0, x1, x2]) (.int .i64 0)).run Tryd.prog w = .ok x0 w := by kernel_rfl
theorem ixC1 (x0 x1 x2 : Value) (w : World) : (Instr.index 86 (.agg #[x0, x1, x2]) (.int .i64 1)).run Tryd.prog w = .ok x1 w := by kernel_rfl
theorem ixC2 (x0 x1 x2 : Value) (w : World) : (Instr.index 86 (.agg #[x0, x1, x2]) (.int .i64 2)).run Tryd.prog w = .ok x2 w := by kernel_rfl

section
variable {A : Nat → Prop} (n : Nt) (w : World) (adF adI adO adK adN adC : Option Addr) (capF capI capO capK capN capC : Nat)

set_option maxRecDepth 100000 in
set_option maxHeartbeats 8000000 in
theorem cn_main (hs : Small n) (hcap : n.ins.length ≤ capI) (hFine : w.cell? ⟨0, 0, none⟩ = some (.int .i64 0) ∧ w.cell? ⟨0, 1, none⟩ = some (.int .i64 (-1))) (h0 : 0 ≤ n.places) (hf : (n.first.length : Int) = n.places) (hI : Ints A w (.slice adI n.ins.length capI) n.ins) (hO : Ints A w (.slice adO n.outs.length capO) n.outs) (hK : Ints A w (.slice adK n.keeps.length capK) n.keeps) (hC : Steps A w (.slice adC n.code.length capC) n.code) :
    Calls Tryd.prog 12 #[.agg (cnCells n adF adI adO adK adN adC capF capI capO capK capN capC)] w fun e w' => e = .returned (.agg #[.int .i64 (check n).1, .int .i64 (check n).2]) ∧ Below w.heap.size w w' := by
  have s1 := hs.p; have s2 := hs.c; have s3 := hs.m; have s4 := hs.s
  have hin := fun W => in_any n.places 0 4000 W
  have E : (decide (0 ≤ n.places) && decide (n.places ≤ 4000)) = true := by simp; omega
  rw [E] at hin
  have t1 : ((n.first.length : Int) != n.places) = false := by simpa using hf
  obtain ⟨W, hW⟩ : ∃ W, W = CnW w (cnCells n adF adI adO adK adN adC capF capI capO capK capN capC) := ⟨_, rfl⟩
  have HK0 : Hid (CnK w W n (cnCells n adF adI adO adK adN adC capF capI capO capK capN capC)) := by unfold Hid; rw [hW]; exact CnK.start w n _
  have kk : Keep A A w W := fun b ha hl => ⟨ha, HK0.out.below.block b hl⟩
  have hI' := hI.carry kk; have hO' := hO.carry kk; have hK' := hK.carry kk; have hC' := hC.carry kk
  obtain ⟨_, bI, offI, _, eI, pI, qI⟩ := hI'
  obtain ⟨_, bO, offO, _, eO, pO, qO⟩ := hO'
  obtain ⟨_, bK, offK, _, eK, pK, qK⟩ := hK'
  obtain ⟨_, bC, offC, _, eC, pC, qC⟩ := hC'
  cases eI; cases eO; cases eK; cases eC
  have HI : Hid ((0 < n.ins.length → adI = some ⟨bI, offI, none⟩ ∧ A bI) ∧ ∀ k, k < n.ins.length → W.cell? ⟨bI, offI + k, none⟩ = some (.int .i64 (n.ins.getD k 0))) := ⟨pI, qI⟩
  have HO : Hid ((0 < n.outs.length → adO = some ⟨bO, offO, none⟩ ∧ A bO) ∧ ∀ k, k < n.outs.length → W.cell? ⟨bO, offO + k, none⟩ = some (.int .i64 (n.outs.getD k 0))) := ⟨pO, qO⟩
  have HKk : Hid ((0 < n.keeps.length → adK = some ⟨bK, offK, none⟩ ∧ A bK) ∧ ∀ k, k < n.keeps.length → W.cell? ⟨bK, offK + k, none⟩ = some (.int .i64 (n.keeps.getD k 0))) := ⟨pK, qK⟩
  have HC : Hid ((0 < n.code.length → adC = some ⟨bC, offC, none⟩ ∧ A bC) ∧ _) := ⟨pC, qC⟩
  have d0 : W.cell? ⟨w.heap.size, 0, none⟩ = some (.int .i64 n.places) := cell_row HK0.out.box 0
  have d1 : W.cell? ⟨w.heap.size, 1, none⟩ = some (.slice adF n.first.length capF) := cell_row HK0.out.box 1
  have d2 : W.cell? ⟨w.heap.size, 2, none⟩ = some (.slice adI n.ins.length capI) := cell_row HK0.out.box 2
  have d3 : W.cell? ⟨w.heap.size, 3, none⟩ = some (.slice adO n.outs.length capO) := cell_row HK0.out.box 3
  have d4 : W.cell? ⟨w.heap.size, 4, none⟩ = some (.slice adK n.keeps.length capK) := cell_row HK0.out.box 4
  have d5 : W.cell? ⟨w.heap.size, 5, none⟩ = some (.slice adN n.nums.length capN) := cell_row HK0.out.box 5
  have d6 : W.cell? ⟨w.heap.size, 6, none⟩ = some (.slice adC n.code.length capC) := cell_row HK0.out.box 6
  have q0 := ixC0; have q1 := ixC1; have q2 := ixC2
  have HS : Hid (Small n) := hs
  have HF : Hid ((n.first.length : Int) = n.places) := hf
  have HW : Hid (W = CnW w (cnCells n adF adI adO adK adN adC capF capI capO capK capN capC)) := hW
  clear E hf hs hI hO hK hC pI qI pO qO pK qK pC qC kk hW
  unfold cnCells CnW at HW
  unfold cnCells
  go_enter Tryd.func12, Tryd.ntmps12
  go_wp2_with (go_at_call 35; refine (hin _).mono ?_; rintro e w' ⟨rfl, hw⟩; obtain rfl := hw.symm)
  rw [← HW.out]
  refine wp_loop_rounds 4 ?_
  rw [rounds_succ]
  go_wp2_with fail
  go_loop [71] (fun i => ∃ k : Nat, k ≤ n.ins.length ∧ i = .int .i64 k ∧ ∀ j, j < k → isPl n.places (n.ins.getD j 0) = true) (fun i => n.ins.length - (intOf i).toNat)
  case atStart => exact ⟨0, Nat.zero_le _, rfl, fun j hj => by omega⟩
  case round =>
    obtain ⟨k, hk, rfl, hall⟩ := hrel
    have HA : Hid (∀ j, j < k → isPl n.places (n.ins.getD j 0) = true) := hall
    clear hall
    by_cases hlt : k < n.ins.length
    · have hix := ix23 adI bI offI n.ins.length capI k hlt (fun h => (HI.out.1 h).1)
      obtain ⟨x, hx⟩ : ∃ x, x = n.ins.getD k 0 := ⟨_, rfl⟩
      have cx : W.cell? ⟨bI, offI + k, none⟩ = some (.int .i64 x) := by rw [hx]; exact HI.out.2 k hlt
      have HX : Hid (x = n.ins.getD k 0) := hx
      have hp := refPl_any x n.places w.heap.size W d0 h0 s1
      clear hx
      cases hb : isPl n.places x with
      | true =>
        rw [hb] at hp
        have HB : Hid (isPl n.places x = true) := hb
        clear hb
        go_wp2_with (go_at_call 36; refine hp.mono ?_; rintro e w' ⟨rfl, hw⟩; obtain rfl := hw.symm)
        go_round
        case rel => exact ⟨k + 1, by omega, by go_num, fun j hj => by
          by_cases e : j = k
          · rw [e, ← HX.out]; exact HB.out
          · exact HA.out j (by omega)⟩
        case measure => simp [intOf]; omega
      | false =>
        rw [hb] at hp
        have hck : check n = (2, -1) := check_range HS.out h0 HF.out (.inl (not_all_at hlt (by rw [← HX.out]; exact hb)))
        have HCK : Hid (check n = (2, -1)) := hck
        clear hb hck
        go_wp2_with (first | (go_at_call 36; refine hp.mono ?_; rintro e w' ⟨rfl, hw⟩; obtain rfl := hw.symm) | (go_at_call 27; refine (bare_any 2 _).mono ?_; rintro e w2 ⟨rfl, hb2⟩; have HR : Hid (CnK w w2 n _) := HK0.out.next hb2; obtain ⟨c0, f0, c1, f1⟩ := rb_cells HR.out.rb; clear hb2))
        refine bodyPost_ret (resultsN _ _ _ _ rfl rfl (HR.out.done _ _).1) rfl ?_
        exact ⟨by rw [HCK.out]; rfl, (HR.out.done _ _).2⟩
    · obtain rfl : k = n.ins.length := by omega
      have AI : Hid (n.ins.all (isPl n.places) = true) := all_of_at HA.out
      clear HA hlt hk
      go_wp2_with fail
      rw [rounds_succ]
      go_wp2_with fail
      go_loop [71] (fun i => ∃ k : Nat, k ≤ n.outs.length ∧ i = .int .i64 k ∧ ∀ j, j < k → isPl n.places (n.outs.getD j 0) = true) (fun i => n.outs.length - (intOf i).toNat)
      case atStart => exact ⟨0, Nat.zero_le _, rfl, fun j hj => by omega⟩
      case round =>
        obtain ⟨k, hk, rfl, hall⟩ := hrel
        have HA : Hid (∀ j, j < k → isPl n.places (n.outs.getD j 0) = true) := hall
        clear hall
        by_cases hlt : k < n.outs.length
        · have hix := ix23 adO bO offO n.outs.length capO k hlt (fun h => (HO.out.1 h).1)
          obtain ⟨x, hx⟩ : ∃ x, x = n.outs.getD k 0 := ⟨_, rfl⟩
          have cx : W.cell? ⟨bO, offO + k, none⟩ = some (.int .i64 x) := by rw [hx]; exact HO.out.2 k hlt
          have HX : Hid (x = n.outs.getD k 0) := hx
          have hp := refPl_any x n.places w.heap.size W d0 h0 s1
          clear hx
          cases hb : isPl n.places x with
          | true =>
            rw [hb] at hp
            have HB : Hid (isPl n.places x = true) := hb
            clear hb
            go_wp2_with (go_at_call 36; refine hp.mono ?_; rintro e w' ⟨rfl, hw⟩; obtain rfl := hw.symm)
            go_round
            case rel => exact ⟨k + 1, by omega, by go_num, fun j hj => by
              by_cases e : j = k
              · rw [e, ← HX.out]; exact HB.out
              · exact HA.out j (by omega)⟩
            case measure => simp [intOf]; omega
          | false =>
            rw [hb] at hp
            have hck : check n = (2, -1) := check_range HS.out h0 HF.out (.inr <| .inl (not_all_at hlt (by rw [← HX.out]; exact hb)))
            have HCK : Hid (check n = (2, -1)) := hck
            clear hb hck
            go_wp2_with (first | (go_at_call 36; refine hp.mono ?_; rintro e w' ⟨rfl, hw⟩; obtain rfl := hw.symm) | (go_at_call 27; refine (bare_any 2 _).mono ?_; rintro e w2 ⟨rfl, hb2⟩; have HR : Hid (CnK w w2 n _) := HK0.out.next hb2; obtain ⟨c0, f0, c1, f1⟩ := rb_cells HR.out.rb; clear hb2))
            refine bodyPost_ret (resultsN _ _ _ _ rfl rfl (HR.out.done _ _).1) rfl ?_
            exact ⟨by rw [HCK.out]; rfl, (HR.out.done _ _).2⟩
        · obtain rfl : k = n.outs.length := by omega
          have AO : Hid (n.outs.all (isPl n.places) = true) := all_of_at HA.out
          clear HA hlt hk
          go_wp2_with fail
          rw [rounds_succ]
          go_wp2_with fail
          go_loop [71] (fun i => ∃ k : Nat, k ≤ n.keeps.length ∧ i = .int .i64 k ∧ ∀ j, j < k → isPl n.places (n.keeps.getD j 0) = true) (fun i => n.keeps.length - (intOf i).toNat)
          case atStart => exact ⟨0, Nat.zero_le _, rfl, fun j hj => by omega⟩
          case round =>
            obtain ⟨k, hk, rfl, hall⟩ := hrel
            have HA : Hid (∀ j, j < k → isPl n.places (n.keeps.getD j 0) = true) := hall
            clear hall
            by_cases hlt : k < n.keeps.length
            · have hix := ix23 adK bK offK n.keeps.length capK k hlt (fun h => (HKk.out.1 h).1)
              obtain ⟨x, hx⟩ : ∃ x, x = n.keeps.getD k 0 := ⟨_, rfl⟩
              have cx : W.cell? ⟨bK, offK + k, none⟩ = some (.int .i64 x) := by rw [hx]; exact HKk.out.2 k hlt
              have HX : Hid (x = n.keeps.getD k 0) := hx
              have hp := refPl_any x n.places w.heap.size W d0 h0 s1
              clear hx
              cases hb : isPl n.places x with
              | true =>
                rw [hb] at hp
                have HB : Hid (isPl n.places x = true) := hb
                clear hb
                go_wp2_with (go_at_call 36; refine hp.mono ?_; rintro e w' ⟨rfl, hw⟩; obtain rfl := hw.symm)
                go_round
                case rel => exact ⟨k + 1, by omega, by go_num, fun j hj => by
                  by_cases e : j = k
                  · rw [e, ← HX.out]; exact HB.out
                  · exact HA.out j (by omega)⟩
                case measure => simp [intOf]; omega
              | false =>
                rw [hb] at hp
                have hck : check n = (2, -1) := check_range HS.out h0 HF.out (.inr <| .inr (not_all_at hlt (by rw [← HX.out]; exact hb)))
                have HCK : Hid (check n = (2, -1)) := hck
                clear hb hck
                go_wp2_with (first | (go_at_call 36; refine hp.mono ?_; rintro e w' ⟨rfl, hw⟩; obtain rfl := hw.symm) | (go_at_call 27; refine (bare_any 2 _).mono ?_; rintro e w2 ⟨rfl, hb2⟩; have HR : Hid (CnK w w2 n _) := HK0.out.next hb2; obtain ⟨c0, f0, c1, f1⟩ := rb_cells HR.out.rb; clear hb2))
                refine bodyPost_ret (resultsN _ _ _ _ rfl rfl (HR.out.done _ _).1) rfl ?_
                exact ⟨by rw [HCK.out]; rfl, (HR.out.done _ _).2⟩
            · obtain rfl : k = n.keeps.length := by omega
              have AK : Hid (n.keeps.all (isPl n.places) = true) := all_of_at HA.out
              clear HA hlt hk
              go_wp2_with fail
              rw [rounds_succ]
              go_wp2_with fail
              go_loop [85] (fun i => ∃ k : Nat, k ≤ n.ins.length ∧ i = .int .i64 k ∧ ∀ i, i < k → ∀ j, j < i → n.ins.getD j 0 ≠ n.ins.getD i 0) (fun i => n.ins.length - (intOf i).toNat)
              case atStart => exact ⟨0, Nat.zero_le _, rfl, fun i hi => by omega⟩
              case round =>
                obtain ⟨k, hk, rfl, hall⟩ := hrel
                have HA : Hid (∀ i, i < k → ∀ j, j < i → n.ins.getD j 0 ≠ n.ins.getD i 0) := hall
                clear hall
                by_cases hlt : k < n.ins.length
                · have hix := ix23 adI bI offI n.ins.length capI k hlt (fun h => (HI.out.1 h).1)
                  obtain ⟨x, hx⟩ : ∃ x, x = n.ins.getD k 0 := ⟨_, rfl⟩
                  have cx : W.cell? ⟨bI, offI + k, none⟩ = some (.int .i64 x) := by rw [hx]; exact HI.out.2 k hlt
                  have HX : Hid (x = n.ins.getD k 0) := hx
                  clear hx
                  go_wp2_with fail
                  go_loop [95] (fun i => ∃ m : Nat, m ≤ k ∧ i = .int .i64 m ∧ ∀ j, j < m → n.ins.getD j 0 ≠ x) (fun i => k - (intOf i).toNat)
                  case atStart => exact ⟨0, Nat.zero_le _, rfl, fun j hj => by omega⟩
                  case round =>
                    clear hix cx
                    obtain ⟨m, hm, rfl, hall⟩ := hrel
                    have HM : Hid (∀ j, j < m → n.ins.getD j 0 ≠ x) := hall
                    clear hall
                    by_cases hlm : m < k
                    · have hix := ix23 adI bI offI k capI m hlm (fun h => (HI.out.1 (by omega)).1)
                      obtain ⟨y, hy⟩ : ∃ y, y = n.ins.getD m 0 := ⟨_, rfl⟩
                      have cy : W.cell? ⟨bI, offI + m, none⟩ = some (.int .i64 y) := by rw [hy]; exact HI.out.2 m (by omega)
                      have HY : Hid (y = n.ins.getD m 0) := hy
                      clear hy
                      by_cases hxy : x = y
                      · have txy : (x == y) = true := by simpa using hxy
                        have hck : check n = (9, -1) := check_dup HS.out h0 HF.out AI.out AO.out AK.out (dup_at hlt hlm (by rw [← HX.out, ← HY.out]; exact hxy.symm))
                        have HCK : Hid (check n = (9, -1)) := hck
                        clear hxy hck
                        go_wp2_with (go_at_call 27; refine (bare_any 9 _).mono ?_; rintro e w2 ⟨rfl, hb2⟩; have HR : Hid (CnK w w2 n _) := HK0.out.next hb2; obtain ⟨c0, f0, c1, f1⟩ := rb_cells HR.out.rb; clear hb2)
                        refine bodyPost_ret (resultsN _ _ _ _ rfl rfl (HR.out.done _ _).1) rfl ?_
                        exact ⟨by rw [HCK.out]; rfl, (HR.out.done _ _).2⟩
                      · have txy : (x == y) = false := by simpa using hxy
                        have NXY : Hid (x ≠ y) := hxy
                        clear hxy
                        go_wp2_with fail
                        go_round
                        case rel => exact ⟨m + 1, by omega, by go_num, fun j hj => by
                          by_cases e : j = m
                          · rw [e, ← HY.out]; exact fun h => NXY.out h.symm
                          · exact HM.out j (by omega)⟩
                        case measure => simp [intOf]; omega
                    · obtain rfl : m = k := by omega
                      go_wp2_with fail
                      go_round
                      case rel => exact ⟨m + 1, by omega, by go_num, fun i hi j hj => by
                        by_cases e : i = m
                        · rw [e, ← HX.out]; exact HM.out j (by omega)
                        · exact HA.out i (by omega) j hj⟩
                      case measure => simp [intOf]; omega
                · obtain rfl : k = n.ins.length := by omega
                  have HCK : Hid (check n = stepsE n.places n.nums.length n.code 0) := check_rest HS.out h0 HF.out AI.out AO.out AK.out (nodup_at HA.out)
                  clear HA hlt hk HI HO HKk AI AO AK HW
                  go_wp2_with fail
                  go_loopw [108] (fun i wr => ∃ k : Nat, k ≤ n.code.length ∧ i = .int .i64 k ∧ (∀ j, j < k → stepE n.places n.nums.length (n.code.getD j sp0) = 0) ∧ Below W.heap.size W wr) (fun i _ => n.code.length - (intOf i).toNat)
                  case atStart => exact ⟨0, Nat.zero_le _, rfl, fun j hj => by omega, Below.refl _ _⟩
                  case round =>
                    obtain ⟨k, hk, rfl, hall, hbr⟩ := hrel
                    have HA : Hid (∀ j, j < k → stepE n.places n.nums.length (n.code.getD j sp0) = 0) := hall
                    have HBR : Hid (Below W.heap.size W wr) := hbr
                    clear hall hbr d0 d1 d2 d3 d4 d6 q0 q1 q2 t1 hin
                    by_cases hlt : k < n.code.length
                    · have hix := ix24 adC bC offC n.code.length capC k hlt (fun h => (HC.out.1 h).1)
                      obtain ⟨s, hsx⟩ : ∃ s, s = n.code.getD k sp0 := ⟨_, rfl⟩
                      obtain ⟨x0, x1, x2, x3, x4⟩ := HC.out.2 k hlt
                      rw [← hsx] at x0 x1 x2 x3 x4
                      replace x0 := cell_below HBR.out x0; replace x1 := cell_below HBR.out x1; replace x2 := cell_below HBR.out x2; replace x3 := cell_below HBR.out x3; replace x4 := cell_below HBR.out x4
                      have HSX : Hid (s = n.code.getD k sp0) := hsx
                      clear hsx
                      obtain ⟨code, dst, a, b, c⟩ := s
                      simp only at x0 x1 x2 x3 x4
                      have HN : Hid (∀ w2, Below (wr.alloc (.cells #[.int .i64 code, .int .i64 dst, .int .i64 a, .int .i64 b, .int .i64 c] 55)).heap.size (wr.alloc (.cells #[.int .i64 code, .int .i64 dst, .int .i64 a, .int .i64 b, .int .i64 c] 55)) w2 → (Boxed w2 wr.heap.size w.heap.size code dst a b c n.places ∧ w2.cell? ⟨w.heap.size, 5, none⟩ = some (.slice adN n.nums.length capN)) ∧ CnK w w2 n (cnCells n adF adI adO adK adN adC capF capI capO capK capN capC) ∧ Below W.heap.size W w2) := fun w2 hb => by
                        have hb' := ball HBR.out (ball (grown_one wr _) hb)
                        have hk2 := HK0.out.next hb'
                        exact ⟨⟨(Boxed.start code dst a b c n.places w.heap.size wr (cell_row (HK0.out.next HBR.out).box 0)).below hb, cell_row hk2.box 5⟩, hk2, hb'⟩
                      obtain ⟨l, hl⟩ : ∃ l, l = asks ⟨code, dst, a, b, c⟩ := ⟨_, rfl⟩
                      obtain ⟨K, hK⟩ : ∃ K, K = l.length := ⟨_, rfl⟩
                      have hask := refAsksL code dst a b c (wr.alloc (.cells #[.int .i64 code, .int .i64 dst, .int .i64 a, .int .i64 b, .int .i64 c] 55)) l hl K hK
                      have hl3 : K ≤ 3 := by rw [hK, hl]; unfold asks; split <;> (try split) <;> (try split) <;> simp
                      have HST0 : Hid (stepE n.places n.nums.length ⟨code, dst, a, b, c⟩ = if code ≠ 1 ∧ K = 0 then 3 else if (okB n.places n.nums.length ⟨code, dst, a, b, c⟩ && l.all (isPl n.places)) = false then 2 else if restB ⟨code, dst, a, b, c⟩ = true then 1 else 0) := by unfold Hid; rw [refStep, hK, hl]
                      have HRB : Hid (restB ⟨code, dst, a, b, c⟩ = ((decide (K < 3) && c != 0) || (decide (K < 2) && b != 0))) := by unfold Hid restB; rw [hK, hl]
                      have HKL : Hid (K = l.length) := hK
                      clear hl hK d5
                      by_cases hfm : code ≠ 1 ∧ K = 0
                      · have HST : Hid (stepE n.places n.nums.length ⟨code, dst, a, b, c⟩ = 3) := by unfold Hid; rw [HST0.out, if_pos hfm]
                        obtain ⟨f1, f2⟩ := hfm
                        have tc : (code != 1) = true := by simpa using f1
                        subst f2
                        clear f1 HKL HST0 HRB
                        go_wp2_with (first | (go_at_call 17; refine hask.mono ?_; rintro e w2 ⟨adA, bA, oA, capA, rfl, IA, B2⟩; obtain ⟨⟨⟨y0, y1, y2, y3, y4, yP⟩, y5⟩, KN, _⟩ := HN.out w2 B2.out; have HKN : Hid (CnK w w2 n _) := KN; have hpl := refPl_any dst n.places w.heap.size w2 yP h0 s1; obtain ⟨r0, rf0, r1, rf1⟩ := rb_cells KN.rb; clear KN hask))
                        refine bodyPost_ret (resultsN _ _ _ _ rfl rfl (HKN.out.done _ _).1) rfl ?_
                        refine ⟨?_, (HKN.out.done _ _).2⟩
                        rw [HCK.out, stepsE_at _ _ _ k HA.out hlt (by rw [← HSX.out, HST.out]; omega), ← HSX.out, HST.out]
                        rfl
                      · have F0 : Hid (¬ (code ≠ 1 ∧ K = 0)) := hfm
                        obtain ⟨o, ho⟩ : ∃ o, o = okB n.places n.nums.length ⟨code, dst, a, b, c⟩ := ⟨_, rfl⟩
                        have HST1 : Hid (stepE n.places n.nums.length ⟨code, dst, a, b, c⟩ = if (o && l.all (isPl n.places)) = false then 2 else if restB ⟨code, dst, a, b, c⟩ = true then 1 else 0) := by unfold Hid; rw [HST0.out, if_neg hfm, ho]
                        have HO1 : Hid (o = (isPl n.places dst && (code != 1 || (decide (0 ≤ a) && decide (a ≤ (n.nums.length : Int) - 1))))) := ho
                        clear hfm ho HST0
                        go_upto_region 31 with (go_at_call 17; refine hask.mono ?_; rintro e w2 ⟨adA, bA, oA, capA, rfl, IA, B2⟩; obtain ⟨⟨⟨y0, y1, y2, y3, y4, yP⟩, y5⟩, KN, _⟩ := HN.out w2 B2.out; have HKN : Hid (CnK w w2 n _) := KN; clear KN hask)
                        have hpl := refPl_any dst n.places w.heap.size w2 yP h0 s1
                        go_cut [122] (fun v wc => Hid (v = .bool false ∧ wc = w2))
                        case first =>
                          by_cases cc : code = 1
                          · have tc : (code != 1) = false := by simpa using cc
                            go_wp2_with fail
                            go_meet
                            exact ⟨rfl, rfl⟩
                          · have tc : (code != 1) = true := by simpa using cc
                            have k1 : 1 ≤ K := by have := F0.out; omega
                            go_wp2_with fail
                            go_meet
                            first | exact ⟨rfl, rfl⟩ | (refine ⟨?_, rfl⟩; simp; omega)
                        case rest =>
                          obtain ⟨rfl, hwc⟩ := hcut.out; obtain rfl := hwc.symm
                          clear hcut F0
                          go_upto_region 33 with fail
                          go_cut [16] (fun v wc => Hid (v = .bool o ∧ wc = w2))
                          case first =>
                            cases hd : isPl n.places dst with
                            | false =>
                              rw [hd] at hpl
                              have HO2 : Hid (o = false) := by unfold Hid; rw [HO1.out, hd]; rfl
                              clear hd
                              go_wp2_with (go_at_call 36; refine hpl.mono ?_; rintro e w3 ⟨rfl, hw⟩; obtain rfl := hw.symm)
                              go_meet
                              exact ⟨by rw [HO2.out], rfl⟩
                            | true =>
                              rw [hd] at hpl
                              by_cases cc : code = 1
                              · have tc : (code != 1) = false := by simpa using cc
                                have HO2 : Hid ((decide (0 ≤ a) && decide (a ≤ (n.nums.length : Int) - 1)) = o) := by unfold Hid; rw [HO1.out, hd, tc]; rfl
                                have hin2 := in_any a 0 ((n.nums.length : Int) - 1) w2
                                rw [HO2.out] at hin2
                                clear hd
                                go_wp2_with (first | (go_at_call 36; refine hpl.mono ?_; rintro e w3 ⟨rfl, hw⟩; obtain rfl := hw.symm) | (go_at_call 35; refine hin2.mono ?_; rintro e w3 ⟨rfl, hw⟩; obtain rfl := hw.symm))
                                go_meet
                                exact ⟨rfl, rfl⟩
                              · have tc : (code != 1) = true := by simpa using cc
                                have HO2 : Hid (o = true) := by unfold Hid; rw [HO1.out, hd, tc]; rfl
                                clear hd
                                go_wp2_with (go_at_call 36; refine hpl.mono ?_; rintro e w3 ⟨rfl, hw⟩; obtain rfl := hw.symm)
                                go_meet
                                exact ⟨by rw [HO2.out], rfl⟩
                          case rest =>
                            obtain ⟨rfl, hwc⟩ := hcut.out; obtain rfl := hwc.symm
                            clear hcut hpl HO1
                            go_wp2_with fail
                            go_loop [145, 16] (fun i v => ∃ j : Nat, j ≤ K ∧ i = .int .i64 j ∧ v = .bool (o && (l.take j).all (isPl n.places))) (fun i _ => K - (intOf i).toNat)
                            case atStart => exact ⟨0, Nat.zero_le _, rfl, by simp⟩
                            case round =>
                              obtain ⟨j, hj, rfl, rfl⟩ := hrel
                              obtain ⟨u, hu⟩ : ∃ u, u = (o && (l.take j).all (isPl n.places)) := ⟨_, rfl⟩
                              rw [← hu]
                              have HU : Hid (u = (o && (l.take j).all (isPl n.places))) := hu
                              clear hu
                              by_cases hlj : j < K
                              · have hix2 := ix23 adA bA oA K capA j hlj (fun h => IA.out.1 h)
                                obtain ⟨p, hp⟩ : ∃ p, p = l.getD j 0 := ⟨_, rfl⟩
                                have cp : w2.cell? ⟨bA, oA + j, none⟩ = some (.int .i64 p) := by rw [hp]; exact IA.out.2 j hlj
                                have HP : Hid (p = l.getD j 0) := hp
                                have hpp := refPl_any p n.places w.heap.size w2 yP h0 s1
                                have HV : Hid ((o && (l.take (j + 1)).all (isPl n.places)) = (u && isPl n.places p)) := by unfold Hid; rw [take_all (by rw [← HKL.out]; exact hlj), ← Bool.and_assoc, ← HU.out, hp]
                                clear hp HU HP
                                cases u with
                                | false =>
                                  go_wp2_with fail
                                  go_round
                                  case rel => exact ⟨j + 1, by omega, by go_num, by rw [HV.out]; rfl⟩
                                  case measure => simp [intOf]; omega
                                | true =>
                                  go_wp2_with (go_at_call 36; refine hpp.mono ?_; rintro e w5 ⟨rfl, hw⟩; obtain rfl := hw.symm)
                                  go_round
                                  case rel => exact ⟨j + 1, by omega, by go_num, by rw [HV.out]; rfl⟩
                                  case measure => simp [intOf]; omega
                              · have hjK : j = K := by omega
                                have HU2 : Hid (u = (o && l.all (isPl n.places))) := by unfold Hid; rw [HU.out, hjK, HKL.out, List.take_length]
                                clear HU hjK
                                obtain ⟨r0, rf0, r1, rf1⟩ := rb_cells HKN.out.rb
                                cases u with
                                | false =>
                                  have HST : Hid (stepE n.places n.nums.length ⟨code, dst, a, b, c⟩ = 2) := by unfold Hid; rw [HST1.out, ← HU2.out, if_pos rfl]
                                  go_wp2_with fail
                                  refine bodyPost_ret (resultsN _ _ _ _ rfl rfl (HKN.out.done _ _).1) rfl ?_
                                  refine ⟨?_, (HKN.out.done _ _).2⟩
                                  rw [HCK.out, stepsE_at _ _ _ k HA.out hlt (by rw [← HSX.out, HST.out]; omega), ← HSX.out, HST.out]
                                  rfl
                                | true =>
                                  have HST2 : Hid (stepE n.places n.nums.length ⟨code, dst, a, b, c⟩ = if restB ⟨code, dst, a, b, c⟩ = true then 1 else 0) := by unfold Hid; rw [HST1.out, ← HU2.out, if_neg (by simp)]
                                  obtain ⟨rs, hrs⟩ : ∃ rs, rs = restB ⟨code, dst, a, b, c⟩ := ⟨_, rfl⟩
                                  have HRS : Hid (rs = ((decide (K < 3) && c != 0) || (decide (K < 2) && b != 0))) := by unfold Hid; rw [hrs]; exact HRB.out
                                  rw [← hrs] at HST2
                                  clear hrs HRB HU2 HST1
                                  go_upto_region 41 with fail
                                  go_cut [177] (fun v wc => Hid (v = .bool rs ∧ wc = w2))
                                  case first =>
                                    by_cases z1 : K < 3
                                    · by_cases z2 : c = 0
                                      · have tcc : (c != 0) = false := by simpa using z2
                                        by_cases z3 : K < 2
                                        · have HR2 : Hid (rs = (b != 0)) := by unfold Hid; rw [HRS.out, tcc]; simp [z3]
                                          clear HRS z2
                                          go_wp2_with fail
                                          go_meet
                                          exact ⟨by rw [HR2.out], rfl⟩
                                        · have HR2 : Hid (rs = false) := by unfold Hid; rw [HRS.out, tcc]; simp [z3]
                                          have z3' : 2 ≤ K := by omega
                                          clear HRS z2
                                          go_wp2_with fail
                                          go_meet
                                          exact ⟨by rw [HR2.out], rfl⟩
                                      · have tcc : (c != 0) = true := by simpa using z2
                                        have HR2 : Hid (rs = true) := by unfold Hid; rw [HRS.out, tcc]; simp [z1]
                                        clear HRS z2
                                        go_wp2_with fail
                                        go_meet
                                        exact ⟨by rw [HR2.out], rfl⟩
                                    · have HR2 : Hid (rs = false) := by unfold Hid; rw [HRS.out]; simp [z1, show ¬ K < 2 by omega]
                                      have z1' : 3 ≤ K := by omega
                                      clear HRS
                                      go_wp2_with fail
                                      go_meet
                                      exact ⟨by rw [HR2.out], rfl⟩
                                  case rest =>
                                    obtain ⟨rfl, hwc⟩ := hcut.out; obtain rfl := hwc.symm
                                    clear hcut HRS
                                    cases rs with
                                    | true =>
                                      have HST : Hid (stepE n.places n.nums.length ⟨code, dst, a, b, c⟩ = 1) := by unfold Hid; rw [HST2.out, if_pos rfl]
                                      go_wp2_with fail
                                      refine bodyPost_ret (resultsN _ _ _ _ rfl rfl (HKN.out.done _ _).1) rfl ?_
                                      refine ⟨?_, (HKN.out.done _ _).2⟩
                                      rw [HCK.out, stepsE_at _ _ _ k HA.out hlt (by rw [← HSX.out, HST.out]; omega), ← HSX.out, HST.out]
                                      rfl
                                    | false =>
                                      have HST : Hid (stepE n.places n.nums.length ⟨code, dst, a, b, c⟩ = 0) := by unfold Hid; rw [HST2.out, if_neg (by simp)]
                                      go_wp2_with fail
                                      go_roundw
                                      case rel => exact ⟨k + 1, by omega, by go_num, fun i hi => by
                                        by_cases e : i = k
                                        · rw [e, ← HSX.out]; exact HST.out
                                        · exact HA.out i (by omega), ball HBR.out (ball (grown_one wr _) B2.out)⟩
                                      case measure => simp [intOf]; omega
                    · obtain rfl : k = n.code.length := by omega
                      have HR : Hid (CnK w wr n _) := HK0.out.next HBR.out
                      obtain ⟨c0, f0, c1, f1⟩ := rb_cells HR.out.rb
                      have g0 := cell_below HR.out.below hFine.1
                      have g1 := cell_below HR.out.below hFine.2
                      go_wp2_with fail
                      refine bodyPost_ret (resultsN _ _ _ _ rfl rfl (HR.out.done _ _).1) rfl ?_
                      exact ⟨by rw [HCK.out, stepsE_fine _ _ _ (fun j hj => HA.out j hj)]; rfl, (HR.out.done _ _).2⟩
end
end Nx
end Go.Proofs.YtalfelkblbbmpaaDoor
