/- What keep's tells, pick and the law's closures answer. -/
import Derived.Test.YtanlfmhlohcmgaaNp3
import Derived.Test.YtanlfmhlohcmgaaNp2
import Derived.Test.YtanlfmhlohcmgaaNtC
import Derived.Deep.RegionHeld3
namespace Go.Proofs.Ytanlfmhlohcmgaa
open Go.RowKit
namespace Nx

theorem pick_any (a n : Int) (w : World) (hn : 0 < n) (hn2 : n ≤ 100000) :
    Calls Try.prog 8 #[.int .i64 a, .int .i64 n] w fun e w' => e = .returned (.int .i64 (a % 18446744073709551616 % n)) ∧ w' = w := by
  have e1 : IntKind.u64.wrap a = a % 18446744073709551616 := IntKind.wrap_u64 a
  have e2 : IntKind.u64.wrap n = n := by rw [IntKind.wrap_u64, Int.emod_eq_of_lt (by omega) (by omega)]
  have h0 := Int.emod_nonneg a (show (18446744073709551616 : Int) ≠ 0 by omega)
  obtain ⟨u, hu⟩ : ∃ u, u = a % 18446744073709551616 := ⟨_, rfl⟩
  rw [← hu] at e1 h0
  have h1 := Int.emod_nonneg u (show n ≠ 0 by omega)
  have h2 := Int.emod_lt_of_pos u hn
  have e3 : u.tmod n = u % n := Int.tmod_eq_emod_of_nonneg h0
  obtain ⟨r, hr⟩ : ∃ r, r = u % n := ⟨_, rfl⟩
  rw [← hr] at h1 h2 e3
  have e4 : IntKind.u64.wrap r = r := by rw [IntKind.wrap_u64, Int.emod_eq_of_lt (by omega) (by omega)]
  have e5 : IntKind.i64.wrap r = r := by rw [IntKind.wrap_i64]; omega
  have hn0 : ¬ n = 0 := by omega
  have HU : Hid (a % 18446744073709551616 % n = r) := by unfold Hid; rw [← hu, ← hr]
  clear hu hr
  go_enter Try.func8, Try.ntmps8
  go_wp2
  go_ret
  rw [HU.out]
  exact ⟨rfl, rfl⟩

theorem to_any (P y p : Int) (qb qn : Nat) (w : World) (hb : w.cell? ⟨qb, 0, none⟩ = some (.int .i64 y)) (hn : w.cell? ⟨qn, 0, none⟩ = some (.int .i64 P)) (hP : P ≤ 100000) (hy : 0 ≤ y) (hy' : y < P) (h0 : 0 ≤ p) (h1 : p < P) :
    Calls Try.prog 9 #[.int .i64 p, .pointer (some ⟨qb, 0, none⟩), .pointer (some ⟨qn, 0, none⟩)] w fun e w' => e = .returned (.int .i64 (toP P y p)) ∧ w' = w := by
  have e1 : IntKind.i64.wrap (p + y) = p + y := by rw [IntKind.wrap_i64]; omega
  have e3 : (p + y).tmod P = toP P y p := Int.tmod_eq_emod_of_nonneg (by omega)
  have ht := toP_in P y p (by omega)
  obtain ⟨r, hr⟩ : ∃ r, r = toP P y p := ⟨_, rfl⟩
  rw [← hr] at e3 ht ⊢
  clear hr
  have e5 : IntKind.i64.wrap r = r := by rw [IntKind.wrap_i64]; omega
  have hn0 : ¬ P = 0 := by omega
  go_enter Try.func9, Try.ntmps9
  go_wp2
  go_ret
  exact ⟨rfl, rfl⟩

set_option maxHeartbeats 1000000 in
theorem tells_bad (n : Nt) (w : World) (vF vI vO vK vN vC vr : Value) (h : NetV w.heap.size w n vF vI vO vK vN vC) (hs : Small n) (hw : (check n).1 ≠ 0) :
    Calls Try.prog 7 #[.agg #[.int .i64 n.places, vF, vI, vO, vK, vN, vC], vr] w fun e w' => e = .returned (.tuple #[.slice none 0 0, .bool false]) ∧ Below w.heap.size w w' := by
  have hnew : Calls Try.prog 13 #[.agg #[.int .i64 n.places, vF, vI, vO, vK, vN, vC]] (w.alloc (.cells #[.int .i64 n.places, vF, vI, vO, vK, vN, vC] 26)) fun e w' => ∃ T u, e = .returned (.tuple #[.pointer none, .iface T u]) ∧ Hid (Below w.heap.size w w') :=
    (new_bad w.heap.size n _ vF vI vO vK vN vC (h.below (grown_one w _) (Nat.le_refl _)) (grown_one w _).size hs hw).mono fun e w' ⟨v, he, hi, hb⟩ => by
      rcases hi.nil_iff with ⟨h0, _⟩ | ⟨_, T, u, rfl⟩
      · exact absurd h0 hw
      · exact ⟨T, u, he, ball (grown_one w _) hb⟩
  clear h hs hw
  go_enter Try.func7, Try.ntmps7
  go_wp2_with (go_at_call 13; refine hnew.mono ?_; rintro e w1 ⟨T, u, rfl, X⟩)
  go_ret2
  exact ⟨rfl, X.out⟩

set_option maxRecDepth 100000 in
set_option maxHeartbeats 4000000 in
theorem tells_fine (n : Nt) (w : World) (vF vI vO vK vN vC : Value) (rows : List (List Int)) (adr : Option Addr) (bR offR capR : Nat) (h : NetV w.heap.size w n vF vI vO vK vN vC) (hs : Small n) (hfl : n.first.length ≤ 1000) (hol : n.outs.length ≤ 1000) (hfew : ∀ V : List Int, V.length = n.first.length → Few n V) (hok : (check n).1 = 0)
    (hrl : rows.length ≤ 40) (hra : 0 < rows.length → adr = some ⟨bR, offR, none⟩ ∧ bR < w.heap.size) (hrc : ∀ k, k < rows.length → ∃ u, w.cell? ⟨bR, offR + k, none⟩ = some u ∧ Ints (· < w.heap.size) w u (rows.getD k [])) :
    Calls Try.prog 7 #[.agg #[.int .i64 n.places, vF, vI, vO, vK, vN, vC], .slice adr rows.length capR] w fun e w' => ∃ v, e = .returned (.tuple #[v, .bool true]) ∧ Ints (fun b => w.heap.size ≤ b ∧ b < w'.heap.size) w' v (told n n.first rows rows.length) ∧ Below w.heap.size w w' := by
  have hnew : Calls Try.prog 13 #[.agg #[.int .i64 n.places, vF, vI, vO, vK, vN, vC]] (w.alloc (.cells #[.int .i64 n.places, vF, vI, vO, vK, vN, vC] 26)) fun e w' => ∃ bm, e = .returned (.tuple #[.pointer (some ⟨bm, 0, none⟩), .nilIface]) ∧ Hid (∃ g, TO w.heap.size n w w' bm g n.first (.slice none 0 0) []) :=
    (new_fine w.heap.size n _ vF vI vO vK vN vC (h.below (grown_one w _) (Nat.le_refl _)) (grown_one w _).size hs (by omega) hok).mono fun e w' ⟨bm, g, he, hM, _, _, _, hb2⟩ =>
      ⟨bm, he, g, ⟨hM, RowG.nil _ _ _, by simp [Value.ownBlock], by simp [Value.ownBlock], ball (grown_one w _) hb2, Nat.le_trans (grown_one w _).size hb2.size⟩⟩
  have HRA : Hid ((0 < rows.length → adr = some ⟨bR, offR, none⟩ ∧ bR < w.heap.size) ∧ (∀ k, k < rows.length → ∃ u, w.cell? ⟨bR, offR + k, none⟩ = some u ∧ Ints (· < w.heap.size) w u (rows.getD k []))) := ⟨hra, hrc⟩
  have HFW : Hid (∀ V : List Int, V.length = n.first.length → Few n V) := hfew
  clear h hs hok hra hrc hfew
  go_enter Try.func7, Try.ntmps7
  go_wp2_with (go_at_call 13; refine hnew.mono ?_; rintro e w1 ⟨bm, rfl, X⟩)
  clear hnew
  go_loopw [8, 9] (fun v i wr => ∃ k : Nat, k ≤ rows.length ∧ i = .int .i64 k ∧ Hid (∃ g, TO w.heap.size n w wr bm g (toldV n n.first rows k) v (told n n.first rows k))) (fun _ i _ => rows.length - (intOf i).toNat)
  case atStart => exact ⟨0, Nat.zero_le _, rfl, X.out⟩
  case round =>
    clear X
    obtain ⟨k, hk, rfl, TT⟩ := hrel
    by_cases hlt : k < rows.length
    · have hix := ix27 adr bR offR rows.length capR k hlt (fun h => (HRA.out.1 h).1)
      obtain ⟨g, T0⟩ : ∃ g, Hid (TO w.heap.size n w wr bm g (toldV n n.first rows k) u8 (told n n.first rows k)) := TT.out
      obtain ⟨zs, hzs⟩ : ∃ zs, zs = told n n.first rows k := ⟨_, rfl⟩
      obtain ⟨V, hV⟩ : ∃ V, V = toldV n n.first rows k := ⟨_, rfl⟩
      rw [← hzs, ← hV] at T0
      have hzl : zs.length ≤ 100000 := by
        rw [hzs, told_len]
        have := Nat.mul_le_mul hk (show n.outs.length + 1 ≤ 1001 by omega)
        omega
      have HFV : Hid (Few n V) := HFW.out V (by rw [hV, toldV_len])
      obtain ⟨u, hu, hI⟩ := HRA.out.2 k hlt
      have hbR := (HRA.out.1 (by omega)).2
      obtain ⟨z, hz⟩ : ∃ z, z = rows.getD k [] := ⟨_, rfl⟩
      rw [← hz] at hI
      have HZ : Hid (told n n.first rows (k + 1) = (zs ++ [(zs.length : Int)]) ++ tells n V z) := by unfold Hid; rw [told, ← hzs, ← hV, ← hz]
      have HV' : Hid (toldV n n.first rows (k + 1) = after n V z) := by unfold Hid; rw [toldV, ← hV, ← hz]
      have HC : Hid (∀ w', Below w.heap.size w w' → w'.cell? ⟨bR, offR + k, none⟩ = some u ∧ Ints (· < w.heap.size) w' u z) := fun w' hb => ⟨by rw [cell_of_block (hb.block bR hbR)]; exact hu, hI.carry fun b hl _ => ⟨hl, hb.block b hl⟩⟩
      have c0 := (HC.out wr T0.out.bl).1
      obtain ⟨ad, cap, hform, _⟩ := T0.out.row.form
      subst hform
      have hdr : Below wr.heap.size wr wr.drew := ⟨rfl, rfl, rfl, Nat.le_refl _, fun _ _ => rfl⟩
      have T0d : Hid (TO w.heap.size n w wr.drew bm g V (.slice ad zs.length cap) zs) := T0.out.below hdr
      have hda : Below wr.drew.heap.size wr.drew (wr.drew.alloc (.cells #[.int .i64 (zs.length : Int)] 2)) := grown_one _ _
      have T0a : Hid (TO w.heap.size n w (wr.drew.alloc (.cells #[.int .i64 (zs.length : Int)] 2)) bm g V (.slice ad zs.length cap) zs) := T0d.out.below hda
      have hone : ∀ (w' : World) (q : Nat), w'.heap[q]? = some (.cells #[.int .i64 (zs.length : Int)] 2 (0, 0)) → Ints (fun b => b = q) w' (.slice (some ⟨q, 0, none⟩) 1 1) [(zs.length : Int)] := fun w' q hq =>
        ⟨some ⟨q, 0, none⟩, q, 0, 1, rfl, fun _ => ⟨rfl, rfl⟩, fun j hj => by
          obtain rfl : j = 0 := by simpa using hj
          exact cell_row hq 0⟩
      have HONE : Hid (∀ (w' : World) (q : Nat), w'.heap[q]? = some (.cells #[.int .i64 (zs.length : Int)] 2 (0, 0)) → Ints (fun b => b = q) w' (.slice (some ⟨q, 0, none⟩) 1 1) [(zs.length : Int)]) := hone
      -- the first append ahead of the tick
      obtain ⟨g1, cap1, w2, E1, T1, -⟩ := T0a.out.app (.slice (some ⟨wr.drew.heap.size, 0, none⟩) 1 1) [(zs.length : Int)] (hone _ _ (heap_alloc_new _ _)) (.inr (by simp)) (by simp; omega)
      have htA := T1.tick z u (HC.out w2 T1.bl).2 HFV.out
      have T1 : Hid (TO w.heap.size n w w2 bm g V (.slice (some ⟨g1, 0, none⟩) (zs.length + 1) cap1) (zs ++ [(zs.length : Int)])) := T1
      have htB := T0d.out.tick z u (HC.out _ T0d.out.bl).2 HFV.out
      have htC := T0a.out.tick z u (HC.out _ T0a.out.bl).2 HFV.out
      have hcw2 := (HC.out w2 T1.out.bl).1
      have hlz : (zs ++ [(zs.length : Int)]).length = zs.length + 1 := by simp
      have HLZ : Hid ((zs ++ [(zs.length : Int)]).length = zs.length + 1) := hlz
      have HOL : Hid ((tells n V z).length ≤ 1000) := by unfold Hid; rw [tells_len]; exact hol
      have HHA : Hid ((wr.drew.alloc (.cells #[.int .i64 (zs.length : Int)] 2)).heap[wr.drew.heap.size]? = some (.cells #[.int .i64 (zs.length : Int)] 2 (0, 0))) := heap_alloc_new _ _
      clear TT hu hI hbR hz hzs hV hdr hda hone hlz
      go_wp2_with fail
      have HQL : Hid (bm < wr.drew.heap.size ∧ g < wr.drew.heap.size) := ⟨T0d.out.m.lt, T0d.out.m.gl⟩
      have HOB : Hid (∀ b, Value.ownBlock (.slice ad zs.length cap) = some b → b < wr.drew.heap.size) := fun b hb => by obtain ⟨_, _, _, hk⟩ := T0d.out.row.form; exact (hk b hb).2
      go_region_held3 (fun w' => w'.cell? ⟨bR, offR + k, none⟩ = some u) (first | exact hS3 | exact hS2 | exact hS1 | go_keep)
        ((first
          | (refine step_app (by rfl) (.tmp 27) (.tmp 30) _ (by rfl) _ _ _ (by rfl) (by rfl) E1 ?_; have hS1 := hcw2)
          | (refine step_app (by rfl) (.tmp 31) (.tmp 37) _ (by rfl) _ _ _ (by rfl) (by rfl) E2 ?_; have hS3 := hcw4)
          | (go_at_call 14; refine htA.mono ?_; rintro e w3 ⟨vr, rfl, Y⟩
             obtain ⟨g', T3, R3, -, -⟩ := Y.out
             obtain ⟨g4, cap4, w4, E2, T4, -⟩ := T3.app vr (tells n V z) R3 (.inl (by simp)) (by have := HOL.out; have := HLZ.out; omega)
             rw [HLZ.out] at E2 T4
             have hS2 := (HC.out w3 T3.bl).1
             have hcw4 := (HC.out w4 T4.bl).1
             have TZ : Hid (∃ g, TO w.heap.size n w w4 bm g (after n V z) (.slice (some ⟨g4, 0, none⟩) (zs.length + 1 + (tells n V z).length) cap4) ((zs ++ [(zs.length : Int)]) ++ tells n V z)) := ⟨_, T4⟩
             clear T3 R3 T4 Y htA htB htC E1)
          | (go_at_call 14; refine htB.mono ?_; rintro e w3 ⟨vr, rfl, Y⟩
             obtain ⟨g', T3, R3, -, -⟩ := Y.out
             have T3a := T3.below (grown_one w3 (.cells #[.int .i64 (zs.length : Int)] 2))
             have R3a := R3.carry (A' := fun b => wr.drew.heap.size ≤ b ∧ b < w3.heap.size) (w' := w3.alloc (.cells #[.int .i64 (zs.length : Int)] 2)) (fun b hb hl => ⟨⟨hb.1, hl⟩, Below.heap_alloc _ _ _ hl⟩)
             obtain ⟨gx, capx, w5, E1x, T5, G5⟩ := T3a.app (.slice (some ⟨w3.heap.size, 0, none⟩) 1 1) [(zs.length : Int)] (HONE.out _ _ (heap_alloc_new _ _)) (.inr (by simp)) (by simp; omega)
             have R5 := R3a.carry (A' := fun _ => True) (w' := w5) (fun b hb hl => ⟨trivial, G5.block b hl (fun e => by have := HOB.out b e.symm; omega)⟩)
             obtain ⟨g4, cap4, w4, E2, T4, -⟩ := T5.app vr (tells n V z) R5 (.inl (by simp)) (by have := HOL.out; have := HLZ.out; omega)
             rw [HLZ.out] at E2 T4
             have hS2 := (HC.out w3 T3.bl).1
             have hcw2 := (HC.out w5 T5.bl).1
             have hcw4 := (HC.out w4 T4.bl).1
             have E1 := E1x
             have TZ : Hid (∃ g, TO w.heap.size n w w4 bm g (after n V z) (.slice (some ⟨g4, 0, none⟩) (zs.length + 1 + (tells n V z).length) cap4) ((zs ++ [(zs.length : Int)]) ++ tells n V z)) := ⟨_, T4⟩
             clear T3 R3 T4 T3a R3a T5 G5 R5 E1x Y htA htB htC)
          | (go_at_call 14; refine htC.mono ?_; rintro e w3 ⟨vr, rfl, Y⟩
             obtain ⟨g', T3, R3, F3, -⟩ := Y.out
             have hq3 := (F3.block wr.drew.heap.size (by simp) (by have := HQL.out; simp; omega)).trans HHA.out
             obtain ⟨gx, capx, w5, E1x, T5, G5⟩ := T3.app (.slice (some ⟨wr.drew.heap.size, 0, none⟩) 1 1) [(zs.length : Int)] (HONE.out _ _ hq3) (.inr (by simp)) (by simp; omega)
             have R5 := R3.carry (A' := fun _ => True) (w' := w5) (fun b hb hl => ⟨trivial, G5.block b hl (fun e => by have := HOB.out b e.symm; have := hb.1; simp at this; omega)⟩)
             obtain ⟨g4, cap4, w4, E2, T4, -⟩ := T5.app vr (tells n V z) R5 (.inl (by simp)) (by have := HOL.out; have := HLZ.out; omega)
             rw [HLZ.out] at E2 T4
             have hS2 := (HC.out w3 T3.bl).1
             have hcw2 := (HC.out w5 T5.bl).1
             have hcw4 := (HC.out w4 T4.bl).1
             have E1 := E1x
             have TZ : Hid (∃ g, TO w.heap.size n w w4 bm g (after n V z) (.slice (some ⟨g4, 0, none⟩) (zs.length + 1 + (tells n V z).length) cap4) ((zs ++ [(zs.length : Int)]) ++ tells n V z)) := ⟨_, T4⟩
             clear T3 R3 F3 T4 T5 G5 R5 E1x hq3 Y htA htB htC)))
      all_goals
        go_wp2_with fail
        go_roundw
        case rel => exact ⟨k + 1, by omega, by go_num, by rw [HZ.out, HV'.out]; exact TZ.out⟩
        case measure => simp [intOf]; omega
    · obtain rfl : k = rows.length := by omega
      obtain ⟨g, T0⟩ : ∃ g, Hid (TO w.heap.size n w wr bm g (toldV n n.first rows rows.length) u8 (told n n.first rows rows.length)) := TT.out
      go_wp2
      go_ret2
      exact ⟨_, rfl, T0.out.row.ints, T0.out.bl⟩
end Nx
end Go.Proofs.Ytanlfmhlohcmgaa
