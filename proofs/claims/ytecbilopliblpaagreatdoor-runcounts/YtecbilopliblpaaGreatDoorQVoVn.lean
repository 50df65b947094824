/- RunCounts: what counts counts. -/
import Derived.Test.YtecbilopliblpaaGreatDoorQVmVl
import Derived.Test.YtecbilopliblpaaGreatDoorQVe
import Derived.ChangeOld
import Derived.DataReads
import Derived.Deep.Slices
namespace Go.Proofs.YtecbilopliblpaaGreatDoor
open Go.RowKit Px
namespace Kx
set_option maxRecDepth 100000 in
set_option maxHeartbeats 16000000 in
theorem runCounts_fine {w : World} {iv : Value} {zs : List Int} (n0 : Int) (hv : KEnv0 w) (hI : INums w iv zs) (h64 : ∀ y ∈ zs, N64 y) (h60 : zs.length ≤ 60) :
    Calls Tryz.prog 6 #[.int .i64 n0, iv] w fun e w' => e = .returned (.bool true) ∧ Hid (Below w.heap.size w w') := by
  have hran := ran_any hv
  obtain ⟨N, hN1, hN2, hpk, hNe⟩ : ∃ N : Nat, 1 ≤ N ∧ N ≤ 20 ∧ (∀ W, Calls Tryz.prog 24 #[.int .i64 n0, .int .i64 20] W fun e w' => e = .returned (.int .i64 ((N - 1 : Nat) : Int)) ∧ w' = W) ∧ (1 : Int) + ((N - 1 : Nat) : Int) = (N : Int) := by
    have h0 := Int.emod_nonneg (n0 % 18446744073709551616) (show (20 : Int) ≠ 0 by omega)
    have h1 := Int.emod_lt_of_pos (n0 % 18446744073709551616) (show (0 : Int) < 20 by omega)
    obtain ⟨k, hk⟩ : ∃ k : Nat, n0 % 18446744073709551616 % 20 = (k : Int) := ⟨(n0 % 18446744073709551616 % 20).toNat, by omega⟩
    refine ⟨k + 1, by omega, by omega, fun W => ?_, by omega⟩
    have := pick_u n0 20 W (by omega) (by omega)
    rw [hk] at this
    exact this
  have HP : Hid (∀ W, Below w.heap.size w W → ∀ s : ByteArray, bs s = cntL N → Calls Tryz.prog 25 #[.string s] W fun e w' => ∃ S a n m a' n' m', e = .returned (.tuple #[.agg #[.string S, .slice a n m, .slice a' n' m'], .nilIface]) ∧ Hid (IsChart (fun _ => True) w' (cntC N) (.agg #[.string S, .slice a n m, .slice a' n' m']) ∧ Below W.heap.size W w')) := fun W hb s hs => fixed_parse (cnt_ok hN1 hN2) (by
    unfold cntL digs
    rw [List.length_append, List.length_append]
    split
    · show cntPre.length + 1 + cntPost.length ≤ 1500; decide
    · show cntPre.length + 2 + cntPost.length ≤ 1500; decide) (hv.up hb) s hs
  have HC : Hid (RunC (cntC N)) := fixed_run (cnt_ok hN1 hN2) (cnt_check hN1 hN2)
  obtain ⟨K, hK⟩ : ∃ K : Int, K = ((N - 1 : Nat) : Int) := ⟨_, rfl⟩
  rw [← hK] at hpk hNe
  have HD : Hid (∀ W, Calls Tryz.prog 26 #[.int .i64 (N : Int)] W fun e w' => ∃ s : ByteArray, e = .returned (.string s) ∧ Hid (bs s = digs N ∧ Below W.heap.size W w')) := fun W => digits_any hN1 hN2 W
  obtain ⟨iad, ib, io, ic, rfl, hc1, hc2, hia, hin⟩ := hI
  obtain ⟨M, hM⟩ : ∃ M, M = zs.length := ⟨_, rfl⟩
  rw [← hM] at hc1 hia hin h60 ⊢
  have H : Hid (M = zs.length ∧ M ≤ 60 ∧ (M ≤ ic ∧ ic ≤ maxLen) ∧ (0 < M → iad = some ⟨ib, io, none⟩) ∧ (∀ k, k < M → w.cell? ⟨ib, io + k, none⟩ = some (.int .i64 (zs.getD k 0))) ∧ ∀ y ∈ zs, N64 y) := ⟨hM, h60, ⟨hc1, hc2⟩, hia, hin, h64⟩
  have HN : Hid (1 ≤ N ∧ N ≤ 20) := ⟨hN1, hN2⟩
  have hN6 : (N : Int) ≤ 20 := by omega
  clear hv hM hia hin h64 hc1 hc2 hK hN1 hN2
  go_enter Tryz.func6, Tryz.ntmps6
  go_wp2_with fail
  refine hran.mono ?_
  rintro e w1 ⟨rfl, hb1⟩
  clear hran
  go_wp2_with fail
  refine (hpk w1).mono ?_
  rintro e w1' ⟨rfl, hw1⟩
  obtain rfl := hw1.symm
  clear hpk
  have hd := HD.out w1
  go_wp2_with fail
  refine hd.mono ?_
  rintro e w1b ⟨D, rfl, hD⟩
  clear hd HD hNe
  have hp := HP.out w1b (ck_all hb1.out hD.out.2)
  clear HP
  have HB1 : Hid (Below w.heap.size w w1b ∧ bs D = digs N) := ⟨ck_all hb1.out hD.out.2, hD.out.1⟩
  have hDs : D.size = 1 ∨ D.size = 2 := by
    rw [← bs_len, hD.out.1]
    unfold digs
    split
    · exact .inl rfl
    · exact .inr rfl
  have HDL : Hid (∀ s : ByteArray, bs s = cntPre ++ bs D ++ cntPost → bs s = cntL N) := fun s hs => by rw [hs, HB1.out.2]; rfl
  clear hb1 hD
  have hgo : Hid (∀ s : ByteArray, bs s = cntPre ++ bs D ++ cntPost → Calls Tryz.prog 25 #[.string s] w1b fun e w' => ∃ S a n m a' n' m', e = .returned (.tuple #[.agg #[.string S, .slice a n m, .slice a' n' m'], .nilIface]) ∧ Hid (IsChart (fun _ => True) w' (cntC N) (.agg #[.string S, .slice a n m, .slice a' n' m']) ∧ Below w1b.heap.size w1b w')) := fun s hs => hp s (HDL.out s hs)
  clear hp HDL
  rcases hDs with hDs | hDs
  · go_wp2_with fail
    refine (hgo.out _ (by simp [cntPre, cntPost])).mono ?_
    rintro e w2 ⟨S, a, n, m, a', n', m', rfl, h2⟩
    clear hgo
    obtain ⟨W2, hW2⟩ : ∃ W2, W2 = w2.alloc (.cells #[.string S, .slice a n m, .slice a' n' m'] 28) := ⟨_, rfl⟩
    obtain ⟨cb, hcb⟩ : ∃ cb, cb = w2.heap.size := ⟨_, rfl⟩
    have hg2 : Below w2.heap.size w2 W2 := by rw [hW2]; exact ck_grown _ _
    have k2 : W2.heap[cb]? = some (.cells #[.string S, .slice a n m, .slice a' n' m'] 28 (0, 0)) := by rw [hW2, hcb]; exact ck_new _ _
    obtain ⟨A, hA⟩ : ∃ A : Nat → Prop, A = fun b => b < w2.heap.size := ⟨_, rfl⟩
    have hCh : IsChart A W2 (cntC N) (.agg #[.string S, .slice a n m, .slice a' n' m']) := by rw [hA]; exact chartUp (chart_all h2.out.1) hg2
    have hAW : ∀ b, A b → b < W2.heap.size := fun b hb => by rw [hA] at hb; exact Nat.lt_of_lt_of_le hb hg2.size
    have hn1 := new_run hCh HC.out hAW
    have HW : Hid (Below w.heap.size w W2) := ck_all (ck_all HB1.out.1 h2.out.2) hg2
    have x0 := cell_row k2 0 (u := .string S) rfl
    have x1 := cell_row k2 1 (u := .slice a n m) rfl
    have x2 := cell_row k2 2 (u := .slice a' n' m') rfl
    clear h2 hg2 k2 hA hCh hAW HB1
    go_upto_region 9 with fail
    rw [← hcb, ← hW2]
    clear hcb hW2
    go_wp2_with fail
    refine hn1.mono ?_
    rintro e w3 ⟨rb, rfl, h3⟩
    clear hn1 x0 x1 x2 hDs
    obtain ⟨⟨Q, x, hR1, hQ1⟩, hb3⟩ := h3.out
    have HR : Hid (RnM A w3 (cntC N) (newC (cntC N)) rb Q x ∧ Below w.heap.size w w3) := ⟨hR1, ck_all HW.out hb3⟩
    have HQ : Hid (∀ b, Q b → w.heap.size ≤ b) := fun b hb => Nat.le_trans HW.out.size (hQ1 b hb)
    clear h3 hR1 hQ1 hb3 HW
    go_wp2_with fail
    go_loopg [8, 9] M (fun f sv iv wr => ∃ (i so : Nat) (r : Rn), f = M - i ∧ i ≤ M ∧ sv = .int .i64 (so : Int) ∧ iv = .int .i64 (i : Int) ∧ Hid (CntI N i r so ∧ RnM A wr (cntC N) r rb Q x ∧ Below w.heap.size w wr))
    case atStart => exact ⟨0, 0, newC (cntC N), by omega, by omega, rfl, rfl, .inl ⟨rfl, rfl, rfl⟩, HR.out.1, HR.out.2⟩
    case round =>
      obtain ⟨i, so, r, rfl, hi, rfl, rfl, hr⟩ := hrel
      obtain ⟨W5, hW5⟩ : ∃ W, W = wr := ⟨_, rfl⟩
      subst hW5
      by_cases hlt : i < M
      · obtain ⟨z, hz⟩ : ∃ z, z = zs.getD i 0 := ⟨_, rfl⟩
        have hcz : W5.cell? ⟨ib, io + i, none⟩ = some (.int .i64 z) := by rw [hz]; exact ck_cell hr.out.2.2 (H.out.2.2.2.2.1 i hlt)
        obtain ⟨r', ht, hst, hou⟩ := cnt_step (N := N) HN.out.1 (by have := H.out.2.1; omega) hr.out.1 z
        have hz64 : N64 z := by
          rw [hz, List.getD_eq_getElem?_getD, List.getElem?_eq_getElem (by rw [← H.out.1]; exact hlt)]
          exact H.out.2.2.2.2.2 _ (List.getElem_mem _)
        obtain rfl := H.out.2.2.2.1 (by omega)
        have hix := ixN (some ⟨ib, io, none⟩) ib io M ic i hlt (fun _ => rfl)
        have hT := tick_run hr.out.2.1 HC.out.run (iv := .slice (some ⟨ib, io + i, none⟩) 1 (ic - i)) (ins := [z]) ⟨_, ib, io + i, ic - i, rfl, by have := H.out.2.2.1.1; simp; omega, by have := H.out.2.2.1.2; omega, fun _ => rfl, fun j hj => by
          have : j = 0 := by simp at hj; omega
          subst this
          exact hcz⟩ (fun y hy => by simp at hy; subst hy; exact hz64) ht
        have HBW : Hid (Below w.heap.size w W5) := hr.out.2.2
        have HQS : Hid (∀ b, Q b → b < W5.heap.size) := hr.out.2.1.hQ
        have hic1 : (M : Int) ≤ (ic : Int) := by have := H.out.2.2.1.1; omega
        have hic2 : (ic : Int) ≤ 9223372036854775807 := by have := H.out.2.2.1.2; unfold maxLen at this; omega
        have hic3 : ¬ ic = i := by have := H.out.2.2.1.1; omega
        have hi1 : (i : Int) + 1 ≤ (ic : Int) := by omega
        have hso : (so : Int) ≤ 60 := by
          rcases hr.out.1 with ⟨_, _, e⟩ | ⟨_, q, _⟩
          · omega
          · have := H.out.2.1; omega
        clear hr hz hz64
        by_cases h0 : 0 < i
        · have h0' : (0 : Int) < (i : Int) := by omega
          by_cases hz0 : z = 0
          · have HX : Hid (tickC (cntC N) [z] r = some r' ∧ CntI N (i + 1) r' (cntH i so z) ∧ cntH i so z = so ∧ outsC (cntC N) r' = [if N ≤ cntH i so z then 1 else 0]) := ⟨ht, hst, by unfold cntH; rw [if_neg (by simp [hz0])], hou⟩
            clear ht hst hou
            subst hz0
            by_cases hNs : (N : Int) ≤ (so : Int)
            · have hge := hNs
              have HO : Hid (outsC (cntC N) r' = [1]) := by rw [Hid, HX.out.2.2.2, HX.out.2.2.1, if_pos (by omega)]
              have hT2 := hT
              clear hT
              go_wp2_with fail
              refine hT2.mono ?_
              rintro e w5 ⟨a5, n5, m5, rfl, h5⟩
              clear hT2
              obtain ⟨hR5, hr5, hf5⟩ := h5.out
              have hO5 := hr5 Q w5 HQS.out (FrQ.refl _ _)
              rw [HO.out] at hO5
              obtain ⟨b5, o5, e5, e6, y0⟩ := nums_row hO5
              subst e5
              subst e6
              have HE : Hid (CntI N (i + 1) r' (so) ∧ RnM A w5 (cntC N) r' rb Q x ∧ Below w.heap.size w w5) := ⟨by rw [← HX.out.2.2.1]; exact HX.out.2.1, hR5, below_frq HBW.out hf5 HQ.out HBW.out.size⟩
              clear h5 hR5 hr5 hf5 hO5 HX HBW HO
              go_wp2_with fail
              go_roundg (M - (i + 1))
              case measure => omega
              case rel => exact ⟨i + 1, so, r', by omega, by omega, by go_num, by go_num, HE.out⟩
            · have hlt2 := hNs
              have HO : Hid (outsC (cntC N) r' = [0]) := by rw [Hid, HX.out.2.2.2, HX.out.2.2.1, if_neg (by omega)]
              have hT2 := hT
              clear hT
              go_wp2_with fail
              refine hT2.mono ?_
              rintro e w5 ⟨a5, n5, m5, rfl, h5⟩
              clear hT2
              obtain ⟨hR5, hr5, hf5⟩ := h5.out
              have hO5 := hr5 Q w5 HQS.out (FrQ.refl _ _)
              rw [HO.out] at hO5
              obtain ⟨b5, o5, e5, e6, y0⟩ := nums_row hO5
              subst e5
              subst e6
              have HE : Hid (CntI N (i + 1) r' (so) ∧ RnM A w5 (cntC N) r' rb Q x ∧ Below w.heap.size w w5) := ⟨by rw [← HX.out.2.2.1]; exact HX.out.2.1, hR5, below_frq HBW.out hf5 HQ.out HBW.out.size⟩
              clear h5 hR5 hr5 hf5 hO5 HX HBW HO
              go_wp2_with fail
              go_roundg (M - (i + 1))
              case measure => omega
              case rel => exact ⟨i + 1, so, r', by omega, by omega, by go_num, by go_num, HE.out⟩
          · have HX : Hid (tickC (cntC N) [z] r = some r' ∧ CntI N (i + 1) r' (cntH i so z) ∧ cntH i so z = so + 1 ∧ outsC (cntC N) r' = [if N ≤ cntH i so z then 1 else 0]) := ⟨ht, hst, by unfold cntH; rw [if_pos ⟨h0, hz0⟩], hou⟩
            clear ht hst hou
            by_cases hNs : (N : Int) ≤ (so : Int) + 1
            · have hge := hNs
              have HO : Hid (outsC (cntC N) r' = [1]) := by rw [Hid, HX.out.2.2.2, HX.out.2.2.1, if_pos (by omega)]
              have hT2 := hT
              clear hT
              go_wp2_with fail
              refine hT2.mono ?_
              rintro e w5 ⟨a5, n5, m5, rfl, h5⟩
              clear hT2
              obtain ⟨hR5, hr5, hf5⟩ := h5.out
              have hO5 := hr5 Q w5 HQS.out (FrQ.refl _ _)
              rw [HO.out] at hO5
              obtain ⟨b5, o5, e5, e6, y0⟩ := nums_row hO5
              subst e5
              subst e6
              have HE : Hid (CntI N (i + 1) r' (so + 1) ∧ RnM A w5 (cntC N) r' rb Q x ∧ Below w.heap.size w w5) := ⟨by rw [← HX.out.2.2.1]; exact HX.out.2.1, hR5, below_frq HBW.out hf5 HQ.out HBW.out.size⟩
              clear h5 hR5 hr5 hf5 hO5 HX HBW HO
              go_wp2_with fail
              go_roundg (M - (i + 1))
              case measure => omega
              case rel => exact ⟨i + 1, so + 1, r', by omega, by omega, by go_num, by go_num, HE.out⟩
            · have hlt2 := hNs
              have HO : Hid (outsC (cntC N) r' = [0]) := by rw [Hid, HX.out.2.2.2, HX.out.2.2.1, if_neg (by omega)]
              have hT2 := hT
              clear hT
              go_wp2_with fail
              refine hT2.mono ?_
              rintro e w5 ⟨a5, n5, m5, rfl, h5⟩
              clear hT2
              obtain ⟨hR5, hr5, hf5⟩ := h5.out
              have hO5 := hr5 Q w5 HQS.out (FrQ.refl _ _)
              rw [HO.out] at hO5
              obtain ⟨b5, o5, e5, e6, y0⟩ := nums_row hO5
              subst e5
              subst e6
              have HE : Hid (CntI N (i + 1) r' (so + 1) ∧ RnM A w5 (cntC N) r' rb Q x ∧ Below w.heap.size w w5) := ⟨by rw [← HX.out.2.2.1]; exact HX.out.2.1, hR5, below_frq HBW.out hf5 HQ.out HBW.out.size⟩
              clear h5 hR5 hr5 hf5 hO5 HX HBW HO
              go_wp2_with fail
              go_roundg (M - (i + 1))
              case measure => omega
              case rel => exact ⟨i + 1, so + 1, r', by omega, by omega, by go_num, by go_num, HE.out⟩
        · have h0' : ¬ (0 : Int) < (i : Int) := by omega
          have HX : Hid (tickC (cntC N) [z] r = some r' ∧ CntI N (i + 1) r' (cntH i so z) ∧ cntH i so z = so ∧ outsC (cntC N) r' = [if N ≤ cntH i so z then 1 else 0]) := ⟨ht, hst, by unfold cntH; rw [if_neg (by omega)], hou⟩
          clear ht hst hou
          by_cases hNs : (N : Int) ≤ (so : Int)
          · have hge := hNs
            have HO : Hid (outsC (cntC N) r' = [1]) := by rw [Hid, HX.out.2.2.2, HX.out.2.2.1, if_pos (by omega)]
            have hT2 := hT
            clear hT
            go_wp2_with fail
            refine hT2.mono ?_
            rintro e w5 ⟨a5, n5, m5, rfl, h5⟩
            clear hT2
            obtain ⟨hR5, hr5, hf5⟩ := h5.out
            have hO5 := hr5 Q w5 HQS.out (FrQ.refl _ _)
            rw [HO.out] at hO5
            obtain ⟨b5, o5, e5, e6, y0⟩ := nums_row hO5
            subst e5
            subst e6
            have HE : Hid (CntI N (i + 1) r' (so) ∧ RnM A w5 (cntC N) r' rb Q x ∧ Below w.heap.size w w5) := ⟨by rw [← HX.out.2.2.1]; exact HX.out.2.1, hR5, below_frq HBW.out hf5 HQ.out HBW.out.size⟩
            clear h5 hR5 hr5 hf5 hO5 HX HBW HO
            go_wp2_with fail
            go_roundg (M - (i + 1))
            case measure => omega
            case rel => exact ⟨i + 1, so, r', by omega, by omega, by go_num, by go_num, HE.out⟩
          · have hlt2 := hNs
            have HO : Hid (outsC (cntC N) r' = [0]) := by rw [Hid, HX.out.2.2.2, HX.out.2.2.1, if_neg (by omega)]
            have hT2 := hT
            clear hT
            go_wp2_with fail
            refine hT2.mono ?_
            rintro e w5 ⟨a5, n5, m5, rfl, h5⟩
            clear hT2
            obtain ⟨hR5, hr5, hf5⟩ := h5.out
            have hO5 := hr5 Q w5 HQS.out (FrQ.refl _ _)
            rw [HO.out] at hO5
            obtain ⟨b5, o5, e5, e6, y0⟩ := nums_row hO5
            subst e5
            subst e6
            have HE : Hid (CntI N (i + 1) r' (so) ∧ RnM A w5 (cntC N) r' rb Q x ∧ Below w.heap.size w w5) := ⟨by rw [← HX.out.2.2.1]; exact HX.out.2.1, hR5, below_frq HBW.out hf5 HQ.out HBW.out.size⟩
            clear h5 hR5 hr5 hf5 hO5 HX HBW HO
            go_wp2_with fail
            go_roundg (M - (i + 1))
            case measure => omega
            case rel => exact ⟨i + 1, so, r', by omega, by omega, by go_num, by go_num, HE.out⟩
      · obtain rfl : i = M := by omega
        have HB5 : Hid (Below w.heap.size w W5) := hr.out.2.2
        clear hr
        go_wp2_with fail
        go_ret
        exact ⟨rfl, HB5.out⟩
  · go_wp2_with fail
    refine (hgo.out _ (by simp [cntPre, cntPost])).mono ?_
    rintro e w2 ⟨S, a, n, m, a', n', m', rfl, h2⟩
    clear hgo
    obtain ⟨W2, hW2⟩ : ∃ W2, W2 = w2.alloc (.cells #[.string S, .slice a n m, .slice a' n' m'] 28) := ⟨_, rfl⟩
    obtain ⟨cb, hcb⟩ : ∃ cb, cb = w2.heap.size := ⟨_, rfl⟩
    have hg2 : Below w2.heap.size w2 W2 := by rw [hW2]; exact ck_grown _ _
    have k2 : W2.heap[cb]? = some (.cells #[.string S, .slice a n m, .slice a' n' m'] 28 (0, 0)) := by rw [hW2, hcb]; exact ck_new _ _
    obtain ⟨A, hA⟩ : ∃ A : Nat → Prop, A = fun b => b < w2.heap.size := ⟨_, rfl⟩
    have hCh : IsChart A W2 (cntC N) (.agg #[.string S, .slice a n m, .slice a' n' m']) := by rw [hA]; exact chartUp (chart_all h2.out.1) hg2
    have hAW : ∀ b, A b → b < W2.heap.size := fun b hb => by rw [hA] at hb; exact Nat.lt_of_lt_of_le hb hg2.size
    have hn1 := new_run hCh HC.out hAW
    have HW : Hid (Below w.heap.size w W2) := ck_all (ck_all HB1.out.1 h2.out.2) hg2
    have x0 := cell_row k2 0 (u := .string S) rfl
    have x1 := cell_row k2 1 (u := .slice a n m) rfl
    have x2 := cell_row k2 2 (u := .slice a' n' m') rfl
    clear h2 hg2 k2 hA hCh hAW HB1
    go_upto_region 9 with fail
    rw [← hcb, ← hW2]
    clear hcb hW2
    go_wp2_with fail
    refine hn1.mono ?_
    rintro e w3 ⟨rb, rfl, h3⟩
    clear hn1 x0 x1 x2 hDs
    obtain ⟨⟨Q, x, hR1, hQ1⟩, hb3⟩ := h3.out
    have HR : Hid (RnM A w3 (cntC N) (newC (cntC N)) rb Q x ∧ Below w.heap.size w w3) := ⟨hR1, ck_all HW.out hb3⟩
    have HQ : Hid (∀ b, Q b → w.heap.size ≤ b) := fun b hb => Nat.le_trans HW.out.size (hQ1 b hb)
    clear h3 hR1 hQ1 hb3 HW
    go_wp2_with fail
    go_loopg [8, 9] M (fun f sv iv wr => ∃ (i so : Nat) (r : Rn), f = M - i ∧ i ≤ M ∧ sv = .int .i64 (so : Int) ∧ iv = .int .i64 (i : Int) ∧ Hid (CntI N i r so ∧ RnM A wr (cntC N) r rb Q x ∧ Below w.heap.size w wr))
    case atStart => exact ⟨0, 0, newC (cntC N), by omega, by omega, rfl, rfl, .inl ⟨rfl, rfl, rfl⟩, HR.out.1, HR.out.2⟩
    case round =>
      obtain ⟨i, so, r, rfl, hi, rfl, rfl, hr⟩ := hrel
      obtain ⟨W5, hW5⟩ : ∃ W, W = wr := ⟨_, rfl⟩
      subst hW5
      by_cases hlt : i < M
      · obtain ⟨z, hz⟩ : ∃ z, z = zs.getD i 0 := ⟨_, rfl⟩
        have hcz : W5.cell? ⟨ib, io + i, none⟩ = some (.int .i64 z) := by rw [hz]; exact ck_cell hr.out.2.2 (H.out.2.2.2.2.1 i hlt)
        obtain ⟨r', ht, hst, hou⟩ := cnt_step (N := N) HN.out.1 (by have := H.out.2.1; omega) hr.out.1 z
        have hz64 : N64 z := by
          rw [hz, List.getD_eq_getElem?_getD, List.getElem?_eq_getElem (by rw [← H.out.1]; exact hlt)]
          exact H.out.2.2.2.2.2 _ (List.getElem_mem _)
        obtain rfl := H.out.2.2.2.1 (by omega)
        have hix := ixN (some ⟨ib, io, none⟩) ib io M ic i hlt (fun _ => rfl)
        have hT := tick_run hr.out.2.1 HC.out.run (iv := .slice (some ⟨ib, io + i, none⟩) 1 (ic - i)) (ins := [z]) ⟨_, ib, io + i, ic - i, rfl, by have := H.out.2.2.1.1; simp; omega, by have := H.out.2.2.1.2; omega, fun _ => rfl, fun j hj => by
          have : j = 0 := by simp at hj; omega
          subst this
          exact hcz⟩ (fun y hy => by simp at hy; subst hy; exact hz64) ht
        have HBW : Hid (Below w.heap.size w W5) := hr.out.2.2
        have HQS : Hid (∀ b, Q b → b < W5.heap.size) := hr.out.2.1.hQ
        have hic1 : (M : Int) ≤ (ic : Int) := by have := H.out.2.2.1.1; omega
        have hic2 : (ic : Int) ≤ 9223372036854775807 := by have := H.out.2.2.1.2; unfold maxLen at this; omega
        have hic3 : ¬ ic = i := by have := H.out.2.2.1.1; omega
        have hi1 : (i : Int) + 1 ≤ (ic : Int) := by omega
        have hso : (so : Int) ≤ 60 := by
          rcases hr.out.1 with ⟨_, _, e⟩ | ⟨_, q, _⟩
          · omega
          · have := H.out.2.1; omega
        clear hr hz hz64
        by_cases h0 : 0 < i
        · have h0' : (0 : Int) < (i : Int) := by omega
          by_cases hz0 : z = 0
          · have HX : Hid (tickC (cntC N) [z] r = some r' ∧ CntI N (i + 1) r' (cntH i so z) ∧ cntH i so z = so ∧ outsC (cntC N) r' = [if N ≤ cntH i so z then 1 else 0]) := ⟨ht, hst, by unfold cntH; rw [if_neg (by simp [hz0])], hou⟩
            clear ht hst hou
            subst hz0
            by_cases hNs : (N : Int) ≤ (so : Int)
            · have hge := hNs
              have HO : Hid (outsC (cntC N) r' = [1]) := by rw [Hid, HX.out.2.2.2, HX.out.2.2.1, if_pos (by omega)]
              have hT2 := hT
              clear hT
              go_wp2_with fail
              refine hT2.mono ?_
              rintro e w5 ⟨a5, n5, m5, rfl, h5⟩
              clear hT2
              obtain ⟨hR5, hr5, hf5⟩ := h5.out
              have hO5 := hr5 Q w5 HQS.out (FrQ.refl _ _)
              rw [HO.out] at hO5
              obtain ⟨b5, o5, e5, e6, y0⟩ := nums_row hO5
              subst e5
              subst e6
              have HE : Hid (CntI N (i + 1) r' (so) ∧ RnM A w5 (cntC N) r' rb Q x ∧ Below w.heap.size w w5) := ⟨by rw [← HX.out.2.2.1]; exact HX.out.2.1, hR5, below_frq HBW.out hf5 HQ.out HBW.out.size⟩
              clear h5 hR5 hr5 hf5 hO5 HX HBW HO
              go_wp2_with fail
              go_roundg (M - (i + 1))
              case measure => omega
              case rel => exact ⟨i + 1, so, r', by omega, by omega, by go_num, by go_num, HE.out⟩
            · have hlt2 := hNs
              have HO : Hid (outsC (cntC N) r' = [0]) := by rw [Hid, HX.out.2.2.2, HX.out.2.2.1, if_neg (by omega)]
              have hT2 := hT
              clear hT
              go_wp2_with fail
              refine hT2.mono ?_
              rintro e w5 ⟨a5, n5, m5, rfl, h5⟩
              clear hT2
              obtain ⟨hR5, hr5, hf5⟩ := h5.out
              have hO5 := hr5 Q w5 HQS.out (FrQ.refl _ _)
              rw [HO.out] at hO5
              obtain ⟨b5, o5, e5, e6, y0⟩ := nums_row hO5
              subst e5
              subst e6
              have HE : Hid (CntI N (i + 1) r' (so) ∧ RnM A w5 (cntC N) r' rb Q x ∧ Below w.heap.size w w5) := ⟨by rw [← HX.out.2.2.1]; exact HX.out.2.1, hR5, below_frq HBW.out hf5 HQ.out HBW.out.size⟩
              clear h5 hR5 hr5 hf5 hO5 HX HBW HO
              go_wp2_with fail
              go_roundg (M - (i + 1))
              case measure => omega
              case rel => exact ⟨i + 1, so, r', by omega, by omega, by go_num, by go_num, HE.out⟩
          · have HX : Hid (tickC (cntC N) [z] r = some r' ∧ CntI N (i + 1) r' (cntH i so z) ∧ cntH i so z = so + 1 ∧ outsC (cntC N) r' = [if N ≤ cntH i so z then 1 else 0]) := ⟨ht, hst, by unfold cntH; rw [if_pos ⟨h0, hz0⟩], hou⟩
            clear ht hst hou
            by_cases hNs : (N : Int) ≤ (so : Int) + 1
            · have hge := hNs
              have HO : Hid (outsC (cntC N) r' = [1]) := by rw [Hid, HX.out.2.2.2, HX.out.2.2.1, if_pos (by omega)]
              have hT2 := hT
              clear hT
              go_wp2_with fail
              refine hT2.mono ?_
              rintro e w5 ⟨a5, n5, m5, rfl, h5⟩
              clear hT2
              obtain ⟨hR5, hr5, hf5⟩ := h5.out
              have hO5 := hr5 Q w5 HQS.out (FrQ.refl _ _)
              rw [HO.out] at hO5
              obtain ⟨b5, o5, e5, e6, y0⟩ := nums_row hO5
              subst e5
              subst e6
              have HE : Hid (CntI N (i + 1) r' (so + 1) ∧ RnM A w5 (cntC N) r' rb Q x ∧ Below w.heap.size w w5) := ⟨by rw [← HX.out.2.2.1]; exact HX.out.2.1, hR5, below_frq HBW.out hf5 HQ.out HBW.out.size⟩
              clear h5 hR5 hr5 hf5 hO5 HX HBW HO
              go_wp2_with fail
              go_roundg (M - (i + 1))
              case measure => omega
              case rel => exact ⟨i + 1, so + 1, r', by omega, by omega, by go_num, by go_num, HE.out⟩
            · have hlt2 := hNs
              have HO : Hid (outsC (cntC N) r' = [0]) := by rw [Hid, HX.out.2.2.2, HX.out.2.2.1, if_neg (by omega)]
              have hT2 := hT
              clear hT
              go_wp2_with fail
              refine hT2.mono ?_
              rintro e w5 ⟨a5, n5, m5, rfl, h5⟩
              clear hT2
              obtain ⟨hR5, hr5, hf5⟩ := h5.out
              have hO5 := hr5 Q w5 HQS.out (FrQ.refl _ _)
              rw [HO.out] at hO5
              obtain ⟨b5, o5, e5, e6, y0⟩ := nums_row hO5
              subst e5
              subst e6
              have HE : Hid (CntI N (i + 1) r' (so + 1) ∧ RnM A w5 (cntC N) r' rb Q x ∧ Below w.heap.size w w5) := ⟨by rw [← HX.out.2.2.1]; exact HX.out.2.1, hR5, below_frq HBW.out hf5 HQ.out HBW.out.size⟩
              clear h5 hR5 hr5 hf5 hO5 HX HBW HO
              go_wp2_with fail
              go_roundg (M - (i + 1))
              case measure => omega
              case rel => exact ⟨i + 1, so + 1, r', by omega, by omega, by go_num, by go_num, HE.out⟩
        · have h0' : ¬ (0 : Int) < (i : Int) := by omega
          have HX : Hid (tickC (cntC N) [z] r = some r' ∧ CntI N (i + 1) r' (cntH i so z) ∧ cntH i so z = so ∧ outsC (cntC N) r' = [if N ≤ cntH i so z then 1 else 0]) := ⟨ht, hst, by unfold cntH; rw [if_neg (by omega)], hou⟩
          clear ht hst hou
          by_cases hNs : (N : Int) ≤ (so : Int)
          · have hge := hNs
            have HO : Hid (outsC (cntC N) r' = [1]) := by rw [Hid, HX.out.2.2.2, HX.out.2.2.1, if_pos (by omega)]
            have hT2 := hT
            clear hT
            go_wp2_with fail
            refine hT2.mono ?_
            rintro e w5 ⟨a5, n5, m5, rfl, h5⟩
            clear hT2
            obtain ⟨hR5, hr5, hf5⟩ := h5.out
            have hO5 := hr5 Q w5 HQS.out (FrQ.refl _ _)
            rw [HO.out] at hO5
            obtain ⟨b5, o5, e5, e6, y0⟩ := nums_row hO5
            subst e5
            subst e6
            have HE : Hid (CntI N (i + 1) r' (so) ∧ RnM A w5 (cntC N) r' rb Q x ∧ Below w.heap.size w w5) := ⟨by rw [← HX.out.2.2.1]; exact HX.out.2.1, hR5, below_frq HBW.out hf5 HQ.out HBW.out.size⟩
            clear h5 hR5 hr5 hf5 hO5 HX HBW HO
            go_wp2_with fail
            go_roundg (M - (i + 1))
            case measure => omega
            case rel => exact ⟨i + 1, so, r', by omega, by omega, by go_num, by go_num, HE.out⟩
          · have hlt2 := hNs
            have HO : Hid (outsC (cntC N) r' = [0]) := by rw [Hid, HX.out.2.2.2, HX.out.2.2.1, if_neg (by omega)]
            have hT2 := hT
            clear hT
            go_wp2_with fail
            refine hT2.mono ?_
            rintro e w5 ⟨a5, n5, m5, rfl, h5⟩
            clear hT2
            obtain ⟨hR5, hr5, hf5⟩ := h5.out
            have hO5 := hr5 Q w5 HQS.out (FrQ.refl _ _)
            rw [HO.out] at hO5
            obtain ⟨b5, o5, e5, e6, y0⟩ := nums_row hO5
            subst e5
            subst e6
            have HE : Hid (CntI N (i + 1) r' (so) ∧ RnM A w5 (cntC N) r' rb Q x ∧ Below w.heap.size w w5) := ⟨by rw [← HX.out.2.2.1]; exact HX.out.2.1, hR5, below_frq HBW.out hf5 HQ.out HBW.out.size⟩
            clear h5 hR5 hr5 hf5 hO5 HX HBW HO
            go_wp2_with fail
            go_roundg (M - (i + 1))
            case measure => omega
            case rel => exact ⟨i + 1, so, r', by omega, by omega, by go_num, by go_num, HE.out⟩
      · obtain rfl : i = M := by omega
        have HB5 : Hid (Below w.heap.size w W5) := hr.out.2.2
        clear hr
        go_wp2_with fail
        go_ret
        exact ⟨rfl, HB5.out⟩
set_option maxHeartbeats 2000000 in
theorem runCounts_many {w : World} {iv : Value} {zs : List Int} (n0 : Int) (hI : INums w iv zs) (h60 : ¬ zs.length ≤ 60) :
    Calls Tryz.prog 6 #[.int .i64 n0, iv] w fun e w' => e = .returned (.bool true) ∧ Hid (Below w.heap.size w w') := by
  obtain ⟨iad, ib, io, ic, rfl, _⟩ := hI
  have h6 : (60 : Int) < (zs.length : Int) := by omega
  go_enter Tryz.func6, Tryz.ntmps6
  go_wp2_with fail
  go_ret
  exact ⟨rfl, Below.refl _ _⟩
theorem runCounts_any {w : World} {iv : Value} {zs : List Int} (n0 : Int) (hv : KEnv0 w) (hI : INums w iv zs) (h64 : ∀ y ∈ zs, N64 y) :
    Calls Tryz.prog 6 #[.int .i64 n0, iv] w fun e w' => e = .returned (.bool true) ∧ Hid (Below w.heap.size w w') := by
  by_cases h : zs.length ≤ 60
  · exact runCounts_fine n0 hv hI h64 h
  · exact runCounts_many n0 hI h
end Kx
end Go.Proofs.YtecbilopliblpaaGreatDoor
/- Numbers, and rows of them, that came in, as they lie in memory. -/
namespace Go.Proofs.YtecbilopliblpaaGreatDoor
open Go Go.RowKit Go.ChangeShapes Go.WideShapes
namespace Kx
theorem n64_of_wf {z : Int} (h : (Lit.int .i64 z).wf = true) : N64 z := by
  rw [show (Lit.int .i64 z).wf = (decide (-9223372036854775808 ≤ z) && decide (z ≤ 9223372036854775807)) from rfl] at h
  simpa [N64] using h
theorem add_none (b off k : Nat) : (⟨b, off, none⟩ : Addr).add k = ⟨b, off + k, none⟩ := by unfold Addr.add; split <;> simp_all
section
variable {H : Type} {enc : TypeId × Value → H} {W : World} {sp : Nat → Bool} {held : Bool}
theorem nums_of_trod {fuel : Nat} {v : Value} {x : DataW H × List MemPlace} (hc : Tryz.prog.cellsOf 2 = 1) (h : DataW.trod enc Tryz.prog W 0 sp held fuel 36 [v] = some x) : ∃ zs, INums W v zs ∧ ∀ z ∈ zs, N64 z := by
  rcases open_ints Tryz.underlying36 Tryz.underlying2 hc h with ⟨hcs, _⟩ | ⟨a, len, cap, zs, hcs, _, hl, hm, hz, _, hcell, hwz⟩
  · obtain rfl : v = .slice none 0 0 := by simpa using hcs
    exact ⟨[], ⟨none, 0, 0, 0, rfl, Nat.le_refl _, by unfold maxLen; omega, fun h => by simp at h, fun k hk => by simp at hk⟩, fun z hz => by cases hz⟩
  · obtain rfl : v = .slice (some a) len cap := by simpa using hcs
    have hlz : len ≤ zs.length := by rw [hz]; split <;> omega
    have hlen : (zs.take len).length = len := by simp; omega
    refine ⟨zs.take len, ?_, fun z hz => n64_of_wf (hwz z (List.mem_of_mem_take hz))⟩
    by_cases h0 : len = 0
    · subst h0
      exact ⟨some a, 0, 0, cap, by rw [hlen], by omega, hm, fun h => by omega, fun k hk => by omega⟩
    · obtain ⟨b, off, spot⟩ := a
      have hc0 := hcell 0 (by omega)
      have hspot : spot = none := by simpa [Addr.add] using World.cell?_spot hc0
      subst hspot
      refine ⟨some ⟨b, off, none⟩, b, off, cap, by rw [hlen], by omega, hm, fun _ => rfl, fun k hk => ?_⟩
      have := hcell k (by omega)
      rw [add_none] at this
      rw [this]
      simp [List.getD_eq_getElem?_getD, show k < len by omega]
theorem choose_rows (m : Nat) (p : Nat → List Int → Prop) (h : ∀ i, i < m → ∃ z, p i z) : ∃ l : List (List Int), l.length = m ∧ ∀ i z, l[i]? = some z → p i z := by
  induction m with
  | zero => exact ⟨[], rfl, fun i z hi => by simp at hi⟩
  | succ m ih =>
    obtain ⟨l, hl, hp⟩ := ih (fun i hi => h i (by omega))
    obtain ⟨z, hz⟩ := h m (by omega)
    refine ⟨l ++ [z], by simp [hl], fun i y hi => ?_⟩
    by_cases e : i < m
    · rw [List.getElem?_append_left (by omega)] at hi; exact hp i y hi
    · have hlt := (List.getElem?_eq_some_iff.1 hi).1
      rw [List.length_append, List.length_singleton] at hlt
      obtain rfl : i = m := by omega
      rw [List.getElem?_append_right (by omega), hl, Nat.sub_self] at hi
      simp at hi
      rw [← hi]; exact hz
theorem rows_of_trod {fuel : Nat} {v : Value} {x : DataW H × List MemPlace} (hc1 : Tryz.prog.cellsOf 36 = 1) (hc2 : Tryz.prog.cellsOf 2 = 1)
    (h : DataW.trod enc Tryz.prog W 0 sp held fuel 22 [v] = some x) : ∃ zss, IRws W v zss ∧ ∀ zs ∈ zss, ∀ z ∈ zs, N64 z := by
  rcases Deep.open_slice1 Tryz.underlying22 hc1 h with ⟨hcs, _⟩ | ⟨a, len, cap, m, n, V, D, Pl, hcs, _, hl, hm, hmm, _, hx⟩
  · obtain rfl : v = .slice none 0 0 := by simpa using hcs
    exact ⟨[], ⟨none, 0, 0, 0, rfl, fun h => by simp at h, fun k zs hk => by simp at hk⟩, fun zs h => by cases h⟩
  · obtain rfl : v = .slice (some a) len cap := by simpa using hcs
    have hlm : len ≤ m := by rw [hmm]; split <;> omega
    obtain ⟨rows, hrl, hr⟩ := choose_rows len (fun i z => INums W (V i) z ∧ ∀ y ∈ z, N64 y) (fun i hi => nums_of_trod hc2 (hx i (by omega)).2)
    refine ⟨rows, ?_, fun zs hz => ?_⟩
    · by_cases h0 : len = 0
      · exact ⟨some a, 0, 0, cap, by rw [hrl], fun h => by omega, fun k zs hk => by have := (List.getElem?_eq_some_iff.1 hk).1; omega⟩
      · obtain ⟨b, off, spot⟩ := a
        have hc0 := (hx 0 (by omega)).1
        have hspot : spot = none := by simpa [Addr.add] using World.cell?_spot hc0
        subst hspot
        refine ⟨some ⟨b, off, none⟩, b, off, cap, by rw [hrl], fun _ => rfl, fun k zs hk => ?_⟩
        have hkl : k < len := by rw [← hrl]; exact (List.getElem?_eq_some_iff.1 hk).1
        have hc := (hx k (by omega)).1
        rw [add_none] at hc
        have hI := (hr k zs hk).1
        obtain ⟨ad, b', o', cap', e, _⟩ := id hI
        rw [e] at hI hc
        exact ⟨ad, cap', hc, hI⟩
    · obtain ⟨i, hi, e⟩ := List.getElem_of_mem hz
      exact (hr i zs (by rw [List.getElem?_eq_getElem hi, e])).2
end
end Kx
end Go.Proofs.YtecbilopliblpaaGreatDoor
