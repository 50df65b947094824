/- RunOrders: strong is ahead, weak is behind. -/
import Derived.Test.YtecbilopliblpaaGreatDoorQVjVh
import Derived.Test.YtecbilopliblpaaGreatDoorQVe
namespace Go.Proofs.YtecbilopliblpaaGreatDoor
open Go.RowKit Px
namespace Kx
theorem ixO0 (a b : Value) (w : World) : (Instr.index 64 (.agg #[a, b]) (.int .i64 0)).run Tryz.prog w = .ok a w := by kernel_rfl
theorem ixO1 (a b : Value) (w : World) : (Instr.index 64 (.agg #[a, b]) (.int .i64 1)).run Tryz.prog w = .ok b w := by kernel_rfl
theorem chart_all {w : World} {c : Chart} {v : Value} (h : IsChart (fun _ => True) w c v) : IsChart (fun b => b < w.heap.size) w c v := by
  have kp : Keep (fun _ => True) (fun b => b < w.heap.size) w w := fun b ha hlt => ⟨hlt, rfl⟩
  obtain ⟨a, n, m, a2, n2, m2, rfl, hv, hr⟩ := h
  exact ⟨a, n, m, a2, n2, m2, rfl, hv.carry kp, hr.carry kp (IsStates.carry kp 6)⟩
/-- a row of two numbers, opened -/
theorem nums_two {w : World} {a : Option Addr} {n m : Nat} {x y : Int} (h : INums w (.slice a n m) [x, y]) : ∃ b o, a = some ⟨b, o, none⟩ ∧ n = 2 ∧ w.cell? ⟨b, o, none⟩ = some (.int .i64 x) ∧ w.cell? ⟨b, o + 1, none⟩ = some (.int .i64 y) := by
  obtain ⟨ad, b, off, cap, e, _, _, h4, h5⟩ := h
  injection e with e1 e2 e3
  subst e1
  exact ⟨b, off, h4 (by simp), e2, h5 0 (by simp), h5 1 (by simp)⟩
/-- what a fixed text draws -/
theorem fixed_parse {c : Chart} {L : List UInt8} {K : List Lx.Tok} (hok : ∀ {s : ByteArray}, bs s = L → Lx.Ok (bs s) K ∧ chart (fin s K) = .ok c) (hl : L.length ≤ 1500) {w : World} (hv : KEnv0 w) (s : ByteArray) (hs : bs s = L) :
    Calls Tryz.prog 25 #[.string s] w fun e w' => ∃ S a n m a' n' m', e = .returned (.tuple #[.agg #[.string S, .slice a n m, .slice a' n' m'], .nilIface]) ∧ Hid (IsChart (fun _ => True) w' c (.agg #[.string S, .slice a n m, .slice a' n' m']) ∧ Below w.heap.size w w') :=
  parseAt (by rw [← bs_len, hs]; exact hl) hv (hok hs).1 (hok hs).2
theorem fixed_run {c : Chart} {L : List UInt8} {K : List Lx.Tok} (hok : ∀ {s : ByteArray}, bs s = L → Lx.Ok (bs s) K ∧ chart (fin s K) = .ok c) (hc : checkC c = none) : RunC c :=
  runC (s := ⟨L.toArray⟩) (hok rfl).1 (hok rfl).2 hc
set_option maxRecDepth 100000 in
set_option maxHeartbeats 16000000 in
theorem runOrders_fine {w : World} {iv : Value} {zs : List Int} (hv : KEnv0 w) (hI : INums w iv zs) (h64 : ∀ y ∈ zs, N64 y) (h60 : zs.length ≤ 60) :
    Calls Tryz.prog 7 #[iv] w fun e w' => e = .returned (.bool true) ∧ Hid (Below w.heap.size w w') := by
  have hran := ran_any hv
  have HP0 : Hid (∀ W, Below w.heap.size w W → ∀ s : ByteArray, bs s = ordGL → Calls Tryz.prog 25 #[.string s] W fun e w' => ∃ S a n m a' n' m', e = .returned (.tuple #[.agg #[.string S, .slice a n m, .slice a' n' m'], .nilIface]) ∧ Hid (IsChart (fun _ => True) w' (ordC 0) (.agg #[.string S, .slice a n m, .slice a' n' m']) ∧ Below W.heap.size W w')) := fun W hb s hs => fixed_parse ordG_ok (by decide) (hv.up hb) s hs
  have HP1 : Hid (∀ W, Below w.heap.size w W → ∀ s : ByteArray, bs s = ordAL → Calls Tryz.prog 25 #[.string s] W fun e w' => ∃ S a n m a' n' m', e = .returned (.tuple #[.agg #[.string S, .slice a n m, .slice a' n' m'], .nilIface]) ∧ Hid (IsChart (fun _ => True) w' (ordC 1) (.agg #[.string S, .slice a n m, .slice a' n' m']) ∧ Below W.heap.size W w')) := fun W hb s hs => fixed_parse ordA_ok (by decide) (hv.up hb) s hs
  have HC0 : Hid (RunC (ordC 0)) := fixed_run ordG_ok ordG_check
  have HC1 : Hid (RunC (ordC 1)) := fixed_run ordA_ok ordA_check
  obtain ⟨iad, ib, io, ic, rfl, hc1, hc2, hia, hin⟩ := hI
  obtain ⟨N, hN⟩ : ∃ N, N = zs.length := ⟨_, rfl⟩
  rw [← hN] at hc1 hia hin h60 ⊢
  have H : Hid (N = zs.length ∧ N ≤ 60 ∧ (N ≤ ic ∧ ic ≤ maxLen) ∧ (0 < N → iad = some ⟨ib, io, none⟩) ∧ (∀ k, k < N → w.cell? ⟨ib, io + k, none⟩ = some (.int .i64 (zs.getD k 0))) ∧ ∀ y ∈ zs, N64 y) := ⟨hN, h60, ⟨hc1, hc2⟩, hia, hin, h64⟩
  clear hv hN hia hin h64 hc1 hc2
  go_enter Tryz.func7, Tryz.ntmps7
  go_wp2_with fail
  refine hran.mono ?_
  rintro e w1 ⟨rfl, hb1⟩
  clear hran
  go_wp2_with fail
  go_loopg [18] 2 (fun f kv wr => ∃ k : Nat, f = 2 - k ∧ k ≤ 2 ∧ kv = .int .i64 (k : Int) ∧ Hid (Below w.heap.size w wr))
  case atStart => exact ⟨0, by omega, by omega, rfl, hb1.out⟩
  case round =>
    clear hb1
    obtain ⟨k, rfl, hk, rfl, hr⟩ := hrel
    have hk3 : k = 0 ∨ k = 1 ∨ k = 2 := by omega
    rcases hk3 with rfl | rfl | rfl
    · have hixk := ixO0
      have hp := HP0.out wr hr.out
      have HB1 : Hid (Below w.heap.size w wr) := hr.out
      clear hr
      go_wp2_with fail
      refine (hp _ (by kernel_rfl)).mono ?_
      rintro e w2 ⟨S, a, n, m, a', n', m', rfl, h2⟩
      clear hp
      obtain ⟨W2, hW2⟩ : ∃ W2, W2 = w2.alloc (.cells #[.string S, .slice a n m, .slice a' n' m'] 28) := ⟨_, rfl⟩
      obtain ⟨cb, hcb⟩ : ∃ cb, cb = w2.heap.size := ⟨_, rfl⟩
      have hg2 : Below w2.heap.size w2 W2 := by rw [hW2]; exact ck_grown _ _
      have k2 : W2.heap[cb]? = some (.cells #[.string S, .slice a n m, .slice a' n' m'] 28 (0, 0)) := by rw [hW2, hcb]; exact ck_new _ _
      obtain ⟨A, hA⟩ : ∃ A : Nat → Prop, A = fun b => b < w2.heap.size := ⟨_, rfl⟩
      have hCh : IsChart A W2 (ordC 0) (.agg #[.string S, .slice a n m, .slice a' n' m']) := by rw [hA]; exact chartUp (chart_all h2.out.1) hg2
      have hAW : ∀ b, A b → b < W2.heap.size := fun b hb => by rw [hA] at hb; exact Nat.lt_of_lt_of_le hb hg2.size
      have HC : Hid (RunC (ordC 0)) := HC0.out
      have hn1 := new_run hCh HC.out hAW
      have HW : Hid (Below w.heap.size w W2) := ck_all (ck_all HB1.out h2.out.2) hg2
      have x0 := cell_row k2 0 (u := .string S) rfl
      have x1 := cell_row k2 1 (u := .slice a n m) rfl
      have x2 := cell_row k2 2 (u := .slice a' n' m') rfl
      clear h2 hg2 k2 hA hCh hAW HB1
      go_upto_region 11 with fail
      rw [← hcb, ← hW2]
      clear hcb hW2
      go_wp2_with fail
      refine hn1.mono ?_
      rintro e w3 ⟨rb, rfl, h3⟩
      clear hn1 x0 x1 x2
      obtain ⟨⟨Q, x, hR1, hQ1⟩, hb3⟩ := h3.out
      have HR : Hid (RnM A w3 (ordC 0) (newC (ordC 0)) rb Q x ∧ (∀ b, Q b → w.heap.size ≤ b) ∧ Below w.heap.size w w3) := ⟨hR1, fun b hb => Nat.le_trans HW.out.size (hQ1 b hb), ck_all HW.out hb3⟩
      have HQ : Hid ((∀ b, Q b → w.heap.size ≤ b) ∧ True) := ⟨HR.out.2.1, trivial⟩
      clear h3 hR1 hQ1 hb3 HW
      go_wp2_with fail
      go_loopg [8, 9, 10] N (fun f nv lv iv wr => ∃ (i : Nat) (pn pl : Int) (r : Rn), f = N - i ∧ i ≤ N ∧ nv = .int .i64 pn ∧ lv = .int .i64 pl ∧ iv = .int .i64 (i : Int) ∧ Hid (OrdI 0 i r (pn, pl) ∧ RnM A wr (ordC 0) r rb Q x ∧ Below w.heap.size w wr))
      case atStart => exact ⟨0, 0, 0, newC (ordC 0), by omega, by omega, rfl, rfl, rfl, .inl ⟨rfl, rfl, rfl⟩, HR.out.1, HR.out.2.2⟩
      case round =>
        obtain ⟨i, pn, pl, r, rfl, hi, rfl, rfl, rfl, hr⟩ := hrel
        obtain ⟨W5, hW5⟩ : ∃ W, W = wr := ⟨_, rfl⟩
        subst hW5
        by_cases hlt : i < N
        · obtain ⟨z, hz⟩ : ∃ z, z = zs.getD i 0 := ⟨_, rfl⟩
          have hcz : W5.cell? ⟨ib, io + i, none⟩ = some (.int .i64 z) := by rw [hz]; exact ck_cell hr.out.2.2 (H.out.2.2.2.2.1 i hlt)
          obtain ⟨r', ht, hst, hou⟩ := ord_step (k := 0) (by omega) (by have := H.out.2.1; omega) hr.out.1 z
          have hz64 : N64 z := by
            rw [hz, List.getD_eq_getElem?_getD, List.getElem?_eq_getElem (by rw [← H.out.1]; exact hlt)]
            exact H.out.2.2.2.2.2 _ (List.getElem_mem _)
          obtain rfl := H.out.2.2.2.1 (by omega)
          have hix := ixN (some ⟨ib, io, none⟩) ib io N ic i hlt (fun _ => rfl)
          have hT := tick_run hr.out.2.1 HC.out.run (iv := .slice (some ⟨ib, io + i, none⟩) 1 (ic - i)) (ins := [z]) ⟨_, ib, io + i, ic - i, rfl, by have := H.out.2.2.1.1; simp; omega, by have := H.out.2.2.1.2; omega, fun _ => rfl, fun j hj => by
            have : j = 0 := by simp at hj; omega
            subst this
            exact hcz⟩ (fun y hy => by simp at hy; subst hy; exact hz64) ht
          have HX : Hid (tickC (ordC 0) [z] r = some r' ∧ OrdI 0 (i + 1) r' (ordStep 0 i z (pn, pl)) ∧ outsC (ordC 0) r' = [(ordStep 0 i z (pn, pl)).1, (ordStep 0 i z (pn, pl)).2]) := ⟨ht, hst, hou⟩
          have HBW : Hid (Below w.heap.size w W5) := hr.out.2.2
          have HQS : Hid (∀ b, Q b → b < W5.heap.size) := hr.out.2.1.hQ
          have hic1 : (N : Int) ≤ (ic : Int) := by have := H.out.2.2.1.1; omega
          have hic2 : (ic : Int) ≤ 9223372036854775807 := by have := H.out.2.2.1.2; unfold maxLen at this; omega
          have hic3 : ¬ ic = i := by have := H.out.2.2.1.1; omega
          have hi1 : (i : Int) + 1 ≤ (ic : Int) := by omega
          have hpn : 0 ≤ pn ∧ pn ≤ 60 := by
            rcases hr.out.1 with ⟨_, _, e⟩ | ⟨_, _, _, _, _, q1, q2, _⟩
            · injection e with e1 e2; omega
            · have := H.out.2.1; exact ⟨q1, by show pn ≤ 60; have : pn ≤ (i : Int) := q2; omega⟩
          have hpl : i = 0 ∨ (0 < i ∧ pl = 0) ∨ (0 < i ∧ pl = 1) := by
            rcases hr.out.1 with ⟨e, _⟩ | ⟨e, _, _, _, _, _, _, ⟨q, _⟩ | ⟨q, _⟩⟩
            · exact .inl e
            · exact .inr (.inl ⟨e, q⟩)
            · exact .inr (.inr ⟨e, q⟩)
          clear hr hz ht hst hou hz64
          rcases hpl with h0 | ⟨h0, h1⟩ | ⟨h0, h1⟩

          · subst h0
            have hw : ordStep 0 0 z (pn, pl) = (pn, pl) := by unfold ordStep; rw [if_neg (by omega)]
            clear hpn
            go_upto_region 23 with fail
            go_wp2_with fail
            refine hT.mono ?_
            rintro e w5 ⟨a5, n5, m5, rfl, h5⟩
            clear hT
            obtain ⟨hR5, hr5, hf5⟩ := h5.out
            have hO5 := hr5 Q w5 HQS.out (FrQ.refl _ _)
            rw [HX.out.2.2] at hO5
            obtain ⟨b5, o5, e5, e6, y0, y1⟩ := nums_two hO5
            subst e5
            subst e6
            have HE : Hid (OrdI 0 (0 + 1) r' (ordStep 0 0 z (pn, pl)) ∧ RnM A w5 (ordC 0) r' rb Q x ∧ Below w.heap.size w w5) := ⟨HX.out.2.1, hR5, below_frq HBW.out hf5 HQ.out.1 HBW.out.size⟩
            have HP : Hid (ordStep 0 0 z (pn, pl) = (pn, pl)) := hw
            rw [HP.out] at y0 y1 HE
            have hi0 := ixN (some ⟨b5, o5, none⟩) b5 o5 2 m5 0 (by omega) (fun _ => rfl)
            have hi1 := ixN (some ⟨b5, o5, none⟩) b5 o5 2 m5 1 (by omega) (fun _ => rfl)
            clear h5 hR5 hr5 hf5 hO5 HX HBW HP
            go_wp2_with fail
            go_roundg (N - (0 + 1))
            case measure => omega
            case rel => exact ⟨0 + 1, pn, pl, r', by omega, by omega, by go_num, by go_num, by go_num, HE.out⟩
          · subst h1
            by_cases hz0 : z = 0
            · subst hz0
              have hw : ordStep 0 i 0 (pn, 0) = (pn + 1, 0) := by unfold ordStep; rw [if_pos ⟨h0, rfl⟩, if_pos (.inl rfl), if_pos rfl]
              go_upto_region 23 with fail
              go_wp2_with fail
              refine hT.mono ?_
              rintro e w5 ⟨a5, n5, m5, rfl, h5⟩
              clear hT
              obtain ⟨hR5, hr5, hf5⟩ := h5.out
              have hO5 := hr5 Q w5 HQS.out (FrQ.refl _ _)
              rw [HX.out.2.2] at hO5
              obtain ⟨b5, o5, e5, e6, y0, y1⟩ := nums_two hO5
              subst e5
              subst e6
              have HE : Hid (OrdI 0 (i + 1) r' (ordStep 0 i 0 (pn, 0)) ∧ RnM A w5 (ordC 0) r' rb Q x ∧ Below w.heap.size w w5) := ⟨HX.out.2.1, hR5, below_frq HBW.out hf5 HQ.out.1 HBW.out.size⟩
              have HP : Hid (ordStep 0 i 0 (pn, 0) = ((pn + 1), 0)) := hw
              rw [HP.out] at y0 y1 HE
              have hi0 := ixN (some ⟨b5, o5, none⟩) b5 o5 2 m5 0 (by omega) (fun _ => rfl)
              have hi1 := ixN (some ⟨b5, o5, none⟩) b5 o5 2 m5 1 (by omega) (fun _ => rfl)
              clear h5 hR5 hr5 hf5 hO5 HX HBW HP
              go_wp2_with fail
              go_roundg (N - (i + 1))
              case measure => omega
              case rel => exact ⟨i + 1, (pn + 1), 0, r', by omega, by omega, by go_num, by go_num, by go_num, HE.out⟩
            · have hw : ordStep 0 i z (pn, 0) = (pn + 1, 1) := by unfold ordStep; rw [if_pos ⟨h0, rfl⟩, if_pos (.inr rfl), if_neg hz0]
              go_upto_region 23 with fail
              go_wp2_with fail
              refine hT.mono ?_
              rintro e w5 ⟨a5, n5, m5, rfl, h5⟩
              clear hT
              obtain ⟨hR5, hr5, hf5⟩ := h5.out
              have hO5 := hr5 Q w5 HQS.out (FrQ.refl _ _)
              rw [HX.out.2.2] at hO5
              obtain ⟨b5, o5, e5, e6, y0, y1⟩ := nums_two hO5
              subst e5
              subst e6
              have HE : Hid (OrdI 0 (i + 1) r' (ordStep 0 i z (pn, 0)) ∧ RnM A w5 (ordC 0) r' rb Q x ∧ Below w.heap.size w w5) := ⟨HX.out.2.1, hR5, below_frq HBW.out hf5 HQ.out.1 HBW.out.size⟩
              have HP : Hid (ordStep 0 i z (pn, 0) = ((pn + 1), 1)) := hw
              rw [HP.out] at y0 y1 HE
              have hi0 := ixN (some ⟨b5, o5, none⟩) b5 o5 2 m5 0 (by omega) (fun _ => rfl)
              have hi1 := ixN (some ⟨b5, o5, none⟩) b5 o5 2 m5 1 (by omega) (fun _ => rfl)
              clear h5 hR5 hr5 hf5 hO5 HX HBW HP
              go_wp2_with fail
              go_roundg (N - (i + 1))
              case measure => omega
              case rel => exact ⟨i + 1, (pn + 1), 1, r', by omega, by omega, by go_num, by go_num, by go_num, HE.out⟩
          · subst h1
            have hw : ordStep 0 i z (pn, 1) = (pn, 1) := by unfold ordStep; rw [if_neg (by simp)]
            go_upto_region 23 with fail
            go_wp2_with fail
            refine hT.mono ?_
            rintro e w5 ⟨a5, n5, m5, rfl, h5⟩
            clear hT
            obtain ⟨hR5, hr5, hf5⟩ := h5.out
            have hO5 := hr5 Q w5 HQS.out (FrQ.refl _ _)
            rw [HX.out.2.2] at hO5
            obtain ⟨b5, o5, e5, e6, y0, y1⟩ := nums_two hO5
            subst e5
            subst e6
            have HE : Hid (OrdI 0 (i + 1) r' (ordStep 0 i z (pn, 1)) ∧ RnM A w5 (ordC 0) r' rb Q x ∧ Below w.heap.size w w5) := ⟨HX.out.2.1, hR5, below_frq HBW.out hf5 HQ.out.1 HBW.out.size⟩
            have HP : Hid (ordStep 0 i z (pn, 1) = (pn, 1)) := hw
            rw [HP.out] at y0 y1 HE
            have hi0 := ixN (some ⟨b5, o5, none⟩) b5 o5 2 m5 0 (by omega) (fun _ => rfl)
            have hi1 := ixN (some ⟨b5, o5, none⟩) b5 o5 2 m5 1 (by omega) (fun _ => rfl)
            clear h5 hR5 hr5 hf5 hO5 HX HBW HP
            go_wp2_with fail
            go_roundg (N - (i + 1))
            case measure => omega
            case rel => exact ⟨i + 1, pn, 1, r', by omega, by omega, by go_num, by go_num, by go_num, HE.out⟩
        · obtain rfl : i = N := by omega
          have HB5 : Hid (Below w.heap.size w W5) := hr.out.2.2
          clear hr
          go_wp2_with fail
          go_roundg (2 - (0 + 1))
          case measure => omega
          case rel => exact ⟨0 + 1, by omega, by omega, by go_num, HB5.out⟩
    · have hixk := ixO1
      have hp := HP1.out wr hr.out
      have HB1 : Hid (Below w.heap.size w wr) := hr.out
      clear hr
      go_wp2_with fail
      refine (hp _ (by kernel_rfl)).mono ?_
      rintro e w2 ⟨S, a, n, m, a', n', m', rfl, h2⟩
      clear hp
      obtain ⟨W2, hW2⟩ : ∃ W2, W2 = w2.alloc (.cells #[.string S, .slice a n m, .slice a' n' m'] 28) := ⟨_, rfl⟩
      obtain ⟨cb, hcb⟩ : ∃ cb, cb = w2.heap.size := ⟨_, rfl⟩
      have hg2 : Below w2.heap.size w2 W2 := by rw [hW2]; exact ck_grown _ _
      have k2 : W2.heap[cb]? = some (.cells #[.string S, .slice a n m, .slice a' n' m'] 28 (0, 0)) := by rw [hW2, hcb]; exact ck_new _ _
      obtain ⟨A, hA⟩ : ∃ A : Nat → Prop, A = fun b => b < w2.heap.size := ⟨_, rfl⟩
      have hCh : IsChart A W2 (ordC 1) (.agg #[.string S, .slice a n m, .slice a' n' m']) := by rw [hA]; exact chartUp (chart_all h2.out.1) hg2
      have hAW : ∀ b, A b → b < W2.heap.size := fun b hb => by rw [hA] at hb; exact Nat.lt_of_lt_of_le hb hg2.size
      have HC : Hid (RunC (ordC 1)) := HC1.out
      have hn1 := new_run hCh HC.out hAW
      have HW : Hid (Below w.heap.size w W2) := ck_all (ck_all HB1.out h2.out.2) hg2
      have x0 := cell_row k2 0 (u := .string S) rfl
      have x1 := cell_row k2 1 (u := .slice a n m) rfl
      have x2 := cell_row k2 2 (u := .slice a' n' m') rfl
      clear h2 hg2 k2 hA hCh hAW HB1
      go_upto_region 11 with fail
      rw [← hcb, ← hW2]
      clear hcb hW2
      go_wp2_with fail
      refine hn1.mono ?_
      rintro e w3 ⟨rb, rfl, h3⟩
      clear hn1 x0 x1 x2
      obtain ⟨⟨Q, x, hR1, hQ1⟩, hb3⟩ := h3.out
      have HR : Hid (RnM A w3 (ordC 1) (newC (ordC 1)) rb Q x ∧ (∀ b, Q b → w.heap.size ≤ b) ∧ Below w.heap.size w w3) := ⟨hR1, fun b hb => Nat.le_trans HW.out.size (hQ1 b hb), ck_all HW.out hb3⟩
      have HQ : Hid ((∀ b, Q b → w.heap.size ≤ b) ∧ True) := ⟨HR.out.2.1, trivial⟩
      clear h3 hR1 hQ1 hb3 HW
      go_wp2_with fail
      go_loopg [8, 9, 10] N (fun f nv lv iv wr => ∃ (i : Nat) (pn pl : Int) (r : Rn), f = N - i ∧ i ≤ N ∧ nv = .int .i64 pn ∧ lv = .int .i64 pl ∧ iv = .int .i64 (i : Int) ∧ Hid (OrdI 1 i r (pn, pl) ∧ RnM A wr (ordC 1) r rb Q x ∧ Below w.heap.size w wr))
      case atStart => exact ⟨0, 0, 0, newC (ordC 1), by omega, by omega, rfl, rfl, rfl, .inl ⟨rfl, rfl, rfl⟩, HR.out.1, HR.out.2.2⟩
      case round =>
        obtain ⟨i, pn, pl, r, rfl, hi, rfl, rfl, rfl, hr⟩ := hrel
        obtain ⟨W5, hW5⟩ : ∃ W, W = wr := ⟨_, rfl⟩
        subst hW5
        by_cases hlt : i < N
        · obtain ⟨z, hz⟩ : ∃ z, z = zs.getD i 0 := ⟨_, rfl⟩
          have hcz : W5.cell? ⟨ib, io + i, none⟩ = some (.int .i64 z) := by rw [hz]; exact ck_cell hr.out.2.2 (H.out.2.2.2.2.1 i hlt)
          obtain ⟨r', ht, hst, hou⟩ := ord_step (k := 1) (by omega) (by have := H.out.2.1; omega) hr.out.1 z
          have hz64 : N64 z := by
            rw [hz, List.getD_eq_getElem?_getD, List.getElem?_eq_getElem (by rw [← H.out.1]; exact hlt)]
            exact H.out.2.2.2.2.2 _ (List.getElem_mem _)
          obtain rfl := H.out.2.2.2.1 (by omega)
          have hix := ixN (some ⟨ib, io, none⟩) ib io N ic i hlt (fun _ => rfl)
          have hT := tick_run hr.out.2.1 HC.out.run (iv := .slice (some ⟨ib, io + i, none⟩) 1 (ic - i)) (ins := [z]) ⟨_, ib, io + i, ic - i, rfl, by have := H.out.2.2.1.1; simp; omega, by have := H.out.2.2.1.2; omega, fun _ => rfl, fun j hj => by
            have : j = 0 := by simp at hj; omega
            subst this
            exact hcz⟩ (fun y hy => by simp at hy; subst hy; exact hz64) ht
          have HX : Hid (tickC (ordC 1) [z] r = some r' ∧ OrdI 1 (i + 1) r' (ordStep 1 i z (pn, pl)) ∧ outsC (ordC 1) r' = [(ordStep 1 i z (pn, pl)).1, (ordStep 1 i z (pn, pl)).2]) := ⟨ht, hst, hou⟩
          have HBW : Hid (Below w.heap.size w W5) := hr.out.2.2
          have HQS : Hid (∀ b, Q b → b < W5.heap.size) := hr.out.2.1.hQ
          have hic1 : (N : Int) ≤ (ic : Int) := by have := H.out.2.2.1.1; omega
          have hic2 : (ic : Int) ≤ 9223372036854775807 := by have := H.out.2.2.1.2; unfold maxLen at this; omega
          have hic3 : ¬ ic = i := by have := H.out.2.2.1.1; omega
          have hi1 : (i : Int) + 1 ≤ (ic : Int) := by omega
          have hpn : 0 ≤ pn ∧ pn ≤ 60 := by
            rcases hr.out.1 with ⟨_, _, e⟩ | ⟨_, _, _, _, _, q1, q2, _⟩
            · injection e with e1 e2; omega
            · have := H.out.2.1; exact ⟨q1, by show pn ≤ 60; have : pn ≤ (i : Int) := q2; omega⟩
          have hpl : i = 0 ∨ (0 < i ∧ pl = 0) ∨ (0 < i ∧ pl = 1) := by
            rcases hr.out.1 with ⟨e, _⟩ | ⟨e, _, _, _, _, _, _, ⟨q, _⟩ | ⟨q, _⟩⟩
            · exact .inl e
            · exact .inr (.inl ⟨e, q⟩)
            · exact .inr (.inr ⟨e, q⟩)
          clear hr hz ht hst hou hz64
          rcases hpl with h0 | ⟨h0, h1⟩ | ⟨h0, h1⟩

          · subst h0
            have hw : ordStep 1 0 z (pn, pl) = (pn, pl) := by unfold ordStep; rw [if_neg (by omega)]
            clear hpn
            go_upto_region 23 with fail
            go_wp2_with fail
            refine hT.mono ?_
            rintro e w5 ⟨a5, n5, m5, rfl, h5⟩
            clear hT
            obtain ⟨hR5, hr5, hf5⟩ := h5.out
            have hO5 := hr5 Q w5 HQS.out (FrQ.refl _ _)
            rw [HX.out.2.2] at hO5
            obtain ⟨b5, o5, e5, e6, y0, y1⟩ := nums_two hO5
            subst e5
            subst e6
            have HE : Hid (OrdI 1 (0 + 1) r' (ordStep 1 0 z (pn, pl)) ∧ RnM A w5 (ordC 1) r' rb Q x ∧ Below w.heap.size w w5) := ⟨HX.out.2.1, hR5, below_frq HBW.out hf5 HQ.out.1 HBW.out.size⟩
            have HP : Hid (ordStep 1 0 z (pn, pl) = (pn, pl)) := hw
            rw [HP.out] at y0 y1 HE
            have hi0 := ixN (some ⟨b5, o5, none⟩) b5 o5 2 m5 0 (by omega) (fun _ => rfl)
            have hi1 := ixN (some ⟨b5, o5, none⟩) b5 o5 2 m5 1 (by omega) (fun _ => rfl)
            clear h5 hR5 hr5 hf5 hO5 HX HBW HP
            go_wp2_with fail
            go_roundg (N - (0 + 1))
            case measure => omega
            case rel => exact ⟨0 + 1, pn, pl, r', by omega, by omega, by go_num, by go_num, by go_num, HE.out⟩
          · subst h1
            by_cases hz0 : z = 0
            · subst hz0
              have hw : ordStep 1 i 0 (pn, 0) = (pn + 1, 0) := by unfold ordStep; rw [if_pos ⟨h0, rfl⟩, if_pos (.inl rfl), if_pos rfl]
              go_upto_region 23 with fail
              go_wp2_with fail
              refine hT.mono ?_
              rintro e w5 ⟨a5, n5, m5, rfl, h5⟩
              clear hT
              obtain ⟨hR5, hr5, hf5⟩ := h5.out
              have hO5 := hr5 Q w5 HQS.out (FrQ.refl _ _)
              rw [HX.out.2.2] at hO5
              obtain ⟨b5, o5, e5, e6, y0, y1⟩ := nums_two hO5
              subst e5
              subst e6
              have HE : Hid (OrdI 1 (i + 1) r' (ordStep 1 i 0 (pn, 0)) ∧ RnM A w5 (ordC 1) r' rb Q x ∧ Below w.heap.size w w5) := ⟨HX.out.2.1, hR5, below_frq HBW.out hf5 HQ.out.1 HBW.out.size⟩
              have HP : Hid (ordStep 1 i 0 (pn, 0) = ((pn + 1), 0)) := hw
              rw [HP.out] at y0 y1 HE
              have hi0 := ixN (some ⟨b5, o5, none⟩) b5 o5 2 m5 0 (by omega) (fun _ => rfl)
              have hi1 := ixN (some ⟨b5, o5, none⟩) b5 o5 2 m5 1 (by omega) (fun _ => rfl)
              clear h5 hR5 hr5 hf5 hO5 HX HBW HP
              go_wp2_with fail
              go_roundg (N - (i + 1))
              case measure => omega
              case rel => exact ⟨i + 1, (pn + 1), 0, r', by omega, by omega, by go_num, by go_num, by go_num, HE.out⟩
            · have hw : ordStep 1 i z (pn, 0) = (pn, 1) := by unfold ordStep; rw [if_pos ⟨h0, rfl⟩, if_neg (by omega), if_neg hz0]
              go_upto_region 23 with fail
              go_wp2_with fail
              refine hT.mono ?_
              rintro e w5 ⟨a5, n5, m5, rfl, h5⟩
              clear hT
              obtain ⟨hR5, hr5, hf5⟩ := h5.out
              have hO5 := hr5 Q w5 HQS.out (FrQ.refl _ _)
              rw [HX.out.2.2] at hO5
              obtain ⟨b5, o5, e5, e6, y0, y1⟩ := nums_two hO5
              subst e5
              subst e6
              have HE : Hid (OrdI 1 (i + 1) r' (ordStep 1 i z (pn, 0)) ∧ RnM A w5 (ordC 1) r' rb Q x ∧ Below w.heap.size w w5) := ⟨HX.out.2.1, hR5, below_frq HBW.out hf5 HQ.out.1 HBW.out.size⟩
              have HP : Hid (ordStep 1 i z (pn, 0) = ((pn), 1)) := hw
              rw [HP.out] at y0 y1 HE
              have hi0 := ixN (some ⟨b5, o5, none⟩) b5 o5 2 m5 0 (by omega) (fun _ => rfl)
              have hi1 := ixN (some ⟨b5, o5, none⟩) b5 o5 2 m5 1 (by omega) (fun _ => rfl)
              clear h5 hR5 hr5 hf5 hO5 HX HBW HP
              go_wp2_with fail
              go_roundg (N - (i + 1))
              case measure => omega
              case rel => exact ⟨i + 1, (pn), 1, r', by omega, by omega, by go_num, by go_num, by go_num, HE.out⟩
          · subst h1
            have hw : ordStep 1 i z (pn, 1) = (pn, 1) := by unfold ordStep; rw [if_neg (by simp)]
            go_upto_region 23 with fail
            go_wp2_with fail
            refine hT.mono ?_
            rintro e w5 ⟨a5, n5, m5, rfl, h5⟩
            clear hT
            obtain ⟨hR5, hr5, hf5⟩ := h5.out
            have hO5 := hr5 Q w5 HQS.out (FrQ.refl _ _)
            rw [HX.out.2.2] at hO5
            obtain ⟨b5, o5, e5, e6, y0, y1⟩ := nums_two hO5
            subst e5
            subst e6
            have HE : Hid (OrdI 1 (i + 1) r' (ordStep 1 i z (pn, 1)) ∧ RnM A w5 (ordC 1) r' rb Q x ∧ Below w.heap.size w w5) := ⟨HX.out.2.1, hR5, below_frq HBW.out hf5 HQ.out.1 HBW.out.size⟩
            have HP : Hid (ordStep 1 i z (pn, 1) = (pn, 1)) := hw
            rw [HP.out] at y0 y1 HE
            have hi0 := ixN (some ⟨b5, o5, none⟩) b5 o5 2 m5 0 (by omega) (fun _ => rfl)
            have hi1 := ixN (some ⟨b5, o5, none⟩) b5 o5 2 m5 1 (by omega) (fun _ => rfl)
            clear h5 hR5 hr5 hf5 hO5 HX HBW HP
            go_wp2_with fail
            go_roundg (N - (i + 1))
            case measure => omega
            case rel => exact ⟨i + 1, pn, 1, r', by omega, by omega, by go_num, by go_num, by go_num, HE.out⟩
        · obtain rfl : i = N := by omega
          have HB5 : Hid (Below w.heap.size w W5) := hr.out.2.2
          clear hr
          go_wp2_with fail
          go_roundg (2 - (1 + 1))
          case measure => omega
          case rel => exact ⟨1 + 1, by omega, by omega, by go_num, HB5.out⟩
    · have HB5 : Hid (Below w.heap.size w wr) := hr.out
      clear hr
      go_wp2_with fail
      go_ret
      exact ⟨rfl, HB5.out⟩
set_option maxHeartbeats 2000000 in
theorem runOrders_many {w : World} {iv : Value} {zs : List Int} (hI : INums w iv zs) (h60 : ¬ zs.length ≤ 60) :
    Calls Tryz.prog 7 #[iv] w fun e w' => e = .returned (.bool true) ∧ Hid (Below w.heap.size w w') := by
  obtain ⟨iad, ib, io, ic, rfl, _⟩ := hI
  have h6 : (60 : Int) < (zs.length : Int) := by omega
  go_enter Tryz.func7, Tryz.ntmps7
  go_wp2_with fail
  go_ret
  exact ⟨rfl, Below.refl _ _⟩
theorem runOrders_any {w : World} {iv : Value} {zs : List Int} (hv : KEnv0 w) (hI : INums w iv zs) (h64 : ∀ y ∈ zs, N64 y) :
    Calls Tryz.prog 7 #[iv] w fun e w' => e = .returned (.bool true) ∧ Hid (Below w.heap.size w w') := by
  by_cases h : zs.length ≤ 60
  · exact runOrders_fine hv hI h64 h
  · exact runOrders_many hI h
end Kx
end Go.Proofs.YtecbilopliblpaaGreatDoor
/- keep's few, either way; a text that may run, or none. -/
namespace Go.Proofs.YtecbilopliblpaaGreatDoor
open Go.RowKit Px
namespace Kx
theorem few_no {w : World} {iv : Value} {zss : List (List Int)} (hI : IRws w iv zss) (h : ¬ Few zss) : Calls Tryz.prog 11 #[iv] w fun e w' => e = .returned (.bool false) ∧ w' = w := (few_any hI).mono fun e w' ⟨h', hw⟩ => ⟨by
    rcases h' with ⟨_, hn⟩ | ⟨he, _⟩
    · exact absurd hn h
    · exact he, hw⟩
theorem few_yes {w : World} {iv : Value} {zss : List (List Int)} (hI : IRws w iv zss) (h : Few zss) : Calls Tryz.prog 11 #[iv] w fun e w' => e = .returned (.bool true) ∧ w' = w := (few_any hI).mono fun e w' ⟨h', hw⟩ => ⟨by
    rcases h' with ⟨he, _⟩ | ⟨_, hn⟩
    · exact he
    · exact absurd h hn, hw⟩
/-- a text that may run, or keep's chart says no -/
theorem may_or (s : ByteArray) : (∃ l c, s.size ≤ 1500 ∧ Lx.Ok (bs s) l ∧ chart (fin s l) = .ok c ∧ checkC c = none) ∨ ∀ w, KEnv0 w → Calls Tryz.prog 13 #[.string s] w fun e w' => e = .returned (.tuple #[.agg #[.string ⟨#[]⟩, .slice none 0 0, .slice none 0 0], .bool false]) ∧ Hid (Below w.heap.size w w') := by
  by_cases h : ∃ l c, s.size ≤ 1500 ∧ Lx.Ok (bs s) l ∧ chart (fin s l) = .ok c
  · obtain ⟨l, c, h1, h2, h3⟩ := h
    by_cases hc : checkC c = none
    · exact .inl ⟨l, c, h1, h2, h3, hc⟩
    · refine .inr fun w hv => (chart_drawn h1 hv h2 h3).mono fun e w' h => ?_
      rcases h with ⟨hn, _⟩ | ⟨_, he, hb⟩
      · exact absurd hn hc
      · exact ⟨he, hb⟩
  · exact .inr fun w hv => chart_none hv fun h1 l c h2 => h ⟨l, c, h1, h2.1, h2.2⟩
end Kx
end Go.Proofs.YtecbilopliblpaaGreatDoor
