/- RunJoins: who joins waits for all. -/
import Derived.Test.YtecbilopliblpaaGreatDoorQVjVh
import Derived.Test.YtecbilopliblpaaGreatDoorQVg0Vi
namespace Go.Proofs.YtecbilopliblpaaGreatDoor
open Go.RowKit Px
namespace Kx
/-- a cell that is no runner's is set -/
theorem frq_cell (w : World) (b o : Nat) (v : Value) : FrQ (fun x => x = b) w (w.setCell ⟨b, o, none⟩ v) :=
  ⟨rfl, rfl, rfl, by simp [World.setCell], fun x _ hx => Below.heap_setCell _ _ _ _ hx⟩
/-- two booleans in a block of their own -/
def Two2 (w : World) (b : Nat) (p q : Bool) : Prop := w.heap[b]? = some (.cells #[.bool p, .bool q] 66 (0, 0))
theorem Two2.frq {w w' : World} {b : Nat} {p q : Bool} {Q : Nat → Prop} (h : Two2 w b p q) (hf : FrQ Q w w') (hb : ¬ Q b) : Two2 w' b p q := by
  unfold Two2
  rw [hf.block b (lt_of_block h) hb]; exact h
theorem Two2.put0 {w : World} {b : Nat} {p q : Bool} (h : Two2 w b p q) (x : Bool) : Two2 (w.setCell ⟨b, 0, none⟩ (.bool x)) b x q := ck_set (l := [.bool p, .bool q]) h 0 (.bool x)
theorem Two2.put1 {w : World} {b : Nat} {p q : Bool} (h : Two2 w b p q) (x : Bool) : Two2 (w.setCell ⟨b, 1, none⟩ (.bool x)) b p x := ck_set (l := [.bool p, .bool q]) h 1 (.bool x)
structure JoinW (A Q : Nat → Prop) (w wr : World) (r : Rn) (rb : Nat) (x : RnL) (wb : Nat) (p q : Bool) : Prop where
  run : RnM A wr joinC r rb Q x
  two : Two2 wr wb p q
  bel : Below w.heap.size w wr
structure JoinQ (A Q : Nat → Prop) (w : World) (wb : Nat) : Prop where
  lo : ∀ b, Q b → w.heap.size ≤ b
  nw : ¬ Q wb
  na : ¬ A wb
  wl : w.heap.size ≤ wb
theorem JoinW.put0 {A Q : Nat → Prop} {w wr : World} {r : Rn} {rb : Nat} {x : RnL} {wb : Nat} {p q : Bool} (h : JoinW A Q w wr r rb x wb p q) (hq : JoinQ A Q w wb) (y : Bool) : JoinW A Q w (wr.setCell ⟨wb, 0, none⟩ (.bool y)) r rb x wb y q :=
  ⟨h.run.apart (frq_cell _ _ _ _) (fun _ hb e => hq.nw (e ▸ hb)) (fun _ hb e => hq.na (e ▸ hb)), h.two.put0 y, h.bel.setCell hq.wl _⟩
theorem JoinW.put1 {A Q : Nat → Prop} {w wr : World} {r : Rn} {rb : Nat} {x : RnL} {wb : Nat} {p q : Bool} (h : JoinW A Q w wr r rb x wb p q) (hq : JoinQ A Q w wb) (y : Bool) : JoinW A Q w (wr.setCell ⟨wb, 1, none⟩ (.bool y)) r rb x wb p y :=
  ⟨h.run.apart (frq_cell _ _ _ _) (fun _ hb e => hq.nw (e ▸ hb)) (fun _ hb e => hq.na (e ▸ hb)), h.two.put1 y, h.bel.setCell hq.wl _⟩
set_option maxRecDepth 100000 in
set_option maxHeartbeats 16000000 in
theorem runJoins_fine {w : World} {iv : Value} {zss : List (List Int)} (hv : KEnv0 w) (hI : IRws w iv zss) (hfew : Few zss) (h64 : ∀ zs ∈ zss, ∀ y ∈ zs, N64 y) :
    Calls Tryz.prog 8 #[iv] w fun e w' => e = .returned (.bool true) ∧ Hid (Below w.heap.size w w') := by
  have hfw := few_yes hI hfew
  have hran := ran_any hv
  have HP : Hid (∀ W, Below w.heap.size w W → ∀ s : ByteArray, bs s = joinL → Calls Tryz.prog 25 #[.string s] W fun e w' => ∃ S a n m a' n' m', e = .returned (.tuple #[.agg #[.string S, .slice a n m, .slice a' n' m'], .nilIface]) ∧ Hid (IsChart (fun _ => True) w' joinC (.agg #[.string S, .slice a n m, .slice a' n' m']) ∧ Below W.heap.size W w')) := fun W hb s hs => fixed_parse join_ok (by decide) (hv.up hb) s hs
  have HC : Hid (RunC joinC) := fixed_run join_ok join_check
  obtain ⟨iad, ib, io, ic, rfl, hia, hir⟩ := hI
  obtain ⟨N, hN⟩ : ∃ N, N = zss.length := ⟨_, rfl⟩
  rw [← hN] at hfw hia ⊢
  have hN6 : (N : Int) ≤ 9223372036854775807 := by have := hfew.1; omega
  have H : Hid (N = zss.length ∧ (0 < N → iad = some ⟨ib, io, none⟩) ∧ (∀ (k : Nat) (zs : List Int), zss[k]? = some zs → ∃ a c, w.cell? ⟨ib, io + k, none⟩ = some (.slice a zs.length c) ∧ INums w (.slice a zs.length c) zs) ∧ (∀ zs ∈ zss, ∀ y ∈ zs, N64 y) ∧ ∀ zs ∈ zss, zs.length ≤ 30) := ⟨hN, hia, hir, h64, hfew.2⟩
  clear hv hN hia hir h64 hfew
  go_enter Tryz.func8, Tryz.ntmps8
  go_wp2_with fail
  refine hfw.mono ?_
  rintro e w0 ⟨rfl, hw0⟩
  obtain rfl := hw0.symm
  clear hfw
  go_wp2_with fail
  refine hran.mono ?_
  rintro e w1 ⟨rfl, hb1⟩
  clear hran
  have hp := HP.out w1 hb1.out
  clear HP
  go_wp2_with fail
  refine (hp _ (by kernel_rfl)).mono ?_
  rintro e w2 ⟨S, a, n, m, a', n', m', rfl, h2⟩
  clear hp
  obtain ⟨W2, hW2⟩ : ∃ W2, W2 = w2.alloc (.cells #[.string S, .slice a n m, .slice a' n' m'] 28) := ⟨_, rfl⟩
  obtain ⟨cb, hcb⟩ : ∃ cb, cb = w2.heap.size := ⟨_, rfl⟩
  have hg2 : Below w2.heap.size w2 W2 := by rw [hW2]; exact ck_grown _ _
  have k2 : W2.heap[cb]? = some (.cells #[.string S, .slice a n m, .slice a' n' m'] 28 (0, 0)) := by rw [hW2, hcb]; exact ck_new _ _
  obtain ⟨A, hA⟩ : ∃ A : Nat → Prop, A = fun b => b < w2.heap.size := ⟨_, rfl⟩
  have hCh : IsChart A W2 joinC (.agg #[.string S, .slice a n m, .slice a' n' m']) := by rw [hA]; exact chartUp (chart_all h2.out.1) hg2
  have hAW : ∀ b, A b → b < W2.heap.size := fun b hb => by rw [hA] at hb; exact Nat.lt_of_lt_of_le hb hg2.size
  have hn1 := new_run hCh HC.out hAW
  have HW : Hid (Below w.heap.size w W2 ∧ ∀ b, A b → b < W2.heap.size) := ⟨ck_all (ck_all hb1.out h2.out.2) hg2, hAW⟩
  have x0 := cell_row k2 0 (u := .string S) rfl
  have x1 := cell_row k2 1 (u := .slice a n m) rfl
  have x2 := cell_row k2 2 (u := .slice a' n' m') rfl
  clear h2 hg2 k2 hA hCh hAW hb1
  go_upto_region 8 with fail
  rw [← hcb, ← hW2]
  clear hcb hW2
  go_wp2_with fail
  refine hn1.mono ?_
  rintro e w3 ⟨rb, rfl, h3⟩
  clear hn1 x0 x1 x2
  obtain ⟨⟨Q, x, hR1, hQ1⟩, hb3⟩ := h3.out
  obtain ⟨W3, hW3⟩ : ∃ W3, W3 = w3.alloc (.cells #[.bool false, .bool false] 66) := ⟨_, rfl⟩
  obtain ⟨wb, hwb⟩ : ∃ wb, wb = w3.heap.size := ⟨_, rfl⟩
  have hg3 : Below w3.heap.size w3 W3 := by rw [hW3]; exact ck_grown _ _
  have HQ : Hid (JoinQ A Q w wb) := ⟨fun b hb => Nat.le_trans HW.out.1.size (hQ1 b hb), fun hq => by have := hR1.hQ wb hq; omega, fun ha => by have := HW.out.2 wb ha; have := hb3.size; omega, by rw [hwb]; exact Nat.le_trans HW.out.1.size hb3.size⟩
  have H0 : Hid (JoinW A Q w W3 (newC joinC) rb x wb false false) := ⟨hR1.below hg3, by rw [hW3, hwb]; exact ck_new _ _, ck_all (ck_all HW.out.1 hb3) hg3⟩
  clear h3 hR1 hQ1 hb3 HW hg3
  go_upto_region 12 with fail
  rw [← hwb, ← hW3]
  clear hwb hW3
  go_wp2_with fail
  go_loopg [7] N (fun f i wr => ∃ (k : Nat) (r : Rn) (p q : Bool), f = N - k ∧ k ≤ N ∧ i = .int .i64 (k : Int) ∧ Hid (JoinI k r p q ∧ JoinW A Q w wr r rb x wb p q))
  case atStart => exact ⟨0, newC joinC, false, false, by omega, by omega, rfl, .inl ⟨rfl, rfl, rfl, rfl⟩, H0.out⟩
  case round =>
    clear H0
    obtain ⟨k, r, p, q, rfl, hk, rfl, hr⟩ := hrel
    obtain ⟨W, hW⟩ : ∃ W, W = wr := ⟨_, rfl⟩
    subst hW
    by_cases hlt : k < N
    · obtain ⟨zs, hzs⟩ : ∃ zs, zss[k]? = some zs := ⟨zss[k]'(by rw [← H.out.1]; exact hlt), by rw [List.getElem?_eq_getElem]⟩
      obtain ⟨ia, icp, ci, hin⟩ := H.out.2.2.1 k zs hzs
      have hmz := List.mem_of_getElem? hzs
      have h64 := H.out.2.2.2.1 zs hmz
      have hix := ixM iad ib io N ic k hlt H.out.2.1
      obtain ⟨r', ht, hst, hou⟩ := join_step hr.out.1 zs
      obtain ⟨zl, hzl⟩ : ∃ zl, zl = zs.length := ⟨_, rfl⟩
      rw [← hzl] at ci hin
      obtain ⟨za, zb, zo, zc, ez, zz0, zz00, zz1, zz2⟩ := id hin
      rw [← hzl] at ez zz1 zz2
      injection ez with ez1 _ ez3
      subst ez1
      subst ez3
      obtain ⟨P, hP⟩ : ∃ P, P = joinH k p (zs.getD 0 0) := ⟨_, rfl⟩
      obtain ⟨R, hR⟩ : ∃ R, R = joinH k q (zs.getD 1 0) := ⟨_, rfl⟩
      rw [← hP, ← hR] at hst hou
      have HZ : Hid (zl = zs.length ∧ (0 < zl → ia = some ⟨zb, zo, none⟩) ∧ (∀ j, j < zl → w.cell? ⟨zb, zo + j, none⟩ = some (.int .i64 (zs.getD j 0))) ∧ w.cell? ⟨ib, io + k, none⟩ = some (.slice ia zl icp) ∧ P = joinH k p (zs.getD 0 0) ∧ R = joinH k q (zs.getD 1 0)) := ⟨hzl, zz1, zz2, ci, hP, hR⟩
      have HK : Hid (tickC joinC zs r = some r' ∧ JoinI (k + 1) r' P R ∧ outsC joinC r' = [if P && R then 1 else 0] ∧ INums w (.slice ia zl icp) zs ∧ ∀ y ∈ zs, N64 y) := ⟨ht, hst, hou, hin, h64⟩
      have HJ : Hid (JoinW A Q w W r rb x wb p q) := hr.out.2
      clear hr hzs ci hin hmz h64 ht hst hou hzl zz0 zz00 zz1 zz2 hP hR
      go_wp2_with fail
      go_loopg [8] 2 (fun f jv wq => ∃ j : Nat, f = 2 - j ∧ j ≤ 2 ∧ jv = .int .i64 (j : Int) ∧ Hid (JoinW A Q w wq r rb x wb (if 0 < j then P else p) (if 1 < j then R else q)))
      case atStart => exact ⟨0, by omega, by omega, rfl, HJ.out⟩
      case round =>
        obtain ⟨j, rfl, hj, rfl, hr⟩ := hrel
        obtain ⟨W4, hW4⟩ : ∃ W, W = wr := ⟨_, rfl⟩
        subst hW4
        have hj3 : j = 0 ∨ j = 1 ∨ j = 2 := by omega
        by_cases hk0 : k = 0
        · -- the first tick: nothing is asked
          have e1 : P = p := by rw [HZ.out.2.2.2.2.1]; unfold joinH; rw [if_neg (by omega)]
          have e2 : R = q := by rw [HZ.out.2.2.2.2.2]; unfold joinH; rw [if_neg (by omega)]
          have HJ4 : Hid (JoinW A Q w W4 r rb x wb P R) := by
            have h := hr.out
            rw [e1, e2] at h
            simp only [ite_self] at h
            rw [Hid, e1, e2]
            exact h
          have hkz : ¬ (0 : Int) < (k : Int) := by omega
          clear hk0
          clear hr e1 e2
          rcases hj3 with rfl | rfl | rfl
          · cases P with
            | false =>
              cases R with
              | false =>
                have HO : Hid (outsC joinC r' = [0]) := HK.out.2.2.1
                obtain ⟨y0, y1⟩ : W4.cell? ⟨wb, 0, none⟩ = some (.bool false) ∧ W4.cell? ⟨wb, 1, none⟩ = some (.bool false) := ⟨cell_row HJ4.out.two 0 rfl, cell_row HJ4.out.two 1 rfl⟩
                have yc := ck_cell HJ4.out.bel HZ.out.2.2.2.1
                have hT := tick_run HJ4.out.run HC.out.run (HK.out.2.2.2.1.below HJ4.out.bel) HK.out.2.2.2.2 HK.out.1
                have HQS : Hid (∀ b, Q b → b < W4.heap.size) := HJ4.out.run.hQ
                go_wp2_with fail
                refine hT.mono ?_
                rintro e w5 ⟨a5, n5, m5, rfl, h5⟩
                clear hT y0 y1 yc
                obtain ⟨hR5, hr5, hf5⟩ := h5.out
                have hO5 := hr5 Q w5 HQS.out (FrQ.refl _ _)
                rw [HO.out] at hO5
                obtain ⟨b5, o5, e5, e6, y2⟩ := nums_row hO5
                subst e5
                subst e6
                have HE : Hid (JoinI (k + 1) r' false false ∧ JoinW A Q w w5 r' rb x wb false false) := ⟨HK.out.2.1, hR5, HJ4.out.two.frq hf5 HQ.out.nw, below_frq HJ4.out.bel hf5 HQ.out.lo HJ4.out.bel.size⟩
                have hi0 := ixN (some ⟨b5, o5, none⟩) b5 o5 1 m5 0 (by omega) (fun _ => rfl)
                clear h5 hR5 hr5 hf5 hO5 HK HJ4 HO HQS
                go_wp2_with fail
                go_roundg (N - (k + 1))
                case measure => omega
                case rel => exact ⟨k + 1, r', false, false, by omega, by omega, by go_num, HE.out⟩
              | true =>
                have HO : Hid (outsC joinC r' = [0]) := HK.out.2.2.1
                obtain ⟨y0, y1⟩ : W4.cell? ⟨wb, 0, none⟩ = some (.bool false) ∧ W4.cell? ⟨wb, 1, none⟩ = some (.bool true) := ⟨cell_row HJ4.out.two 0 rfl, cell_row HJ4.out.two 1 rfl⟩
                have yc := ck_cell HJ4.out.bel HZ.out.2.2.2.1
                have hT := tick_run HJ4.out.run HC.out.run (HK.out.2.2.2.1.below HJ4.out.bel) HK.out.2.2.2.2 HK.out.1
                have HQS : Hid (∀ b, Q b → b < W4.heap.size) := HJ4.out.run.hQ
                go_wp2_with fail
                refine hT.mono ?_
                rintro e w5 ⟨a5, n5, m5, rfl, h5⟩
                clear hT y0 y1 yc
                obtain ⟨hR5, hr5, hf5⟩ := h5.out
                have hO5 := hr5 Q w5 HQS.out (FrQ.refl _ _)
                rw [HO.out] at hO5
                obtain ⟨b5, o5, e5, e6, y2⟩ := nums_row hO5
                subst e5
                subst e6
                have HE : Hid (JoinI (k + 1) r' false true ∧ JoinW A Q w w5 r' rb x wb false true) := ⟨HK.out.2.1, hR5, HJ4.out.two.frq hf5 HQ.out.nw, below_frq HJ4.out.bel hf5 HQ.out.lo HJ4.out.bel.size⟩
                have hi0 := ixN (some ⟨b5, o5, none⟩) b5 o5 1 m5 0 (by omega) (fun _ => rfl)
                clear h5 hR5 hr5 hf5 hO5 HK HJ4 HO HQS
                go_wp2_with fail
                go_roundg (N - (k + 1))
                case measure => omega
                case rel => exact ⟨k + 1, r', false, true, by omega, by omega, by go_num, HE.out⟩
            | true =>
              cases R with
              | false =>
                have HO : Hid (outsC joinC r' = [0]) := HK.out.2.2.1
                obtain ⟨y0, y1⟩ : W4.cell? ⟨wb, 0, none⟩ = some (.bool true) ∧ W4.cell? ⟨wb, 1, none⟩ = some (.bool false) := ⟨cell_row HJ4.out.two 0 rfl, cell_row HJ4.out.two 1 rfl⟩
                have yc := ck_cell HJ4.out.bel HZ.out.2.2.2.1
                have hT := tick_run HJ4.out.run HC.out.run (HK.out.2.2.2.1.below HJ4.out.bel) HK.out.2.2.2.2 HK.out.1
                have HQS : Hid (∀ b, Q b → b < W4.heap.size) := HJ4.out.run.hQ
                go_wp2_with fail
                refine hT.mono ?_
                rintro e w5 ⟨a5, n5, m5, rfl, h5⟩
                clear hT y0 y1 yc
                obtain ⟨hR5, hr5, hf5⟩ := h5.out
                have hO5 := hr5 Q w5 HQS.out (FrQ.refl _ _)
                rw [HO.out] at hO5
                obtain ⟨b5, o5, e5, e6, y2⟩ := nums_row hO5
                subst e5
                subst e6
                have HE : Hid (JoinI (k + 1) r' true false ∧ JoinW A Q w w5 r' rb x wb true false) := ⟨HK.out.2.1, hR5, HJ4.out.two.frq hf5 HQ.out.nw, below_frq HJ4.out.bel hf5 HQ.out.lo HJ4.out.bel.size⟩
                have hi0 := ixN (some ⟨b5, o5, none⟩) b5 o5 1 m5 0 (by omega) (fun _ => rfl)
                clear h5 hR5 hr5 hf5 hO5 HK HJ4 HO HQS
                go_wp2_with fail
                go_roundg (N - (k + 1))
                case measure => omega
                case rel => exact ⟨k + 1, r', true, false, by omega, by omega, by go_num, HE.out⟩
              | true =>
                have HO : Hid (outsC joinC r' = [1]) := HK.out.2.2.1
                obtain ⟨y0, y1⟩ : W4.cell? ⟨wb, 0, none⟩ = some (.bool true) ∧ W4.cell? ⟨wb, 1, none⟩ = some (.bool true) := ⟨cell_row HJ4.out.two 0 rfl, cell_row HJ4.out.two 1 rfl⟩
                have yc := ck_cell HJ4.out.bel HZ.out.2.2.2.1
                have hT := tick_run HJ4.out.run HC.out.run (HK.out.2.2.2.1.below HJ4.out.bel) HK.out.2.2.2.2 HK.out.1
                have HQS : Hid (∀ b, Q b → b < W4.heap.size) := HJ4.out.run.hQ
                go_wp2_with fail
                refine hT.mono ?_
                rintro e w5 ⟨a5, n5, m5, rfl, h5⟩
                clear hT y0 y1 yc
                obtain ⟨hR5, hr5, hf5⟩ := h5.out
                have hO5 := hr5 Q w5 HQS.out (FrQ.refl _ _)
                rw [HO.out] at hO5
                obtain ⟨b5, o5, e5, e6, y2⟩ := nums_row hO5
                subst e5
                subst e6
                have HE : Hid (JoinI (k + 1) r' true true ∧ JoinW A Q w w5 r' rb x wb true true) := ⟨HK.out.2.1, hR5, HJ4.out.two.frq hf5 HQ.out.nw, below_frq HJ4.out.bel hf5 HQ.out.lo HJ4.out.bel.size⟩
                have hi0 := ixN (some ⟨b5, o5, none⟩) b5 o5 1 m5 0 (by omega) (fun _ => rfl)
                clear h5 hR5 hr5 hf5 hO5 HK HJ4 HO HQS
                go_wp2_with fail
                go_roundg (N - (k + 1))
                case measure => omega
                case rel => exact ⟨k + 1, r', true, true, by omega, by omega, by go_num, HE.out⟩
          · cases P with
            | false =>
              cases R with
              | false =>
                have HO : Hid (outsC joinC r' = [0]) := HK.out.2.2.1
                obtain ⟨y0, y1⟩ : W4.cell? ⟨wb, 0, none⟩ = some (.bool false) ∧ W4.cell? ⟨wb, 1, none⟩ = some (.bool false) := ⟨cell_row HJ4.out.two 0 rfl, cell_row HJ4.out.two 1 rfl⟩
                have yc := ck_cell HJ4.out.bel HZ.out.2.2.2.1
                have hT := tick_run HJ4.out.run HC.out.run (HK.out.2.2.2.1.below HJ4.out.bel) HK.out.2.2.2.2 HK.out.1
                have HQS : Hid (∀ b, Q b → b < W4.heap.size) := HJ4.out.run.hQ
                go_wp2_with fail
                refine hT.mono ?_
                rintro e w5 ⟨a5, n5, m5, rfl, h5⟩
                clear hT y0 y1 yc
                obtain ⟨hR5, hr5, hf5⟩ := h5.out
                have hO5 := hr5 Q w5 HQS.out (FrQ.refl _ _)
                rw [HO.out] at hO5
                obtain ⟨b5, o5, e5, e6, y2⟩ := nums_row hO5
                subst e5
                subst e6
                have HE : Hid (JoinI (k + 1) r' false false ∧ JoinW A Q w w5 r' rb x wb false false) := ⟨HK.out.2.1, hR5, HJ4.out.two.frq hf5 HQ.out.nw, below_frq HJ4.out.bel hf5 HQ.out.lo HJ4.out.bel.size⟩
                have hi0 := ixN (some ⟨b5, o5, none⟩) b5 o5 1 m5 0 (by omega) (fun _ => rfl)
                clear h5 hR5 hr5 hf5 hO5 HK HJ4 HO HQS
                go_wp2_with fail
                go_roundg (N - (k + 1))
                case measure => omega
                case rel => exact ⟨k + 1, r', false, false, by omega, by omega, by go_num, HE.out⟩
              | true =>
                have HO : Hid (outsC joinC r' = [0]) := HK.out.2.2.1
                obtain ⟨y0, y1⟩ : W4.cell? ⟨wb, 0, none⟩ = some (.bool false) ∧ W4.cell? ⟨wb, 1, none⟩ = some (.bool true) := ⟨cell_row HJ4.out.two 0 rfl, cell_row HJ4.out.two 1 rfl⟩
                have yc := ck_cell HJ4.out.bel HZ.out.2.2.2.1
                have hT := tick_run HJ4.out.run HC.out.run (HK.out.2.2.2.1.below HJ4.out.bel) HK.out.2.2.2.2 HK.out.1
                have HQS : Hid (∀ b, Q b → b < W4.heap.size) := HJ4.out.run.hQ
                go_wp2_with fail
                refine hT.mono ?_
                rintro e w5 ⟨a5, n5, m5, rfl, h5⟩
                clear hT y0 y1 yc
                obtain ⟨hR5, hr5, hf5⟩ := h5.out
                have hO5 := hr5 Q w5 HQS.out (FrQ.refl _ _)
                rw [HO.out] at hO5
                obtain ⟨b5, o5, e5, e6, y2⟩ := nums_row hO5
                subst e5
                subst e6
                have HE : Hid (JoinI (k + 1) r' false true ∧ JoinW A Q w w5 r' rb x wb false true) := ⟨HK.out.2.1, hR5, HJ4.out.two.frq hf5 HQ.out.nw, below_frq HJ4.out.bel hf5 HQ.out.lo HJ4.out.bel.size⟩
                have hi0 := ixN (some ⟨b5, o5, none⟩) b5 o5 1 m5 0 (by omega) (fun _ => rfl)
                clear h5 hR5 hr5 hf5 hO5 HK HJ4 HO HQS
                go_wp2_with fail
                go_roundg (N - (k + 1))
                case measure => omega
                case rel => exact ⟨k + 1, r', false, true, by omega, by omega, by go_num, HE.out⟩
            | true =>
              cases R with
              | false =>
                have HO : Hid (outsC joinC r' = [0]) := HK.out.2.2.1
                obtain ⟨y0, y1⟩ : W4.cell? ⟨wb, 0, none⟩ = some (.bool true) ∧ W4.cell? ⟨wb, 1, none⟩ = some (.bool false) := ⟨cell_row HJ4.out.two 0 rfl, cell_row HJ4.out.two 1 rfl⟩
                have yc := ck_cell HJ4.out.bel HZ.out.2.2.2.1
                have hT := tick_run HJ4.out.run HC.out.run (HK.out.2.2.2.1.below HJ4.out.bel) HK.out.2.2.2.2 HK.out.1
                have HQS : Hid (∀ b, Q b → b < W4.heap.size) := HJ4.out.run.hQ
                go_wp2_with fail
                refine hT.mono ?_
                rintro e w5 ⟨a5, n5, m5, rfl, h5⟩
                clear hT y0 y1 yc
                obtain ⟨hR5, hr5, hf5⟩ := h5.out
                have hO5 := hr5 Q w5 HQS.out (FrQ.refl _ _)
                rw [HO.out] at hO5
                obtain ⟨b5, o5, e5, e6, y2⟩ := nums_row hO5
                subst e5
                subst e6
                have HE : Hid (JoinI (k + 1) r' true false ∧ JoinW A Q w w5 r' rb x wb true false) := ⟨HK.out.2.1, hR5, HJ4.out.two.frq hf5 HQ.out.nw, below_frq HJ4.out.bel hf5 HQ.out.lo HJ4.out.bel.size⟩
                have hi0 := ixN (some ⟨b5, o5, none⟩) b5 o5 1 m5 0 (by omega) (fun _ => rfl)
                clear h5 hR5 hr5 hf5 hO5 HK HJ4 HO HQS
                go_wp2_with fail
                go_roundg (N - (k + 1))
                case measure => omega
                case rel => exact ⟨k + 1, r', true, false, by omega, by omega, by go_num, HE.out⟩
              | true =>
                have HO : Hid (outsC joinC r' = [1]) := HK.out.2.2.1
                obtain ⟨y0, y1⟩ : W4.cell? ⟨wb, 0, none⟩ = some (.bool true) ∧ W4.cell? ⟨wb, 1, none⟩ = some (.bool true) := ⟨cell_row HJ4.out.two 0 rfl, cell_row HJ4.out.two 1 rfl⟩
                have yc := ck_cell HJ4.out.bel HZ.out.2.2.2.1
                have hT := tick_run HJ4.out.run HC.out.run (HK.out.2.2.2.1.below HJ4.out.bel) HK.out.2.2.2.2 HK.out.1
                have HQS : Hid (∀ b, Q b → b < W4.heap.size) := HJ4.out.run.hQ
                go_wp2_with fail
                refine hT.mono ?_
                rintro e w5 ⟨a5, n5, m5, rfl, h5⟩
                clear hT y0 y1 yc
                obtain ⟨hR5, hr5, hf5⟩ := h5.out
                have hO5 := hr5 Q w5 HQS.out (FrQ.refl _ _)
                rw [HO.out] at hO5
                obtain ⟨b5, o5, e5, e6, y2⟩ := nums_row hO5
                subst e5
                subst e6
                have HE : Hid (JoinI (k + 1) r' true true ∧ JoinW A Q w w5 r' rb x wb true true) := ⟨HK.out.2.1, hR5, HJ4.out.two.frq hf5 HQ.out.nw, below_frq HJ4.out.bel hf5 HQ.out.lo HJ4.out.bel.size⟩
                have hi0 := ixN (some ⟨b5, o5, none⟩) b5 o5 1 m5 0 (by omega) (fun _ => rfl)
                clear h5 hR5 hr5 hf5 hO5 HK HJ4 HO HQS
                go_wp2_with fail
                go_roundg (N - (k + 1))
                case measure => omega
                case rel => exact ⟨k + 1, r', true, true, by omega, by omega, by go_num, HE.out⟩
          · cases P with
            | false =>
              cases R with
              | false =>
                have HO : Hid (outsC joinC r' = [0]) := HK.out.2.2.1
                obtain ⟨y0, y1⟩ : W4.cell? ⟨wb, 0, none⟩ = some (.bool false) ∧ W4.cell? ⟨wb, 1, none⟩ = some (.bool false) := ⟨cell_row HJ4.out.two 0 rfl, cell_row HJ4.out.two 1 rfl⟩
                have yc := ck_cell HJ4.out.bel HZ.out.2.2.2.1
                have hT := tick_run HJ4.out.run HC.out.run (HK.out.2.2.2.1.below HJ4.out.bel) HK.out.2.2.2.2 HK.out.1
                have HQS : Hid (∀ b, Q b → b < W4.heap.size) := HJ4.out.run.hQ
                go_wp2_with fail
                refine hT.mono ?_
                rintro e w5 ⟨a5, n5, m5, rfl, h5⟩
                clear hT y0 y1 yc
                obtain ⟨hR5, hr5, hf5⟩ := h5.out
                have hO5 := hr5 Q w5 HQS.out (FrQ.refl _ _)
                rw [HO.out] at hO5
                obtain ⟨b5, o5, e5, e6, y2⟩ := nums_row hO5
                subst e5
                subst e6
                have HE : Hid (JoinI (k + 1) r' false false ∧ JoinW A Q w w5 r' rb x wb false false) := ⟨HK.out.2.1, hR5, HJ4.out.two.frq hf5 HQ.out.nw, below_frq HJ4.out.bel hf5 HQ.out.lo HJ4.out.bel.size⟩
                have hi0 := ixN (some ⟨b5, o5, none⟩) b5 o5 1 m5 0 (by omega) (fun _ => rfl)
                clear h5 hR5 hr5 hf5 hO5 HK HJ4 HO HQS
                go_wp2_with fail
                go_roundg (N - (k + 1))
                case measure => omega
                case rel => exact ⟨k + 1, r', false, false, by omega, by omega, by go_num, HE.out⟩
              | true =>
                have HO : Hid (outsC joinC r' = [0]) := HK.out.2.2.1
                obtain ⟨y0, y1⟩ : W4.cell? ⟨wb, 0, none⟩ = some (.bool false) ∧ W4.cell? ⟨wb, 1, none⟩ = some (.bool true) := ⟨cell_row HJ4.out.two 0 rfl, cell_row HJ4.out.two 1 rfl⟩
                have yc := ck_cell HJ4.out.bel HZ.out.2.2.2.1
                have hT := tick_run HJ4.out.run HC.out.run (HK.out.2.2.2.1.below HJ4.out.bel) HK.out.2.2.2.2 HK.out.1
                have HQS : Hid (∀ b, Q b → b < W4.heap.size) := HJ4.out.run.hQ
                go_wp2_with fail
                refine hT.mono ?_
                rintro e w5 ⟨a5, n5, m5, rfl, h5⟩
                clear hT y0 y1 yc
                obtain ⟨hR5, hr5, hf5⟩ := h5.out
                have hO5 := hr5 Q w5 HQS.out (FrQ.refl _ _)
                rw [HO.out] at hO5
                obtain ⟨b5, o5, e5, e6, y2⟩ := nums_row hO5
                subst e5
                subst e6
                have HE : Hid (JoinI (k + 1) r' false true ∧ JoinW A Q w w5 r' rb x wb false true) := ⟨HK.out.2.1, hR5, HJ4.out.two.frq hf5 HQ.out.nw, below_frq HJ4.out.bel hf5 HQ.out.lo HJ4.out.bel.size⟩
                have hi0 := ixN (some ⟨b5, o5, none⟩) b5 o5 1 m5 0 (by omega) (fun _ => rfl)
                clear h5 hR5 hr5 hf5 hO5 HK HJ4 HO HQS
                go_wp2_with fail
                go_roundg (N - (k + 1))
                case measure => omega
                case rel => exact ⟨k + 1, r', false, true, by omega, by omega, by go_num, HE.out⟩
            | true =>
              cases R with
              | false =>
                have HO : Hid (outsC joinC r' = [0]) := HK.out.2.2.1
                obtain ⟨y0, y1⟩ : W4.cell? ⟨wb, 0, none⟩ = some (.bool true) ∧ W4.cell? ⟨wb, 1, none⟩ = some (.bool false) := ⟨cell_row HJ4.out.two 0 rfl, cell_row HJ4.out.two 1 rfl⟩
                have yc := ck_cell HJ4.out.bel HZ.out.2.2.2.1
                have hT := tick_run HJ4.out.run HC.out.run (HK.out.2.2.2.1.below HJ4.out.bel) HK.out.2.2.2.2 HK.out.1
                have HQS : Hid (∀ b, Q b → b < W4.heap.size) := HJ4.out.run.hQ
                go_wp2_with fail
                refine hT.mono ?_
                rintro e w5 ⟨a5, n5, m5, rfl, h5⟩
                clear hT y0 y1 yc
                obtain ⟨hR5, hr5, hf5⟩ := h5.out
                have hO5 := hr5 Q w5 HQS.out (FrQ.refl _ _)
                rw [HO.out] at hO5
                obtain ⟨b5, o5, e5, e6, y2⟩ := nums_row hO5
                subst e5
                subst e6
                have HE : Hid (JoinI (k + 1) r' true false ∧ JoinW A Q w w5 r' rb x wb true false) := ⟨HK.out.2.1, hR5, HJ4.out.two.frq hf5 HQ.out.nw, below_frq HJ4.out.bel hf5 HQ.out.lo HJ4.out.bel.size⟩
                have hi0 := ixN (some ⟨b5, o5, none⟩) b5 o5 1 m5 0 (by omega) (fun _ => rfl)
                clear h5 hR5 hr5 hf5 hO5 HK HJ4 HO HQS
                go_wp2_with fail
                go_roundg (N - (k + 1))
                case measure => omega
                case rel => exact ⟨k + 1, r', true, false, by omega, by omega, by go_num, HE.out⟩
              | true =>
                have HO : Hid (outsC joinC r' = [1]) := HK.out.2.2.1
                obtain ⟨y0, y1⟩ : W4.cell? ⟨wb, 0, none⟩ = some (.bool true) ∧ W4.cell? ⟨wb, 1, none⟩ = some (.bool true) := ⟨cell_row HJ4.out.two 0 rfl, cell_row HJ4.out.two 1 rfl⟩
                have yc := ck_cell HJ4.out.bel HZ.out.2.2.2.1
                have hT := tick_run HJ4.out.run HC.out.run (HK.out.2.2.2.1.below HJ4.out.bel) HK.out.2.2.2.2 HK.out.1
                have HQS : Hid (∀ b, Q b → b < W4.heap.size) := HJ4.out.run.hQ
                go_wp2_with fail
                refine hT.mono ?_
                rintro e w5 ⟨a5, n5, m5, rfl, h5⟩
                clear hT y0 y1 yc
                obtain ⟨hR5, hr5, hf5⟩ := h5.out
                have hO5 := hr5 Q w5 HQS.out (FrQ.refl _ _)
                rw [HO.out] at hO5
                obtain ⟨b5, o5, e5, e6, y2⟩ := nums_row hO5
                subst e5
                subst e6
                have HE : Hid (JoinI (k + 1) r' true true ∧ JoinW A Q w w5 r' rb x wb true true) := ⟨HK.out.2.1, hR5, HJ4.out.two.frq hf5 HQ.out.nw, below_frq HJ4.out.bel hf5 HQ.out.lo HJ4.out.bel.size⟩
                have hi0 := ixN (some ⟨b5, o5, none⟩) b5 o5 1 m5 0 (by omega) (fun _ => rfl)
                clear h5 hR5 hr5 hf5 hO5 HK HJ4 HO HQS
                go_wp2_with fail
                go_roundg (N - (k + 1))
                case measure => omega
                case rel => exact ⟨k + 1, r', true, true, by omega, by omega, by go_num, HE.out⟩
        · have hk1 : (0 : Int) < (k : Int) := by omega
          rcases hj3 with rfl | rfl | rfl
          · have HJ4 : Hid (JoinW A Q w W4 r rb x wb p q) := hr.out
            have yc := ck_cell HJ4.out.bel HZ.out.2.2.2.1
            have yo : W4.cell? ⟨wb, 0, none⟩ = some (.bool p) := cell_row HJ4.out.two 0 rfl
            have yf : W4.frozen? ⟨wb, 0, none⟩ = false := ck_frozen HJ4.out.two 0
            have HPE : Hid (P = (p || hitB (zs.getD 0 0))) := by rw [Hid, HZ.out.2.2.2.2.1]; unfold joinH; rw [if_pos (by omega)]
            clear hr
            cases p with
            | true =>
              have HE : Hid (JoinW A Q w (W4.setCell ⟨wb, 0, none⟩ (.bool true)) r rb x wb P q) := by
                have h := HJ4.out.put0 HQ.out true
                rw [show P = true from by rw [HPE.out]; rfl]
                exact h
              clear HJ4 HPE
              go_wp2_with fail
              go_roundg (2 - (0 + 1))
              case measure => omega
              case rel => exact ⟨0 + 1, by omega, by omega, by go_num, HE.out⟩
            | false =>
              by_cases hzl : 0 < zl
              · have yz : W4.cell? ⟨zb, zo, none⟩ = some (.int .i64 (zs.getD 0 0)) := ck_cell HJ4.out.bel (HZ.out.2.2.1 0 hzl)
                obtain ⟨X, hX⟩ : ∃ X, X = zs.getD 0 0 := ⟨_, rfl⟩
                rw [← hX] at yz
                have hixz : ∀ w : World, (Instr.indexAt 36 (.slice ia zl icp) (.int .i64 0)).run Tryz.prog w = .ok (.pointer (some ⟨zb, zo, none⟩)) w := ixN ia zb zo zl icp 0 hzl HZ.out.2.1
                have hzl' : (0 : Int) < (zl : Int) := by omega
                by_cases hX0 : X = 0
                · have HE : Hid (JoinW A Q w (W4.setCell ⟨wb, 0, none⟩ (.bool false)) r rb x wb P q) := by
                    have h := HJ4.out.put0 HQ.out false
                    rw [show P = false from by rw [HPE.out, ← hX, hX0]; rfl]
                    exact h
                  subst hX0
                  clear HJ4 HPE hX
                  go_wp2_with fail
                  go_roundg (2 - (0 + 1))
                  case measure => omega
                  case rel => exact ⟨0 + 1, by omega, by omega, by go_num, HE.out⟩
                · have hXb : (X != 0) = true := by simp [hX0]
                  have HE : Hid (JoinW A Q w (W4.setCell ⟨wb, 0, none⟩ (.bool true)) r rb x wb P q) := by
                    have h := HJ4.out.put0 HQ.out true
                    rw [show P = true from by rw [HPE.out, ← hX]; exact decide_eq_true hX0]
                    exact h
                  clear HJ4 HPE hX
                  go_wp2_with fail
                  go_roundg (2 - (0 + 1))
                  case measure => omega
                  case rel => exact ⟨0 + 1, by omega, by omega, by go_num, HE.out⟩
              · have HE : Hid (JoinW A Q w (W4.setCell ⟨wb, 0, none⟩ (.bool false)) r rb x wb P q) := by
                  have h := HJ4.out.put0 HQ.out false
                  rw [show P = false from by rw [HPE.out, List.getD_eq_getElem?_getD, List.getElem?_eq_none (by rw [← HZ.out.1]; omega)]; rfl]
                  exact h
                have hzl' : (zl : Int) ≤ 0 := by omega
                clear HJ4 HPE
                go_wp2_with fail
                go_roundg (2 - (0 + 1))
                case measure => omega
                case rel => exact ⟨0 + 1, by omega, by omega, by go_num, HE.out⟩
          · have HJ4 : Hid (JoinW A Q w W4 r rb x wb P q) := hr.out
            have yc := ck_cell HJ4.out.bel HZ.out.2.2.2.1
            have yo : W4.cell? ⟨wb, 1, none⟩ = some (.bool q) := cell_row HJ4.out.two 1 rfl
            have yf : W4.frozen? ⟨wb, 1, none⟩ = false := ck_frozen HJ4.out.two 1
            have HPE : Hid (R = (q || hitB (zs.getD 1 0))) := by rw [Hid, HZ.out.2.2.2.2.2]; unfold joinH; rw [if_pos (by omega)]
            clear hr
            cases q with
            | true =>
              have HE : Hid (JoinW A Q w (W4.setCell ⟨wb, 1, none⟩ (.bool true)) r rb x wb P R) := by
                have h := HJ4.out.put1 HQ.out true
                rw [show R = true from by rw [HPE.out]; rfl]
                exact h
              clear HJ4 HPE
              go_wp2_with fail
              go_roundg (2 - (1 + 1))
              case measure => omega
              case rel => exact ⟨1 + 1, by omega, by omega, by go_num, HE.out⟩
            | false =>
              by_cases hzl : 1 < zl
              · have yz : W4.cell? ⟨zb, zo + 1, none⟩ = some (.int .i64 (zs.getD 1 0)) := ck_cell HJ4.out.bel (HZ.out.2.2.1 1 hzl)
                obtain ⟨X, hX⟩ : ∃ X, X = zs.getD 1 0 := ⟨_, rfl⟩
                rw [← hX] at yz
                have hixz : ∀ w : World, (Instr.indexAt 36 (.slice ia zl icp) (.int .i64 1)).run Tryz.prog w = .ok (.pointer (some ⟨zb, zo + 1, none⟩)) w := ixN ia zb zo zl icp 1 hzl HZ.out.2.1
                have hzl' : (1 : Int) < (zl : Int) := by omega
                by_cases hX0 : X = 0
                · have HE : Hid (JoinW A Q w (W4.setCell ⟨wb, 1, none⟩ (.bool false)) r rb x wb P R) := by
                    have h := HJ4.out.put1 HQ.out false
                    rw [show R = false from by rw [HPE.out, ← hX, hX0]; rfl]
                    exact h
                  subst hX0
                  clear HJ4 HPE hX
                  go_wp2_with fail
                  go_roundg (2 - (1 + 1))
                  case measure => omega
                  case rel => exact ⟨1 + 1, by omega, by omega, by go_num, HE.out⟩
                · have hXb : (X != 0) = true := by simp [hX0]
                  have HE : Hid (JoinW A Q w (W4.setCell ⟨wb, 1, none⟩ (.bool true)) r rb x wb P R) := by
                    have h := HJ4.out.put1 HQ.out true
                    rw [show R = true from by rw [HPE.out, ← hX]; exact decide_eq_true hX0]
                    exact h
                  clear HJ4 HPE hX
                  go_wp2_with fail
                  go_roundg (2 - (1 + 1))
                  case measure => omega
                  case rel => exact ⟨1 + 1, by omega, by omega, by go_num, HE.out⟩
              · have HE : Hid (JoinW A Q w (W4.setCell ⟨wb, 1, none⟩ (.bool false)) r rb x wb P R) := by
                  have h := HJ4.out.put1 HQ.out false
                  rw [show R = false from by rw [HPE.out, List.getD_eq_getElem?_getD, List.getElem?_eq_none (by rw [← HZ.out.1]; omega)]; rfl]
                  exact h
                have hzl' : (zl : Int) ≤ 1 := by omega
                clear HJ4 HPE
                go_wp2_with fail
                go_roundg (2 - (1 + 1))
                case measure => omega
                case rel => exact ⟨1 + 1, by omega, by omega, by go_num, HE.out⟩
          · have HJ4 : Hid (JoinW A Q w W4 r rb x wb P R) := hr.out
            clear hr
            cases P with
            | false =>
              cases R with
              | false =>
                have HO : Hid (outsC joinC r' = [0]) := HK.out.2.2.1
                obtain ⟨y0, y1⟩ : W4.cell? ⟨wb, 0, none⟩ = some (.bool false) ∧ W4.cell? ⟨wb, 1, none⟩ = some (.bool false) := ⟨cell_row HJ4.out.two 0 rfl, cell_row HJ4.out.two 1 rfl⟩
                have yc := ck_cell HJ4.out.bel HZ.out.2.2.2.1
                have hT := tick_run HJ4.out.run HC.out.run (HK.out.2.2.2.1.below HJ4.out.bel) HK.out.2.2.2.2 HK.out.1
                have HQS : Hid (∀ b, Q b → b < W4.heap.size) := HJ4.out.run.hQ
                go_wp2_with fail
                refine hT.mono ?_
                rintro e w5 ⟨a5, n5, m5, rfl, h5⟩
                clear hT y0 y1 yc
                obtain ⟨hR5, hr5, hf5⟩ := h5.out
                have hO5 := hr5 Q w5 HQS.out (FrQ.refl _ _)
                rw [HO.out] at hO5
                obtain ⟨b5, o5, e5, e6, y2⟩ := nums_row hO5
                subst e5
                subst e6
                have HE : Hid (JoinI (k + 1) r' false false ∧ JoinW A Q w w5 r' rb x wb false false) := ⟨HK.out.2.1, hR5, HJ4.out.two.frq hf5 HQ.out.nw, below_frq HJ4.out.bel hf5 HQ.out.lo HJ4.out.bel.size⟩
                have hi0 := ixN (some ⟨b5, o5, none⟩) b5 o5 1 m5 0 (by omega) (fun _ => rfl)
                clear h5 hR5 hr5 hf5 hO5 HK HJ4 HO HQS
                go_wp2_with fail
                go_roundg (N - (k + 1))
                case measure => omega
                case rel => exact ⟨k + 1, r', false, false, by omega, by omega, by go_num, HE.out⟩
              | true =>
                have HO : Hid (outsC joinC r' = [0]) := HK.out.2.2.1
                obtain ⟨y0, y1⟩ : W4.cell? ⟨wb, 0, none⟩ = some (.bool false) ∧ W4.cell? ⟨wb, 1, none⟩ = some (.bool true) := ⟨cell_row HJ4.out.two 0 rfl, cell_row HJ4.out.two 1 rfl⟩
                have yc := ck_cell HJ4.out.bel HZ.out.2.2.2.1
                have hT := tick_run HJ4.out.run HC.out.run (HK.out.2.2.2.1.below HJ4.out.bel) HK.out.2.2.2.2 HK.out.1
                have HQS : Hid (∀ b, Q b → b < W4.heap.size) := HJ4.out.run.hQ
                go_wp2_with fail
                refine hT.mono ?_
                rintro e w5 ⟨a5, n5, m5, rfl, h5⟩
                clear hT y0 y1 yc
                obtain ⟨hR5, hr5, hf5⟩ := h5.out
                have hO5 := hr5 Q w5 HQS.out (FrQ.refl _ _)
                rw [HO.out] at hO5
                obtain ⟨b5, o5, e5, e6, y2⟩ := nums_row hO5
                subst e5
                subst e6
                have HE : Hid (JoinI (k + 1) r' false true ∧ JoinW A Q w w5 r' rb x wb false true) := ⟨HK.out.2.1, hR5, HJ4.out.two.frq hf5 HQ.out.nw, below_frq HJ4.out.bel hf5 HQ.out.lo HJ4.out.bel.size⟩
                have hi0 := ixN (some ⟨b5, o5, none⟩) b5 o5 1 m5 0 (by omega) (fun _ => rfl)
                clear h5 hR5 hr5 hf5 hO5 HK HJ4 HO HQS
                go_wp2_with fail
                go_roundg (N - (k + 1))
                case measure => omega
                case rel => exact ⟨k + 1, r', false, true, by omega, by omega, by go_num, HE.out⟩
            | true =>
              cases R with
              | false =>
                have HO : Hid (outsC joinC r' = [0]) := HK.out.2.2.1
                obtain ⟨y0, y1⟩ : W4.cell? ⟨wb, 0, none⟩ = some (.bool true) ∧ W4.cell? ⟨wb, 1, none⟩ = some (.bool false) := ⟨cell_row HJ4.out.two 0 rfl, cell_row HJ4.out.two 1 rfl⟩
                have yc := ck_cell HJ4.out.bel HZ.out.2.2.2.1
                have hT := tick_run HJ4.out.run HC.out.run (HK.out.2.2.2.1.below HJ4.out.bel) HK.out.2.2.2.2 HK.out.1
                have HQS : Hid (∀ b, Q b → b < W4.heap.size) := HJ4.out.run.hQ
                go_wp2_with fail
                refine hT.mono ?_
                rintro e w5 ⟨a5, n5, m5, rfl, h5⟩
                clear hT y0 y1 yc
                obtain ⟨hR5, hr5, hf5⟩ := h5.out
                have hO5 := hr5 Q w5 HQS.out (FrQ.refl _ _)
                rw [HO.out] at hO5
                obtain ⟨b5, o5, e5, e6, y2⟩ := nums_row hO5
                subst e5
                subst e6
                have HE : Hid (JoinI (k + 1) r' true false ∧ JoinW A Q w w5 r' rb x wb true false) := ⟨HK.out.2.1, hR5, HJ4.out.two.frq hf5 HQ.out.nw, below_frq HJ4.out.bel hf5 HQ.out.lo HJ4.out.bel.size⟩
                have hi0 := ixN (some ⟨b5, o5, none⟩) b5 o5 1 m5 0 (by omega) (fun _ => rfl)
                clear h5 hR5 hr5 hf5 hO5 HK HJ4 HO HQS
                go_wp2_with fail
                go_roundg (N - (k + 1))
                case measure => omega
                case rel => exact ⟨k + 1, r', true, false, by omega, by omega, by go_num, HE.out⟩
              | true =>
                have HO : Hid (outsC joinC r' = [1]) := HK.out.2.2.1
                obtain ⟨y0, y1⟩ : W4.cell? ⟨wb, 0, none⟩ = some (.bool true) ∧ W4.cell? ⟨wb, 1, none⟩ = some (.bool true) := ⟨cell_row HJ4.out.two 0 rfl, cell_row HJ4.out.two 1 rfl⟩
                have yc := ck_cell HJ4.out.bel HZ.out.2.2.2.1
                have hT := tick_run HJ4.out.run HC.out.run (HK.out.2.2.2.1.below HJ4.out.bel) HK.out.2.2.2.2 HK.out.1
                have HQS : Hid (∀ b, Q b → b < W4.heap.size) := HJ4.out.run.hQ
                go_wp2_with fail
                refine hT.mono ?_
                rintro e w5 ⟨a5, n5, m5, rfl, h5⟩
                clear hT y0 y1 yc
                obtain ⟨hR5, hr5, hf5⟩ := h5.out
                have hO5 := hr5 Q w5 HQS.out (FrQ.refl _ _)
                rw [HO.out] at hO5
                obtain ⟨b5, o5, e5, e6, y2⟩ := nums_row hO5
                subst e5
                subst e6
                have HE : Hid (JoinI (k + 1) r' true true ∧ JoinW A Q w w5 r' rb x wb true true) := ⟨HK.out.2.1, hR5, HJ4.out.two.frq hf5 HQ.out.nw, below_frq HJ4.out.bel hf5 HQ.out.lo HJ4.out.bel.size⟩
                have hi0 := ixN (some ⟨b5, o5, none⟩) b5 o5 1 m5 0 (by omega) (fun _ => rfl)
                clear h5 hR5 hr5 hf5 hO5 HK HJ4 HO HQS
                go_wp2_with fail
                go_roundg (N - (k + 1))
                case measure => omega
                case rel => exact ⟨k + 1, r', true, true, by omega, by omega, by go_num, HE.out⟩
    · obtain rfl : k = N := by omega
      have HB : Hid (Below w.heap.size w W) := hr.out.2.bel
      clear hr
      go_wp2_with fail
      go_ret
      exact ⟨rfl, HB.out⟩
set_option maxHeartbeats 2000000 in
theorem runJoins_many {w : World} {iv : Value} {zss : List (List Int)} (hI : IRws w iv zss) (h : ¬ Few zss) :
    Calls Tryz.prog 8 #[iv] w fun e w' => e = .returned (.bool true) ∧ Hid (Below w.heap.size w w') := by
  have hf := few_no hI h
  obtain ⟨iad, ib, io, ic, rfl, _⟩ := hI
  go_enter Tryz.func8, Tryz.ntmps8
  go_wp2_with fail
  refine hf.mono ?_
  rintro e w0 ⟨rfl, hw0⟩
  obtain rfl := hw0.symm
  clear hf
  go_wp2_with fail
  go_ret
  exact ⟨rfl, Below.refl _ _⟩
theorem runJoins_any {w : World} {iv : Value} {zss : List (List Int)} (hv : KEnv0 w) (hI : IRws w iv zss) (h64 : ∀ zs ∈ zss, ∀ y ∈ zs, N64 y) :
    Calls Tryz.prog 8 #[iv] w fun e w' => e = .returned (.bool true) ∧ Hid (Below w.heap.size w w') := by
  by_cases hf : Few zss
  · exact runJoins_fine hv hI hf h64
  · exact runJoins_many hI hf
end Kx
end Go.Proofs.YtecbilopliblpaaGreatDoor
