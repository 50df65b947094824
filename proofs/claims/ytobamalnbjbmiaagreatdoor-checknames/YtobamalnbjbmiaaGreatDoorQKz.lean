/- CheckNames, of whatever text, out of what keep's renamed hands back. -/
import Derived.Test.YtobamalnbjbmiaaGreatDoorQKp
import Derived.Test.YtobamalnbjbmiaaGreatDoorQKl
namespace Go.Proofs.YtobamalnbjbmiaaGreatDoor
open Go.RowKit Px
namespace Kx
/-- renamed's contract -/
def RenOk (k : Nat) : Prop := ∀ (A : Nat → Prop) (w : World) (L : List (List (St k))) (v : Value), IsRegs A w (IsStates A w k) L v → (∀ r ∈ L, ∀ x ∈ r, Sh.TSt k x) → Sh.sumW (Sh.wR (Sh.wSt k)) L ≤ 601 →
  Calls Tryz.prog 15 #[v] w fun e w' => ∃ a n m, e = .returned (.slice a n m) ∧ Hid (IsRegs (fun b => A b ∨ w.heap.size ≤ b) w' (IsStates (fun b => A b ∨ w.heap.size ≤ b) w' k) (L.map (renR k)) (.slice a n m) ∧ Below w.heap.size w w')
theorem chartLow {A : Nat → Prop} {c : Chart} {w : World} {v : Value} (h : IsChart A w c v) : IsChart (fun b => b < w.heap.size) w c v := by
  have kp : Keep A (fun b => b < w.heap.size) w w := fun b _ hlt => ⟨hlt, rfl⟩
  obtain ⟨a, n, m, a2, n2, m2, rfl, hv, hr⟩ := h
  exact ⟨a, n, m, a2, n2, m2, rfl, hv.carry kp, hr.carry kp (IsStates.carry kp 6)⟩
theorem chartKeep {A A' : Nat → Prop} {c : Chart} {w w' : World} {v : Value} (h : IsChart A w c v) (kp : Keep A A' w w') : IsChart A' w' c v := by
  obtain ⟨a, n, m, a2, n2, m2, rfl, hv, hr⟩ := h
  exact ⟨a, n, m, a2, n2, m2, rfl, hv.carry kp, hr.carry kp (IsStates.carry kp 6)⟩
set_option maxRecDepth 100000 in
set_option maxHeartbeats 4000000 in
theorem checkNames_drawn (hren : RenOk 6) {s : ByteArray} {l : List Lx.Tok} {c : Chart} {w : World} (hs : s.size ≤ 1500) (hv : KEnv w) (hok : Lx.Ok (bs s) l) (hch : chart (fin s l) = .ok c) :
    Calls Tryz.prog 3 #[.string s] w fun e w' => e = .returned (.bool true) ∧ Below w.heap.size w w' := by
  have hj := judged_any hv
  have HV : Hid (KEnv w) := hv
  have HN : Hid (NmChart c ∧ NmChart (renC c) ∧ (∀ r ∈ c.regions, ∀ x ∈ r, Sh.TSt 6 x) ∧ Sh.sumW (Sh.wR (Sh.wSt 6)) c.regions ≤ 601) := ⟨nmChart (wf_ok hok) hch, nmChart_ren (wf_ok hok) hch, (Sh.chart_w (wf_ok hok) hch).2.1, by have := (Sh.chart_w (wf_ok hok) hch).2.2; omega⟩
  have HP : Hid (∀ W, Below w.heap.size w W → Calls Tryz.prog 13 #[.string s] W fun e w' => ∃ S a n m a' n' m', e = .returned (.tuple #[.agg #[.string S, .slice a n m, .slice a' n' m'], .nilIface]) ∧ Hid (IsChart (fun _ => True) w' c (.agg #[.string S, .slice a n m, .slice a' n' m']) ∧ Below W.heap.size W w')) := fun W hb => parseAt hs (HV.out.up hb) hok hch
  have HR : Hid (RenOk 6) := hren
  have hs1 : ¬ (1500 : Int) < (s.size : Int) := by omega
  clear hs hok hch hv hren
  go_enter Tryz.func3, Tryz.ntmps3
  go_wp2_with fail
  refine hj.mono ?_
  rintro e w1 ⟨rfl, hb1⟩
  have hp := HP.out w1 hb1.out
  clear hj
  go_wp2_with fail
  refine hp.mono ?_
  rintro e w2 ⟨S, a, n, m, a', n', m', rfl, h2⟩
  obtain ⟨q, hq⟩ : ∃ q, q = w2.heap.size := ⟨_, rfl⟩
  obtain ⟨W2, hW2⟩ : ∃ W2, W2 = w2.alloc (.cells #[.string S, .slice a n m, .slice a' n' m'] 26) := ⟨_, rfl⟩
  have hg2 : Below w2.heap.size w2 W2 := by rw [hW2]; exact ck_grown _ _
  have HB2 : Hid (Below w.heap.size w W2 ∧ IsChart (fun b => b < W2.heap.size) W2 c (.agg #[.string S, .slice a n m, .slice a' n' m']) ∧ W2.heap[q]? = some (.cells #[.string S, .slice a n m, .slice a' n' m'] 26 (0, 0))) := ⟨ck_all (ck_all hb1.out h2.out.2) hg2, chartLow (chartUp h2.out.1 hg2), by rw [hW2, hq]; exact ck_new _ _⟩
  have hregs : IsRegs (fun b => b < W2.heap.size) W2 (IsStates (fun b => b < W2.heap.size) W2 6) c.regions (.slice a' n' m') := by
    obtain ⟨a0, n0, m0, a1, n1, m1, e, _, hR⟩ := HB2.out.2.1
    injection e with e
    simp at e
    obtain ⟨_, _, rfl, rfl, rfl⟩ := e
    exact hR
  have HRG : Hid (IsRegs (fun b => b < W2.heap.size) W2 (IsStates (fun b => b < W2.heap.size) W2 6) c.regions (.slice a' n' m')) := hregs
  have hl := long_all 6 W2 c.regions _ hregs HN.out.1.sts HN.out.1.many
  have x2 := cell_row HB2.out.2.2 2 (u := .slice a' n' m') rfl
  rw [hW2] at hl x2
  rw [hq] at x2
  have HWE : Hid (W2 = _) := hW2
  have HQ : Hid (q = w2.heap.size) := hq
  clear hp hg2 hW2 hregs h2 hq
  go_wp2_with fail
  refine hl.mono ?_
  rintro e w3 ⟨b, rfl, h3⟩
  have HB3 : Hid (Below W2.heap.size W2 w3) := by rw [HWE.out]; exact h3.out
  rw [← HQ.out]
  clear hl x2 h3 HWE HQ
  cases b with
  | true =>
    go_wp2_with fail
    go_ret
    exact ⟨rfl, ck_all HB2.out.1 HB3.out⟩
  | false =>
    have k3 := ck_block HB3.out HB2.out.2.2
    have x0 := cell_row k3 0 (u := .string S) rfl
    have x1 := cell_row k3 1 (u := .slice a n m) rfl
    have x2 := cell_row k3 2 (u := .slice a' n' m') rfl
    obtain ⟨d, hd⟩ : ∃ d, d = w3.heap.size := ⟨_, rfl⟩
    obtain ⟨W3, hW3⟩ : ∃ W3, W3 = w3.alloc (.cells #[.string S, .slice a n m, .slice a' n' m'] 26) := ⟨_, rfl⟩
    have hg3 : Below w3.heap.size w3 W3 := by rw [hW3]; exact ck_grown _ _
    have HB4 : Hid (Below W2.heap.size W2 W3 ∧ W3.heap[q]? = some (.cells #[.string S, .slice a n m, .slice a' n' m'] 26 (0, 0)) ∧ W3.heap[d]? = some (.cells #[.string S, .slice a n m, .slice a' n' m'] 26 (0, 0))) := ⟨ck_all HB3.out hg3, ck_block hg3 k3, by rw [hW3, hd]; exact ck_new _ _⟩
    have y2 := cell_row HB4.out.2.1 2 (u := .slice a' n' m') rfl
    have kp : Keep (fun b => b < W2.heap.size) (fun b => b < W2.heap.size) W2 W3 := fun b hb hlt => ⟨hb, HB4.out.1.block b hlt⟩
    have hr := HR.out _ W3 c.regions _ (HRG.out.carry kp (IsStates.carry kp 6)) HN.out.2.2.1 HN.out.2.2.2
    rw [hW3] at hr y2
    have HWE : Hid (W3 = _) := hW3
    have HD : Hid (d = w3.heap.size ∧ q ≠ d ∧ W2.heap.size ≤ d ∧ d < W3.heap.size) := by have := lt_of_block k3; have h5 := HB3.out.size; have h6 := lt_of_block HB4.out.2.2; exact ⟨hd, by omega, by omega, h6⟩
    clear k3 hg3 hW3 kp hd
    go_wp2_with fail
    clear x0 x1 x2 y2
    refine hr.mono ?_
    rintro e w4 ⟨ra, rn, rm, rfl, h4⟩
    have HB5 : Hid (Below W3.heap.size W3 w4) := by rw [HWE.out]; exact h4.out.2
    have h4r : IsRegs (fun b => b < W2.heap.size ∨ W3.heap.size ≤ b) w4 (IsStates (fun b => b < W2.heap.size ∨ W3.heap.size ≤ b) w4 6) (c.regions.map (renR 6)) (.slice ra rn rm) := by rw [HWE.out]; exact h4.out.1
    rw [← HD.out.1]
    have kd := ck_block HB5.out HB4.out.2.2
    have kq := ck_block HB5.out HB4.out.2.1
    have fd := ck_frozen kd 2
    have z2 := cell_row kd 2 (u := .slice a' n' m') rfl
    obtain ⟨W5, hW5⟩ : ∃ W5, W5 = w4.setCell ⟨d, 2, none⟩ (.slice ra rn rm) := ⟨_, rfl⟩
    have ko : ∀ b, b ≠ d → W5.heap[b]? = w4.heap[b]? := fun b hb => by rw [hW5]; exact Below.heap_setCell _ _ _ _ hb
    have h5d : W5.heap[d]? = some (.cells #[.string S, .slice a n m, .slice ra rn rm] 26 (0, 0)) := by rw [hW5]; exact ck_set (l := [.string S, .slice a n m, .slice a' n' m']) kd 2 _
    have h5q : W5.heap[q]? = some (.cells #[.string S, .slice a n m, .slice a' n' m'] 26 (0, 0)) := by rw [ko q HD.out.2.1]; exact kq
    have hB5 : Below w.heap.size w W5 := by
      have h1 : Below w.heap.size w w4 := ck_all (ck_all HB2.out.1 HB4.out.1) HB5.out
      rw [hW5]
      exact h1.setCell (by have := HB2.out.1.size; have := HD.out.2.2.1; show w.heap.size ≤ d; omega) _
    have hC1 : IsChart (fun b => b < W2.heap.size) W5 c (.agg #[.string S, .slice a n m, .slice a' n' m']) := chartKeep HB2.out.2.1 fun b hb hlt => ⟨hb, by
      have h7 := HD.out.2.2.1
      rw [ko b (by omega), HB5.out.block b (Nat.lt_of_lt_of_le hlt HB4.out.1.size), HB4.out.1.block b hlt]⟩
    have hC2 : IsChart (fun b => b < W2.heap.size ∨ W3.heap.size ≤ b) W5 (renC c) (.agg #[.string S, .slice a n m, .slice ra rn rm]) := by
      have kp5 : Keep (fun b => b < W2.heap.size ∨ W3.heap.size ≤ b) (fun b => b < W2.heap.size ∨ W3.heap.size ≤ b) w4 W5 := fun b hb _ => ⟨hb, ko b (by have := HD.out.2.2; omega)⟩
      have kp6 : Keep (fun b => b < W2.heap.size) (fun b => b < W2.heap.size ∨ W3.heap.size ≤ b) W5 W5 := fun b hb _ => ⟨.inl hb, rfl⟩
      obtain ⟨a0, n0, m0, a1, n1, m1, e, hV, _⟩ := hC1
      injection e with e
      simp at e
      obtain ⟨e1, ⟨rfl, rfl, rfl⟩, _⟩ := e
      rw [e1]
      exact ⟨a, n, m, ra, rn, rm, rfl, hV.carry kp6, h4r.carry kp5 (IsStates.carry kp5 6)⟩
    have HC2 : Hid (IsChart (fun b => b < W2.heap.size ∨ W3.heap.size ≤ b) W5 (renC c) (.agg #[.string S, .slice a n m, .slice ra rn rm])) := hC2
    have HB6 : Hid (Below w.heap.size w W5 ∧ W5.heap[d]? = some (.cells #[.string S, .slice a n m, .slice ra rn rm] 26 (0, 0))) := ⟨hB5, h5d⟩
    have c1 := check_plc hC1 HN.out.1 (HV.out.up hB5)
    have x0 := cell_row h5q 0 (u := .string S) rfl
    have x1 := cell_row h5q 1 (u := .slice a n m) rfl
    have x2 := cell_row h5q 2 (u := .slice a' n' m') rfl
    obtain ⟨P, hP⟩ : ∃ P, P = plc (checkC c) := ⟨_, rfl⟩
    rw [← hP] at c1
    have HPE : Hid (P = plc (checkC c)) := hP
    have HW5 : Hid (W5 = _) := hW5
    rw [hW5] at c1 x0 x1 x2
    clear hr h4 h4r kd kq ko h5d h5q hB5 hC1 hC2 hP hW5
    go_wp2_with fail
    clear fd z2 x0 x1 x2
    refine c1.mono ?_
    rintro e w6 ⟨u1, rfl, h6⟩
    have p1 := h6.out.2
    have HB7 : Hid (Below W5.heap.size W5 w6) := by rw [HW5.out]; exact h6.out.1
    clear c1 h6 HW5
    go_wp2_with fail
    refine p1.mono ?_
    rintro e w7 ⟨rfl, h7⟩
    have HB8 : Hid (Below W5.heap.size W5 w7) := ck_all HB7.out h7
    have k7 := ck_block HB8.out HB6.out.2
    have x0 := cell_row k7 0 (u := .string S) rfl
    have x1 := cell_row k7 1 (u := .slice a n m) rfl
    have x2 := cell_row k7 2 (u := .slice ra rn rm) rfl
    have c2 := check_plc (chartUp HC2.out HB8.out) HN.out.2.1 (HV.out.up (ck_all HB6.out.1 HB8.out))
    rw [checkC_ren, ← HPE.out] at c2
    clear p1 h7 HB7 k7 HPE
    go_wp2_with fail
    clear x0 x1 x2
    refine c2.mono ?_
    rintro e w8 ⟨u2, rfl, h8⟩
    have p2 := h8.out.2
    clear c2
    go_wp2_with fail
    refine p2.mono ?_
    rintro e w9 ⟨rfl, h9⟩
    have HB9 : Hid (Below w.heap.size w w9) := ck_all (ck_all (ck_all HB6.out.1 HB8.out) h8.out.1) h9
    clear p2 h8 h9
    go_wp2_with fail
    go_ret
    exact ⟨by simp, HB9.out⟩
set_option maxRecDepth 100000 in
set_option maxHeartbeats 2000000 in
theorem checkNames_of (hren : RenOk 6) (s : ByteArray) {w : World} (hv : KEnv w) : Calls Tryz.prog 3 #[.string s] w fun e w' => e = .returned (.bool true) ∧ Below w.heap.size w w' := by
  by_cases hs : s.size ≤ 1500
  · by_cases hd : ∃ l c, Lx.Ok (bs s) l ∧ chart (fin s l) = .ok c
    · obtain ⟨l, c, hok, hch⟩ := hd
      exact checkNames_drawn hren hs hv hok hch
    · have hj := judged_any hv
      have HP : Hid (∀ W, Below w.heap.size w W → Calls Tryz.prog 13 #[.string s] W fun e w' => ∃ g, e = .returned (.tuple #[.agg #[.string ⟨#[]⟩, .slice none 0 0, .slice none 0 0], .iface 87 (.pointer (some ⟨g, 0, none⟩))]) ∧ Hid (Below W.heap.size W w')) := fun W hb => by
        have hv0 := hv.up hb
        by_cases hl : ∃ l, Lx.Ok (bs s) l
        · obtain ⟨l, hok⟩ := hl
          cases hch : chart (fin s l) with
          | ok c => exact absurd ⟨l, c, hok, hch⟩ hd
          | error f => exact (parse_err s l f _ (by omega) hv0.big hv0.tabs hv0.marks hok hch).mono fun e w' ⟨g, he, _, hb⟩ => ⟨g, he, hb⟩
        · exact (parse_bad s _ (by omega) hv0.marks (fun l h => hl ⟨l, h⟩)).mono fun e w' ⟨_, _, g, he, _, _, hb⟩ => ⟨g, he, hb⟩
      have hs1 : ¬ (1500 : Int) < (s.size : Int) := by omega
      clear hs hd hv hren
      go_enter Tryz.func3, Tryz.ntmps3
      go_wp2_with fail
      refine hj.mono ?_
      rintro e w1 ⟨rfl, hb1⟩
      have hp := HP.out w1 hb1.out
      clear hj
      go_wp2_with fail
      refine hp.mono ?_
      rintro e w2 ⟨g, rfl, h2⟩
      clear hp
      go_wp2_with fail
      go_ret
      exact ⟨rfl, ck_all (ck_all hb1.out h2.out) (ck_grown _ _)⟩
  · have hs1 : (1500 : Int) < (s.size : Int) := by omega
    clear hs hv hren
    go_enter Tryz.func3, Tryz.ntmps3
    go_wp2_with fail
    go_ret
    exact ⟨rfl, Below.refl _ _⟩
end Kx
end Go.Proofs.YtobamalnbjbmiaaGreatDoor
