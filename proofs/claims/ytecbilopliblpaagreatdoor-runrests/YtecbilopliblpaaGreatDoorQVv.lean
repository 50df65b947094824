/- RunRests: what rests does nothing. -/
import Derived.Test.YtecbilopliblpaaGreatDoorQVuVt
namespace Go.Proofs.YtecbilopliblpaaGreatDoor
open Go.RowKit Px
namespace Kx
set_option maxRecDepth 100000 in
set_option maxHeartbeats 16000000 in
theorem runRests_fine {s : ByteArray} {l : List Lx.Tok} {c : Chart} {w : World} {iv : Value} {zss : List (List Int)} (hs : s.size ≤ 1500) (hv : KEnv0 w) (hok : Lx.Ok (bs s) l) (hch : chart (fin s l) = .ok c) (hck : checkC c = none) (hI : IRws w iv zss) (hfew : Few zss) (h64 : ∀ zs ∈ zss, ∀ y ∈ zs, N64 y) :
    Calls Tryz.prog 5 #[.string s, iv] w fun e w' => e = .returned (.bool true) ∧ Hid (Below w.heap.size w w') := by
  have hC := runC hok hch hck
  have hfw := few_yes hI hfew
  have hran := ran_any hv
  have HCH : Hid (∀ W, Below w.heap.size w W → Calls Tryz.prog 13 #[.string s] W fun e w' => ∃ S a n m a' n' m', e = .returned (.tuple #[.agg #[.string S, .slice a n m, .slice a' n' m'], .bool true]) ∧ Hid (IsChart (fun b => W.heap.size < b) w' c (.agg #[.string S, .slice a n m, .slice a' n' m']) ∧ Below W.heap.size W w')) := fun W hb =>
    (chart_drawn hs (hv.up hb) hok hch).mono fun e w' h => by
      rcases h with ⟨_, S, a, n, m, a', n', m', he, hC⟩ | ⟨hne, _⟩
      · exact ⟨S, a, n, m, a', n', m', he, hC⟩
      · exact absurd hck hne
  have HWR : Hid (∀ rs, L2r (DnK 5) c.regions rs → RunC (wrapC c rs)) := fun rs hd => wrap_run hok hch hck hd
  obtain ⟨iad, ib, io, ic, rfl, hia, hir⟩ := hI
  obtain ⟨N, hN⟩ : ∃ N, N = zss.length := ⟨_, rfl⟩
  rw [← hN] at hfw hia ⊢
  have hN6 : (N : Int) ≤ 9223372036854775807 := by have := hfew.1; omega
  have H : Hid (RunC c ∧ N = zss.length ∧ (0 < N → iad = some ⟨ib, io, none⟩) ∧ (∀ (k : Nat) (zs : List Int), zss[k]? = some zs → ∃ a c, w.cell? ⟨ib, io + k, none⟩ = some (.slice a zs.length c) ∧ INums w (.slice a zs.length c) zs) ∧ (∀ zs ∈ zss, ∀ y ∈ zs, N64 y) ∧ ∀ zs ∈ zss, zs.length ≤ 30) := ⟨hC, hN, hia, hir, h64, hfew.2⟩
  clear hv hok hch hs hck hC hN hia hir h64 hfew
  go_enter Tryz.func5, Tryz.ntmps5
  go_wp2_with fail
  refine hfw.mono ?_
  rintro e w0 ⟨rfl, hw0⟩
  obtain rfl := hw0.symm
  clear hfw
  go_wp2_with fail
  refine hran.mono ?_
  rintro e w1 ⟨rfl, hb1⟩
  clear hran
  have hch := HCH.out w1 hb1.out
  clear HCH
  go_wp2_with fail
  refine hch.mono ?_
  rintro e w2 ⟨S, a, n, m, a', n', m', rfl, h2⟩
  clear hch
  obtain ⟨W2, hW2⟩ : ∃ W2, W2 = w2.alloc (.cells #[.string S, .slice a n m, .slice a' n' m'] 28) := ⟨_, rfl⟩
  obtain ⟨cb, hcb⟩ : ∃ cb, cb = w2.heap.size := ⟨_, rfl⟩
  have hg2 : Below w2.heap.size w2 W2 := by rw [hW2]; exact ck_grown _ _
  have k2 : W2.heap[cb]? = some (.cells #[.string S, .slice a n m, .slice a' n' m'] 28 (0, 0)) := by rw [hW2, hcb]; exact ck_new _ _
  obtain ⟨A, hA⟩ : ∃ A : Nat → Prop, A = fun b => w1.heap.size < b ∧ b < w2.heap.size := ⟨_, rfl⟩
  have hCh : IsChart A W2 c (.agg #[.string S, .slice a n m, .slice a' n' m']) := by rw [hA]; exact chartUp (chart_in h2.out.1) hg2
  have hAW : ∀ b, A b → b < W2.heap.size := fun b hb => by rw [hA] at hb; exact Nat.lt_of_lt_of_le hb.2 hg2.size
  have HW : Hid (IsChart A W2 c (.agg #[.string S, .slice a n m, .slice a' n' m']) ∧ (∀ b, A b → b < W2.heap.size) ∧ W2.heap[cb]? = some (.cells #[.string S, .slice a n m, .slice a' n' m'] 28 (0, 0)) ∧ Below w.heap.size w W2) := ⟨hCh, hAW, k2, ck_all (ck_all hb1.out h2.out.2) hg2⟩
  have HRG : Hid (∀ W, Below W2.heap.size W2 W → IsRegs A W (IsStates A W 6) c.regions (.slice a' n' m')) := fun W hb => by
    obtain ⟨b1, b2, b3, b4, b5, b6, e1, _, e2⟩ := chartUp hCh hb
    injection e1 with e1
    simp at e1
    obtain ⟨_, _, rfl, rfl, rfl⟩ := e1
    exact e2
  have HX : Hid (∀ W, Below W2.heap.size W2 W → W.cell? ⟨cb, 0, none⟩ = some (.string S) ∧ W.cell? ⟨cb, 1, none⟩ = some (.slice a n m) ∧ W.cell? ⟨cb, 2, none⟩ = some (.slice a' n' m')) := fun W hb => ⟨ck_cell hb (cell_row k2 0 rfl), ck_cell hb (cell_row k2 1 rfl), ck_cell hb (cell_row k2 2 rfl)⟩
  clear h2 hg2 k2 hA hCh hAW hb1
  have hdp := deep_all (A := A) 6 (Nat.le_refl _) W2 c.regions (.slice a' n' m') (HRG.out W2 (Below.refl _ _)) (check_lay H.out.1.ok H.out.1.nm).1
  obtain ⟨-, -, x2⟩ := HX.out W2 (Below.refl _ _)
  go_upto_region 6 with fail
  rw [← hcb, ← hW2]
  have HCB : Hid (cb = w2.heap.size ∧ W2.heap.size = w2.heap.size + 1) := ⟨hcb, by rw [hW2]; simp⟩
  clear hcb hW2
  go_wp2_with fail
  refine hdp.mono ?_
  rintro e w3 ⟨dx, rfl, h3⟩
  clear hdp x2
  by_cases hdeep : deepN 6 c.regions ≤ 5
  · have hdx : ¬ (6 : Int) ≤ dx := by rw [h3.out.1]; omega
    obtain ⟨rs, hrs⟩ := dn_some 5 c.regions hdeep
    have HD : Hid (L2r (DnK 5) c.regions rs ∧ RunC (wrapC c rs)) := ⟨hrs, HWR.out rs hrs⟩
    have HB3 : Hid (Below W2.heap.size W2 w3) := h3.out.2
    clear h3 hrs HWR hdeep
    have hcn := count_all (A := A) 6 w3 c.regions (.slice a' n' m') (HRG.out w3 HB3.out) (check_lay H.out.1.ok H.out.1.nm).1
    obtain ⟨-, -, x2⟩ := HX.out w3 HB3.out
    go_wp2_with fail
    refine hcn.mono ?_
    rintro e w4 ⟨cx, rfl, h4⟩
    clear hcn x2
    have HB4 : Hid (Below W2.heap.size W2 w4) := ck_all HB3.out h4.out.2
    clear h4 HB3
    by_cases hcx : (24 : Int) ≤ cx
    · have HB : Hid (Below w.heap.size w w4) := ck_all HW.out.2.2.2 HB4.out
      go_wp2_with fail
      go_ret
      exact ⟨rfl, HB.out⟩
    · obtain ⟨x0, x1, x2⟩ := HX.out w4 HB4.out
      obtain ⟨W5, hW5⟩ : ∃ W5, W5 = w4.alloc (.cells #[.string S, .slice a n m, .slice a' n' m'] 28) := ⟨_, rfl⟩
      obtain ⟨db, hdb⟩ : ∃ db, db = w4.heap.size := ⟨_, rfl⟩
      have hg5 : Below w4.heap.size w4 W5 := by rw [hW5]; exact ck_grown _ _
      have hs5 : W5.heap.size = db + 1 := by rw [hW5, hdb]; simp
      have k5 : W5.heap[db]? = some (.cells #[.string S, .slice a n m, .slice a' n' m'] 28 (0, 0)) := by rw [hW5, hdb]; exact ck_new _ _
      have HB5 : Hid (Below W2.heap.size W2 W5 ∧ W5.heap[db]? = some (.cells #[.string S, .slice a n m, .slice a' n' m'] 28 (0, 0)) ∧ W5.heap.size = db + 1 ∧ W2.heap.size ≤ db) := ⟨ck_all HB4.out hg5, k5, hs5, by rw [hdb]; exact HB4.out.size⟩
      go_upto_region 9 with fail
      rw [← hdb, ← hW5]
      clear hdb hW5 x0 x1 x2 hg5 k5 HB4
      have e1 : Below W2.heap.size W2 (W5.alloc (.cells #[.int .i64 1, .int .i64 1, .string ⟨#[]⟩, .pointer none, .pointer none] 53)) := ck_all HB5.out.1 (ck_grown _ _)
      obtain ⟨-, -, x2⟩ := HX.out _ e1
      clear e1
      obtain ⟨X5, hX5⟩ : ∃ X5, X5 = W5.setCell ⟨db, 2, none⟩ (.slice (some ⟨db + 1 + 1 + 1, 0, none⟩) 1 1) := ⟨_, rfl⟩
      have hsx : X5.heap.size = db + 1 := by rw [hX5, ← hs5]; simp [World.setCell]
      have hbx : Below W2.heap.size W2 X5 := by rw [hX5]; exact HB5.out.1.setCell HB5.out.2.2.2 _
      have kx : X5.heap[db]? = some (.cells #[.string S, .slice a n m, .slice (some ⟨db + 1 + 1 + 1, 0, none⟩) 1 1] 28 (0, 0)) := by rw [hX5]; exact ck_set (l := [.string S, .slice a n m, .slice a' n' m']) HB5.out.2.1 2 _
      obtain ⟨W9, hW9⟩ : ∃ W9, W9 = ((X5.alloc (.cells #[.int .i64 1, .int .i64 1, .string ⟨#[]⟩, .pointer none, .pointer none] 53)).alloc (.cells #[.string ⟨#[119]⟩, .bool true, .bool false, .slice none 0 0, .slice none 0 0, .slice none 0 0, .pointer (some ⟨db + 1, 0, none⟩), .slice none 0 0, .slice a' n' m'] 57)).alloc (.cells #[.slice (some ⟨db + 1 + 1, 0, none⟩) 1 1] 58) := ⟨_, rfl⟩
      have hbg : Below X5.heap.size X5 W9 := by rw [hW9]; exact ck_all (ck_all (ck_grown _ _) (ck_grown _ _)) (ck_grown _ _)
      have hb9 : Below W2.heap.size W2 W9 := ck_all hbx hbg
      have k9 : W9.heap[db]? = some (.cells #[.string S, .slice a n m, .slice (some ⟨db + 1 + 1 + 1, 0, none⟩) 1 1] 28 (0, 0)) := ck_block hbg kx
      have he8 : W9.heap[db + 1]? = some (.cells #[.int .i64 1, .int .i64 1, .string ⟨#[]⟩, .pointer none, .pointer none] 53 (0, 0)) := by
        rw [hW9, ← hsx]
        exact ck_old (ck_old (ck_new _ _))
      have z1 : (X5.alloc (.cells #[.int .i64 1, .int .i64 1, .string ⟨#[]⟩, .pointer none, .pointer none] 53)).heap.size = db + 1 + 1 := by simp [hsx]
      have hs8 : W9.heap[db + 1 + 1]? = some (.cells #[.string ⟨#[119]⟩, .bool true, .bool false, .slice none 0 0, .slice none 0 0, .slice none 0 0, .pointer (some ⟨db + 1, 0, none⟩), .slice none 0 0, .slice a' n' m'] 57 (0, 0)) := by
        rw [hW9]
        have := ck_new (X5.alloc (.cells #[.int .i64 1, .int .i64 1, .string ⟨#[]⟩, .pointer none, .pointer none] 53)) (.cells #[.string ⟨#[119]⟩, .bool true, .bool false, .slice none 0 0, .slice none 0 0, .slice none 0 0, .pointer (some ⟨db + 1, 0, none⟩), .slice none 0 0, .slice a' n' m'] 57)
        rw [z1] at this
        exact ck_old this
      have z2 : ((X5.alloc (.cells #[.int .i64 1, .int .i64 1, .string ⟨#[]⟩, .pointer none, .pointer none] 53)).alloc (.cells #[.string ⟨#[119]⟩, .bool true, .bool false, .slice none 0 0, .slice none 0 0, .slice none 0 0, .pointer (some ⟨db + 1, 0, none⟩), .slice none 0 0, .slice a' n' m'] 57)).heap.size = db + 1 + 1 + 1 := by simp [hsx]
      have hr8 : W9.heap[db + 1 + 1 + 1]? = some (.cells #[.slice (some ⟨db + 1 + 1, 0, none⟩) 1 1] 58 (0, 0)) := by
        rw [hW9]
        have := ck_new ((X5.alloc (.cells #[.int .i64 1, .int .i64 1, .string ⟨#[]⟩, .pointer none, .pointer none] 53)).alloc (.cells #[.string ⟨#[119]⟩, .bool true, .bool false, .slice none 0 0, .slice none 0 0, .slice none 0 0, .pointer (some ⟨db + 1, 0, none⟩), .slice none 0 0, .slice a' n' m'] 57)) (.cells #[.slice (some ⟨db + 1 + 1, 0, none⟩) 1 1] 58)
        rw [z2] at this
        exact this
      have hz9 : W9.heap.size = db + 4 := by rw [hW9]; simp [hsx]
      obtain ⟨A2, hA2⟩ : ∃ A2 : Nat → Prop, A2 = fun b => A b ∨ b = db + 1 ∨ b = db + 1 + 1 ∨ b = db + 1 + 1 + 1 := ⟨_, rfl⟩
      have hA2W : ∀ b, A2 b → b < W9.heap.size := fun b hb => by
        rw [hA2] at hb
        rcases hb with h | h | h | h
        · exact Nat.lt_of_lt_of_le (HW.out.2.1 b h) hb9.size
        · omega
        · omega
        · omega
      have hC2 : IsChart A2 W9 (wrapC c rs) (.agg #[.string S, .slice a n m, .slice (some ⟨db + 1 + 1 + 1, 0, none⟩) 1 1]) := by
        have kp : Keep A A2 W9 W9 := fun b ha _ => ⟨by rw [hA2]; exact .inl ha, rfl⟩
        have hc9 := chartUp HW.out.1 hb9
        have hcA : IsChart A2 W9 c (.agg #[.string S, .slice a n m, .slice a' n' m']) := by
          obtain ⟨q1, q2, q3, q4, q5, q6, e, v1, v2⟩ := hc9
          exact ⟨q1, q2, q3, q4, q5, q6, e, v1.carry kp, v2.carry kp (IsStates.carry kp 6)⟩
        exact wrap_mem HD.out.1 hcA ⟨by rw [hA2]; exact .inr (.inl rfl), by rw [hA2]; exact .inr (.inr (.inl rfl)), by rw [hA2]; exact .inr (.inr (.inr rfl))⟩ he8 hs8 hr8
      have HW9 : Hid (Below W2.heap.size W2 W9 ∧ IsChart A2 W9 (wrapC c rs) (.agg #[.string S, .slice a n m, .slice (some ⟨db + 1 + 1 + 1, 0, none⟩) 1 1]) ∧ (∀ b, A2 b → b < W9.heap.size) ∧ W9.heap[db]? = some (.cells #[.string S, .slice a n m, .slice (some ⟨db + 1 + 1 + 1, 0, none⟩) 1 1] 28 (0, 0)) ∧ ∀ b, A b → A2 b) := ⟨hb9, hC2, hA2W, k9, fun b hb => by rw [hA2]; exact .inl hb⟩
      have k8 : (((W5.alloc (.cells #[.int .i64 1, .int .i64 1, .string ⟨#[]⟩, .pointer none, .pointer none] 53)).alloc (.cells #[.string ⟨#[119]⟩, .bool true, .bool false, .slice none 0 0, .slice none 0 0, .slice none 0 0, .pointer (some ⟨db + 1, 0, none⟩), .slice none 0 0, .slice a' n' m'] 57)).alloc (.cells #[.slice (some ⟨db + 1 + 1, 0, none⟩) 1 1] 58)).heap[db]? = some (.cells #[.string S, .slice a n m, .slice a' n' m'] 28 (0, 0)) := ck_old (ck_old (ck_old HB5.out.2.1))
      have c2 := cell_row k8 2 (u := .slice a' n' m') rfl
      have f2 := ck_frozen k8 2
      clear k8 he8 hs8 hr8 hz9 hb9 k9 hA2 hA2W hC2 z1 z2 hsx hbx kx hbg
      go_upto_region 10 with fail
      rw [← hX5, ← hW9]
      clear hX5 hW9 c2 f2 x2 hs5 HB5
      have hn1 := new_run (chartUp HW.out.1 HW9.out.1) H.out.1 (fun b hb => HW9.out.2.2.1 b (HW9.out.2.2.2.2 b hb))
      obtain ⟨x0, x1, x2⟩ := HX.out W9 HW9.out.1
      go_wp2_with fail
      refine hn1.mono ?_
      rintro e w10 ⟨rb1, rfl, h10⟩
      clear hn1 x0 x1 x2
      obtain ⟨⟨Q1, y1, hR1, hQ1⟩, hb10⟩ := h10.out
      have hn2 := new_run (chartUp HW9.out.2.1 hb10) HD.out.2 (fun b hb => Nat.lt_of_lt_of_le (HW9.out.2.2.1 b hb) hb10.size)
      have x0 := ck_cell hb10 (cell_row HW9.out.2.2.2.1 0 (u := .string S) rfl)
      have x1 := ck_cell hb10 (cell_row HW9.out.2.2.2.1 1 (u := .slice a n m) rfl)
      have x2 := ck_cell hb10 (cell_row HW9.out.2.2.2.1 2 (u := .slice (some ⟨db + 1 + 1 + 1, 0, none⟩) 1 1) rfl)
      have HR1 : Hid (RnM A w10 c (newC c) rb1 Q1 y1 ∧ (∀ b, Q1 b → W9.heap.size ≤ b) ∧ Below W9.heap.size W9 w10) := ⟨hR1, hQ1, hb10⟩
      clear h10 hR1 hQ1 hb10
      go_wp2_with fail
      refine hn2.mono ?_
      rintro e w11 ⟨rb2, rfl, h11⟩
      clear hn2 x0 x1 x2
      obtain ⟨⟨Q2, y2, hR2, hQ2⟩, hb11⟩ := h11.out
      have HQ : Hid ((∀ b, Q1 b → W9.heap.size ≤ b) ∧ (∀ b, Q2 b → W9.heap.size ≤ b) ∧ ∀ b, Q1 b → ¬ Q2 b) := ⟨HR1.out.2.1, fun b hb => Nat.le_trans HR1.out.2.2.size (hQ2 b hb), fun b q1 q2 => by have := HR1.out.1.hQ b q1; have := hQ2 b q2; omega⟩
      have H0 : Hid (RnM A w11 c (newC c) rb1 Q1 y1 ∧ RnM A2 w11 (wrapC c rs) (newC (wrapC c rs)) rb2 Q2 y2 ∧ Below W9.heap.size W9 w11) := ⟨HR1.out.1.below hb11, hR2, ck_all HR1.out.2.2 hb11⟩
      clear h11 hR2 hQ2 hb11 HR1
      go_wp2_with fail
      have hvs : IsVars A W2 c.vars (.slice a n m) := by
        obtain ⟨b1, b2, b3, b4, b5, b6, e1, e2, _⟩ := HW.out.1
        injection e1 with e1
        simp at e1
        obtain ⟨_, ⟨rfl, rfl, rfl⟩, _⟩ := e1
        exact e2
      obtain ⟨va0, vg, vcap, ev, vl, vgp, vcs⟩ := hvs.open2
      injection ev with ev1 ev2 ev3
      subst ev1
      subst ev3
      rw [← ev2] at vgp
      have HVO : Hid (n = c.vars.length ∧ (0 < n → a = some ⟨vg, 0, none⟩) ∧ ∀ wq, Below W2.heap.size W2 wq → ∀ (i : Nat) (v : Decl), c.vars[i]? = some v → wq.cell? ⟨vg, i * 3, none⟩ = some (.int .i64 (v.kind : Int))) := ⟨ev2, fun hp => (vgp hp).1, fun wq hb i v hi => ck_cell hb (vcs i v hi).1⟩
      have hn6 : (n : Int) ≤ 1000000 := by have := H.out.1.run.vl; omega
      clear hvs vl vgp vcs ev2
      go_loopg [12, 13, 14] N (fun f fv vv iv wr => ∃ (k : Nat) (fa va : Option Addr) (fn fm vn vm : Nat), f = N - k ∧ k ≤ N ∧ fv = .slice fa fn fm ∧ vv = .slice va vn vm ∧ iv = .int .i64 (k : Int) ∧ Hid ((k = 0 ∧ RnM A wr c (newC c) rb1 Q1 y1 ∧ RnM A2 wr (wrapC c rs) (newC (wrapC c rs)) rb2 Q2 y2 ∧ Below W9.heap.size W9 wr) ∨ (0 < k ∧ ∃ n1 r, RestI c rs A2 Q2 W9 wr n1 r rb2 y2 (.slice fa fn fm) (.slice va vn vm))))
      case atStart => exact ⟨0, none, none, 0, 0, 0, 0, by omega, by omega, rfl, rfl, rfl, .inl ⟨rfl, H0.out⟩⟩
      case round =>
        clear H0
        obtain ⟨k, fa, va, fn, fm, vn, vm, rfl, hk, rfl, rfl, rfl, hr⟩ := hrel
        obtain ⟨W, hW⟩ : ∃ W, W = wr := ⟨_, rfl⟩
        subst hW
        by_cases hlt : k < N
        · obtain ⟨zs, hzs⟩ : ∃ zs, zss[k]? = some zs := ⟨zss[k]'(by rw [← H.out.2.1]; exact hlt), by rw [List.getElem?_eq_getElem]⟩
          obtain ⟨ia, icp, ci, hin⟩ := H.out.2.2.2.1 k zs hzs
          have hmz := List.mem_of_getElem? hzs
          have h64 := H.out.2.2.2.2.1 zs hmz
          obtain ⟨zl, hzl⟩ : ∃ zl, zl = zs.length := ⟨_, rfl⟩
          rw [← hzl] at ci hin
          have HZ : Hid (w.cell? ⟨ib, io + k, none⟩ = some (.slice ia zl icp) ∧ INums w (.slice ia zl icp) zs ∧ ∀ y ∈ zs, N64 y) := ⟨ci, hin, h64⟩
          clear hzs ci hin hmz h64 hzl
          rcases hr.out with ⟨h0, hx, hy, hbel⟩ | ⟨h0, n1, r, hR⟩
          · subst h0
            have hix : ∀ w : World, (Instr.indexAt 22 (.slice iad N ic) (.int .i64 0)).run Tryz.prog w = .ok (.pointer (some ⟨ib, io, none⟩)) w := ixM iad ib io N ic 0 hlt H.out.2.2.1
            have hbW : Below w.heap.size w W := ck_all HW.out.2.2.2 (ck_all HW9.out.1 hbel)
            obtain ⟨r1, ht, hst, hlv⟩ := tick_ok (check_gd H.out.1.ok H.out.1.nm) (new_stands c) zs
            obtain ⟨ds, htw, hthr⟩ := wrap_first HD.out.1 ht
            have hci : W.cell? ⟨ib, io, none⟩ = some (.slice ia zl icp) := ck_cell hbW HZ.out.1
            have hT1 := tick_run hy HD.out.2.run (HZ.out.2.1.below hbW) HZ.out.2.2 htw
            obtain ⟨n1, hn1⟩ : ∃ n1, n1 = r1.now := ⟨_, rfl⟩
            have HK : Hid (tickC c zs (newC c) = some r1 ∧ n1 = r1.now ∧ RnM A W c (newC c) rb1 Q1 y1 ∧ (∀ b, Q2 b → b < W.heap.size) ∧ Below W9.heap.size W9 W ∧ thereC (wrapC c rs) ⟨n1, n1, [wrapD ds]⟩ = [119] :: thereC c r1) := ⟨ht, hn1, hx, hy.hQ, hbel, by rw [hn1]; exact hthr⟩
            rw [← hn1] at hT1
            clear hr hx hy hbel hbW ht hst hlv htw hthr hn1
            go_wp2_with fail
            refine hT1.mono ?_
            rintro e w12 ⟨a12, n12, m12, rfl, h12⟩
            clear hT1 hci
            obtain ⟨hR12, hr12, hf12⟩ := h12.out
            have hV := Vars_any hR12 HD.out.2.run
            have H12 : Hid (RnM A2 w12 (wrapC c rs) ⟨n1, n1, [wrapD ds]⟩ rb2 Q2 y2 ∧ (∀ w'', FrQ (fun b => Q1 b ∨ Q2 b) w12 w'' → INums w'' (.slice a12 n12 m12) (tellC (fun k => decide (k = 2)) c.vars n1)) ∧ RnM A w12 c (newC c) rb1 Q1 y1 ∧ Below W9.heap.size W9 w12) := ⟨hR12, fun w'' hf => hr12 _ w'' (fun b hb => by
                rcases hb with h | h
                · exact HK.out.2.2.1.hQ b h
                · exact HK.out.2.2.2.1 b h) hf, HK.out.2.2.1.apart hf12 (fun b h1 h2 => HQ.out.2.2 b h1 h2) (fun b hb h1 => by have := HQ.out.2.1 b h1; have := HW9.out.2.2.1 b (HW9.out.2.2.2.2 b hb); omega), below_frq HK.out.2.2.2.2.1 hf12 HQ.out.2.1 HK.out.2.2.2.2.1.size⟩
            clear h12 hR12 hr12 hf12
            go_wp2_with fail
            refine hV.mono ?_
            rintro e w13 ⟨a13, n13, m13, rfl, h13⟩
            clear hV
            obtain ⟨hv13, hb13⟩ := h13.out
            have hB13 : Below w.heap.size w w13 := ck_all HW.out.2.2.2 (ck_all HW9.out.1 (ck_all H12.out.2.2.2 hb13))
            have hTx := tick_run (H12.out.2.2.1.below hb13) H.out.1.run (HZ.out.2.1.below hB13) HZ.out.2.2 HK.out.1
            have hci : w13.cell? ⟨ib, io, none⟩ = some (.slice ia zl icp) := ck_cell hB13 HZ.out.1
            have H13 : Hid (RnM A2 w13 (wrapC c rs) ⟨n1, n1, [wrapD ds]⟩ rb2 Q2 y2 ∧ (∀ w'', FrQ (fun b => Q1 b ∨ Q2 b) w13 w'' → INums w'' (.slice a12 n12 m12) (tellC (fun k => decide (k = 2)) c.vars n1)) ∧ (∀ w'', FrQ (fun b => Q1 b ∨ Q2 b) w13 w'' → INums w'' (.slice a13 n13 m13) (c.vars.map fun v => n1 v.name)) ∧ (∀ b, Q1 b → b < w13.heap.size) ∧ Below W9.heap.size W9 w13) := ⟨H12.out.1.below hb13, fun w'' hf => H12.out.2.1 w'' ((FrQ.of_below hb13).trans hf), fun w'' hf => by
                have h := row_apart hv13 (fun b hb => by
                  rcases hb with h | h
                  · exact H12.out.2.2.1.hQ b h
                  · exact H12.out.1.hQ b h) hf
                rw [tellC_all] at h
                exact h, (H12.out.2.2.1.below hb13).hQ, ck_all H12.out.2.2.2 hb13⟩
            clear h13 hv13 hb13 hB13 H12
            go_wp2_with fail
            refine hTx.mono ?_
            rintro e w14 ⟨a14, n14, m14, rfl, h14⟩
            clear hTx hci
            obtain ⟨hR14, hr14, hf14⟩ := h14.out
            have hO14 := hr14 Q1 w14 H13.out.2.2.2.1 (FrQ.refl _ _)
            have e14 : outsC c r1 = tellC (fun k => decide (k = 2)) c.vars n1 := by rw [HK.out.2.1]; rfl
            rw [e14] at hO14
            have hs1 := same_nums hO14 (H13.out.2.1 w14 (FrQ.wide hf14 fun b h => .inl h)) (Nat.le_trans (tell_len _ _ _) (by rw [← HVO.out.1]; omega))
            have H14 : Hid (RnM A2 w14 (wrapC c rs) ⟨n1, n1, [wrapD ds]⟩ rb2 Q2 y2 ∧ RnM A w14 c r1 rb1 Q1 y1 ∧ (∀ w'', FrQ Q2 w14 w'' → INums w'' (.slice a12 n12 m12) (tellC (fun k => decide (k = 2)) c.vars n1)) ∧ (∀ w'', FrQ Q2 w14 w'' → INums w'' (.slice a13 n13 m13) (c.vars.map fun v => n1 v.name)) ∧ Below W9.heap.size W9 w14) := ⟨H13.out.1.apart hf14 (fun b h2 h1 => HQ.out.2.2 b h1 h2) (fun b hb h1 => by have := HQ.out.1 b h1; have := HW9.out.2.2.1 b hb; omega), hR14, fun w'' hf => H13.out.2.1 w'' ((FrQ.wide hf14 fun b h => .inl h).trans (FrQ.wide hf fun b h => .inr h)), fun w'' hf => H13.out.2.2.1 w'' ((FrQ.wide hf14 fun b h => .inl h).trans (FrQ.wide hf fun b h => .inr h)), below_frq H13.out.2.2.2.2 hf14 HQ.out.1 H13.out.2.2.2.2.size⟩
            clear h14 hR14 hr14 hf14 hO14 e14 H13
            go_wp2_with fail
            refine hs1.mono ?_
            rintro e w15 ⟨rfl, hb15⟩
            clear hs1
            have hVx := Vars_any (H14.out.2.1.below hb15.out) H.out.1.run
            have HB15 : Hid (Below w14.heap.size w14 w15) := hb15.out
            clear hb15
            go_wp2_with fail
            refine hVx.mono ?_
            rintro e w16 ⟨a16, n16, m16, rfl, h16⟩
            clear hVx
            have hb16 := ck_all HB15.out h16.out.2
            have hN16 := h16.out.1.nums
            rw [tellC_all, ← HK.out.2.1] at hN16
            have hs2 := same_nums hN16 (H14.out.2.2.2.1 w16 (FrQ.of_below hb16)) (by rw [List.length_map, ← HVO.out.1]; omega)
            have HB16 : Hid (Below w14.heap.size w14 w16) := hb16
            clear h16 hN16 hb16 HB15
            go_wp2_with fail
            refine hs2.mono ?_
            rintro e w17 ⟨rfl, hb17⟩
            clear hs2
            have HB17 : Hid (Below w14.heap.size w14 w17) := ck_all HB16.out hb17.out
            have hth1 := There_any (H14.out.1.below HB17.out) HD.out.2.run (thereC_len HD.out.2.nm _)
            clear hb17 HB16
            go_wp2_with fail
            refine hth1.mono ?_
            rintro e w18 ⟨a18, n18, m18, rfl, h18⟩
            clear hth1
            have HB18 : Hid (Below w14.heap.size w14 w18) := ck_all HB17.out h18.out.2
            obtain ⟨tl, htl⟩ : ∃ tl, Hid (tl = (thereC c r1).length) := ⟨_, rfl⟩
            have e18 : n18 = 1 + tl := by
              obtain ⟨_, _, _, _, e, _⟩ := h18.out.1.strs
              rw [HK.out.2.2.2.2.2] at e
              injection e with _ e
              rw [e, htl.out]; simp; omega
            subst e18
            have hth2 := There_any (H14.out.2.1.below HB18.out) H.out.1.run (thereC_len H.out.1.nm _)
            clear h18 HB17
            go_wp2_with fail
            refine hth2.mono ?_
            rintro e w19 ⟨a19, n19, m19, rfl, h19⟩
            clear hth2
            have e19 : n19 = tl := by
              obtain ⟨_, _, _, _, e, _⟩ := h19.out.1.strs
              injection e with _ e
              rw [e, htl.out]
            subst e19
            have hl19 : (n19 : Int) ≤ 1000000 := by have := thereC_len H.out.1.nm r1; have := htl.out; omega
            obtain ⟨WT, hWT⟩ : ∃ WT, WT = w19 := ⟨_, rfl⟩
            subst hWT
            obtain ⟨nE, hnE⟩ : ∃ nE, nE = n1 := ⟨_, rfl⟩
            have HT : Hid (RnM A2 WT (wrapC c rs) ⟨nE, nE, [wrapD ds]⟩ rb2 Q2 y2 ∧ Below W9.heap.size W9 WT ∧ (∀ w'', FrQ Q2 WT w'' → INums w'' (.slice a12 n12 m12) (tellC (fun k => decide (k = 2)) c.vars n1)) ∧ (∀ w'', FrQ Q2 WT w'' → INums w'' (.slice a12 n12 m12) (tellC (fun k => decide (k = 2)) c.vars n1)) ∧ (∀ w'', FrQ Q2 WT w'' → INums w'' (.slice a13 n13 m13) (c.vars.map fun v => nE v.name)) ∧ (∀ w'', FrQ Q2 WT w'' → INums w'' (.slice a13 n13 m13) (c.vars.map fun v => n1 v.name)) ∧ Same1 c.vars nE n1) := by
              have hb := ck_all HB18.out h19.out.2
              rw [hnE]
              exact ⟨H14.out.1.below hb, ck_all H14.out.2.2.2.2 hb, fun w'' hf => H14.out.2.2.1 w'' ((FrQ.of_below hb).trans hf), fun w'' hf => H14.out.2.2.1 w'' ((FrQ.of_below hb).trans hf), fun w'' hf => H14.out.2.2.2.1 w'' ((FrQ.of_below hb).trans hf), fun w'' hf => H14.out.2.2.2.1 w'' ((FrQ.of_below hb).trans hf), fun v _ _ => rfl⟩
            clear h19 HB18 H14 HK hnE
            go_upto_region 24 with fail
            obtain ⟨o13, b13, q13, c13, e13, -, -, i13, j13⟩ := HT.out.2.2.2.2.1 WT (FrQ.refl _ _)
            injection e13 with e131 e132 e133
            subst e131
            subst e133
            rw [List.length_map, ← HVO.out.1] at e132 i13 j13
            subst e132
            have hsm := same_nums (HT.out.2.2.1 WT (FrQ.refl _ _)) (HT.out.2.2.2.1 WT (FrQ.refl _ _)) (Nat.le_trans (tell_len _ _ _) (by rw [← HVO.out.1]; omega))
            obtain ⟨-, x1, -⟩ := HX.out WT (ck_all HW9.out.1 HT.out.2.1)
            go_wp2_with fail
            refine hsm.mono ?_
            rintro e w20 ⟨rfl, hb20⟩
            clear hsm x1
            obtain ⟨-, x1, -⟩ := HX.out w20 (ck_all (ck_all HW9.out.1 HT.out.2.1) hb20.out)
            have HB20 : Hid (Below WT.heap.size WT w20) := hb20.out
            clear hb20
            go_wp2_with fail
            clear x1
            have HAV : Hid (0 < n13 → a13 = some ⟨b13, q13, none⟩) := i13
            obtain ⟨p13, bv, qv, cv, ev, -, -, iv', jv⟩ := HT.out.2.2.2.2.2.1 WT (FrQ.refl _ _)
            injection ev with ev1 ev2 ev3
            rw [List.length_map, ← HVO.out.1] at ev2 iv' jv
            have HVV : Hid (0 < n13 → a13 = some ⟨bv, qv, none⟩) := fun hp => by rw [ev1]; exact iv' hp
            have HVE : Hid (n13 = n13) := ev2
            have HCV : Hid (∀ wq, Below WT.heap.size WT wq → wq.cell? ⟨cb, 1, none⟩ = some (.slice a n13 m) ∧ ∀ (i : Nat) (v : Decl), c.vars[i]? = some v → wq.cell? ⟨vg, i * 3, none⟩ = some (.int .i64 (v.kind : Int)) ∧ ∃ X Y : Int, wq.cell? ⟨b13, q13 + i, none⟩ = some (.int .i64 X) ∧ wq.cell? ⟨bv, qv + i, none⟩ = some (.int .i64 Y) ∧ (v.kind ≠ 1 → X = Y)) := fun wq hb => by
              have hB := ck_all (ck_all HW9.out.1 HT.out.2.1) hb
              refine ⟨(HX.out wq hB).2.1, fun i v hi => ⟨HVO.out.2.2 wq hB i v hi, nE v.name, n1 v.name, ?_, ?_, fun hk => HT.out.2.2.2.2.2.2 v (List.mem_of_getElem? hi) hk⟩⟩
              · have hil : i < n13 := by rw [HVO.out.1]; exact (List.getElem?_eq_some_iff.1 hi).1
                have := j13 i hil
                rw [List.getD_eq_getElem?_getD, List.getElem?_map, hi] at this
                exact ck_cell hb this
              · have hil : i < n13 := by rw [HVO.out.1]; exact (List.getElem?_eq_some_iff.1 hi).1
                have := jv i hil
                rw [List.getD_eq_getElem?_getD, List.getElem?_map, hi] at this
                exact ck_cell hb this
            clear i13 j13 iv' jv ev1 ev2 ev3
            go_loopg [17] n13 (fun f jv wq => ∃ j : Nat, f = n13 - j ∧ j ≤ n13 ∧ jv = .int .i64 (j : Int) ∧ Hid (Below WT.heap.size WT wq))
            case atStart => exact ⟨0, by omega, by omega, rfl, HB20.out⟩
            case round =>
              obtain ⟨j, rfl, hj, rfl, hr⟩ := hrel
              obtain ⟨W3, hW3⟩ : ∃ W, W = wr := ⟨_, rfl⟩
              subst hW3
              by_cases hj2 : j < n13
              · obtain ⟨v, hv⟩ : ∃ v, c.vars[j]? = some v := ⟨c.vars[j]'(by rw [← HVO.out.1]; exact hj2), by rw [List.getElem?_eq_getElem]⟩
                obtain ⟨u1, u2⟩ := HCV.out W3 hr.out
                obtain ⟨u3, X, Y, u4, u5, u6⟩ := u2 j v hv
                have hixv := ixV a vg n13 m j hj2 HVO.out.2.1
                have hix3 := ixN a13 b13 q13 n13 m13 j hj2 HAV.out
                have hix4 := ixN a13 bv qv n13 m13 j (by rw [HVE.out]; exact hj2) (fun _ => HVV.out (by omega))
                have HB3 : Hid (Below WT.heap.size WT W3.drew) := hr.out.drew
                have HBN : Hid (∀ q, Below WT.heap.size WT (W3.drewN q)) := fun q => below_drewN hr.out q
                clear hr u2 hv
                by_cases hkd : v.kind = 1
                · rw [hkd] at u3
                  have u3' : W3.cell? ⟨vg, j * 3, none⟩ = some (.int .i64 1) := u3
                  clear u3 u6 hkd
                  go_upto_region 29 with fail
                  go_region
                  all_goals
                    go_wp2_with fail
                    go_roundg (n13 - (j + 1))
                    case measure => omega
                    case rel => exact ⟨j + 1, by omega, by omega, by go_num, HB3.out⟩
                · obtain rfl := u6 hkd
                  obtain ⟨kd, hke⟩ : ∃ kd : Int, kd = (v.kind : Int) := ⟨_, rfl⟩
                  rw [← hke] at u3
                  have hkn : ¬ kd = 1 := by omega
                  clear u6 hkd hke
                  go_upto_region 29 with fail
                  go_quiet (fail)
                  all_goals
                    go_wp2_with fail
                    go_roundg (n13 - (j + 1))
                    case measure => omega
                    case rel => exact ⟨j + 1, by omega, by omega, by go_num, HBN.out _⟩
              · obtain rfl : n13 = j := by omega
                have HE : Hid (RestI c rs A2 Q2 W9 W3 n1 ⟨nE, nE, [wrapD ds]⟩ rb2 y2 (.slice a12 n12 m12) (.slice a13 n13 m13)) := ⟨HT.out.1.below hr.out, ⟨nE, nE, ds, rfl, HT.out.2.2.2.2.2.2⟩, fun w'' hf => HT.out.2.2.2.1 w'' ((FrQ.of_below hr.out).trans hf), fun w'' hf => HT.out.2.2.2.2.2.1 w'' ((FrQ.of_below hr.out).trans hf), ck_all HT.out.2.1 hr.out⟩
                clear hr
                go_wp2_with fail
                go_roundg (N - (0 + 1))
                case measure => omega
                case rel => exact ⟨0 + 1, a12, a13, n12, m12, n13, m13, by omega, by omega, rfl, rfl, by go_num, .inr ⟨by omega, n1, _, HE.out⟩⟩
          · have hk0 : ¬ (k : Int) = 0 := by omega
            have hix := ixM iad ib io N ic k hlt H.out.2.2.1
            have hbW : Below w.heap.size w W := ck_all HW.out.2.2.2 (ck_all HW9.out.1 hR.bel)
            obtain ⟨n0, nw, ds, rfl, hsm0⟩ := hR.st
            have hci := ck_cell hbW HZ.out.1
            have hT1 := tick_run hR.run HD.out.2.run (HZ.out.2.1.below hbW) HZ.out.2.2 (wrap_rest c rs zs n0 nw ds)
            obtain ⟨nE, hnE⟩ : ∃ nE, nE = hearE c.vars zs n0 := ⟨_, rfl⟩
            rw [← hnE] at hT1
            have HK : Hid (Same1 c.vars nE n1 ∧ RestI c rs A2 Q2 W9 W n1 ⟨n0, nw, [wrapD ds]⟩ rb2 y2 (.slice fa fn fm) (.slice va vn vm)) := ⟨by rw [hnE]; exact hear_same (check_dist H.out.1.ok) hsm0 zs, hR⟩
            clear hr hR hbW hsm0 hnE
            go_wp2_with fail
            refine hT1.mono ?_
            rintro e w12 ⟨a12, n12, m12, rfl, h12⟩
            clear hT1 hci
            obtain ⟨hR12, hr12, hf12⟩ := h12.out
            have hV := Vars_any hR12 HD.out.2.run
            have H12 : Hid (RnM A2 w12 (wrapC c rs) ⟨nE, nE, [wrapD ds]⟩ rb2 Q2 y2 ∧ (∀ w'', FrQ Q2 w12 w'' → INums w'' (.slice a12 n12 m12) (tellC (fun k => decide (k = 2)) c.vars n1)) ∧ FrQ Q2 W w12 ∧ Below W9.heap.size W9 w12) := ⟨hR12, fun w'' hf => by
                have h := hr12 Q2 w'' HK.out.2.run.hQ hf
                rw [show outsC (wrapC c rs) ⟨nE, nE, [wrapD ds]⟩ = tellC (fun k => decide (k = 2)) c.vars n1 from tell_same HK.out.1] at h
                exact h, hf12, below_frq HK.out.2.bel hf12 HQ.out.2.1 HK.out.2.bel.size⟩
            clear h12 hR12 hr12 hf12
            go_wp2_with fail
            refine hV.mono ?_
            rintro e w13 ⟨a13, n13, m13, rfl, h13⟩
            clear hV
            obtain ⟨WT, hWT⟩ : ∃ WT, WT = w13 := ⟨_, rfl⟩
            subst hWT
            have HT : Hid (RnM A2 WT (wrapC c rs) ⟨nE, nE, [wrapD ds]⟩ rb2 Q2 y2 ∧ Below W9.heap.size W9 WT ∧ (∀ w'', FrQ Q2 WT w'' → INums w'' (.slice a12 n12 m12) (tellC (fun k => decide (k = 2)) c.vars n1)) ∧ (∀ w'', FrQ Q2 WT w'' → INums w'' (.slice fa fn fm) (tellC (fun k => decide (k = 2)) c.vars n1)) ∧ (∀ w'', FrQ Q2 WT w'' → INums w'' (.slice a13 n13 m13) (c.vars.map fun v => nE v.name)) ∧ (∀ w'', FrQ Q2 WT w'' → INums w'' (.slice va vn vm) (c.vars.map fun v => n1 v.name)) ∧ Same1 c.vars nE n1) := by
              have hb := h13.out.2
              exact ⟨H12.out.1.below hb, ck_all H12.out.2.2.2 hb, fun w'' hf => H12.out.2.1 w'' ((FrQ.of_below hb).trans hf), fun w'' hf => HK.out.2.first w'' (H12.out.2.2.1.trans ((FrQ.of_below hb).trans hf)), fun w'' hf => by
                have h := row_apart h13.out.1 H12.out.1.hQ hf
                rw [tellC_all] at h
                exact h, fun w'' hf => HK.out.2.vars w'' (H12.out.2.2.1.trans ((FrQ.of_below hb).trans hf)), HK.out.1⟩
            clear h13 H12 HK
            go_upto_region 24 with fail
            obtain ⟨o13, b13, q13, c13, e13, -, -, i13, j13⟩ := HT.out.2.2.2.2.1 WT (FrQ.refl _ _)
            injection e13 with e131 e132 e133
            subst e131
            subst e133
            rw [List.length_map, ← HVO.out.1] at e132 i13 j13
            subst e132
            have hsm := same_nums (HT.out.2.2.1 WT (FrQ.refl _ _)) (HT.out.2.2.2.1 WT (FrQ.refl _ _)) (Nat.le_trans (tell_len _ _ _) (by rw [← HVO.out.1]; omega))
            obtain ⟨-, x1, -⟩ := HX.out WT (ck_all HW9.out.1 HT.out.2.1)
            go_wp2_with fail
            refine hsm.mono ?_
            rintro e w20 ⟨rfl, hb20⟩
            clear hsm x1
            obtain ⟨-, x1, -⟩ := HX.out w20 (ck_all (ck_all HW9.out.1 HT.out.2.1) hb20.out)
            have HB20 : Hid (Below WT.heap.size WT w20) := hb20.out
            clear hb20
            go_wp2_with fail
            clear x1
            have HAV : Hid (0 < n13 → a13 = some ⟨b13, q13, none⟩) := i13
            obtain ⟨p13, bv, qv, cv, ev, -, -, iv', jv⟩ := HT.out.2.2.2.2.2.1 WT (FrQ.refl _ _)
            injection ev with ev1 ev2 ev3
            rw [List.length_map, ← HVO.out.1] at ev2 iv' jv
            have HVV : Hid (0 < n13 → va = some ⟨bv, qv, none⟩) := fun hp => by rw [ev1]; exact iv' hp
            have HVE : Hid (vn = n13) := ev2
            have HCV : Hid (∀ wq, Below WT.heap.size WT wq → wq.cell? ⟨cb, 1, none⟩ = some (.slice a n13 m) ∧ ∀ (i : Nat) (v : Decl), c.vars[i]? = some v → wq.cell? ⟨vg, i * 3, none⟩ = some (.int .i64 (v.kind : Int)) ∧ ∃ X Y : Int, wq.cell? ⟨b13, q13 + i, none⟩ = some (.int .i64 X) ∧ wq.cell? ⟨bv, qv + i, none⟩ = some (.int .i64 Y) ∧ (v.kind ≠ 1 → X = Y)) := fun wq hb => by
              have hB := ck_all (ck_all HW9.out.1 HT.out.2.1) hb
              refine ⟨(HX.out wq hB).2.1, fun i v hi => ⟨HVO.out.2.2 wq hB i v hi, nE v.name, n1 v.name, ?_, ?_, fun hk => HT.out.2.2.2.2.2.2 v (List.mem_of_getElem? hi) hk⟩⟩
              · have hil : i < n13 := by rw [HVO.out.1]; exact (List.getElem?_eq_some_iff.1 hi).1
                have := j13 i hil
                rw [List.getD_eq_getElem?_getD, List.getElem?_map, hi] at this
                exact ck_cell hb this
              · have hil : i < n13 := by rw [HVO.out.1]; exact (List.getElem?_eq_some_iff.1 hi).1
                have := jv i hil
                rw [List.getD_eq_getElem?_getD, List.getElem?_map, hi] at this
                exact ck_cell hb this
            clear i13 j13 iv' jv ev1 ev2 ev3
            go_loopg [17] n13 (fun f jv wq => ∃ j : Nat, f = n13 - j ∧ j ≤ n13 ∧ jv = .int .i64 (j : Int) ∧ Hid (Below WT.heap.size WT wq))
            case atStart => exact ⟨0, by omega, by omega, rfl, HB20.out⟩
            case round =>
              obtain ⟨j, rfl, hj, rfl, hr⟩ := hrel
              obtain ⟨W3, hW3⟩ : ∃ W, W = wr := ⟨_, rfl⟩
              subst hW3
              by_cases hj2 : j < n13
              · obtain ⟨v, hv⟩ : ∃ v, c.vars[j]? = some v := ⟨c.vars[j]'(by rw [← HVO.out.1]; exact hj2), by rw [List.getElem?_eq_getElem]⟩
                obtain ⟨u1, u2⟩ := HCV.out W3 hr.out
                obtain ⟨u3, X, Y, u4, u5, u6⟩ := u2 j v hv
                have hixv := ixV a vg n13 m j hj2 HVO.out.2.1
                have hix3 := ixN a13 b13 q13 n13 m13 j hj2 HAV.out
                have hix4 := ixN va bv qv vn vm j (by rw [HVE.out]; exact hj2) (fun _ => HVV.out (by omega))
                have HB3 : Hid (Below WT.heap.size WT W3.drew) := hr.out.drew
                have HBN : Hid (∀ q, Below WT.heap.size WT (W3.drewN q)) := fun q => below_drewN hr.out q
                clear hr u2 hv
                by_cases hkd : v.kind = 1
                · rw [hkd] at u3
                  have u3' : W3.cell? ⟨vg, j * 3, none⟩ = some (.int .i64 1) := u3
                  clear u3 u6 hkd
                  go_upto_region 29 with fail
                  go_region
                  all_goals
                    go_wp2_with fail
                    go_roundg (n13 - (j + 1))
                    case measure => omega
                    case rel => exact ⟨j + 1, by omega, by omega, by go_num, HB3.out⟩
                · obtain rfl := u6 hkd
                  obtain ⟨kd, hke⟩ : ∃ kd : Int, kd = (v.kind : Int) := ⟨_, rfl⟩
                  rw [← hke] at u3
                  have hkn : ¬ kd = 1 := by omega
                  clear u6 hkd hke
                  go_upto_region 29 with fail
                  go_quiet (fail)
                  all_goals
                    go_wp2_with fail
                    go_roundg (n13 - (j + 1))
                    case measure => omega
                    case rel => exact ⟨j + 1, by omega, by omega, by go_num, HBN.out _⟩
              · obtain rfl : n13 = j := by omega
                have HE : Hid (RestI c rs A2 Q2 W9 W3 n1 ⟨nE, nE, [wrapD ds]⟩ rb2 y2 (.slice fa fn fm) (.slice va vn vm)) := ⟨HT.out.1.below hr.out, ⟨nE, nE, ds, rfl, HT.out.2.2.2.2.2.2⟩, fun w'' hf => HT.out.2.2.2.1 w'' ((FrQ.of_below hr.out).trans hf), fun w'' hf => HT.out.2.2.2.2.2.1 w'' ((FrQ.of_below hr.out).trans hf), ck_all HT.out.2.1 hr.out⟩
                clear hr
                go_wp2_with fail
                go_roundg (N - (k + 1))
                case measure => omega
                case rel => exact ⟨k + 1, fa, va, fn, fm, vn, vm, by omega, by omega, rfl, rfl, by go_num, .inr ⟨by omega, n1, _, HE.out⟩⟩
        · obtain rfl : k = N := by omega
          have HB : Hid (Below w.heap.size w W) := by
            rcases hr.out with ⟨_, _, _, h⟩ | ⟨_, n1, r, h⟩
            · exact ck_all HW.out.2.2.2 (ck_all HW9.out.1 h)
            · exact ck_all HW.out.2.2.2 (ck_all HW9.out.1 h.bel)
          clear hr
          go_wp2_with fail
          go_ret
          exact ⟨rfl, HB.out⟩
  · have hdx : (6 : Int) ≤ dx := by rw [h3.out.1]; omega
    have HB : Hid (Below w.heap.size w w3) := ck_all HW.out.2.2.2 h3.out.2
    clear h3
    go_wp2_with fail
    go_ret
    exact ⟨rfl, HB.out⟩
set_option maxHeartbeats 2000000 in
theorem runRests_many {s : ByteArray} {w : World} {iv : Value} {zss : List (List Int)} (hI : IRws w iv zss) (h : ¬ Few zss) :
    Calls Tryz.prog 5 #[.string s, iv] w fun e w' => e = .returned (.bool true) ∧ Hid (Below w.heap.size w w') := by
  have hf := few_no hI h
  obtain ⟨iad, ib, io, ic, rfl, _⟩ := hI
  go_enter Tryz.func5, Tryz.ntmps5
  go_wp2_with fail
  refine hf.mono ?_
  rintro e w0 ⟨rfl, hw0⟩
  obtain rfl := hw0.symm
  clear hf
  go_wp2_with fail
  go_ret
  exact ⟨rfl, Below.refl _ _⟩
set_option maxHeartbeats 2000000 in
theorem runRests_none {s : ByteArray} {w : World} {iv : Value} {zss : List (List Int)} (hI : IRws w iv zss) (h : Few zss) (hv : KEnv0 w) (hn : ∀ w, KEnv0 w → Calls Tryz.prog 13 #[.string s] w fun e w' => e = .returned (.tuple #[.agg #[.string ⟨#[]⟩, .slice none 0 0, .slice none 0 0], .bool false]) ∧ Hid (Below w.heap.size w w')) :
    Calls Tryz.prog 5 #[.string s, iv] w fun e w' => e = .returned (.bool true) ∧ Hid (Below w.heap.size w w') := by
  have hf := few_yes hI h
  have hr := ran_any hv
  have HN : Hid (∀ w', Below w.heap.size w w' → Calls Tryz.prog 13 #[.string s] w' fun e w'' => e = .returned (.tuple #[.agg #[.string ⟨#[]⟩, .slice none 0 0, .slice none 0 0], .bool false]) ∧ Hid (Below w'.heap.size w' w'')) := fun w' hb => hn w' (hv.up hb)
  obtain ⟨iad, ib, io, ic, rfl, _⟩ := hI
  clear hv hn
  go_enter Tryz.func5, Tryz.ntmps5
  go_wp2_with fail
  refine hf.mono ?_
  rintro e w0 ⟨rfl, hw0⟩
  obtain rfl := hw0.symm
  clear hf
  go_wp2_with fail
  refine hr.mono ?_
  rintro e w1 ⟨rfl, hb1⟩
  clear hr
  have hc := HN.out w1 hb1.out
  clear HN
  go_wp2_with fail
  refine hc.mono ?_
  rintro e w2 ⟨rfl, hb2⟩
  clear hc
  have HB : Hid (Below w.heap.size w (w2.alloc (.cells #[.string ⟨#[]⟩, .slice none 0 0, .slice none 0 0] 28))) := ck_all (ck_all hb1.out hb2.out) (ck_grown _ _)
  go_wp2_with fail
  go_ret
  exact ⟨rfl, HB.out⟩
theorem runRests_any (s : ByteArray) {w : World} {iv : Value} {zss : List (List Int)} (hv : KEnv0 w) (hI : IRws w iv zss) (h64 : ∀ zs ∈ zss, ∀ y ∈ zs, N64 y) :
    Calls Tryz.prog 5 #[.string s, iv] w fun e w' => e = .returned (.bool true) ∧ Hid (Below w.heap.size w w') := by
  by_cases hf : Few zss
  · rcases may_or s with ⟨l, c, h1, h2, h3, h4⟩ | hn
    · exact runRests_fine h1 hv h2 h3 h4 hI hf h64
    · exact runRests_none hI hf hv hn
  · exact runRests_many hI hf
end Kx
end Go.Proofs.YtecbilopliblpaaGreatDoor
