/- keep's chart: what a text draws that may be. -/
import Derived.Test.YtanlfmhlohcmgaaGreatDoorQLaidK
import Derived.Test.YtanlfmhlohcmgaaGreatDoorQKs
namespace Go.Proofs.YtanlfmhlohcmgaaGreatDoor
open Go.RowKit Px
namespace Kx

theorem put3 {X : World} {fb T : Nat} {x y z : Value} (h : X.heap[fb]? = some (.cells #[x, y, z] T (0, 0))) (a b c : Value) : (((X.setCell ⟨fb, 0, none⟩ a).setCell ⟨fb, 1, none⟩ b).setCell ⟨fb, 2, none⟩ c).heap[fb]? = some (.cells #[a, b, c] T (0, 0)) :=
  ck_set (l := [a, b, z]) (ck_set (l := [a, y, z]) (ck_set (l := [x, y, z]) h 0 a) 1 b) 2 c
theorem below_put3 {w X : World} {fb : Nat} (h : Below w.heap.size w X) (hb : w.heap.size ≤ fb) (a b c : Value) : Below w.heap.size w (((X.setCell ⟨fb, 0, none⟩ a).setCell ⟨fb, 1, none⟩ b).setCell ⟨fb, 2, none⟩ c) :=
  ((h.setCell hb _).setCell hb _).setCell hb _
set_option maxRecDepth 100000 in
set_option maxHeartbeats 4000000 in
/-- of a text that draws a chart -/
theorem chart_drawn {s : ByteArray} {l : List Lx.Tok} {c : Chart} {w : World} (hs : s.size ≤ 1500) (hv : KEnv w) (hok : Lx.Ok (bs s) l) (hch : chart (fin s l) = .ok c) :
    Calls Tryz.prog 14 #[.string s] w fun e w' => (checkC c = none ∧ ∃ S a n m a' n' m', e = .returned (.tuple #[.agg #[.string S, .slice a n m, .slice a' n' m'], .bool true]) ∧ Hid (IsChart (fun b => w.heap.size < b) w' c (.agg #[.string S, .slice a n m, .slice a' n' m']) ∧ Below w.heap.size w w')) ∨
      (checkC c ≠ none ∧ e = .returned (.tuple #[.agg #[.string ⟨#[]⟩, .slice none 0 0, .slice none 0 0], .bool false]) ∧ Hid (Below w.heap.size w w')) := by
  have hN := nmChart (wf_ok hok) hch
  obtain ⟨W0, hW0⟩ : ∃ W0, W0 = w.alloc (.cells #[.string ⟨#[]⟩, .slice none 0 0, .slice none 0 0] 25) := ⟨_, rfl⟩
  have hb0 : Below w.heap.size w W0 := by rw [hW0]; exact ck_grown w _
  have hp : Calls Tryz.prog 16 #[.string s] W0 fun e w' => ∃ S a n m a' n' m', e = .returned (.tuple #[.agg #[.string S, .slice a n m, .slice a' n' m'], .nilIface]) ∧ Hid (IsChart (fun b => w.heap.size < b) w' c (.agg #[.string S, .slice a n m, .slice a' n' m']) ∧ Below W0.heap.size W0 w') :=
    (parse_ok s l c W0 (by omega) (hv.up hb0).big (hv.up hb0).tabs (hv.up hb0).marks hok hch).mono fun e w' ⟨v, he, hC, hb⟩ => by
      obtain ⟨a, n, m, a', n', m', rfl, h1, h2⟩ := hC
      have kp : Keep (Ge W0.heap.size) (fun b => w.heap.size < b) w' w' := fun b hb' _ => ⟨by have h3 : W0.heap.size ≤ b := hb'; rw [hW0] at h3; simp at h3; omega, rfl⟩
      exact ⟨_, a, n, m, a', n', m', he, ⟨a, n, m, a', n', m', rfl, h1.carry kp, h2.carry kp (IsStates.carry kp 6)⟩, hb⟩
  have HB0 : Hid (Below w.heap.size w W0 ∧ W0.heap[w.heap.size]? = some (.cells #[.string ⟨#[]⟩, .slice none 0 0, .slice none 0 0] 25 (0, 0))) := ⟨hb0, by rw [hW0]; exact ck_new _ _⟩
  have hs1 : ¬ (1500 : Int) < (s.size : Int) := by omega
  have HN : Hid (NmChart c) := hN
  rw [hW0] at hp HB0
  clear hN hv hok hch hW0 hb0
  go_enter Tryz.func14, Tryz.ntmps14
  go_wp2_with fail
  refine hp.mono ?_
  rintro e w1 ⟨S, a, n, m, a', n', m', rfl, h1⟩
  obtain ⟨W1, hW1⟩ : ∃ W1, W1 = w1.alloc (.cells #[.string S, .slice a n m, .slice a' n' m'] 25) := ⟨_, rfl⟩
  have hb1 : Below w1.heap.size w1 W1 := by rw [hW1]; exact ck_grown w1 _
  have HW1 : Hid (IsChart (fun b => w.heap.size < b) W1 c (.agg #[.string S, .slice a n m, .slice a' n' m']) ∧ Below w.heap.size w W1 ∧ W1.heap[w.heap.size]? = some (.cells #[.string ⟨#[]⟩, .slice none 0 0, .slice none 0 0] 25 (0, 0)) ∧ W1.heap[w1.heap.size]? = some (.cells #[.string S, .slice a n m, .slice a' n' m'] 25 (0, 0))) :=
    ⟨chartUp h1.out.1 hb1, ck_all HB0.out.1 (ck_all h1.out.2 hb1), ck_block (ck_all h1.out.2 hb1) HB0.out.2, by rw [hW1]; exact ck_new _ _⟩
  have hck := check_any HW1.out.1 HN.out
  have x0 := cell_row HW1.out.2.2.2 0 (u := .string S) rfl
  have x1 := cell_row HW1.out.2.2.2 1 (u := .slice a n m) rfl
  have x2 := cell_row HW1.out.2.2.2 2 (u := .slice a' n' m') rfl
  obtain ⟨o, ho⟩ : ∃ o, Hid (checkC c = o) := ⟨_, rfl⟩
  rw [ho.out] at hck
  rw [hW1] at hck x0 x1 x2
  have HWE : Hid (W1 = _) := hW1
  clear hp hb1 hW1 h1
  unfold ChkOut at hck
  have HKW : Hid (∀ w', Below W1.heap.size W1 w' → IsChart (fun b => w.heap.size < b) w' c (.agg #[.string S, .slice a n m, .slice a' n' m']) ∧ Below w.heap.size w w' ∧ w'.heap[w.heap.size]? = some (.cells #[.string ⟨#[]⟩, .slice none 0 0, .slice none 0 0] 25 (0, 0)) ∧ w'.heap[w1.heap.size]? = some (.cells #[.string S, .slice a n m, .slice a' n' m'] 25 (0, 0))) := fun w' hb => ⟨chartUp HW1.out.1 hb, ck_all HW1.out.2.1 hb, ck_block hb HW1.out.2.2.1, ck_block hb HW1.out.2.2.2⟩
  go_wp2_with fail
  cases o with
  | none =>
    have hc2 : Calls Tryz.prog 9 #[.agg #[.string S, .slice a n m, .slice a' n' m']] (w1.alloc (.cells #[.string S, .slice a n m, .slice a' n' m'] 25)) fun e w' => e = .returned .nilIface ∧ Hid (Below W1.heap.size W1 w') := by
      rw [← HWE.out] at hck ⊢
      exact hck.mono fun e w' ⟨hb, ho⟩ => by
        rcases ho with ⟨_, he⟩ | ⟨_, he, _⟩ | ⟨_, _, _, he, _⟩
        · exact ⟨he, hb⟩
        · simp at he
        · simp at he
    clear hck x0 x1 x2
    refine hc2.mono ?_
    rintro e w2 ⟨rfl, hb2⟩
    obtain ⟨k1, k2, k3, k4⟩ := HKW.out w2 hb2.out
    have x0 := cell_row k4 0 (u := .string S) rfl
    have x1 := cell_row k4 1 (u := .slice a n m) rfl
    have x2 := cell_row k4 2 (u := .slice a' n' m') rfl
    have f0 := cell_row k3 0 (u := .string ⟨#[]⟩) rfl
    have f1 := cell_row k3 1 (u := .slice none 0 0) rfl
    have f2 := cell_row k3 2 (u := .slice none 0 0) rfl
    have z0 := ck_frozen k3 0
    have z1 := ck_frozen k3 1
    have z2 := ck_frozen k3 2
    have HB2 : Hid (Below w.heap.size w w2 ∧ w2.heap[w.heap.size]? = some (.cells #[.string ⟨#[]⟩, .slice none 0 0, .slice none 0 0] 25 (0, 0)) ∧ IsChart (fun b => w.heap.size < b) w2 c (.agg #[.string S, .slice a n m, .slice a' n' m'])) := ⟨k2, k3, k1⟩
    clear k1 k2 k3 k4 hc2
    go_wp2_with fail
    refine bodyPost_ret (resultsQ _ _ w.heap.size #[.string S, .slice a n m, .slice a' n' m'] rfl rfl (put3 HB2.out.2.1 _ _ _)) rfl ?_
    refine .inl ⟨ho.out, S, a, n, m, a', n', m', rfl, ?_, below_put3 HB2.out.1 (Nat.le_refl _) _ _ _⟩
    obtain ⟨a2, n2, m2, a3, n3, m3, e, q1, q2⟩ := HB2.out.2.2
    have kp : Keep (fun b => w.heap.size < b) (fun b => w.heap.size < b) w2 (((w2.setCell ⟨w.heap.size, 0, none⟩ (.string S)).setCell ⟨w.heap.size, 1, none⟩ (.slice a n m)).setCell ⟨w.heap.size, 2, none⟩ (.slice a' n' m')) := fun b hb' _ => ⟨hb', by
      have hne : b ≠ w.heap.size := by have : w.heap.size < b := hb'; omega
      rw [Below.heap_setCell _ _ _ _ hne, Below.heap_setCell _ _ _ _ hne, Below.heap_setCell _ _ _ _ hne]⟩
    exact ⟨a2, n2, m2, a3, n3, m3, e, q1.carry kp, q2.carry kp (IsStates.carry kp 6)⟩
  | some x =>
    obtain ⟨cc, pl⟩ := x
    have HNE : Hid (checkC c ≠ none) := by rw [Hid, ho.out]; simp
    cases pl with
    | none =>
      have hc2 : Calls Tryz.prog 9 #[.agg #[.string S, .slice a n m, .slice a' n' m']] (w1.alloc (.cells #[.string S, .slice a n m, .slice a' n' m'] 25)) fun e w' => e = .returned (.iface 26 (.int .i64 ((cc : Nat) : Int))) ∧ Hid (Below W1.heap.size W1 w') := by
        rw [← HWE.out] at hck ⊢
        exact hck.mono fun e w' ⟨hb, ho⟩ => by
          rcases ho with ⟨he, _⟩ | ⟨c', he, h1⟩ | ⟨_, _, _, he, _⟩
          · simp at he
          · simp at he
            subst he
            exact ⟨h1, hb⟩
          · simp at he
      clear hck x0 x1 x2
      refine hc2.mono ?_
      rintro e w2 ⟨rfl, hb2⟩
      obtain ⟨k1, k2, k3, k4⟩ := HKW.out w2 hb2.out
      have f0 := cell_row k3 0 (u := .string ⟨#[]⟩) rfl
      have f1 := cell_row k3 1 (u := .slice none 0 0) rfl
      have f2 := cell_row k3 2 (u := .slice none 0 0) rfl
      have z0 := ck_frozen k3 0
      have z1 := ck_frozen k3 1
      have z2 := ck_frozen k3 2
      have HB2 : Hid (Below w.heap.size w w2 ∧ w2.heap[w.heap.size]? = some (.cells #[.string ⟨#[]⟩, .slice none 0 0, .slice none 0 0] 25 (0, 0))) := ⟨k2, k3⟩
      clear k1 k2 k3 k4 hc2
      go_wp2_with fail
      refine bodyPost_ret (resultsQ _ _ w.heap.size #[.string ⟨#[]⟩, .slice none 0 0, .slice none 0 0] rfl rfl (put3 HB2.out.2 _ _ _)) rfl ?_
      exact .inr ⟨HNE.out, rfl, below_put3 HB2.out.1 (Nat.le_refl _) _ _ _⟩
    | some p =>
      have hc2 : Calls Tryz.prog 9 #[.agg #[.string S, .slice a n m, .slice a' n' m']] (w1.alloc (.cells #[.string S, .slice a n m, .slice a' n' m'] 25)) fun e w' => ∃ g, e = .returned (.iface 65 (.pointer (some ⟨g, 0, none⟩))) ∧ Hid (Below W1.heap.size W1 w') := by
        rw [← HWE.out] at hck ⊢
        exact hck.mono fun e w' ⟨hb, ho⟩ => by
          rcases ho with ⟨he, _⟩ | ⟨c', he, h1⟩ | ⟨c', p', g, he, h1, _⟩
          · simp at he
          · simp at he
          · exact ⟨g, h1, hb⟩
      clear hck x0 x1 x2
      refine hc2.mono ?_
      rintro e w2 ⟨ge, rfl, hb2⟩
      obtain ⟨k1, k2, k3, k4⟩ := HKW.out w2 hb2.out
      have f0 := cell_row k3 0 (u := .string ⟨#[]⟩) rfl
      have f1 := cell_row k3 1 (u := .slice none 0 0) rfl
      have f2 := cell_row k3 2 (u := .slice none 0 0) rfl
      have z0 := ck_frozen k3 0
      have z1 := ck_frozen k3 1
      have z2 := ck_frozen k3 2
      have HB2 : Hid (Below w.heap.size w w2 ∧ w2.heap[w.heap.size]? = some (.cells #[.string ⟨#[]⟩, .slice none 0 0, .slice none 0 0] 25 (0, 0))) := ⟨k2, k3⟩
      clear k1 k2 k3 k4 hc2
      go_wp2_with fail
      refine bodyPost_ret (resultsQ _ _ w.heap.size #[.string ⟨#[]⟩, .slice none 0 0, .slice none 0 0] rfl rfl (put3 HB2.out.2 _ _ _)) rfl ?_
      exact .inr ⟨HNE.out, rfl, below_put3 HB2.out.1 (Nat.le_refl _) _ _ _⟩
set_option maxRecDepth 100000 in
set_option maxHeartbeats 2000000 in
/-- of a text that draws none, or is too long -/
theorem chart_none {s : ByteArray} {w : World} (hv : KEnv w) (hno : s.size ≤ 1500 → ∀ l c, ¬ (Lx.Ok (bs s) l ∧ chart (fin s l) = .ok c)) :
    Calls Tryz.prog 14 #[.string s] w fun e w' => e = .returned (.tuple #[.agg #[.string ⟨#[]⟩, .slice none 0 0, .slice none 0 0], .bool false]) ∧ Hid (Below w.heap.size w w') := by
  have hfz : (w.alloc (.cells #[.string ⟨#[]⟩, .slice none 0 0, .slice none 0 0] 25)).heap[w.heap.size]? = some (.cells #[.string ⟨#[]⟩, .slice none 0 0, .slice none 0 0] 25 (0, 0)) := ck_new _ _
  have f0 := cell_row hfz 0 (u := .string ⟨#[]⟩) rfl
  have f1 := cell_row hfz 1 (u := .slice none 0 0) rfl
  have f2 := cell_row hfz 2 (u := .slice none 0 0) rfl
  have z0 := ck_frozen hfz 0
  have z1 := ck_frozen hfz 1
  have z2 := ck_frozen hfz 2
  have HFZ : Hid _ := hfz
  by_cases hs : s.size ≤ 1500
  · have hs1 : ¬ (1500 : Int) < (s.size : Int) := by omega
    have hb0 : Below w.heap.size w (w.alloc (.cells #[.string ⟨#[]⟩, .slice none 0 0, .slice none 0 0] 25)) := ck_grown w _
    have hp : Calls Tryz.prog 16 #[.string s] (w.alloc (.cells #[.string ⟨#[]⟩, .slice none 0 0, .slice none 0 0] 25)) fun e w' => ∃ g, e = .returned (.tuple #[.agg #[.string ⟨#[]⟩, .slice none 0 0, .slice none 0 0], .iface 65 (.pointer (some ⟨g, 0, none⟩))]) ∧ Hid (Below (w.alloc (.cells #[.string ⟨#[]⟩, .slice none 0 0, .slice none 0 0] 25)).heap.size (w.alloc (.cells #[.string ⟨#[]⟩, .slice none 0 0, .slice none 0 0] 25)) w') := by
      have hv0 := hv.up hb0
      by_cases hl : ∃ l, Lx.Ok (bs s) l
      · obtain ⟨l, hok⟩ := hl
        cases hch : chart (fin s l) with
        | ok c => exact absurd ⟨hok, hch⟩ (hno hs l c)
        | error f => exact (parse_err s l f _ (by omega) hv0.big hv0.tabs hv0.marks hok hch).mono fun e w' ⟨g, he, _, hb⟩ => ⟨g, he, hb⟩
      · exact (parse_bad s _ (by omega) hv0.marks (fun l h => hl ⟨l, h⟩)).mono fun e w' ⟨_, _, g, he, _, _, hb⟩ => ⟨g, he, hb⟩
    clear hv hno hb0 hfz f0 f1 f2 z0 z1 z2
    go_enter Tryz.func14, Tryz.ntmps14
    go_wp2_with fail
    refine hp.mono ?_
    rintro e w1 ⟨g, rfl, hb1⟩
    have hfy : (w1.alloc (.cells #[.string ⟨#[]⟩, .slice none 0 0, .slice none 0 0] 25)).heap[w.heap.size]? = some (.cells #[.string ⟨#[]⟩, .slice none 0 0, .slice none 0 0] 25 (0, 0)) := ck_old (ck_block hb1.out HFZ.out)
    have f0 := cell_row hfy 0 (u := .string ⟨#[]⟩) rfl
    have f1 := cell_row hfy 1 (u := .slice none 0 0) rfl
    have f2 := cell_row hfy 2 (u := .slice none 0 0) rfl
    have z0 := ck_frozen hfy 0
    have z1 := ck_frozen hfy 1
    have z2 := ck_frozen hfy 2
    have HFY : Hid _ := hfy
    clear hfy hp
    go_wp2_with fail
    refine bodyPost_ret (resultsQ _ _ w.heap.size #[.string ⟨#[]⟩, .slice none 0 0, .slice none 0 0] rfl rfl (put3 HFY.out _ _ _)) rfl ?_
    exact ⟨rfl, below_put3 (ck_all (ck_all (ck_grown _ _) hb1.out) (ck_grown _ _)) (Nat.le_refl _) _ _ _⟩
  · have hs1 : (1500 : Int) < (s.size : Int) := by omega
    clear hv hno hs hfz
    go_enter Tryz.func14, Tryz.ntmps14
    go_wp2_with fail
    refine bodyPost_ret (resultsQ _ _ w.heap.size #[.string ⟨#[]⟩, .slice none 0 0, .slice none 0 0] rfl rfl HFZ.out) rfl ?_
    exact ⟨rfl, ck_grown _ _⟩
end Kx
end Go.Proofs.YtanlfmhlohcmgaaGreatDoor
/- keep's judged: the two facts that the laws of chapter 4 ask first. -/
namespace Go.Proofs.YtanlfmhlohcmgaaGreatDoor
open Go.RowKit Px
namespace Kx

/-- a chart in memory: its regions are so many -/
theorem chartLen {A : Nat → Prop} {w : World} {c : Chart} {S a a' : Value} (h : IsChart A w c (.agg #[S, a, a'])) : ∃ adr m, a' = .slice adr c.regions.length m := by
  obtain ⟨a0, n0, m0, a1, n1, m1, e, _, hR⟩ := h
  obtain ⟨adr, gr, capr, er, _⟩ := hR.len
  have : a' = .slice a1 n1 m1 := by
    injection e with e
    simp at e
    exact e.2.2
  exact ⟨adr, capr, by rw [this, er]⟩
theorem parseAt {s : ByteArray} {l : List Lx.Tok} {c : Chart} {w : World} (hs : s.size ≤ 1500) (hv : KEnv w) (hok : Lx.Ok (bs s) l) (hch : chart (fin s l) = .ok c) :
    Calls Tryz.prog 16 #[.string s] w fun e w' => ∃ S a n m a' n' m', e = .returned (.tuple #[.agg #[.string S, .slice a n m, .slice a' n' m'], .nilIface]) ∧ Hid (IsChart (fun _ => True) w' c (.agg #[.string S, .slice a n m, .slice a' n' m']) ∧ Below w.heap.size w w') :=
  (parse_ok s l c w (by omega) hv.big hv.tabs hv.marks hok hch).mono fun e w' ⟨v, he, hC, hb⟩ => by
    obtain ⟨a, n, m, a', n', m', rfl, h1, h2⟩ := hC
    have kp : Keep (Ge w.heap.size) (fun _ => True) w' w' := fun b _ _ => ⟨trivial, rfl⟩
    exact ⟨_, a, n, m, a', n', m', he, ⟨a, n, m, a', n', m', rfl, h1.carry kp, h2.carry kp (IsStates.carry kp 6)⟩, hb⟩
set_option maxRecDepth 100000 in
set_option maxHeartbeats 4000000 in
theorem judged_any {w : World} (hv : KEnv w) : Calls Tryz.prog 13 #[] w fun e w' => e = .returned (.bool true) ∧ Hid (Below w.heap.size w w') := by
  obtain ⟨sm, hsm⟩ : ∃ sm : ByteArray, sm = ⟨smallL.toArray⟩ := ⟨_, rfl⟩
  obtain ⟨cy, hcy⟩ : ∃ cy : ByteArray, cy = ⟨cycL.toArray⟩ := ⟨_, rfl⟩
  obtain ⟨hok, hch⟩ := small_ok (s := sm) (by rw [hsm])
  obtain ⟨hok2, hch2⟩ := cyc_ok (s := cy) (by rw [hcy])
  have hsz : sm.size ≤ 1500 := by
    have : sm.size = smallL.length := by rw [hsm]; rfl
    rw [this]; decide
  have hsz2 : cy.size ≤ 1500 := by
    have : cy.size = cycL.length := by rw [hcy]; rfl
    rw [this]; decide
  have hN2 : Hid (NmChart cycC) := nmChart (wf_ok hok2) hch2
  have h1 : Calls Tryz.prog 14 #[.string sm] w fun e w' => ∃ S a n m a' m', e = .returned (.tuple #[.agg #[.string S, .slice a n m, .slice a' 1 m'], .bool true]) ∧ Hid (Below w.heap.size w w') :=
    (chart_drawn hsz hv hok hch).mono fun e w' h => by
      rcases h with ⟨_, S, a, n, m, a', n', m', he, hC⟩ | ⟨hne, _⟩
      · obtain ⟨x, y, hx⟩ := chartLen hC.out.1
        injection hx with q1 q2 q3
        subst q2
        exact ⟨S, a, n, m, a', m', he, hC.out.2⟩
      · exact absurd small_check hne
  have HP : Hid (∀ W, Below w.heap.size w W → Calls Tryz.prog 16 #[.string cy] W fun e w' => ∃ S a n m a' n' m', e = .returned (.tuple #[.agg #[.string S, .slice a n m, .slice a' n' m'], .nilIface]) ∧ Hid (IsChart (fun _ => True) w' cycC (.agg #[.string S, .slice a n m, .slice a' n' m']) ∧ Below W.heap.size W w')) := fun W hb => parseAt hsz2 (hv.up hb) hok2 hch2
  have HV : Hid (KEnv w) := hv
  rw [hsm] at h1
  rw [hcy] at HP
  clear hv hok hch hok2 hch2 hsz hsz2 hsm hcy
  go_enter Tryz.func13, Tryz.ntmps13
  go_wp2_with fail
  refine h1.mono ?_
  rintro e w1 ⟨S, a, n, m, a', m', rfl, hb1⟩
  have hB1 : Hid (Below w.heap.size w (w1.alloc (.cells #[.string S, .slice a n m, .slice a' 1 m'] 25))) := ck_all hb1.out (ck_grown _ _)
  have h2 := HP.out _ hB1.out
  have HN1 : Hid ((w1.alloc (.cells #[.string S, .slice a n m, .slice a' 1 m'] 25)).heap[w1.heap.size]? = some (.cells #[.string S, .slice a n m, .slice a' 1 m'] 25 (0, 0))) := ck_new _ _
  clear h1
  go_wp2_with fail
  refine h2.mono ?_
  rintro e w2 ⟨S2, a2, n2, m2, a3, n3, m3, rfl, hc2⟩
  obtain ⟨W2, hW2⟩ : ∃ W2, W2 = w2.alloc (.cells #[.string S2, .slice a2 n2 m2, .slice a3 n3 m3] 25) := ⟨_, rfl⟩
  have hg2 : Below w2.heap.size w2 W2 := by rw [hW2]; exact ck_grown _ _
  have HB2 : Hid (Below w.heap.size w W2) := ck_all (ck_all hB1.out hc2.out.2) hg2
  have k1 : W2.heap[w1.heap.size]? = some (.cells #[.string S, .slice a n m, .slice a' 1 m'] 25 (0, 0)) := ck_block (ck_all hc2.out.2 hg2) HN1.out
  have k2 : W2.heap[w2.heap.size]? = some (.cells #[.string S2, .slice a2 n2 m2, .slice a3 n3 m3] 25 (0, 0)) := by rw [hW2]; exact ck_new _ _
  have u2 := cell_row k1 2 (u := .slice a' 1 m') rfl
  have x0 := cell_row k2 0 (u := .string S2) rfl
  have x1 := cell_row k2 1 (u := .slice a2 n2 m2) rfl
  have x2 := cell_row k2 2 (u := .slice a3 n3 m3) rfl
  have hck : Calls Tryz.prog 9 #[.agg #[.string S2, .slice a2 n2 m2, .slice a3 n3 m3]] W2 fun e w' => ∃ g, e = .returned (.iface 65 (.pointer (some ⟨g, 0, none⟩))) ∧ Hid (w'.heap[g]? = some (.cells #[.int .i64 ((11 : Nat) : Int), .int .i64 ((0 : Nat) : Int)] 66 (0, 0)) ∧ Below w.heap.size w w') :=
    (check_any (chartUp hc2.out.1 hg2) hN2.out).mono fun e w' ⟨hb, ho⟩ => by
      rw [cyc_check] at ho
      rcases ho with ⟨he, _⟩ | ⟨c', he, _⟩ | ⟨c', p', g, he, h1, h2, _⟩
      · simp at he
      · simp at he
      · simp at he
        obtain ⟨rfl, rfl⟩ := he
        exact ⟨g, h1, h2, ck_all HB2.out hb⟩
  rw [hW2] at hck u2 x0 x1 x2
  clear h2 k1 k2 hg2 hW2
  go_wp2_with fail
  clear u2 x0 x1 x2
  refine hck.mono ?_
  rintro e w3 ⟨g, rfl, h3⟩
  have ht := tell_at g 11 0 w3 (HV.out.up h3.out.2).err h3.out.1
  clear hck
  go_wp2_with fail
  refine ht.mono ?_
  rintro e w4 ⟨rfl, hb4⟩
  have HB4 : Hid _ := hb4
  clear ht hb4
  go_wp2_with fail
  go_ret
  exact ⟨rfl, ck_all h3.out.2 HB4.out⟩
end Kx
end Go.Proofs.YtanlfmhlohcmgaaGreatDoor
/- keep's ordered at every depth; CheckOrders, of whatever text. -/
namespace Go.Proofs.YtanlfmhlohcmgaaGreatDoor
open Go.RowKit Px
namespace Kx

/-- regions at a depth -/
theorem ordered_all {A : Nat → Prop} : ∀ (k : Nat) (w : World) (L : List (List (St k))) (v : Value), IsRegs A w (IsStates A w k) L v → (∀ r ∈ L, OrdAll k r) → (∀ r ∈ L, ∀ x ∈ r, NmSt k x) → sumC (cRg k) L ≤ 1000000 →
    Calls Tryz.prog 15 #[v] w fun e w' => e = .returned (.bool true) ∧ Hid (Below w.heap.size w w') := by
  intro k
  induction k with
  | zero =>
    intro w L v hI hO _ _
    obtain ⟨ad, g, cap, rfl, h1, h2, h3⟩ := hI.len
    have hL : L = [] := by
      cases L with
      | nil => rfl
      | cons r rs => exact absurd (hO r (by simp)) id
    subst hL
    exact ordered_at (ρ := Unit) (L := []) rfl h1 ⟨g, fun h => absurd h (by simp), fun i r h => absurd h (by simp)⟩
  | succ k ih =>
    intro w L v hI hO hN hb
    obtain ⟨ad, g, cap, rfl, h1, h2, h3⟩ := hI.len
    refine ordered_at (ρ := St k) (L := L) rfl h1 ⟨g, fun hp => (h2 hp).1, fun i r hi => ?_⟩
    have hm := List.mem_of_getElem? hi
    obtain ⟨u, hu, hS⟩ := h3 i r hi
    obtain ⟨a, gr, c, rfl, r1, r2, r3⟩ := IsStates.open hS
    have hbr : sumC (fun x => 1 + cIn (k + 1) x) r ≤ 1000000 := Nat.le_trans (sumC_mem (cRg (k + 1)) hm) hb
    have hl : List.length r ≤ 1000000 := Nat.le_trans (sumC_len (fun x => cIn (k + 1) x) r) hbr
    refine ⟨a, c, hu, gr, fun hp => (r2 hp).1, hl, StM.sts (A := A) (fun hp => (r2 hp).2) (fun i s hi => by obtain ⟨e1, e2, e3, e4, e5, e6, e7, e8, e9, h, _⟩ := r3 i s hi; exact ⟨e1, e2, e3, e4, e5, e6, e7, e8, e9, h⟩) (fun s hs => (hN r hm s hs).1), (hO r hm).1, fun i s hi' => ?_⟩
    have hms := List.mem_of_getElem? hi'
    obtain ⟨ve, vd, vl, p, ay, ar, gy, capy, capr, hM, hR⟩ := r3 i s hi'
    refine ⟨ar, s.regions.length, capr, hM.c8, fun w' hb' => ?_⟩
    have kp : Keep A A w w' := fun b ha hlt => ⟨ha, hb'.block b hlt⟩
    refine ih w' s.regions _ (hR.carry kp (IsStates.carry kp k)) ((hO r hm).2 s hms) ((hN r hm s hms).2) ?_
    have hx : 1 + cIn (k + 1) s ≤ sumC (fun x => 1 + cIn (k + 1) x) r := sumC_mem (fun x => 1 + cIn (k + 1) x) hms
    have hc : cIn (k + 1) s = sumC (cRg k) s.regions := rfl
    omega
set_option maxRecDepth 100000 in
set_option maxHeartbeats 2000000 in
theorem checkOrders_any (s : ByteArray) {w : World} (hv : KEnv w) : Calls Tryz.prog 4 #[.string s] w fun e w' => e = .returned (.bool true) ∧ Below w.heap.size w w' := by
  have hj := judged_any hv
  have HV : Hid (KEnv w) := hv
  clear hv
  by_cases hd : s.size ≤ 1500 ∧ ∃ l c, Lx.Ok (bs s) l ∧ chart (fin s l) = .ok c
  · obtain ⟨hs, l, c, hok, hch⟩ := hd
    have HC : Hid (∀ W, Below w.heap.size w W → Calls Tryz.prog 14 #[.string s] W fun e w' => (checkC c = none ∧ ∃ S a n m a' n' m', e = .returned (.tuple #[.agg #[.string S, .slice a n m, .slice a' n' m'], .bool true]) ∧ Hid (IsChart (fun b => W.heap.size < b) w' c (.agg #[.string S, .slice a n m, .slice a' n' m']) ∧ Below W.heap.size W w')) ∨
      (checkC c ≠ none ∧ e = .returned (.tuple #[.agg #[.string ⟨#[]⟩, .slice none 0 0, .slice none 0 0], .bool false]) ∧ Hid (Below W.heap.size W w'))) := fun W hb => chart_drawn hs (HV.out.up hb) hok hch
    have HN : Hid (NmChart c) := nmChart (wf_ok hok) hch
    clear hs hok hch
    go_enter Tryz.func4, Tryz.ntmps4
    go_wp2_with fail
    refine hj.mono ?_
    rintro e w1 ⟨rfl, hb1⟩
    have hc := HC.out w1 hb1.out
    clear hj
    go_wp2_with fail
    refine hc.mono ?_
    rintro e w2 (⟨hck, S, a, n, m, a', n', m', rfl, h2⟩ | ⟨hck, rfl, h2⟩)
    · clear hc
      obtain ⟨W2, hW2⟩ : ∃ W2, W2 = w2.alloc (.cells #[.string S, .slice a n m, .slice a' n' m'] 25) := ⟨_, rfl⟩
      have hg2 : Below w2.heap.size w2 W2 := by rw [hW2]; exact ck_grown _ _
      have HB2 : Hid (Below w.heap.size w W2) := ck_all (ck_all hb1.out h2.out.2) hg2
      have x2 := cell_row (ck_new w2 (.cells #[.string S, .slice a n m, .slice a' n' m'] 25)) 2 (u := .slice a' n' m') rfl
      have hcall : Calls Tryz.prog 15 #[.slice a' n' m'] W2 fun e w' => e = .returned (.bool true) ∧ Hid (Below W2.heap.size W2 w') := by
        obtain ⟨a0, n0, m0, a1, n1, m1, e, _, hR⟩ := chartUp h2.out.1 hg2
        injection e with e
        simp at e
        obtain ⟨_, _, rfl, rfl, rfl⟩ := e
        exact ordered_all 6 W2 c.regions _ hR (check_all hck) HN.out.sts HN.out.many
      rw [hW2] at hcall
      have HWE : Hid (W2 = _) := hW2
      clear hg2 hW2 hck
      go_wp2_with fail
      refine hcall.mono ?_
      rintro e w3 ⟨rfl, hb3⟩
      have HB3 : Hid (Below w.heap.size w w3) := ck_all HB2.out (by rw [HWE.out]; exact hb3.out)
      clear hcall x2
      go_wp2_with fail
      go_ret
      exact ⟨rfl, HB3.out⟩
    · clear hc hck
      go_wp2_with fail
      go_ret
      exact ⟨rfl, ck_all (ck_all hb1.out h2.out) (ck_grown _ _)⟩
  · have HC : Hid (∀ W, Below w.heap.size w W → Calls Tryz.prog 14 #[.string s] W fun e w' => e = .returned (.tuple #[.agg #[.string ⟨#[]⟩, .slice none 0 0, .slice none 0 0], .bool false]) ∧ Hid (Below W.heap.size W w')) := fun W hb => chart_none (HV.out.up hb) fun hs l c h => hd ⟨hs, l, c, h⟩
    clear hd
    go_enter Tryz.func4, Tryz.ntmps4
    go_wp2_with fail
    refine hj.mono ?_
    rintro e w1 ⟨rfl, hb1⟩
    have hc := HC.out w1 hb1.out
    clear hj
    go_wp2_with fail
    refine hc.mono ?_
    rintro e w2 ⟨rfl, h2⟩
    clear hc
    go_wp2_with fail
    go_ret
    exact ⟨rfl, ck_all (ck_all hb1.out h2.out) (ck_grown _ _)⟩
end Kx
end Go.Proofs.YtanlfmhlohcmgaaGreatDoor
/- What the listed variables' readings give CheckOrders. -/
namespace Go.Proofs.YtanlfmhlohcmgaaGreatDoor
open Go.ChangeShapes Go.WideShapes Go.ChangeAt Go.RowKit Px

theorem orders_laid {W : World} (h : laidMetH Tryz.prog Rows.checkOrdersRow.laid W) : Kx.KEnv W := by
  have h' : laidMet Tryz.prog [("math/bits.deBruijn32tab", Rows.laid_math_bits_deBruijn32tab), ("math/bits.deBruijn64tab", Rows.laid_math_bits_deBruijn64tab), ("internal/strconv.uint64pow10", Rows.laid_internal_strconv_uint64pow10), ("strconv.ErrRange", Rows.laid_strconv_ErrRange), ("strconv.ErrSyntax", Rows.laid_strconv_ErrSyntax), ("clepsydra/lex.marks", Rows.laid_clepsydra_lex_marks), ("clepsydra/parse.between", Rows.laid_clepsydra_parse_between), ("clepsydra/parse.ahead", Rows.laid_clepsydra_parse_ahead), ("clepsydra/parse.kinds", Rows.laid_clepsydra_parse_kinds), ("clepsydra/parse.leads", Rows.laid_clepsydra_parse_leads), ("clepsydra/parse.words", Rows.laid_clepsydra_parse_words)] W ∧ handlesMet Tryz.prog [("errors.errorType", Rows.laid_errors_errorType)] W := h
  obtain ⟨⟨ps, hl, _⟩, hh⟩ := h'
  have m0 : ∀ (a : String × DataW Unit) (r : List (String × DataW Unit)), a ∈ a :: r := fun a r => List.mem_cons_self
  exact vars_laid hl hh (m0 _ _) (.tail _ (.tail _ (.tail _ (.tail _ (.tail _ (m0 _ _)))))) (.tail _ (.tail _ (.tail _ (.tail _ (.tail _ (.tail _ (m0 _ _))))))) (.tail _ (.tail _ (.tail _ (.tail _ (.tail _ (.tail _ (.tail _ (m0 _ _)))))))) (.tail _ (.tail _ (.tail _ (.tail _ (.tail _ (.tail _ (.tail _ (.tail _ (m0 _ _))))))))) (.tail _ (.tail _ (.tail _ (.tail _ (.tail _ (.tail _ (.tail _ (.tail _ (.tail _ (m0 _ _)))))))))) (.tail _ (.tail _ (.tail _ (.tail _ (.tail _ (.tail _ (.tail _ (.tail _ (.tail _ (.tail _ (m0 _ _))))))))))) (.tail _ (m0 _ _))
end Go.Proofs.YtanlfmhlohcmgaaGreatDoor
