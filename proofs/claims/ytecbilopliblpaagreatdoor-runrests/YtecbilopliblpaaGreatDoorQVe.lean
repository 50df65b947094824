/- keep's chart: what a text draws that may be. -/
import Derived.Test.YtecbilopliblpaaGreatDoorQKn0
import Derived.Test.YtecbilopliblpaaGreatDoorQKs
import Derived.Test.YtecbilopliblpaaGreatDoorQUj
namespace Go.Proofs.YtecbilopliblpaaGreatDoor
open Go.RowKit Px
namespace Kx

theorem put3 {X : World} {fb T : Nat} {x y z : Value} (h : X.heap[fb]? = some (.cells #[x, y, z] T (0, 0))) (a b c : Value) : (((X.setCell ⟨fb, 0, none⟩ a).setCell ⟨fb, 1, none⟩ b).setCell ⟨fb, 2, none⟩ c).heap[fb]? = some (.cells #[a, b, c] T (0, 0)) :=
  ck_set (l := [a, b, z]) (ck_set (l := [a, y, z]) (ck_set (l := [x, y, z]) h 0 a) 1 b) 2 c
theorem below_put3 {w X : World} {fb : Nat} (h : Below w.heap.size w X) (hb : w.heap.size ≤ fb) (a b c : Value) : Below w.heap.size w (((X.setCell ⟨fb, 0, none⟩ a).setCell ⟨fb, 1, none⟩ b).setCell ⟨fb, 2, none⟩ c) :=
  ((h.setCell hb _).setCell hb _).setCell hb _
set_option maxRecDepth 100000 in
set_option maxHeartbeats 4000000 in
/-- of a text that draws a chart -/
theorem chart_drawn {s : ByteArray} {l : List Lx.Tok} {c : Chart} {w : World} (hs : s.size ≤ 1500) (hv : KEnv0 w) (hok : Lx.Ok (bs s) l) (hch : chart (fin s l) = .ok c) :
    Calls Tryz.prog 13 #[.string s] w fun e w' => (checkC c = none ∧ ∃ S a n m a' n' m', e = .returned (.tuple #[.agg #[.string S, .slice a n m, .slice a' n' m'], .bool true]) ∧ Hid (IsChart (fun b => w.heap.size < b) w' c (.agg #[.string S, .slice a n m, .slice a' n' m']) ∧ Below w.heap.size w w')) ∨
      (checkC c ≠ none ∧ e = .returned (.tuple #[.agg #[.string ⟨#[]⟩, .slice none 0 0, .slice none 0 0], .bool false]) ∧ Hid (Below w.heap.size w w')) := by
  have hN := nmChart (wf_ok hok) hch
  obtain ⟨W0, hW0⟩ : ∃ W0, W0 = w.alloc (.cells #[.string ⟨#[]⟩, .slice none 0 0, .slice none 0 0] 28) := ⟨_, rfl⟩
  have hb0 : Below w.heap.size w W0 := by rw [hW0]; exact ck_grown w _
  have hp : Calls Tryz.prog 25 #[.string s] W0 fun e w' => ∃ S a n m a' n' m', e = .returned (.tuple #[.agg #[.string S, .slice a n m, .slice a' n' m'], .nilIface]) ∧ Hid (IsChart (fun b => w.heap.size < b) w' c (.agg #[.string S, .slice a n m, .slice a' n' m']) ∧ Below W0.heap.size W0 w') :=
    (parse_ok s l c W0 (by omega) (hv.up hb0).big (hv.up hb0).tabs (hv.up hb0).marks hok hch).mono fun e w' ⟨v, he, hC, hb⟩ => by
      obtain ⟨a, n, m, a', n', m', rfl, h1, h2⟩ := hC
      have kp : Keep (Ge W0.heap.size) (fun b => w.heap.size < b) w' w' := fun b hb' _ => ⟨by have h3 : W0.heap.size ≤ b := hb'; rw [hW0] at h3; simp at h3; omega, rfl⟩
      exact ⟨_, a, n, m, a', n', m', he, ⟨a, n, m, a', n', m', rfl, h1.carry kp, h2.carry kp (IsStates.carry kp 6)⟩, hb⟩
  have HB0 : Hid (Below w.heap.size w W0 ∧ W0.heap[w.heap.size]? = some (.cells #[.string ⟨#[]⟩, .slice none 0 0, .slice none 0 0] 28 (0, 0))) := ⟨hb0, by rw [hW0]; exact ck_new _ _⟩
  have hs1 : ¬ (1500 : Int) < (s.size : Int) := by omega
  have HN : Hid (NmChart c) := hN
  rw [hW0] at hp HB0
  clear hN hv hok hch hW0 hb0
  go_enter Tryz.func13, Tryz.ntmps13
  go_wp2_with fail
  refine hp.mono ?_
  rintro e w1 ⟨S, a, n, m, a', n', m', rfl, h1⟩
  obtain ⟨W1, hW1⟩ : ∃ W1, W1 = w1.alloc (.cells #[.string S, .slice a n m, .slice a' n' m'] 28) := ⟨_, rfl⟩
  have hb1 : Below w1.heap.size w1 W1 := by rw [hW1]; exact ck_grown w1 _
  have HW1 : Hid (IsChart (fun b => w.heap.size < b) W1 c (.agg #[.string S, .slice a n m, .slice a' n' m']) ∧ Below w.heap.size w W1 ∧ W1.heap[w.heap.size]? = some (.cells #[.string ⟨#[]⟩, .slice none 0 0, .slice none 0 0] 28 (0, 0)) ∧ W1.heap[w1.heap.size]? = some (.cells #[.string S, .slice a n m, .slice a' n' m'] 28 (0, 0))) :=
    ⟨chartUp h1.out.1 hb1, ck_all HB0.out.1 (ck_all h1.out.2 hb1), ck_block (ck_all h1.out.2 hb1) HB0.out.2, by rw [hW1]; exact ck_new _ _⟩
  have hck := check_any HW1.out.1 HN.out
  have x0 := cell_row HW1.out.2.2.2 0 (u := .string S) rfl
  have x1 := cell_row HW1.out.2.2.2 1 (u := .slice a n m) rfl
  have x2 := cell_row HW1.out.2.2.2 2 (u := .slice a' n' m') rfl
  obtain ⟨o, ho⟩ : ∃ o, Hid (checkC c = o) := ⟨_, rfl⟩
  rw [ho.out] at hck
  rw [hW1] at hck x0 x1 x2
  have HWE : Hid (W1 = _) := hW1
  clear hp hb1 hW1 h1
  unfold ChkOut at hck
  have HKW : Hid (∀ w', Below W1.heap.size W1 w' → IsChart (fun b => w.heap.size < b) w' c (.agg #[.string S, .slice a n m, .slice a' n' m']) ∧ Below w.heap.size w w' ∧ w'.heap[w.heap.size]? = some (.cells #[.string ⟨#[]⟩, .slice none 0 0, .slice none 0 0] 28 (0, 0)) ∧ w'.heap[w1.heap.size]? = some (.cells #[.string S, .slice a n m, .slice a' n' m'] 28 (0, 0))) := fun w' hb => ⟨chartUp HW1.out.1 hb, ck_all HW1.out.2.1 hb, ck_block hb HW1.out.2.2.1, ck_block hb HW1.out.2.2.2⟩
  go_wp2_with fail
  cases o with
  | none =>
    have hc2 : Calls Tryz.prog 40 #[.agg #[.string S, .slice a n m, .slice a' n' m']] (w1.alloc (.cells #[.string S, .slice a n m, .slice a' n' m'] 28)) fun e w' => e = .returned .nilIface ∧ Hid (Below W1.heap.size W1 w') := by
      rw [← HWE.out] at hck ⊢
      exact hck.mono fun e w' ⟨hb, ho⟩ => by
        rcases ho with ⟨_, he⟩ | ⟨_, he, _⟩ | ⟨_, _, _, he, _⟩
        · exact ⟨he, hb⟩
        · simp at he
        · simp at he
    clear hck x0 x1 x2
    refine hc2.mono ?_
    rintro e w2 ⟨rfl, hb2⟩
    obtain ⟨k1, k2, k3, k4⟩ := HKW.out w2 hb2.out
    have x0 := cell_row k4 0 (u := .string S) rfl
    have x1 := cell_row k4 1 (u := .slice a n m) rfl
    have x2 := cell_row k4 2 (u := .slice a' n' m') rfl
    have f0 := cell_row k3 0 (u := .string ⟨#[]⟩) rfl
    have f1 := cell_row k3 1 (u := .slice none 0 0) rfl
    have f2 := cell_row k3 2 (u := .slice none 0 0) rfl
    have z0 := ck_frozen k3 0
    have z1 := ck_frozen k3 1
    have z2 := ck_frozen k3 2
    have HB2 : Hid (Below w.heap.size w w2 ∧ w2.heap[w.heap.size]? = some (.cells #[.string ⟨#[]⟩, .slice none 0 0, .slice none 0 0] 28 (0, 0)) ∧ IsChart (fun b => w.heap.size < b) w2 c (.agg #[.string S, .slice a n m, .slice a' n' m'])) := ⟨k2, k3, k1⟩
    clear k1 k2 k3 k4 hc2
    go_wp2_with fail
    refine bodyPost_ret (resultsQ _ _ w.heap.size #[.string S, .slice a n m, .slice a' n' m'] rfl rfl (put3 HB2.out.2.1 _ _ _)) rfl ?_
    refine .inl ⟨ho.out, S, a, n, m, a', n', m', rfl, ?_, below_put3 HB2.out.1 (Nat.le_refl _) _ _ _⟩
    obtain ⟨a2, n2, m2, a3, n3, m3, e, q1, q2⟩ := HB2.out.2.2
    have kp : Keep (fun b => w.heap.size < b) (fun b => w.heap.size < b) w2 (((w2.setCell ⟨w.heap.size, 0, none⟩ (.string S)).setCell ⟨w.heap.size, 1, none⟩ (.slice a n m)).setCell ⟨w.heap.size, 2, none⟩ (.slice a' n' m')) := fun b hb' _ => ⟨hb', by
      have hne : b ≠ w.heap.size := by have : w.heap.size < b := hb'; omega
      rw [Below.heap_setCell _ _ _ _ hne, Below.heap_setCell _ _ _ _ hne, Below.heap_setCell _ _ _ _ hne]⟩
    exact ⟨a2, n2, m2, a3, n3, m3, e, q1.carry kp, q2.carry kp (IsStates.carry kp 6)⟩
  | some x =>
    obtain ⟨cc, pl⟩ := x
    have HNE : Hid (checkC c ≠ none) := by rw [Hid, ho.out]; simp
    cases pl with
    | none =>
      have hc2 : Calls Tryz.prog 40 #[.agg #[.string S, .slice a n m, .slice a' n' m']] (w1.alloc (.cells #[.string S, .slice a n m, .slice a' n' m'] 28)) fun e w' => e = .returned (.iface 67 (.int .i64 ((cc : Nat) : Int))) ∧ Hid (Below W1.heap.size W1 w') := by
        rw [← HWE.out] at hck ⊢
        exact hck.mono fun e w' ⟨hb, ho⟩ => by
          rcases ho with ⟨he, _⟩ | ⟨c', he, h1⟩ | ⟨_, _, _, he, _⟩
          · simp at he
          · simp at he
            subst he
            exact ⟨h1, hb⟩
          · simp at he
      clear hck x0 x1 x2
      refine hc2.mono ?_
      rintro e w2 ⟨rfl, hb2⟩
      obtain ⟨k1, k2, k3, k4⟩ := HKW.out w2 hb2.out
      have f0 := cell_row k3 0 (u := .string ⟨#[]⟩) rfl
      have f1 := cell_row k3 1 (u := .slice none 0 0) rfl
      have f2 := cell_row k3 2 (u := .slice none 0 0) rfl
      have z0 := ck_frozen k3 0
      have z1 := ck_frozen k3 1
      have z2 := ck_frozen k3 2
      have HB2 : Hid (Below w.heap.size w w2 ∧ w2.heap[w.heap.size]? = some (.cells #[.string ⟨#[]⟩, .slice none 0 0, .slice none 0 0] 28 (0, 0))) := ⟨k2, k3⟩
      clear k1 k2 k3 k4 hc2
      go_wp2_with fail
      refine bodyPost_ret (resultsQ _ _ w.heap.size #[.string ⟨#[]⟩, .slice none 0 0, .slice none 0 0] rfl rfl (put3 HB2.out.2 _ _ _)) rfl ?_
      exact .inr ⟨HNE.out, rfl, below_put3 HB2.out.1 (Nat.le_refl _) _ _ _⟩
    | some p =>
      have hc2 : Calls Tryz.prog 40 #[.agg #[.string S, .slice a n m, .slice a' n' m']] (w1.alloc (.cells #[.string S, .slice a n m, .slice a' n' m'] 28)) fun e w' => ∃ g, e = .returned (.iface 105 (.pointer (some ⟨g, 0, none⟩))) ∧ Hid (Below W1.heap.size W1 w') := by
        rw [← HWE.out] at hck ⊢
        exact hck.mono fun e w' ⟨hb, ho⟩ => by
          rcases ho with ⟨he, _⟩ | ⟨c', he, h1⟩ | ⟨c', p', g, he, h1, _⟩
          · simp at he
          · simp at he
          · exact ⟨g, h1, hb⟩
      clear hck x0 x1 x2
      refine hc2.mono ?_
      rintro e w2 ⟨ge, rfl, hb2⟩
      obtain ⟨k1, k2, k3, k4⟩ := HKW.out w2 hb2.out
      have f0 := cell_row k3 0 (u := .string ⟨#[]⟩) rfl
      have f1 := cell_row k3 1 (u := .slice none 0 0) rfl
      have f2 := cell_row k3 2 (u := .slice none 0 0) rfl
      have z0 := ck_frozen k3 0
      have z1 := ck_frozen k3 1
      have z2 := ck_frozen k3 2
      have HB2 : Hid (Below w.heap.size w w2 ∧ w2.heap[w.heap.size]? = some (.cells #[.string ⟨#[]⟩, .slice none 0 0, .slice none 0 0] 28 (0, 0))) := ⟨k2, k3⟩
      clear k1 k2 k3 k4 hc2
      go_wp2_with fail
      refine bodyPost_ret (resultsQ _ _ w.heap.size #[.string ⟨#[]⟩, .slice none 0 0, .slice none 0 0] rfl rfl (put3 HB2.out.2 _ _ _)) rfl ?_
      exact .inr ⟨HNE.out, rfl, below_put3 HB2.out.1 (Nat.le_refl _) _ _ _⟩
set_option maxRecDepth 100000 in
set_option maxHeartbeats 2000000 in
/-- of a text that draws none, or is too long -/
theorem chart_none {s : ByteArray} {w : World} (hv : KEnv0 w) (hno : s.size ≤ 1500 → ∀ l c, ¬ (Lx.Ok (bs s) l ∧ chart (fin s l) = .ok c)) :
    Calls Tryz.prog 13 #[.string s] w fun e w' => e = .returned (.tuple #[.agg #[.string ⟨#[]⟩, .slice none 0 0, .slice none 0 0], .bool false]) ∧ Hid (Below w.heap.size w w') := by
  have hfz : (w.alloc (.cells #[.string ⟨#[]⟩, .slice none 0 0, .slice none 0 0] 28)).heap[w.heap.size]? = some (.cells #[.string ⟨#[]⟩, .slice none 0 0, .slice none 0 0] 28 (0, 0)) := ck_new _ _
  have f0 := cell_row hfz 0 (u := .string ⟨#[]⟩) rfl
  have f1 := cell_row hfz 1 (u := .slice none 0 0) rfl
  have f2 := cell_row hfz 2 (u := .slice none 0 0) rfl
  have z0 := ck_frozen hfz 0
  have z1 := ck_frozen hfz 1
  have z2 := ck_frozen hfz 2
  have HFZ : Hid _ := hfz
  by_cases hs : s.size ≤ 1500
  · have hs1 : ¬ (1500 : Int) < (s.size : Int) := by omega
    have hb0 : Below w.heap.size w (w.alloc (.cells #[.string ⟨#[]⟩, .slice none 0 0, .slice none 0 0] 28)) := ck_grown w _
    have hp : Calls Tryz.prog 25 #[.string s] (w.alloc (.cells #[.string ⟨#[]⟩, .slice none 0 0, .slice none 0 0] 28)) fun e w' => ∃ g, e = .returned (.tuple #[.agg #[.string ⟨#[]⟩, .slice none 0 0, .slice none 0 0], .iface 105 (.pointer (some ⟨g, 0, none⟩))]) ∧ Hid (Below (w.alloc (.cells #[.string ⟨#[]⟩, .slice none 0 0, .slice none 0 0] 28)).heap.size (w.alloc (.cells #[.string ⟨#[]⟩, .slice none 0 0, .slice none 0 0] 28)) w') := by
      have hv0 := hv.up hb0
      by_cases hl : ∃ l, Lx.Ok (bs s) l
      · obtain ⟨l, hok⟩ := hl
        cases hch : chart (fin s l) with
        | ok c => exact absurd ⟨hok, hch⟩ (hno hs l c)
        | error f => exact (parse_err s l f _ (by omega) hv0.big hv0.tabs hv0.marks hok hch).mono fun e w' ⟨g, he, _, hb⟩ => ⟨g, he, hb⟩
      · exact (parse_bad s _ (by omega) hv0.marks (fun l h => hl ⟨l, h⟩)).mono fun e w' ⟨_, _, g, he, _, _, hb⟩ => ⟨g, he, hb⟩
    clear hv hno hb0 hfz f0 f1 f2 z0 z1 z2
    go_enter Tryz.func13, Tryz.ntmps13
    go_wp2_with fail
    refine hp.mono ?_
    rintro e w1 ⟨g, rfl, hb1⟩
    have hfy : (w1.alloc (.cells #[.string ⟨#[]⟩, .slice none 0 0, .slice none 0 0] 28)).heap[w.heap.size]? = some (.cells #[.string ⟨#[]⟩, .slice none 0 0, .slice none 0 0] 28 (0, 0)) := ck_old (ck_block hb1.out HFZ.out)
    have f0 := cell_row hfy 0 (u := .string ⟨#[]⟩) rfl
    have f1 := cell_row hfy 1 (u := .slice none 0 0) rfl
    have f2 := cell_row hfy 2 (u := .slice none 0 0) rfl
    have z0 := ck_frozen hfy 0
    have z1 := ck_frozen hfy 1
    have z2 := ck_frozen hfy 2
    have HFY : Hid _ := hfy
    clear hfy hp
    go_wp2_with fail
    refine bodyPost_ret (resultsQ _ _ w.heap.size #[.string ⟨#[]⟩, .slice none 0 0, .slice none 0 0] rfl rfl (put3 HFY.out _ _ _)) rfl ?_
    exact ⟨rfl, below_put3 (ck_all (ck_all (ck_grown _ _) hb1.out) (ck_grown _ _)) (Nat.le_refl _) _ _ _⟩
  · have hs1 : (1500 : Int) < (s.size : Int) := by omega
    clear hv hno hs hfz
    go_enter Tryz.func13, Tryz.ntmps13
    go_wp2_with fail
    refine bodyPost_ret (resultsQ _ _ w.heap.size #[.string ⟨#[]⟩, .slice none 0 0, .slice none 0 0] rfl rfl HFZ.out) rfl ?_
    exact ⟨rfl, ck_grown _ _⟩
end Kx
end Go.Proofs.YtecbilopliblpaaGreatDoor
/- A chart that a text draws, in memory. -/
namespace Go.Proofs.YtecbilopliblpaaGreatDoor
open Go.RowKit Px
namespace Kx

/-- a chart in memory: its regions are so many -/
theorem chartLen {A : Nat → Prop} {w : World} {c : Chart} {S a a' : Value} (h : IsChart A w c (.agg #[S, a, a'])) : ∃ adr m, a' = .slice adr c.regions.length m := by
  obtain ⟨a0, n0, m0, a1, n1, m1, e, _, hR⟩ := h
  obtain ⟨adr, gr, capr, er, _⟩ := hR.len
  have : a' = .slice a1 n1 m1 := by
    injection e with e
    simp at e
    exact e.2.2
  exact ⟨adr, capr, by rw [this, er]⟩
theorem parseAt {s : ByteArray} {l : List Lx.Tok} {c : Chart} {w : World} (hs : s.size ≤ 1500) (hv : KEnv0 w) (hok : Lx.Ok (bs s) l) (hch : chart (fin s l) = .ok c) :
    Calls Tryz.prog 25 #[.string s] w fun e w' => ∃ S a n m a' n' m', e = .returned (.tuple #[.agg #[.string S, .slice a n m, .slice a' n' m'], .nilIface]) ∧ Hid (IsChart (fun _ => True) w' c (.agg #[.string S, .slice a n m, .slice a' n' m']) ∧ Below w.heap.size w w') :=
  (parse_ok s l c w (by omega) hv.big hv.tabs hv.marks hok hch).mono fun e w' ⟨v, he, hC, hb⟩ => by
    obtain ⟨a, n, m, a', n', m', rfl, h1, h2⟩ := hC
    have kp : Keep (Ge w.heap.size) (fun _ => True) w' w' := fun b _ _ => ⟨trivial, rfl⟩
    exact ⟨_, a, n, m, a', n', m', he, ⟨a, n, m, a', n', m', rfl, h1.carry kp, h2.carry kp (IsStates.carry kp 6)⟩, hb⟩
end Kx
end Go.Proofs.YtecbilopliblpaaGreatDoor
/- keep's few and sameNumbers; how many are there; two ticks of the small chart. -/
namespace Go.Proofs.YtecbilopliblpaaGreatDoor
open Go.RowKit Px
theorem flat_len {α β γ : Type} {f : α → β → List γ} {g : α → Nat} (h : ∀ a b, (f a b).length ≤ g a) : ∀ (l : List α) (m : List β), (List.zipWith f l m).flatten.length ≤ sumC g l
  | [], _ => by simp
  | _ :: _, [] => by simp
  | a :: l, b :: m => by
    rw [List.zipWith_cons_cons, List.flatten_cons, List.length_append, sumC]
    have h1 := h a b
    have h2 := flat_len h l m
    omega
theorem thereF_len {k : Nat} (ih : ∀ (L : List (St k)) (d : Rd k), (thereK k L d).length ≤ cRg k L) (L : List (StF (St k))) (d : RdF (Rd k)) : (thereF (thereK k) L d).length ≤ cRg (k + 1) L := by
  unfold thereF
  split
  · exact Nat.zero_le _
  · split
    · rename_i s x hs hx
      have h1 := flat_len (f := thereK k) (g := cRg k) ih s.regions x.inside
      have h2 : 1 + cIn (k + 1) s ≤ cRg (k + 1) L := sumC_mem (fun x : St (k + 1) => 1 + cIn (k + 1) x) (List.mem_of_getElem? hs)
      have h3 : cIn (k + 1) s = sumC (cRg k) s.regions := rfl
      rw [List.length_cons]
      omega
    · exact Nat.zero_le _
theorem there_len : ∀ (k : Nat) (L : List (St k)) (d : Rd k), (thereK k L d).length ≤ cRg k L
  | 0, _, _ => Nat.zero_le _
  | k + 1, L, d => thereF_len (there_len k) L d
theorem thereC_len {c : Chart} (hN : NmChart c) (r : Rn) : (thereC c r).length ≤ 1000000 := by
  unfold thereC
  have := flat_len (f := thereK 6) (g := cRg 6) (there_len 6) c.regions r.ds
  have := hN.many
  omega
theorem INums.below {w w' : World} {v : Value} {zs : List Int} (h : INums w v zs) (hb : Below w.heap.size w w') : INums w' v zs := by
  obtain ⟨ad, b, off, cap, h1, h2, h3, h4, h5⟩ := h
  exact ⟨ad, b, off, cap, h1, h2, h3, h4, fun k hk => ck_cell hb (h5 k hk)⟩
/-- .. over other steps -/
theorem below_frq {B : Nat} {Q : Nat → Prop} {a w w' : World} (h : Below B a w) (hf : FrQ Q w w') (hQ : ∀ b, Q b → B ≤ b) (hs : B ≤ w.heap.size) : Below B a w' :=
  ⟨hf.os.trans h.os, hf.tape.trans h.tape, hf.output.trans h.output, Nat.le_trans h.size hf.size, fun b hb => (hf.block b (Nat.lt_of_lt_of_le hb hs) (fun hq => absurd (hQ b hq) (by omega))).trans (h.block b hb)⟩
namespace Kx
/-- rows of numbers -/
def IRws (w : World) (v : Value) (zss : List (List Int)) : Prop :=
  ∃ ad b off cap, v = .slice ad zss.length cap ∧ (0 < zss.length → ad = some ⟨b, off, none⟩) ∧ ∀ (k : Nat) (zs : List Int), zss[k]? = some zs → ∃ a c, w.cell? ⟨b, off + k, none⟩ = some (.slice a zs.length c) ∧ INums w (.slice a zs.length c) zs
theorem IRws.below {w w' : World} {v : Value} {zss : List (List Int)} (h : IRws w v zss) (hb : Below w.heap.size w w') : IRws w' v zss := by
  obtain ⟨ad, b, off, cap, h1, h2, h3⟩ := h
  refine ⟨ad, b, off, cap, h1, h2, fun k zs hk => ?_⟩
  obtain ⟨a, c, h4, h5⟩ := h3 k zs hk
  exact ⟨a, c, ck_cell hb h4, h5.below hb⟩
theorem ixM (ad : Option Addr) (b off n cap k : Nat) (hk : k < n) (ha : 0 < n → ad = some ⟨b, off, none⟩) (w : World) : (Instr.indexAt 22 (.slice ad n cap) (.int .i64 (k : Int))).run Tryz.prog w = .ok (.pointer (some ⟨b, off + k, none⟩)) w := by
  obtain rfl := ha (by omega)
  rw [run_indexAt_slice _ _ _ _ _ _ _ (by kernel_rfl), if_pos ⟨by omega, by omega⟩]
  have e : (sizeOf (Tryz.prog.elem 22)).run Tryz.prog w = .ok 1 w := by kernel_rfl
  rw [e]
  simp [Result.andThen, Addr.add]
def Few (zss : List (List Int)) : Prop := zss.length ≤ 40 ∧ ∀ zs ∈ zss, zs.length ≤ 30
theorem few_big (ad : Option Addr) (n cap : Nat) (w : World) (hn : 40 < n) :
    Calls Tryz.prog 11 #[.slice ad n cap] w fun e w' => e = .returned (.bool false) ∧ w' = w := by
  go_enter Tryz.func11, Tryz.ntmps11
  go_wp2
  go_ret
  exact ⟨rfl, rfl⟩
set_option maxHeartbeats 1000000 in
/-- rows of these lengths: few, or not -/
theorem few_rows (ad : Option Addr) (n cap b off : Nat) (w : World) (L : Nat → Nat) (hn : n ≤ 40) (ha : 0 < n → ad = some ⟨b, off, none⟩)
    (hc : ∀ k, k < n → ∃ a c, w.cell? ⟨b, off + k, none⟩ = some (.slice a (L k) c)) :
    Calls Tryz.prog 11 #[.slice ad n cap] w fun e w' => (e = .returned (.bool true) ∧ (∀ k, k < n → L k ≤ 30) ∨ e = .returned (.bool false) ∧ ¬ ∀ k, k < n → L k ≤ 30) ∧ w' = w := by
  have HA : Hid (0 < n → ad = some ⟨b, off, none⟩) := ha
  have HC : Hid (∀ k, k < n → ∃ a c, w.cell? ⟨b, off + k, none⟩ = some (.slice a (L k) c)) := hc
  clear ha hc
  go_enter Tryz.func11, Tryz.ntmps11
  go_wp2
  go_loopw [3] (fun i wr => ∃ k : Nat, k ≤ n ∧ i = .int .i64 k ∧ Hid (∀ j, j < k → L j ≤ 30) ∧ wr = w) (fun i _ => n - (intOf i).toNat)
  case atStart => exact ⟨0, Nat.zero_le _, rfl, fun j hj => by omega, rfl⟩
  case round =>
    obtain ⟨k, hk, rfl, HL, hw⟩ := hrel
    obtain rfl := hw
    by_cases hlt : k < n
    · have hix := ixM ad b off n cap k hlt HA.out
      obtain ⟨a, c, cx⟩ := HC.out k hlt
      obtain ⟨l, hl⟩ : ∃ l, l = L k := ⟨_, rfl⟩
      rw [← hl] at cx
      have HLK : Hid (l = L k) := hl
      clear hl
      by_cases h30 : l ≤ 30
      · go_wp2
        go_roundw
        case rel => exact ⟨k + 1, by omega, by go_num, fun j hj => by
          by_cases e : j = k
          · subst e; rw [← HLK.out]; exact h30
          · exact HL.out j (by omega), by first | trivial | rfl⟩
        case measure => simp [intOf]; omega
      · go_wp2
        go_ret
        exact ⟨.inr ⟨rfl, fun hh => h30 (by rw [HLK.out]; exact hh k hlt)⟩, rfl⟩
    · obtain rfl : k = n := by omega
      go_wp2
      go_ret
      exact ⟨.inl ⟨rfl, HL.out⟩, rfl⟩
theorem few_any {w : World} {v : Value} {zss : List (List Int)} (h : IRws w v zss) :
    Calls Tryz.prog 11 #[v] w fun e w' => (e = .returned (.bool true) ∧ Few zss ∨ e = .returned (.bool false) ∧ ¬ Few zss) ∧ w' = w := by
  obtain ⟨ad, b, off, cap, rfl, h2, h3⟩ := h
  by_cases hn : zss.length ≤ 40
  · refine (few_rows ad zss.length cap b off w (fun k => (zss.getD k []).length) hn h2 (fun k hk => ?_)).mono ?_
    · obtain ⟨a, c, h4, _⟩ := h3 k (zss[k]'hk) (List.getElem?_eq_getElem hk)
      refine ⟨a, c, ?_⟩
      rw [h4, List.getD_eq_getElem?_getD, List.getElem?_eq_getElem hk]; rfl
    · have hiff : (∀ k, k < zss.length → (zss.getD k []).length ≤ 30) ↔ ∀ zs ∈ zss, zs.length ≤ 30 := by
        constructor
        · intro hh zs hz
          obtain ⟨k, hk, e⟩ := List.getElem_of_mem hz
          have := hh k hk
          rw [List.getD_eq_getElem?_getD, List.getElem?_eq_getElem hk, e] at this
          exact this
        · intro hh k hk
          rw [List.getD_eq_getElem?_getD, List.getElem?_eq_getElem hk]
          exact hh _ (List.getElem_mem hk)
      rintro e w' ⟨⟨he, hh⟩ | ⟨he, hh⟩, hw⟩
      · exact ⟨.inl ⟨he, hn, hiff.1 hh⟩, hw⟩
      · exact ⟨.inr ⟨he, fun hf => hh (hiff.2 hf.2)⟩, hw⟩
  · exact (few_big ad zss.length cap w (by omega)).mono fun e w' ⟨he, hw⟩ => ⟨.inr ⟨he, fun hf => hn hf.1⟩, hw⟩
set_option maxHeartbeats 1000000 in
theorem same_nums {va vb : Value} {zs : List Int} {w : World} (ha : INums w va zs) (hb : INums w vb zs) (hl : zs.length ≤ 1000000) :
    Calls Tryz.prog 19 #[va, vb] w fun e w' => e = .returned (.bool true) ∧ Hid (Below w.heap.size w w') := by
  obtain ⟨ad1, b1, o1, c1, rfl, _, _, p1, q1⟩ := ha
  obtain ⟨ad2, b2, o2, c2, rfl, _, _, p2, q2⟩ := hb
  have H1 : Hid (0 < zs.length → ad1 = some ⟨b1, o1, none⟩) := p1
  have H2 : Hid (0 < zs.length → ad2 = some ⟨b2, o2, none⟩) := p2
  have Q1 : Hid (∀ k, k < zs.length → w.cell? ⟨b1, o1 + k, none⟩ = some (.int .i64 (zs.getD k 0))) := q1
  have Q2 : Hid (∀ k, k < zs.length → w.cell? ⟨b2, o2 + k, none⟩ = some (.int .i64 (zs.getD k 0))) := q2
  clear p1 p2 q1 q2
  go_enter Tryz.func19, Tryz.ntmps19
  go_wp2
  go_loopw [5] (fun i wr => ∃ k : Nat, k ≤ zs.length ∧ i = .int .i64 k ∧ Below w.heap.size w wr) (fun i _ => zs.length - (intOf i).toNat)
  case atStart => exact ⟨0, Nat.zero_le _, rfl, Below.refl _ _⟩
  case round =>
    obtain ⟨k, hk, rfl, hbr⟩ := hrel
    have HB : Hid (Below w.heap.size w wr) := hbr
    clear hbr
    by_cases hlt : k < zs.length
    · have hi1 := ixN ad1 b1 o1 zs.length c1 k hlt H1.out
      have hi2 := ixN ad2 b2 o2 zs.length c2 k hlt H2.out
      obtain ⟨x, hx⟩ : ∃ x, x = zs.getD k 0 := ⟨_, rfl⟩
      have y1 : wr.cell? ⟨b1, o1 + k, none⟩ = some (.int .i64 x) := by rw [hx]; exact ck_cell HB.out (Q1.out k hlt)
      have y2 : wr.cell? ⟨b2, o2 + k, none⟩ = some (.int .i64 x) := by rw [hx]; exact ck_cell HB.out (Q2.out k hlt)
      clear hx
      go_wp2_with fail
      go_quiet (fail)
      go_wp2_with fail
      go_roundw
      case rel => exact ⟨k + 1, by omega, by go_num, ck_all HB.out ⟨rfl, rfl, rfl, Nat.le_refl _, fun _ _ => rfl⟩⟩
      case measure => simp [intOf]; omega
    · go_wp2
      go_ret
      exact ⟨rfl, HB.out⟩
set_option maxRecDepth 100000 in
theorem small_one : (tickC smallC [5] (newC smallC)).map (outsC smallC) = some [2] := by kernel_rfl
set_option maxRecDepth 100000 in
theorem small_two : ((tickC smallC [5] (newC smallC)).bind fun r => (tickC smallC [5] r).map fun r' => (outsC smallC r', thereC smallC r')) = some ([7], [[116]]) := by kernel_rfl
theorem small_ticks : ∃ r1 r2, tickC smallC [5] (newC smallC) = some r1 ∧ outsC smallC r1 = [2] ∧ tickC smallC [5] r1 = some r2 ∧ outsC smallC r2 = [7] ∧ thereC smallC r2 = [[116]] := by
  have h1 := small_one
  have h2 := small_two
  cases hr : tickC smallC [5] (newC smallC) with
  | none => rw [hr] at h1; exact absurd h1 (by simp)
  | some r1 =>
    rw [hr] at h1 h2
    have h2' : (tickC smallC [5] r1).map (fun r' => (outsC smallC r', thereC smallC r')) = some ([7], [[116]]) := h2
    cases hr2 : tickC smallC [5] r1 with
    | none => rw [hr2] at h2'; exact absurd h2' (by simp)
    | some r2 =>
      rw [hr2] at h2'
      simp at h1 h2'
      exact ⟨r1, r2, rfl, h1, hr2, h2'.1, h2'.2⟩
end Kx
end Go.Proofs.YtecbilopliblpaaGreatDoor
/- keep's ran: the small chart, two ticks. -/
namespace Go.Proofs.YtecbilopliblpaaGreatDoor
open Go.RowKit Px
namespace Kx
/-- a chart in the blocks that there are -/
theorem chart_in {B : Nat} {w : World} {c : Chart} {v : Value} (h : IsChart (fun b => B < b) w c v) : IsChart (fun b => B < b ∧ b < w.heap.size) w c v := by
  have kp : Keep (fun b => B < b) (fun b => B < b ∧ b < w.heap.size) w w := fun b ha hlt => ⟨⟨ha, hlt⟩, rfl⟩
  obtain ⟨a, n, m, a2, n2, m2, rfl, hv, hr⟩ := h
  exact ⟨a, n, m, a2, n2, m2, rfl, hv.carry kp, hr.carry kp (IsStates.carry kp 6)⟩
/-- New, of a chart that may run, in whatever blocks -/
theorem new_run {A : Nat → Prop} {w : World} {c : Chart} {v : Value} (h : IsChart A w c v) (hc : RunC c) (hA : ∀ b, A b → b < w.heap.size) :
    Calls Tryz.prog 14 #[v] w fun e w' => ∃ rb, e = .returned (.tuple #[.pointer (some ⟨rb, 0, none⟩), .nilIface]) ∧ Hid ((∃ Q x, RnM A w' c (newC c) rb Q x ∧ ∀ b, Q b → w.heap.size ≤ b) ∧ Below w.heap.size w w') :=
  New_ok h hc.nm hc.ok hA hc.n64
theorem nums_one {w : World} {g : Nat} {x : Int} (h : w.cell? ⟨g, 0, none⟩ = some (.int .i64 x)) : INums w (.slice (some ⟨g, 0, none⟩) 1 1) [x] :=
  ⟨some ⟨g, 0, none⟩, g, 0, 1, rfl, Nat.le_refl _, by unfold maxLen; omega, fun _ => rfl, fun k hk => by
    have : k = 0 := by simp at hk; omega
    subst this
    exact h⟩
/-- what a row of one number is -/
theorem row_one {B : Nat} {w : World} {v : Value} {x : Int} (h : Row64 B w v [x]) : ∃ b o cap, v = .slice (some ⟨b, o, none⟩) 1 cap ∧ w.cell? ⟨b, o, none⟩ = some (.int .i64 x) := by
  obtain ⟨ad, b, off, cap, rfl, _, _, h4, h5⟩ := h.nums
  obtain rfl := h4 (by simp)
  exact ⟨b, off, cap, rfl, h5 0 (by simp)⟩
theorem rowS_one {B : Nat} {w : World} {v : Value} {x : Str} (h : RowS B w v [x]) : ∃ b o cap, v = .slice (some ⟨b, o, none⟩) 1 cap ∧ w.cell? ⟨b, o, none⟩ = some (sv x) := by
  obtain ⟨ad, b, off, cap, rfl, _, _, h4, h5⟩ := h.strs
  obtain rfl := h4 (by simp)
  exact ⟨b, off, cap, rfl, h5 0 x rfl⟩
/-- a row of one's own stands over other steps -/
theorem row_apart {B : Nat} {Q : Nat → Prop} {w w' : World} {v : Value} {zs : List Int} (h : Row64 B w v zs) (hQ : ∀ b, Q b → b < B) (hf : FrQ Q w w') : INums w' v zs := by
  have hlt := fun g hg => World.ownsRow.lt h g hg
  obtain ⟨ad, b, off, cap, rfl, h2, h3, h4, h5⟩ := h.nums
  refine ⟨ad, b, off, cap, rfl, h2, h3, h4, fun k hk => ?_⟩
  obtain rfl := h4 (by omega)
  have hb := hlt b rfl
  rw [World.cell?_of_block (w := w) (a := ⟨b, off + k, none⟩) (hf.block b hb.2 (fun hq => by have := hQ b hq; omega))]
  exact h5 k hk
theorem rows_apart {B : Nat} {Q : Nat → Prop} {w w' : World} {v : Value} {zs : List Str} (h : RowS B w v zs) (hQ : ∀ b, Q b → b < B) (hf : FrQ Q w w') : IStrs w' v zs := by
  have hlt := fun g hg => World.ownsRow.lt h g hg
  obtain ⟨ad, b, off, cap, rfl, h2, h3, h4, h5⟩ := h.strs
  refine ⟨ad, b, off, cap, rfl, h2, h3, h4, fun k s hk => ?_⟩
  obtain rfl := h4 (by have := (List.getElem?_eq_some_iff.1 hk).1; omega)
  have hb := hlt b rfl
  rw [World.cell?_of_block (w := w) (a := ⟨b, off + k, none⟩) (hf.block b hb.2 (fun hq => by have := hQ b hq; omega))]
  exact h5 k s hk
/-- a row of one number, opened -/
theorem nums_row {w : World} {a : Option Addr} {n m : Nat} {x : Int} (h : INums w (.slice a n m) [x]) : ∃ b o, a = some ⟨b, o, none⟩ ∧ n = 1 ∧ w.cell? ⟨b, o, none⟩ = some (.int .i64 x) := by
  obtain ⟨ad, b, off, cap, e, _, _, h4, h5⟩ := h
  injection e with e1 e2 e3
  subst e1
  exact ⟨b, off, h4 (by simp), e2, h5 0 (by simp)⟩
/-- a tick, with what it tells standing over the runner's later steps -/
theorem tick_run {A Q : Nat → Prop} {w : World} {c : Chart} {r r' : Rn} {rb : Nat} {x : RnL} {iv : Value} {ins : List Int} (h : RnM A w c r rb Q x) (hc : ChartR c) (hi : INums w iv ins) (h64 : ∀ y ∈ ins, N64 y) (ht : tickC c ins r = some r') :
    Calls Tryz.prog 15 #[.pointer (some ⟨rb, 0, none⟩), iv] w fun e w' => ∃ a n m, e = .returned (.slice a n m) ∧ Hid (RnM A w' c r' rb Q x ∧ (∀ Q' w'', (∀ b, Q' b → b < w.heap.size) → FrQ Q' w' w'' → INums w'' (.slice a n m) (outsC c r')) ∧ FrQ Q w w') :=
  (Tick_any h hc hi h64 ht).mono fun _ _ ⟨a, n, m, he, hh⟩ => ⟨a, n, m, he, hh.out.1, fun _ _ hQ hf => row_apart hh.out.2.1 hQ hf, hh.out.2.2⟩
set_option maxRecDepth 100000 in
set_option maxHeartbeats 4000000 in
theorem ran_any {w : World} (hv : KEnv0 w) : Calls Tryz.prog 12 #[] w fun e w' => e = .returned (.bool true) ∧ Hid (Below w.heap.size w w') := by
  obtain ⟨sm, hsm⟩ : ∃ sm : ByteArray, sm = ⟨smallL.toArray⟩ := ⟨_, rfl⟩
  obtain ⟨hok, hch⟩ := small_ok (s := sm) (by rw [hsm])
  have hsz : sm.size ≤ 1500 := by
    have : sm.size = smallL.length := by rw [hsm]; rfl
    rw [this]; decide
  have HC : Hid (RunC smallC) := runC hok hch small_check
  obtain ⟨r1, r2, t1, o1, t2, o2, th⟩ := small_ticks
  have h1 : Calls Tryz.prog 13 #[.string sm] w fun e w' => ∃ S a n m a' n' m', e = .returned (.tuple #[.agg #[.string S, .slice a n m, .slice a' n' m'], .bool true]) ∧ Hid (IsChart (fun b => w.heap.size < b) w' smallC (.agg #[.string S, .slice a n m, .slice a' n' m']) ∧ Below w.heap.size w w') :=
    (chart_drawn hsz hv hok hch).mono fun e w' h => by
      rcases h with ⟨_, S, a, n, m, a', n', m', he, hC⟩ | ⟨hne, _⟩
      · exact ⟨S, a, n, m, a', n', m', he, hC⟩
      · exact absurd small_check hne
  have HT : Hid (tickC smallC [5] (newC smallC) = some r1 ∧ outsC smallC r1 = [2] ∧ tickC smallC [5] r1 = some r2 ∧ outsC smallC r2 = [7] ∧ thereC smallC r2 = [[116]]) := ⟨t1, o1, t2, o2, th⟩
  rw [hsm] at h1
  clear hv hok hch hsz hsm t1 o1 t2 o2 th
  go_enter Tryz.func12, Tryz.ntmps12
  go_wp2_with fail
  refine h1.mono ?_
  rintro e w1 ⟨S, a, n, m, a', n', m', rfl, hc1⟩
  obtain ⟨W1, hW1⟩ : ∃ W1, W1 = w1.alloc (.cells #[.string S, .slice a n m, .slice a' n' m'] 28) := ⟨_, rfl⟩
  have hg1 : Below w1.heap.size w1 W1 := by rw [hW1]; exact ck_grown _ _
  have k1 : W1.heap[w1.heap.size]? = some (.cells #[.string S, .slice a n m, .slice a' n' m'] 28 (0, 0)) := by rw [hW1]; exact ck_new _ _
  have hn := new_run (chartUp (chart_in hc1.out.1) hg1) HC.out (fun b hb => Nat.lt_of_lt_of_le hb.2 hg1.size)
  have HB1 : Hid (Below w.heap.size w W1) := ck_all hc1.out.2 hg1
  have x0 := cell_row k1 0 (u := .string S) rfl
  have x1 := cell_row k1 1 (u := .slice a n m) rfl
  have x2 := cell_row k1 2 (u := .slice a' n' m') rfl
  have HW1 : Hid (W1 = _) := hW1
  rw [hW1] at hn x0 x1 x2
  clear h1 hc1 hg1 k1 hW1
  go_wp2_with fail
  refine hn.mono ?_
  rintro e w2 ⟨rb, rfl, h2⟩
  clear hn x0 x1 x2
  obtain ⟨⟨Q, x, hR, hQ⟩, hb2⟩ := h2.out
  rw [← HW1.out] at hb2 hQ
  obtain ⟨W2, hW2⟩ : ∃ W2, W2 = w2.alloc (.cells #[.int .i64 5] 2) := ⟨_, rfl⟩
  have hg2 : Below w2.heap.size w2 W2 := by rw [hW2]; exact ck_grown _ _
  have k2 : W2.cell? ⟨w2.heap.size, 0, none⟩ = some (.int .i64 5) := by rw [hW2]; exact cell_row (ck_new _ _) 0 rfl
  have ht := tick_run (hR.below hg2) HC.out.run (nums_one k2) (fun y hy => by simp at hy; subst hy; exact ⟨by omega, by omega⟩) HT.out.1
  have HB2 : Hid (Below w.heap.size w W2 ∧ (∀ b, Q b → w.heap.size ≤ b) ∧ ∀ b, Q b → b < W2.heap.size) := ⟨ck_all (ck_all HB1.out hb2) hg2, fun b hb => Nat.le_trans HB1.out.size (hQ b hb), (hR.below hg2).hQ⟩
  have HW2 : Hid (W2 = _) := hW2
  rw [hW2] at ht
  clear h2 hR hQ hb2 hg2 k2 hW2
  go_wp2_with fail
  refine ht.mono ?_
  rintro e w3 ⟨a3, n3, m3, rfl, h3⟩
  clear ht
  obtain ⟨hR3, hr3, hf3⟩ := h3.out
  rw [← HW2.out] at hr3 hf3
  rw [HT.out.2.1] at hr3
  obtain ⟨W3, hW3⟩ : ∃ W3, W3 = w3.alloc (.cells #[.int .i64 5] 2) := ⟨_, rfl⟩
  have hg3 : Below w3.heap.size w3 W3 := by rw [hW3]; exact ck_grown _ _
  have k3 : W3.cell? ⟨w3.heap.size, 0, none⟩ = some (.int .i64 5) := by rw [hW3]; exact cell_row (ck_new _ _) 0 rfl
  have ht2 := tick_run (hR3.below hg3) HC.out.run (nums_one k3) (fun y hy => by simp at hy; subst hy; exact ⟨by omega, by omega⟩) HT.out.2.2.1
  have HB3 : Hid (Below w.heap.size w W3 ∧ (∀ w'', FrQ Q W3 w'' → INums w'' (.slice a3 n3 m3) [2]) ∧ ∀ b, Q b → b < W3.heap.size) :=
    ⟨ck_all (below_frq HB2.out.1 hf3 HB2.out.2.1 HB2.out.1.size) hg3, fun w'' hf => hr3 Q w'' HB2.out.2.2 ((FrQ.of_below hg3).trans hf), (hR3.below hg3).hQ⟩
  have HW3 : Hid (W3 = _) := hW3
  rw [hW3] at ht2
  clear h3 hR3 hr3 hf3 hg3 k3 hW3
  go_wp2_with fail
  refine ht2.mono ?_
  rintro e w4 ⟨a4, n4, m4, rfl, h4⟩
  clear ht2
  obtain ⟨hR4, hr4, hf4⟩ := h4.out
  rw [← HW3.out] at hr4 hf4
  rw [HT.out.2.2.2.1] at hr4
  have hth := There_any hR4 HC.out.run (thereC_len HC.out.nm r2)
  have HB4 : Hid (Below w.heap.size w w4 ∧ INums w4 (.slice a3 n3 m3) [2] ∧ INums w4 (.slice a4 n4 m4) [7]) :=
    ⟨below_frq HB3.out.1 hf4 HB2.out.2.1 HB3.out.1.size, HB3.out.2.1 w4 hf4, hr4 Q w4 HB3.out.2.2 (FrQ.refl _ _)⟩
  clear h4 hR4 hr4 hf4
  go_wp2_with fail
  refine hth.mono ?_
  rintro e w5 ⟨a5, n5, m5, rfl, h5⟩
  clear hth
  obtain ⟨h6, h7⟩ := h5.out
  rw [HT.out.2.2.2.2] at h6
  obtain ⟨b5, o5, c5, e5, y5⟩ := rowS_one h6
  injection e5 with e5 e6 e7
  subst e5
  subst e6
  obtain ⟨b3, o3, e3, e3', y3⟩ := nums_row (HB4.out.2.1.below h7)
  obtain ⟨b4, o4, e4, e4', y4⟩ := nums_row (HB4.out.2.2.below h7)
  subst e3
  subst e3'
  subst e4
  subst e4'
  have HB5 : Hid (Below w.heap.size w w5) := ck_all HB4.out.1 h7
  have y5' : w5.cell? ⟨b5, o5, none⟩ = some (.string ⟨#[116]⟩) := y5
  clear h5 h6 h7 y5 e7 HB4 HB3 HB2 HT
  go_wp2_with fail
  go_ret
  exact ⟨rfl, HB5.out⟩
end Kx
end Go.Proofs.YtecbilopliblpaaGreatDoor
