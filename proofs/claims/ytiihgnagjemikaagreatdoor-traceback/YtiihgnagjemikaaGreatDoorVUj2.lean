/- The runner's regions as they are laid: all of some, one behind the other. -/
import Derived.Test.YtiihgnagjemikaaGreatDoorVUn2
import Derived.Test.YtiihgnagjemikaaGreatDoorVCe2
namespace Go.Proofs.YtiihgnagjemikaaGreatDoor
open Go.RowKit Px

section
variable {A : Nat → Prop} {w w' : World}
theorem SMem.mono {σ ρ : Type} {RM RM' : (Nat → Prop) → List σ → ρ → Nat → Prop} {P P' : Nat → Prop} {role : Nat → Role} {ns : List Str} {gS i : Nat} {s : StF σ} {x : SdF ρ} {gW gI : Nat} {gr : Nat → Nat} (h : SMem A w RM P role ns gS i s x gW gI gr) (hP : ∀ b, P b → P' b) (hR : ∀ {P P' : Nat → Prop} {r : List σ} {d : ρ} {g : Nat}, (∀ b, P b → P' b) → RM P r d g → RM' P' r d g) : SMem A w RM' P' role ns gS i s x gW gI gr := by
  obtain ⟨c0, c2, e, d, l, p, ⟨aw, cw, w1, w2⟩, wl, wm, ⟨ai, ci, i1, i2⟩, il, im⟩ := h
  exact ⟨c0, c2, e, d, l, p, ⟨aw, cw, w1, fun hp => ⟨(w2 hp).1, hP _ (w2 hp).2.1, (w2 hp).2.2⟩⟩, wl, wm, ⟨ai, ci, i1, fun hp => ⟨(i2 hp).1, hP _ (i2 hp).2.1, (i2 hp).2.2⟩⟩, il, fun j r d hr hd => ⟨(im j r d hr hd).1, hR (fun b hb => ⟨hP b hb.1, hb.2⟩) (im j r d hr hd).2⟩⟩
theorem RegM.mono : ∀ (k : Nat) {P P' : Nat → Prop} {L : List (St k)} {d : Rd k} {g : Nat}, (∀ b, P b → P' b) → RegM A k w P L d g → RegM A k w P' L d g := by
  intro k
  induction k with
  | zero => intro P P' L d g _ h; exact h.elim
  | succ k ih =>
    intro P P' L d g hP h
    obtain ⟨l, h⟩ := h
    exact ⟨l, ⟨h.hg, h.hf, ⟨hP _ h.pg.1, h.pg.2⟩, ⟨hP _ h.ps.1, h.ps.2⟩, h.len, h.th, h.wa, fun i s x hs hx => (h.st i s x hs hx).mono hP (fun hQ hr => ih hQ hr)⟩⟩
/-- cells one behind the other, written -/
def setL (w : World) (g o : Nat) : List Value → World
  | [] => w
  | v :: r => setL (w.setCell ⟨g, o, none⟩ v) g (o + 1) r
theorem setL_far (g b o' : Nat) (h : g ≠ b) : ∀ (vs : List Value) (o : Nat) (w : World), (setL w g o vs).cell? ⟨b, o', none⟩ = w.cell? ⟨b, o', none⟩ := by
  intro vs
  induction vs with
  | nil => intro o w; rfl
  | cons v r ih => intro o w; rw [setL, ih, cell_far h]
theorem setL_block (g b : Nat) (h : b ≠ g) : ∀ (vs : List Value) (o : Nat) (w : World), (setL w g o vs).heap[b]? = w.heap[b]? := by
  intro vs
  induction vs with
  | nil => intro o w; rfl
  | cons v r ih => intro o w; rw [setL, ih, Below.heap_setCell _ _ _ _ h]
theorem setL_out (g o' : Nat) : ∀ (vs : List Value) (o : Nat) (w : World), (o' < o ∨ o + vs.length ≤ o') → (setL w g o vs).cell? ⟨g, o', none⟩ = w.cell? ⟨g, o', none⟩ := by
  intro vs
  induction vs with
  | nil => intro o w _; rfl
  | cons v r ih =>
    intro o w h
    rw [List.length_cons] at h
    rw [setL, ih _ _ (by omega), sc_off (by omega)]
theorem setL_in (g : Nat) : ∀ (vs : List Value) (o : Nat) (w : World), (∀ j, j < vs.length → (w.cell? ⟨g, o + j, none⟩).isSome = true) → ∀ j v, vs[j]? = some v → (setL w g o vs).cell? ⟨g, o + j, none⟩ = some v := by
  intro vs
  induction vs with
  | nil => intro o w _ j v h; simp at h
  | cons u r ih =>
    intro o w hc j v hj
    cases j with
    | zero =>
      simp at hj
      subst hj
      obtain ⟨x, hx⟩ := Option.isSome_iff_exists.1 (hc 0 (by simp))
      rw [setL, setL_out _ _ _ _ _ (.inl (by omega))]
      exact sc_same hx
    | succ j =>
      rw [setL]
      have := ih (o + 1) (w.setCell ⟨g, o, none⟩ u) (fun i hi => ?_) j v (by simpa using hj)
      · rw [show o + (j + 1) = o + 1 + j by omega]; exact this
      · rw [sc_off (by omega), show o + 1 + i = o + (i + 1) by omega]
        exact hc (i + 1) (by simp; omega)
theorem setL_frozen (g : Nat) (a : Addr) : ∀ (vs : List Value) (o : Nat) (w : World), (setL w g o vs).frozen? a = w.frozen? a := by
  intro vs
  induction vs with
  | nil => intro o w; rfl
  | cons v r ih => intro o w; rw [setL, ih, World.frozen?_setCell]
theorem setL_size (g : Nat) : ∀ (vs : List Value) (o : Nat) (w : World), (setL w g o vs).heap.size = w.heap.size ∧ (setL w g o vs).os = w.os ∧ (setL w g o vs).tape = w.tape ∧ (setL w g o vs).output = w.output := by
  intro vs
  induction vs with
  | nil => intro o w; exact ⟨rfl, rfl, rfl, rfl⟩
  | cons v r ih =>
    intro o w
    obtain ⟨h1, h2, h3, h4⟩ := ih (o + 1) (w.setCell ⟨g, o, none⟩ v)
    exact ⟨by rw [setL, h1]; simp [World.setCell], h2, h3, h4⟩
end
def LayOk (A : Nat → Prop) (k : Nat) : Prop := ∀ {w : World} {r : List (St k)} {v : Value}, (∀ b, A b → b < w.heap.size) → IsStates A w k r v → LayR k r →
  Calls Tryz.prog 71 #[v] w fun e w' => ∃ g, e = .returned (.pointer (some ⟨g, 0, none⟩)) ∧ Hid (RegM A k w' (fun b => w.heap.size ≤ b ∧ b < w'.heap.size) r (layD k r) g ∧ Below w.heap.size w w')
/-- regions that were laid -/
structure LaidR (A : Nat → Prop) (k : Nat) (w w' : World) (rs : List (List (St k))) (ad : Option Addr) (gI : Nat) (gr rol : Nat → Nat) : Prop where
  had : 0 < rs.length → ad = some ⟨gI, 0, none⟩ ∧ w.heap.size ≤ gI ∧ gI < w'.heap.size ∧ rol gI = 0
  reg : ∀ j r, rs[j]? = some r → w'.cell? ⟨gI, j, none⟩ = some (.pointer (some ⟨gr j, 0, none⟩)) ∧ RegM A k w' (fun b => w.heap.size ≤ b ∧ b < w'.heap.size ∧ rol b = 1 + j) r (layD k r) (gr j)
theorem IsStates.sl {A : Nat → Prop} {w : World} {k : Nat} {l : List (St k)} {v : Value} (h : IsStates A w k l v) : ∃ a n c, v = .slice a n c := by
  cases k with
  | zero => obtain ⟨_, rfl⟩ := h; exact ⟨_, _, _, rfl⟩
  | succ k => obtain ⟨xs, hr, _⟩ := h; obtain ⟨a, c, e⟩ := owns_shape hr.1; exact ⟨a, _, c, e⟩
theorem Tryz.uInfoReg : (Tryz.prog.info? 98).map (fun i => (i.zero, i.size, i.bytes)) = some (some (.pointer none), 1, 8) := by kernel_rfl
def ptrs (gr : Nat → Nat) (n : Nat) : List Value := (List.range n).map fun i => .pointer (some ⟨gr i, 0, none⟩)
theorem ptrs_snoc (gr : Nat → Nat) (n : Nat) : ptrs gr (n + 1) = ptrs gr n ++ [.pointer (some ⟨gr n, 0, none⟩)] := by unfold ptrs; rw [List.range_succ, List.map_append]; rfl
theorem ptrs_same {gr gr' : Nat → Nat} {n : Nat} (h : ∀ i, i < n → gr i = gr' i) : ptrs gr n = ptrs gr' n := by
  unfold ptrs
  apply List.map_congr_left
  intro i hi
  rw [h i (List.mem_range.1 hi)]
section
variable {A : Nat → Prop} {k : Nat}
set_option maxRecDepth 100000 in
set_option maxHeartbeats 8000000 in
theorem layAll_any (ih : LayOk A k) {w : World} {rs : List (List (St k))} {v : Value} (hA : ∀ b, A b → b < w.heap.size) (hI : IsRegs A w (IsStates A w k) rs v) (hR : ∀ r ∈ rs, LayR k r) (hl : rs.length ≤ 1000000) :
    Calls Tryz.prog 37 #[v] w fun e w' => ∃ ad n cap, e = .returned (.slice ad n cap) ∧ Hid (n = rs.length ∧ (∃ gI gr rol, LaidR A k w w' rs ad gI gr rol) ∧ Below w.heap.size w w') := by
  obtain ⟨i0, hi0, hz0, hz1, hz2⟩ := info_parts Tryz.uInfoReg
  obtain ⟨ad, g, cap, rfl, hmx, hg, hcs⟩ := hI.len
  obtain ⟨N, hN⟩ : ∃ N, N = rs.length := ⟨_, rfl⟩
  rw [← hN] at hg hl ⊢
  have HN : Hid (N = rs.length) := hN
  have HA : Hid (∀ b, A b → b < w.heap.size) := hA
  have HG : Hid (0 < N → ad = some ⟨g, 0, none⟩ ∧ g < w.heap.size) := hg
  have HCS : Hid (∀ (i : Nat) (r : List (St k)), rs[i]? = some r → ∃ u, w.cell? ⟨g, i, none⟩ = some u ∧ IsStates A w k r u) := hcs
  have HR : Hid (∀ r ∈ rs, LayR k r) := hR
  have HIH : Hid (LayOk A k) := ih
  clear hI hR hA ih hN hg hcs hmx
  go_enter Tryz.func37, Tryz.ntmps37
  go_wp2_with fail
  go_loopg [3, 8] N (fun f lv i wr => ∃ (j : Nat) (gr rol : Nat → Nat), f = N - j ∧ j ≤ N ∧ i = .int .i64 (j : Int) ∧ Hid (wr.ownsRow w.heap.size 98 1 lv j (ptrs gr j) ∧ (∀ b, lv.ownBlock = some b → rol b = 0) ∧ (∀ i r, i < j → rs[i]? = some r → RegM A k wr (fun b => w.heap.size ≤ b ∧ b < wr.heap.size ∧ rol b = 1 + i) r (layD k r) (gr i)) ∧ Below w.heap.size w wr))
  case atStart => exact ⟨0, fun _ => 0, fun _ => 0, by omega, by omega, rfl, World.ownsRow_nil _ _ _ _, fun b hb => rfl, fun i r hi => absurd hi (by omega), Below.refl _ _⟩
  case round =>
    obtain ⟨j, gr, rol, rfl, hj, rfl, hr⟩ := hrel
    obtain ⟨hr1, hr2, hr3, hr4⟩ := hr.out
    obtain ⟨al, cl, e⟩ := owns_shape hr1
    subst e
    by_cases hlt : j < N
    · obtain ⟨r, hrj⟩ : ∃ r, rs[j]? = some r := ⟨rs[j]'(by rw [← HN.out]; exact hlt), by rw [List.getElem?_eq_getElem]⟩
      obtain ⟨u, cu, hSt⟩ := HCS.out j r hrj
      obtain ⟨ua, un, uc, rfl⟩ := hSt.sl
      have hix := ixR ad g N cap j hlt (fun hp => (HG.out hp).1)
      have cu := ck_cell hr4 cu
      have hcall := HIH.out (w := wr) (fun b hb => Nat.lt_of_lt_of_le (HA.out b hb) hr4.size) (IsStates.carry (A := A) (A' := A) (fun b hb hlt => ⟨hb, hr4.block b hlt⟩) k r _ hSt) (HR.out r (List.mem_of_getElem? hrj))
      have HG1 : Hid (wr.ownsRow w.heap.size 98 1 (.slice al j cl) j (ptrs gr j) ∧ (∀ b, (Value.slice al j cl).ownBlock = some b → rol b = 0) ∧ (∀ i r, i < j → rs[i]? = some r → RegM A k wr (fun b => w.heap.size ≤ b ∧ b < wr.heap.size ∧ rol b = 1 + i) r (layD k r) (gr i)) ∧ Below w.heap.size w wr ∧ rs[j]? = some r) := ⟨hr1, hr2, hr3, hr4, hrj⟩
      clear hr hr1 hr2 hr3 hr4 hSt hrj
      go_wp2_with fail
      refine hcall.mono ?_
      rintro e w1 ⟨g1, rfl, h1⟩
      have hown : w1.ownsRow w.heap.size 98 1 (.slice al j cl) j (ptrs gr j) := own_keep (A := fun _ => True) (A' := fun _ => True) HG1.out.1 (fun _ _ => trivial) fun b _ hlt => ⟨trivial, h1.out.2.block b hlt⟩
      have hs1 : w.heap.size ≤ w1.heap.size := Nat.le_trans HG1.out.2.2.2.1.size h1.out.2.size
      have HAPP : Hid (∀ v5 w5, w5.ownsRow w.heap.size 98 1 v5 (j + 1) (ptrs gr j ++ [.pointer (some ⟨g1, 0, none⟩)]) → (w1.alloc (.cells #[.pointer (some ⟨g1, 0, none⟩)] 98)).grownBy w5 (Value.slice al j cl).ownBlock → (v5.ownBlock = (Value.slice al j cl).ownBlock ∨ v5.ownBlock = some (w1.alloc (.cells #[.pointer (some ⟨g1, 0, none⟩)] 98)).heap.size) →
          ∃ gr' rol' : Nat → Nat, w5.ownsRow w.heap.size 98 1 v5 (j + 1) (ptrs gr' (j + 1)) ∧ (∀ b, v5.ownBlock = some b → rol' b = 0) ∧ (∀ i r, i < j + 1 → rs[i]? = some r → RegM A k w5 (fun b => w.heap.size ≤ b ∧ b < w5.heap.size ∧ rol' b = 1 + i) r (layD k r) (gr' i)) ∧ Below w.heap.size w w5) := fun v5 w5 hown5 hgrow hat => by
        obtain ⟨q1, q2, q3, q4, q5⟩ := HG1.out
        obtain ⟨p1, p2⟩ := h1.out
        have hsz : (w1.alloc (.cells #[.pointer (some ⟨g1, 0, none⟩)] 98)).heap.size = w1.heap.size + 1 := by simp
        have hob : ∀ b, (Value.slice al j cl).ownBlock = some b → w.heap.size ≤ b ∧ b < wr.heap.size := fun b hb => q1.lt b hb
        have hsw := p2.size
        have hgs := hgrow.size
        rw [hsz] at hgs
        have hbl : ∀ b, b < w1.heap.size → (Value.slice al j cl).ownBlock ≠ some b → w5.heap[b]? = w1.heap[b]? := fun b hb hne => by rw [hgrow.block b (by omega) (fun e => hne e.symm), Below.heap_alloc _ _ _ hb]
        have hb5 : Below w.heap.size w w5 := (((q4.trans (p2.mono q4.size))).alloc hs1 _).grown hgrow (by omega) (fun b hb => (hob b hb).1)
        have hAb : ∀ b, A b → w5.heap[b]? = w1.heap[b]? := fun b hb => hbl b (Nat.lt_of_lt_of_le (HA.out b hb) hs1) (fun e => by have := hob b e; have := HA.out b hb; omega)
        refine ⟨fun i => if i = j then g1 else gr i, fun b => if b < wr.heap.size then rol b else if b < w1.heap.size then 1 + j else 0, ?_, fun b hb => ?_, fun i r' hi hri => ?_, hb5⟩
        · rw [ptrs_snoc, ptrs_same (gr' := gr) (fun i hi => if_neg (by omega)), if_pos rfl]; exact hown5
        · show (if b < wr.heap.size then rol b else if b < w1.heap.size then 1 + j else 0) = 0
          rcases hat with e | e
          · rw [e] at hb
            rw [if_pos (hob b hb).2]
            exact q2 b hb
          · rw [e] at hb
            injection hb with hb
            rw [if_neg (by omega), if_neg (by omega)]
        · by_cases hij : i = j
          · subst hij
            rw [q5] at hri
            injection hri with hri
            subst hri
            show RegM A k w5 _ r (layD k r) (if i = i then g1 else gr i)
            rw [if_pos rfl]
            refine RegM.mono k (fun b hb => ?_) (RegM.keep k p1 (fun b hb _ => hAb b hb) (fun b hb => hbl b hb.2 (fun e => by have := hob b e; omega)))
            have h4 := q4.size
            exact ⟨by omega, by omega, by show (if b < wr.heap.size then rol b else if b < w1.heap.size then 1 + i else 0) = _; rw [if_neg (by omega), if_pos hb.2]⟩
          · show RegM A k w5 _ r' (layD k r') (if i = j then g1 else gr i)
            rw [if_neg hij]
            have hold := q3 i r' (by omega) hri
            refine RegM.mono k (fun b hb => ?_) (RegM.keep k hold (fun b hb hlt => by rw [hAb b hb, p2.block b hlt]) (fun b hb => by rw [hbl b (by omega) (fun e => by have := q2 b e; omega), p2.block b hb.2.1]))
            exact ⟨hb.1, by omega, by show (if b < wr.heap.size then rol b else if b < w1.heap.size then 1 + j else 0) = _; rw [if_pos hb.2.1]; exact hb.2.2⟩
      clear hcall h1 cu hix
      go_wp2_with (at_builtin; refine wpList_append_own_at _ rfl (.tmp 12) (.tmp 15) 93 rfl w.heap.size 98 i0 (.pointer none) 1 8 Tryz.underlying93 hi0 hz0 hz1 hz2 rfl (by decide) _ _ _ rfl (hown.alloc _) ⟨w1.heap.size, 0, none⟩ 1 1 [.pointer (some ⟨g1, 0, none⟩)] rfl rfl (cell_one_new _ _ _) (by intro u hu; simp at hu; subst hu; rfl) (by unfold maxLen; omega) (by omega) (by simp; omega) ?_; intro v5 w5 hown5 hgrow _ hat)
      go_roundg (N - (j + 1))
      case measure => omega
      case rel =>
        obtain ⟨gr', rol', t1, t2, t3, t4⟩ := HAPP.out v5 w5 hown5 hgrow hat
        exact ⟨j + 1, gr', rol', rfl, by omega, by go_num, t1, t2, t3, t4⟩
    · obtain rfl : j = N := by omega
      have HF : Hid (j = rs.length ∧ (∃ gI gr rol, LaidR A k w wr rs al gI gr rol) ∧ Below w.heap.size w wr) := by
        refine ⟨HN.out, ?_, hr4⟩
        have hcell := fun g hg => World.ownsRow.cells hr1 (g := g) hg
        have hlt' := fun g hg => hr1.lt g hg
        rcases hr1.2 with ⟨e, h0⟩ | ⟨gI, cap', cur, e, _⟩
        · refine ⟨0, gr, rol, fun hp => absurd hp (by rw [← HN.out, h0]; omega), fun i r hi => ?_⟩
          have := (List.getElem?_eq_some_iff.1 hi).1
          rw [← HN.out, h0] at this
          omega
        · injection e with e1 e2 e3
          subst e1
          refine ⟨gI, gr, rol, fun hp => ⟨rfl, (hlt' gI rfl).1, (hlt' gI rfl).2, hr2 gI rfl⟩, fun i r hi => ?_⟩
          have hil : i < j := by rw [HN.out]; exact (List.getElem?_eq_some_iff.1 hi).1
          refine ⟨?_, hr3 i r hil hi⟩
          have := hcell gI rfl i (.pointer (some ⟨gr i, 0, none⟩)) (by unfold ptrs; simp [hil])
          have ad : (⟨gI, 0, none⟩ : Addr).add i = ⟨gI, i, none⟩ := by unfold Addr.add; split <;> simp_all
          rw [ad] at this
          exact this
      clear hr hr1 hr2 hr3 hr4
      go_wp2_with fail
      go_ret
      exact ⟨_, _, _, rfl, rfl, HF.out.2⟩
end
end Go.Proofs.YtiihgnagjemikaaGreatDoor
/- Plain mathematics of the order: each state stands in it once, ahead of those to which its ways lead at once; no program. -/
namespace Go.Proofs.YtiihgnagjemikaaGreatDoor
namespace Px

/-- where a number stands in a list: the last place, if any -/
def posK (o : List Nat) : Nat → Nat → Option Nat
  | 0, _ => none
  | p + 1, k => if o.getD p 0 = k then some p else posK o p k
theorem posK_some {o : List Nat} : ∀ {p k q : Nat}, posK o p k = some q → q < p ∧ o.getD q 0 = k := by
  intro p
  induction p with
  | zero => intro k q h; simp [posK] at h
  | succ p ih =>
    intro k q h
    rw [posK] at h
    split at h
    · rename_i he
      injection h with h
      subst h
      exact ⟨by omega, he⟩
    · have := ih h
      exact ⟨by omega, this.2⟩
theorem posK_none {o : List Nat} : ∀ {p k : Nat}, (∀ q, q < p → o.getD q 0 ≠ k) → posK o p k = none := by
  intro p
  induction p with
  | zero => intro k _; rfl
  | succ p ih => intro k h; rw [posK, if_neg (h p (by omega))]; exact ih fun q hq => h q (by omega)
/-- no number stands twice -/
def Once (o : List Nat) : Prop := ∀ p q, p < o.length → q < o.length → o.getD p 0 = o.getD q 0 → p = q
theorem posK_of {o : List Nat} (ho : Once o) : ∀ {p q : Nat}, q < p → p ≤ o.length → posK o p (o.getD q 0) = some q := by
  intro p
  induction p with
  | zero => intro q h _; omega
  | succ p ih =>
    intro q h hp
    rw [posK]
    split
    · rename_i he
      rw [ho p q (by omega) (by omega) he]
    · rename_i hne
      by_cases e : q = p
      · subst e; exact absurd rfl hne
      · exact ih (by omega) (by omega)
theorem posK_fresh {o : List Nat} (ho : Once o) {p : Nat} (hp : p < o.length) : posK o p (o.getD p 0) = none :=
  posK_none fun q hq h => by have := ho q p (by omega) hp h; omega
theorem getD_snoc_lt (o : List Nat) (j p : Nat) (hp : p < o.length) : (o ++ [j]).getD p 0 = o.getD p 0 := by
  rw [List.getD_eq_getElem?_getD, List.getD_eq_getElem?_getD, List.getElem?_append_left hp]
theorem getD_snoc (o : List Nat) (j : Nat) : (o ++ [j]).getD o.length 0 = j := by
  rw [List.getD_eq_getElem?_getD, List.getElem?_append_right (Nat.le_refl _)]; simp
theorem mem_getD (o : List Nat) (k : Nat) : k ∈ o ↔ ∃ p, p < o.length ∧ o.getD p 0 = k := by
  constructor
  · intro h
    obtain ⟨p, hp, he⟩ := List.getElem_of_mem h
    exact ⟨p, hp, by rw [List.getD_eq_getElem?_getD, List.getElem?_eq_getElem hp]; exact he⟩
  · rintro ⟨p, hp, rfl⟩
    rw [List.getD_eq_getElem?_getD, List.getElem?_eq_getElem hp]
    exact List.getElem_mem hp
theorem cntK_zero {G : List (List (Option Nat))} {T : List Bool} {j : Nat} : ∀ {k : Nat}, cntK G T j k = 0 → ∀ i, i < k → T.getD i false = false → (G.getD i []).count (some j) = 0 := by
  intro k
  induction k with
  | zero => intro _ i h; omega
  | succ k ih =>
    intro h i hi ht
    rw [cntK] at h
    by_cases e : i = k
    · subst e
      rw [ht] at h
      simp only [Bool.false_eq_true, if_false] at h
      omega
    · exact ih (by omega) i (by omega) ht
/-- an order that is kept: no number twice; who is told is in it; and what leads to one that is in it stands ahead -/
structure Fair (G : List (List (Option Nat))) (o : List Nat) (T : List Bool) : Prop where
  once : Once o
  told : ∀ k, k < G.length → (T.getD k false = true ↔ k ∈ o)
  low : ∀ k ∈ o, k < G.length
  len : T.length = G.length
  ahead : ∀ q, q < o.length → ∀ k, k < G.length → some (o.getD q 0) ∈ G.getD k [] → ∃ p, p < q ∧ o.getD p 0 = k
theorem fair_ordK {G : List (List (Option Nat))} : ∀ {r : Nat} {o : List Nat} {T : List Bool}, ordK G r = some (o, T) → Fair G o T := by
  intro r
  induction r with
  | zero =>
    intro o T h
    rw [ordK] at h
    injection h with h
    injection h with h1 h2
    subst h1; subst h2
    exact ⟨fun p q hp => absurd hp (by simp), fun k _ => by rw [getD_repl]; simp, by simp, by simp, fun q hq => absurd hq (by simp)⟩
  | succ r ih =>
    intro o T h
    rw [ordK] at h
    split at h
    · exact absurd h (by simp)
    · rename_i o' T' hr
      split at h
      · exact absurd h (by simp)
      · rename_i j hj
        injection h with h
        injection h with h1 h2
        subst h1; subst h2
        have F := ih hr
        obtain ⟨n1, n2, _⟩ := nextG_some hj
        unfold freeG at n2
        simp only [Bool.and_eq_true, Bool.not_eq_true', decide_eq_true_eq] at n2
        have hjo : j ∉ o' := fun hm => by have := (F.told j n1).2 hm; rw [n2.1] at this; simp at this
        refine ⟨?_, ?_, ?_, by rw [List.length_set]; exact F.len, ?_⟩
        · intro p q hp hq he
          rw [List.length_append, List.length_singleton] at hp hq
          by_cases e1 : p < o'.length
          · by_cases e2 : q < o'.length
            · rw [getD_snoc_lt _ _ _ e1, getD_snoc_lt _ _ _ e2] at he
              exact F.once p q e1 e2 he
            · obtain rfl : q = o'.length := by omega
              rw [getD_snoc_lt _ _ _ e1, getD_snoc] at he
              exact absurd ((mem_getD _ _).2 ⟨p, e1, he⟩) hjo
          · obtain rfl : p = o'.length := by omega
            by_cases e2 : q < o'.length
            · rw [getD_snoc_lt _ _ _ e2, getD_snoc] at he
              exact absurd ((mem_getD _ _).2 ⟨q, e2, he.symm⟩) hjo
            · omega
        · intro k hk
          rw [set_getD T' j k (by rw [F.len]; exact n1)]
          by_cases e : j = k
          · subst e; simp
          · rw [if_neg e, F.told k hk]
            simp [Ne.symm e]
        · intro k hk
          rcases List.mem_append.1 hk with hk | hk
          · exact F.low k hk
          · rw [List.mem_singleton.1 hk]; exact n1
        · intro q hq k hk hm
          rw [List.length_append, List.length_singleton] at hq
          by_cases e : q < o'.length
          · rw [getD_snoc_lt _ _ _ e] at hm
            obtain ⟨p, hp, he⟩ := F.ahead q e k hk hm
            exact ⟨p, hp, by rw [getD_snoc_lt _ _ _ (by omega)]; exact he⟩
          · obtain rfl : q = o'.length := by omega
            rw [getD_snoc] at hm
            have hk1 : k ∈ o' := by
              rw [← F.told k hk]
              cases ht : T'.getD k false with
              | true => rfl
              | false =>
                have := cntK_zero n2.2 k hk ht
                exact absurd hm (List.count_eq_zero.1 this)
            obtain ⟨p, hp, he⟩ := (mem_getD _ _).1 hk1
            exact ⟨p, hp, by rw [getD_snoc_lt _ _ _ hp]; exact he⟩
theorem few_below : ∀ (n : Nat) (o : List Nat), o.Nodup → (∀ k ∈ o, k < n) → o.length ≤ n := by
  intro n
  induction n with
  | zero =>
    intro o _ h
    cases o with
    | nil => simp
    | cons a r => exact absurd (h a (by simp)) (by omega)
  | succ n ih =>
    intro o hd h
    by_cases hm : n ∈ o
    · have h1 := ih (o.erase n) (hd.erase n) (fun k hk => by
        have h2 := (hd.mem_erase_iff).1 hk
        have := h k h2.2
        have := h2.1
        omega)
      have := List.length_erase_of_mem hm
      omega
    · have := ih o hd (fun k hk => by
        have := h k hk
        have : k ≠ n := fun e => hm (e ▸ hk)
        omega)
      omega
/-- as many numbers below a bound as it says, none twice: each is there -/
theorem once_all : ∀ (n : Nat) (o : List Nat), Once o → (∀ k ∈ o, k < n) → o.length = n → ∀ k, k < n → k ∈ o := by
  intro n o ho hl hn k hk
  have hnd : o.Nodup := by
    rw [List.nodup_iff_pairwise_ne, List.pairwise_iff_getElem]
    intro i j hi hj hij he
    have := ho i j hi hj (by rw [List.getD_eq_getElem?_getD, List.getD_eq_getElem?_getD, List.getElem?_eq_getElem hi, List.getElem?_eq_getElem hj]; exact congrArg (fun x => (some x).getD 0) he)
    omega
  by_cases hm : k ∈ o
  · exact hm
  · have := few_below n (k :: o) (List.nodup_cons.2 ⟨hm, hnd⟩) (fun x hx => by
      rcases List.mem_cons.1 hx with rfl | hx
      · exact hk
      · exact hl x hx)
    rw [List.length_cons] at this
    omega
/-- what of an order the law asks -/
theorem order_fair {G : List (List (Option Nat))} {o : List Nat} (h : orderG G = some o) : o.length = G.length ∧ Once o ∧ (∀ k ∈ o, k < G.length) ∧ (∀ k, k < G.length → ∃ p, posK o o.length k = some p) ∧ ∀ k j, k < G.length → j < G.length → some j ∈ G.getD k [] → ∀ p q, posK o o.length k = some p → posK o o.length j = some q → p < q := by
  unfold orderG at h
  cases hk : ordK G G.length with
  | none => rw [hk] at h; simp at h
  | some x =>
    obtain ⟨o', T⟩ := x
    rw [hk] at h
    simp at h
    subst h
    have F := fair_ordK hk
    have hl := (ordK_shut hk).2.1
    refine ⟨hl, F.once, F.low, fun k hk' => ?_, fun k j hk' hj hm p q hp hq => ?_⟩
    · obtain ⟨p, hp, he⟩ := (mem_getD _ _).1 (once_all _ o' F.once F.low hl k hk')
      exact ⟨p, by rw [← he]; exact posK_of F.once hp (Nat.le_refl _)⟩
    · obtain ⟨p1, p2⟩ := posK_some hp
      obtain ⟨q1, q2⟩ := posK_some hq
      obtain ⟨p', hp', he⟩ := F.ahead q q1 k hk' (by rw [q2]; exact hm)
      have := F.once p p' p1 (by omega) (by rw [p2, he])
      omega
section
variable {ρ : Type}
/-- the names of a region's first states: the last one that has the name -/
def namK (ns : List Str) : Nat → Str → Option Nat
  | 0, _ => none
  | p + 1, s => if ns.getD p [] = s then some p else namK ns p s
theorem namK_of {ns : List Str} (hd : Dist ns) : ∀ {p q : Nat}, q < p → p ≤ ns.length → namK ns p (ns.getD q []) = some q := by
  intro p
  induction p with
  | zero => intro q h _; omega
  | succ p ih =>
    intro q h hp
    rw [namK]
    split
    · rename_i he
      rw [hd.inj (by omega) (by omega) he]
    · rename_i hne
      by_cases e : q = p
      · subst e; exact absurd rfl hne
      · exact ih (by omega) (by omega)
theorem namK_fnd {ns : List Str} (hd : Dist ns) {s : Str} {i : Nat} (h : fnd ns s = some i) : namK ns ns.length s = some i := by
  obtain ⟨h1, h2, _⟩ := fnd_some h
  rw [← h2]
  exact namK_of hd h1 (Nat.le_refl _)
/-- a state's ways are right: each leads to a state of the region -/
theorem waysE_to {vs : List Decl} {ns : List Str} {b : Bool} : ∀ {l : List Wy}, waysE vs ns b l = 0 → ∀ y ∈ l, ∃ i, fnd ns y.to = some i := by
  intro l
  induction l with
  | nil => intro _ y hy; simp at hy
  | cons a r ih =>
    intro h y hy
    rw [waysE] at h
    by_cases e : wayE vs ns b a = 0
    · rw [if_neg (by simp [e])] at h
      rcases List.mem_cons.1 hy with rfl | hy
      · cases hf : fnd ns y.to with
        | some i => exact ⟨i, rfl⟩
        | none => unfold wayE at e; rw [hf] at e; simp at e
      · exact ih h y hy
    · rw [if_pos e] at h
      exact absurd h e
theorem stateE_to {vs : List Decl} {ns : List Str} {i : Nat} {s : StF ρ} (h : stateE vs ns i s = 0) : ∀ y ∈ s.ways, ∃ i, fnd ns y.to = some i := by
  unfold stateE at h
  split at h
  · simp at h
  · unfold aloneE at h
    split at h
    · simp at h
    · split at h
      · contradiction
      · split at h
        · contradiction
        · split at h
          · contradiction
          · split at h
            · simp at h
            · exact waysE_to h
theorem statesE_ok {vs : List Decl} {R : List ρ → Nat → Res} {ns : List Str} : ∀ {l : List (StF ρ)} {i n m : Nat}, statesE vs R ns l i n = .ok m → ∀ s ∈ l, (∃ i, stateE vs ns i s = 0) ∧ ∃ n m, regsE R s.regions n = .ok m := by
  intro l
  induction l with
  | nil => intro i n m _ s hs; simp at hs
  | cons a r ih =>
    intro i n m h s hs
    rw [statesE] at h
    split at h
    · exact absurd h (by simp)
    · rename_i he
      split at h
      · exact absurd h (by simp)
      · rename_i m' hm'
        rcases List.mem_cons.1 hs with rfl | hs
        · exact ⟨⟨i, by omega⟩, _, _, hm'⟩
        · exact ih h s hs
theorem regsE_ok {R : List ρ → Nat → Res} : ∀ {l : List (List ρ)} {n m : Nat}, regsE R l n = .ok m → ∀ r ∈ l, ∃ n m, R r n = .ok m := by
  intro l
  induction l with
  | nil => intro n m _ r hr; simp at hr
  | cons a r ih =>
    intro n m h x hx
    rw [regsE] at h
    split at h
    · exact absurd h (by simp)
    · rename_i m' hm'
      rcases List.mem_cons.1 hx with rfl | hx
      · exact ⟨_, _, hm'⟩
      · exact ih h x hx
/-- a region that may be: what the law asks of it -/
def OrdOk (l : List (StF ρ)) : Prop := ∃ o, orderG (graph l) = some o ∧ Dist (snames l) ∧ ∀ s ∈ l, ∀ y ∈ s.ways, ∃ i, fnd (snames l) y.to = some i
theorem regF_ok {vs : List Decl} {R : List ρ → Nat → Res} {l : List (StF ρ)} {n m : Nat} (h : regF vs R l n = .ok m) : OrdOk l ∧ ∀ s ∈ l, ∃ n m, regsE R s.regions n = .ok m := by
  unfold regF at h
  split at h
  · exact absurd h (by simp)
  · rename_i m' hs
    split at h
    · exact absurd h (by simp)
    · rename_i hw
      have hw : wholeE l = 0 := by omega
      unfold wholeE at hw
      split at hw
      · simp at hw
      · split at hw
        · simp at hw
        · split at hw
          · simp at hw
          · rename_i ho
            cases hg : orderG (graph l) with
            | none => rw [hg] at ho; simp at ho
            | some o => exact ⟨⟨o, hg, regF_dist hs, fun s hs' => by obtain ⟨⟨i, hi⟩, _⟩ := statesE_ok hs s hs'; exact stateE_to hi⟩, fun s hs' => (statesE_ok hs s hs').2⟩
end
/-- .. at every depth -/
def OrdAll : (k : Nat) → List (St k) → Prop
  | 0 => fun _ => False
  | k + 1 => fun l => OrdOk l ∧ ∀ s ∈ (l : List (StF (St k))), ∀ r ∈ StF.regions s, OrdAll k r
theorem regE_all {vs : List Decl} : ∀ {k : Nat} {l : List (St k)} {n m : Nat}, regE vs k l n = .ok m → OrdAll k l := by
  intro k
  induction k with
  | zero => intro l n m h; simp [regE] at h
  | succ k ih =>
    intro l n m h
    obtain ⟨h1, h2⟩ := regF_ok (show regF vs (regE vs k) l n = .ok m from h)
    exact ⟨h1, fun s hs r hr => by
      obtain ⟨n, m, hq⟩ := h2 s hs
      obtain ⟨n', m', hq'⟩ := regsE_ok hq r hr
      exact ih hq'⟩
theorem check_all {c : Chart} (h : checkC c = none) : ∀ r ∈ c.regions, OrdAll 6 r := by
  unfold checkC at h
  split at h
  · exact absurd h (by simp)
  · split at h
    · exact absurd h (by simp)
    · split at h
      · exact absurd h (by simp)
      · rename_i m hm
        intro r hr
        obtain ⟨n, m, hq⟩ := regsE_ok hm r hr
        exact regE_all hq
end Px
end Go.Proofs.YtiihgnagjemikaaGreatDoor
/- The runner's lay: a region in which nothing is there. -/
namespace Go.Proofs.YtiihgnagjemikaaGreatDoor
open Go.RowKit Px

abbrev z11 : List Value := [.string ⟨#[]⟩, .bool false, .bool false, .slice none 0 0, .slice none 0 0, .slice none 0 0, .pointer none, .slice none 0 0, .slice none 0 0, .slice none 0 0, .slice none 0 0]
theorem Tryz.uInfoSt : (Tryz.prog.info? 178).map (fun i => (i.zero.map Value.cells, i.size, i.bytes)) = some (some z11.toArray, 11, 200) := by kernel_rfl
theorem made11 (w : World) (n : Nat) (hn : n ≤ 1000000) : ∃ arr, (Instr.makeSlice 175 (.int .i64 (n : Int)) (.int .i64 (n : Int))).run Tryz.prog w = .ok (.slice (some ⟨w.heap.size, 0, none⟩) n n) (w.alloc (.cells arr 178)) ∧ ∀ i j u, i < n → z11[j]? = some u → arr[i * 11 + j]? = some u := by
  obtain ⟨i0, hi0, hzz⟩ := Option.map_eq_some_iff.1 Tryz.uInfoSt
  simp only [Prod.mk.injEq] at hzz
  obtain ⟨hz, h1, h2⟩ := hzz
  obtain ⟨z, hz1, hz2⟩ := Option.map_eq_some_iff.1 hz
  have := run_make (P := Tryz.prog) w 175 178 i0 z Tryz.underlying175 hi0 hz1 .i64 .i64 (n : Int) (n : Int) (by omega) (by omega) (by rw [h2]; omega) (by omega)
  simp only [Int.toNat_natCast, h1, hz2] at this
  refine ⟨_, this, fun i j u hi hj => ?_⟩
  have hj11 : j < 11 := (List.getElem?_eq_some_iff.1 hj).1
  unfold madeCells
  rw [Array.getElem?_map, Array.getElem?_range, if_pos (by omega)]
  simp only [Option.map_some]
  have e : (i * 11 + j) % z11.toArray.size = j := by
    show (i * 11 + j) % 11 = j
    omega
  rw [e]
  have : z11.toArray[j]! = u := by
    rw [Array.getElem!_eq_getD]
    simp [Array.getD, hj11]
    have := List.getElem?_eq_some_iff.1 hj
    exact this.2
  rw [this]
theorem fst_take {σ : Type} {L : List (StF σ)} {i : Nat} {s : StF σ} (h1 : firsts L = 1) (hs : L[i]? = some s) : firstI (L.take (i + 1)) = if s.first then some i else firstI (L.take i) := by
  have hi : i < L.length := (List.getElem?_eq_some_iff.1 hs).1
  unfold firstI
  rw [List.take_add_one, hs, List.findIdx?_append]
  cases hf : s.first with
  | false =>
    simp [hf]
  | true =>
    have hnone : List.findIdx? (fun x => x.first) (L.take i) = none := by
      rw [List.findIdx?_eq_none_iff]
      intro y hy
      cases hyf : y.first with
      | false => rfl
      | true =>
        exfalso
        unfold firsts at h1
        have e : L = L.take i ++ L.drop i := (List.take_append_drop i L).symm
        rw [e, List.filter_append, List.length_append] at h1
        have p1 : 0 < ((L.take i).filter (·.first)).length := List.length_pos_of_mem (List.mem_filter.2 ⟨hy, hyf⟩)
        have p2 : 0 < ((L.drop i).filter (·.first)).length := by
          refine List.length_pos_of_mem (List.mem_filter.2 ⟨?_, hf⟩)
          rw [List.drop_eq_getElem_cons hi]
          have := (List.getElem?_eq_some_iff.1 hs).2
          rw [this]; simp
        omega
    rw [hnone]
    simp [hf, Nat.min_eq_left (Nat.le_of_lt hi)]
theorem fst_some {σ : Type} {L : List (StF σ)} (h1 : firsts L = 1) : ∃ i, firstI L = some i ∧ i < L.length := by
  cases h : firstI L with
  | none =>
    unfold firstI at h
    rw [List.findIdx?_eq_none_iff] at h
    unfold firsts at h1
    have : L.filter (·.first) = [] := List.filter_eq_nil_iff.2 fun x hx => by simpa using h x hx
    rw [this] at h1
    simp at h1
  | some i =>
    refine ⟨i, rfl, ?_⟩
    unfold firstI at h
    exact (List.findIdx?_eq_some_iff_getElem.1 h).1
/-- a state that was laid, without its ways -/
def DoneS (A : Nat → Prop) (w wr : World) {σ : Type} (gS o : Nat) (s : StF σ) (ad : Option Addr) (cap : Nat) : Prop :=
  ∃ ve vd vl p yv rv, (∀ j u, [sv s.name, .bool s.first, .bool s.last, ve, vd, vl, .pointer p, yv, rv, .slice none 0 0, .slice ad s.regions.length cap][j]? = some u → wr.cell? ⟨gS, o + j, none⟩ = some u) ∧ IsSets A w s.enter ve ∧ IsSets A w s.during vd ∧ IsSets A w s.leave vl ∧ IsE A w s.rests (.pointer p)
/-- a region of which some states are laid, without their ways -/
structure L1 (A : Nat → Prop) {k : Nat} (w wr : World) (L : List (StF (St k))) (gR gS mb i : Nat) (role : Nat → Role) (ad10 : Nat → Option Addr) (cap10 : Nat → Nat) (gI : Nat → Nat) (gr : Nat → Nat → Nat) : Prop where
  bel : Below w.heap.size w wr
  reg : wr.heap[gR]? = some (.cells #[pS gS (firstI (L.take i)), .pointer none, .pointer none] 101 (0, 0))
  map : MapF wr mb i (namK (snames L) i)
  rest : ∀ i' j u, i ≤ i' → i' < L.length → z11[j]? = some u → wr.cell? ⟨gS, i' * 11 + j, none⟩ = some u
  fz : ∀ o, wr.frozen? ⟨gS, o, none⟩ = false
  done : ∀ i' s, i' < i → L[i']? = some s → DoneS A w wr gS (i' * 11) s (ad10 i') (cap10 i')
  ins : ∀ i' s, i' < i → L[i']? = some s → (0 < s.regions.length → ad10 i' = some ⟨gI i', 0, none⟩ ∧ w.heap.size ≤ gI i' ∧ gI i' < wr.heap.size ∧ role (gI i') = Role.ins i') ∧ ∀ j r, s.regions[j]? = some r → wr.cell? ⟨gI i', j, none⟩ = some (.pointer (some ⟨gr i' j, 0, none⟩)) ∧ RegM A k wr (fun b => w.heap.size ≤ b ∧ b < wr.heap.size ∧ role b = Role.inner i' j) r (layD k r) (gr i' j)
  rg : role gR = Role.reg
  rs : role gS = Role.sts
  rm : role mb = Role.junk
  bR : w.heap.size ≤ gR
  bS : w.heap.size ≤ gS
  bM : w.heap.size ≤ mb
  ls : gS < wr.heap.size
section
variable {A : Nat → Prop} {k : Nat} {w wr X w1 W2 W3 W4 : World} {L : List (StF (St k))} {gR gS mb i : Nat} {role : Nat → Role} {ad10 : Nat → Option Addr} {cap10 : Nat → Nat} {gI : Nat → Nat} {gr : Nat → Nat → Nat}
theorem L1.step {s : StF (St k)} {ve vd vl yv rv : Value} {p : Option Addr} {o : Obj} {ad1 : Option Addr} {cap1 gI1 : Nat} {gr1 rol : Nat → Nat} (hA : ∀ b, A b → b < w.heap.size) (h : L1 A w wr L gR gS mb i role ad10 cap10 gI gr) (h1 : firsts L = 1) (hs : L[i]? = some s)
    (he : IsSets A w s.enter ve) (hd : IsSets A w s.during vd) (hl : IsSets A w s.leave vl) (hp : IsE A w s.rests (.pointer p)) (hX : X = wr.alloc o) (hb1 : Below X.heap.size X w1) (hla : LaidR A k X w1 s.regions ad1 gI1 gr1 rol)
    (hW2 : W2 = setL w1 gS (i * 11) [sv s.name, .bool s.first, .bool s.last, ve, vd, vl, .pointer p, yv, rv, .slice none 0 0, .slice ad1 s.regions.length cap1]) (hg3 : W2.grownBy W3 (some mb)) (hm3 : MapF W3 mb (i + 1) (namK (snames L) (i + 1))) (h4 : W4 = if s.first then W3.setCell ⟨gR, 0, none⟩ (pS gS (some i)) else W3) :
    ∃ role' ad10' cap10' gI' gr', L1 A w W4 L gR gS mb (i + 1) role' ad10' cap10' gI' gr' := by
  have hil : i < L.length := (List.getElem?_eq_some_iff.1 hs).1
  have lR : gR < wr.heap.size := lt_of_block h.reg
  have lM : mb < wr.heap.size := h.map.lt
  have lS := h.ls
  have nRS : gR ≠ gS := fun e => by have := h.rs; rw [← e, h.rg] at this; simp at this
  have nRM : gR ≠ mb := fun e => by have := h.rm; rw [← e, h.rg] at this; simp at this
  have nSM : gS ≠ mb := fun e => by have := h.rm; rw [← e, h.rs] at this; simp at this
  have sX : X.heap.size = wr.heap.size + 1 := by rw [hX]; simp
  have s1 := hb1.size
  obtain ⟨s2, o2, t2, u2⟩ := setL_size gS [sv s.name, .bool s.first, .bool s.last, ve, vd, vl, .pointer p, yv, rv, .slice none 0 0, .slice ad1 s.regions.length cap1] (i * 11) w1
  rw [← hW2] at s2 o2 t2 u2
  have s3 := hg3.size
  have b4 : ∀ b, b ≠ gR → W4.heap[b]? = W3.heap[b]? := fun b hb => by rw [h4]; split; exact Below.heap_setCell _ _ _ _ hb; rfl
  have s4 : W4.heap.size = W3.heap.size := by rw [h4]; split; simp [World.setCell]; rfl
  have e4 : W4.os = W3.os ∧ W4.tape = W3.tape ∧ W4.output = W3.output := by rw [h4]; split; exact ⟨rfl, rfl, rfl⟩; exact ⟨rfl, rfl, rfl⟩
  have bw1 : ∀ b, b < w1.heap.size → b ≠ gR → b ≠ gS → b ≠ mb → W4.heap[b]? = w1.heap[b]? := fun b hb h1 h2 h3 => by
    rw [b4 b h1, hg3.block b (by omega) (fun e => h3 (by injection e)), hW2, setL_block _ _ h2]
  have bwr : ∀ b, b < wr.heap.size → w1.heap[b]? = wr.heap[b]? := fun b hb => by rw [hb1.block b (by omega), hX, Below.heap_alloc _ _ _ hb]
  have bold : ∀ b, b < wr.heap.size → b ≠ gR → b ≠ gS → b ≠ mb → W4.heap[b]? = wr.heap[b]? := fun b hb h1 h2 h3 => by rw [bw1 b (by omega) h1 h2 h3, bwr b hb]
  have hwr := h.bel.size
  have hAo : ∀ b, A b → W4.heap[b]? = wr.heap[b]? := fun b hb => by have := hA b hb; have := h.bR; have := h.bS; have := h.bM; exact bold b (by omega) (by omega) (by omega) (by omega)
  have cS : ∀ o', W4.cell? ⟨gS, o', none⟩ = W2.cell? ⟨gS, o', none⟩ := fun o' => World.cell?_of_block (w := W2) (a := ⟨gS, o', none⟩) (by show W4.heap[gS]? = W2.heap[gS]?; rw [b4 gS (Ne.symm nRS), hg3.block gS (by omega) (fun e => nSM (by injection e))])
  have cW : ∀ o', w1.cell? ⟨gS, o', none⟩ = wr.cell? ⟨gS, o', none⟩ := fun o' => World.cell?_of_block (w := wr) (a := ⟨gS, o', none⟩) (bwr gS lS)
  have cout : ∀ o', o' < i * 11 ∨ i * 11 + 11 ≤ o' → W4.cell? ⟨gS, o', none⟩ = wr.cell? ⟨gS, o', none⟩ := fun o' ho => by rw [cS, hW2, setL_out _ _ _ _ _ (by simpa using ho), cW]
  have hin := setL_in gS [sv s.name, .bool s.first, .bool s.last, ve, vd, vl, .pointer p, yv, rv, .slice none 0 0, .slice ad1 s.regions.length cap1] (i * 11) w1 (fun j hj => by
    have hj11 : j < 11 := by simpa using hj
    obtain ⟨u, hu⟩ : ∃ u, z11[j]? = some u := ⟨_, List.getElem?_eq_getElem (by simpa using hj11)⟩
    rw [cW, h.rest i j u (Nat.le_refl _) hil hu]; rfl)
  rw [← hW2] at hin
  have hdn : ∀ i' s', i' < i → L[i']? = some s' → DoneS A w W4 gS (i' * 11) s' (ad10 i') (cap10 i') := fun i' s' hi' hs' => by
    obtain ⟨a1, a2, a3, a4, a5, a6, hc, hh⟩ := h.done i' s' hi' hs'
    refine ⟨a1, a2, a3, a4, a5, a6, fun j u hj => ?_, hh⟩
    have hj11 : j < 11 := by simpa using (List.getElem?_eq_some_iff.1 hj).1
    rw [cout _ (.inl (by omega))]
    exact hc j u hj
  refine ⟨fun b => if b < X.heap.size then role b else if rol b = 0 then Role.ins i else Role.inner i (rol b - 1), fun i' => if i' = i then ad1 else ad10 i', fun i' => if i' = i then cap1 else cap10 i', fun i' => if i' = i then gI1 else gI i', fun i' => if i' = i then gr1 else gr i', ?_⟩
  refine ⟨⟨?_, ?_, ?_, ?_, ?_⟩, ?_, ?_, ?_, ?_, ?_, ?_, ?_, ?_, ?_, h.bR, h.bS, h.bM, ?_⟩
  · rw [e4.1, hg3.os, o2, hb1.os, hX]; exact h.bel.os
  · rw [e4.2.1, hg3.tape, t2, hb1.tape, hX]; exact h.bel.tape
  · rw [e4.2.2, hg3.output, u2, hb1.output, hX]; exact h.bel.output
  · omega
  · intro b hb
    have := h.bR; have := h.bS; have := h.bM
    rw [bold b (by omega) (by omega) (by omega) (by omega), h.bel.block b hb]
  · rw [fst_take h1 hs]
    have hr3 : W3.heap[gR]? = some (.cells #[pS gS (firstI (L.take i)), .pointer none, .pointer none] 101 (0, 0)) := by
      rw [hg3.block gR (by omega) (fun e => nRM (by injection e)), hW2, setL_block _ _ nRS, bwr gR lR]; exact h.reg
    rw [h4]
    cases hf : s.first with
    | false => simpa using hr3
    | true =>
      rw [if_pos rfl, if_pos rfl]
      exact ck_set (l := [pS gS (firstI (L.take i)), .pointer none, .pointer none]) hr3 0 _
  · exact hm3.keep (b4 mb (Ne.symm nRM))
  · intro i' j u hi' hl' hj
    have hj11 : j < 11 := by simpa using (List.getElem?_eq_some_iff.1 hj).1
    rw [cout _ (.inr (by omega))]
    exact h.rest i' j u (by omega) hl' hj
  · intro o'
    have e3 : W3.frozen? ⟨gS, o', none⟩ = W2.frozen? ⟨gS, o', none⟩ := by
      have := hg3.block gS (by omega) (fun e => nSM (by injection e))
      simp only [World.frozen?, this]
    have e5 : W4.frozen? ⟨gS, o', none⟩ = W3.frozen? ⟨gS, o', none⟩ := by rw [h4]; split; exact World.frozen?_setCell _ _ _ _; rfl
    have e6 : w1.frozen? ⟨gS, o', none⟩ = wr.frozen? ⟨gS, o', none⟩ := by
      have := bwr gS lS
      simp only [World.frozen?, this]
    rw [e5, e3, hW2, setL_frozen, e6]
    exact h.fz o'
  · intro i' s' hi' hs'
    by_cases e : i' = i
    · subst e
      rw [hs] at hs'
      injection hs' with hs'
      subst hs'
      simp only [if_pos]
      exact ⟨ve, vd, vl, p, yv, rv, fun j u hj => by rw [cS]; exact hin j u hj, he, hd, hl, hp⟩
    · simp only [if_neg e]
      exact hdn i' s' (by omega) hs'
  · intro i' s' hi' hs'
    by_cases e : i' = i
    · subst e
      rw [hs] at hs'
      injection hs' with hs'
      subst hs'
      simp only [if_pos]
      refine ⟨fun hp' => ?_, fun j r hj => ?_⟩
      · obtain ⟨a1, a2, a3, a4⟩ := hla.had hp'
        exact ⟨a1, by omega, by omega, by rw [if_neg (by omega), if_pos a4]⟩
      · obtain ⟨a1, a2⟩ := hla.reg j r hj
        have hlt : j < s.regions.length := (List.getElem?_eq_some_iff.1 hj).1
        obtain ⟨q1, q2, q3, q4⟩ := hla.had (by omega)
        refine ⟨by rw [World.cell?_of_block (w := w1) (a := ⟨gI1, j, none⟩) (bw1 gI1 (by omega) (by omega) (by omega) (by omega))]; exact a1, ?_⟩
        refine RegM.mono k (fun b hb => ?_) (RegM.keep k a2 (fun b hb _ => by rw [hAo b hb, bwr b (by have := hA b hb; omega)]) (fun b hb => bw1 b hb.2.1 (by omega) (by omega) (by omega)))
        exact ⟨by omega, by omega, by rw [if_neg (by omega), if_neg (by omega)]; congr 2; omega⟩
    · simp only [if_neg e]
      obtain ⟨a1, a2⟩ := h.ins i' s' (by omega) hs'
      refine ⟨fun hp' => ?_, fun j r hj => ?_⟩
      · obtain ⟨q1, q2, q3, q4⟩ := a1 hp'
        exact ⟨q1, q2, by omega, by rw [if_pos (by omega)]; exact q4⟩
      · obtain ⟨c1, c2⟩ := a2 j r hj
        have hlt : j < s'.regions.length := (List.getElem?_eq_some_iff.1 hj).1
        obtain ⟨q1, q2, q3, q4⟩ := a1 (by omega)
        have nx : ∀ b, role b = Role.ins i' ∨ role b = Role.inner i' j → b ≠ gR ∧ b ≠ gS ∧ b ≠ mb := fun b hb => by
          refine ⟨fun e => ?_, fun e => ?_, fun e => ?_⟩
          · rw [e, h.rg] at hb; rcases hb with hb | hb <;> simp at hb
          · rw [e, h.rs] at hb; rcases hb with hb | hb <;> simp at hb
          · rw [e, h.rm] at hb; rcases hb with hb | hb <;> simp at hb
        obtain ⟨n1, n2, n3⟩ := nx _ (.inl q4)
        refine ⟨by rw [World.cell?_of_block (w := wr) (a := ⟨gI i', j, none⟩) (bold _ q3 n1 n2 n3)]; exact c1, ?_⟩
        refine RegM.mono k (fun b hb => ?_) (RegM.keep k c2 (fun b hb _ => hAo b hb) (fun b hb => by obtain ⟨m1, m2, m3⟩ := nx b (.inr hb.2.2); exact bold b hb.2.1 m1 m2 m3))
        exact ⟨hb.1, by omega, by rw [if_pos (by omega)]; exact hb.2.2⟩
  · show (if gR < X.heap.size then role gR else _) = _
    rw [if_pos (by omega)]; exact h.rg
  · show (if gS < X.heap.size then role gS else _) = _
    rw [if_pos (by omega)]; exact h.rs
  · show (if mb < X.heap.size then role mb else _) = _
    rw [if_pos (by omega)]; exact h.rm
  · omega
end
end Go.Proofs.YtiihgnagjemikaaGreatDoor
