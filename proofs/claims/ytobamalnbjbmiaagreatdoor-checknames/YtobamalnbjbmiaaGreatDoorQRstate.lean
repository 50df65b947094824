/- The document's own reader: state. -/
import Derived.Test.YtobamalnbjbmiaaGreatDoorQRway
import Derived.Test.YtobamalnbjbmiaaGreatDoorQPstate2
import Derived.Deep.RegionLaw
namespace Go.Proofs.YtobamalnbjbmiaaGreatDoor
open Go.RowKit Px

theorem Px.setsR_pos {L : List Lx.Tok} (hL : 0 < L.length) (σ : S) : 0 < (setsR L L.length [] σ).1.length := by
  have gen : ∀ (n : Nat) (l : List Asg) (σ : S), l.length ≤ (setsR L n l σ).1.length := by
    intro n
    induction n with
    | zero => intro l σ; exact Nat.le_refl _
    | succ n ih =>
      intro l σ
      rw [setsR]
      split
      · have := ih (l ++ [(setR L σ).1]) (tk L (setR L σ).2 kComma); simp at this ⊢; omega
      · simp
  obtain ⟨n, hn⟩ : ∃ n, L.length = n + 1 := ⟨L.length - 1, by omega⟩
  rw [hn, setsR]
  split
  · have := gen n ([] ++ [(setR L σ).1]) (tk L (setR L σ).2 kComma); simp at this ⊢; omega
  · simp
theorem Px.partR_lt {L : List Lx.Tok} {k : Nat} {s : StF (St k)} {i st : Nat} (h : (partR L (St k) (regionR L k) s ⟨i, st, none⟩).2.bad = none) : i < (partR L (St k) (regionR L k) s ⟨i, st, none⟩).2.i := by
  obtain ⟨p1, p2, p3⟩ := part_sim (L := L) (region_sim k) s i st
  cases hp : part L (St k) (region L k) s st i with
  | error f => rw [p2 f hp] at h; exact absurd h (by simp)
  | ok o =>
    cases o with
    | none => rw [p3 hp] at h; exact absurd h (by simp)
    | some q =>
      obtain ⟨s', c, j⟩ := q
      rw [p1 _ _ _ hp]
      exact part_lt (region_lt k) hp
/-- the lists of a state are short -/
structure Bd6 {ρ : Type} (n : Nat) (s : StF ρ) : Prop where
  e : s.enter.length ≤ n
  d : s.during.length ≤ n
  l : s.leave.length ≤ n
  y : s.ways.length ≤ n
  r : s.regions.length ≤ n
theorem Bd6.le {ρ : Type} {n m : Nat} {s : StF ρ} (h : Bd6 n s) (hm : n ≤ m) : Bd6 m s := ⟨by have := h.e; omega, by have := h.d; omega, by have := h.l; omega, by have := h.y; omega, by have := h.r; omega⟩
theorem RS.more {C : Ctx} {w : World} {σ : S} (h : RS C w σ) (hsb : σ.st + 1 ≤ σ.i + 1) (hsa : σ.bad = none → σ.st + 1 ≤ σ.i) :
    RS C (w.setCell ⟨C.rb, 3, none⟩ (.int .i64 ((σ.st : Int) + 1))) ⟨σ.i, σ.st + 1, σ.bad⟩ ∧ Fr w.heap.size [C.rb] w (w.setCell ⟨C.rb, 3, none⟩ (.int .i64 ((σ.st : Int) + 1))) := by
  obtain ⟨n, k, hn, hk, hr⟩ := h.rd
  have hf : Fr w.heap.size [C.rb] w (w.setCell ⟨C.rb, 3, none⟩ (.int .i64 ((σ.st : Int) + 1))) := (Fr.refl _ _ _).setCell (.inr (by simp)) _
  refine ⟨h.keep (σ' := ⟨σ.i, σ.st + 1, σ.bad⟩) hf hn hk ?_ h.lt h.nz hsb hsa, hf⟩
  rw [heap_setCell_same w C.rb 3 _ 180 _ hr]; rfl
theorem Px.tk_i (L : List Lx.Tok) (σ : S) (s : Str) : σ.i ≤ (tk L σ s).i ∧ (tk L σ s).st = σ.st ∧ (tk L σ s).bad = σ.bad := by
  rw [tk]; split <;> simp
theorem Px.must_i (L : List Lx.Tok) (σ : S) (s : Str) : σ.i ≤ (must L σ s).i ∧ (must L σ s).st = σ.st ∧ ((must L σ s).bad = none → σ.i + 1 ≤ (must L σ s).i) := by
  obtain ⟨i, st, b⟩ := σ
  cases b with
  | some f => rw [must_dead]; simp
  | none =>
    by_cases h : tx L i = s
    · rw [must_yes h]; simp
    · rw [must_no h]; simp
theorem deep_wrap {deep k : Nat} (hd : deep + (k + 1) = 7) : IntKind.i64.wrap ((deep : Int) + 1) = (deep : Int) + 1 := by
  rw [IntKind.wrap_i64]; omega
/-- a state whose head is being read: where it lies -/
structure HU (C : Ctx) (w0 w : World) (σ : S) (nm : Str) (fi la : Bool) : Prop where
  rs : RS C w σ
  fr : Fr w0.heap.size [C.rb] w0 w
  r0 : w.heap[w0.heap.size]? = some (.cells (stA [] false false (.slice none 0 0) (.slice none 0 0) (.slice none 0 0) (.pointer none) (.slice none 0 0) (.slice none 0 0)) 65 (0, 0))
  k : w.heap[w0.heap.size + 1]? = some (.cells (stA nm fi la (.slice none 0 0) (.slice none 0 0) (.slice none 0 0) (.pointer none) (.slice none 0 0) (.slice none 0 0)) 65 (0, 0))
  lo : C.rb < w0.heap.size
section
variable {C : Ctx} {w0 w w' : World} {σ σ' : S} {nm : Str} {fi la : Bool}
theorem HU.call (h : HU C w0 w σ nm fi la) (hf : Fr w.heap.size [C.rb] w w') (hr : RS C w' σ') : HU C w0 w' σ' nm fi la :=
  ⟨hr, h.fr.up' hf (Nat.le_of_lt (lt_of_block h.r0)), hf.stays h.r0 h.lo, hf.stays h.k (Nat.lt_succ_of_lt h.lo), h.lo⟩
theorem HU.put (h : HU C w0 w σ nm fi la) (o : Nat) (v : Value) {nm' : Str} {fi' la' : Bool} (he : (stA nm fi la (.slice none 0 0) (.slice none 0 0) (.slice none 0 0) (.pointer none) (.slice none 0 0) (.slice none 0 0)).setIfInBounds o v = stA nm' fi' la' (.slice none 0 0) (.slice none 0 0) (.slice none 0 0) (.pointer none) (.slice none 0 0) (.slice none 0 0)) : HU C w0 (w.setCell ⟨w0.heap.size + 1, o, none⟩ v) σ nm' fi' la' := by
  have hz := lt_of_block h.k
  have hf := fr_put w (w0.heap.size + 1) o v
  refine ⟨h.rs.low (B := w0.heap.size) h.lo ((Fr.refl _ _ _).setCell (.inl (by simp)) _), h.fr.setCell (.inl (by simp)) _, ?_, ?_, h.lo⟩
  · rw [hf.block _ (by omega) (by simp)]; exact h.r0
  · rw [heap_setCell_same w _ o _ 65 _ h.k, he]
theorem HU.cel (h : HU C w0 w σ nm fi la) : (∀ (o : Nat) (v : Value), (stA nm fi la (.slice none 0 0) (.slice none 0 0) (.slice none 0 0) (.pointer none) (.slice none 0 0) (.slice none 0 0))[o]? = some v → w.cell? ⟨w0.heap.size + 1, o, none⟩ = some v) ∧ ∀ o, w.frozen? ⟨w0.heap.size + 1, o, none⟩ = false :=
  ⟨fun o v hv => by rw [cell_of_row _ _ _ _ _ _ h.k]; exact hv, fun o => by simp [World.frozen?, h.k]⟩
end
theorem hu_new {C : Ctx} {w0 : World} {σ : S} (h : RS C w0 σ) : HU C w0 ((w0.alloc (.cells (stA [] false false (.slice none 0 0) (.slice none 0 0) (.slice none 0 0) (.pointer none) (.slice none 0 0) (.slice none 0 0)) 65)).alloc (.cells (stA [] false false (.slice none 0 0) (.slice none 0 0) (.slice none 0 0) (.pointer none) (.slice none 0 0) (.slice none 0 0)) 65)) σ [] false false := by
  have hf : Fr w0.heap.size [] w0 ((w0.alloc (.cells (stA [] false false (.slice none 0 0) (.slice none 0 0) (.slice none 0 0) (.pointer none) (.slice none 0 0) (.slice none 0 0)) 65)).alloc (.cells (stA [] false false (.slice none 0 0) (.slice none 0 0) (.slice none 0 0) (.pointer none) (.slice none 0 0) (.slice none 0 0)) 65)) := ((Fr.refl _ _ _).alloc (Nat.le_refl _) _).alloc (by simp) _
  refine ⟨h.same hf, hf.wide, ?_, ?_, h.lts.1⟩
  · rw [Below.heap_alloc _ _ _ (by simp)]; exact heap_alloc_new _ _
  · have := heap_alloc_new (w0.alloc (.cells (stA [] false false (.slice none 0 0) (.slice none 0 0) (.slice none 0 0) (.pointer none) (.slice none 0 0) (.slice none 0 0)) 65)) (.cells (stA [] false false (.slice none 0 0) (.slice none 0 0) (.slice none 0 0) (.pointer none) (.slice none 0 0) (.slice none 0 0)) 65)
    simpa using this
/-- a state whose parts are being read -/
structure TU (C : Ctx) (k : Nat) (w0 w : World) (σ : S) (s : StF (St k)) : Prop where
  rs : RS C w σ
  fr : Fr w0.heap.size [C.rb] w0 w
  r0 : w.heap[w0.heap.size]? = some (.cells (stA [] false false (.slice none 0 0) (.slice none 0 0) (.slice none 0 0) (.pointer none) (.slice none 0 0) (.slice none 0 0)) 65 (0, 0))
  su : SUx k (w0.heap.size + 2) (w0.heap.size + 1) w s
  lo : C.rb < w0.heap.size
theorem TU.call {C : Ctx} {k : Nat} {w0 w w' : World} {σ σ' : S} {s : StF (St k)} (h : TU C k w0 w σ s) (hf : Fr w.heap.size [C.rb] w w') (hr : RS C w' σ') : TU C k w0 w' σ' s := by
  have hlo := h.lo
  obtain ⟨e, d, l, p, y, r, xe, xd, xl, xy, xr, hs⟩ := h.su
  exact ⟨hr, h.fr.up' hf (Nat.le_of_lt (lt_of_block h.r0)), hf.stays h.r0 hlo, ⟨e, d, l, p, y, r, xe, xd, xl, xy, xr, hs.carry (X := [C.rb]) (by simp; omega) (by simp; omega) hf⟩, hlo⟩
theorem HU.begin {C : Ctx} {k : Nat} {w0 w : World} {σ : S} {nm : Str} {fi la : Bool} (h : HU C w0 w σ nm fi la) : TU C k w0 w σ ⟨nm, fi, la, [], [], [], .nil, [], []⟩ :=
  ⟨h.rs, h.fr, h.r0, ⟨_, _, _, _, _, _, _, _, _, _, _, SU.start h.k⟩, h.lo⟩
def RRegion (C : Ctx) (k : Nat) : Prop := ∀ (w : World) (σ : S) (deep : Nat), deep + k = 7 → RS C w σ → Calls Tryz.prog 106 #[.pointer (some ⟨C.rb, 0, none⟩), .int .i64 deep] w (ROut C (fun l v w' => IsStates (Ge w.heap.size) w' k l v) w (regionR C.L k σ))
def OkSt (k : Nat) (w : World) (s : StF (St k)) (v : Value) (w' : World) : Prop := ∃ e d l p y r, v = .agg (stA s.name s.first s.last e d l p y r) ∧ StC (Ge w.heap.size) w' (IsStates (Ge w.heap.size) w' k) s (stA s.name s.first s.last e d l p y r).toList
theorem Tryz.sizeState : (Tryz.prog.info? 65).map (·.size) = some 9 := by kernel_rfl
theorem load38 {W : World} {g : Nat} {fc : Array Value} (hsz : fc.size = 9) (hg : W.heap[g]? = some (.cells fc 65 (0, 0))) : (loadVar 65 ⟨g, 0, none⟩).run Tryz.prog W = .ok (.agg fc) W :=
  run_loadVar_row (P := Tryz.prog) W g 65 65 fc (0, 0) _ hg Tryz.underlying65 rfl (by rw [hsz]; exact Tryz.sizeState)
theorem resultsRS (tmps : Array Value) (W : World) (g : Nat) (fc : Array Value) (hsz : fc.size = 9) (hp : tmps.getD 4 undef = .pointer (some ⟨g, 0, none⟩)) (hg : W.heap[g]? = some (.cells fc 65 (0, 0))) :
    (results Tryz.f153 tmps).run Tryz.prog W = .ok (.agg fc) W := by
  have hp' : tmps[4]?.getD undef = .pointer (some ⟨g, 0, none⟩) := by simpa using hp
  simp [results, Tryz.results153, hp', asAddr, load38 hsz hg]
/-- the slots' values are cells -/
theorem SU.one {k B sb : Nat} {w : World} {s : StF (St k)} {e d l p y r : Value} {xe xd xl xy xr : List Value} (h : SU k B sb w s e d l p y r xe xd xl xy xr) : (stA s.name s.first s.last e d l p y r).all (·.oneCell') = true := by
  have o1 : w.ownsRow B 174 2 e s.enter.length xe := h.good.own (sSet s.enter e xe) (by simp [stSlots])
  have o2 : w.ownsRow B 174 2 d s.during.length xd := h.good.own (sSet s.during d xd) (by simp [stSlots])
  have o3 : w.ownsRow B 174 2 l s.leave.length xl := h.good.own (sSet s.leave l xl) (by simp [stSlots])
  have o4 : w.ownsRow B 93 7 y s.ways.length xy := h.good.own (sWay s.ways y xy) (by simp [stSlots])
  have o5 : w.ownsRow B 66 1 r s.regions.length xr := h.good.own (sReg k s.regions r xr) (by simp [stSlots])
  obtain ⟨a1, a2, rfl⟩ := owns_shape o1
  obtain ⟨b1, b2, rfl⟩ := owns_shape o2
  obtain ⟨c1, c2, rfl⟩ := owns_shape o3
  obtain ⟨d1, d2, rfl⟩ := owns_shape o4
  obtain ⟨e1, e2, rfl⟩ := owns_shape o5
  have hp : IsE _ w s.rests p := h.good.has (sExp s.rests p) (by simp [stSlots])
  obtain ⟨u, rfl⟩ := hp.ptr
  simp [Value.oneCell', sv]
/-- a state that has been read, handed over -/
theorem TU.done {C : Ctx} {k : Nat} {w0 w : World} {σ : S} {s : StF (St k)} (h : TU C k w0 w σ s) : ∃ e d l p y r, w.heap[w0.heap.size + 1]? = some (.cells (stA s.name s.first s.last e d l p y r) 65 (0, 0)) ∧ (stA s.name s.first s.last e d l p y r).all (·.oneCell') = true ∧
    ROut C (OkSt k w0) w0 (s, σ) (.returned (.agg (stA s.name s.first s.last e d l p y r))) (w.setRow w0.heap.size (stA s.name s.first s.last e d l p y r)) := by
  obtain ⟨e, d, l, p, y, r, xe, xd, xl, xy, xr, hs⟩ := h.su
  have hfr := fr_row w w0.heap.size (stA s.name s.first s.last e d l p y r)
  have hX : ∀ z ∈ [w0.heap.size], z < w0.heap.size + 2 := by simp
  have kp : Keep (Ge (w0.heap.size + 2)) (Ge w0.heap.size) w (w.setRow w0.heap.size (stA s.name s.first s.last e d l p y r)) := fun b hb hlt => ⟨by simp [Ge] at *; omega, (keepX hX hfr b hb hlt).2⟩
  refine ⟨e, d, l, p, y, r, hs.at_, hs.one, _, rfl, ⟨e, d, l, p, y, r, rfl, StC.carry kp (IsStates.carry kp k) _ _ hs.done⟩, ?_, ?_⟩
  · exact h.rs.low (B := w0.heap.size) h.lo ((Fr.refl _ _ _).row (.inl (Nat.le_refl _)) _)
  · exact h.fr.row (.inl (Nat.le_refl _)) _

set_option maxRecDepth 100000 in
set_option maxHeartbeats 40000000 in
theorem r_state {C : Ctx} {k : Nat} (hR : RRegion C k) {w : World} {i st deep : Nat} (hd : deep + (k + 1) = 7) (h : RS C w ⟨i, st, none⟩) : Calls Tryz.prog 153 #[.pointer (some ⟨C.rb, 0, none⟩), .int .i64 deep] w (ROut C (OkSt k w) w (stateR C.L (St k) (regionR C.L k) ⟨i, st, none⟩)) := by
  have hU0 := hu_new h
  obtain ⟨σ, hσ⟩ : ∃ x, Hid (x = (⟨i, st, none⟩ : S)) := ⟨_, rfl⟩
  obtain ⟨RES, hRES⟩ : ∃ x, Hid (x = stateR C.L (St k) (regionR C.L k) σ) := ⟨_, rfl⟩
  have hsi : Hid (σ.st ≤ σ.i) := by rw [hσ.out]; exact h.sa rfl
  rw [← hσ.out] at hU0 ⊢
  rw [← hRES.out]
  obtain ⟨b1, hb1⟩ : ∃ x, Hid (x = see C.L σ kInitial) := ⟨_, rfl⟩
  obtain ⟨σ1, hσ1⟩ : ∃ x, Hid (x = tk C.L σ kInitial) := ⟨_, rfl⟩
  obtain ⟨b2, hb2⟩ : ∃ x, Hid (x = see C.L σ1 kFinal) := ⟨_, rfl⟩
  obtain ⟨σ2, hσ2⟩ : ∃ x, Hid (x = tk C.L σ1 kFinal) := ⟨_, rfl⟩
  obtain ⟨σ3, hσ3⟩ : ∃ x, Hid (x = must C.L σ2 kState) := ⟨_, rfl⟩
  have hs3 : Hid (σ3.st + 1 ≤ σ3.i + 1 ∧ (σ3.bad = none → σ3.st + 1 ≤ σ3.i)) := by
    have q1 := tk_i C.L σ kInitial
    have q2 := tk_i C.L σ1 kFinal
    have q3 := must_i C.L σ2 kState
    rw [← hσ1.out] at q1
    rw [← hσ2.out] at q2
    rw [← hσ3.out] at q3
    have := hsi.out
    exact ⟨by omega, fun hb => by have := q3.2.2 hb; omega⟩
  have c1 := takeS hU0.rs ⟨#[105, 110, 105, 116, 105, 97, 108]⟩ (by decide) (b := b1) (σ' := σ1) hb1.out.symm hσ1.out.symm
  have c2 : ∀ w1, RS C w1 σ1 → Calls Tryz.prog 103 #[.pointer (some ⟨C.rb, 0, none⟩), .string ⟨#[102, 105, 110, 97, 108]⟩] w1 fun e w' => e = .returned (.bool b2) ∧ RS C w' σ2 ∧ Fr w1.heap.size [C.rb] w1 w' := fun w1 h1 => takeS h1 ⟨#[102, 105, 110, 97, 108]⟩ (by decide) hb2.out.symm hσ2.out.symm
  have c3 : ∀ w2, RS C w2 σ2 → Calls Tryz.prog 100 #[.pointer (some ⟨C.rb, 0, none⟩), .string ⟨#[115, 116, 97, 116, 101]⟩] w2 fun e w' => e = .returned (.tuple #[]) ∧ RS C w' σ3 ∧ Fr w2.heap.size [C.rb] w2 w' := fun w2 h2 => by rw [hσ3.out]; exact r_must h2 ⟨#[115, 116, 97, 116, 101]⟩ (by decide)
  clear h
  have T1 : Hid True := trivial
  have T2 : Hid True := trivial
  go_enter Tryz.func153, Tryz.ntmps153
  go_upto_if 25 with (first
    | (go_at_call 103; clear T1; refine c1.mono ?_; rintro e w1 ⟨rfl, h1, hf1⟩; have hU1 := hU0.call hf1 h1; have k1 := hU1.cel.1 1 _ rfl; have z1 := hU1.cel.2 1; have hU2 := hU1.put 1 (.bool b1) (nm' := []) (fi' := b1) (la' := false) rfl)
    | (go_at_call 103; clear T2; refine (c2 _ hU2.rs).mono ?_; rintro e w2 ⟨rfl, h2, hf2⟩; have hU3 := hU2.call hf2 h2; have k2 := hU3.cel.1 2 _ rfl; have z2 := hU3.cel.2 2; have hU4 := hU3.put 2 (.bool b2) (nm' := []) (fi' := b1) (la' := b2) rfl)
    | (go_at_call 100; refine (c3 _ hU4.rs).mono ?_; rintro e w3 ⟨rfl, h3, hf3⟩; have hU5 := hU4.call hf3 h3; obtain ⟨n5, k5, -, -, hr5⟩ := h3.rd; obtain ⟨-, -, -, y3, yz⟩ := cells4 hr5; have yz3 := yz 3; clear yz hr5; have hst3 : (σ3.st : Int) ≤ 603 := (by have := h3.sb; have := h3.lt; have := h3.wf.len; omega)))
  obtain ⟨h6, hf6⟩ := hU5.rs.more hs3.out.1 hs3.out.2
  have hU6 := hU5.call hf6 h6
  go_cut [] (fun wc => Hid (HU C w wc (more C.L σ3) [] b1 b2))
  case first =>
    by_cases h24 : 24 < σ3.st + 1
    · have h24' : (24 : Int) < (σ3.st : Int) + 1 := by omega
      have HM : Hid (more C.L σ3 = fails C.L ⟨σ3.i, σ3.st + 1, σ3.bad⟩ 4) := by rw [Hid, more, if_pos h24]
      go_wp2_with (go_at_call 104; refine (r_fails hU6.rs 4 (by decide)).mono ?_; rintro e w7 ⟨rfl, h7, hf7⟩)
      go_meet
      rw [HM.out]
      exact hU6.call hf7 h7
    · have h24' : ¬ (24 : Int) < (σ3.st : Int) + 1 := by omega
      have HM : Hid (more C.L σ3 = ⟨σ3.i, σ3.st + 1, σ3.bad⟩) := by rw [Hid, more, if_neg h24]
      go_wp2_with fail
      go_meet
      rw [HM.out]
      exact hU6
  case rest =>
    have hV0 := hcut.out
    clear hcut
    obtain ⟨σ4, hσ4⟩ : ∃ x, Hid (x = more C.L σ3) := ⟨_, rfl⟩
    rw [← hσ4.out] at hV0
    obtain ⟨s7, hs7⟩ : ∃ x, Hid (x = (nameR C.L σ4).1) := ⟨_, rfl⟩
    obtain ⟨σ7, hσ7⟩ : ∃ x, Hid (x = (nameR C.L σ4).2) := ⟨_, rfl⟩
    obtain ⟨b8, hb8⟩ : ∃ x, Hid (x = see C.L σ7 kSemi) := ⟨_, rfl⟩
    obtain ⟨σ8, hσ8⟩ : ∃ x, Hid (x = tk C.L σ7 kSemi) := ⟨_, rfl⟩
    obtain ⟨σ9, hσ9⟩ : ∃ x, Hid (x = must C.L σ7 kOpen) := ⟨_, rfl⟩
    have HH : Hid (headR C.L σ = σ4) := by rw [Hid, headR, ← hσ1.out, ← hσ2.out, ← hσ3.out, ← hσ4.out]
    have HR : Hid (RES = if b8 = true then (⟨s7, b1, b2, [], [], [], .nil, [], []⟩, σ8) else partsR C.L (St k) (regionR C.L k) C.L.length ⟨s7, b1, b2, [], [], [], .nil, [], []⟩ σ9) := by
      rw [Hid, hRES.out, stateR, HH.out, ← hs7.out, ← hσ7.out, ← hb8.out, ← hσ8.out, ← hσ9.out, ← hb1.out, ← hσ1.out, ← hb2.out]
    have c7 : Calls Tryz.prog 101 #[.pointer (some ⟨C.rb, 0, none⟩)] wc (ROut C (fun s v _ => v = sv s) wc (s7, σ7)) := by rw [hs7.out, hσ7.out]; exact r_name hV0.rs
    have c8 : ∀ w7, RS C w7 σ7 → Calls Tryz.prog 103 #[.pointer (some ⟨C.rb, 0, none⟩), .string ⟨#[59]⟩] w7 fun e w' => e = .returned (.bool b8) ∧ RS C w' σ8 ∧ Fr w7.heap.size [C.rb] w7 w' := fun w7 h7 => takeS h7 ⟨#[59]⟩ (by decide) hb8.out.symm hσ8.out.symm
    cases b8 with
    | true =>
      go_wp2_with (first
        | (go_at_call 101; refine c7.mono ?_; rintro e w7 ⟨v7, rfl, hv7, h7, hf7⟩; subst hv7; rw [sv]; have hV1 := hV0.call hf7 h7; have k0 := hV1.cel.1 0 _ rfl; have z0 := hV1.cel.2 0; have hV2 := hV1.put 0 (.string ⟨s7.toArray⟩) (nm' := s7) (fi' := b1) (la' := b2) rfl)
        | (go_at_call 103; refine (c8 _ hV2.rs).mono ?_; rintro e w8 ⟨rfl, h8, hf8⟩; have hV3 := hV2.call hf8 h8; have hT := hV3.begin (k := k); obtain ⟨e0, d0, l0, p0, y0, r0, at0, one0, out0⟩ := hT.done)
        | (refine wpList_load_eq rfl 65 (.tmp 5) rfl ⟨w.heap.size + 1, 0, none⟩ rfl (.agg (stA s7 b1 b2 e0 d0 l0 p0 y0 r0)) (load38 rfl at0) ?_)
        | (refine wpList_store_row rfl 65 (.tmp 4) (.tmp 33) rfl w.heap.size (stA s7 b1 b2 e0 d0 l0 p0 y0 r0) rfl rfl 65 _ hT.r0 Tryz.sizeState rfl one0 ?_))
      refine bodyPost_ret (resultsRS _ _ w.heap.size (stA s7 b1 b2 e0 d0 l0 p0 y0 r0) rfl rfl (setRow_heap _ _ _ _ _ _ hT.r0)) rfl ?_
      rw [HR.out, if_pos trivial]
      exact out0
    | false =>
      have h87 : Hid (σ8 = σ7) := by rw [Hid, hσ8.out, tk, if_neg (by rw [← hb8.out]; simp)]
      have c9 : ∀ w8, RS C w8 σ8 → Calls Tryz.prog 100 #[.pointer (some ⟨C.rb, 0, none⟩), .string ⟨#[123]⟩] w8 fun e w' => e = .returned (.tuple #[]) ∧ RS C w' σ9 ∧ Fr w8.heap.size [C.rb] w8 w' := fun w8 h8 => by rw [hσ9.out, ← h87.out]; exact r_must h8 ⟨#[123]⟩ (by decide)
      have HR2 : Hid (RES = partsR C.L (St k) (regionR C.L k) C.L.length ⟨s7, b1, b2, [], [], [], .nil, [], []⟩ σ9) := by rw [Hid, HR.out, if_neg (by simp)]
      go_wp2_with (first
        | (go_at_call 101; refine c7.mono ?_; rintro e w7 ⟨v7, rfl, hv7, h7, hf7⟩; subst hv7; rw [sv]; have hV1 := hV0.call hf7 h7; have k0 := hV1.cel.1 0 _ rfl; have z0 := hV1.cel.2 0; have hV2 := hV1.put 0 (.string ⟨s7.toArray⟩) (nm' := s7) (fi' := b1) (la' := b2) rfl)
        | (go_at_call 103; refine (c8 _ hV2.rs).mono ?_; rintro e w8 ⟨rfl, h8, hf8⟩; have hV3 := hV2.call hf8 h8)
        | (go_at_call 100; refine (c9 _ hV3.rs).mono ?_; rintro e w9 ⟨rfl, h9, hf9⟩; have hV4 := hV3.call hf9 h9; have hT := hV4.begin (k := k)))
      clear c1 c2 c3 c7 c8 c9 hU0 hU1 hU2 hU3 hU4 hU5 hU6 hV0 hV1 hV2 hV3 hV4 k0 z0 k1 z1 k2 z2 HR y3 yz3
      go_loopg [] C.L.length (fun g wr => Hid (∃ (s1 : StF (St k)) (σq : S), RES = partsR C.L (St k) (regionR C.L k) g s1 σq ∧ (σq.bad = none → C.L.length ≤ g + σq.i ∧ Bd6 (602 * σq.i) s1) ∧ TU C k w wr σq s1))
      case atStart => exact ⟨_, σ9, HR2.out, fun _ => ⟨by omega, ⟨by simp, by simp, by simp, by simp, by simp⟩⟩, hT⟩
      case round =>
        clear hT HR2
        obtain ⟨s1, ⟨iq, sq, bq⟩, hr1, hal, hT⟩ := hrel.out
        clear hrel
        have HR1 : Hid _ := hr1
        clear hr1
        cases bq with
        | some f =>
          obtain ⟨e0, d0, l0, p0, y0, r0, at0, one0, out0⟩ := hT.done
          have HE : Hid (RES = (s1, ⟨iq, sq, some f⟩)) := by rw [Hid, HR1.out, partsR_dead _ _ rfl]
          go_wp2_with (first
            | (go_at_call 102; refine (r_ok hT.rs).mono ?_; rintro e' w' ⟨rfl, hw⟩; obtain rfl := hw.symm)
            | (refine wpList_load_eq rfl 65 (.tmp 5) rfl ⟨w.heap.size + 1, 0, none⟩ rfl (.agg (stA s1.name s1.first s1.last e0 d0 l0 p0 y0 r0)) (load38 rfl at0) ?_)
            | (refine wpList_store_row rfl 65 (.tmp 4) (.tmp 133) rfl w.heap.size (stA s1.name s1.first s1.last e0 d0 l0 p0 y0 r0) rfl rfl 65 _ hT.r0 Tryz.sizeState rfl one0 ?_))
          refine bodyPost_ret (resultsRS _ _ w.heap.size (stA s1.name s1.first s1.last e0 d0 l0 p0 y0 r0) rfl rfl (setRow_heap _ _ _ _ _ _ hT.r0)) rfl ?_
          rw [HE.out]
          exact out0
        | none =>
          obtain ⟨hfu, hbd⟩ := hal rfl
          simp only at hfu hbd
          clear hal
          have hlt1 : iq < C.L.length := hT.rs.lt
          have h601 := hT.rs.wf.len
          obtain ⟨g', hgg⟩ : ∃ g', gk = g' + 1 := ⟨gk - 1, by omega⟩
          subst hgg
          have HR3 : Hid (RES = if tx C.L iq = kShut then (s1, ⟨iq + 1, sq, none⟩) else partsR C.L (St k) (regionR C.L k) g' (partR C.L (St k) (regionR C.L k) s1 ⟨iq, sq, none⟩).1 (partR C.L (St k) (regionR C.L k) s1 ⟨iq, sq, none⟩).2) := by
            rw [Hid, HR1.out, partsR]; rfl
          have HPG : Hid (∀ s' σ', partR C.L (St k) (regionR C.L k) s1 ⟨iq, sq, none⟩ = (s', σ') → Bd6 (602 * iq + 602) s' → (tx C.L iq ≠ kShut) → ∀ wr', TU C k w wr' σ' s' → Hid (∃ (s1 : StF (St k)) (σq : S), RES = partsR C.L (St k) (regionR C.L k) g' s1 σq ∧ (σq.bad = none → C.L.length ≤ g' + σq.i ∧ Bd6 (602 * σq.i) s1) ∧ TU C k w wr' σq s1)) := fun s' σ' hp hb hns wr' hT' => by
            refine ⟨s', σ', by rw [HR3.out, if_neg hns, hp], fun hbad => ?_, hT'⟩
            have := partR_lt (L := C.L) (k := k) (s := s1) (i := iq) (st := sq) (by rw [hp]; exact hbad)
            rw [hp] at this
            simp only at this
            exact ⟨by omega, hb.le (by omega)⟩
          clear HR1
          by_cases hsh : tx C.L iq = bs ⟨#[125]⟩
          · have HSH : Hid (tx C.L iq = bs ⟨#[125]⟩) := hsh
            have HE : Hid (RES = (s1, ⟨iq + 1, sq, none⟩)) := by rw [Hid, HR3.out, if_pos (show tx C.L iq = kShut from hsh)]
            clear hsh
            go_wp2_with (first
              | (go_at_call 102; refine (r_ok hT.rs).mono ?_; rintro e' w' ⟨rfl, hw⟩; obtain rfl := hw.symm)
              | (go_at_call 103; refine (takeY hT.rs ⟨#[125]⟩ (by decide) HSH).mono ?_; rintro e w3 ⟨rfl, h3, hf3⟩; have hT1 := hT.call hf3 h3; obtain ⟨e0, d0, l0, p0, y0, r0, at0, one0, out0⟩ := hT1.done)
              | (refine wpList_load_eq rfl 65 (.tmp 5) rfl ⟨w.heap.size + 1, 0, none⟩ rfl (.agg (stA s1.name s1.first s1.last e0 d0 l0 p0 y0 r0)) (load38 rfl at0) ?_)
              | (refine wpList_store_row rfl 65 (.tmp 4) (.tmp 133) rfl w.heap.size (stA s1.name s1.first s1.last e0 d0 l0 p0 y0 r0) rfl rfl 65 _ hT1.r0 Tryz.sizeState rfl one0 ?_))
            refine bodyPost_ret (resultsRS _ _ w.heap.size (stA s1.name s1.first s1.last e0 d0 l0 p0 y0 r0) rfl rfl (setRow_heap _ _ _ _ _ _ hT1.r0)) rfl ?_
            rw [HE.out]
            exact out0
          · have HSH : Hid (tx C.L iq ≠ bs ⟨#[125]⟩) := hsh
            clear hsh
            by_cases hn0 : tx C.L iq = bs ⟨#[101, 110, 116, 114, 121]⟩
            · have N0 : Hid (tx C.L iq = bs ⟨#[101, 110, 116, 114, 121]⟩) := hn0
              clear hn0
              obtain ⟨i0, hi, hz0, hz1, hz2⟩ := info_parts Tryz.info174
              obtain ⟨l4, hl4⟩ : ∃ x, Hid (x = (setsR C.L C.L.length [] ⟨iq + 1, sq, none⟩).1) := ⟨_, rfl⟩
              obtain ⟨σ4, hσ4⟩ : ∃ x, Hid (x = (setsR C.L C.L.length [] ⟨iq + 1, sq, none⟩).2) := ⟨_, rfl⟩
              obtain ⟨σ5, hσ5⟩ : ∃ x, Hid (x = must C.L σ4 kSemi) := ⟨_, rfl⟩
              have hpos4 : 0 < l4.length := by rw [hl4.out]; exact setsR_pos hT.rs.wf.pos _
              have HP : Hid (partR C.L (St k) (regionR C.L k) s1 ⟨iq, sq, none⟩ = ({ s1 with enter := s1.enter ++ l4 }, σ5)) := by
                rw [Hid, partR, if_pos (show tx C.L iq = kEntry from N0.out), hσ5.out, hσ4.out, hl4.out]
              have c4 : ∀ w4, RS C w4 ⟨iq + 1, sq, none⟩ → Calls Tryz.prog 185 #[.pointer (some ⟨C.rb, 0, none⟩)] w4 (ROut C (OkR w4) w4 (l4, σ4)) := fun w4 h4 => by rw [hl4.out, hσ4.out]; exact r_sets h4
              have c5 : ∀ w5, RS C w5 σ4 → Calls Tryz.prog 100 #[.pointer (some ⟨C.rb, 0, none⟩), .string ⟨#[59]⟩] w5 fun e w' => e = .returned (.tuple #[]) ∧ RS C w' σ5 ∧ Fr w5.heap.size [C.rb] w5 w' := fun w5 h5 => by rw [hσ5.out]; exact r_must h5 ⟨#[59]⟩ (by decide)
              have T0 : Hid True := trivial
              have T1 : Hid True := trivial
              go_wp2_with (first
                | (go_at_call 102; refine (r_ok hT.rs).mono ?_; rintro e' w' ⟨rfl, hw⟩; obtain rfl := hw.symm)
                | (go_at_call 103; clear T0; refine (takeN hT.rs ⟨#[125]⟩ (by decide) HSH).mono ?_; rintro e w0 ⟨rfl, h0, hf0⟩; have hT0 := hT.call hf0 h0)
                | (go_at_call 103; clear T1; refine (takeY hT0.rs ⟨#[101, 110, 116, 114, 121]⟩ (by decide) N0).mono ?_; rintro e v1 ⟨rfl, g1, gf1⟩; have hA1 := hT0.call gf1 g1))
              obtain ⟨e, d, l, p, y, r, xe, xd, xl, xy, xr, hS2⟩ := hA1.su
              have hlo := hA1.lo
              have hz2' := lt_of_block hS2.at_
              have hX : ∀ x ∈ [C.rb], x < w.heap.size + 2 := by simp; omega
              have hne' : w.heap.size + 1 ∉ [C.rb] := by simp; omega
              have hoy : v1.ownsRow (w.heap.size + 2) 174 2 e s1.enter.length xe := hS2.good.own (sSet s1.enter e xe) (by simp [stSlots])
              obtain ⟨ao, cap, rfl⟩ := owns_shape hoy
              have hB2 : w.heap.size + 2 ≤ v1.heap.size := by omega
              have hdr : Fr v1.heap.size [] v1 v1.drew := (Fr.refl _ _ _).drew
              have hp3' := hA1.rs.same hdr
              obtain ⟨y2, -⟩ := cel hS2.at_ 3 (Value.slice ao s1.enter.length cap) rfl
              go_region_law
                (first
                  | (refine step_append_lies _ (by rfl) _ _ _ (by rfl) (w.heap.size + 2) 174 i0 _ 2 24 Tryz.underlying62 hi hz0 hz1 hz2 rfl (by omega) (Value.slice ao s1.enter.length cap) s1.enter.length xe (by rfl) (hS4.good.own (sSet s1.enter _ xe) (by simp [stSlots]))
                        ⟨g4, 0, none⟩ l4.length cap4 xs4 (by rfl) hT4.own.1 (hT4.own.cells (g := g4) rfl) (setRows_one _ _ hT4.rows)
                        hpos4 (by unfold maxLen; have := hbd.e; omega) (by have := hbd.e; omega) hB4 w4'.heap.size rfl ?_
                     intro gg cap' w5' hown5 hgrow hat hlt5
                     have hS5 := SU.grow_enter (m := l4) hS4 (by omega) hB2 hS2.lts (hT4.rows.map (SetC.carry geNot_ge)) (by rw [List.length_append]; exact hown5) hgrow (by rcases hat with e1 | e1; exact .inl e1.symm; exact .inr (by rw [e1]; simp [Value.ownBlock]))
                     have hgo : ∀ g, (Value.slice ao s1.enter.length cap).ownBlock = some g → w.heap.size + 2 ≤ g := fun g hg => ((hS4.good.own (sSet s1.enter _ xe) (by simp [stSlots])).lt g hg).1
                     have hp5' : RS C w5' σ4 := hp4'.low (B := w.heap.size) hlo ((Fr.refl _ [] w4').grown hgrow (by omega) (fun g hg => .inl (by have := hgo g hg; omega)))
                     have hF5 : Fr w.heap.size [C.rb] w w5' := (hF4.grown hgrow (by omega) (fun g hg => .inl (by have := hgo g hg; omega)))
                     have hr5 : w5'.heap[w.heap.size]? = some (.cells (stA [] false false (.slice none 0 0) (.slice none 0 0) (.slice none 0 0) (.pointer none) (.slice none 0 0) (.slice none 0 0)) 65 (0, 0)) := by
                       rw [hgrow.block _ (by omega) (fun e1 => by have := hgo _ e1.symm; omega)]; exact hr4
                     have hb5 : w5'.heap[w.heap.size + 1]? = some (.cells (stA s1.name s1.first s1.last (Value.slice ao s1.enter.length cap) d l p y r) 65 (0, 0)) := by
                       rw [hgrow.block _ hl4' (fun e1 => by have := hgo _ e1.symm; omega)]; exact hS4.at_
                     obtain ⟨y5, zy5⟩ := cel hb5 3 (Value.slice ao s1.enter.length cap) rfl)
                  | (go_simp
                     go_at_call 185
                     refine (c4 _ hp3').mono ?_
                     rintro e1 w4' ⟨v4, rfl, ⟨⟨xs4, hT4⟩, hln4⟩, hp4', hf4'⟩
                     have hln4' : l4.length ≤ 602 := hln4
                     replace hT4 : SetsAt v1.drew.heap.size w4' l4 v4 xs4 := hT4
                     obtain ⟨g4, cap4, rfl⟩ := hT4.some hpos4
                     have hS4 := hS2.carry hX hne' (hdr.wide.up hf4')
                     have hr4 := (hdr.wide.up hf4').stays hA1.r0 hlo
                     have hF4 : Fr w.heap.size [C.rb] w w4' := hA1.fr.up' (hdr.wide.up hf4') (by omega)
                     obtain ⟨y4, zy4⟩ := cel hS4.at_ 3 (Value.slice ao s1.enter.length cap) rfl
                     have hl4' := lt_of_block hS4.at_
                     have hB4 : w.heap.size + 2 ≤ w4'.heap.size := Nat.le_trans hB2 (hdr.wide.up hf4').size))
              all_goals
                have hT6 : TU C k w (w5'.setCell ⟨w.heap.size + 1, 3, none⟩ (.slice (some ⟨gg, 0, none⟩) (s1.enter.length + l4.length) cap')) σ4 { s1 with enter := s1.enter ++ l4 } :=
                  ⟨hp5'.low (B := w.heap.size) hlo ((Fr.refl _ _ _).setCell (.inl (by simp)) _), hF5.setCell (.inl (by simp)) _, by rw [(fr_put w5' (w.heap.size + 1) 3 _).block _ (by have := lt_of_block hr5; omega) (by simp)]; exact hr5, ⟨_, _, _, _, _, _, _, _, _, _, _, hS5⟩, hlo⟩
                go_wp2_with (go_at_call 100; refine (c5 _ hT6.rs).mono ?_; rintro e1 w7 ⟨rfl, h7, hf7⟩; have hT7 := hT6.call hf7 h7)
                go_roundg g'
                case measure => omega
                case rel => exact HPG.out _ _ HP.out ⟨by have := hbd.e; simp; omega, by have := hbd.d; show s1.during.length ≤ _; omega, by have := hbd.l; show s1.leave.length ≤ _; omega, by have := hbd.y; show s1.ways.length ≤ _; omega, by have := hbd.r; show s1.regions.length ≤ _; omega⟩ HSH.out _ hT7
            have N0 : Hid (tx C.L iq ≠ bs ⟨#[101, 110, 116, 114, 121]⟩) := hn0
            clear hn0
            by_cases hn1 : tx C.L iq = bs ⟨#[100, 117, 114, 105, 110, 103]⟩
            · have N1 : Hid (tx C.L iq = bs ⟨#[100, 117, 114, 105, 110, 103]⟩) := hn1
              clear hn1
              obtain ⟨i0, hi, hz0, hz1, hz2⟩ := info_parts Tryz.info174
              obtain ⟨l4, hl4⟩ : ∃ x, Hid (x = (setsR C.L C.L.length [] ⟨iq + 1, sq, none⟩).1) := ⟨_, rfl⟩
              obtain ⟨σ4, hσ4⟩ : ∃ x, Hid (x = (setsR C.L C.L.length [] ⟨iq + 1, sq, none⟩).2) := ⟨_, rfl⟩
              obtain ⟨σ5, hσ5⟩ : ∃ x, Hid (x = must C.L σ4 kSemi) := ⟨_, rfl⟩
              have hpos4 : 0 < l4.length := by rw [hl4.out]; exact setsR_pos hT.rs.wf.pos _
              have HP : Hid (partR C.L (St k) (regionR C.L k) s1 ⟨iq, sq, none⟩ = ({ s1 with during := s1.during ++ l4 }, σ5)) := by
                rw [Hid, partR, if_neg (show ¬ tx C.L iq = kEntry from N0.out), if_pos (show tx C.L iq = kDuring from N1.out), hσ5.out, hσ4.out, hl4.out]
              have c4 : ∀ w4, RS C w4 ⟨iq + 1, sq, none⟩ → Calls Tryz.prog 185 #[.pointer (some ⟨C.rb, 0, none⟩)] w4 (ROut C (OkR w4) w4 (l4, σ4)) := fun w4 h4 => by rw [hl4.out, hσ4.out]; exact r_sets h4
              have c5 : ∀ w5, RS C w5 σ4 → Calls Tryz.prog 100 #[.pointer (some ⟨C.rb, 0, none⟩), .string ⟨#[59]⟩] w5 fun e w' => e = .returned (.tuple #[]) ∧ RS C w' σ5 ∧ Fr w5.heap.size [C.rb] w5 w' := fun w5 h5 => by rw [hσ5.out]; exact r_must h5 ⟨#[59]⟩ (by decide)
              have T0 : Hid True := trivial
              have T1 : Hid True := trivial
              have T2 : Hid True := trivial
              go_wp2_with (first
                | (go_at_call 102; refine (r_ok hT.rs).mono ?_; rintro e' w' ⟨rfl, hw⟩; obtain rfl := hw.symm)
                | (go_at_call 103; clear T0; refine (takeN hT.rs ⟨#[125]⟩ (by decide) HSH).mono ?_; rintro e w0 ⟨rfl, h0, hf0⟩; have hT0 := hT.call hf0 h0)
                | (go_at_call 103; clear T1; refine (takeN hT0.rs ⟨#[101, 110, 116, 114, 121]⟩ (by decide) N0).mono ?_; rintro e v1 ⟨rfl, g1, gf1⟩; have hA1 := hT0.call gf1 g1)
                | (go_at_call 103; clear T2; refine (takeY hA1.rs ⟨#[100, 117, 114, 105, 110, 103]⟩ (by decide) N1).mono ?_; rintro e v2 ⟨rfl, g2, gf2⟩; have hA2 := hA1.call gf2 g2))
              obtain ⟨e, d, l, p, y, r, xe, xd, xl, xy, xr, hS2⟩ := hA2.su
              have hlo := hA2.lo
              have hz2' := lt_of_block hS2.at_
              have hX : ∀ x ∈ [C.rb], x < w.heap.size + 2 := by simp; omega
              have hne' : w.heap.size + 1 ∉ [C.rb] := by simp; omega
              have hoy : v2.ownsRow (w.heap.size + 2) 174 2 d s1.during.length xd := hS2.good.own (sSet s1.during d xd) (by simp [stSlots])
              obtain ⟨ao, cap, rfl⟩ := owns_shape hoy
              have hB2 : w.heap.size + 2 ≤ v2.heap.size := by omega
              have hdr : Fr v2.heap.size [] v2 v2.drew := (Fr.refl _ _ _).drew
              have hp3' := hA2.rs.same hdr
              obtain ⟨y2, -⟩ := cel hS2.at_ 4 (Value.slice ao s1.during.length cap) rfl
              go_region_law
                (first
                  | (refine step_append_lies _ (by rfl) _ _ _ (by rfl) (w.heap.size + 2) 174 i0 _ 2 24 Tryz.underlying62 hi hz0 hz1 hz2 rfl (by omega) (Value.slice ao s1.during.length cap) s1.during.length xd (by rfl) (hS4.good.own (sSet s1.during _ xd) (by simp [stSlots]))
                        ⟨g4, 0, none⟩ l4.length cap4 xs4 (by rfl) hT4.own.1 (hT4.own.cells (g := g4) rfl) (setRows_one _ _ hT4.rows)
                        hpos4 (by unfold maxLen; have := hbd.d; omega) (by have := hbd.d; omega) hB4 w4'.heap.size rfl ?_
                     intro gg cap' w5' hown5 hgrow hat hlt5
                     have hS5 := SU.grow_during (m := l4) hS4 (by omega) hB2 hS2.lts (hT4.rows.map (SetC.carry geNot_ge)) (by rw [List.length_append]; exact hown5) hgrow (by rcases hat with e1 | e1; exact .inl e1.symm; exact .inr (by rw [e1]; simp [Value.ownBlock]))
                     have hgo : ∀ g, (Value.slice ao s1.during.length cap).ownBlock = some g → w.heap.size + 2 ≤ g := fun g hg => ((hS4.good.own (sSet s1.during _ xd) (by simp [stSlots])).lt g hg).1
                     have hp5' : RS C w5' σ4 := hp4'.low (B := w.heap.size) hlo ((Fr.refl _ [] w4').grown hgrow (by omega) (fun g hg => .inl (by have := hgo g hg; omega)))
                     have hF5 : Fr w.heap.size [C.rb] w w5' := (hF4.grown hgrow (by omega) (fun g hg => .inl (by have := hgo g hg; omega)))
                     have hr5 : w5'.heap[w.heap.size]? = some (.cells (stA [] false false (.slice none 0 0) (.slice none 0 0) (.slice none 0 0) (.pointer none) (.slice none 0 0) (.slice none 0 0)) 65 (0, 0)) := by
                       rw [hgrow.block _ (by omega) (fun e1 => by have := hgo _ e1.symm; omega)]; exact hr4
                     have hb5 : w5'.heap[w.heap.size + 1]? = some (.cells (stA s1.name s1.first s1.last e (Value.slice ao s1.during.length cap) l p y r) 65 (0, 0)) := by
                       rw [hgrow.block _ hl4' (fun e1 => by have := hgo _ e1.symm; omega)]; exact hS4.at_
                     obtain ⟨y5, zy5⟩ := cel hb5 4 (Value.slice ao s1.during.length cap) rfl)
                  | (go_simp
                     go_at_call 185
                     refine (c4 _ hp3').mono ?_
                     rintro e1 w4' ⟨v4, rfl, ⟨⟨xs4, hT4⟩, hln4⟩, hp4', hf4'⟩
                     have hln4' : l4.length ≤ 602 := hln4
                     replace hT4 : SetsAt v2.drew.heap.size w4' l4 v4 xs4 := hT4
                     obtain ⟨g4, cap4, rfl⟩ := hT4.some hpos4
                     have hS4 := hS2.carry hX hne' (hdr.wide.up hf4')
                     have hr4 := (hdr.wide.up hf4').stays hA2.r0 hlo
                     have hF4 : Fr w.heap.size [C.rb] w w4' := hA2.fr.up' (hdr.wide.up hf4') (by omega)
                     obtain ⟨y4, zy4⟩ := cel hS4.at_ 4 (Value.slice ao s1.during.length cap) rfl
                     have hl4' := lt_of_block hS4.at_
                     have hB4 : w.heap.size + 2 ≤ w4'.heap.size := Nat.le_trans hB2 (hdr.wide.up hf4').size))
              all_goals
                have hT6 : TU C k w (w5'.setCell ⟨w.heap.size + 1, 4, none⟩ (.slice (some ⟨gg, 0, none⟩) (s1.during.length + l4.length) cap')) σ4 { s1 with during := s1.during ++ l4 } :=
                  ⟨hp5'.low (B := w.heap.size) hlo ((Fr.refl _ _ _).setCell (.inl (by simp)) _), hF5.setCell (.inl (by simp)) _, by rw [(fr_put w5' (w.heap.size + 1) 4 _).block _ (by have := lt_of_block hr5; omega) (by simp)]; exact hr5, ⟨_, _, _, _, _, _, _, _, _, _, _, hS5⟩, hlo⟩
                go_wp2_with (go_at_call 100; refine (c5 _ hT6.rs).mono ?_; rintro e1 w7 ⟨rfl, h7, hf7⟩; have hT7 := hT6.call hf7 h7)
                go_roundg g'
                case measure => omega
                case rel => exact HPG.out _ _ HP.out ⟨by have := hbd.e; show s1.enter.length ≤ _; omega, by have := hbd.d; simp; omega, by have := hbd.l; show s1.leave.length ≤ _; omega, by have := hbd.y; show s1.ways.length ≤ _; omega, by have := hbd.r; show s1.regions.length ≤ _; omega⟩ HSH.out _ hT7
            have N1 : Hid (tx C.L iq ≠ bs ⟨#[100, 117, 114, 105, 110, 103]⟩) := hn1
            clear hn1
            by_cases hn2 : tx C.L iq = bs ⟨#[101, 120, 105, 116]⟩
            · have N2 : Hid (tx C.L iq = bs ⟨#[101, 120, 105, 116]⟩) := hn2
              clear hn2
              obtain ⟨i0, hi, hz0, hz1, hz2⟩ := info_parts Tryz.info174
              obtain ⟨l4, hl4⟩ : ∃ x, Hid (x = (setsR C.L C.L.length [] ⟨iq + 1, sq, none⟩).1) := ⟨_, rfl⟩
              obtain ⟨σ4, hσ4⟩ : ∃ x, Hid (x = (setsR C.L C.L.length [] ⟨iq + 1, sq, none⟩).2) := ⟨_, rfl⟩
              obtain ⟨σ5, hσ5⟩ : ∃ x, Hid (x = must C.L σ4 kSemi) := ⟨_, rfl⟩
              have hpos4 : 0 < l4.length := by rw [hl4.out]; exact setsR_pos hT.rs.wf.pos _
              have HP : Hid (partR C.L (St k) (regionR C.L k) s1 ⟨iq, sq, none⟩ = ({ s1 with leave := s1.leave ++ l4 }, σ5)) := by
                rw [Hid, partR, if_neg (show ¬ tx C.L iq = kEntry from N0.out), if_neg (show ¬ tx C.L iq = kDuring from N1.out), if_pos (show tx C.L iq = kExit from N2.out), hσ5.out, hσ4.out, hl4.out]
              have c4 : ∀ w4, RS C w4 ⟨iq + 1, sq, none⟩ → Calls Tryz.prog 185 #[.pointer (some ⟨C.rb, 0, none⟩)] w4 (ROut C (OkR w4) w4 (l4, σ4)) := fun w4 h4 => by rw [hl4.out, hσ4.out]; exact r_sets h4
              have c5 : ∀ w5, RS C w5 σ4 → Calls Tryz.prog 100 #[.pointer (some ⟨C.rb, 0, none⟩), .string ⟨#[59]⟩] w5 fun e w' => e = .returned (.tuple #[]) ∧ RS C w' σ5 ∧ Fr w5.heap.size [C.rb] w5 w' := fun w5 h5 => by rw [hσ5.out]; exact r_must h5 ⟨#[59]⟩ (by decide)
              have T0 : Hid True := trivial
              have T1 : Hid True := trivial
              have T2 : Hid True := trivial
              have T3 : Hid True := trivial
              go_wp2_with (first
                | (go_at_call 102; refine (r_ok hT.rs).mono ?_; rintro e' w' ⟨rfl, hw⟩; obtain rfl := hw.symm)
                | (go_at_call 103; clear T0; refine (takeN hT.rs ⟨#[125]⟩ (by decide) HSH).mono ?_; rintro e w0 ⟨rfl, h0, hf0⟩; have hT0 := hT.call hf0 h0)
                | (go_at_call 103; clear T1; refine (takeN hT0.rs ⟨#[101, 110, 116, 114, 121]⟩ (by decide) N0).mono ?_; rintro e v1 ⟨rfl, g1, gf1⟩; have hA1 := hT0.call gf1 g1)
                | (go_at_call 103; clear T2; refine (takeN hA1.rs ⟨#[100, 117, 114, 105, 110, 103]⟩ (by decide) N1).mono ?_; rintro e v2 ⟨rfl, g2, gf2⟩; have hA2 := hA1.call gf2 g2)
                | (go_at_call 103; clear T3; refine (takeY hA2.rs ⟨#[101, 120, 105, 116]⟩ (by decide) N2).mono ?_; rintro e v3 ⟨rfl, g3, gf3⟩; have hA3 := hA2.call gf3 g3))
              obtain ⟨e, d, l, p, y, r, xe, xd, xl, xy, xr, hS2⟩ := hA3.su
              have hlo := hA3.lo
              have hz2' := lt_of_block hS2.at_
              have hX : ∀ x ∈ [C.rb], x < w.heap.size + 2 := by simp; omega
              have hne' : w.heap.size + 1 ∉ [C.rb] := by simp; omega
              have hoy : v3.ownsRow (w.heap.size + 2) 174 2 l s1.leave.length xl := hS2.good.own (sSet s1.leave l xl) (by simp [stSlots])
              obtain ⟨ao, cap, rfl⟩ := owns_shape hoy
              have hB2 : w.heap.size + 2 ≤ v3.heap.size := by omega
              have hdr : Fr v3.heap.size [] v3 v3.drew := (Fr.refl _ _ _).drew
              have hp3' := hA3.rs.same hdr
              obtain ⟨y2, -⟩ := cel hS2.at_ 5 (Value.slice ao s1.leave.length cap) rfl
              go_region_law
                (first
                  | (refine step_append_lies _ (by rfl) _ _ _ (by rfl) (w.heap.size + 2) 174 i0 _ 2 24 Tryz.underlying62 hi hz0 hz1 hz2 rfl (by omega) (Value.slice ao s1.leave.length cap) s1.leave.length xl (by rfl) (hS4.good.own (sSet s1.leave _ xl) (by simp [stSlots]))
                        ⟨g4, 0, none⟩ l4.length cap4 xs4 (by rfl) hT4.own.1 (hT4.own.cells (g := g4) rfl) (setRows_one _ _ hT4.rows)
                        hpos4 (by unfold maxLen; have := hbd.l; omega) (by have := hbd.l; omega) hB4 w4'.heap.size rfl ?_
                     intro gg cap' w5' hown5 hgrow hat hlt5
                     have hS5 := SU.grow_leave (m := l4) hS4 (by omega) hB2 hS2.lts (hT4.rows.map (SetC.carry geNot_ge)) (by rw [List.length_append]; exact hown5) hgrow (by rcases hat with e1 | e1; exact .inl e1.symm; exact .inr (by rw [e1]; simp [Value.ownBlock]))
                     have hgo : ∀ g, (Value.slice ao s1.leave.length cap).ownBlock = some g → w.heap.size + 2 ≤ g := fun g hg => ((hS4.good.own (sSet s1.leave _ xl) (by simp [stSlots])).lt g hg).1
                     have hp5' : RS C w5' σ4 := hp4'.low (B := w.heap.size) hlo ((Fr.refl _ [] w4').grown hgrow (by omega) (fun g hg => .inl (by have := hgo g hg; omega)))
                     have hF5 : Fr w.heap.size [C.rb] w w5' := (hF4.grown hgrow (by omega) (fun g hg => .inl (by have := hgo g hg; omega)))
                     have hr5 : w5'.heap[w.heap.size]? = some (.cells (stA [] false false (.slice none 0 0) (.slice none 0 0) (.slice none 0 0) (.pointer none) (.slice none 0 0) (.slice none 0 0)) 65 (0, 0)) := by
                       rw [hgrow.block _ (by omega) (fun e1 => by have := hgo _ e1.symm; omega)]; exact hr4
                     have hb5 : w5'.heap[w.heap.size + 1]? = some (.cells (stA s1.name s1.first s1.last e d (Value.slice ao s1.leave.length cap) p y r) 65 (0, 0)) := by
                       rw [hgrow.block _ hl4' (fun e1 => by have := hgo _ e1.symm; omega)]; exact hS4.at_
                     obtain ⟨y5, zy5⟩ := cel hb5 5 (Value.slice ao s1.leave.length cap) rfl)
                  | (go_simp
                     go_at_call 185
                     refine (c4 _ hp3').mono ?_
                     rintro e1 w4' ⟨v4, rfl, ⟨⟨xs4, hT4⟩, hln4⟩, hp4', hf4'⟩
                     have hln4' : l4.length ≤ 602 := hln4
                     replace hT4 : SetsAt v3.drew.heap.size w4' l4 v4 xs4 := hT4
                     obtain ⟨g4, cap4, rfl⟩ := hT4.some hpos4
                     have hS4 := hS2.carry hX hne' (hdr.wide.up hf4')
                     have hr4 := (hdr.wide.up hf4').stays hA3.r0 hlo
                     have hF4 : Fr w.heap.size [C.rb] w w4' := hA3.fr.up' (hdr.wide.up hf4') (by omega)
                     obtain ⟨y4, zy4⟩ := cel hS4.at_ 5 (Value.slice ao s1.leave.length cap) rfl
                     have hl4' := lt_of_block hS4.at_
                     have hB4 : w.heap.size + 2 ≤ w4'.heap.size := Nat.le_trans hB2 (hdr.wide.up hf4').size))
              all_goals
                have hT6 : TU C k w (w5'.setCell ⟨w.heap.size + 1, 5, none⟩ (.slice (some ⟨gg, 0, none⟩) (s1.leave.length + l4.length) cap')) σ4 { s1 with leave := s1.leave ++ l4 } :=
                  ⟨hp5'.low (B := w.heap.size) hlo ((Fr.refl _ _ _).setCell (.inl (by simp)) _), hF5.setCell (.inl (by simp)) _, by rw [(fr_put w5' (w.heap.size + 1) 5 _).block _ (by have := lt_of_block hr5; omega) (by simp)]; exact hr5, ⟨_, _, _, _, _, _, _, _, _, _, _, hS5⟩, hlo⟩
                go_wp2_with (go_at_call 100; refine (c5 _ hT6.rs).mono ?_; rintro e1 w7 ⟨rfl, h7, hf7⟩; have hT7 := hT6.call hf7 h7)
                go_roundg g'
                case measure => omega
                case rel => exact HPG.out _ _ HP.out ⟨by have := hbd.e; show s1.enter.length ≤ _; omega, by have := hbd.d; show s1.during.length ≤ _; omega, by have := hbd.l; simp; omega, by have := hbd.y; show s1.ways.length ≤ _; omega, by have := hbd.r; show s1.regions.length ≤ _; omega⟩ HSH.out _ hT7
            have N2 : Hid (tx C.L iq ≠ bs ⟨#[101, 120, 105, 116]⟩) := hn2
            clear hn2
            by_cases hn3 : tx C.L iq = bs ⟨#[115, 117, 115, 112, 101, 110, 100]⟩
            · have N3 : Hid (tx C.L iq = bs ⟨#[115, 117, 115, 112, 101, 110, 100]⟩) := hn3
              clear hn3
              have T0 : Hid True := trivial
              have T1 : Hid True := trivial
              have T2 : Hid True := trivial
              have T3 : Hid True := trivial
              have T4 : Hid True := trivial
              go_upto_region 24 with (first
                | (go_at_call 102; refine (r_ok hT.rs).mono ?_; rintro e' w' ⟨rfl, hw⟩; obtain rfl := hw.symm)
                | (go_at_call 103; clear T0; refine (takeN hT.rs ⟨#[125]⟩ (by decide) HSH).mono ?_; rintro e w0 ⟨rfl, h0, hf0⟩; have hT0 := hT.call hf0 h0)
                | (go_at_call 103; clear T1; refine (takeN hT0.rs ⟨#[101, 110, 116, 114, 121]⟩ (by decide) N0).mono ?_; rintro e v1 ⟨rfl, g1, gf1⟩; have hA1 := hT0.call gf1 g1)
                | (go_at_call 103; clear T2; refine (takeN hA1.rs ⟨#[100, 117, 114, 105, 110, 103]⟩ (by decide) N1).mono ?_; rintro e v2 ⟨rfl, g2, gf2⟩; have hA2 := hA1.call gf2 g2)
                | (go_at_call 103; clear T3; refine (takeN hA2.rs ⟨#[101, 120, 105, 116]⟩ (by decide) N2).mono ?_; rintro e v3 ⟨rfl, g3, gf3⟩; have hA3 := hA2.call gf3 g3)
                | (go_at_call 103; clear T4; refine (takeY hA3.rs ⟨#[115, 117, 115, 112, 101, 110, 100]⟩ (by decide) N3).mono ?_; rintro e v4 ⟨rfl, g4, gf4⟩; have hA4 := hA3.call gf4 g4))
              have hlo := hA4.lo
              obtain ⟨e, d, l, p, y, r, xe, xd, xl, xy, xr, hS2⟩ := hA4.su
              have hpe : IsE _ v4 s1.rests p := hS2.good.has (sExp s1.rests p) (by simp [stSlots])
              have hz2' := lt_of_block hS2.at_
              have hX : ∀ x ∈ [C.rb], x < w.heap.size + 2 := by simp; omega
              have hne' : w.heap.size + 1 ∉ [C.rb] := by simp; omega
              have hB2 : w.heap.size + 2 ≤ v4.heap.size := by omega
              cases hrs : s1.rests with
              | nil =>
                rw [hrs] at hpe
                obtain rfl : p = .pointer none := hpe
                obtain ⟨y2, -⟩ := cel hS2.at_ 6 (Value.pointer none) rfl
                obtain ⟨e4, he4⟩ : ∃ x, Hid (x = (exprR C.L 7 (⟨iq + 1, sq, none⟩ : S)).1) := ⟨_, rfl⟩
                obtain ⟨σ4, hσ4⟩ : ∃ x, Hid (x = (exprR C.L 7 (⟨iq + 1, sq, none⟩ : S)).2) := ⟨_, rfl⟩
                obtain ⟨σ5, hσ5⟩ : ∃ x, Hid (x = must C.L σ4 kSemi) := ⟨_, rfl⟩
                have HP : Hid (partR C.L (St k) (regionR C.L k) s1 ⟨iq, sq, none⟩ = ({ s1 with rests := e4 }, σ5)) := by
                  rw [Hid, partR, if_neg (show ¬ tx C.L iq = kEntry from N0.out), if_neg (show ¬ tx C.L iq = kDuring from N1.out), if_neg (show ¬ tx C.L iq = kExit from N2.out), if_pos (show tx C.L iq = kSuspend from N3.out), hrs]
                  simp only
                  rw [hσ5.out, hσ4.out, he4.out]
                have c4 : ∀ w4, RS C w4 (⟨iq + 1, sq, none⟩ : S) → Calls Tryz.prog 186 #[.pointer (some ⟨C.rb, 0, none⟩), .int .i64 0] w4 (ROut C (fun e v w' => IsE (Ge w4.heap.size) w' e v) w4 (e4, σ4)) := fun w4 h4 => by rw [he4.out, hσ4.out]; exact r_expr0 w4 _ h4
                have c5 : ∀ w5, RS C w5 σ4 → Calls Tryz.prog 100 #[.pointer (some ⟨C.rb, 0, none⟩), .string ⟨#[59]⟩] w5 fun e w' => e = .returned (.tuple #[]) ∧ RS C w' σ5 ∧ Fr w5.heap.size [C.rb] w5 w' := fun w5 h5 => by rw [hσ5.out]; exact r_must h5 ⟨#[59]⟩ (by decide)
                go_wp2_with (go_at_call 186; refine (c4 _ hA4.rs).mono ?_; rintro e1 w4 ⟨v4, rfl, hv4, h4, hf4⟩; obtain ⟨p4, rfl⟩ := hv4.ptr; have hS4 := hS2.carry hX hne' hf4; obtain ⟨y4, zy4⟩ := cel hS4.at_ 6 (Value.pointer none) rfl; have hr4 := hf4.stays hA4.r0 hlo; have hF4 : Fr w.heap.size [C.rb] w w4 := hA4.fr.up' hf4 (by omega))
                have hS5 := SU.grow_rests (t := e4) (n := v4.heap.size) hS4 (by omega) hB2 hS2.lts hv4
                have hT6 : TU C k w (w4.setCell ⟨w.heap.size + 1, 6, none⟩ (.pointer p4)) σ4 { s1 with rests := e4 } :=
                  ⟨h4.low (B := w.heap.size) hlo ((Fr.refl _ _ _).setCell (.inl (by simp)) _), hF4.setCell (.inl (by simp)) _, by rw [(fr_put w4 (w.heap.size + 1) 6 _).block _ (by have := lt_of_block hr4; omega) (by simp)]; exact hr4, ⟨_, _, _, _, _, _, _, _, _, _, _, hS5⟩, hlo⟩
                go_wp2_with (go_at_call 100; refine (c5 _ hT6.rs).mono ?_; rintro e1 w7 ⟨rfl, h7, hf7⟩; have hT7 := hT6.call hf7 h7)
                go_roundg g'
                case measure => omega
                case rel => exact HPG.out _ _ HP.out ⟨by have := hbd.e; show s1.enter.length ≤ _; omega, by have := hbd.d; show s1.during.length ≤ _; omega, by have := hbd.l; show s1.leave.length ≤ _; omega, by have := hbd.y; show s1.ways.length ≤ _; omega, by have := hbd.r; show s1.regions.length ≤ _; omega⟩ HSH.out _ hT7
              | node bb oo aa ll rr =>
                rw [hrs] at hpe
                obtain ⟨gp, lv, rv, rfl, -⟩ := hpe
                obtain ⟨y2, -⟩ := cel hS2.at_ 6 (Value.pointer (some ⟨gp, 0, none⟩)) rfl
                obtain ⟨e4, he4⟩ : ∃ x, Hid (x = (exprR C.L 7 (fails C.L (⟨iq + 1, sq, none⟩ : S) 9)).1) := ⟨_, rfl⟩
                obtain ⟨σ4, hσ4⟩ : ∃ x, Hid (x = (exprR C.L 7 (fails C.L (⟨iq + 1, sq, none⟩ : S) 9)).2) := ⟨_, rfl⟩
                obtain ⟨σ5, hσ5⟩ : ∃ x, Hid (x = must C.L σ4 kSemi) := ⟨_, rfl⟩
                have HP : Hid (partR C.L (St k) (regionR C.L k) s1 ⟨iq, sq, none⟩ = ({ s1 with rests := e4 }, σ5)) := by
                  rw [Hid, partR, if_neg (show ¬ tx C.L iq = kEntry from N0.out), if_neg (show ¬ tx C.L iq = kDuring from N1.out), if_neg (show ¬ tx C.L iq = kExit from N2.out), if_pos (show tx C.L iq = kSuspend from N3.out), hrs]
                  simp only
                  rw [hσ5.out, hσ4.out, he4.out]
                have c4 : ∀ w4, RS C w4 (fails C.L (⟨iq + 1, sq, none⟩ : S) 9) → Calls Tryz.prog 186 #[.pointer (some ⟨C.rb, 0, none⟩), .int .i64 0] w4 (ROut C (fun e v w' => IsE (Ge w4.heap.size) w' e v) w4 (e4, σ4)) := fun w4 h4 => by rw [he4.out, hσ4.out]; exact r_expr0 w4 _ h4
                have c5 : ∀ w5, RS C w5 σ4 → Calls Tryz.prog 100 #[.pointer (some ⟨C.rb, 0, none⟩), .string ⟨#[59]⟩] w5 fun e w' => e = .returned (.tuple #[]) ∧ RS C w' σ5 ∧ Fr w5.heap.size [C.rb] w5 w' := fun w5 h5 => by rw [hσ5.out]; exact r_must h5 ⟨#[59]⟩ (by decide)
                go_wp2_with (first
                  | (go_at_call 104; refine (r_fails hA4.rs 9 (by decide)).mono ?_; rintro e1 w3 ⟨rfl, h3, hf3⟩; have hS3 := hS2.carry hX hne' hf3; have hr3 := hf3.stays hA4.r0 hlo; have hF3 : Fr w.heap.size [C.rb] w w3 := hA4.fr.up' hf3 (by omega); have hz3 := hf3.size)
                  | (go_at_call 186; refine (c4 _ h3).mono ?_; rintro e1 w4 ⟨v4, rfl, hv4, h4, hf4⟩; obtain ⟨p4, rfl⟩ := hv4.ptr; have hS4 := hS3.carry hX hne' hf4; obtain ⟨y4, zy4⟩ := cel hS4.at_ 6 (Value.pointer (some ⟨gp, 0, none⟩)) rfl; have hr4 := hf4.stays hr3 hlo; have hF4 : Fr w.heap.size [C.rb] w w4 := hF3.up' hf4 (by omega)))
                have hS5 := SU.grow_rests (t := e4) (n := w3.heap.size) hS4 (by omega) (by omega) hS3.lts hv4
                have hT6 : TU C k w (w4.setCell ⟨w.heap.size + 1, 6, none⟩ (.pointer p4)) σ4 { s1 with rests := e4 } :=
                  ⟨h4.low (B := w.heap.size) hlo ((Fr.refl _ _ _).setCell (.inl (by simp)) _), hF4.setCell (.inl (by simp)) _, by rw [(fr_put w4 (w.heap.size + 1) 6 _).block _ (by have := lt_of_block hr4; omega) (by simp)]; exact hr4, ⟨_, _, _, _, _, _, _, _, _, _, _, hS5⟩, hlo⟩
                go_wp2_with (go_at_call 100; refine (c5 _ hT6.rs).mono ?_; rintro e1 w7 ⟨rfl, h7, hf7⟩; have hT7 := hT6.call hf7 h7)
                go_roundg g'
                case measure => omega
                case rel => exact HPG.out _ _ HP.out ⟨by have := hbd.e; show s1.enter.length ≤ _; omega, by have := hbd.d; show s1.during.length ≤ _; omega, by have := hbd.l; show s1.leave.length ≤ _; omega, by have := hbd.y; show s1.ways.length ≤ _; omega, by have := hbd.r; show s1.regions.length ≤ _; omega⟩ HSH.out _ hT7
            have N3 : Hid (tx C.L iq ≠ bs ⟨#[115, 117, 115, 112, 101, 110, 100]⟩) := hn3
            clear hn3
            by_cases hn4 : tx C.L iq = bs ⟨#[103, 111]⟩
            · have N4 : Hid (tx C.L iq = bs ⟨#[103, 111]⟩) := hn4
              clear hn4
              obtain ⟨i0, hi, hz0, hz1, hz2⟩ := info_parts Tryz.info93
              obtain ⟨a4, ha4⟩ : ∃ x, Hid (x = (wayR C.L 0 ⟨iq + 1, sq, none⟩).1) := ⟨_, rfl⟩
              obtain ⟨σ4, hσ4⟩ : ∃ x, Hid (x = (wayR C.L 0 ⟨iq + 1, sq, none⟩).2) := ⟨_, rfl⟩
              have HP : Hid (partR C.L (St k) (regionR C.L k) s1 ⟨iq, sq, none⟩ = ({ s1 with ways := s1.ways ++ [a4] }, σ4)) := by
                rw [Hid, partR, if_neg (show ¬ tx C.L iq = kEntry from N0.out), if_neg (show ¬ tx C.L iq = kDuring from N1.out), if_neg (show ¬ tx C.L iq = kExit from N2.out), if_neg (show ¬ tx C.L iq = kSuspend from N3.out), if_pos (show tx C.L iq = kGo from N4.out), hσ4.out, ha4.out]
              have c4 : ∀ w4, RS C w4 ⟨iq + 1, sq, none⟩ → Calls Tryz.prog 187 #[.pointer (some ⟨C.rb, 0, none⟩), .int .i64 0] w4 (ROut C (OkWR w4) w4 (a4, σ4)) := fun w4 h4 => by rw [ha4.out, hσ4.out]; exact r_way h4 0
              have T0 : Hid True := trivial
              have T1 : Hid True := trivial
              have T2 : Hid True := trivial
              have T3 : Hid True := trivial
              have T4 : Hid True := trivial
              have T5 : Hid True := trivial
              go_wp2_with (first
                | (go_at_call 102; refine (r_ok hT.rs).mono ?_; rintro e' w' ⟨rfl, hw⟩; obtain rfl := hw.symm)
                | (go_at_call 103; clear T0; refine (takeN hT.rs ⟨#[125]⟩ (by decide) HSH).mono ?_; rintro e w0 ⟨rfl, h0, hf0⟩; have hT0 := hT.call hf0 h0)
                | (go_at_call 103; clear T1; refine (takeN hT0.rs ⟨#[101, 110, 116, 114, 121]⟩ (by decide) N0).mono ?_; rintro e v1 ⟨rfl, g1, gf1⟩; have hA1 := hT0.call gf1 g1)
                | (go_at_call 103; clear T2; refine (takeN hA1.rs ⟨#[100, 117, 114, 105, 110, 103]⟩ (by decide) N1).mono ?_; rintro e v2 ⟨rfl, g2, gf2⟩; have hA2 := hA1.call gf2 g2)
                | (go_at_call 103; clear T3; refine (takeN hA2.rs ⟨#[101, 120, 105, 116]⟩ (by decide) N2).mono ?_; rintro e v3 ⟨rfl, g3, gf3⟩; have hA3 := hA2.call gf3 g3)
                | (go_at_call 103; clear T4; refine (takeN hA3.rs ⟨#[115, 117, 115, 112, 101, 110, 100]⟩ (by decide) N3).mono ?_; rintro e v4 ⟨rfl, g4, gf4⟩; have hA4 := hA3.call gf4 g4)
                | (go_at_call 103; clear T5; refine (takeY hA4.rs ⟨#[103, 111]⟩ (by decide) N4).mono ?_; rintro e v5 ⟨rfl, g5, gf5⟩; have hA5 := hA4.call gf5 g5))
              obtain ⟨e, d, l, p, y, r, xe, xd, xl, xy, xr, hS2⟩ := hA5.su
              have hlo := hA5.lo
              have hz2' := lt_of_block hS2.at_
              have hX : ∀ x ∈ [C.rb], x < w.heap.size + 2 := by simp; omega
              have hne' : w.heap.size + 1 ∉ [C.rb] := by simp; omega
              have hoy : v5.ownsRow (w.heap.size + 2) 93 7 y s1.ways.length xy := hS2.good.own (sWay s1.ways y xy) (by simp [stSlots])
              obtain ⟨ao, cap, rfl⟩ := owns_shape hoy
              have hB2 : w.heap.size + 2 ≤ v5.heap.size := by omega
              have hdr : Fr v5.heap.size [] v5 v5.drew := (Fr.refl _ _ _).drew
              have hp3' := hA5.rs.same hdr
              obtain ⟨y2, -⟩ := cel hS2.at_ 7 (Value.slice ao s1.ways.length cap) rfl
              go_region_law
                (first
                  | (refine step_append_lies _ (by rfl) _ _ _ (by rfl) (w.heap.size + 2) 93 i0 _ 7 80 Tryz.underlying63 hi hz0 hz1 hz2 rfl (by omega) (Value.slice ao s1.ways.length cap) s1.ways.length xy (by rfl) (hA4'.good.own (sWay s1.ways _ xy) (by simp [stSlots]))
                        ⟨w4'.heap.size, 0, none⟩ 1 1 (wayA a4 (.pointer u4) (.slice ao4 n4 cap4)).toList (by rfl) (by rfl) (World.news_of_block (cs := wayA a4 (.pointer u4) (.slice ao4 n4 cap4)) (t := 93) (fr := (0, 0)) (heap_alloc_new w4' _)) (by intro u hu; simp [wayA] at hu; rcases hu with rfl | rfl | rfl | rfl | rfl | rfl | rfl <;> rfl)
                        (by omega) (by unfold maxLen; have := hbd.y; omega) (by have := hbd.y; omega) (by simp; omega) (w4'.heap.size + 1) (by simp) ?_
                     intro gg cap' w5' hown5 hgrow hat hlt5
                     have hS5 := SU.grow_ways (a := a4) hA4' (by omega) hB2 hS2.lts hWA (by rw [List.length_append]; exact hown5) hgrow (by rcases hat with e1 | e1; exact .inl e1.symm; exact .inr (by rw [e1]; simp [Value.ownBlock]))
                     have hgo : ∀ g, (Value.slice ao s1.ways.length cap).ownBlock = some g → w.heap.size + 2 ≤ g := fun g hg => ((hA4'.good.own (sWay s1.ways _ xy) (by simp [stSlots])).lt g hg).1
                     have hp5' : RS C w5' σ4 := hp4'.low (B := w.heap.size) hlo (((Fr.refl _ [] w4').alloc (by omega) _).grown hgrow (by simp; omega) (fun g hg => .inl (by have := hgo g hg; omega)))
                     have hF5 : Fr w.heap.size [C.rb] w w5' := ((hF4.alloc (by omega) _).grown hgrow (by simp; omega) (fun g hg => .inl (by have := hgo g hg; omega)))
                     have hr5 : w5'.heap[w.heap.size]? = some (.cells (stA [] false false (.slice none 0 0) (.slice none 0 0) (.slice none 0 0) (.pointer none) (.slice none 0 0) (.slice none 0 0)) 65 (0, 0)) := by
                       rw [hgrow.block _ (by simp; omega) (fun e1 => by have := hgo _ e1.symm; omega), Below.heap_alloc _ _ _ (by omega)]; exact hr4
                     have hb5 : w5'.heap[w.heap.size + 1]? = some (.cells (stA s1.name s1.first s1.last e d l p (Value.slice ao s1.ways.length cap) r) 65 (0, 0)) := by
                       rw [hgrow.block _ (by simp; omega) (fun e1 => by have := hgo _ e1.symm; omega)]; exact hA4'.at_
                     obtain ⟨y5, zy5⟩ := cel hb5 7 (Value.slice ao s1.ways.length cap) rfl)
                  | (go_simp
                     go_at_call 187
                     refine (c4 _ hp3').mono ?_
                     rintro e1 w4' ⟨v4, rfl, ⟨p4, q4, hv4, hu4, hd4⟩, hp4', hf4'⟩
                     subst hv4
                     replace hu4 : IsE (Ge v5.drew.heap.size) w4' a4.cond p4 := hu4
                     replace hd4 : IsSets (Ge v5.drew.heap.size) w4' a4.sets q4 := hd4
                     obtain ⟨u4, rfl⟩ := hu4.ptr
                     obtain ⟨ao4, n4, cap4, rfl⟩ := hd4.shape
                     have hS4 := hS2.carry hX hne' (hdr.wide.up hf4')
                     have hr4 := (hdr.wide.up hf4').stays hA5.r0 hlo
                     have hF4 : Fr w.heap.size [C.rb] w w4' := hA5.fr.up' (hdr.wide.up hf4') (by omega)
                     obtain ⟨y4, zy4⟩ := cel hS4.at_ 7 (Value.slice ao s1.ways.length cap) rfl
                     have hl4' := lt_of_block hS4.at_
                     have hB4 : w.heap.size + 2 ≤ w4'.heap.size := Nat.le_trans hB2 (hdr.wide.up hf4').size
                     have hal : Fr w4'.heap.size [] w4' (w4'.alloc (.cells (wayA a4 (.pointer u4) (.slice ao4 n4 cap4)) 93)) := (Fr.refl _ _ _).alloc (Nat.le_refl _) _
                     have hA4' := hS4.carry (X := []) (by simp) (by simp) hal
                     have hWA : WayC (Ge v5.heap.size) (w4'.alloc (.cells (wayA a4 (.pointer u4) (.slice ao4 n4 cap4)) 93)) a4 (wayA a4 (.pointer u4) (.slice ao4 n4 cap4)).toList := ⟨_, _, rfl, hu4.carry (keepX (X := []) (by simp) hal), hd4.carry (keepX (X := []) (by simp) hal)⟩
                     simp only [wayA, sv] at hA4' hWA hal ⊢))
              all_goals
                have hT6 : TU C k w (w5'.setCell ⟨w.heap.size + 1, 7, none⟩ (.slice (some ⟨gg, 0, none⟩) (s1.ways.length + 1) cap')) σ4 { s1 with ways := s1.ways ++ [a4] } :=
                  ⟨hp5'.low (B := w.heap.size) hlo ((Fr.refl _ _ _).setCell (.inl (by simp)) _), hF5.setCell (.inl (by simp)) _, by rw [(fr_put w5' (w.heap.size + 1) 7 _).block _ (by have := lt_of_block hr5; omega) (by simp)]; exact hr5, ⟨_, _, _, _, _, _, _, _, _, _, _, hS5⟩, hlo⟩
                go_wp2_with fail
                go_roundg g'
                case measure => omega
                case rel => exact HPG.out _ _ HP.out ⟨by have := hbd.e; show s1.enter.length ≤ _; omega, by have := hbd.d; show s1.during.length ≤ _; omega, by have := hbd.l; show s1.leave.length ≤ _; omega, by have := hbd.y; simp; omega, by have := hbd.r; show s1.regions.length ≤ _; omega⟩ HSH.out _ hT6
            have N4 : Hid (tx C.L iq ≠ bs ⟨#[103, 111]⟩) := hn4
            clear hn4
            by_cases hn5 : tx C.L iq = bs ⟨#[97, 98, 111, 114, 116]⟩
            · have N5 : Hid (tx C.L iq = bs ⟨#[97, 98, 111, 114, 116]⟩) := hn5
              clear hn5
              obtain ⟨i0, hi, hz0, hz1, hz2⟩ := info_parts Tryz.info93
              obtain ⟨a4, ha4⟩ : ∃ x, Hid (x = (wayR C.L 1 ⟨iq + 1, sq, none⟩).1) := ⟨_, rfl⟩
              obtain ⟨σ4, hσ4⟩ : ∃ x, Hid (x = (wayR C.L 1 ⟨iq + 1, sq, none⟩).2) := ⟨_, rfl⟩
              have HP : Hid (partR C.L (St k) (regionR C.L k) s1 ⟨iq, sq, none⟩ = ({ s1 with ways := s1.ways ++ [a4] }, σ4)) := by
                rw [Hid, partR, if_neg (show ¬ tx C.L iq = kEntry from N0.out), if_neg (show ¬ tx C.L iq = kDuring from N1.out), if_neg (show ¬ tx C.L iq = kExit from N2.out), if_neg (show ¬ tx C.L iq = kSuspend from N3.out), if_neg (show ¬ tx C.L iq = kGo from N4.out), if_pos (show tx C.L iq = kAbort from N5.out), hσ4.out, ha4.out]
              have c4 : ∀ w4, RS C w4 ⟨iq + 1, sq, none⟩ → Calls Tryz.prog 187 #[.pointer (some ⟨C.rb, 0, none⟩), .int .i64 1] w4 (ROut C (OkWR w4) w4 (a4, σ4)) := fun w4 h4 => by rw [ha4.out, hσ4.out]; exact r_way h4 1
              have T0 : Hid True := trivial
              have T1 : Hid True := trivial
              have T2 : Hid True := trivial
              have T3 : Hid True := trivial
              have T4 : Hid True := trivial
              have T5 : Hid True := trivial
              have T6 : Hid True := trivial
              go_wp2_with (first
                | (go_at_call 102; refine (r_ok hT.rs).mono ?_; rintro e' w' ⟨rfl, hw⟩; obtain rfl := hw.symm)
                | (go_at_call 103; clear T0; refine (takeN hT.rs ⟨#[125]⟩ (by decide) HSH).mono ?_; rintro e w0 ⟨rfl, h0, hf0⟩; have hT0 := hT.call hf0 h0)
                | (go_at_call 103; clear T1; refine (takeN hT0.rs ⟨#[101, 110, 116, 114, 121]⟩ (by decide) N0).mono ?_; rintro e v1 ⟨rfl, g1, gf1⟩; have hA1 := hT0.call gf1 g1)
                | (go_at_call 103; clear T2; refine (takeN hA1.rs ⟨#[100, 117, 114, 105, 110, 103]⟩ (by decide) N1).mono ?_; rintro e v2 ⟨rfl, g2, gf2⟩; have hA2 := hA1.call gf2 g2)
                | (go_at_call 103; clear T3; refine (takeN hA2.rs ⟨#[101, 120, 105, 116]⟩ (by decide) N2).mono ?_; rintro e v3 ⟨rfl, g3, gf3⟩; have hA3 := hA2.call gf3 g3)
                | (go_at_call 103; clear T4; refine (takeN hA3.rs ⟨#[115, 117, 115, 112, 101, 110, 100]⟩ (by decide) N3).mono ?_; rintro e v4 ⟨rfl, g4, gf4⟩; have hA4 := hA3.call gf4 g4)
                | (go_at_call 103; clear T5; refine (takeN hA4.rs ⟨#[103, 111]⟩ (by decide) N4).mono ?_; rintro e v5 ⟨rfl, g5, gf5⟩; have hA5 := hA4.call gf5 g5)
                | (go_at_call 103; clear T6; refine (takeY hA5.rs ⟨#[97, 98, 111, 114, 116]⟩ (by decide) N5).mono ?_; rintro e v6 ⟨rfl, g6, gf6⟩; have hA6 := hA5.call gf6 g6))
              obtain ⟨e, d, l, p, y, r, xe, xd, xl, xy, xr, hS2⟩ := hA6.su
              have hlo := hA6.lo
              have hz2' := lt_of_block hS2.at_
              have hX : ∀ x ∈ [C.rb], x < w.heap.size + 2 := by simp; omega
              have hne' : w.heap.size + 1 ∉ [C.rb] := by simp; omega
              have hoy : v6.ownsRow (w.heap.size + 2) 93 7 y s1.ways.length xy := hS2.good.own (sWay s1.ways y xy) (by simp [stSlots])
              obtain ⟨ao, cap, rfl⟩ := owns_shape hoy
              have hB2 : w.heap.size + 2 ≤ v6.heap.size := by omega
              have hdr : Fr v6.heap.size [] v6 v6.drew := (Fr.refl _ _ _).drew
              have hp3' := hA6.rs.same hdr
              obtain ⟨y2, -⟩ := cel hS2.at_ 7 (Value.slice ao s1.ways.length cap) rfl
              go_region_law
                (first
                  | (refine step_append_lies _ (by rfl) _ _ _ (by rfl) (w.heap.size + 2) 93 i0 _ 7 80 Tryz.underlying63 hi hz0 hz1 hz2 rfl (by omega) (Value.slice ao s1.ways.length cap) s1.ways.length xy (by rfl) (hA4'.good.own (sWay s1.ways _ xy) (by simp [stSlots]))
                        ⟨w4'.heap.size, 0, none⟩ 1 1 (wayA a4 (.pointer u4) (.slice ao4 n4 cap4)).toList (by rfl) (by rfl) (World.news_of_block (cs := wayA a4 (.pointer u4) (.slice ao4 n4 cap4)) (t := 93) (fr := (0, 0)) (heap_alloc_new w4' _)) (by intro u hu; simp [wayA] at hu; rcases hu with rfl | rfl | rfl | rfl | rfl | rfl | rfl <;> rfl)
                        (by omega) (by unfold maxLen; have := hbd.y; omega) (by have := hbd.y; omega) (by simp; omega) (w4'.heap.size + 1) (by simp) ?_
                     intro gg cap' w5' hown5 hgrow hat hlt5
                     have hS5 := SU.grow_ways (a := a4) hA4' (by omega) hB2 hS2.lts hWA (by rw [List.length_append]; exact hown5) hgrow (by rcases hat with e1 | e1; exact .inl e1.symm; exact .inr (by rw [e1]; simp [Value.ownBlock]))
                     have hgo : ∀ g, (Value.slice ao s1.ways.length cap).ownBlock = some g → w.heap.size + 2 ≤ g := fun g hg => ((hA4'.good.own (sWay s1.ways _ xy) (by simp [stSlots])).lt g hg).1
                     have hp5' : RS C w5' σ4 := hp4'.low (B := w.heap.size) hlo (((Fr.refl _ [] w4').alloc (by omega) _).grown hgrow (by simp; omega) (fun g hg => .inl (by have := hgo g hg; omega)))
                     have hF5 : Fr w.heap.size [C.rb] w w5' := ((hF4.alloc (by omega) _).grown hgrow (by simp; omega) (fun g hg => .inl (by have := hgo g hg; omega)))
                     have hr5 : w5'.heap[w.heap.size]? = some (.cells (stA [] false false (.slice none 0 0) (.slice none 0 0) (.slice none 0 0) (.pointer none) (.slice none 0 0) (.slice none 0 0)) 65 (0, 0)) := by
                       rw [hgrow.block _ (by simp; omega) (fun e1 => by have := hgo _ e1.symm; omega), Below.heap_alloc _ _ _ (by omega)]; exact hr4
                     have hb5 : w5'.heap[w.heap.size + 1]? = some (.cells (stA s1.name s1.first s1.last e d l p (Value.slice ao s1.ways.length cap) r) 65 (0, 0)) := by
                       rw [hgrow.block _ (by simp; omega) (fun e1 => by have := hgo _ e1.symm; omega)]; exact hA4'.at_
                     obtain ⟨y5, zy5⟩ := cel hb5 7 (Value.slice ao s1.ways.length cap) rfl)
                  | (go_simp
                     go_at_call 187
                     refine (c4 _ hp3').mono ?_
                     rintro e1 w4' ⟨v4, rfl, ⟨p4, q4, hv4, hu4, hd4⟩, hp4', hf4'⟩
                     subst hv4
                     replace hu4 : IsE (Ge v6.drew.heap.size) w4' a4.cond p4 := hu4
                     replace hd4 : IsSets (Ge v6.drew.heap.size) w4' a4.sets q4 := hd4
                     obtain ⟨u4, rfl⟩ := hu4.ptr
                     obtain ⟨ao4, n4, cap4, rfl⟩ := hd4.shape
                     have hS4 := hS2.carry hX hne' (hdr.wide.up hf4')
                     have hr4 := (hdr.wide.up hf4').stays hA6.r0 hlo
                     have hF4 : Fr w.heap.size [C.rb] w w4' := hA6.fr.up' (hdr.wide.up hf4') (by omega)
                     obtain ⟨y4, zy4⟩ := cel hS4.at_ 7 (Value.slice ao s1.ways.length cap) rfl
                     have hl4' := lt_of_block hS4.at_
                     have hB4 : w.heap.size + 2 ≤ w4'.heap.size := Nat.le_trans hB2 (hdr.wide.up hf4').size
                     have hal : Fr w4'.heap.size [] w4' (w4'.alloc (.cells (wayA a4 (.pointer u4) (.slice ao4 n4 cap4)) 93)) := (Fr.refl _ _ _).alloc (Nat.le_refl _) _
                     have hA4' := hS4.carry (X := []) (by simp) (by simp) hal
                     have hWA : WayC (Ge v6.heap.size) (w4'.alloc (.cells (wayA a4 (.pointer u4) (.slice ao4 n4 cap4)) 93)) a4 (wayA a4 (.pointer u4) (.slice ao4 n4 cap4)).toList := ⟨_, _, rfl, hu4.carry (keepX (X := []) (by simp) hal), hd4.carry (keepX (X := []) (by simp) hal)⟩
                     simp only [wayA, sv] at hA4' hWA hal ⊢))
              all_goals
                have hT6 : TU C k w (w5'.setCell ⟨w.heap.size + 1, 7, none⟩ (.slice (some ⟨gg, 0, none⟩) (s1.ways.length + 1) cap')) σ4 { s1 with ways := s1.ways ++ [a4] } :=
                  ⟨hp5'.low (B := w.heap.size) hlo ((Fr.refl _ _ _).setCell (.inl (by simp)) _), hF5.setCell (.inl (by simp)) _, by rw [(fr_put w5' (w.heap.size + 1) 7 _).block _ (by have := lt_of_block hr5; omega) (by simp)]; exact hr5, ⟨_, _, _, _, _, _, _, _, _, _, _, hS5⟩, hlo⟩
                go_wp2_with fail
                go_roundg g'
                case measure => omega
                case rel => exact HPG.out _ _ HP.out ⟨by have := hbd.e; show s1.enter.length ≤ _; omega, by have := hbd.d; show s1.during.length ≤ _; omega, by have := hbd.l; show s1.leave.length ≤ _; omega, by have := hbd.y; simp; omega, by have := hbd.r; show s1.regions.length ≤ _; omega⟩ HSH.out _ hT6
            have N5 : Hid (tx C.L iq ≠ bs ⟨#[97, 98, 111, 114, 116]⟩) := hn5
            clear hn5
            by_cases hn6 : tx C.L iq = bs ⟨#[106, 111, 105, 110]⟩
            · have N6 : Hid (tx C.L iq = bs ⟨#[106, 111, 105, 110]⟩) := hn6
              clear hn6
              obtain ⟨i0, hi, hz0, hz1, hz2⟩ := info_parts Tryz.info93
              obtain ⟨a4, ha4⟩ : ∃ x, Hid (x = (wayR C.L 2 ⟨iq + 1, sq, none⟩).1) := ⟨_, rfl⟩
              obtain ⟨σ4, hσ4⟩ : ∃ x, Hid (x = (wayR C.L 2 ⟨iq + 1, sq, none⟩).2) := ⟨_, rfl⟩
              have HP : Hid (partR C.L (St k) (regionR C.L k) s1 ⟨iq, sq, none⟩ = ({ s1 with ways := s1.ways ++ [a4] }, σ4)) := by
                rw [Hid, partR, if_neg (show ¬ tx C.L iq = kEntry from N0.out), if_neg (show ¬ tx C.L iq = kDuring from N1.out), if_neg (show ¬ tx C.L iq = kExit from N2.out), if_neg (show ¬ tx C.L iq = kSuspend from N3.out), if_neg (show ¬ tx C.L iq = kGo from N4.out), if_neg (show ¬ tx C.L iq = kAbort from N5.out), if_pos (show tx C.L iq = kJoin from N6.out), hσ4.out, ha4.out]
              have c4 : ∀ w4, RS C w4 ⟨iq + 1, sq, none⟩ → Calls Tryz.prog 187 #[.pointer (some ⟨C.rb, 0, none⟩), .int .i64 2] w4 (ROut C (OkWR w4) w4 (a4, σ4)) := fun w4 h4 => by rw [ha4.out, hσ4.out]; exact r_way h4 2
              have T0 : Hid True := trivial
              have T1 : Hid True := trivial
              have T2 : Hid True := trivial
              have T3 : Hid True := trivial
              have T4 : Hid True := trivial
              have T5 : Hid True := trivial
              have T6 : Hid True := trivial
              have T7 : Hid True := trivial
              go_wp2_with (first
                | (go_at_call 102; refine (r_ok hT.rs).mono ?_; rintro e' w' ⟨rfl, hw⟩; obtain rfl := hw.symm)
                | (go_at_call 103; clear T0; refine (takeN hT.rs ⟨#[125]⟩ (by decide) HSH).mono ?_; rintro e w0 ⟨rfl, h0, hf0⟩; have hT0 := hT.call hf0 h0)
                | (go_at_call 103; clear T1; refine (takeN hT0.rs ⟨#[101, 110, 116, 114, 121]⟩ (by decide) N0).mono ?_; rintro e v1 ⟨rfl, g1, gf1⟩; have hA1 := hT0.call gf1 g1)
                | (go_at_call 103; clear T2; refine (takeN hA1.rs ⟨#[100, 117, 114, 105, 110, 103]⟩ (by decide) N1).mono ?_; rintro e v2 ⟨rfl, g2, gf2⟩; have hA2 := hA1.call gf2 g2)
                | (go_at_call 103; clear T3; refine (takeN hA2.rs ⟨#[101, 120, 105, 116]⟩ (by decide) N2).mono ?_; rintro e v3 ⟨rfl, g3, gf3⟩; have hA3 := hA2.call gf3 g3)
                | (go_at_call 103; clear T4; refine (takeN hA3.rs ⟨#[115, 117, 115, 112, 101, 110, 100]⟩ (by decide) N3).mono ?_; rintro e v4 ⟨rfl, g4, gf4⟩; have hA4 := hA3.call gf4 g4)
                | (go_at_call 103; clear T5; refine (takeN hA4.rs ⟨#[103, 111]⟩ (by decide) N4).mono ?_; rintro e v5 ⟨rfl, g5, gf5⟩; have hA5 := hA4.call gf5 g5)
                | (go_at_call 103; clear T6; refine (takeN hA5.rs ⟨#[97, 98, 111, 114, 116]⟩ (by decide) N5).mono ?_; rintro e v6 ⟨rfl, g6, gf6⟩; have hA6 := hA5.call gf6 g6)
                | (go_at_call 103; clear T7; refine (takeY hA6.rs ⟨#[106, 111, 105, 110]⟩ (by decide) N6).mono ?_; rintro e v7 ⟨rfl, g7, gf7⟩; have hA7 := hA6.call gf7 g7))
              obtain ⟨e, d, l, p, y, r, xe, xd, xl, xy, xr, hS2⟩ := hA7.su
              have hlo := hA7.lo
              have hz2' := lt_of_block hS2.at_
              have hX : ∀ x ∈ [C.rb], x < w.heap.size + 2 := by simp; omega
              have hne' : w.heap.size + 1 ∉ [C.rb] := by simp; omega
              have hoy : v7.ownsRow (w.heap.size + 2) 93 7 y s1.ways.length xy := hS2.good.own (sWay s1.ways y xy) (by simp [stSlots])
              obtain ⟨ao, cap, rfl⟩ := owns_shape hoy
              have hB2 : w.heap.size + 2 ≤ v7.heap.size := by omega
              have hdr : Fr v7.heap.size [] v7 v7.drew := (Fr.refl _ _ _).drew
              have hp3' := hA7.rs.same hdr
              obtain ⟨y2, -⟩ := cel hS2.at_ 7 (Value.slice ao s1.ways.length cap) rfl
              go_region_law
                (first
                  | (refine step_append_lies _ (by rfl) _ _ _ (by rfl) (w.heap.size + 2) 93 i0 _ 7 80 Tryz.underlying63 hi hz0 hz1 hz2 rfl (by omega) (Value.slice ao s1.ways.length cap) s1.ways.length xy (by rfl) (hA4'.good.own (sWay s1.ways _ xy) (by simp [stSlots]))
                        ⟨w4'.heap.size, 0, none⟩ 1 1 (wayA a4 (.pointer u4) (.slice ao4 n4 cap4)).toList (by rfl) (by rfl) (World.news_of_block (cs := wayA a4 (.pointer u4) (.slice ao4 n4 cap4)) (t := 93) (fr := (0, 0)) (heap_alloc_new w4' _)) (by intro u hu; simp [wayA] at hu; rcases hu with rfl | rfl | rfl | rfl | rfl | rfl | rfl <;> rfl)
                        (by omega) (by unfold maxLen; have := hbd.y; omega) (by have := hbd.y; omega) (by simp; omega) (w4'.heap.size + 1) (by simp) ?_
                     intro gg cap' w5' hown5 hgrow hat hlt5
                     have hS5 := SU.grow_ways (a := a4) hA4' (by omega) hB2 hS2.lts hWA (by rw [List.length_append]; exact hown5) hgrow (by rcases hat with e1 | e1; exact .inl e1.symm; exact .inr (by rw [e1]; simp [Value.ownBlock]))
                     have hgo : ∀ g, (Value.slice ao s1.ways.length cap).ownBlock = some g → w.heap.size + 2 ≤ g := fun g hg => ((hA4'.good.own (sWay s1.ways _ xy) (by simp [stSlots])).lt g hg).1
                     have hp5' : RS C w5' σ4 := hp4'.low (B := w.heap.size) hlo (((Fr.refl _ [] w4').alloc (by omega) _).grown hgrow (by simp; omega) (fun g hg => .inl (by have := hgo g hg; omega)))
                     have hF5 : Fr w.heap.size [C.rb] w w5' := ((hF4.alloc (by omega) _).grown hgrow (by simp; omega) (fun g hg => .inl (by have := hgo g hg; omega)))
                     have hr5 : w5'.heap[w.heap.size]? = some (.cells (stA [] false false (.slice none 0 0) (.slice none 0 0) (.slice none 0 0) (.pointer none) (.slice none 0 0) (.slice none 0 0)) 65 (0, 0)) := by
                       rw [hgrow.block _ (by simp; omega) (fun e1 => by have := hgo _ e1.symm; omega), Below.heap_alloc _ _ _ (by omega)]; exact hr4
                     have hb5 : w5'.heap[w.heap.size + 1]? = some (.cells (stA s1.name s1.first s1.last e d l p (Value.slice ao s1.ways.length cap) r) 65 (0, 0)) := by
                       rw [hgrow.block _ (by simp; omega) (fun e1 => by have := hgo _ e1.symm; omega)]; exact hA4'.at_
                     obtain ⟨y5, zy5⟩ := cel hb5 7 (Value.slice ao s1.ways.length cap) rfl)
                  | (go_simp
                     go_at_call 187
                     refine (c4 _ hp3').mono ?_
                     rintro e1 w4' ⟨v4, rfl, ⟨p4, q4, hv4, hu4, hd4⟩, hp4', hf4'⟩
                     subst hv4
                     replace hu4 : IsE (Ge v7.drew.heap.size) w4' a4.cond p4 := hu4
                     replace hd4 : IsSets (Ge v7.drew.heap.size) w4' a4.sets q4 := hd4
                     obtain ⟨u4, rfl⟩ := hu4.ptr
                     obtain ⟨ao4, n4, cap4, rfl⟩ := hd4.shape
                     have hS4 := hS2.carry hX hne' (hdr.wide.up hf4')
                     have hr4 := (hdr.wide.up hf4').stays hA7.r0 hlo
                     have hF4 : Fr w.heap.size [C.rb] w w4' := hA7.fr.up' (hdr.wide.up hf4') (by omega)
                     obtain ⟨y4, zy4⟩ := cel hS4.at_ 7 (Value.slice ao s1.ways.length cap) rfl
                     have hl4' := lt_of_block hS4.at_
                     have hB4 : w.heap.size + 2 ≤ w4'.heap.size := Nat.le_trans hB2 (hdr.wide.up hf4').size
                     have hal : Fr w4'.heap.size [] w4' (w4'.alloc (.cells (wayA a4 (.pointer u4) (.slice ao4 n4 cap4)) 93)) := (Fr.refl _ _ _).alloc (Nat.le_refl _) _
                     have hA4' := hS4.carry (X := []) (by simp) (by simp) hal
                     have hWA : WayC (Ge v7.heap.size) (w4'.alloc (.cells (wayA a4 (.pointer u4) (.slice ao4 n4 cap4)) 93)) a4 (wayA a4 (.pointer u4) (.slice ao4 n4 cap4)).toList := ⟨_, _, rfl, hu4.carry (keepX (X := []) (by simp) hal), hd4.carry (keepX (X := []) (by simp) hal)⟩
                     simp only [wayA, sv] at hA4' hWA hal ⊢))
              all_goals
                have hT6 : TU C k w (w5'.setCell ⟨w.heap.size + 1, 7, none⟩ (.slice (some ⟨gg, 0, none⟩) (s1.ways.length + 1) cap')) σ4 { s1 with ways := s1.ways ++ [a4] } :=
                  ⟨hp5'.low (B := w.heap.size) hlo ((Fr.refl _ _ _).setCell (.inl (by simp)) _), hF5.setCell (.inl (by simp)) _, by rw [(fr_put w5' (w.heap.size + 1) 7 _).block _ (by have := lt_of_block hr5; omega) (by simp)]; exact hr5, ⟨_, _, _, _, _, _, _, _, _, _, _, hS5⟩, hlo⟩
                go_wp2_with fail
                go_roundg g'
                case measure => omega
                case rel => exact HPG.out _ _ HP.out ⟨by have := hbd.e; show s1.enter.length ≤ _; omega, by have := hbd.d; show s1.during.length ≤ _; omega, by have := hbd.l; show s1.leave.length ≤ _; omega, by have := hbd.y; simp; omega, by have := hbd.r; show s1.regions.length ≤ _; omega⟩ HSH.out _ hT6
            have N6 : Hid (tx C.L iq ≠ bs ⟨#[106, 111, 105, 110]⟩) := hn6
            clear hn6
            by_cases hn7 : tx C.L iq = bs ⟨#[114, 101, 103, 105, 111, 110]⟩
            · have N7 : Hid (tx C.L iq = bs ⟨#[114, 101, 103, 105, 111, 110]⟩) := hn7
              clear hn7
              obtain ⟨i0, hi, hz0, hz1, hz2⟩ := info_parts Tryz.info66
              obtain ⟨a4, ha4⟩ : ∃ x, Hid (x = (regionR C.L k ⟨iq + 1, sq, none⟩).1) := ⟨_, rfl⟩
              obtain ⟨σ4, hσ4⟩ : ∃ x, Hid (x = (regionR C.L k ⟨iq + 1, sq, none⟩).2) := ⟨_, rfl⟩
              have HP : Hid (partR C.L (St k) (regionR C.L k) s1 ⟨iq, sq, none⟩ = ({ s1 with regions := s1.regions ++ [a4] }, σ4)) := by
                rw [Hid, partR, if_neg (show ¬ tx C.L iq = kEntry from N0.out), if_neg (show ¬ tx C.L iq = kDuring from N1.out), if_neg (show ¬ tx C.L iq = kExit from N2.out), if_neg (show ¬ tx C.L iq = kSuspend from N3.out), if_neg (show ¬ tx C.L iq = kGo from N4.out), if_neg (show ¬ tx C.L iq = kAbort from N5.out), if_neg (show ¬ tx C.L iq = kJoin from N6.out), if_pos (show tx C.L iq = kRegion from N7.out), hσ4.out, ha4.out]
              have c4 : ∀ w4, RS C w4 ⟨iq + 1, sq, none⟩ → Calls Tryz.prog 106 #[.pointer (some ⟨C.rb, 0, none⟩), .int .i64 ((deep : Int) + 1)] w4 (ROut C (fun l v w' => IsStates (Ge w4.heap.size) w' k l v) w4 (a4, σ4)) := fun w4 h4 => by rw [ha4.out, hσ4.out, show (deep : Int) + 1 = ((deep + 1 : Nat) : Int) by omega]; exact hR w4 _ (deep + 1) (by omega) h4
              have T0 : Hid True := trivial
              have T1 : Hid True := trivial
              have T2 : Hid True := trivial
              have T3 : Hid True := trivial
              have T4 : Hid True := trivial
              have T5 : Hid True := trivial
              have T6 : Hid True := trivial
              have T7 : Hid True := trivial
              have T8 : Hid True := trivial
              go_wp2_with (first
                | (go_at_call 102; refine (r_ok hT.rs).mono ?_; rintro e' w' ⟨rfl, hw⟩; obtain rfl := hw.symm)
                | (go_at_call 103; clear T0; refine (takeN hT.rs ⟨#[125]⟩ (by decide) HSH).mono ?_; rintro e w0 ⟨rfl, h0, hf0⟩; have hT0 := hT.call hf0 h0)
                | (go_at_call 103; clear T1; refine (takeN hT0.rs ⟨#[101, 110, 116, 114, 121]⟩ (by decide) N0).mono ?_; rintro e v1 ⟨rfl, g1, gf1⟩; have hA1 := hT0.call gf1 g1)
                | (go_at_call 103; clear T2; refine (takeN hA1.rs ⟨#[100, 117, 114, 105, 110, 103]⟩ (by decide) N1).mono ?_; rintro e v2 ⟨rfl, g2, gf2⟩; have hA2 := hA1.call gf2 g2)
                | (go_at_call 103; clear T3; refine (takeN hA2.rs ⟨#[101, 120, 105, 116]⟩ (by decide) N2).mono ?_; rintro e v3 ⟨rfl, g3, gf3⟩; have hA3 := hA2.call gf3 g3)
                | (go_at_call 103; clear T4; refine (takeN hA3.rs ⟨#[115, 117, 115, 112, 101, 110, 100]⟩ (by decide) N3).mono ?_; rintro e v4 ⟨rfl, g4, gf4⟩; have hA4 := hA3.call gf4 g4)
                | (go_at_call 103; clear T5; refine (takeN hA4.rs ⟨#[103, 111]⟩ (by decide) N4).mono ?_; rintro e v5 ⟨rfl, g5, gf5⟩; have hA5 := hA4.call gf5 g5)
                | (go_at_call 103; clear T6; refine (takeN hA5.rs ⟨#[97, 98, 111, 114, 116]⟩ (by decide) N5).mono ?_; rintro e v6 ⟨rfl, g6, gf6⟩; have hA6 := hA5.call gf6 g6)
                | (go_at_call 103; clear T7; refine (takeN hA6.rs ⟨#[106, 111, 105, 110]⟩ (by decide) N6).mono ?_; rintro e v7 ⟨rfl, g7, gf7⟩; have hA7 := hA6.call gf7 g7)
                | (go_at_call 103; clear T8; refine (takeY hA7.rs ⟨#[114, 101, 103, 105, 111, 110]⟩ (by decide) N7).mono ?_; rintro e v8 ⟨rfl, g8, gf8⟩; have hA8 := hA7.call gf8 g8))
              obtain ⟨e, d, l, p, y, r, xe, xd, xl, xy, xr, hS2⟩ := hA8.su
              have hlo := hA8.lo
              have hz2' := lt_of_block hS2.at_
              have hX : ∀ x ∈ [C.rb], x < w.heap.size + 2 := by simp; omega
              have hne' : w.heap.size + 1 ∉ [C.rb] := by simp; omega
              have hoy : v8.ownsRow (w.heap.size + 2) 66 1 r s1.regions.length xr := hS2.good.own (sReg k s1.regions r xr) (by simp [stSlots])
              obtain ⟨ao, cap, rfl⟩ := owns_shape hoy
              have hB2 : w.heap.size + 2 ≤ v8.heap.size := by omega
              have hdw := deep_wrap hd
              have hdr : Fr v8.heap.size [] v8 v8.drew := (Fr.refl _ _ _).drew
              have hp3' := hA8.rs.same hdr
              obtain ⟨y2, -⟩ := cel hS2.at_ 8 (Value.slice ao s1.regions.length cap) rfl
              go_region_law
                (first
                  | (refine step_append_lies _ (by rfl) _ _ _ (by rfl) (w.heap.size + 2) 66 i0 _ 1 24 Tryz.underlying24 hi hz0 hz1 hz2 rfl (by omega) (Value.slice ao s1.regions.length cap) s1.regions.length xr (by rfl) (hA4'.good.own (sReg k s1.regions _ xr) (by simp [stSlots]))
                        ⟨w4'.heap.size, 0, none⟩ 1 1 [.slice ao4 n4 cap4] (by rfl) (by rfl) (cell_one_new w4' _ 66) (by intro u hu; simp at hu; subst hu; rfl)
                        (by omega) (by unfold maxLen; have := hbd.r; omega) (by have := hbd.r; omega) (by simp; omega) (w4'.heap.size + 1) (by simp) ?_
                     intro gg cap' w5' hown5 hgrow hat hlt5
                     have hS5 := SU.grow_regions (a := a4) (u := .slice ao4 n4 cap4) hA4' (by omega) hB2 hS2.lts ⟨rfl, IsStates.carry (keepX (X := []) (by simp) hal) k _ _ hv4⟩ (by rw [List.length_append]; exact hown5) hgrow (by rcases hat with e1 | e1; exact .inl e1.symm; exact .inr (by rw [e1]; simp [Value.ownBlock]))
                     have hgo : ∀ g, (Value.slice ao s1.regions.length cap).ownBlock = some g → w.heap.size + 2 ≤ g := fun g hg => ((hA4'.good.own (sReg k s1.regions _ xr) (by simp [stSlots])).lt g hg).1
                     have hp5' : RS C w5' σ4 := hp4'.low (B := w.heap.size) hlo (((Fr.refl _ [] w4').alloc (by omega) _).grown hgrow (by simp; omega) (fun g hg => .inl (by have := hgo g hg; omega)))
                     have hF5 : Fr w.heap.size [C.rb] w w5' := ((hF4.alloc (by omega) _).grown hgrow (by simp; omega) (fun g hg => .inl (by have := hgo g hg; omega)))
                     have hr5 : w5'.heap[w.heap.size]? = some (.cells (stA [] false false (.slice none 0 0) (.slice none 0 0) (.slice none 0 0) (.pointer none) (.slice none 0 0) (.slice none 0 0)) 65 (0, 0)) := by
                       rw [hgrow.block _ (by simp; omega) (fun e1 => by have := hgo _ e1.symm; omega), Below.heap_alloc _ _ _ (by omega)]; exact hr4
                     have hb5 : w5'.heap[w.heap.size + 1]? = some (.cells (stA s1.name s1.first s1.last e d l p y (Value.slice ao s1.regions.length cap)) 65 (0, 0)) := by
                       rw [hgrow.block _ (by simp; omega) (fun e1 => by have := hgo _ e1.symm; omega)]; exact hA4'.at_
                     obtain ⟨y5, zy5⟩ := cel hb5 8 (Value.slice ao s1.regions.length cap) rfl)
                  | (go_simp
                     go_at_call 106
                     refine (c4 _ hp3').mono ?_
                     rintro e1 w4' ⟨v4, rfl, hv4, hp4', hf4'⟩
                     replace hv4 : IsStates (Ge v8.drew.heap.size) w4' k a4 v4 := hv4
                     obtain ⟨ao4, n4, cap4, rfl⟩ := IsStates.shape hv4
                     have hS4 := hS2.carry hX hne' (hdr.wide.up hf4')
                     have hr4 := (hdr.wide.up hf4').stays hA8.r0 hlo
                     have hF4 : Fr w.heap.size [C.rb] w w4' := hA8.fr.up' (hdr.wide.up hf4') (by omega)
                     obtain ⟨y4, zy4⟩ := cel hS4.at_ 8 (Value.slice ao s1.regions.length cap) rfl
                     have hl4' := lt_of_block hS4.at_
                     have hB4 : w.heap.size + 2 ≤ w4'.heap.size := Nat.le_trans hB2 (hdr.wide.up hf4').size
                     have hal : Fr w4'.heap.size [] w4' (w4'.alloc (.cells #[.slice ao4 n4 cap4] 66)) := (Fr.refl _ _ _).alloc (Nat.le_refl _) _
                     have hA4' := hS4.carry (X := []) (by simp) (by simp) hal))
              all_goals
                have hT6 : TU C k w (w5'.setCell ⟨w.heap.size + 1, 8, none⟩ (.slice (some ⟨gg, 0, none⟩) (s1.regions.length + 1) cap')) σ4 { s1 with regions := s1.regions ++ [a4] } :=
                  ⟨hp5'.low (B := w.heap.size) hlo ((Fr.refl _ _ _).setCell (.inl (by simp)) _), hF5.setCell (.inl (by simp)) _, by rw [(fr_put w5' (w.heap.size + 1) 8 _).block _ (by have := lt_of_block hr5; omega) (by simp)]; exact hr5, ⟨_, _, _, _, _, _, _, _, _, _, _, hS5⟩, hlo⟩
                go_wp2_with fail
                go_roundg g'
                case measure => omega
                case rel => exact HPG.out _ _ HP.out ⟨by have := hbd.e; show s1.enter.length ≤ _; omega, by have := hbd.d; show s1.during.length ≤ _; omega, by have := hbd.l; show s1.leave.length ≤ _; omega, by have := hbd.y; show s1.ways.length ≤ _; omega, by have := hbd.r; simp; omega⟩ HSH.out _ hT6
            have N7 : Hid (tx C.L iq ≠ bs ⟨#[114, 101, 103, 105, 111, 110]⟩) := hn7
            clear hn7
            have HP : Hid (partR C.L (St k) (regionR C.L k) s1 ⟨iq, sq, none⟩ = (s1, ⟨iq, sq, some (3, pl C.L iq)⟩)) := by
              rw [Hid, partR, if_neg (show ¬ tx C.L iq = kEntry from N0.out), if_neg (show ¬ tx C.L iq = kDuring from N1.out), if_neg (show ¬ tx C.L iq = kExit from N2.out), if_neg (show ¬ tx C.L iq = kSuspend from N3.out), if_neg (show ¬ tx C.L iq = kGo from N4.out), if_neg (show ¬ tx C.L iq = kAbort from N5.out), if_neg (show ¬ tx C.L iq = kJoin from N6.out), if_neg (show ¬ tx C.L iq = kRegion from N7.out)]; rfl
            have T0 : Hid True := trivial
            have T1 : Hid True := trivial
            have T2 : Hid True := trivial
            have T3 : Hid True := trivial
            have T4 : Hid True := trivial
            have T5 : Hid True := trivial
            have T6 : Hid True := trivial
            have T7 : Hid True := trivial
            have T8 : Hid True := trivial
            go_wp2_with (first
              | (go_at_call 102; refine (r_ok hT.rs).mono ?_; rintro e' w' ⟨rfl, hw⟩; obtain rfl := hw.symm)
              | (go_at_call 103; clear T0; refine (takeN hT.rs ⟨#[125]⟩ (by decide) HSH).mono ?_; rintro e w0 ⟨rfl, h0, hf0⟩; have hT0 := hT.call hf0 h0)
              | (go_at_call 103; clear T1; refine (takeN hT0.rs ⟨#[101, 110, 116, 114, 121]⟩ (by decide) N0).mono ?_; rintro e v1 ⟨rfl, g1, gf1⟩; have hA1 := hT0.call gf1 g1)
              | (go_at_call 103; clear T2; refine (takeN hA1.rs ⟨#[100, 117, 114, 105, 110, 103]⟩ (by decide) N1).mono ?_; rintro e v2 ⟨rfl, g2, gf2⟩; have hA2 := hA1.call gf2 g2)
              | (go_at_call 103; clear T3; refine (takeN hA2.rs ⟨#[101, 120, 105, 116]⟩ (by decide) N2).mono ?_; rintro e v3 ⟨rfl, g3, gf3⟩; have hA3 := hA2.call gf3 g3)
              | (go_at_call 103; clear T4; refine (takeN hA3.rs ⟨#[115, 117, 115, 112, 101, 110, 100]⟩ (by decide) N3).mono ?_; rintro e v4 ⟨rfl, g4, gf4⟩; have hA4 := hA3.call gf4 g4)
              | (go_at_call 103; clear T5; refine (takeN hA4.rs ⟨#[103, 111]⟩ (by decide) N4).mono ?_; rintro e v5 ⟨rfl, g5, gf5⟩; have hA5 := hA4.call gf5 g5)
              | (go_at_call 103; clear T6; refine (takeN hA5.rs ⟨#[97, 98, 111, 114, 116]⟩ (by decide) N5).mono ?_; rintro e v6 ⟨rfl, g6, gf6⟩; have hA6 := hA5.call gf6 g6)
              | (go_at_call 103; clear T7; refine (takeN hA6.rs ⟨#[106, 111, 105, 110]⟩ (by decide) N6).mono ?_; rintro e v7 ⟨rfl, g7, gf7⟩; have hA7 := hA6.call gf7 g7)
              | (go_at_call 103; clear T8; refine (takeN hA7.rs ⟨#[114, 101, 103, 105, 111, 110]⟩ (by decide) N7).mono ?_; rintro e v8 ⟨rfl, g8, gf8⟩; have hA8 := hA7.call gf8 g8)
              | (go_at_call 104; refine (r_fails hA8.rs 3 (by decide)).mono ?_; rintro e w9 ⟨rfl, h9, hf9⟩; have hT9 := hA8.call hf9 h9))
            go_roundg g'
            case measure => omega
            case rel => exact HPG.out _ _ HP.out (hbd.le (by omega)) HSH.out _ hT9
end Go.Proofs.YtobamalnbjbmiaaGreatDoor
