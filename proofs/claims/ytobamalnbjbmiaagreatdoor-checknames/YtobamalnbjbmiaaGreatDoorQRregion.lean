/- The document's own reader: region. -/
import Derived.Test.YtobamalnbjbmiaaGreatDoorQRstate
namespace Go.Proofs.YtobamalnbjbmiaaGreatDoor
open Go.RowKit Px

theorem Tryz.infoState : (Tryz.prog.info? 65).map (fun i => (i.zero, i.size, i.bytes)) = some (some (.agg #[.string ⟨#[]⟩, .bool false, .bool false, .slice none 0 0, .slice none 0 0, .slice none 0 0, .pointer none, .slice none 0 0, .slice none 0 0]), 9, 152) := by kernel_rfl
/-- the states of a region, so far -/
structure StAt (k B : Nat) (w : World) (l : List (StF (St k))) (v : Value) (xs : List Value) : Prop where
  own : w.ownsRow B 65 9 v l.length xs
  rows : Rows (StC (GeNot B v) w (IsStates (GeNot B v) w k)) l xs
theorem StAt.done {k B : Nat} {w : World} {l : List (StF (St k))} {v : Value} {xs : List Value} (h : StAt k B w l v xs) : IsStates (Ge B) w (k + 1) l v :=
  ⟨xs, ⟨own_base0 h.own, fun g hg => (h.own.lt g hg).1⟩, h.rows.map (StC.carry geNot_ge (IsStates.carry geNot_ge k))⟩
theorem StAt.carry {C : Ctx} {k B : Nat} {w w' : World} {l : List (StF (St k))} {v : Value} {xs : List Value} (h : StAt k B w l v xs) (hB : C.rb < B) (hf : Fr w.heap.size [C.rb] w w') : StAt k B w' l v xs :=
  ⟨own_carry h.own hB hf, h.rows.map (StC.carry (keepNot hB hf) (IsStates.carry (keepNot hB hf) k))⟩
theorem states_step {C : Ctx} {k B : Nat} {w wr w5 w6 : World} {l : List (StF (St k))} {v v' : Value} {xs cs : List Value} {s : StF (St k)} {o : Obj} (hB : C.rb < B) (hBr : B ≤ wr.heap.size) (h : StAt k B wr l v xs) (hf : Fr wr.heap.size [C.rb] wr w5) (hw : Fr B [C.rb] w wr) (he : StC (Ge wr.heap.size) w5 (IsStates (Ge wr.heap.size) w5 k) s cs)
    (hown : w6.ownsRow B 65 9 v' (l.length + 1) (xs ++ cs)) (hg : (w5.alloc o).grownBy w6 v.ownBlock) (hat : v'.ownBlock = v.ownBlock ∨ v'.ownBlock = some (w5.alloc o).heap.size) :
    StAt k B w6 (l ++ [s]) v' (xs ++ cs) ∧ Fr B [C.rb] w w6 := by
  have hs5 := hf.size
  have kA : ∀ A : Nat → Prop, Keep A A w5 (w5.alloc o) := fun A b ha hb => ⟨ha, Below.heap_alloc _ _ _ hb⟩
  have k1 : Keep (GeNot B v) (GeNot B v') wr w6 := row_keep ((keepNot hB hf).trans (kA _) hs5) (by simp; omega) hg hat
  have hvl : ∀ g, v.ownBlock = some g → g < wr.heap.size := fun g hg => (h.own.lt g hg).2
  have k2 : Keep (Ge wr.heap.size) (GeNot B v') w5 w6 := ((ge_geNot hBr hvl).trans (row_keep (kA _) (by simp) hg hat) (Nat.le_refl _))
  refine ⟨⟨by rw [List.length_append]; exact hown, (h.rows.map (StC.carry k1 (IsStates.carry k1 k))).append (Rows.one (StC.carry k2 (IsStates.carry k2 k) _ _ he))⟩, ?_⟩
  exact ((hw.up' hf hBr).alloc (by omega) o).grown hg (by simp; omega) (fun k hk => .inl (h.own.lt k hk).1)
theorem IsWays.shape {A : Nat → Prop} {w : World} {l : List Wy} {v : Value} (h : IsWays A w l v) : ∃ ao n cap, v = .slice ao n cap := by
  obtain ⟨xs, hr, _⟩ := h
  obtain ⟨ao, cap, rfl⟩ := owns_shape hr.1
  exact ⟨ao, _, cap, rfl⟩
theorem IsRegs.shape {ρ : Type} {A : Nat → Prop} {w : World} {I : List ρ → Value → Prop} {l : List (List ρ)} {v : Value} (h : IsRegs A w I l v) : ∃ ao n cap, v = .slice ao n cap := by
  obtain ⟨xs, hr, _⟩ := h
  obtain ⟨ao, cap, rfl⟩ := owns_shape hr.1
  exact ⟨ao, _, cap, rfl⟩
theorem StC.shapes {ρ : Type} {A : Nat → Prop} {w : World} {I : List ρ → Value → Prop} {s : StF ρ} {e d l p y r : Value} (h : StC A w I s (stA s.name s.first s.last e d l p y r).toList) :
    (∃ a n c, e = .slice a n c) ∧ (∃ a n c, d = .slice a n c) ∧ (∃ a n c, l = .slice a n c) ∧ (∃ u, p = .pointer u) ∧ (∃ a n c, y = .slice a n c) ∧ (∃ a n c, r = .slice a n c) := by
  obtain ⟨e', d', l', p', y', r', heq, h1, h2, h3, h4, h5, h6⟩ := h
  simp at heq
  obtain ⟨rfl, rfl, rfl, rfl, rfl, rfl⟩ := heq
  exact ⟨h1.shape, h2.shape, h3.shape, h4.ptr, h5.shape, h6.shape⟩
theorem Px.stateR_lt {L : List Lx.Tok} {k i st : Nat} (h : (stateR L (St k) (regionR L k) ⟨i, st, none⟩).2.bad = none) : i < (stateR L (St k) (regionR L k) ⟨i, st, none⟩).2.i := by
  obtain ⟨p1, p2⟩ := state_sim (L := L) (region_sim k) i st
  cases hp : state L (St k) (region L k) (decide (tx L i = kInitial)) (decide (tx L (opt L kInitial i) = kFinal)) st (opt L kFinal (opt L kInitial i)) with
  | error f => rw [p2 f hp] at h; exact absurd h (by simp)
  | ok q =>
    obtain ⟨s', c, j⟩ := q
    rw [p1 _ _ _ hp]
    have h1 := state_lt (region_lt k) hp
    have h2 := opt_le L kInitial i
    have h3 := opt_le L kFinal (opt L kInitial i)
    show i < j
    omega
theorem Px.failsMust_bad {L : List Lx.Tok} (σ : S) : (must L (fails L σ 4) kOpen).bad.isNone = false := by
  obtain ⟨i, st, b⟩ := σ
  cases b <;> rfl

set_option maxRecDepth 100000 in
set_option maxHeartbeats 4000000 in
theorem r_region_zero {C : Ctx} : RRegion C 0 := by
  intro w σ deep hd h
  have hn6 : (6 : Int) < (deep : Int) := by omega
  have hb : Hid ((must C.L (fails C.L σ 4) kOpen).bad.isNone = false) := failsMust_bad σ
  go_enter Tryz.func106, Tryz.ntmps106
  go_wp2_with (first
    | (go_at_call 104; refine (r_fails h 4 (by decide)).mono ?_; rintro e' w1 ⟨rfl, h1, hf1⟩)
    | (go_at_call 100; refine (r_must h1 ⟨#[123]⟩ (by decide)).mono ?_; rintro e' w2 ⟨rfl, h2, hf2⟩))
  refine wp_loop_rounds 1 ?_
  rw [rounds_succ]
  go_wp2_with (go_at_call 102; have hk := r_ok h2; rw [show (must C.L (fails C.L σ 4) (bs ⟨#[123]⟩)).bad.isNone = false from hb.out] at hk; refine hk.mono ?_; rintro e' w' ⟨rfl, hw⟩; obtain rfl := hw.symm)
  go_ret
  exact ⟨_, rfl, ⟨rfl, rfl⟩, h2, hf1.up hf2⟩

set_option maxRecDepth 100000 in
set_option maxHeartbeats 8000000 in
theorem r_region_succ {C : Ctx} {k : Nat} (hR : RRegion C k) : RRegion C (k + 1) := by
  intro w σ deep hd h
  obtain ⟨i0, hi, hz0, hz1, hz2⟩ := info_parts Tryz.infoState
  have hn6 : ¬ (6 : Int) < (deep : Int) := by omega
  have hC := h.lts.1
  obtain ⟨RES, hRES⟩ : ∃ RES, Hid (RES = statesR C.L (St k) (regionR C.L k) C.L.length [] (must C.L σ kOpen)) := ⟨_, rfl⟩
  have hcall : ∀ (wr : World) (i st : Nat), RS C wr ⟨i, st, none⟩ → Calls Tryz.prog 153 #[.pointer (some ⟨C.rb, 0, none⟩), .int .i64 deep] wr (ROut C (OkSt k wr) wr (stateR C.L (St k) (regionR C.L k) ⟨i, st, none⟩)) := fun wr i st h => r_state hR (by omega) h
  show Calls _ _ _ _ (ROut C (fun l v w' => IsStates (Ge w.heap.size) w' (k + 1) l v) w (statesR C.L (St k) (regionR C.L k) C.L.length [] (must C.L σ kOpen)))
  rw [← hRES.out]
  go_enter Tryz.func106, Tryz.ntmps106
  go_wp2_with (go_at_call 100; refine (r_must h ⟨#[123]⟩ (by decide)).mono ?_; rintro e' w1 ⟨rfl, h1, hf1⟩)
  go_loopg [5] C.L.length (fun g v wr => Hid (∃ (l : List (StF (St k))) (σq : S) (xs : List Value), RES = statesR C.L (St k) (regionR C.L k) g l σq ∧ (σq.bad = none → C.L.length ≤ g + σq.i ∧ l.length ≤ σq.i) ∧ StAt k w.heap.size wr l v xs ∧ RS C wr σq ∧ Fr w.heap.size [C.rb] w wr))
  case atStart => exact ⟨[], _, [], hRES.out, fun _ => ⟨by omega, by simp⟩, ⟨World.ownsRow_nil _ _ _ _, rfl⟩, h1, hf1⟩
  case round =>
    obtain ⟨l, ⟨iq, sq, bq⟩, xs, hr1, hal, hS, hp1, hF1⟩ := hrel.out
    clear hrel
    have HR1 : Hid _ := hr1
    clear hr1
    have hl0 := hS.own
    obtain ⟨ao, cap, rfl⟩ := owns_shape hl0
    cases bq with
    | some f =>
      have HE : Hid (RES = (l, ⟨iq, sq, some f⟩)) := by rw [Hid, HR1.out, statesR_dead _ _ rfl]
      go_wp2_with (go_at_call 102; refine (r_ok hp1).mono ?_; rintro e' w' ⟨rfl, hw⟩; obtain rfl := hw.symm)
      go_ret
      rw [HE.out]
      exact ⟨_, rfl, hS.done, hp1, hF1⟩
    | none =>
      obtain ⟨hfu, hlq⟩ := hal rfl
      simp only at hfu hlq
      clear hal
      have hlt1 : iq < C.L.length := hp1.lt
      have h601 := hp1.wf.len
      have hB1 := hF1.size
      obtain ⟨g', hgg⟩ : ∃ g', gk = g' + 1 := ⟨gk - 1, by omega⟩
      subst hgg
      by_cases hsh : tx C.L iq = bs ⟨#[125]⟩
      · have HSH : Hid (tx C.L iq = bs ⟨#[125]⟩) := hsh
        have HE : Hid (RES = (l, ⟨iq + 1, sq, none⟩)) := by
          rw [Hid, HR1.out]
          simp only [statesR, Option.isNone_none, ↓reduceIte]
          rw [if_pos (show tx C.L iq = kShut from hsh)]
        clear hsh
        go_wp2_with (first
          | (go_at_call 102; refine (r_ok hp1).mono ?_; rintro e' w' ⟨rfl, hw⟩; obtain rfl := hw.symm)
          | (go_at_call 103; refine (takeY hp1 ⟨#[125]⟩ (by decide) HSH).mono ?_; rintro e w3 ⟨rfl, h3, hf3⟩))
        go_ret
        rw [HE.out]
        exact ⟨_, rfl, (hS.carry hC hf3).done, h3, hF1.up hf3⟩
      · have HSH : Hid (tx C.L iq ≠ bs ⟨#[125]⟩) := hsh
        obtain ⟨s4, hs4⟩ : ∃ x, Hid (x = (stateR C.L (St k) (regionR C.L k) ⟨iq, sq, none⟩).1) := ⟨_, rfl⟩
        obtain ⟨σ4, hσ4⟩ : ∃ x, Hid (x = (stateR C.L (St k) (regionR C.L k) ⟨iq, sq, none⟩).2) := ⟨_, rfl⟩
        have c4 : ∀ w3, RS C w3 ⟨iq, sq, none⟩ → Calls Tryz.prog 153 #[.pointer (some ⟨C.rb, 0, none⟩), .int .i64 deep] w3 (ROut C (OkSt k w3) w3 (s4, σ4)) := fun w3 h3 => by rw [hs4.out, hσ4.out]; exact hcall w3 iq sq h3
        have HE : Hid (RES = statesR C.L (St k) (regionR C.L k) g' (l ++ [s4]) σ4) := by
          rw [Hid, HR1.out]
          simp only [statesR, Option.isNone_none, ↓reduceIte]
          rw [if_neg (show ¬ tx C.L iq = kShut from hsh), hs4.out, hσ4.out]
        have HLT : Hid (σ4.bad = none → iq < σ4.i) := fun hb => by rw [hσ4.out] at hb ⊢; exact stateR_lt hb
        clear hsh
        go_wp2_with (first
          | (go_at_call 102; refine (r_ok hp1).mono ?_; rintro e' w' ⟨rfl, hw⟩; obtain rfl := hw.symm)
          | (go_at_call 103; refine (takeN hp1 ⟨#[125]⟩ (by decide) HSH).mono ?_; rintro e w3 ⟨rfl, h3, hf3⟩)
          | (go_at_call 153; refine (c4 _ h3).mono ?_; rintro e w4 ⟨v4, rfl, ⟨e4, d4, l4, p4, y4, r4, hv4, hst⟩, h4, hf4⟩; subst hv4; replace hst : StC (Ge w3.heap.size) w4 (IsStates (Ge w3.heap.size) w4 k) s4 (stA s4.name s4.first s4.last e4 d4 l4 p4 y4 r4).toList := hst; obtain ⟨⟨a1, n1, m1, rfl⟩, ⟨a2, n2, m2, rfl⟩, ⟨a3, n3, m3, rfl⟩, ⟨u4, rfl⟩, ⟨a5, n5, m5, rfl⟩, ⟨a6, n6, m6, rfl⟩⟩ := hst.shapes; have hF4 : Fr wr.heap.size [C.rb] wr w4 := hf3.up hf4; have hB4 := hF4.size; have kst : Keep (Ge w3.heap.size) (Ge wr.heap.size) w4 w4 := (fun b hb _ => ⟨Nat.le_trans hf3.size hb, rfl⟩); have hst' := StC.carry kst (IsStates.carry kst k) _ _ hst)
          | (at_builtin; refine wpList_append_own_at _ rfl (.tmp 19) (.tmp 23) 66 rfl w.heap.size 65 i0 _ 9 152 Tryz.underlying66 hi hz0 hz1 hz2 rfl (by decide) _ _ _ rfl ((own_carry hS.own hC hF4).alloc _) ⟨w4.heap.size, 0, none⟩ 1 1 (stA s4.name s4.first s4.last (.slice a1 n1 m1) (.slice a2 n2 m2) (.slice a3 n3 m3) (.pointer u4) (.slice a5 n5 m5) (.slice a6 n6 m6)).toList rfl rfl (World.news_of_block (fr := (0, 0)) (heap_alloc_new w4 _)) (by intro u hu; simp [sv] at hu; rcases hu with rfl | rfl | rfl | rfl | rfl | rfl | rfl | rfl | rfl <;> rfl) (by unfold maxLen; omega) (by omega) (by simp; omega) ?_; intro v5 w5 hown5 hgrow _ hat; obtain ⟨hS5, hF5⟩ := states_step (s := s4) hC hB1 hS hF4 hF1 hst' hown5 hgrow hat; have hb5 : Fr w.heap.size [] w4 w5 := ((Fr.refl _ _ _).alloc (by omega) _).grown hgrow (by simp; omega) (fun k hk => .inl (hS.own.lt k hk).1); have hp5 := h4.low hC hb5))
        go_roundg g'
        case measure => omega
        case rel => exact ⟨l ++ [s4], σ4, _, HE.out, fun hb => by have := HLT.out hb; exact ⟨by omega, by simp; omega⟩, hS5, hp5, hF5⟩
theorem r_region {C : Ctx} : ∀ k, RRegion C k := by
  intro k
  induction k with
  | zero => exact r_region_zero
  | succ k ih => exact r_region_succ ih
end Go.Proofs.YtobamalnbjbmiaaGreatDoor
