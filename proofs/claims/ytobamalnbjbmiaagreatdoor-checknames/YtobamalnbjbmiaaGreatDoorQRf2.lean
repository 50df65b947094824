/- Plain mathematics: the document's own reader comes to what the grammar says: states, regions, the chart. -/
import Derived.Test.YtobamalnbjbmiaaGreatDoorQRf
namespace Go.Proofs.YtobamalnbjbmiaaGreatDoor
namespace Px
open Go.Deep (BT)
section
variable {L : List Lx.Tok}
theorem semi_ok {i m st : Nat} (h : semi L i = .ok m) : must L ⟨i, st, none⟩ kSemi = ⟨m, st, none⟩ := by
  rw [semi] at h
  by_cases h1 : tx L i = kSemi
  · rw [if_pos h1] at h; injection h with h; subst h; exact must_yes h1
  · rw [if_neg h1] at h; exact absurd h (by simp)
theorem semi_err {i st : Nat} {f : F} (h : semi L i = .error f) : (must L ⟨i, st, none⟩ kSemi).bad = some f := by
  rw [semi] at h
  by_cases h1 : tx L i = kSemi
  · rw [if_pos h1] at h; exact absurd h (by simp)
  · rw [if_neg h1] at h; injection h with h; subst h; rw [must_no h1]
/-- which part a word begins: all that the order of the questions may hang on -/
theorem words_apart (s : Str) (h : s = kEntry ∨ s = kDuring ∨ s = kExit ∨ s = kSuspend ∨ s = kRegion) : leadOf s = none := by
  rcases h with rfl | rfl | rfl | rfl | rfl <;> decide
section
variable {ρ : Type} {reg : Nat → Nat → Except F (List ρ × Nat × Nat)} {R : S → List ρ × S}
theorem part_none {s : StF ρ} {c i : Nat} (hl : leadOf (tx L i) = none) : part L ρ reg s c i =
    if tx L i = kRegion then
      match reg c (i + 1) with
      | .error x => .error x
      | .ok (l, c', j) => .ok (some ({ s with regions := s.regions ++ [l] }, c', j))
    else if tx L i = kEntry then
      match sets L L.length [] (i + 1) with
      | .error x => .error x
      | .ok (l, j) => match semi L j with
        | .error x => .error x
        | .ok m => .ok (some ({ s with enter := s.enter ++ l }, c, m))
    else if tx L i = kDuring then
      match sets L L.length [] (i + 1) with
      | .error x => .error x
      | .ok (l, j) => match semi L j with
        | .error x => .error x
        | .ok m => .ok (some ({ s with during := s.during ++ l }, c, m))
    else if tx L i = kExit then
      match sets L L.length [] (i + 1) with
      | .error x => .error x
      | .ok (l, j) => match semi L j with
        | .error x => .error x
        | .ok m => .ok (some ({ s with leave := s.leave ++ l }, c, m))
    else if tx L i = kSuspend then
      match s.rests with
      | .nil =>
        match expr L (i + 1) with
        | .error x => .error x
        | .ok (e, j) => match semi L j with
          | .error x => .error x
          | .ok m => .ok (some ({ s with rests := e }, c, m))
      | .node _ _ _ _ _ => .error (9, pl L (i + 1))
    else .ok none := by rw [part, hl]; rfl
theorem part_sim (h : Sim3 reg R) (s : StF ρ) (i st : Nat) :
    (∀ s' c j, part L ρ reg s st i = .ok (some (s', c, j)) → partR L ρ R s ⟨i, st, none⟩ = (s', ⟨j, c, none⟩)) ∧
    (∀ f, part L ρ reg s st i = .error f → (partR L ρ R s ⟨i, st, none⟩).2.bad = some f) ∧
    (part L ρ reg s st i = .ok none → partR L ρ R s ⟨i, st, none⟩ = (s, ⟨i, st, some (3, pl L i)⟩)) := by
  have setsCase : ∀ (k : StF ρ → List Asg → StF ρ) (X : Except F (Option (StF ρ × Nat × Nat))) (Y : StF ρ × S),
      X = (match sets L L.length [] (i + 1) with | .error x => .error x | .ok (l, j) => match semi L j with | .error x => .error x | .ok m => .ok (some (k s l, st, m))) →
      Y = (k s (setsR L L.length [] ⟨i + 1, st, none⟩).1, must L (setsR L L.length [] ⟨i + 1, st, none⟩).2 kSemi) →
      (∀ s' c j, X = .ok (some (s', c, j)) → Y = (s', ⟨j, c, none⟩)) ∧ (∀ f, X = .error f → Y.2.bad = some f) ∧ (X = .ok none → Y = (s, ⟨i, st, some (3, pl L i)⟩)) := by
    intro k X Y hX hY
    subst hX; subst hY
    cases hs : sets L L.length [] (i + 1) with
    | error y =>
      refine ⟨fun s' c j hh => absurd hh (by simp), fun f hh => ?_, fun hh => absurd hh (by simp)⟩
      injection hh with hh; subst hh; exact must_bad ((setsSim _).err _ _ _ hs)
    | ok p =>
      obtain ⟨l, m⟩ := p
      simp only [(setsSim (L := L) L.length).ok _ st _ _ hs]
      cases hm : semi L m with
      | error y =>
        refine ⟨fun s' c j hh => absurd hh (by simp), fun f hh => ?_, fun hh => absurd hh (by simp)⟩
        injection hh with hh; subst hh; exact semi_err hm
      | ok n =>
        refine ⟨fun s' c j hh => ?_, fun f hh => absurd hh (by simp), fun hh => absurd hh (by simp)⟩
        injection hh with hh; injection hh with hh; injection hh with e1 hh; injection hh with e2 e3; subst e1; subst e2; subst e3
        rw [semi_ok hm]
  have wayCase : ∀ (kind : Nat) (X : Except F (Option (StF ρ × Nat × Nat))) (Y : StF ρ × S),
      X = (match way L kind (i + 1) with | .error x => .error x | .ok (y, j) => .ok (some ({ s with ways := s.ways ++ [y] }, st, j))) →
      Y = ({ s with ways := s.ways ++ [(wayR L kind ⟨i + 1, st, none⟩).1] }, (wayR L kind ⟨i + 1, st, none⟩).2) →
      (∀ s' c j, X = .ok (some (s', c, j)) → Y = (s', ⟨j, c, none⟩)) ∧ (∀ f, X = .error f → Y.2.bad = some f) ∧ (X = .ok none → Y = (s, ⟨i, st, some (3, pl L i)⟩)) := by
    intro kind X Y hX hY
    subst hX; subst hY
    cases hs : way L kind (i + 1) with
    | error y =>
      refine ⟨fun s' c j hh => absurd hh (by simp), fun f hh => ?_, fun hh => absurd hh (by simp)⟩
      injection hh with hh; subst hh; exact (way_sim kind).err _ _ _ hs
    | ok p =>
      obtain ⟨l, m⟩ := p
      simp only [(way_sim (L := L) kind).ok _ st _ _ hs]
      refine ⟨fun s' c j hh => ?_, fun f hh => absurd hh (by simp), fun hh => absurd hh (by simp)⟩
      injection hh with hh; injection hh with hh; injection hh with e1 hh; injection hh with e2 e3; subst e1; subst e2; subst e3
      rfl
  by_cases h1 : tx L i = kEntry
  · refine setsCase (fun s l => { s with enter := s.enter ++ l }) _ _ ?_ ?_
    · rw [part_none (words_apart _ (.inl h1)), if_neg (by rw [h1]; decide), if_pos h1]
    · rw [partR, if_pos h1]
  by_cases h2 : tx L i = kDuring
  · refine setsCase (fun s l => { s with during := s.during ++ l }) _ _ ?_ ?_
    · rw [part_none (words_apart _ (.inr (.inl h2))), if_neg (by rw [h2]; decide), if_neg h1, if_pos h2]
    · rw [partR, if_neg h1, if_pos h2]
  by_cases h3 : tx L i = kExit
  · refine setsCase (fun s l => { s with leave := s.leave ++ l }) _ _ ?_ ?_
    · rw [part_none (words_apart _ (.inr (.inr (.inl h3)))), if_neg (by rw [h3]; decide), if_neg h1, if_neg h2, if_pos h3]
    · rw [partR, if_neg h1, if_neg h2, if_pos h3]
  by_cases h4 : tx L i = kSuspend
  · have hX := part_none (reg := reg) (s := s) (c := st) (words_apart (tx L i) (.inr (.inr (.inr (.inl h4)))))
    rw [if_neg (show ¬ tx L i = kRegion by rw [h4]; decide), if_neg h1, if_neg h2, if_neg h3, if_pos h4] at hX
    rw [hX, partR, if_neg h1, if_neg h2, if_neg h3, if_pos h4]
    cases s.rests with
    | nil =>
      simp only
      cases hs : expr L (i + 1) with
      | error y =>
        refine ⟨fun s' c j hh => absurd hh (by simp), fun f hh => ?_, fun hh => absurd hh (by simp)⟩
        injection hh with hh; subst hh; exact must_bad (expr_sim.err _ _ _ hs)
      | ok p =>
        obtain ⟨l, m⟩ := p
        simp only [expr_sim.ok _ st _ _ hs]
        cases hm : semi L m with
        | error y =>
          refine ⟨fun s' c j hh => absurd hh (by simp), fun f hh => ?_, fun hh => absurd hh (by simp)⟩
          injection hh with hh; subst hh; exact semi_err hm
        | ok n =>
          refine ⟨fun s' c j hh => ?_, fun f hh => absurd hh (by simp), fun hh => absurd hh (by simp)⟩
          injection hh with hh; injection hh with hh; injection hh with e1 hh; injection hh with e2 e3; subst e1; subst e2; subst e3
          rw [semi_ok hm]
    | node b o a l r =>
      simp only
      refine ⟨fun s' c j hh => absurd hh (by simp), fun f hh => ?_, fun hh => absurd hh (by simp)⟩
      injection hh with hh; subst hh; exact must_bad (expr_sim.bad rfl)
  by_cases h5 : tx L i = kGo
  · refine wayCase 0 _ _ ?_ ?_
    · rw [part, h5]; rfl
    · rw [partR, if_neg h1, if_neg h2, if_neg h3, if_neg h4, if_pos h5]
  by_cases h6 : tx L i = kAbort
  · refine wayCase 1 _ _ ?_ ?_
    · rw [part, h6]; rfl
    · rw [partR, if_neg h1, if_neg h2, if_neg h3, if_neg h4, if_neg h5, if_pos h6]
  by_cases h7 : tx L i = kJoin
  · refine wayCase 2 _ _ ?_ ?_
    · rw [part, h7]; rfl
    · rw [partR, if_neg h1, if_neg h2, if_neg h3, if_neg h4, if_neg h5, if_neg h6, if_pos h7]
  have hl : leadOf (tx L i) = none := by rw [leadOf, if_neg h5, if_neg h6, if_neg h7]
  by_cases h8 : tx L i = kRegion
  · have hX := part_none (reg := reg) (s := s) (c := st) hl
    rw [if_pos h8] at hX
    rw [hX, partR, if_neg h1, if_neg h2, if_neg h3, if_neg h4, if_neg h5, if_neg h6, if_neg h7, if_pos h8]
    cases hs : reg st (i + 1) with
    | error y =>
      refine ⟨fun s' c j hh => absurd hh (by simp), fun f hh => ?_, fun hh => absurd hh (by simp)⟩
      injection hh with hh; subst hh; exact h.err _ _ _ hs
    | ok p =>
      obtain ⟨l, c, m⟩ := p
      simp only [h.ok _ st _ _ _ hs]
      refine ⟨fun s' c' j hh => ?_, fun f hh => absurd hh (by simp), fun hh => absurd hh (by simp)⟩
      injection hh with hh; injection hh with hh; injection hh with e1 hh; injection hh with e2 e3; subst e1; subst e2; subst e3
      rfl
  · have hX := part_none (reg := reg) (s := s) (c := st) hl
    rw [if_neg h8, if_neg h1, if_neg h2, if_neg h3, if_neg h4] at hX
    rw [hX, partR, if_neg h1, if_neg h2, if_neg h3, if_neg h4, if_neg h5, if_neg h6, if_neg h7, if_neg h8]
    exact ⟨fun s' c j hh => absurd hh (by simp), fun f hh => absurd hh (by simp), fun _ => rfl⟩
/-- where } stands no part stands -/
theorem part_shut (s : StF ρ) (c i : Nat) (h : tx L i = kShut) : part L ρ reg s c i = .ok none := by
  have hl : leadOf (tx L i) = none := by rw [h]; decide
  rw [part, hl]
  simp only
  rw [if_neg (by rw [h]; decide), if_neg (by rw [h]; decide), if_neg (by rw [h]; decide), if_neg (by rw [h]; decide), if_neg (by rw [h]; decide)]
theorem partsR_dead (n : Nat) (s : StF ρ) {σ : S} {f : F} (h : σ.bad = some f) : partsR L ρ R n s σ = (s, σ) := by
  cases n with
  | zero => rfl
  | succ n => rw [partsR, if_neg (by simp [h])]
theorem parts_sim (h : Sim3 reg R) : ∀ (n : Nat) (s : StF ρ), Sim3 (parts L ρ reg n s) (partsR L ρ R n s) := by
  intro n
  induction n with
  | zero =>
    intro s
    refine ⟨fun i st a c j hh => ?_, fun i st f hh => ?_, fun i st f => rfl⟩
    · rw [parts] at hh; injection hh with hh; injection hh with e1 hh; injection hh with e2 e3; subst e1; subst e2; subst e3; rfl
    · rw [parts] at hh; exact absurd hh (by simp)
  | succ n ih =>
    intro s
    refine ⟨fun i st a c j hh => ?_, fun i st f hh => ?_, fun i st f => by rw [partsR_dead _ _ rfl]⟩
    all_goals
      obtain ⟨p1, p2, p3⟩ := part_sim (L := L) h s i st
      rw [parts] at hh
      simp only [partsR, Option.isNone_none, ↓reduceIte]
      by_cases hs : tx L i = kShut
      · rw [part_shut s st i hs] at hh
        simp only at hh
        rw [if_pos hs] at hh ⊢
        first
          | (injection hh with hh; injection hh with e1 hh; injection hh with e2 e3; subst e1; subst e2; subst e3; rfl)
          | (cases hh; done)
      · rw [if_neg hs]
        cases hp : part L ρ reg s st i with
        | error y =>
          rw [hp] at hh
          first
            | (cases hh; done)
            | (injection hh with hh; subst hh; rw [partsR_dead _ _ (p2 _ hp)]; exact p2 _ hp)
        | ok o =>
          rw [hp] at hh
          cases o with
          | none =>
            simp only at hh
            rw [if_neg hs] at hh
            rw [p3 hp, partsR_dead _ _ rfl]
            first
              | (cases hh; done)
              | (injection hh with hh; subst hh; rfl)
          | some q =>
            obtain ⟨s', c', j'⟩ := q
            simp only at hh
            rw [p1 _ _ _ hp]
            first
              | exact (ih s').ok _ _ _ _ _ hh
              | exact (ih s').err _ _ _ hh
theorem head_ok {i st : Nat} (h : tx L (opt L kFinal (opt L kInitial i)) = kState) (hc : st < 24) : headR L ⟨i, st, none⟩ = ⟨opt L kFinal (opt L kInitial i) + 1, st + 1, none⟩ := by
  rw [headR, tk_opt, tk_opt, must_yes h, more, if_neg (by simp only; omega)]
theorem head_full {i st : Nat} (h : tx L (opt L kFinal (opt L kInitial i)) = kState) (hc : 24 ≤ st) : (headR L ⟨i, st, none⟩).bad = some (4, pl L (opt L kFinal (opt L kInitial i) + 1)) := by
  rw [headR, tk_opt, tk_opt, must_yes h, more, if_pos (by simp only; omega)]; rfl
theorem more_bad {σ : S} {f : F} (h : σ.bad = some f) : (more L σ).bad = some f := by
  rw [more]; split
  · exact fails_bad h
  · exact h
theorem head_no {i st : Nat} (h : tx L (opt L kFinal (opt L kInitial i)) ≠ kState) : (headR L ⟨i, st, none⟩).bad = some (3, pl L (opt L kFinal (opt L kInitial i))) := by
  rw [headR, tk_opt, tk_opt, must_no h]; exact more_bad rfl
theorem stateR_dead {σ : S} {f : F} (h : (headR L σ).bad = some f) : (stateR L ρ R σ).2.bad = some f := by
  have h1 := nameR_bad (L := L) h
  rw [stateR, if_neg (by rw [see_bad h1]; simp), partsR_dead _ _ (must_bad h1)]
  exact must_bad h1
theorem state_sim (h : Sim3 reg R) (i st : Nat) :
    (∀ a c j, state L ρ reg (decide (tx L i = kInitial)) (decide (tx L (opt L kInitial i) = kFinal)) st (opt L kFinal (opt L kInitial i)) = .ok (a, c, j) → stateR L ρ R ⟨i, st, none⟩ = (a, ⟨j, c, none⟩)) ∧
    (∀ f, state L ρ reg (decide (tx L i = kInitial)) (decide (tx L (opt L kInitial i) = kFinal)) st (opt L kFinal (opt L kInitial i)) = .error f → (stateR L ρ R ⟨i, st, none⟩).2.bad = some f) := by
  generalize hm : opt L kFinal (opt L kInitial i) = m
  rw [state]
  by_cases h1 : tx L m = kState
  · rw [if_pos h1]
    by_cases h2 : 24 ≤ st
    · rw [if_pos h2]
      refine ⟨fun a c j hh => absurd hh (by simp), fun f hh => ?_⟩
      injection hh with hh; subst hh; subst hm; exact stateR_dead (head_full h1 h2)
    · rw [if_neg h2]
      have hh0 : headR L ⟨i, st, none⟩ = ⟨m + 1, st + 1, none⟩ := by subst hm; exact head_ok h1 (by omega)
      cases hn : nm L (m + 1) with
      | error y =>
        refine ⟨fun a c j hh => absurd hh (by simp), fun f hh => ?_⟩
        injection hh with hh; subst hh
        have hb : (nameR L (headR L ⟨i, st, none⟩)).2.bad = some y := by rw [hh0, nameR_err hn]
        rw [stateR, if_neg (by rw [see_bad hb]; simp), partsR_dead _ _ (must_bad hb)]
        exact must_bad hb
      | ok s =>
        simp only
        rw [stateR, hh0, nameR_ok hn]
        simp only [see_ok, tk_opt]
        by_cases h3 : tx L (m + 2) = kSemi
        · rw [if_pos h3, if_pos (show decide (tx L (m + 1 + 1) = kSemi) = true from decide_eq_true h3)]
          refine ⟨fun a c j hh => ?_, fun f hh => absurd hh (by simp)⟩
          injection hh with hh; injection hh with e1 hh; injection hh with e2 e3; subst e1; subst e2; subst e3
          rw [show opt L kSemi (m + 1 + 1) = m + 3 from by rw [opt, if_pos h3]]
        · rw [if_neg h3, if_neg (show ¬ decide (tx L (m + 1 + 1) = kSemi) = true by simp; exact h3)]
          by_cases h4 : tx L (m + 2) = kOpen
          · rw [if_pos h4, must_yes (show tx L (m + 1 + 1) = kOpen from h4)]
            exact ⟨fun a c j hh => (parts_sim h _ _).ok _ _ _ _ _ hh, fun f hh => (parts_sim h _ _).err _ _ _ hh⟩
          · rw [if_neg h4, must_no (show tx L (m + 1 + 1) ≠ kOpen from h4), partsR_dead _ _ rfl]
            refine ⟨fun a c j hh => absurd hh (by simp), fun f hh => ?_⟩
            injection hh with hh; subst hh; rfl
  · rw [if_neg h1]
    refine ⟨fun a c j hh => absurd hh (by simp), fun f hh => ?_⟩
    injection hh with hh; subst hh; subst hm; exact stateR_dead (head_no h1)
theorem statesR_dead (n : Nat) (l : List (StF ρ)) {σ : S} {f : F} (h : σ.bad = some f) : statesR L ρ R n l σ = (l, σ) := by
  cases n with
  | zero => rfl
  | succ n => rw [statesR, if_neg (by simp [h])]
theorem states_sim (h : Sim3 reg R) : ∀ (n : Nat) (l : List (StF ρ)), Sim3 (states L ρ reg n l) (statesR L ρ R n l) := by
  intro n
  induction n with
  | zero =>
    intro l
    refine ⟨fun i st a c j hh => ?_, fun i st f hh => ?_, fun i st f => rfl⟩
    · rw [states] at hh; injection hh with hh; injection hh with e1 hh; injection hh with e2 e3; subst e1; subst e2; subst e3; rfl
    · rw [states] at hh; exact absurd hh (by simp)
  | succ n ih =>
    intro l
    refine ⟨fun i st a c j hh => ?_, fun i st f hh => ?_, fun i st f => by rw [statesR_dead _ _ rfl]⟩
    all_goals
      obtain ⟨p1, p2⟩ := state_sim (L := L) h i st
      rw [states] at hh
      simp only [statesR, Option.isNone_none, ↓reduceIte]
      by_cases hb : tx L i = kInitial ∨ tx L i = kFinal ∨ tx L i = kState
      · rw [if_pos hb] at hh
        rw [if_neg (show ¬ tx L i = kShut by rcases hb with e | e | e <;> (rw [e]; decide))]
        cases hs : state L ρ reg (decide (tx L i = kInitial)) (decide (tx L (opt L kInitial i) = kFinal)) st (opt L kFinal (opt L kInitial i)) with
        | error y =>
          rw [hs] at hh
          first
            | (cases hh; done)
            | (injection hh with hh; subst hh; rw [statesR_dead _ _ (p2 _ hs)]; exact p2 _ hs)
        | ok q =>
          obtain ⟨s', c', j'⟩ := q
          rw [hs] at hh
          simp only at hh
          rw [p1 _ _ _ hs]
          first
            | exact (ih _).ok _ _ _ _ _ hh
            | exact (ih _).err _ _ _ hh
      · rw [if_neg hb] at hh
        have n1 : tx L i ≠ kInitial := fun e => hb (.inl e)
        have n2 : tx L i ≠ kFinal := fun e => hb (.inr (.inl e))
        have n3 : tx L i ≠ kState := fun e => hb (.inr (.inr e))
        have o1 : opt L kInitial i = i := by rw [opt, if_neg n1]
        have o2 : opt L kFinal (opt L kInitial i) = i := by rw [o1, opt, if_neg n2]
        by_cases hs : tx L i = kShut
        · rw [if_pos hs] at hh ⊢
          first
            | (injection hh with hh; injection hh with e1 hh; injection hh with e2 e3; subst e1; subst e2; subst e3; rfl)
            | (cases hh; done)
        · rw [if_neg hs] at hh ⊢
          first
            | (cases hh; done)
            | (injection hh with hh; subst hh
               have hd : (stateR L ρ R ⟨i, st, none⟩).2.bad = some (3, pl L i) := by
                 have := stateR_dead (ρ := ρ) (R := R) (head_no (L := L) (i := i) (st := st) (by rw [o2]; exact n3))
                 rw [o2] at this; exact this
               rw [statesR_dead _ _ hd]; exact hd)
end
theorem region_sim : ∀ k : Nat, Sim3 (region L k) (regionR L k) := by
  intro k
  induction k with
  | zero =>
    refine ⟨fun i st a c j hh => ?_, fun i st f hh => ?_, fun i st f => rfl⟩
    · rw [region] at hh; exact absurd hh (by simp)
    · rw [region] at hh; injection hh with hh; subst hh; rfl
  | succ k ih =>
    have hs := states_sim (L := L) ih L.length []
    refine ⟨fun i st a c j hh => ?_, fun i st f hh => ?_, fun i st f => ?_⟩
    · have hh' : (if tx L i = kOpen then states L (St k) (region L k) L.length [] st (i + 1) else .error (3, pl L i)) = .ok (a, c, j) := hh
      show statesR L (St k) (regionR L k) L.length [] (must L ⟨i, st, none⟩ kOpen) = _
      by_cases ho : tx L i = kOpen
      · rw [if_pos ho] at hh'; rw [must_yes ho]; exact hs.ok _ _ _ _ _ hh'
      · rw [if_neg ho] at hh'; exact absurd hh' (by simp)
    · have hh' : (if tx L i = kOpen then states L (St k) (region L k) L.length [] st (i + 1) else .error (3, pl L i)) = .error f := hh
      show (statesR L (St k) (regionR L k) L.length [] (must L ⟨i, st, none⟩ kOpen)).2.bad = _
      by_cases ho : tx L i = kOpen
      · rw [if_pos ho] at hh'; rw [must_yes ho]; exact hs.err _ _ _ hh'
      · rw [if_neg ho] at hh'; injection hh' with hh'; subst hh'; rw [must_no ho, statesR_dead _ _ rfl]
    · show (statesR L (St k) (regionR L k) L.length [] (must L ⟨i, st, some f⟩ kOpen)).2.bad = _
      rw [must_dead, statesR_dead _ _ rfl]
theorem first_sim : Sim (first L) (firstR L) := by
  refine ⟨fun i st a j h => ?_, fun i st f h => ?_, fun i st f => ?_⟩
  · rw [first] at h
    by_cases h1 : tx L i = kColEq
    · rw [if_pos h1] at h
      rw [firstR, if_pos (by rw [see_ok]; exact decide_eq_true h1), tk_yes h1]
      by_cases h2 : tx L (i + 1) = kMinus
      · rw [if_pos h2] at h
        rw [if_pos (by rw [see_ok]; exact decide_eq_true h2), tk_yes h2]
        cases hn : number L (i + 2) with
        | error y => rw [hn] at h; exact absurd h (by simp)
        | ok n => rw [hn] at h; injection h with h; injection h with e1 e2; subst e1; subst e2; rw [numberR_ok hn]
      · rw [if_neg h2] at h
        rw [if_neg (by rw [see_ok]; simp [h2])]
        cases hn : number L (i + 1) with
        | error y => rw [hn] at h; exact absurd h (by simp)
        | ok n => rw [hn] at h; injection h with h; injection h with e1 e2; subst e1; subst e2; rw [numberR_ok hn]
    · rw [if_neg h1] at h; injection h with h; injection h with e1 e2; subst e1; subst e2
      rw [firstR, if_neg (by rw [see_ok]; simp [h1])]
  · rw [first] at h
    by_cases h1 : tx L i = kColEq
    · rw [if_pos h1] at h
      rw [firstR, if_pos (by rw [see_ok]; exact decide_eq_true h1), tk_yes h1]
      by_cases h2 : tx L (i + 1) = kMinus
      · rw [if_pos h2] at h
        rw [if_pos (by rw [see_ok]; exact decide_eq_true h2), tk_yes h2]
        cases hn : number L (i + 2) with
        | error y => rw [hn] at h; injection h with h; subst h; rw [numberR_err hn]
        | ok n => rw [hn] at h; exact absurd h (by simp)
      · rw [if_neg h2] at h
        rw [if_neg (by rw [see_ok]; simp [h2])]
        cases hn : number L (i + 1) with
        | error y => rw [hn] at h; injection h with h; subst h; rw [numberR_err hn]
        | ok n => rw [hn] at h; exact absurd h (by simp)
    · rw [if_neg h1] at h; exact absurd h (by simp)
  · rw [firstR, if_neg (by simp)]
theorem variableR_bad (n kind : Nat) {σ : S} {f : F} (h : σ.bad = some f) : (variableR L n kind σ).2.bad = some f := by
  have : (if n = 20 then fails L σ 4 else σ).bad = some f := by
    split
    · exact fails_bad h
    · exact h
  exact must_bad (first_sim.bad (nameR_bad this))
theorem variable_sim (n kind : Nat) (hn : n ≠ 20) : Sim (variable_ L kind) (variableR L n kind) := by
  refine ⟨fun i st a j h => ?_, fun i st f h => ?_, fun i st f => variableR_bad n kind rfl⟩
  · rw [variable_] at h
    rw [variableR, if_neg hn]
    cases hm : nm L i with
    | error y => rw [hm] at h; exact absurd h (by simp)
    | ok s =>
      rw [hm] at h; simp only at h
      rw [nameR_ok hm]; simp only
      cases hf : first L (i + 1) with
      | error y => rw [hf] at h; exact absurd h (by simp)
      | ok p =>
        obtain ⟨x, m⟩ := p
        rw [hf] at h; simp only at h
        rw [first_sim.ok _ st _ _ hf]; simp only
        by_cases h1 : tx L m = kSemi
        · rw [if_pos h1] at h; injection h with h; injection h with e1 e2; subst e1; subst e2; rw [must_yes h1]
        · rw [if_neg h1] at h; exact absurd h (by simp)
  · rw [variable_] at h
    rw [variableR, if_neg hn]
    cases hm : nm L i with
    | error y => rw [hm] at h; injection h with h; subst h; exact must_bad (first_sim.bad (by rw [nameR_err hm]))
    | ok s =>
      rw [hm] at h; simp only at h
      rw [nameR_ok hm]; simp only
      cases hf : first L (i + 1) with
      | error y => rw [hf] at h; injection h with h; subst h; exact must_bad (first_sim.err _ _ _ hf)
      | ok p =>
        obtain ⟨x, m⟩ := p
        rw [hf] at h; simp only at h
        rw [first_sim.ok _ st _ _ hf]; simp only
        by_cases h1 : tx L m = kSemi
        · rw [if_pos h1] at h; exact absurd h (by simp)
        · rw [if_neg h1] at h; injection h with h; subst h; rw [must_no h1]
theorem variable_full (kind : Nat) (i st : Nat) : (variableR L 20 kind ⟨i, st, none⟩).2.bad = some (4, pl L i) := by
  rw [variableR, if_pos rfl]; exact must_bad (first_sim.bad (nameR_bad rfl))
theorem itemsR_dead (n : Nat) (vs : List Decl) (rs : List (List (St 6))) {σ : S} {f : F} (h : σ.bad = some f) : itemsR L n vs rs σ = ((vs, rs), σ) := by
  cases n with
  | zero => rfl
  | succ n => rw [itemsR, if_neg (by simp [h])]
theorem items_sim : ∀ (n : Nat) (vs : List Decl) (rs : List (List (St 6))) (i st : Nat), vs.length ≤ 20 →
    (∀ vs' rs' j, items L n vs rs st i = .ok (vs', rs', j) → ∃ c, itemsR L n vs rs ⟨i, st, none⟩ = ((vs', rs'), ⟨j, c, none⟩)) ∧
    (∀ f, items L n vs rs st i = .error f → (itemsR L n vs rs ⟨i, st, none⟩).2.bad = some f) := by
  intro n
  induction n with
  | zero =>
    intro vs rs i st hv
    refine ⟨fun vs' rs' j hh => ?_, fun f hh => ?_⟩
    · rw [items] at hh; injection hh with hh; injection hh with e1 hh; injection hh with e2 e3; subst e1; subst e2; subst e3; exact ⟨st, rfl⟩
    · rw [items] at hh; exact absurd hh (by simp)
  | succ n ih =>
    intro vs rs i st hv
    rw [items]
    simp only [itemsR, Option.isNone_none, ↓reduceIte]
    by_cases hk : kindOf (tx L i) ≠ 0
    · have hs : tx L i ≠ kShut := fun e => hk (by rw [e]; decide)
      rw [if_pos hk, if_neg hs, if_pos hk]
      by_cases h20 : 20 ≤ vs.length
      · rw [if_pos h20]
        refine ⟨fun vs' rs' j hh => absurd hh (by simp), fun f hh => ?_⟩
        injection hh with hh; subst hh
        have hd := variable_full (L := L) (kindOf (tx L i)) (i + 1) st
        rw [show vs.length = 20 by omega, itemsR_dead _ _ _ hd]; exact hd
      · rw [if_neg h20]
        have vsim := variable_sim (L := L) vs.length (kindOf (tx L i)) (by omega)
        cases hv : variable_ L (kindOf (tx L i)) (i + 1) with
        | error y =>
          refine ⟨fun vs' rs' j hh => absurd hh (by simp), fun f hh => ?_⟩
          injection hh with hh; subst hh
          have hd := vsim.err _ st _ hv
          rw [itemsR_dead _ _ _ hd]; exact hd
        | ok p =>
          obtain ⟨v, j1⟩ := p
          simp only [vsim.ok _ st _ _ hv]
          exact ih _ _ _ _ (by simp; omega)
    · rw [if_neg hk, if_neg hk]
      by_cases hr : tx L i = kRegion
      · have hs : tx L i ≠ kShut := fun e => by rw [e] at hr; exact absurd hr (by decide)
        rw [if_pos hr, if_neg hs, if_pos hr]
        cases hw : region L 6 st (i + 1) with
        | error y =>
          refine ⟨fun vs' rs' j hh => absurd hh (by simp), fun f hh => ?_⟩
          injection hh with hh; subst hh
          have hd := (region_sim 6).err _ st _ hw
          rw [itemsR_dead _ _ _ hd]; exact hd
        | ok p =>
          obtain ⟨v, c1, j1⟩ := p
          simp only [(region_sim 6).ok _ st _ _ _ hw]
          exact ih _ _ _ _ hv
      · rw [if_neg hr, if_neg hr]
        by_cases hs : tx L i = kShut
        · rw [if_pos hs, if_pos hs]
          refine ⟨fun vs' rs' j hh => ?_, fun f hh => absurd hh (by simp)⟩
          injection hh with hh; injection hh with e1 hh; injection hh with e2 e3; subst e1; subst e2; subst e3; exact ⟨st, rfl⟩
        · rw [if_neg hs, if_neg hs]
          refine ⟨fun vs' rs' j hh => absurd hh (by simp), fun f hh => ?_⟩
          injection hh with hh; subst hh
          rw [itemsR_dead (f := (3, pl L i)) _ _ _ rfl]; rfl
theorem chart_ok {c : Chart} (h : chart L = .ok c) : chartR L = ((c.name, c.vars, c.regions), (chartR L).2) ∧ (chartR L).2.bad = none := by
  rw [chart] at h
  by_cases h1 : tx L 0 = kChart
  · rw [if_pos h1] at h
    cases hn : nm L 1 with
    | error y => rw [hn] at h; exact absurd h (by simp)
    | ok s =>
      rw [hn] at h; simp only at h
      by_cases h2 : tx L 2 = kOpen
      · rw [if_pos h2] at h
        cases hi : items L L.length [] [] 0 3 with
        | error y => rw [hi] at h; exact absurd h (by simp)
        | ok p =>
          obtain ⟨vs, rs, i⟩ := p
          rw [hi] at h; simp only at h
          obtain ⟨c1, hc⟩ := (items_sim (L := L) L.length [] [] 3 0 (by simp)).1 _ _ _ hi
          by_cases h3 : kd L i = 4
          · rw [if_pos h3] at h; injection h with h; subst h
            have ho : openR L = (s, ⟨3, 0, none⟩) := by rw [openR, must_yes h1, nameR_ok hn]; simp only; rw [must_yes (show tx L (0 + 1 + 1) = kOpen from h2)]
            rw [chartR, ho]; simp only; rw [hc]; simp only
            rw [endR, if_neg (by simp only; exact fun e => e h3)]
            simp
          · rw [if_neg h3] at h; exact absurd h (by simp)
      · rw [if_neg h2] at h; exact absurd h (by simp)
  · rw [if_neg h1] at h; exact absurd h (by simp)
theorem endR_bad {σ : S} {f : F} (h : σ.bad = some f) : (endR L σ).bad = some f := by
  rw [endR]; split
  · exact fails_bad h
  · exact h
theorem chart_err {f : F} (h : chart L = .error f) : (chartR L).2.bad = some f := by
  have dead : (openR L).2.bad = some f → (chartR L).2.bad = some f := fun hd => by
    rw [chartR]; simp only; rw [itemsR_dead _ _ _ hd]; exact endR_bad hd
  rw [chart] at h
  by_cases h1 : tx L 0 = kChart
  · rw [if_pos h1] at h
    cases hn : nm L 1 with
    | error y => rw [hn] at h; injection h with h; subst h; refine dead (must_bad ?_); rw [must_yes h1, nameR_err hn]
    | ok s =>
      rw [hn] at h; simp only at h
      by_cases h2 : tx L 2 = kOpen
      · rw [if_pos h2] at h
        have ho : openR L = (s, ⟨3, 0, none⟩) := by rw [openR, must_yes h1, nameR_ok hn]; simp only; rw [must_yes (show tx L (0 + 1 + 1) = kOpen from h2)]
        cases hi : items L L.length [] [] 0 3 with
        | error y =>
          rw [hi] at h; injection h with h; subst h
          rw [chartR, ho]; exact endR_bad ((items_sim (L := L) L.length [] [] 3 0 (by simp)).2 _ hi)
        | ok p =>
          obtain ⟨vs, rs, i⟩ := p
          rw [hi] at h; simp only at h
          obtain ⟨c1, hc⟩ := (items_sim (L := L) L.length [] [] 3 0 (by simp)).1 _ _ _ hi
          by_cases h3 : kd L i = 4
          · rw [if_pos h3] at h; exact absurd h (by simp)
          · rw [if_neg h3] at h; injection h with h; subst h
            rw [chartR, ho]; simp only; rw [hc]; simp only
            rw [endR, if_pos (by simp only; exact h3)]; rfl
      · rw [if_neg h2] at h; injection h with h; subst h; refine dead ?_
        rw [openR, must_yes h1, nameR_ok hn]; simp only; rw [must_no (show tx L (0 + 1 + 1) ≠ kOpen from h2)]
  · rw [if_neg h1] at h; injection h with h; subst h
    refine dead (must_bad (nameR_bad ?_)); rw [must_no h1]
end
end Px
end Go.Proofs.YtobamalnbjbmiaaGreatDoor
