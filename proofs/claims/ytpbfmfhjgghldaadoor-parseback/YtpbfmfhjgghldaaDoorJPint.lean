/- Plain mathematics: the document's own reader comes to what the grammar says: states, regions, the chart. -/
import Derived.Test.YtpbfmfhjgghldaaDoorJRf
import Derived.Test.YtpbfmfhjgghldaaDoorJPrd
import Derived.Shelf.LaysC
import Derived.Shelf.Strconv.ParseIntPublic10
import Derived.Test.YtpbfmfhjgghldaaDoorProg
namespace Go.Proofs.YtpbfmfhjgghldaaDoor
namespace Px
open Go.Deep (BT)
section
variable {L : List Lx.Tok}
theorem semi_ok {i m st : Nat} (h : semi L i = .ok m) : must L ⟨i, st, none⟩ kSemi = ⟨m, st, none⟩ := by
  rw [semi] at h
  by_cases h1 : tx L i = kSemi
  · rw [if_pos h1] at h; injection h with h; subst h; exact must_yes h1
  · rw [if_neg h1] at h; exact absurd h (by simp)
theorem semi_err {i st : Nat} {f : F} (h : semi L i = .error f) : (must L ⟨i, st, none⟩ kSemi).bad = some f := by
  rw [semi] at h
  by_cases h1 : tx L i = kSemi
  · rw [if_pos h1] at h; exact absurd h (by simp)
  · rw [if_neg h1] at h; injection h with h; subst h; rw [must_no h1]
/-- which part a word begins: all that the order of the questions may hang on -/
theorem words_apart (s : Str) (h : s = kEntry ∨ s = kDuring ∨ s = kExit ∨ s = kSuspend ∨ s = kRegion) : leadOf s = none := by
  rcases h with rfl | rfl | rfl | rfl | rfl <;> decide
section
variable {ρ : Type} {reg : Nat → Nat → Except F (List ρ × Nat × Nat)} {R : S → List ρ × S}
theorem part_none {s : StF ρ} {c i : Nat} (hl : leadOf (tx L i) = none) : part L ρ reg s c i =
    if tx L i = kRegion then
      match reg c (i + 1) with
      | .error x => .error x
      | .ok (l, c', j) => .ok (some ({ s with regions := s.regions ++ [l] }, c', j))
    else if tx L i = kEntry then
      match sets L L.length [] (i + 1) with
      | .error x => .error x
      | .ok (l, j) => match semi L j with
        | .error x => .error x
        | .ok m => .ok (some ({ s with enter := s.enter ++ l }, c, m))
    else if tx L i = kDuring then
      match sets L L.length [] (i + 1) with
      | .error x => .error x
      | .ok (l, j) => match semi L j with
        | .error x => .error x
        | .ok m => .ok (some ({ s with during := s.during ++ l }, c, m))
    else if tx L i = kExit then
      match sets L L.length [] (i + 1) with
      | .error x => .error x
      | .ok (l, j) => match semi L j with
        | .error x => .error x
        | .ok m => .ok (some ({ s with leave := s.leave ++ l }, c, m))
    else if tx L i = kSuspend then
      match s.rests with
      | .nil =>
        match expr L (i + 1) with
        | .error x => .error x
        | .ok (e, j) => match semi L j with
          | .error x => .error x
          | .ok m => .ok (some ({ s with rests := e }, c, m))
      | .node _ _ _ _ _ => .error (9, pl L (i + 1))
    else .ok none := by rw [part, hl]; rfl
theorem part_sim (h : Sim3 reg R) (s : StF ρ) (i st : Nat) :
    (∀ s' c j, part L ρ reg s st i = .ok (some (s', c, j)) → partR L ρ R s ⟨i, st, none⟩ = (s', ⟨j, c, none⟩)) ∧
    (∀ f, part L ρ reg s st i = .error f → (partR L ρ R s ⟨i, st, none⟩).2.bad = some f) ∧
    (part L ρ reg s st i = .ok none → partR L ρ R s ⟨i, st, none⟩ = (s, ⟨i, st, some (3, pl L i)⟩)) := by
  have setsCase : ∀ (k : StF ρ → List Asg → StF ρ) (X : Except F (Option (StF ρ × Nat × Nat))) (Y : StF ρ × S),
      X = (match sets L L.length [] (i + 1) with | .error x => .error x | .ok (l, j) => match semi L j with | .error x => .error x | .ok m => .ok (some (k s l, st, m))) →
      Y = (k s (setsR L L.length [] ⟨i + 1, st, none⟩).1, must L (setsR L L.length [] ⟨i + 1, st, none⟩).2 kSemi) →
      (∀ s' c j, X = .ok (some (s', c, j)) → Y = (s', ⟨j, c, none⟩)) ∧ (∀ f, X = .error f → Y.2.bad = some f) ∧ (X = .ok none → Y = (s, ⟨i, st, some (3, pl L i)⟩)) := by
    intro k X Y hX hY
    subst hX; subst hY
    cases hs : sets L L.length [] (i + 1) with
    | error y =>
      refine ⟨fun s' c j hh => absurd hh (by simp), fun f hh => ?_, fun hh => absurd hh (by simp)⟩
      injection hh with hh; subst hh; exact must_bad ((setsSim _).err _ _ _ hs)
    | ok p =>
      obtain ⟨l, m⟩ := p
      simp only [(setsSim (L := L) L.length).ok _ st _ _ hs]
      cases hm : semi L m with
      | error y =>
        refine ⟨fun s' c j hh => absurd hh (by simp), fun f hh => ?_, fun hh => absurd hh (by simp)⟩
        injection hh with hh; subst hh; exact semi_err hm
      | ok n =>
        refine ⟨fun s' c j hh => ?_, fun f hh => absurd hh (by simp), fun hh => absurd hh (by simp)⟩
        injection hh with hh; injection hh with hh; injection hh with e1 hh; injection hh with e2 e3; subst e1; subst e2; subst e3
        rw [semi_ok hm]
  have wayCase : ∀ (kind : Nat) (X : Except F (Option (StF ρ × Nat × Nat))) (Y : StF ρ × S),
      X = (match way L kind (i + 1) with | .error x => .error x | .ok (y, j) => .ok (some ({ s with ways := s.ways ++ [y] }, st, j))) →
      Y = ({ s with ways := s.ways ++ [(wayR L kind ⟨i + 1, st, none⟩).1] }, (wayR L kind ⟨i + 1, st, none⟩).2) →
      (∀ s' c j, X = .ok (some (s', c, j)) → Y = (s', ⟨j, c, none⟩)) ∧ (∀ f, X = .error f → Y.2.bad = some f) ∧ (X = .ok none → Y = (s, ⟨i, st, some (3, pl L i)⟩)) := by
    intro kind X Y hX hY
    subst hX; subst hY
    cases hs : way L kind (i + 1) with
    | error y =>
      refine ⟨fun s' c j hh => absurd hh (by simp), fun f hh => ?_, fun hh => absurd hh (by simp)⟩
      injection hh with hh; subst hh; exact (way_sim kind).err _ _ _ hs
    | ok p =>
      obtain ⟨l, m⟩ := p
      simp only [(way_sim (L := L) kind).ok _ st _ _ hs]
      refine ⟨fun s' c j hh => ?_, fun f hh => absurd hh (by simp), fun hh => absurd hh (by simp)⟩
      injection hh with hh; injection hh with hh; injection hh with e1 hh; injection hh with e2 e3; subst e1; subst e2; subst e3
      rfl
  by_cases h1 : tx L i = kEntry
  · refine setsCase (fun s l => { s with enter := s.enter ++ l }) _ _ ?_ ?_
    · rw [part_none (words_apart _ (.inl h1)), if_neg (by rw [h1]; decide), if_pos h1]
    · rw [partR, if_pos h1]
  by_cases h2 : tx L i = kDuring
  · refine setsCase (fun s l => { s with during := s.during ++ l }) _ _ ?_ ?_
    · rw [part_none (words_apart _ (.inr (.inl h2))), if_neg (by rw [h2]; decide), if_neg h1, if_pos h2]
    · rw [partR, if_neg h1, if_pos h2]
  by_cases h3 : tx L i = kExit
  · refine setsCase (fun s l => { s with leave := s.leave ++ l }) _ _ ?_ ?_
    · rw [part_none (words_apart _ (.inr (.inr (.inl h3)))), if_neg (by rw [h3]; decide), if_neg h1, if_neg h2, if_pos h3]
    · rw [partR, if_neg h1, if_neg h2, if_pos h3]
  by_cases h4 : tx L i = kSuspend
  · have hX := part_none (reg := reg) (s := s) (c := st) (words_apart (tx L i) (.inr (.inr (.inr (.inl h4)))))
    rw [if_neg (show ¬ tx L i = kRegion by rw [h4]; decide), if_neg h1, if_neg h2, if_neg h3, if_pos h4] at hX
    rw [hX, partR, if_neg h1, if_neg h2, if_neg h3, if_pos h4]
    cases s.rests with
    | nil =>
      simp only
      cases hs : expr L (i + 1) with
      | error y =>
        refine ⟨fun s' c j hh => absurd hh (by simp), fun f hh => ?_, fun hh => absurd hh (by simp)⟩
        injection hh with hh; subst hh; exact must_bad (expr_sim.err _ _ _ hs)
      | ok p =>
        obtain ⟨l, m⟩ := p
        simp only [expr_sim.ok _ st _ _ hs]
        cases hm : semi L m with
        | error y =>
          refine ⟨fun s' c j hh => absurd hh (by simp), fun f hh => ?_, fun hh => absurd hh (by simp)⟩
          injection hh with hh; subst hh; exact semi_err hm
        | ok n =>
          refine ⟨fun s' c j hh => ?_, fun f hh => absurd hh (by simp), fun hh => absurd hh (by simp)⟩
          injection hh with hh; injection hh with hh; injection hh with e1 hh; injection hh with e2 e3; subst e1; subst e2; subst e3
          rw [semi_ok hm]
    | node b o a l r =>
      simp only
      refine ⟨fun s' c j hh => absurd hh (by simp), fun f hh => ?_, fun hh => absurd hh (by simp)⟩
      injection hh with hh; subst hh; exact must_bad (expr_sim.bad rfl)
  by_cases h5 : tx L i = kGo
  · refine wayCase 0 _ _ ?_ ?_
    · rw [part, h5]; rfl
    · rw [partR, if_neg h1, if_neg h2, if_neg h3, if_neg h4, if_pos h5]
  by_cases h6 : tx L i = kAbort
  · refine wayCase 1 _ _ ?_ ?_
    · rw [part, h6]; rfl
    · rw [partR, if_neg h1, if_neg h2, if_neg h3, if_neg h4, if_neg h5, if_pos h6]
  by_cases h7 : tx L i = kJoin
  · refine wayCase 2 _ _ ?_ ?_
    · rw [part, h7]; rfl
    · rw [partR, if_neg h1, if_neg h2, if_neg h3, if_neg h4, if_neg h5, if_neg h6, if_pos h7]
  have hl : leadOf (tx L i) = none := by rw [leadOf, if_neg h5, if_neg h6, if_neg h7]
  by_cases h8 : tx L i = kRegion
  · have hX := part_none (reg := reg) (s := s) (c := st) hl
    rw [if_pos h8] at hX
    rw [hX, partR, if_neg h1, if_neg h2, if_neg h3, if_neg h4, if_neg h5, if_neg h6, if_neg h7, if_pos h8]
    cases hs : reg st (i + 1) with
    | error y =>
      refine ⟨fun s' c j hh => absurd hh (by simp), fun f hh => ?_, fun hh => absurd hh (by simp)⟩
      injection hh with hh; subst hh; exact h.err _ _ _ hs
    | ok p =>
      obtain ⟨l, c, m⟩ := p
      simp only [h.ok _ st _ _ _ hs]
      refine ⟨fun s' c' j hh => ?_, fun f hh => absurd hh (by simp), fun hh => absurd hh (by simp)⟩
      injection hh with hh; injection hh with hh; injection hh with e1 hh; injection hh with e2 e3; subst e1; subst e2; subst e3
      rfl
  · have hX := part_none (reg := reg) (s := s) (c := st) hl
    rw [if_neg h8, if_neg h1, if_neg h2, if_neg h3, if_neg h4] at hX
    rw [hX, partR, if_neg h1, if_neg h2, if_neg h3, if_neg h4, if_neg h5, if_neg h6, if_neg h7, if_neg h8]
    exact ⟨fun s' c j hh => absurd hh (by simp), fun f hh => absurd hh (by simp), fun _ => rfl⟩
/-- where } stands no part stands -/
theorem part_shut (s : StF ρ) (c i : Nat) (h : tx L i = kShut) : part L ρ reg s c i = .ok none := by
  have hl : leadOf (tx L i) = none := by rw [h]; decide
  rw [part, hl]
  simp only
  rw [if_neg (by rw [h]; decide), if_neg (by rw [h]; decide), if_neg (by rw [h]; decide), if_neg (by rw [h]; decide), if_neg (by rw [h]; decide)]
theorem partsR_dead (n : Nat) (s : StF ρ) {σ : S} {f : F} (h : σ.bad = some f) : partsR L ρ R n s σ = (s, σ) := by
  cases n with
  | zero => rfl
  | succ n => rw [partsR, if_neg (by simp [h])]
theorem parts_sim (h : Sim3 reg R) : ∀ (n : Nat) (s : StF ρ), Sim3 (parts L ρ reg n s) (partsR L ρ R n s) := by
  intro n
  induction n with
  | zero =>
    intro s
    refine ⟨fun i st a c j hh => ?_, fun i st f hh => ?_, fun i st f => rfl⟩
    · rw [parts] at hh; injection hh with hh; injection hh with e1 hh; injection hh with e2 e3; subst e1; subst e2; subst e3; rfl
    · rw [parts] at hh; exact absurd hh (by simp)
  | succ n ih =>
    intro s
    refine ⟨fun i st a c j hh => ?_, fun i st f hh => ?_, fun i st f => by rw [partsR_dead _ _ rfl]⟩
    all_goals
      obtain ⟨p1, p2, p3⟩ := part_sim (L := L) h s i st
      rw [parts] at hh
      simp only [partsR, Option.isNone_none, ↓reduceIte]
      by_cases hs : tx L i = kShut
      · rw [part_shut s st i hs] at hh
        simp only at hh
        rw [if_pos hs] at hh ⊢
        first
          | (injection hh with hh; injection hh with e1 hh; injection hh with e2 e3; subst e1; subst e2; subst e3; rfl)
          | (cases hh; done)
      · rw [if_neg hs]
        cases hp : part L ρ reg s st i with
        | error y =>
          rw [hp] at hh
          first
            | (cases hh; done)
            | (injection hh with hh; subst hh; rw [partsR_dead _ _ (p2 _ hp)]; exact p2 _ hp)
        | ok o =>
          rw [hp] at hh
          cases o with
          | none =>
            simp only at hh
            rw [if_neg hs] at hh
            rw [p3 hp, partsR_dead _ _ rfl]
            first
              | (cases hh; done)
              | (injection hh with hh; subst hh; rfl)
          | some q =>
            obtain ⟨s', c', j'⟩ := q
            simp only at hh
            rw [p1 _ _ _ hp]
            first
              | exact (ih s').ok _ _ _ _ _ hh
              | exact (ih s').err _ _ _ hh
theorem head_ok {i st : Nat} (h : tx L (opt L kFinal (opt L kInitial i)) = kState) (hc : st < 24) : headR L ⟨i, st, none⟩ = ⟨opt L kFinal (opt L kInitial i) + 1, st + 1, none⟩ := by
  rw [headR, tk_opt, tk_opt, must_yes h, more, if_neg (by simp only; omega)]
theorem head_full {i st : Nat} (h : tx L (opt L kFinal (opt L kInitial i)) = kState) (hc : 24 ≤ st) : (headR L ⟨i, st, none⟩).bad = some (4, pl L (opt L kFinal (opt L kInitial i) + 1)) := by
  rw [headR, tk_opt, tk_opt, must_yes h, more, if_pos (by simp only; omega)]; rfl
theorem more_bad {σ : S} {f : F} (h : σ.bad = some f) : (more L σ).bad = some f := by
  rw [more]; split
  · exact fails_bad h
  · exact h
theorem head_no {i st : Nat} (h : tx L (opt L kFinal (opt L kInitial i)) ≠ kState) : (headR L ⟨i, st, none⟩).bad = some (3, pl L (opt L kFinal (opt L kInitial i))) := by
  rw [headR, tk_opt, tk_opt, must_no h]; exact more_bad rfl
theorem stateR_dead {σ : S} {f : F} (h : (headR L σ).bad = some f) : (stateR L ρ R σ).2.bad = some f := by
  have h1 := nameR_bad (L := L) h
  rw [stateR, if_neg (by rw [see_bad h1]; simp), partsR_dead _ _ (must_bad h1)]
  exact must_bad h1
theorem state_sim (h : Sim3 reg R) (i st : Nat) :
    (∀ a c j, state L ρ reg (decide (tx L i = kInitial)) (decide (tx L (opt L kInitial i) = kFinal)) st (opt L kFinal (opt L kInitial i)) = .ok (a, c, j) → stateR L ρ R ⟨i, st, none⟩ = (a, ⟨j, c, none⟩)) ∧
    (∀ f, state L ρ reg (decide (tx L i = kInitial)) (decide (tx L (opt L kInitial i) = kFinal)) st (opt L kFinal (opt L kInitial i)) = .error f → (stateR L ρ R ⟨i, st, none⟩).2.bad = some f) := by
  generalize hm : opt L kFinal (opt L kInitial i) = m
  rw [state]
  by_cases h1 : tx L m = kState
  · rw [if_pos h1]
    by_cases h2 : 24 ≤ st
    · rw [if_pos h2]
      refine ⟨fun a c j hh => absurd hh (by simp), fun f hh => ?_⟩
      injection hh with hh; subst hh; subst hm; exact stateR_dead (head_full h1 h2)
    · rw [if_neg h2]
      have hh0 : headR L ⟨i, st, none⟩ = ⟨m + 1, st + 1, none⟩ := by subst hm; exact head_ok h1 (by omega)
      cases hn : nm L (m + 1) with
      | error y =>
        refine ⟨fun a c j hh => absurd hh (by simp), fun f hh => ?_⟩
        injection hh with hh; subst hh
        have hb : (nameR L (headR L ⟨i, st, none⟩)).2.bad = some y := by rw [hh0, nameR_err hn]
        rw [stateR, if_neg (by rw [see_bad hb]; simp), partsR_dead _ _ (must_bad hb)]
        exact must_bad hb
      | ok s =>
        simp only
        rw [stateR, hh0, nameR_ok hn]
        simp only [see_ok, tk_opt]
        by_cases h3 : tx L (m + 2) = kSemi
        · rw [if_pos h3, if_pos (show decide (tx L (m + 1 + 1) = kSemi) = true from decide_eq_true h3)]
          refine ⟨fun a c j hh => ?_, fun f hh => absurd hh (by simp)⟩
          injection hh with hh; injection hh with e1 hh; injection hh with e2 e3; subst e1; subst e2; subst e3
          rw [show opt L kSemi (m + 1 + 1) = m + 3 from by rw [opt, if_pos h3]]
        · rw [if_neg h3, if_neg (show ¬ decide (tx L (m + 1 + 1) = kSemi) = true by simp; exact h3)]
          by_cases h4 : tx L (m + 2) = kOpen
          · rw [if_pos h4, must_yes (show tx L (m + 1 + 1) = kOpen from h4)]
            exact ⟨fun a c j hh => (parts_sim h _ _).ok _ _ _ _ _ hh, fun f hh => (parts_sim h _ _).err _ _ _ hh⟩
          · rw [if_neg h4, must_no (show tx L (m + 1 + 1) ≠ kOpen from h4), partsR_dead _ _ rfl]
            refine ⟨fun a c j hh => absurd hh (by simp), fun f hh => ?_⟩
            injection hh with hh; subst hh; rfl
  · rw [if_neg h1]
    refine ⟨fun a c j hh => absurd hh (by simp), fun f hh => ?_⟩
    injection hh with hh; subst hh; subst hm; exact stateR_dead (head_no h1)
theorem statesR_dead (n : Nat) (l : List (StF ρ)) {σ : S} {f : F} (h : σ.bad = some f) : statesR L ρ R n l σ = (l, σ) := by
  cases n with
  | zero => rfl
  | succ n => rw [statesR, if_neg (by simp [h])]
theorem states_sim (h : Sim3 reg R) : ∀ (n : Nat) (l : List (StF ρ)), Sim3 (states L ρ reg n l) (statesR L ρ R n l) := by
  intro n
  induction n with
  | zero =>
    intro l
    refine ⟨fun i st a c j hh => ?_, fun i st f hh => ?_, fun i st f => rfl⟩
    · rw [states] at hh; injection hh with hh; injection hh with e1 hh; injection hh with e2 e3; subst e1; subst e2; subst e3; rfl
    · rw [states] at hh; exact absurd hh (by simp)
  | succ n ih =>
    intro l
    refine ⟨fun i st a c j hh => ?_, fun i st f hh => ?_, fun i st f => by rw [statesR_dead _ _ rfl]⟩
    all_goals
      obtain ⟨p1, p2⟩ := state_sim (L := L) h i st
      rw [states] at hh
      simp only [statesR, Option.isNone_none, ↓reduceIte]
      by_cases hb : tx L i = kInitial ∨ tx L i = kFinal ∨ tx L i = kState
      · rw [if_pos hb] at hh
        rw [if_neg (show ¬ tx L i = kShut by rcases hb with e | e | e <;> (rw [e]; decide))]
        cases hs : state L ρ reg (decide (tx L i = kInitial)) (decide (tx L (opt L kInitial i) = kFinal)) st (opt L kFinal (opt L kInitial i)) with
        | error y =>
          rw [hs] at hh
          first
            | (cases hh; done)
            | (injection hh with hh; subst hh; rw [statesR_dead _ _ (p2 _ hs)]; exact p2 _ hs)
        | ok q =>
          obtain ⟨s', c', j'⟩ := q
          rw [hs] at hh
          simp only at hh
          rw [p1 _ _ _ hs]
          first
            | exact (ih _).ok _ _ _ _ _ hh
            | exact (ih _).err _ _ _ hh
      · rw [if_neg hb] at hh
        have n1 : tx L i ≠ kInitial := fun e => hb (.inl e)
        have n2 : tx L i ≠ kFinal := fun e => hb (.inr (.inl e))
        have n3 : tx L i ≠ kState := fun e => hb (.inr (.inr e))
        have o1 : opt L kInitial i = i := by rw [opt, if_neg n1]
        have o2 : opt L kFinal (opt L kInitial i) = i := by rw [o1, opt, if_neg n2]
        by_cases hs : tx L i = kShut
        · rw [if_pos hs] at hh ⊢
          first
            | (injection hh with hh; injection hh with e1 hh; injection hh with e2 e3; subst e1; subst e2; subst e3; rfl)
            | (cases hh; done)
        · rw [if_neg hs] at hh ⊢
          first
            | (cases hh; done)
            | (injection hh with hh; subst hh
               have hd : (stateR L ρ R ⟨i, st, none⟩).2.bad = some (3, pl L i) := by
                 have := stateR_dead (ρ := ρ) (R := R) (head_no (L := L) (i := i) (st := st) (by rw [o2]; exact n3))
                 rw [o2] at this; exact this
               rw [statesR_dead _ _ hd]; exact hd)
end
theorem region_sim : ∀ k : Nat, Sim3 (region L k) (regionR L k) := by
  intro k
  induction k with
  | zero =>
    refine ⟨fun i st a c j hh => ?_, fun i st f hh => ?_, fun i st f => rfl⟩
    · rw [region] at hh; exact absurd hh (by simp)
    · rw [region] at hh; injection hh with hh; subst hh; rfl
  | succ k ih =>
    have hs := states_sim (L := L) ih L.length []
    refine ⟨fun i st a c j hh => ?_, fun i st f hh => ?_, fun i st f => ?_⟩
    · have hh' : (if tx L i = kOpen then states L (St k) (region L k) L.length [] st (i + 1) else .error (3, pl L i)) = .ok (a, c, j) := hh
      show statesR L (St k) (regionR L k) L.length [] (must L ⟨i, st, none⟩ kOpen) = _
      by_cases ho : tx L i = kOpen
      · rw [if_pos ho] at hh'; rw [must_yes ho]; exact hs.ok _ _ _ _ _ hh'
      · rw [if_neg ho] at hh'; exact absurd hh' (by simp)
    · have hh' : (if tx L i = kOpen then states L (St k) (region L k) L.length [] st (i + 1) else .error (3, pl L i)) = .error f := hh
      show (statesR L (St k) (regionR L k) L.length [] (must L ⟨i, st, none⟩ kOpen)).2.bad = _
      by_cases ho : tx L i = kOpen
      · rw [if_pos ho] at hh'; rw [must_yes ho]; exact hs.err _ _ _ hh'
      · rw [if_neg ho] at hh'; injection hh' with hh'; subst hh'; rw [must_no ho, statesR_dead _ _ rfl]
    · show (statesR L (St k) (regionR L k) L.length [] (must L ⟨i, st, some f⟩ kOpen)).2.bad = _
      rw [must_dead, statesR_dead _ _ rfl]
theorem first_sim : Sim (first L) (firstR L) := by
  refine ⟨fun i st a j h => ?_, fun i st f h => ?_, fun i st f => ?_⟩
  · rw [first] at h
    by_cases h1 : tx L i = kColEq
    · rw [if_pos h1] at h
      rw [firstR, if_pos (by rw [see_ok]; exact decide_eq_true h1), tk_yes h1]
      by_cases h2 : tx L (i + 1) = kMinus
      · rw [if_pos h2] at h
        rw [if_pos (by rw [see_ok]; exact decide_eq_true h2), tk_yes h2]
        cases hn : number L (i + 2) with
        | error y => rw [hn] at h; exact absurd h (by simp)
        | ok n => rw [hn] at h; injection h with h; injection h with e1 e2; subst e1; subst e2; rw [numberR_ok hn]
      · rw [if_neg h2] at h
        rw [if_neg (by rw [see_ok]; simp [h2])]
        cases hn : number L (i + 1) with
        | error y => rw [hn] at h; exact absurd h (by simp)
        | ok n => rw [hn] at h; injection h with h; injection h with e1 e2; subst e1; subst e2; rw [numberR_ok hn]
    · rw [if_neg h1] at h; injection h with h; injection h with e1 e2; subst e1; subst e2
      rw [firstR, if_neg (by rw [see_ok]; simp [h1])]
  · rw [first] at h
    by_cases h1 : tx L i = kColEq
    · rw [if_pos h1] at h
      rw [firstR, if_pos (by rw [see_ok]; exact decide_eq_true h1), tk_yes h1]
      by_cases h2 : tx L (i + 1) = kMinus
      · rw [if_pos h2] at h
        rw [if_pos (by rw [see_ok]; exact decide_eq_true h2), tk_yes h2]
        cases hn : number L (i + 2) with
        | error y => rw [hn] at h; injection h with h; subst h; rw [numberR_err hn]
        | ok n => rw [hn] at h; exact absurd h (by simp)
      · rw [if_neg h2] at h
        rw [if_neg (by rw [see_ok]; simp [h2])]
        cases hn : number L (i + 1) with
        | error y => rw [hn] at h; injection h with h; subst h; rw [numberR_err hn]
        | ok n => rw [hn] at h; exact absurd h (by simp)
    · rw [if_neg h1] at h; exact absurd h (by simp)
  · rw [firstR, if_neg (by simp)]
theorem variableR_bad (n kind : Nat) {σ : S} {f : F} (h : σ.bad = some f) : (variableR L n kind σ).2.bad = some f := by
  have : (if n = 20 then fails L σ 4 else σ).bad = some f := by
    split
    · exact fails_bad h
    · exact h
  exact must_bad (first_sim.bad (nameR_bad this))
theorem variable_sim (n kind : Nat) (hn : n ≠ 20) : Sim (variable_ L kind) (variableR L n kind) := by
  refine ⟨fun i st a j h => ?_, fun i st f h => ?_, fun i st f => variableR_bad n kind rfl⟩
  · rw [variable_] at h
    rw [variableR, if_neg hn]
    cases hm : nm L i with
    | error y => rw [hm] at h; exact absurd h (by simp)
    | ok s =>
      rw [hm] at h; simp only at h
      rw [nameR_ok hm]; simp only
      cases hf : first L (i + 1) with
      | error y => rw [hf] at h; exact absurd h (by simp)
      | ok p =>
        obtain ⟨x, m⟩ := p
        rw [hf] at h; simp only at h
        rw [first_sim.ok _ st _ _ hf]; simp only
        by_cases h1 : tx L m = kSemi
        · rw [if_pos h1] at h; injection h with h; injection h with e1 e2; subst e1; subst e2; rw [must_yes h1]
        · rw [if_neg h1] at h; exact absurd h (by simp)
  · rw [variable_] at h
    rw [variableR, if_neg hn]
    cases hm : nm L i with
    | error y => rw [hm] at h; injection h with h; subst h; exact must_bad (first_sim.bad (by rw [nameR_err hm]))
    | ok s =>
      rw [hm] at h; simp only at h
      rw [nameR_ok hm]; simp only
      cases hf : first L (i + 1) with
      | error y => rw [hf] at h; injection h with h; subst h; exact must_bad (first_sim.err _ _ _ hf)
      | ok p =>
        obtain ⟨x, m⟩ := p
        rw [hf] at h; simp only at h
        rw [first_sim.ok _ st _ _ hf]; simp only
        by_cases h1 : tx L m = kSemi
        · rw [if_pos h1] at h; exact absurd h (by simp)
        · rw [if_neg h1] at h; injection h with h; subst h; rw [must_no h1]
theorem variable_full (kind : Nat) (i st : Nat) : (variableR L 20 kind ⟨i, st, none⟩).2.bad = some (4, pl L i) := by
  rw [variableR, if_pos rfl]; exact must_bad (first_sim.bad (nameR_bad rfl))
theorem itemsR_dead (n : Nat) (vs : List Decl) (rs : List (List (St 6))) {σ : S} {f : F} (h : σ.bad = some f) : itemsR L n vs rs σ = ((vs, rs), σ) := by
  cases n with
  | zero => rfl
  | succ n => rw [itemsR, if_neg (by simp [h])]
theorem items_sim : ∀ (n : Nat) (vs : List Decl) (rs : List (List (St 6))) (i st : Nat), vs.length ≤ 20 →
    (∀ vs' rs' j, items L n vs rs st i = .ok (vs', rs', j) → ∃ c, itemsR L n vs rs ⟨i, st, none⟩ = ((vs', rs'), ⟨j, c, none⟩)) ∧
    (∀ f, items L n vs rs st i = .error f → (itemsR L n vs rs ⟨i, st, none⟩).2.bad = some f) := by
  intro n
  induction n with
  | zero =>
    intro vs rs i st hv
    refine ⟨fun vs' rs' j hh => ?_, fun f hh => ?_⟩
    · rw [items] at hh; injection hh with hh; injection hh with e1 hh; injection hh with e2 e3; subst e1; subst e2; subst e3; exact ⟨st, rfl⟩
    · rw [items] at hh; exact absurd hh (by simp)
  | succ n ih =>
    intro vs rs i st hv
    rw [items]
    simp only [itemsR, Option.isNone_none, ↓reduceIte]
    by_cases hk : kindOf (tx L i) ≠ 0
    · have hs : tx L i ≠ kShut := fun e => hk (by rw [e]; decide)
      rw [if_pos hk, if_neg hs, if_pos hk]
      by_cases h20 : 20 ≤ vs.length
      · rw [if_pos h20]
        refine ⟨fun vs' rs' j hh => absurd hh (by simp), fun f hh => ?_⟩
        injection hh with hh; subst hh
        have hd := variable_full (L := L) (kindOf (tx L i)) (i + 1) st
        rw [show vs.length = 20 by omega, itemsR_dead _ _ _ hd]; exact hd
      · rw [if_neg h20]
        have vsim := variable_sim (L := L) vs.length (kindOf (tx L i)) (by omega)
        cases hv : variable_ L (kindOf (tx L i)) (i + 1) with
        | error y =>
          refine ⟨fun vs' rs' j hh => absurd hh (by simp), fun f hh => ?_⟩
          injection hh with hh; subst hh
          have hd := vsim.err _ st _ hv
          rw [itemsR_dead _ _ _ hd]; exact hd
        | ok p =>
          obtain ⟨v, j1⟩ := p
          simp only [vsim.ok _ st _ _ hv]
          exact ih _ _ _ _ (by simp; omega)
    · rw [if_neg hk, if_neg hk]
      by_cases hr : tx L i = kRegion
      · have hs : tx L i ≠ kShut := fun e => by rw [e] at hr; exact absurd hr (by decide)
        rw [if_pos hr, if_neg hs, if_pos hr]
        cases hw : region L 6 st (i + 1) with
        | error y =>
          refine ⟨fun vs' rs' j hh => absurd hh (by simp), fun f hh => ?_⟩
          injection hh with hh; subst hh
          have hd := (region_sim 6).err _ st _ hw
          rw [itemsR_dead _ _ _ hd]; exact hd
        | ok p =>
          obtain ⟨v, c1, j1⟩ := p
          simp only [(region_sim 6).ok _ st _ _ _ hw]
          exact ih _ _ _ _ hv
      · rw [if_neg hr, if_neg hr]
        by_cases hs : tx L i = kShut
        · rw [if_pos hs, if_pos hs]
          refine ⟨fun vs' rs' j hh => ?_, fun f hh => absurd hh (by simp)⟩
          injection hh with hh; injection hh with e1 hh; injection hh with e2 e3; subst e1; subst e2; subst e3; exact ⟨st, rfl⟩
        · rw [if_neg hs, if_neg hs]
          refine ⟨fun vs' rs' j hh => absurd hh (by simp), fun f hh => ?_⟩
          injection hh with hh; subst hh
          rw [itemsR_dead (f := (3, pl L i)) _ _ _ rfl]; rfl
theorem chart_ok {c : Chart} (h : chart L = .ok c) : chartR L = ((c.name, c.vars, c.regions), (chartR L).2) ∧ (chartR L).2.bad = none := by
  rw [chart] at h
  by_cases h1 : tx L 0 = kChart
  · rw [if_pos h1] at h
    cases hn : nm L 1 with
    | error y => rw [hn] at h; exact absurd h (by simp)
    | ok s =>
      rw [hn] at h; simp only at h
      by_cases h2 : tx L 2 = kOpen
      · rw [if_pos h2] at h
        cases hi : items L L.length [] [] 0 3 with
        | error y => rw [hi] at h; exact absurd h (by simp)
        | ok p =>
          obtain ⟨vs, rs, i⟩ := p
          rw [hi] at h; simp only at h
          obtain ⟨c1, hc⟩ := (items_sim (L := L) L.length [] [] 3 0 (by simp)).1 _ _ _ hi
          by_cases h3 : kd L i = 4
          · rw [if_pos h3] at h; injection h with h; subst h
            have ho : openR L = (s, ⟨3, 0, none⟩) := by rw [openR, must_yes h1, nameR_ok hn]; simp only; rw [must_yes (show tx L (0 + 1 + 1) = kOpen from h2)]
            rw [chartR, ho]; simp only; rw [hc]; simp only
            rw [endR, if_neg (by simp only; exact fun e => e h3)]
            simp
          · rw [if_neg h3] at h; exact absurd h (by simp)
      · rw [if_neg h2] at h; exact absurd h (by simp)
  · rw [if_neg h1] at h; exact absurd h (by simp)
theorem endR_bad {σ : S} {f : F} (h : σ.bad = some f) : (endR L σ).bad = some f := by
  rw [endR]; split
  · exact fails_bad h
  · exact h
theorem chart_err {f : F} (h : chart L = .error f) : (chartR L).2.bad = some f := by
  have dead : (openR L).2.bad = some f → (chartR L).2.bad = some f := fun hd => by
    rw [chartR]; simp only; rw [itemsR_dead _ _ _ hd]; exact endR_bad hd
  rw [chart] at h
  by_cases h1 : tx L 0 = kChart
  · rw [if_pos h1] at h
    cases hn : nm L 1 with
    | error y => rw [hn] at h; injection h with h; subst h; refine dead (must_bad ?_); rw [must_yes h1, nameR_err hn]
    | ok s =>
      rw [hn] at h; simp only at h
      by_cases h2 : tx L 2 = kOpen
      · rw [if_pos h2] at h
        have ho : openR L = (s, ⟨3, 0, none⟩) := by rw [openR, must_yes h1, nameR_ok hn]; simp only; rw [must_yes (show tx L (0 + 1 + 1) = kOpen from h2)]
        cases hi : items L L.length [] [] 0 3 with
        | error y =>
          rw [hi] at h; injection h with h; subst h
          rw [chartR, ho]; exact endR_bad ((items_sim (L := L) L.length [] [] 3 0 (by simp)).2 _ hi)
        | ok p =>
          obtain ⟨vs, rs, i⟩ := p
          rw [hi] at h; simp only at h
          obtain ⟨c1, hc⟩ := (items_sim (L := L) L.length [] [] 3 0 (by simp)).1 _ _ _ hi
          by_cases h3 : kd L i = 4
          · rw [if_pos h3] at h; exact absurd h (by simp)
          · rw [if_neg h3] at h; injection h with h; subst h
            rw [chartR, ho]; simp only; rw [hc]; simp only
            rw [endR, if_pos (by simp only; exact h3)]; rfl
      · rw [if_neg h2] at h; injection h with h; subst h; refine dead ?_
        rw [openR, must_yes h1, nameR_ok hn]; simp only; rw [must_no (show tx L (0 + 1 + 1) ≠ kOpen from h2)]
  · rw [if_neg h1] at h; injection h with h; subst h
    refine dead (must_bad (nameR_bad ?_)); rw [must_no h1]
end
end Px
end Go.Proofs.YtpbfmfhjgghldaaDoor
/- The document's own reader: ok, fails, see, take, must. -/
namespace Go.Proofs.YtpbfmfhjgghldaaDoor
open Go.RowKit Px

def errV : Option F → Value
  | none => .int .i64 0
  | some f => .int .i64 f.1
def plV : Option F → Value
  | none => .int .i64 (-1)
  | some f => .int .i64 f.2
theorem cells4 {w : World} {b : Nat} {a0 a1 a2 a3 : Value} {t : TypeId} (h : w.heap[b]? = some (.cells #[a0, a1, a2, a3] t (0, 0))) :
    w.cell? ⟨b, 0, none⟩ = some a0 ∧ w.cell? ⟨b, 1, none⟩ = some a1 ∧ w.cell? ⟨b, 2, none⟩ = some a2 ∧ w.cell? ⟨b, 3, none⟩ = some a3 ∧ ∀ o, w.frozen? ⟨b, o, none⟩ = false := by
  refine ⟨?_, ?_, ?_, ?_, fun o => by simp [World.frozen?, h]⟩ <;> (rw [cell_of_row _ _ _ _ _ _ h]; rfl)
section
variable {C : Ctx} {w : World} {σ : S}
end
end Go.Proofs.YtpbfmfhjgghldaaDoor
/- strconv.ParseInt at this program: laid, no walk. -/
namespace Go.Proofs
open Go.Shelf
def Tryd.laysC174_ren : Go.Shelf.Ren := ⟨fun | 174 => 52 | 247 => 62 | 245 => 63 | 287 => 79 | 279 => 80 | 280 => 81 | 281 => 82 | 282 => 83 | 321 => 89 | 322 => 90 | 316 => 42 | 171 => 78 | 205 => 91 | 243 => 88 | 246 => 47 | 283 => 55 | 284 => 56 | 285 => 57 | 286 => 58 | 129 => 69 | 317 => 68 | 318 => 70 | 319 => 71 | 320 => 72 | 337 => 86 | 338 => 87 | n => n, fun | 9 => 9 | 3 => 3 | 2 => 2 | 75 => 28 | 85 => 91 | 4 => 4 | 167 => 125 | 5 => 5 | 53 => 95 | 175 => 126 | 46 => 117 | 168 => 128 | 37 => 44 | 0 => 0 | 210 => 144 | 21 => 21 | 127 => 90 | 145 => 150 | 143 => 148 | 171 => 94 | 173 => 98 | 212 => 113 | 51 => 114 | 20 => 20 | 213 => 115 | 232 => 146 | 233 => 147 | 80 => 69 | n => n, fun | 15 => 7 | 16 => 8 | 17 => 3 | 18 => 9 | 19 => 10 | n => n⟩
theorem Tryd.laysC174 : Go.Proofs.LaysC.n174 Tryd.prog Tryd.laysC174_ren := {
  mixed := by kernel_rfl
  f129 := Tryd.func69.trans (congrArg some (by kernel_rfl))
  f171 := Tryd.func78.trans (congrArg some (by kernel_rfl))
  f174 := Tryd.func52.trans (congrArg some (by kernel_rfl))
  f205 := Tryd.func91.trans (congrArg some (by kernel_rfl))
  f243 := Tryd.func88.trans (congrArg some (by kernel_rfl))
  f245 := Tryd.func63.trans (congrArg some (by kernel_rfl))
  f246 := Tryd.func47.trans (congrArg some (by kernel_rfl))
  f247 := Tryd.func62.trans (congrArg some (by kernel_rfl))
  f279 := Tryd.func80.trans (congrArg some (by kernel_rfl))
  f280 := Tryd.func81.trans (congrArg some (by kernel_rfl))
  f281 := Tryd.func82.trans (congrArg some (by kernel_rfl))
  f282 := Tryd.func83.trans (congrArg some (by kernel_rfl))
  f283 := Tryd.func55.trans (congrArg some (by kernel_rfl))
  f284 := Tryd.func56.trans (congrArg some (by kernel_rfl))
  f285 := Tryd.func57.trans (congrArg some (by kernel_rfl))
  f286 := Tryd.func58.trans (congrArg some (by kernel_rfl))
  f287 := Tryd.func79.trans (congrArg some (by kernel_rfl))
  f316 := Tryd.func42.trans (congrArg some (by kernel_rfl))
  f317 := Tryd.func68.trans (congrArg some (by kernel_rfl))
  f318 := Tryd.func70.trans (congrArg some (by kernel_rfl))
  f319 := Tryd.func71.trans (congrArg some (by kernel_rfl))
  f320 := Tryd.func72.trans (congrArg some (by kernel_rfl))
  f321 := Tryd.func89.trans (congrArg some (by kernel_rfl))
  f322 := Tryd.func90.trans (congrArg some (by kernel_rfl))
  f337 := Tryd.func86.trans (congrArg some (by kernel_rfl))
  f338 := Tryd.func87.trans (congrArg some (by kernel_rfl))
  t0 := Tryd.underlying0
  a0 := Tryd.isAgg0
  z0 := Tryd.sizeOf0
  v0 := Tryd.zeroValue0
  t2 := Tryd.underlying2
  a2 := Tryd.isAgg2
  z2 := Tryd.sizeOf2
  v2 := Tryd.zeroValue2
  t3 := Tryd.underlying3
  a3 := Tryd.isAgg3
  z3 := Tryd.sizeOf3
  v3 := Tryd.zeroValue3
  t4 := Tryd.underlying4
  a4 := Tryd.isAgg4
  z4 := Tryd.sizeOf4
  v4 := Tryd.zeroValue4
  t5 := Tryd.underlying5
  a5 := Tryd.isAgg5
  z5 := Tryd.sizeOf5
  v5 := Tryd.zeroValue5
  t9 := Tryd.underlying9
  a9 := Tryd.isAgg9
  z9 := Tryd.sizeOf9
  v9 := Tryd.zeroValue9
  t20 := Tryd.underlying20
  a20 := Tryd.isAgg20
  z20 := Tryd.sizeOf20
  v20 := Tryd.zeroValue20
  t21 := Tryd.underlying21
  a21 := Tryd.isAgg21
  z21 := Tryd.sizeOf21
  v21 := Tryd.zeroValue21
  t37 := Tryd.underlying44
  a37 := Tryd.isAgg44
  z37 := Tryd.sizeOf44
  v37 := Tryd.zeroValue44
  t46 := Tryd.underlying117
  a46 := Tryd.isAgg117
  z46 := Tryd.sizeOf117
  v46 := Tryd.zeroValue117
  t51 := Tryd.underlying114
  a51 := Tryd.isAgg114
  z51 := Tryd.sizeOf114
  v51 := Tryd.zeroValue114
  t53 := Tryd.underlying95
  a53 := Tryd.isAgg95
  z53 := Tryd.sizeOf95
  v53 := Tryd.zeroValue95
  t75 := Tryd.underlying28
  a75 := Tryd.isAgg28
  z75 := Tryd.sizeOf28
  v75 := Tryd.zeroValue28
  t85 := Tryd.underlying91
  a85 := Tryd.isAgg91
  z85 := Tryd.sizeOf91
  v85 := Tryd.zeroValue91
  t127 := Tryd.underlying90
  a127 := Tryd.isAgg90
  z127 := Tryd.sizeOf90
  v127 := Tryd.zeroValue90
  t143 := Tryd.underlying148
  a143 := Tryd.isAgg148
  z143 := Tryd.sizeOf148
  v143 := Tryd.zeroValue148
  t145 := Tryd.underlying150
  a145 := Tryd.isAgg150
  z145 := Tryd.sizeOf150
  v145 := Tryd.zeroValue150
  t167 := Tryd.underlying125
  a167 := Tryd.isAgg125
  z167 := Tryd.sizeOf125
  v167 := Tryd.zeroValue125
  t168 := Tryd.underlying128
  a168 := Tryd.isAgg128
  z168 := Tryd.sizeOf128
  v168 := Tryd.zeroValue128
  t171 := Tryd.underlying94
  a171 := Tryd.isAgg94
  z171 := Tryd.sizeOf94
  v171 := Tryd.zeroValue94
  t173 := Tryd.underlying98
  a173 := Tryd.isAgg98
  z173 := Tryd.sizeOf98
  v173 := Tryd.zeroValue98
  t175 := Tryd.underlying126
  a175 := Tryd.isAgg126
  z175 := Tryd.sizeOf126
  v175 := Tryd.zeroValue126
  t210 := Tryd.underlying144
  a210 := Tryd.isAgg144
  z210 := Tryd.sizeOf144
  v210 := Tryd.zeroValue144
  t212 := Tryd.underlying113
  a212 := Tryd.isAgg113
  z212 := Tryd.sizeOf113
  v212 := Tryd.zeroValue113
  t213 := Tryd.underlying115
  a213 := Tryd.isAgg115
  z213 := Tryd.sizeOf115
  t232 := Tryd.underlying146
  a232 := Tryd.isAgg146
  z232 := Tryd.sizeOf146
  v232 := Tryd.zeroValue146
  t233 := Tryd.underlying147
  a233 := Tryd.isAgg147
  z233 := Tryd.sizeOf147
  v233 := Tryd.zeroValue147
  g15 := by kernel_rfl
  g16 := by kernel_rfl
  g17 := by kernel_rfl
  g18 := by kernel_rfl
  g19 := by kernel_rfl
  t80 := Tryd.underlying69
  a80 := Tryd.isAgg69
  z80 := Tryd.sizeOf69
  v80 := Tryd.zeroValue69
  i0 := by kernel_rfl
  i2 := by kernel_rfl
  i3 := by kernel_rfl
  i4 := by kernel_rfl
  i5 := by kernel_rfl
  i9 := by kernel_rfl
  i20 := by kernel_rfl
  i21 := by kernel_rfl
  i37 := by kernel_rfl
  i46 := by kernel_rfl
  i51 := by kernel_rfl
  i53 := by kernel_rfl
  i75 := by kernel_rfl
  i80 := by kernel_rfl
  i85 := by kernel_rfl
  i127 := by kernel_rfl
  i143 := by kernel_rfl
  i145 := by kernel_rfl
  i167 := by kernel_rfl
  i168 := by kernel_rfl
  i171 := by kernel_rfl
  i173 := by kernel_rfl
  i175 := by kernel_rfl
  i210 := by kernel_rfl
  i212 := by kernel_rfl
  i232 := by kernel_rfl
  i233 := by kernel_rfl
  m15 := by kernel_rfl
  m16 := by kernel_rfl
  m17 := by kernel_rfl
  m18 := by kernel_rfl
  m19 := by kernel_rfl
  c0 := by kernel_rfl
  c2 := by kernel_rfl
  c3 := by kernel_rfl
  c4 := by kernel_rfl
  c5 := by kernel_rfl
  c9 := by kernel_rfl
  c20 := by kernel_rfl
  c21 := by kernel_rfl
  c37 := by kernel_rfl
  c46 := by kernel_rfl
  c51 := by kernel_rfl
  c53 := by kernel_rfl
  c75 := by kernel_rfl
  c80 := by kernel_rfl
  c85 := by kernel_rfl
  c127 := by kernel_rfl
  c143 := by kernel_rfl
  c145 := by kernel_rfl
  c167 := by kernel_rfl
  c168 := by kernel_rfl
  c171 := by kernel_rfl
  c173 := by kernel_rfl
  c175 := by kernel_rfl
  c210 := by kernel_rfl
  c212 := by kernel_rfl
  c213 := by kernel_rfl
  c232 := by kernel_rfl
  c233 := by kernel_rfl }
open Go.RowKit in
theorem Tryd.strconv_ParseInt_10_at64_ok (s : ByteArray) (hmax : s.size ≤ 9223372036854775806) (v : Int) (h : Lib.parseIntB 64 s.data.toList = .ok v) (w : World) :
    Calls Tryd.prog 52 #[.string s, .int .i64 10, .int .i64 64] w fun e w' => e = .returned (.tuple #[.int .i64 v, .nilIface]) ∧ (w' = w ∨ ∃ t, w' = Lib.bytesWorld w 5 t) := Any.strconv_ParseInt_10_at64_ok Tryd.laysC174 s hmax v h w
end Go.Proofs
