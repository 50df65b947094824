/- Plain mathematics: the document's own reader of charts, as functions of where it stands and of what was wrong first; each comes to what the grammar (Draw) says. -/
import Derived.Test.YtobamalnbjbmiaaGreatDoorQDraw
namespace Go.Proofs.YtobamalnbjbmiaaGreatDoor
namespace Px
open Go.Deep (BT)

/-- where the reader stands, how many states there are, what was wrong first -/
structure S where
  i : Nat
  st : Nat
  bad : Option F
section
variable (L : List Lx.Tok)
def fails (σ : S) (e : Nat) : S := match σ.bad with
  | none => ⟨σ.i, σ.st, some (e, pl L σ.i)⟩
  | some f => ⟨σ.i, σ.st, some f⟩
def see (σ : S) (s : Str) : Bool := σ.bad.isNone && decide (tx L σ.i = s)
def tk (σ : S) (s : Str) : S := if see L σ s = true then ⟨σ.i + 1, σ.st, σ.bad⟩ else σ
def must (σ : S) (s : Str) : S := if see L σ s = true then ⟨σ.i + 1, σ.st, σ.bad⟩ else fails L σ 3
def nameR (σ : S) : Str × S := match σ.bad with
  | some _ => ([], σ)
  | none => match nm L σ.i with
    | .ok s => (s, ⟨σ.i + 1, σ.st, none⟩)
    | .error f => ([], ⟨σ.i, σ.st, some f⟩)
def numberR (σ : S) : Nat × S := match σ.bad with
  | some _ => (0, σ)
  | none => match number L σ.i with
    | .ok n => (n, ⟨σ.i + 1, σ.st, none⟩)
    | .error f => (0, ⟨σ.i, σ.st, some f⟩)
def chainR (below : S → E × S) (code : Str → Nat) : Nat → E → S → E × S
  | 0, e, σ => (e, σ)
  | f + 1, e, σ =>
    if σ.bad.isNone = true ∧ code (tx L σ.i) ≠ 0 then
      chainR below code f (eTwo (code (tx L σ.i)) e (below ⟨σ.i + 1, σ.st, σ.bad⟩).1) (below ⟨σ.i + 1, σ.st, σ.bad⟩).2
    else (e, σ)
def levR (one : S → E × S) : Nat → S → E × S
  | 0, σ => one σ
  | t + 1, σ => chainR L (levR one t) (codeAt (4 - t)) L.length (levR one t σ).1 (levR one t σ).2
def oneR : Nat → S → E × S
  | 0, σ => (.nil, fails L σ 4)
  | k + 1, σ =>
    if σ.bad.isNone = true then
      if codeAhead (tx L σ.i) ≠ 0 then (eOne (codeAhead (tx L σ.i)) (oneR k ⟨σ.i + 1, σ.st, σ.bad⟩).1, (oneR k ⟨σ.i + 1, σ.st, σ.bad⟩).2)
      else if tx L σ.i = kPar then ((levR L (oneR k) 5 ⟨σ.i + 1, σ.st, σ.bad⟩).1, must L (levR L (oneR k) 5 ⟨σ.i + 1, σ.st, σ.bad⟩).2 kRap)
      else if tx L σ.i = kPre then (eName 3 (nameR L (must L ⟨σ.i + 1, σ.st, σ.bad⟩ kPar)).1, must L (nameR L (must L ⟨σ.i + 1, σ.st, σ.bad⟩ kPar)).2 kRap)
      else if kd L σ.i = 2 then (eNum (numberR L σ).1, (numberR L σ).2)
      else (eName 2 (nameR L σ).1, (nameR L σ).2)
    else (.nil, σ)
def exprR (k : Nat) (σ : S) : E × S := levR L (oneR L k) 5 σ
def setR (σ : S) : Asg × S := (⟨(nameR L σ).1, (exprR L 7 (must L (nameR L σ).2 kColEq)).1⟩, (exprR L 7 (must L (nameR L σ).2 kColEq)).2)
def setsR : Nat → List Asg → S → List Asg × S
  | 0, l, σ => (l, σ)
  | f + 1, l, σ => if see L (setR L σ).2 kComma = true then setsR f (l ++ [(setR L σ).1]) (tk L (setR L σ).2 kComma) else (l ++ [(setR L σ).1], (setR L σ).2)
def timesR (σ : S) : Nat × S :=
  if (numberR L σ).2.bad.isNone = true ∧ ((numberR L σ).1 < 1 ∨ 1000 < (numberR L σ).1) then ((numberR L σ).1, ⟨(numberR L σ).2.i, (numberR L σ).2.st, some (4, pl L σ.i)⟩) else numberR L σ
/-- [if [count N] E] -/
def condR (σ : S) : Nat × E × S :=
  if see L σ kIf = true then
    if see L (tk L σ kIf) kCount = true then ((timesR L (tk L (tk L σ kIf) kCount)).1, (exprR L 7 (timesR L (tk L (tk L σ kIf) kCount)).2).1, (exprR L 7 (timesR L (tk L (tk L σ kIf) kCount)).2).2)
    else (1, (exprR L 7 (tk L σ kIf)).1, (exprR L 7 (tk L σ kIf)).2)
  else (1, .nil, σ)
def doesR (σ : S) : List Asg × S := if see L σ kDo = true then setsR L L.length [] (tk L σ kDo) else ([], σ)
def tailR (σ : S) : (Str × Bool) × S :=
  (((nameR L (must L σ kArrow)).1, see L (nameR L (must L σ kArrow)).2 kHist), must L (tk L (nameR L (must L σ kArrow)).2 kHist) kSemi)
def wayR (kind : Nat) (σ : S) : Wy × S :=
  (⟨kind, see L σ kImm, (condR L (tk L σ kImm)).2.1, (condR L (tk L σ kImm)).1, (doesR L (condR L (tk L σ kImm)).2.2).1, (tailR L (doesR L (condR L (tk L σ kImm)).2.2).2).1.1, (tailR L (doesR L (condR L (tk L σ kImm)).2.2).2).1.2⟩, (tailR L (doesR L (condR L (tk L σ kImm)).2.2).2).2)
section
variable (ρ : Type) (region : S → List ρ × S)
/-- one part of a state, where none is wrong and no } stands -/
def partR (s : StF ρ) (σ : S) : StF ρ × S :=
  if tx L σ.i = kEntry then ({ s with enter := s.enter ++ (setsR L L.length [] ⟨σ.i + 1, σ.st, σ.bad⟩).1 }, must L (setsR L L.length [] ⟨σ.i + 1, σ.st, σ.bad⟩).2 kSemi)
  else if tx L σ.i = kDuring then ({ s with during := s.during ++ (setsR L L.length [] ⟨σ.i + 1, σ.st, σ.bad⟩).1 }, must L (setsR L L.length [] ⟨σ.i + 1, σ.st, σ.bad⟩).2 kSemi)
  else if tx L σ.i = kExit then ({ s with leave := s.leave ++ (setsR L L.length [] ⟨σ.i + 1, σ.st, σ.bad⟩).1 }, must L (setsR L L.length [] ⟨σ.i + 1, σ.st, σ.bad⟩).2 kSemi)
  else if tx L σ.i = kSuspend then
    match s.rests with
    | .nil => ({ s with rests := (exprR L 7 ⟨σ.i + 1, σ.st, σ.bad⟩).1 }, must L (exprR L 7 ⟨σ.i + 1, σ.st, σ.bad⟩).2 kSemi)
    | .node _ _ _ _ _ => ({ s with rests := (exprR L 7 (fails L ⟨σ.i + 1, σ.st, σ.bad⟩ 9)).1 }, must L (exprR L 7 (fails L ⟨σ.i + 1, σ.st, σ.bad⟩ 9)).2 kSemi)
  else if tx L σ.i = kGo then ({ s with ways := s.ways ++ [(wayR L 0 ⟨σ.i + 1, σ.st, σ.bad⟩).1] }, (wayR L 0 ⟨σ.i + 1, σ.st, σ.bad⟩).2)
  else if tx L σ.i = kAbort then ({ s with ways := s.ways ++ [(wayR L 1 ⟨σ.i + 1, σ.st, σ.bad⟩).1] }, (wayR L 1 ⟨σ.i + 1, σ.st, σ.bad⟩).2)
  else if tx L σ.i = kJoin then ({ s with ways := s.ways ++ [(wayR L 2 ⟨σ.i + 1, σ.st, σ.bad⟩).1] }, (wayR L 2 ⟨σ.i + 1, σ.st, σ.bad⟩).2)
  else if tx L σ.i = kRegion then ({ s with regions := s.regions ++ [(region ⟨σ.i + 1, σ.st, σ.bad⟩).1] }, (region ⟨σ.i + 1, σ.st, σ.bad⟩).2)
  else (s, fails L σ 3)
def partsR : Nat → StF ρ → S → StF ρ × S
  | 0, s, σ => (s, σ)
  | f + 1, s, σ =>
    if σ.bad.isNone = true then
      if tx L σ.i = kShut then (s, ⟨σ.i + 1, σ.st, σ.bad⟩)
      else partsR f (partR L ρ region s σ).1 (partR L ρ region s σ).2
    else (s, σ)
/-- one state more; too many -/
def more (σ : S) : S := if 24 < σ.st + 1 then fails L ⟨σ.i, σ.st + 1, σ.bad⟩ 4 else ⟨σ.i, σ.st + 1, σ.bad⟩
def headR (σ : S) : S := more L (must L (tk L (tk L σ kInitial) kFinal) kState)
def stateR (σ : S) : StF ρ × S :=
  if see L (nameR L (headR L σ)).2 kSemi = true then (⟨(nameR L (headR L σ)).1, see L σ kInitial, see L (tk L σ kInitial) kFinal, [], [], [], .nil, [], []⟩, tk L (nameR L (headR L σ)).2 kSemi)
  else partsR L ρ region L.length ⟨(nameR L (headR L σ)).1, see L σ kInitial, see L (tk L σ kInitial) kFinal, [], [], [], .nil, [], []⟩ (must L (nameR L (headR L σ)).2 kOpen)
def statesR : Nat → List (StF ρ) → S → List (StF ρ) × S
  | 0, l, σ => (l, σ)
  | f + 1, l, σ =>
    if σ.bad.isNone = true then
      if tx L σ.i = kShut then (l, ⟨σ.i + 1, σ.st, σ.bad⟩)
      else statesR f (l ++ [(stateR L ρ region σ).1]) (stateR L ρ region σ).2
    else (l, σ)
end
def regionR : (k : Nat) → S → List (St k) × S
  | 0, σ => ([], must L (fails L σ 4) kOpen)
  | k + 1, σ => statesR L (St k) (regionR k) L.length [] (must L σ kOpen)
def firstR (σ : S) : Int × S :=
  if see L σ kColEq = true then
    if see L (tk L σ kColEq) kMinus = true then (-((numberR L (tk L (tk L σ kColEq) kMinus)).1 : Int), (numberR L (tk L (tk L σ kColEq) kMinus)).2)
    else (((numberR L (tk L σ kColEq)).1 : Int), (numberR L (tk L σ kColEq)).2)
  else (0, σ)
/-- a variable of that kind, behind the word for it, where there are so many -/
def variableR (n kind : Nat) (σ : S) : Decl × S :=
  (⟨kind, (nameR L (if n = 20 then fails L σ 4 else σ)).1, (firstR L (nameR L (if n = 20 then fails L σ 4 else σ)).2).1⟩, must L (firstR L (nameR L (if n = 20 then fails L σ 4 else σ)).2).2 kSemi)
def itemsR : Nat → List Decl → List (List (St 6)) → S → (List Decl × List (List (St 6))) × S
  | 0, vs, rs, σ => ((vs, rs), σ)
  | f + 1, vs, rs, σ =>
    if σ.bad.isNone = true then
      if tx L σ.i = kShut then ((vs, rs), ⟨σ.i + 1, σ.st, σ.bad⟩)
      else if kindOf (tx L σ.i) ≠ 0 then itemsR f (vs ++ [(variableR L vs.length (kindOf (tx L σ.i)) ⟨σ.i + 1, σ.st, σ.bad⟩).1]) rs (variableR L vs.length (kindOf (tx L σ.i)) ⟨σ.i + 1, σ.st, σ.bad⟩).2
      else if tx L σ.i = kRegion then itemsR f vs (rs ++ [(regionR L 6 ⟨σ.i + 1, σ.st, σ.bad⟩).1]) (regionR L 6 ⟨σ.i + 1, σ.st, σ.bad⟩).2
      else itemsR f vs rs (fails L σ 3)
    else ((vs, rs), σ)
def openR : Str × S := ((nameR L (must L ⟨0, 0, none⟩ kChart)).1, must L (nameR L (must L ⟨0, 0, none⟩ kChart)).2 kOpen)
def endR (σ : S) : S := if kd L σ.i ≠ 4 then fails L σ 3 else σ
def chartR : (Str × List Decl × List (List (St 6))) × S :=
  (((openR L).1, (itemsR L L.length [] [] (openR L).2).1.1, (itemsR L L.length [] [] (openR L).2).1.2), endR L (itemsR L L.length [] [] (openR L).2).2)
end

/-- what the reader comes to is what the grammar says -/
structure Sim {α : Type} (g : Nat → Except F (α × Nat)) (R : S → α × S) : Prop where
  ok : ∀ i st a j, g i = .ok (a, j) → R ⟨i, st, none⟩ = (a, ⟨j, st, none⟩)
  err : ∀ i st f, g i = .error f → (R ⟨i, st, none⟩).2.bad = some f
  dead : ∀ i st f, (R ⟨i, st, some f⟩).2.bad = some f
structure Sim3 {α : Type} (g : Nat → Nat → Except F (α × Nat × Nat)) (R : S → α × S) : Prop where
  ok : ∀ i st a c j, g st i = .ok (a, c, j) → R ⟨i, st, none⟩ = (a, ⟨j, c, none⟩)
  err : ∀ i st f, g st i = .error f → (R ⟨i, st, none⟩).2.bad = some f
  dead : ∀ i st f, (R ⟨i, st, some f⟩).2.bad = some f
section
variable {L : List Lx.Tok}
@[simp] theorem fails_dead (i st e : Nat) (f : F) : fails L ⟨i, st, some f⟩ e = ⟨i, st, some f⟩ := rfl
@[simp] theorem fails_ok (i st e : Nat) : fails L ⟨i, st, none⟩ e = ⟨i, st, some (e, pl L i)⟩ := rfl
@[simp] theorem see_dead (i st : Nat) (f : F) (s : Str) : see L ⟨i, st, some f⟩ s = false := rfl
theorem see_ok (i st : Nat) (s : Str) : see L ⟨i, st, none⟩ s = decide (tx L i = s) := by simp [see]
@[simp] theorem tk_dead (i st : Nat) (f : F) (s : Str) : tk L ⟨i, st, some f⟩ s = ⟨i, st, some f⟩ := rfl
@[simp] theorem must_dead (i st : Nat) (f : F) (s : Str) : must L ⟨i, st, some f⟩ s = ⟨i, st, some f⟩ := rfl
theorem tk_yes {i st : Nat} {s : Str} (h : tx L i = s) : tk L ⟨i, st, none⟩ s = ⟨i + 1, st, none⟩ := by simp [tk, see, h]
theorem tk_no {i st : Nat} {s : Str} (h : tx L i ≠ s) : tk L ⟨i, st, none⟩ s = ⟨i, st, none⟩ := by simp [tk, see, h]
theorem tk_opt (i st : Nat) (s : Str) : tk L ⟨i, st, none⟩ s = ⟨opt L s i, st, none⟩ := by
  by_cases h : tx L i = s
  · rw [tk_yes h, opt, if_pos h]
  · rw [tk_no h, opt, if_neg h]
theorem must_yes {i st : Nat} {s : Str} (h : tx L i = s) : must L ⟨i, st, none⟩ s = ⟨i + 1, st, none⟩ := by simp [must, see, h]
theorem must_no {i st : Nat} {s : Str} (h : tx L i ≠ s) : must L ⟨i, st, none⟩ s = ⟨i, st, some (3, pl L i)⟩ := by simp [must, see, h]
@[simp] theorem nameR_dead (i st : Nat) (f : F) : nameR L ⟨i, st, some f⟩ = ([], ⟨i, st, some f⟩) := rfl
theorem nameR_ok {i st : Nat} {s : Str} (h : nm L i = .ok s) : nameR L ⟨i, st, none⟩ = (s, ⟨i + 1, st, none⟩) := by simp [nameR, h]
theorem nameR_err {i st : Nat} {f : F} (h : nm L i = .error f) : nameR L ⟨i, st, none⟩ = ([], ⟨i, st, some f⟩) := by simp [nameR, h]
@[simp] theorem numberR_dead (i st : Nat) (f : F) : numberR L ⟨i, st, some f⟩ = (0, ⟨i, st, some f⟩) := rfl
theorem numberR_ok {i st n : Nat} (h : number L i = .ok n) : numberR L ⟨i, st, none⟩ = (n, ⟨i + 1, st, none⟩) := by simp [numberR, h]
theorem numberR_err {i st : Nat} {f : F} (h : number L i = .error f) : numberR L ⟨i, st, none⟩ = (0, ⟨i, st, some f⟩) := by simp [numberR, h]
/-- once bad, bad -/
theorem must_bad {σ : S} {f : F} {s : Str} (h : σ.bad = some f) : (must L σ s).bad = some f := by
  obtain ⟨i, st, b⟩ := σ; cases h; rfl
theorem tk_bad {σ : S} {f : F} {s : Str} (h : σ.bad = some f) : (tk L σ s).bad = some f := by
  obtain ⟨i, st, b⟩ := σ; cases h; rfl
theorem nameR_bad {σ : S} {f : F} (h : σ.bad = some f) : (nameR L σ).2.bad = some f := by
  obtain ⟨i, st, b⟩ := σ; cases h; rfl
theorem see_bad {σ : S} {f : F} {s : Str} (h : σ.bad = some f) : see L σ s = false := by
  obtain ⟨i, st, b⟩ := σ; cases h; rfl
theorem fails_bad {σ : S} {f : F} {e : Nat} (h : σ.bad = some f) : (fails L σ e).bad = some f := by
  obtain ⟨i, st, b⟩ := σ; cases h; rfl
theorem numberR_bad {σ : S} {f : F} (h : σ.bad = some f) : (numberR L σ).2.bad = some f := by
  obtain ⟨i, st, b⟩ := σ; cases h; rfl
theorem Sim.bad {α : Type} {g : Nat → Except F (α × Nat)} {R : S → α × S} (h : Sim g R) {σ : S} {f : F} (hb : σ.bad = some f) : (R σ).2.bad = some f := by
  obtain ⟨i, st, b⟩ := σ; cases hb; exact h.dead _ _ _
theorem Sim3.bad {α : Type} {g : Nat → Nat → Except F (α × Nat × Nat)} {R : S → α × S} (h : Sim3 g R) {σ : S} {f : F} (hb : σ.bad = some f) : (R σ).2.bad = some f := by
  obtain ⟨i, st, b⟩ := σ; cases hb; exact h.dead _ _ _

theorem chainR_dead {R : S → E × S} (code : Str → Nat) (f : Nat) (e : E) {σ : S} {x : F} (h : σ.bad = some x) : chainR L R code f e σ = (e, σ) := by
  cases f with
  | zero => rfl
  | succ f => rw [chainR, if_neg (by simp [h])]
theorem chainF_sim {below : Nat → Except F (E × Nat)} {R : S → E × S} (code : Str → Nat) (h : Sim below R) : ∀ f : Nat,
    (∀ e i st a j, chainF L below code f e i = .ok (a, j) → chainR L R code f e ⟨i, st, none⟩ = (a, ⟨j, st, none⟩)) ∧
    (∀ e i st x, chainF L below code f e i = .error x → (chainR L R code f e ⟨i, st, none⟩).2.bad = some x) := by
  intro f
  induction f with
  | zero =>
    refine ⟨fun e i st a j hh => ?_, fun e i st x hh => ?_⟩
    · rw [chainF] at hh; injection hh with hh; injection hh with h1 h2; subst h1; subst h2; rfl
    · rw [chainF] at hh; exact absurd hh (by simp)
  | succ f ih =>
    obtain ⟨ih1, ih2⟩ := ih
    refine ⟨fun e i st a j hh => ?_, fun e i st x hh => ?_⟩
    · rw [chainF] at hh
      by_cases hc : code (tx L i) = 0
      · rw [if_pos hc] at hh; injection hh with hh; injection hh with h1 h2; subst h1; subst h2
        rw [chainR, if_neg (by simp [hc])]
      · rw [if_neg hc] at hh
        rw [chainR, if_pos ⟨rfl, hc⟩]
        cases hb : below (i + 1) with
        | error y => rw [hb] at hh; exact absurd hh (by simp)
        | ok p =>
          obtain ⟨r, m⟩ := p
          rw [hb] at hh
          have := h.ok _ st _ _ hb
          simp only [this]
          exact ih1 _ _ _ _ _ hh
    · rw [chainF] at hh
      by_cases hc : code (tx L i) = 0
      · rw [if_pos hc] at hh; exact absurd hh (by simp)
      · rw [if_neg hc] at hh
        rw [chainR, if_pos ⟨rfl, hc⟩]
        cases hb : below (i + 1) with
        | error y =>
          rw [hb] at hh; injection hh with hh; subst hh
          have h2 := h.err _ st _ hb
          rw [chainR_dead code f _ h2]; exact h2
        | ok p =>
          obtain ⟨r, m⟩ := p
          rw [hb] at hh
          have := h.ok _ st _ _ hb
          simp only [this]
          exact ih2 _ _ _ _ hh
theorem chain_sim {below : Nat → Except F (E × Nat)} {R : S → E × S} (code : Str → Nat) (h : Sim below R) : Sim (chain L below code) (fun σ => chainR L R code L.length (R σ).1 (R σ).2) := by
  obtain ⟨h1, h2⟩ := chainF_sim (L := L) code h L.length
  refine ⟨fun i st a j hh => ?_, fun i st f hh => ?_, fun i st f => ?_⟩
  · rw [chain] at hh
    cases hb : below i with
    | error y => rw [hb] at hh; exact absurd hh (by simp)
    | ok p =>
      obtain ⟨r, m⟩ := p
      rw [hb] at hh
      simp only [h.ok _ st _ _ hb]
      exact h1 _ _ _ _ _ hh
  · rw [chain] at hh
    cases hb : below i with
    | error y =>
      rw [hb] at hh; injection hh with hh; subst hh
      have hd := h.err _ st _ hb
      rw [chainR_dead code _ _ hd]; exact hd
    | ok p =>
      obtain ⟨r, m⟩ := p
      rw [hb] at hh
      simp only [h.ok _ st _ _ hb]
      exact h2 _ _ _ _ hh
  · have hd := h.dead i st f
    rw [chainR_dead code _ _ hd]; exact hd
theorem lev_sim {one : Nat → Except F (E × Nat)} {R : S → E × S} (h : Sim one R) : ∀ t : Nat, Sim (lev L one t) (levR L R t) := by
  intro t
  induction t with
  | zero => exact h
  | succ t ih => exact chain_sim _ ih
theorem one_sim : ∀ k : Nat, Sim (one L k) (oneR L k) := by
  intro k
  induction k with
  | zero =>
    refine ⟨fun i st a j hh => ?_, fun i st f hh => ?_, fun i st f => rfl⟩
    · rw [one] at hh; exact absurd hh (by simp)
    · rw [one] at hh; injection hh with hh; subst hh; rfl
  | succ k ih =>
    have hl := lev_sim (L := L) ih 5
    refine ⟨fun i st a j hh => ?_, fun i st f hh => ?_, fun i st f => ?_⟩
    · rw [one] at hh
      simp only [oneR, Option.isNone_none, ↓reduceIte]
      by_cases h1 : codeAhead (tx L i) ≠ 0
      · rw [if_pos h1] at hh ⊢
        cases hb : one L k (i + 1) with
        | error y => rw [hb] at hh; exact absurd hh (by simp)
        | ok p =>
          obtain ⟨r, m⟩ := p
          rw [hb] at hh; injection hh with hh; injection hh with h1 h2; subst h1; subst h2
          rw [ih.ok _ st _ _ hb]
      · rw [if_neg h1] at hh ⊢
        by_cases h2 : tx L i = kPar
        · rw [if_pos h2] at hh ⊢
          cases hb : lev L (one L k) 5 (i + 1) with
          | error y => rw [hb] at hh; exact absurd hh (by simp)
          | ok p =>
            obtain ⟨r, m⟩ := p
            rw [hb] at hh; simp only at hh
            rw [hl.ok _ st _ _ hb]
            by_cases h3 : tx L m = kRap
            · rw [if_pos h3] at hh; injection hh with hh; injection hh with h1 h2; subst h1; subst h2
              simp only; rw [must_yes h3]
            · rw [if_neg h3] at hh; exact absurd hh (by simp)
        · rw [if_neg h2] at hh ⊢
          by_cases h3 : tx L i = kPre
          · rw [if_pos h3] at hh ⊢
            by_cases h4 : tx L (i + 1) = kPar
            · rw [if_pos h4] at hh
              cases hb : nm L (i + 2) with
              | error y => rw [hb] at hh; exact absurd hh (by simp)
              | ok s =>
                rw [hb] at hh; simp only at hh
                by_cases h5 : tx L (i + 3) = kRap
                · rw [if_pos h5] at hh; injection hh with hh; injection hh with h1 h2; subst h1; subst h2
                  rw [must_yes h4, nameR_ok hb]; simp only; rw [must_yes h5]
                · rw [if_neg h5] at hh; exact absurd hh (by simp)
            · rw [if_neg h4] at hh; exact absurd hh (by simp)
          · rw [if_neg h3] at hh ⊢
            by_cases h4 : kd L i = 2
            · rw [if_pos h4] at hh ⊢; injection hh with hh; injection hh with h1 h2; subst h1; subst h2
              rw [numberR_ok (n := val (tx L i)) (by rw [number, if_pos h4])]
            · rw [if_neg h4] at hh ⊢
              cases hb : nm L i with
              | error y => rw [hb] at hh; exact absurd hh (by simp)
              | ok s =>
                rw [hb] at hh; injection hh with hh; injection hh with h1 h2; subst h1; subst h2
                rw [nameR_ok hb]
    · rw [one] at hh
      simp only [oneR, Option.isNone_none, ↓reduceIte]
      by_cases h1 : codeAhead (tx L i) ≠ 0
      · rw [if_pos h1] at hh ⊢
        cases hb : one L k (i + 1) with
        | error y => rw [hb] at hh; injection hh with hh; subst hh; exact ih.err _ _ _ hb
        | ok p => rw [hb] at hh; exact absurd hh (by simp)
      · rw [if_neg h1] at hh ⊢
        by_cases h2 : tx L i = kPar
        · rw [if_pos h2] at hh ⊢
          cases hb : lev L (one L k) 5 (i + 1) with
          | error y => rw [hb] at hh; injection hh with hh; subst hh; exact must_bad (hl.err _ _ _ hb)
          | ok p =>
            obtain ⟨r, m⟩ := p
            rw [hb] at hh; simp only at hh
            rw [hl.ok _ st _ _ hb]
            by_cases h3 : tx L m = kRap
            · rw [if_pos h3] at hh; exact absurd hh (by simp)
            · rw [if_neg h3] at hh; injection hh with hh; subst hh; simp only; rw [must_no h3]
        · rw [if_neg h2] at hh ⊢
          by_cases h3 : tx L i = kPre
          · rw [if_pos h3] at hh ⊢
            by_cases h4 : tx L (i + 1) = kPar
            · rw [if_pos h4] at hh
              cases hb : nm L (i + 2) with
              | error y => rw [hb] at hh; injection hh with hh; subst hh; rw [must_yes h4, nameR_err hb]; rfl
              | ok s =>
                rw [hb] at hh; simp only at hh
                by_cases h5 : tx L (i + 3) = kRap
                · rw [if_pos h5] at hh; exact absurd hh (by simp)
                · rw [if_neg h5] at hh; injection hh with hh; subst hh
                  rw [must_yes h4, nameR_ok hb]; simp only; rw [must_no h5]
            · rw [if_neg h4] at hh; injection hh with hh; subst hh; rw [must_no h4]; rfl
          · rw [if_neg h3] at hh ⊢
            by_cases h4 : kd L i = 2
            · rw [if_pos h4] at hh; exact absurd hh (by simp)
            · rw [if_neg h4] at hh ⊢
              cases hb : nm L i with
              | error y => rw [hb] at hh; injection hh with hh; subst hh; rw [nameR_err hb]
              | ok s => rw [hb] at hh; exact absurd hh (by simp)
    · rw [oneR, if_neg (by simp)]
theorem expr_sim : Sim (expr L) (exprR L 7) := lev_sim (one_sim 7) 5
theorem setR_bad {σ : S} {f : F} (h : σ.bad = some f) : (setR L σ).2.bad = some f := expr_sim.bad (must_bad (nameR_bad h))
theorem setsR_bad (n : Nat) (l : List Asg) {σ : S} {f : F} (h : σ.bad = some f) : (setsR L n l σ).2.bad = some f := by
  cases n with
  | zero => exact h
  | succ n => rw [setsR, if_neg (by rw [see_bad (setR_bad h)]; simp)]; exact setR_bad h
theorem sets_sim : ∀ f : Nat, (∀ l i st a j, sets L f l i = .ok (a, j) → setsR L f l ⟨i, st, none⟩ = (a, ⟨j, st, none⟩)) ∧ (∀ l i st x, sets L f l i = .error x → (setsR L f l ⟨i, st, none⟩).2.bad = some x) := by
  intro f
  induction f with
  | zero =>
    refine ⟨fun l i st a j hh => ?_, fun l i st x hh => ?_⟩
    · rw [sets] at hh; injection hh with hh; injection hh with h1 h2; subst h1; subst h2; rfl
    · rw [sets] at hh; exact absurd hh (by simp)
  | succ f ih =>
    obtain ⟨ih1, ih2⟩ := ih
    refine ⟨fun l i st a j hh => ?_, fun l i st x hh => ?_⟩
    · rw [sets] at hh
      cases hn : nm L i with
      | error y => rw [hn] at hh; exact absurd hh (by simp)
      | ok s =>
        rw [hn] at hh; simp only at hh
        by_cases h1 : tx L (i + 1) = kColEq
        · rw [if_pos h1] at hh
          cases he : expr L (i + 2) with
          | error y => rw [he] at hh; exact absurd hh (by simp)
          | ok p =>
            obtain ⟨e, m⟩ := p
            rw [he] at hh; simp only at hh
            have hs : setR L ⟨i, st, none⟩ = (⟨s, e⟩, ⟨m, st, none⟩) := by rw [setR, nameR_ok hn]; simp only; rw [must_yes h1, expr_sim.ok _ st _ _ he]
            rw [setsR, hs]
            by_cases h2 : tx L m = kComma
            · rw [if_pos h2] at hh
              rw [if_pos (by rw [see_ok]; exact decide_eq_true h2), tk_yes h2]
              exact ih1 _ _ _ _ _ hh
            · rw [if_neg h2] at hh; injection hh with hh; injection hh with h1 h2'; subst h1; subst h2'
              rw [if_neg (by rw [see_ok]; simp [h2])]
        · rw [if_neg h1] at hh; exact absurd hh (by simp)
    · rw [sets] at hh
      cases hn : nm L i with
      | error y =>
        rw [hn] at hh; injection hh with hh; subst hh
        have hb : (setR L ⟨i, st, none⟩).2.bad = some y := expr_sim.bad (must_bad (by rw [nameR_err hn]))
        rw [setsR, if_neg (by rw [see_bad hb]; simp)]; exact hb
      | ok s =>
        rw [hn] at hh; simp only at hh
        by_cases h1 : tx L (i + 1) = kColEq
        · rw [if_pos h1] at hh
          cases he : expr L (i + 2) with
          | error y =>
            rw [he] at hh; injection hh with hh; subst hh
            have hb : (setR L ⟨i, st, none⟩).2.bad = some y := by rw [setR, nameR_ok hn]; simp only; rw [must_yes h1]; exact expr_sim.err _ st _ he
            rw [setsR, if_neg (by rw [see_bad hb]; simp)]; exact hb
          | ok p =>
            obtain ⟨e, m⟩ := p
            rw [he] at hh; simp only at hh
            have hs : setR L ⟨i, st, none⟩ = (⟨s, e⟩, ⟨m, st, none⟩) := by rw [setR, nameR_ok hn]; simp only; rw [must_yes h1, expr_sim.ok _ st _ _ he]
            rw [setsR, hs]
            by_cases h2 : tx L m = kComma
            · rw [if_pos h2] at hh
              rw [if_pos (by rw [see_ok]; exact decide_eq_true h2), tk_yes h2]
              exact ih2 _ _ _ _ hh
            · rw [if_neg h2] at hh; exact absurd hh (by simp)
        · rw [if_neg h1] at hh; injection hh with hh; subst hh
          have hb : (setR L ⟨i, st, none⟩).2.bad = some (3, pl L (i + 1)) := by rw [setR, nameR_ok hn]; simp only; rw [must_no h1]; exact expr_sim.bad rfl
          rw [setsR, if_neg (by rw [see_bad hb]; simp)]; exact hb
theorem setsSim (n : Nat) : Sim (sets L n []) (setsR L n []) := ⟨fun i st a j h => (sets_sim n).1 [] i st a j h, fun i st f h => (sets_sim n).2 [] i st f h, fun _ _ _ => setsR_bad n [] rfl⟩
theorem timesR_bad {σ : S} {f : F} (h : σ.bad = some f) : (timesR L σ).2.bad = some f := by
  have := numberR_bad (L := L) h
  rw [timesR, if_neg (by simp [this])]; exact this
theorem times_ok {i st n : Nat} (h : times L i = .ok n) : timesR L ⟨i, st, none⟩ = (n, ⟨i + 1, st, none⟩) := by
  rw [times] at h
  cases hn : number L i with
  | error y => rw [hn] at h; exact absurd h (by simp)
  | ok m =>
    rw [hn] at h; simp only at h
    by_cases hb : m < 1 ∨ 1000 < m
    · rw [if_pos hb] at h; exact absurd h (by simp)
    · rw [if_neg hb] at h; injection h with h; subst h
      rw [timesR, numberR_ok hn, if_neg (by simp only [hb, and_false, not_false_eq_true])]
theorem times_err {i st : Nat} {f : F} (h : times L i = .error f) : (timesR L ⟨i, st, none⟩).2.bad = some f := by
  rw [times] at h
  cases hn : number L i with
  | error y =>
    rw [hn] at h; injection h with h; subst h
    rw [timesR, numberR_err hn, if_neg (by simp)]
  | ok m =>
    rw [hn] at h; simp only at h
    by_cases hb : m < 1 ∨ 1000 < m
    · rw [if_pos hb] at h; injection h with h; subst h
      rw [timesR, numberR_ok hn, if_pos ⟨rfl, hb⟩]
    · rw [if_neg hb] at h; exact absurd h (by simp)
theorem condR_bad {σ : S} {f : F} (h : σ.bad = some f) : (condR L σ).2.2.bad = some f := by rw [condR, if_neg (by rw [see_bad h]; simp)]; exact h
theorem cond_ok {i st n j : Nat} {e : E} (h : cond L i = .ok (n, e, j)) : condR L ⟨i, st, none⟩ = (n, e, ⟨j, st, none⟩) := by
  rw [cond] at h
  by_cases h1 : tx L i = kIf
  · rw [if_pos h1] at h
    rw [condR, if_pos (by rw [see_ok]; exact decide_eq_true h1), tk_yes h1]
    by_cases h2 : tx L (i + 1) = kCount
    · rw [if_pos h2] at h
      rw [if_pos (by rw [see_ok]; exact decide_eq_true h2), tk_yes h2]
      cases ht : times L (i + 2) with
      | error y => rw [ht] at h; exact absurd h (by simp)
      | ok m =>
        rw [ht] at h; simp only at h
        cases he : expr L (i + 3) with
        | error y => rw [he] at h; exact absurd h (by simp)
        | ok p =>
          obtain ⟨a, b⟩ := p
          rw [he] at h; injection h with h; injection h with e1 e2; injection e2 with e2 e3; subst e1; subst e2; subst e3
          rw [times_ok ht]; simp only; rw [expr_sim.ok _ st _ _ he]
    · rw [if_neg h2] at h
      rw [if_neg (by rw [see_ok]; simp [h2])]
      cases he : expr L (i + 1) with
      | error y => rw [he] at h; exact absurd h (by simp)
      | ok p =>
        obtain ⟨a, b⟩ := p
        rw [he] at h; injection h with h; injection h with e1 e2; injection e2 with e2 e3; subst e1; subst e2; subst e3
        rw [expr_sim.ok _ st _ _ he]
  · rw [if_neg h1] at h; injection h with h; injection h with e1 e2; injection e2 with e2 e3; subst e1; subst e2; subst e3
    rw [condR, if_neg (by rw [see_ok]; simp [h1])]
theorem cond_err {i st : Nat} {f : F} (h : cond L i = .error f) : (condR L ⟨i, st, none⟩).2.2.bad = some f := by
  rw [cond] at h
  by_cases h1 : tx L i = kIf
  · rw [if_pos h1] at h
    rw [condR, if_pos (by rw [see_ok]; exact decide_eq_true h1), tk_yes h1]
    by_cases h2 : tx L (i + 1) = kCount
    · rw [if_pos h2] at h
      rw [if_pos (by rw [see_ok]; exact decide_eq_true h2), tk_yes h2]
      cases ht : times L (i + 2) with
      | error y => rw [ht] at h; injection h with h; subst h; exact expr_sim.bad (times_err ht)
      | ok m =>
        rw [ht] at h; simp only at h
        cases he : expr L (i + 3) with
        | error y => rw [he] at h; injection h with h; subst h; rw [times_ok ht]; exact expr_sim.err _ st _ he
        | ok p => rw [he] at h; exact absurd h (by simp)
    · rw [if_neg h2] at h
      rw [if_neg (by rw [see_ok]; simp [h2])]
      cases he : expr L (i + 1) with
      | error y => rw [he] at h; injection h with h; subst h; exact expr_sim.err _ st _ he
      | ok p => rw [he] at h; exact absurd h (by simp)
  · rw [if_neg h1] at h; exact absurd h (by simp)
theorem does_sim : Sim (does L) (doesR L) := by
  refine ⟨fun i st a j h => ?_, fun i st f h => ?_, fun i st f => ?_⟩
  · rw [does] at h
    by_cases h1 : tx L i = kDo
    · rw [if_pos h1] at h
      rw [doesR, if_pos (by rw [see_ok]; exact decide_eq_true h1), tk_yes h1]
      exact (setsSim _).ok _ _ _ _ h
    · rw [if_neg h1] at h; injection h with h; injection h with e1 e2; subst e1; subst e2
      rw [doesR, if_neg (by rw [see_ok]; simp [h1])]
  · rw [does] at h
    by_cases h1 : tx L i = kDo
    · rw [if_pos h1] at h
      rw [doesR, if_pos (by rw [see_ok]; exact decide_eq_true h1), tk_yes h1]
      exact (setsSim _).err _ _ _ h
    · rw [if_neg h1] at h; exact absurd h (by simp)
  · rw [doesR, if_neg (by simp)]
theorem tailR_bad {σ : S} {f : F} (h : σ.bad = some f) : (tailR L σ).2.bad = some f := must_bad (tk_bad (nameR_bad (must_bad h)))
theorem way_sim (kind : Nat) : Sim (way L kind) (wayR L kind) := by
  refine ⟨fun i st a j h => ?_, fun i st f h => ?_, fun i st f => ?_⟩
  · rw [way] at h
    rw [wayR, tk_opt]
    cases hc : cond L (opt L kImm i) with
    | error y => rw [hc] at h; exact absurd h (by simp)
    | ok p =>
      obtain ⟨n, e, j1⟩ := p
      rw [hc] at h; simp only at h
      rw [cond_ok hc]; simp only
      cases hd : does L j1 with
      | error y => rw [hd] at h; exact absurd h (by simp)
      | ok q =>
        obtain ⟨l, m⟩ := q
        rw [hd] at h; simp only at h
        rw [does_sim.ok _ st _ _ hd]; simp only
        by_cases h1 : tx L m = kArrow
        · rw [if_pos h1] at h
          cases hn : nm L (m + 1) with
          | error y => rw [hn] at h; exact absurd h (by simp)
          | ok s =>
            rw [hn] at h; simp only at h
            by_cases h2 : tx L (opt L kHist (m + 2)) = kSemi
            · rw [if_pos h2] at h; injection h with h; injection h with e1 e2; subst e1; subst e2
              rw [tailR, must_yes h1, nameR_ok hn]; simp only
              rw [tk_opt, must_yes h2, see_ok, see_ok]
            · rw [if_neg h2] at h; exact absurd h (by simp)
        · rw [if_neg h1] at h; exact absurd h (by simp)
  · rw [way] at h
    rw [wayR, tk_opt]; simp only
    cases hc : cond L (opt L kImm i) with
    | error y =>
      rw [hc] at h; injection h with h; subst h
      exact tailR_bad (does_sim.bad (cond_err hc))
    | ok p =>
      obtain ⟨n, e, j1⟩ := p
      rw [hc] at h; simp only at h
      rw [cond_ok hc]; simp only
      cases hd : does L j1 with
      | error y => rw [hd] at h; injection h with h; subst h; exact tailR_bad (does_sim.err _ _ _ hd)
      | ok q =>
        obtain ⟨l, m⟩ := q
        rw [hd] at h; simp only at h
        rw [does_sim.ok _ st _ _ hd]; simp only
        by_cases h1 : tx L m = kArrow
        · rw [if_pos h1] at h
          cases hn : nm L (m + 1) with
          | error y => rw [hn] at h; injection h with h; subst h; rw [tailR, must_yes h1, nameR_err hn]; rfl
          | ok s =>
            rw [hn] at h; simp only at h
            by_cases h2 : tx L (opt L kHist (m + 2)) = kSemi
            · rw [if_pos h2] at h; exact absurd h (by simp)
            · rw [if_neg h2] at h; injection h with h; subst h
              rw [tailR, must_yes h1, nameR_ok hn]; simp only
              rw [tk_opt, must_no h2]
        · rw [if_neg h1] at h; injection h with h; subst h
          rw [tailR, must_no h1]; rfl
  · rw [wayR]; exact tailR_bad (does_sim.bad (condR_bad rfl))
end
end Px
end Go.Proofs.YtobamalnbjbmiaaGreatDoor
