/- Plain mathematics of chapter 4: whether a chart may be, and the order of a region's states; no program. -/
import Derived.Test.YtiihgnagjemikaaGreatDoorVMem
import Derived.Test.YtiihgnagjemikaaGreatDoorProg
import Derived.Maps.Own
import Derived.Maps.OwnOps
import Derived.Maps.Views
import Derived.WalkKit
import Derived.WalkSpells
import Derived.WalkLawsBesides
import Derived.Laws.EntriesVeiled
import Derived.RowKit
import Derived.IntWalk
import Derived.Laws.Bits64
import Derived.Maps.OwnSet
namespace Go.Proofs.YtiihgnagjemikaaGreatDoor
namespace Px

/-- where the first one of that name stands -/
def fnd : List Str → Str → Option Nat
  | [], _ => none
  | a :: r, s => if a = s then some 0 else (fnd r s).map (· + 1)
def fndI (l : List Str) (s : Str) : Int := match fnd l s with | some i => (i : Int) | none => -1
/-- the same, of those from the k-th on -/
def fndK (l : List Str) (k : Nat) (s : Str) : Option Nat := (fnd (l.drop k) s).map (· + k)
theorem fndK_all (l : List Str) (s : Str) : fndK l 0 s = fnd l s := by unfold fndK; cases h : fnd l s <;> simp [h]
theorem fndK_end (l : List Str) (s : Str) : fndK l l.length s = none := by unfold fndK; rw [List.drop_length]; rfl
theorem fndK_step (l : List Str) (k : Nat) (hk : k < l.length) (s : Str) : fndK l k s = if l.getD k [] = s then some k else fndK l (k + 1) s := by
  unfold fndK
  have e : l.drop k = l.getD k [] :: l.drop (k + 1) := by
    rw [List.drop_eq_getElem_cons hk, List.getD_eq_getElem?_getD, List.getElem?_eq_getElem hk]; rfl
  rw [e, fnd]
  split
  · simp
  · cases h : fnd (l.drop (k + 1)) s with
    | none => simp
    | some i => simp; omega
theorem fnd_some {l : List Str} {s : Str} {i : Nat} (h : fnd l s = some i) : i < l.length ∧ l.getD i [] = s ∧ ∀ j, j < i → l.getD j [] ≠ s := by
  induction l generalizing i with
  | nil => simp [fnd] at h
  | cons a r ih =>
    rw [fnd] at h
    split at h
    · rename_i he
      injection h with h
      subst h
      exact ⟨by simp, by simpa using he, fun j hj => absurd hj (by omega)⟩
    · rename_i he
      cases hr : fnd r s with
      | none => rw [hr] at h; simp at h
      | some k =>
        rw [hr] at h
        simp at h
        subst h
        obtain ⟨h1, h2, h3⟩ := ih hr
        refine ⟨by simp; omega, by simpa using h2, fun j hj => ?_⟩
        cases j with
        | zero => simpa using he
        | succ j => simpa using h3 j (by omega)
theorem fnd_none {l : List Str} {s : Str} (h : fnd l s = none) : ∀ j, j < l.length → l.getD j [] ≠ s := by
  induction l with
  | nil => intro j hj; simp at hj
  | cons a r ih =>
    rw [fnd] at h
    split at h
    · exact absurd h (by simp)
    · rename_i he
      have hr : fnd r s = none := by cases hr : fnd r s with
        | none => rfl
        | some k => rw [hr] at h; simp at h
      intro j hj
      cases j with
      | zero => simpa using he
      | succ j => simpa using ih hr j (by simpa using hj)
theorem fnd_of {l : List Str} {s : Str} {i : Nat} (hi : i < l.length) (he : l.getD i [] = s) (hn : ∀ j, j < i → l.getD j [] ≠ s) : fnd l s = some i := by
  cases h : fnd l s with
  | none => exact absurd he (fnd_none h i hi)
  | some k =>
    obtain ⟨h1, h2, h3⟩ := fnd_some h
    by_cases e1 : k < i
    · exact absurd h2 (hn k e1)
    · by_cases e2 : i < k
      · exact absurd he (h3 i e2)
      · have : k = i := by omega
        rw [this]
theorem fnd_le {l : List Str} {i : Nat} (hi : i < l.length) : ∃ k, fnd l (l.getD i []) = some k ∧ k ≤ i := by
  cases h : fnd l (l.getD i []) with
  | none => exact absurd rfl (fnd_none h i hi)
  | some k =>
    refine ⟨k, rfl, ?_⟩
    obtain ⟨h1, h2, h3⟩ := fnd_some h
    by_cases e : k ≤ i
    · exact e
    · exact absurd rfl (h3 i (by omega))
theorem fndI_neg (l : List Str) (s : Str) : (fndI l s < 0) ↔ fnd l s = none := by
  unfold fndI; cases h : fnd l s <;> simp; try omega
theorem fndI_lt (l : List Str) (s : Str) : fndI l s < l.length := by
  unfold fndI
  cases h : fnd l s with
  | none => simp; omega
  | some k => have := (fnd_some h).1; simp; omega
theorem fndI_ge (l : List Str) (s : Str) : -1 ≤ fndI l s := by
  unfold fndI; cases h : fnd l s <;> simp; try omega

/-- a name in it is none of those -/
def strangeE (ns : List Str) : E → Bool
  | .nil => false
  | .node _ _ a l r => if a.code = 1 then false else if a.code = 2 ∨ a.code = 3 then (fnd ns a.name).isNone else if a.code = 4 ∨ a.code = 5 then strangeE ns l else strangeE ns l || strangeE ns r

def vnames (vs : List Decl) : List Str := vs.map (·.name)
def decl0 : Decl := ⟨0, [], 0⟩
/-- the kind of the variable of that name -/
def vkind (vs : List Decl) (s : Str) : Nat := (vs.getD (fndI (vnames vs) s).toNat decl0).kind
def setE (vs : List Decl) (a : Asg) : Nat := if (fnd (vnames vs) a.name).isNone || strangeE (vnames vs) a.e then 5 else if vkind vs a.name = 1 then 1 else 0
def setsE (vs : List Decl) : List Asg → Nat
  | [] => 0
  | a :: r => if setE vs a ≠ 0 then setE vs a else setsE vs r
def wayE (vs : List Decl) (ns : List Str) (inside : Bool) (y : Wy) : Nat :=
  if (fnd ns y.to).isNone then 7 else if (decide (y.kind = 2) && !inside) || (y.now && decide (1 < y.times)) then 6 else if strangeE (vnames vs) y.cond then 5 else setsE vs y.sets
def waysE (vs : List Decl) (ns : List Str) (inside : Bool) : List Wy → Nat
  | [] => 0
  | y :: r => if wayE vs ns inside y ≠ 0 then wayE vs ns inside y else waysE vs ns inside r
section
variable {ρ : Type}
def aloneE (vs : List Decl) (ns : List Str) (s : StF ρ) : Nat :=
  if s.last && (decide (0 < s.ways.length) || decide (0 < s.regions.length)) then 6
  else if setsE vs s.enter ≠ 0 then setsE vs s.enter
  else if setsE vs s.during ≠ 0 then setsE vs s.during
  else if setsE vs s.leave ≠ 0 then setsE vs s.leave
  else if strangeE (vnames vs) s.rests then 5
  else waysE vs ns (decide (0 < s.regions.length)) s.ways
def stateE (vs : List Decl) (ns : List Str) (i : Nat) (s : StF ρ) : Nat :=
  if fndI ns s.name < i then 9 else aloneE vs ns s
def snames (l : List (StF ρ)) : List Str := l.map (·.name)

/-- where ways at once lead from a state -/
def tosF (ns : List Str) (ys : List Wy) : List (Option Nat) := ys.map fun y => if y.now then fnd ns y.to else none
def graph (l : List (StF ρ)) : List (List (Option Nat)) := l.map fun s => tosF (snames l) s.ways
end
/-- how many ways lead to j from those that are not told -/
def cntK (G : List (List (Option Nat))) (T : List Bool) (j : Nat) : Nat → Nat
  | 0 => 0
  | i + 1 => cntK G T j i + (if T.getD i false then 0 else (G.getD i []).count (some j))
def cnt (G : List (List (Option Nat))) (T : List Bool) (j : Nat) : Nat := cntK G T j G.length
/-- the first one below k, from i on, that may be next -/
def freeG (G : List (List (Option Nat))) (T : List Bool) (j : Nat) : Bool := !T.getD j false && decide (cnt G T j = 0)
def nextF (G : List (List (Option Nat))) (T : List Bool) : Nat → Nat → Option Nat
  | 0, _ => none
  | f + 1, i => if freeG G T i then some i else nextF G T f (i + 1)
def nextG (G : List (List (Option Nat))) (T : List Bool) : Option Nat := nextF G T G.length 0
def ordK (G : List (List (Option Nat))) : Nat → Option (List Nat × List Bool)
  | 0 => some ([], List.replicate G.length false)
  | r + 1 => match ordK G r with
    | none => none
    | some (o, T) => match nextG G T with
      | none => none
      | some j => some (o ++ [j], T.set j true)
def orderG (G : List (List (Option Nat))) : Option (List Nat) := (ordK G G.length).map (·.1)

section
variable {ρ : Type}
def firsts (l : List (StF ρ)) : Nat := (l.filter (·.first)).length
def wholeE (l : List (StF ρ)) : Nat :=
  if firsts l = 0 then 8 else if 1 < firsts l then 12 else if (orderG (graph l)).isNone then 11 else 0

abbrev Res := Except (Nat × Nat) Nat
/-- regions, one by one: what is wrong with which state, or how many states there were -/
def regsE (R : List ρ → Nat → Res) : List (List ρ) → Nat → Res
  | [], n => .ok n
  | r :: rs, n => match R r n with
    | .error x => .error x
    | .ok m => regsE R rs m
def statesE (vs : List Decl) (R : List ρ → Nat → Res) (ns : List Str) : List (StF ρ) → Nat → Nat → Res
  | [], _, n => .ok n
  | s :: r, i, n => if stateE vs ns i s ≠ 0 then .error (stateE vs ns i s, n) else match regsE R s.regions (n + 1) with
    | .error x => .error x
    | .ok m => statesE vs R ns r (i + 1) m
def regF (vs : List Decl) (R : List ρ → Nat → Res) (l : List (StF ρ)) (n : Nat) : Res :=
  match statesE vs R (snames l) l 0 n with
  | .error x => .error x
  | .ok m => if wholeE l ≠ 0 then .error (wholeE l, n) else .ok m
end
def regE (vs : List Decl) : (k : Nat) → List (St k) → Nat → Res
  | 0 => fun _ n => .error (8, n)
  | k + 1 => fun l n => regF vs (regE vs k) l n
/-- the first variable that has the name of one ahead -/
def twiceF (ns : List Str) : Nat → Nat → Option Nat
  | 0, _ => none
  | f + 1, i => if fndI ns (ns.getD i []) < i then some i else twiceF ns f (i + 1)
/-- what is wrong with a chart; an error that has no place: none -/
def checkC (c : Chart) : Option (Nat × Option Nat) :=
  match twiceF (vnames c.vars) c.vars.length 0 with
  | some i => some (9, some i)
  | none => if c.regions = [] then some (8, none) else match regsE (regE c.vars 6) c.regions 0 with
    | .error (e, p) => some (e, some p)
    | .ok _ => none

/- the waits of the program: how many ways lead to each from those that are not told; below none where it is told -/
def wOf (G : List (List (Option Nat))) (T : List Bool) : List Int := (List.range G.length).map fun j => if T.getD j false then -1 else (cnt G T j : Int)
/-- by is added where the first m of those lead -/
def bump (n : Nat) (by' : Int) (ts : List (Option Nat)) : Nat → List Int → List Int
  | 0, W => W
  | m + 1, W => match ts.getD m none with
    | none => bump n by' ts m W
    | some t => (bump n by' ts m W).set t ((bump n by' ts m W).getD t 0 + by')
theorem bump_len (n : Nat) (by' : Int) (ts : List (Option Nat)) (m : Nat) (W : List Int) : (bump n by' ts m W).length = W.length := by
  induction m with
  | zero => rfl
  | succ m ih => rw [bump]; split <;> simp [ih]
theorem take_count (ts : List (Option Nat)) (m : Nat) (hm : m < ts.length) (j : Nat) : (ts.take (m + 1)).count (some j) = (ts.take m).count (some j) + if ts.getD m none = some j then 1 else 0 := by
  rw [List.take_succ_eq_append_getElem hm, List.count_append, List.getD_eq_getElem?_getD, List.getElem?_eq_getElem hm]
  simp only [List.count_cons, List.count_nil, Nat.zero_add, Option.getD_some, beq_iff_eq]
theorem bump_at (n : Nat) (by' : Int) (ts : List (Option Nat)) (W : List Int) (m : Nat) (hm : m ≤ ts.length) (j : Nat) (hj : j < W.length) : (bump n by' ts m W).getD j 0 = W.getD j 0 + by' * ((ts.take m).count (some j) : Nat) := by
  induction m with
  | zero => simp [bump]
  | succ m ih =>
    rw [bump, take_count ts m (by omega)]
    have ih := ih (by omega)
    cases ht : ts.getD m none with
    | none =>
      simp only [reduceCtorEq, if_false, Nat.add_zero]
      exact ih
    | some t =>
      simp only [Option.some.injEq]
      have hl := bump_len n by' ts m W
      by_cases e : t = j
      · subst e
        rw [List.getD_eq_getElem?_getD, List.getElem?_set, hl, if_pos rfl, if_pos hj, if_pos rfl, ih]
        simp [Int.mul_add, Int.add_assoc]
      · rw [List.getD_eq_getElem?_getD, List.getElem?_set, if_neg e, if_neg e, ← List.getD_eq_getElem?_getD, ih, Nat.add_zero]

/- the program's waits -/
theorem wOf_len (G : List (List (Option Nat))) (T : List Bool) : (wOf G T).length = G.length := by simp [wOf]
theorem wOf_at (G : List (List (Option Nat))) (T : List Bool) (j : Nat) (hj : j < G.length) : (wOf G T).getD j 0 = if T.getD j false then -1 else (cnt G T j : Int) := by
  rw [wOf, List.getD_eq_getElem?_getD, List.getElem?_map, List.getElem?_range hj]; rfl
theorem list_ext_getD {α : Type} {d : α} {l m : List α} (hl : l.length = m.length) (h : ∀ j, j < l.length → l.getD j d = m.getD j d) : l = m := by
  apply List.ext_getElem hl
  intro j h1 h2
  have := h j h1
  rwa [List.getD_eq_getElem?_getD, List.getD_eq_getElem?_getD, List.getElem?_eq_getElem h1, List.getElem?_eq_getElem h2] at this

/-- the waits of the first k states' ways -/
def wFirst (G : List (List (Option Nat))) : Nat → List Int
  | 0 => List.replicate G.length 0
  | k + 1 => bump G.length 1 (G.getD k []) (G.getD k []).length (wFirst G k)
theorem wFirst_len (G : List (List (Option Nat))) (k : Nat) : (wFirst G k).length = G.length := by
  induction k with
  | zero => simp [wFirst]
  | succ k ih => rw [wFirst, bump_len, ih]
theorem getD_repl (n j : Nat) : (List.replicate n false).getD j false = false := by
  rw [List.getD_eq_getElem?_getD, List.getElem?_replicate]; split <;> rfl
theorem wFirst_at (G : List (List (Option Nat))) (k : Nat) (j : Nat) (hj : j < G.length) : (wFirst G k).getD j 0 = (cntK G (List.replicate G.length false) j k : Int) := by
  induction k with
  | zero => rw [wFirst, cntK, List.getD_eq_getElem?_getD, List.getElem?_replicate, if_pos hj]; rfl
  | succ k ih =>
    rw [wFirst, cntK, bump_at _ _ _ _ _ (Nat.le_refl _) j (by rw [wFirst_len]; exact hj), ih, getD_repl, List.take_length]
    simp
theorem wFirst_all (G : List (List (Option Nat))) : wFirst G G.length = wOf G (List.replicate G.length false) := by
  apply list_ext_getD (d := 0)
  · rw [wFirst_len, wOf_len]
  · intro j hj
    rw [wFirst_len] at hj
    rw [wFirst_at _ _ _ hj, wOf_at _ _ _ hj, getD_repl]; rfl

theorem set_getD (T : List Bool) (i j : Nat) (hi : i < T.length) : (T.set i true).getD j false = if i = j then true else T.getD j false := by
  rw [List.getD_eq_getElem?_getD, List.getElem?_set]
  by_cases e : i = j
  · subst e; simp [hi]
  · rw [if_neg e, if_neg e, List.getD_eq_getElem?_getD]
theorem cntK_set (G : List (List (Option Nat))) (T : List Bool) (i j : Nat) (hi : i < T.length) (hT : T.getD i false = false) (k : Nat) : cntK G T j k = cntK G (T.set i true) j k + if i < k then (G.getD i []).count (some j) else 0 := by
  induction k with
  | zero => simp [cntK]
  | succ k ih =>
    rw [cntK, cntK, ih, set_getD T i k hi]
    by_cases e : i = k
    · subst e
      rw [if_neg (by omega), if_pos rfl, hT]; simp
    · rw [if_neg e]
      generalize (G.getD i []).count (some j) = c
      have e1 : (if i < k + 1 then c else 0) = if i < k then c else 0 := by
        by_cases h : i < k
        · rw [if_pos h, if_pos (by omega)]
        · rw [if_neg h, if_neg (by omega)]
      rw [e1]; omega
theorem cnt_set (G : List (List (Option Nat))) (T : List Bool) (i j : Nat) (hi : i < T.length) (hG : i < G.length) (hT : T.getD i false = false) : cnt G T j = cnt G (T.set i true) j + (G.getD i []).count (some j) := by
  rw [cnt, cnt, cntK_set G T i j hi hT, if_pos hG]
/-- to what is told nothing leads from what is not -/
def Shut (G : List (List (Option Nat))) (T : List Bool) : Prop := T.length = G.length ∧ ∀ j, T.getD j false = true → cnt G T j = 0
theorem shut_none (G : List (List (Option Nat))) : Shut G (List.replicate G.length false) := ⟨by simp, fun j h => by rw [getD_repl] at h; simp at h⟩
theorem shut_set {G : List (List (Option Nat))} {T : List Bool} {i : Nat} (h : Shut G T) (hi : i < G.length) (hf : freeG G T i = true) : Shut G (T.set i true) := by
  unfold freeG at hf
  simp only [Bool.and_eq_true, Bool.not_eq_true', decide_eq_true_eq] at hf
  refine ⟨by rw [List.length_set]; exact h.1, fun j hj => ?_⟩
  rw [set_getD T i j (by rw [h.1]; exact hi)] at hj
  have := cnt_set G T i j (by rw [h.1]; exact hi) hi hf.1
  by_cases e : i = j
  · subst e; omega
  · rw [if_neg e] at hj
    have := h.2 j hj; omega
/-- a state is told: its ways lead nowhere any more -/
theorem wOf_set {G : List (List (Option Nat))} {T : List Bool} {i : Nat} (h : Shut G T) (hi : i < G.length) (hf : freeG G T i = true) : bump G.length (-1) (G.getD i []) (G.getD i []).length ((wOf G T).set i (-1)) = wOf G (T.set i true) := by
  have hf' := hf
  unfold freeG at hf
  simp only [Bool.and_eq_true, Bool.not_eq_true', decide_eq_true_eq] at hf
  apply list_ext_getD (d := 0)
  · rw [bump_len, List.length_set, wOf_len, wOf_len]
  · intro j hj
    rw [bump_len, List.length_set, wOf_len] at hj
    have hc := cnt_set G T i j (by rw [h.1]; exact hi) hi hf.1
    rw [bump_at _ _ _ _ _ (Nat.le_refl _) j (by rw [List.length_set, wOf_len]; exact hj), List.take_length, wOf_at _ _ _ hj, set_getD T i j (by rw [h.1]; exact hi)]
    by_cases e : i = j
    · subst e
      rw [if_pos rfl, List.getD_eq_getElem?_getD, List.getElem?_set, if_pos rfl, wOf_len, if_pos hi]
      have : (G.getD i []).count (some i) = 0 := by omega
      rw [this]; simp
    · rw [if_neg e, List.getD_eq_getElem?_getD, List.getElem?_set, if_neg e, ← List.getD_eq_getElem?_getD, wOf_at _ _ _ hj]
      by_cases ht : T.getD j false = true
      · have := h.2 j ht
        have : (G.getD i []).count (some j) = 0 := by omega
        rw [if_pos ht, if_pos ht, this]; simp
      · rw [if_neg ht, if_neg ht]; omega
/-- how the first 0 is found -/
theorem wOf_zero (G : List (List (Option Nat))) (T : List Bool) (j : Nat) (hj : j < G.length) : (wOf G T).getD j 0 = 0 ↔ freeG G T j = true := by
  rw [wOf_at _ _ _ hj]
  unfold freeG
  cases T.getD j false <;> simp; try omega
theorem nextF_some {G : List (List (Option Nat))} {T : List Bool} : ∀ {f i k : Nat}, nextF G T f i = some k → i ≤ k ∧ k < i + f ∧ freeG G T k = true ∧ ∀ j, i ≤ j → j < k → freeG G T j = false := by
  intro f
  induction f with
  | zero => intro i k h; simp [nextF] at h
  | succ f ih =>
    intro i k h
    rw [nextF] at h
    split at h
    · rename_i hf
      injection h with h
      subst h
      exact ⟨Nat.le_refl _, by omega, hf, fun j h1 h2 => absurd h2 (by omega)⟩
    · rename_i hf
      obtain ⟨h1, h2, h3, h4⟩ := ih h
      refine ⟨by omega, by omega, h3, fun j hj1 hj2 => ?_⟩
      by_cases e : j = i
      · subst e; simpa using hf
      · exact h4 j (by omega) hj2
theorem nextF_none {G : List (List (Option Nat))} {T : List Bool} : ∀ {f i : Nat}, nextF G T f i = none → ∀ j, i ≤ j → j < i + f → freeG G T j = false := by
  intro f
  induction f with
  | zero => intro i _ j h1 h2; exact absurd h2 (by omega)
  | succ f ih =>
    intro i h j h1 h2
    rw [nextF] at h
    split at h
    · exact absurd h (by simp)
    · rename_i hf
      by_cases e : j = i
      · subst e; simpa using hf
      · exact ih h j (by omega) (by omega)
theorem nextG_some {G : List (List (Option Nat))} {T : List Bool} {k : Nat} (h : nextG G T = some k) : k < G.length ∧ freeG G T k = true ∧ ∀ j, j < k → freeG G T j = false := by
  obtain ⟨_, h2, h3, h4⟩ := nextF_some h
  exact ⟨by omega, h3, fun j hj => h4 j (Nat.zero_le _) hj⟩
theorem nextG_none {G : List (List (Option Nat))} {T : List Bool} (h : nextG G T = none) : ∀ j, j < G.length → freeG G T j = false := fun j hj => nextF_none h j (Nat.zero_le _) (by omega)
theorem nextG_of {G : List (List (Option Nat))} {T : List Bool} {k : Nat} (hk : k < G.length) (h : freeG G T k = true) (hn : ∀ j, j < k → freeG G T j = false) : nextG G T = some k := by
  cases e : nextG G T with
  | none => rw [nextG_none e k hk] at h; simp at h
  | some i =>
    obtain ⟨h1, h2, h3⟩ := nextG_some e
    by_cases a : i < k
    · rw [hn i a] at h2; simp at h2
    · by_cases b : k < i
      · rw [h3 k b] at h; simp at h
      · have : i = k := by omega
        rw [this]
theorem nextG_no {G : List (List (Option Nat))} {T : List Bool} (hn : ∀ j, j < G.length → freeG G T j = false) : nextG G T = none := by
  cases e : nextG G T with
  | none => rfl
  | some i =>
    obtain ⟨h1, h2, _⟩ := nextG_some e
    rw [hn i h1] at h2; simp at h2
theorem ordK_shut {G : List (List (Option Nat))} : ∀ {r : Nat} {o : List Nat} {T : List Bool}, ordK G r = some (o, T) → Shut G T ∧ o.length = r ∧ (∀ j ∈ o, j < G.length) := by
  intro r
  induction r with
  | zero => intro o T h; rw [ordK] at h; injection h with h; injection h with h1 h2; subst h1; subst h2; exact ⟨shut_none G, rfl, by simp⟩
  | succ r ih =>
    intro o T h
    rw [ordK] at h
    split at h
    · exact absurd h (by simp)
    · rename_i o' T' hr
      split at h
      · exact absurd h (by simp)
      · rename_i j hj
        injection h with h
        injection h with h1 h2
        subst h1; subst h2
        obtain ⟨s1, s2, s3⟩ := ih hr
        obtain ⟨n1, n2, _⟩ := nextG_some hj
        refine ⟨shut_set s1 n1 n2, by simp [s2], fun k hk => ?_⟩
        rcases List.mem_append.1 hk with hk | hk
        · exact s3 k hk
        · rw [List.mem_singleton.1 hk]; exact n1
theorem ordK_none {G : List (List (Option Nat))} {r s : Nat} (h : ordK G r = none) (hs : r ≤ s) : ordK G s = none := by
  induction s with
  | zero => obtain rfl : r = 0 := by omega
            exact h
  | succ s ih =>
    by_cases e : r = s + 1
    · subst e; exact h
    · rw [ordK, ih (by omega)]
/-- a number of ways -/
theorem cntK_le (G : List (List (Option Nat))) (T : List Bool) (j M : Nat) (hM : ∀ i, (G.getD i []).length ≤ M) (k : Nat) : cntK G T j k ≤ k * M := by
  induction k with
  | zero => simp [cntK]
  | succ k ih =>
    rw [cntK, Nat.succ_mul]
    have := List.count_le_length (a := some j) (l := G.getD k [])
    have := hM k
    split <;> omega
end Px
end Go.Proofs.YtiihgnagjemikaaGreatDoor
/- A map of names to numbers, told by a plain function. -/
namespace Go.Proofs.YtiihgnagjemikaaGreatDoor
open Go.RowKit Go.Maps Go.WideMaps Px

theorem smapLaw : Keyed Tryz.prog 9 := string_keyed Tryz.underlying9
theorem smapZero (w : World) : (zeroValue 3).run Tryz.prog w = .ok (.int .i64 0) w := by kernel_rfl

/-- block b is a map that has of each name what f tells -/
def MapF (w : World) (b n : Nat) (f : Str → Option Nat) : Prop :=
  ∃ D : DataW Unit, w.ownsMap Tryz.prog 9 (plainElem Tryz.prog 3) b n D ∧ IsMap D ∧ ∀ (s : Str) (zd : DataW Unit), D.atKey (.string s) zd = match f s with
    | none => zd
    | some i => .lit (.int .i64 (i : Int))
theorem MapF.lt {w : World} {b n : Nat} {f : Str → Option Nat} (h : MapF w b n f) : b < w.heap.size := by obtain ⟨D, h, _⟩ := h; exact h.lt
theorem MapF.keep {w w' : World} {b n : Nat} {f : Str → Option Nat} (h : MapF w b n f) (hb : w'.heap[b]? = w.heap[b]?) : MapF w' b n f := by
  obtain ⟨D, ⟨es, clock, h1, h2⟩, h3⟩ := h
  exact ⟨D, ⟨es, clock, by rw [hb]; exact h1, h2⟩, h3⟩
theorem MapF.below {w w' : World} {b n : Nat} {f : Str → Option Nat} (h : MapF w b n f) (hb : Below w.heap.size w w') : MapF w' b n f := h.keep (hb.block b h.lt)
theorem MapF.like {w : World} {b n : Nat} {f g : Str → Option Nat} (h : MapF w b n f) (hfg : ∀ s, f s = g s) : MapF w b n g := by
  have : f = g := funext hfg
  exact this ▸ h
theorem mapF_made (w : World) : MapF (w.alloc (.map #[] 0)) w.heap.size 0 (fun _ => none) :=
  ⟨.map [], World.ownsMap_made _ _ _ _, ⟨_, rfl⟩, fun _ _ => rfl⟩
theorem sKey {s : Str} (hs : s.length ≤ maxLen) : keyOf Tryz.prog 9 (sv s) = some (.string s) := by
  have := keyOf_string_mk (P := Tryz.prog) Tryz.underlying9 (s := ⟨s.toArray⟩) (by simpa [ByteArray.size] using hs)
  simpa [sv] using this
/-- what it tells of a name, and whether it has it -/
theorem MapF.look {w : World} {b n : Nat} {f : Str → Option Nat} (h : MapF w b n f) {s : Str} (hs : s.length ≤ maxLen) :
    (Instr.lookup 136 (.map (some b)) (sv s) true).run Tryz.prog w = .ok (match f s with
      | none => .tuple #[.int .i64 0, .bool false]
      | some i => .tuple #[.int .i64 (i : Int), .bool true]) w := by
  obtain ⟨D, ⟨es, clock, hb, F, hsz, rfl⟩, hm, hat⟩ := h
  rcases Maps.fit_look true smapLaw Tryz.underlying136 (smapZero w) hb F (sKey hs) with ⟨hrun, _, h1⟩ | ⟨e0, y, _, _, hrun, hR, h1, _⟩
  · rw [hrun]
    cases hf : f s with
    | none => rfl
    | some i =>
      have a1 := hat s (.lit (.bool true))
      rw [hf, h1] at a1
      simp at a1
  · rw [hrun]
    cases hf : f s with
    | none =>
      have a1 := hat s (.lit (.bool true))
      have a2 := hat s (.lit (.bool false))
      rw [hf, h1] at a1
      rw [hf, h1] at a2
      rw [a1] at a2
      simp at a2
    | some i =>
      have a1 := hat s (.lit (.bool true))
      rw [hf, h1] at a1
      obtain ⟨c, hv, hy, _⟩ := plainElem_int_inv Tryz.underlying3 hR
      rw [hy] at a1
      simp only [DataW.lit.injEq, Lit.int.injEq, true_and] at a1
      rw [hv, a1]; rfl
/-- .. where it is not asked whether it has it -/
theorem MapF.look1 {w : World} {b n : Nat} {f : Str → Option Nat} (h : MapF w b n f) {s : Str} (hs : s.length ≤ maxLen) :
    (Instr.lookup 136 (.map (some b)) (sv s) false).run Tryz.prog w = .ok (.int .i64 (((f s).getD 0 : Nat) : Int)) w := by
  obtain ⟨D, ⟨es, clock, hb, F, hsz, rfl⟩, hm, hat⟩ := h
  rcases Maps.fit_look false smapLaw Tryz.underlying136 (smapZero w) hb F (sKey hs) with ⟨hrun, _, h1⟩ | ⟨e0, y, _, _, hrun, hR, h1, _⟩
  · rw [hrun]
    cases hf : f s with
    | none => rfl
    | some i =>
      have a1 := hat s (.lit (.bool true))
      rw [hf, h1] at a1
      simp at a1
  · rw [hrun]
    cases hf : f s with
    | none =>
      have a1 := hat s (.lit (.bool true))
      have a2 := hat s (.lit (.bool false))
      rw [hf, h1] at a1
      rw [hf, h1] at a2
      rw [a1] at a2
      simp at a2
    | some i =>
      have a1 := hat s (.lit (.bool true))
      rw [hf, h1] at a1
      obtain ⟨c, hv, hy, _⟩ := plainElem_int_inv Tryz.underlying3 hR
      rw [hy] at a1
      simp only [DataW.lit.injEq, Lit.int.injEq, true_and] at a1
      rw [hv, a1]; rfl
theorem nat_wf {i : Nat} (h : i ≤ 9223372036854775807) : (Lit.int .i64 (i : Int)).wf = true := by
  have e1 : IntKind.i64.min = -9223372036854775808 := by decide
  have e2 : IntKind.i64.max = 9223372036854775807 := by decide
  simp [Lit.wf, e1, e2]
  omega
theorem MapF.put {w : World} {b n : Nat} {f : Str → Option Nat} (h : MapF w b n f) (hn : n < maxLen) {s : Str} (hs : s.length ≤ maxLen) {i : Nat} (hi : i ≤ 9223372036854775807) :
    ∃ w', (Instr.mapUpdate 136 (.map (some b)) (sv s) (.int .i64 (i : Int))).run Tryz.prog w = .ok () w' ∧ MapF w' b (n + 1) (fun t => if s = t then some i else f t) ∧ w.grownBy w' (some b) := by
  obtain ⟨D, hD, hm, hat⟩ := h
  obtain ⟨w', hrun, hD', hg⟩ := hD.update smapLaw Tryz.underlying136 hn (sKey hs) (plainElem_int Tryz.underlying3 (nat_wf hi))
  refine ⟨w', hrun, ⟨_, hD', hm.put _ _, fun t zd => ?_⟩, hg⟩
  by_cases e : s = t
  · subst e
    rw [atKey_put_same hm (k := .string s) (by simp [WideAt.IsKeyLit])]
    simp
  · rw [atKey_put_other (by intro hh; injection hh with hh; exact e hh.symm), hat t zd]
    simp [e]
theorem wpList_sPut (w : World) {ops : Array Oper} {rest : List Oper} {o : Oper} {a : Act} {Q : Exit → Act → World → Prop}
    (hg : o.guard = none) (m x v : Operand) (hop : o.op = Op.mapUpdate 136 m x v) (b n : Nat) (f : Str → Option Nat)
    (hm : a.eval m = .map (some b)) (s : Str) (i : Nat) (hx : a.eval x = sv s) (hv : a.eval v = .int .i64 (i : Int)) (hown : MapF w b n f) (hn : n < maxLen) (hs : s.length ≤ maxLen) (hi : i ≤ 9223372036854775807)
    (hK : ∀ w', MapF w' b (n + 1) (fun t => if s = t then some i else f t) → w.grownBy w' (some b) → wpList Tryz.prog ops Q rest (a.put o.dst undef) w') :
    wpList Tryz.prog ops Q (o :: rest) a w := by
  refine wpList_plain hg fun K' hK' => ?_
  obtain ⟨w', hrun, r1, r2⟩ := hown.put hn hs hi
  unfold Oper.wp
  simp [execOp, hop, hm, hx, hv, hrun, Result.andThen]
  exact hK' _ _ (hK w' r1 r2)
end Go.Proofs.YtiihgnagjemikaaGreatDoor
/- What lies in memory row by row, opened: an address is a letter, whether there is one or none; what an index tells. -/
namespace Go.Proofs.YtiihgnagjemikaaGreatDoor
open Go.RowKit Px

theorem cell_row {w : World} {g T : Nat} {cs : Array Value} (h : w.heap[g]? = some (.cells cs T (0, 0))) (j : Nat) {u : Value} (hj : cs[j]? = some u) : w.cell? ⟨g, j, none⟩ = some u := by
  simp [World.cell?, h, hj]
theorem ck_new (w : World) (o : Obj) : (w.alloc o).heap[w.heap.size]? = some o := heap_alloc_new w o
theorem ck_old {w : World} {b : Nat} {o o' : Obj} (h : w.heap[b]? = some o) : (w.alloc o').heap[b]? = some o := by
  rw [Below.heap_alloc _ _ _ (lt_of_block h)]; exact h
theorem ck_grown (w : World) (o : Obj) : Below w.heap.size w (w.alloc o) := (Below.refl _ _).alloc (Nat.le_refl _) _
theorem ck_all {w w' w'' : World} (h : Below w.heap.size w w') (k : Below w'.heap.size w' w'') : Below w.heap.size w w'' := h.trans (k.mono h.size)
theorem ck_cell {w w' : World} (h : Below w.heap.size w w') {a : Addr} {v : Value} (hc : w.cell? a = some v) : w'.cell? a = some v := by
  rw [h.cell (World.block_lt_of_cell? w a hc)]; exact hc
theorem ck_block {w w' : World} (h : Below w.heap.size w w') {b : Nat} {o : Obj} (hb : w.heap[b]? = some o) : w'.heap[b]? = some o := by
  rw [h.block b (lt_of_block hb)]; exact hb

/-- a row of records: its address, and each record's cells -/
theorem Row.open {α : Type} {R : α → List Value → Prop} {A : Nat → Prop} {w : World} {e k : Nat} {v : Value} {l : List α} {xs : List Value} (hk : ∀ a c, R a c → c.length = k) (hr : Row A w e k v l.length xs) (hs : Rows R l xs) :
    ∃ ad g cap, v = .slice ad l.length cap ∧ l.length ≤ maxLen ∧ (0 < l.length → ad = some ⟨g, 0, none⟩ ∧ A g ∧ g < w.heap.size) ∧ ∀ (i : Nat) (a : α), l[i]? = some a → ∃ c, R a c ∧ ∀ (j : Nat) (u : Value), c[j]? = some u → w.cell? ⟨g, i * k + j, none⟩ = some u := by
  have hc := fun g hg => World.ownsRow.cells hr.1 (g := g) hg
  have hl := fun g hg => World.ownsRow.lt hr.1 g hg
  have hA := hr.2
  rcases hr.1.2 with ⟨rfl, h0⟩ | ⟨g, cap, cur, rfl, _, _, h2, h3, _⟩
  · have : l = [] := List.length_eq_zero_iff.1 h0
    subst this
    exact ⟨none, 0, 0, rfl, Nat.zero_le _, fun h => absurd h (by simp), fun i a h => absurd h (by simp)⟩
  · refine ⟨_, g, cap, rfl, by omega, fun _ => ⟨rfl, hA g rfl, (hl g rfl).2⟩, fun i a hi => ?_⟩
    obtain ⟨c, hc', hx⟩ := Rows.get hk hs i a hi
    refine ⟨c, hc', fun j u hj => ?_⟩
    have h1 := hc g rfl _ u (hx j u hj)
    have ad : (⟨g, 0, none⟩ : Addr).add (i * k + j) = ⟨g, i * k + j, none⟩ := by unfold Addr.add; split <;> simp_all
    rw [ad] at h1
    exact h1

theorem ixV (ad : Option Addr) (g n cap k : Nat) (hk : k < n) (ha : 0 < n → ad = some ⟨g, 0, none⟩) (w : World) : (Instr.indexAt 32 (.slice ad n cap) (.int .i64 (k : Int))).run Tryz.prog w = .ok (.pointer (some ⟨g, k * 3, none⟩)) w := by
  obtain rfl := ha (by omega)
  rw [run_indexAt_slice _ _ _ _ _ _ _ (by kernel_rfl), if_pos ⟨by omega, by omega⟩]
  have e : (sizeOf (Tryz.prog.elem 32)).run Tryz.prog w = .ok 3 w := by kernel_rfl
  rw [e]
  simp [Result.andThen, Addr.add]
  try (intro h; exact h.symm)
theorem ixT (ad : Option Addr) (g n cap k : Nat) (hk : k < n) (ha : 0 < n → ad = some ⟨g, 0, none⟩) (w : World) : (Instr.indexAt 133 (.slice ad n cap) (.int .i64 (k : Int))).run Tryz.prog w = .ok (.pointer (some ⟨g, k * 9, none⟩)) w := by
  obtain rfl := ha (by omega)
  rw [run_indexAt_slice _ _ _ _ _ _ _ (by kernel_rfl), if_pos ⟨by omega, by omega⟩]
  have e : (sizeOf (Tryz.prog.elem 133)).run Tryz.prog w = .ok 9 w := by kernel_rfl
  rw [e]
  simp [Result.andThen, Addr.add]
  try (intro h; exact h.symm)
theorem ixS (ad : Option Addr) (g n cap k : Nat) (hk : k < n) (ha : 0 < n → ad = some ⟨g, 0, none⟩) (w : World) : (Instr.indexAt 165 (.slice ad n cap) (.int .i64 (k : Int))).run Tryz.prog w = .ok (.pointer (some ⟨g, k * 2, none⟩)) w := by
  obtain rfl := ha (by omega)
  rw [run_indexAt_slice _ _ _ _ _ _ _ (by kernel_rfl), if_pos ⟨by omega, by omega⟩]
  have e : (sizeOf (Tryz.prog.elem 165)).run Tryz.prog w = .ok 2 w := by kernel_rfl
  rw [e]
  simp [Result.andThen, Addr.add]
  try (intro h; exact h.symm)
theorem ixW (ad : Option Addr) (g n cap k : Nat) (hk : k < n) (ha : 0 < n → ad = some ⟨g, 0, none⟩) (w : World) : (Instr.indexAt 167 (.slice ad n cap) (.int .i64 (k : Int))).run Tryz.prog w = .ok (.pointer (some ⟨g, k * 7, none⟩)) w := by
  obtain rfl := ha (by omega)
  rw [run_indexAt_slice _ _ _ _ _ _ _ (by kernel_rfl), if_pos ⟨by omega, by omega⟩]
  have e : (sizeOf (Tryz.prog.elem 167)).run Tryz.prog w = .ok 7 w := by kernel_rfl
  rw [e]
  simp [Result.andThen, Addr.add]
  try (intro h; exact h.symm)
theorem ixR (ad : Option Addr) (g n cap k : Nat) (hk : k < n) (ha : 0 < n → ad = some ⟨g, 0, none⟩) (w : World) : (Instr.indexAt 33 (.slice ad n cap) (.int .i64 (k : Int))).run Tryz.prog w = .ok (.pointer (some ⟨g, k, none⟩)) w := by
  obtain rfl := ha (by omega)
  rw [run_indexAt_slice _ _ _ _ _ _ _ (by kernel_rfl), if_pos ⟨by omega, by omega⟩]
  have e : (sizeOf (Tryz.prog.elem 33)).run Tryz.prog w = .ok 1 w := by kernel_rfl
  rw [e]
  simp [Result.andThen, Addr.add]
  try (intro h; exact h.symm)
theorem ixI (ad : Option Addr) (g n cap k : Nat) (hk : k < n) (ha : 0 < n → ad = some ⟨g, 0, none⟩) (w : World) : (Instr.indexAt 199 (.slice ad n cap) (.int .i64 (k : Int))).run Tryz.prog w = .ok (.pointer (some ⟨g, k, none⟩)) w := by
  obtain rfl := ha (by omega)
  rw [run_indexAt_slice _ _ _ _ _ _ _ (by kernel_rfl), if_pos ⟨by omega, by omega⟩]
  have e : (sizeOf (Tryz.prog.elem 199)).run Tryz.prog w = .ok 1 w := by kernel_rfl
  rw [e]
  simp [Result.andThen, Addr.add]
  try (intro h; exact h.symm)
end Go.Proofs.YtiihgnagjemikaaGreatDoor
/-
  What numbers come to, as plain integers: the functions that the program's package value and the document's own answer are both held against. No program in sight.
-/
namespace Go.Proofs.YtiihgnagjemikaaGreatDoor
open Go.RowKit

def yes (b : Bool) : Int := if b then 1 else 0

def vOne (c a : Int) : Int := if c = 4 then wrap64 (-a) else if c = 5 then yes (a == 0) else 0

def vDiv (a b : Int) : Int := if b = 0 then 0 else wrap64 (a.tdiv b)
def vMod (a b : Int) : Int := if b = 0 then 0 else a.tmod b

def vTwo (c a b : Int) : Int :=
  if c = 6 then wrap64 (a + b) else
  if c = 7 then wrap64 (a - b) else
  if c = 8 then wrap64 (a * b) else
  if c = 9 then vDiv a b else
  if c = 10 then vMod a b else
  if c = 11 then yes (a == b) else
  if c = 12 then yes (a != b) else
  if c = 13 then yes (decide (a < b)) else
  if c = 14 then yes (decide (a ≤ b)) else
  if c = 15 then yes (a != 0 && b != 0) else
  if c = 16 then yes (a != 0 || b != 0) else 0

def vPick (a b c : Int) : Int := if a = 0 then c else b

/-! ### wraps -/
theorem wrap64_congr {x y : Int} (h : x % 18446744073709551616 = y % 18446744073709551616) : wrap64 x = wrap64 y := by
  unfold wrap64; omega

theorem wrap64_mod (x : Int) : wrap64 x % 18446744073709551616 = x % 18446744073709551616 := by
  unfold wrap64; omega

theorem wrap64_lo (x : Int) : -9223372036854775808 ≤ wrap64 x ∧ wrap64 x ≤ 9223372036854775807 := by
  unfold wrap64; omega

theorem wrap64_add (x y : Int) : wrap64 (wrap64 x + wrap64 y) = wrap64 (x + y) := by
  apply wrap64_congr
  rw [Int.add_emod, wrap64_mod, wrap64_mod, ← Int.add_emod]

theorem wrap64_mulL (x y : Int) : wrap64 (wrap64 x * y) = wrap64 (x * y) := by
  apply wrap64_congr
  rw [Int.mul_emod, wrap64_mod, ← Int.mul_emod]

theorem wrap64_mulR (x y : Int) : wrap64 (x * wrap64 y) = wrap64 (x * y) := by
  rw [Int.mul_comm, wrap64_mulL, Int.mul_comm]

theorem wrap64_subR (x y : Int) : wrap64 (x - wrap64 y) = wrap64 (x - y) := by
  unfold wrap64; omega

theorem wrap64_neg (x : Int) : wrap64 (-wrap64 x) = wrap64 (-x) := by
  unfold wrap64; omega

/-! ### sums of 64 bits without a sign -/
theorem u_add (a b : Int) : wrap64 (IntKind.u64.wrap (IntKind.u64.wrap a + IntKind.u64.wrap b)) = wrap64 (a + b) := by
  rw [IntKind.wrap_u64, IntKind.wrap_u64, IntKind.wrap_u64]; unfold wrap64; omega

theorem u_sub (a b : Int) : wrap64 (IntKind.u64.wrap (IntKind.u64.wrap a - IntKind.u64.wrap b)) = wrap64 (a - b) := by
  rw [IntKind.wrap_u64, IntKind.wrap_u64, IntKind.wrap_u64]; unfold wrap64; omega

theorem u_mul (a b : Int) : wrap64 (IntKind.u64.wrap (IntKind.u64.wrap a * IntKind.u64.wrap b)) = wrap64 (a * b) := by
  rw [IntKind.wrap_u64, IntKind.wrap_u64, IntKind.wrap_u64]
  apply wrap64_congr
  rw [Int.emod_emod_of_dvd _ (Int.dvd_refl _), ← Int.mul_emod]

/-! ### quotients by their sizes -/
theorem size_quo (a b : Int) (ha : -9223372036854775808 ≤ a ∧ a ≤ 9223372036854775807) :
    IntKind.u64.wrap ((a.natAbs : Int) / (b.natAbs : Int)) = ((a.natAbs / b.natAbs : Nat) : Int) := by
  have h := Nat.div_le_self a.natAbs b.natAbs
  rw [IntKind.wrap_u64, ← Int.natCast_ediv]
  generalize a.natAbs / b.natAbs = q at h ⊢
  omega

theorem tdiv_same (a b : Int) (h : (decide (a < 0)) = decide (b < 0)) : a.tdiv b = ((a.natAbs / b.natAbs : Nat) : Int) := by
  by_cases h1 : a < 0
  · have h2 : b < 0 := by simpa [h1] using h
    obtain ⟨x, rfl⟩ : ∃ x : Nat, a = -(x : Int) := ⟨a.natAbs, by omega⟩
    obtain ⟨y, rfl⟩ : ∃ y : Nat, b = -(y : Int) := ⟨b.natAbs, by omega⟩
    rw [Int.neg_tdiv, Int.tdiv_neg, Int.neg_neg, Int.natAbs_neg, Int.natAbs_neg, Int.natAbs_natCast, Int.natAbs_natCast, Int.ofNat_tdiv]
  · have h2 : ¬ b < 0 := by simpa [h1] using h
    obtain ⟨x, rfl⟩ : ∃ x : Nat, a = (x : Int) := ⟨a.natAbs, by omega⟩
    obtain ⟨y, rfl⟩ : ∃ y : Nat, b = (y : Int) := ⟨b.natAbs, by omega⟩
    rw [Int.natAbs_natCast, Int.natAbs_natCast, Int.ofNat_tdiv]

theorem tdiv_other (a b : Int) (h : (decide (a < 0)) ≠ decide (b < 0)) : a.tdiv b = -((a.natAbs / b.natAbs : Nat) : Int) := by
  by_cases h1 : a < 0
  · have h2 : ¬ b < 0 := by simpa [h1] using h
    obtain ⟨x, rfl⟩ : ∃ x : Nat, a = -(x : Int) := ⟨a.natAbs, by omega⟩
    obtain ⟨y, rfl⟩ : ∃ y : Nat, b = (y : Int) := ⟨b.natAbs, by omega⟩
    rw [Int.neg_tdiv, Int.natAbs_neg, Int.natAbs_natCast, Int.natAbs_natCast, Int.ofNat_tdiv]
  · have h2 : b < 0 := by simpa [h1] using h
    obtain ⟨x, rfl⟩ : ∃ x : Nat, a = (x : Int) := ⟨a.natAbs, by omega⟩
    obtain ⟨y, rfl⟩ : ∃ y : Nat, b = -(y : Int) := ⟨b.natAbs, by omega⟩
    rw [Int.tdiv_neg, Int.natAbs_neg, Int.natAbs_natCast, Int.natAbs_natCast, Int.ofNat_tdiv]

theorem tmod_small (a b : Int) (hb : -9223372036854775808 ≤ b ∧ b ≤ 9223372036854775807) (h : ¬ b = 0) :
    -9223372036854775808 ≤ a.tmod b ∧ a.tmod b ≤ 9223372036854775807 := by
  have h1 := Int.natAbs_tmod a b
  have h2 := Nat.mod_lt a.natAbs (show 0 < b.natAbs by omega)
  omega

theorem left_is (a b : Int) (hb : -9223372036854775808 ≤ b ∧ b ≤ 9223372036854775807) (h : ¬ b = 0) :
    wrap64 (a - wrap64 (vDiv a b * b)) = vMod a b := by
  unfold vDiv vMod
  rw [if_neg h, if_neg h, wrap64_subR, ← wrap64_subR, wrap64_mulL, wrap64_subR, IntWalk.wrap64_in]
  · rw [Int.tmod_def, Int.mul_comm]
  · have e : a - a.tdiv b * b = a.tmod b := by rw [Int.tmod_def, Int.mul_comm]
    rw [e]
    exact tmod_small a b hb h

theorem quo_same (a b : Int) (ha : -9223372036854775808 ≤ a ∧ a ≤ 9223372036854775807) (h : ¬ b = 0) (hs : (decide (a < 0)) = decide (b < 0)) :
    wrap64 (IntKind.u64.wrap ((a.natAbs : Int) / (b.natAbs : Int))) = vDiv a b := by
  unfold vDiv
  rw [if_neg h, size_quo a b ha, tdiv_same a b hs]

theorem quo_other (a b : Int) (ha : -9223372036854775808 ≤ a ∧ a ≤ 9223372036854775807) (h : ¬ b = 0) (hs : (decide (a < 0)) ≠ decide (b < 0)) :
    wrap64 (-wrap64 (IntKind.u64.wrap ((a.natAbs : Int) / (b.natAbs : Int)))) = vDiv a b := by
  unfold vDiv
  rw [if_neg h, size_quo a b ha, wrap64_neg, tdiv_other a b hs]

end Go.Proofs.YtiihgnagjemikaaGreatDoor
/- Plain mathematics of chapter 5: how a chart runs; no program. -/
namespace Go.Proofs.YtiihgnagjemikaaGreatDoor
open Go.RowKit
namespace Px

abbrev Env := Str → Int
/-- what an expression comes to -/
def evE (now was : Env) : E → Int
  | .nil => 0
  | .node _ _ a l r => if a.code = 1 then a.num else if a.code = 2 then now a.name else if a.code = 3 then was a.name else if a.code = 4 ∨ a.code = 5 then vOne a.code (evE now was l) else vTwo a.code (evE now was l) (evE now was r)
def updE (n : Env) (s : Str) (x : Int) : Env := fun t => if s = t then x else n t
/-- what is set, one by one -/
def doS (was : Env) : List Asg → Env → Env
  | [], n => n
  | a :: r, n => doS was r (updE n a.name (evE n was a.e))
def noE : E → Bool
  | .nil => true
  | .node _ _ _ _ _ => false
/-- a way is so -/
def isSo (ov : Bool) (now was : Env) (y : Wy) : Bool := (!decide (y.kind = 2) || ov) && (noE y.cond || decide (evE now was y.cond ≠ 0))
/-- the first way of those that are asked that is open, and how often ways were so -/
def opnI (ov : Bool) (now was : Env) (asked : Wy → Bool) (ys : List Wy) : Nat → Nat → List Int → Option Nat × List Int
  | 0, _, cs => (none, cs)
  | f + 1, i, cs => match ys[i]? with
    | none => (none, cs)
    | some y =>
      if asked y && isSo ov now was y then
        if (y.times : Int) ≤ wrap64 (cs.getD i 0 + 1) then (some i, cs.set i (wrap64 (cs.getD i 0 + 1))) else opnI ov now was asked ys f (i + 1) (cs.set i (wrap64 (cs.getD i 0 + 1)))
      else opnI ov now was asked ys f (i + 1) cs
def opnW (ov : Bool) (now was : Env) (asked : Wy → Bool) (ys : List Wy) (cs : List Int) : Option Nat × List Int := opnI ov now was asked ys ys.length 0 cs
def askNS (y : Wy) : Bool := y.now && decide (y.kind = 1)
def askNW (y : Wy) : Bool := y.now && !decide (y.kind = 1)
def askS (y : Wy) : Bool := decide (y.kind = 1)
def askW (y : Wy) : Bool := !decide (y.kind = 1)

/-- what runs of a state: how often its ways were so, and what is inside -/
structure SdF (ρ : Type) where
  so : List Int
  inside : List ρ
/-- what runs of a region: which state is there, which one was, and all of them -/
structure RdF (ρ : Type) where
  there : Option Nat
  was : Option Nat
  sts : List (SdF ρ)
def Rd : Nat → Type
  | 0 => Unit
  | k + 1 => RdF (Rd k)
/-- what is done with a region -/
structure Ops (σ ρ : Type) where
  over : List σ → ρ → Bool
  enter : Env → Bool → List σ → Env → ρ → Option (Env × ρ)
  go : Env → List σ → Env → ρ → Option (Env × ρ)
  leave : Env → List σ → Env → ρ → Option (Env × ρ)
section
variable {σ ρ : Type}
/-- the same with each of some regions, one by one -/
def allI (f : List σ → Env → ρ → Option (Env × ρ)) (rs : List (List σ)) : Nat → Nat → Env → List ρ → Option (Env × List ρ)
  | 0, _, n, ds => some (n, ds)
  | fu + 1, i, n, ds => match rs[i]?, ds[i]? with
    | some r, some d => match f r n d with
      | none => none
      | some p => allI f rs fu (i + 1) p.1 (ds.set i p.2)
    | _, _ => none
def overs (O : Ops σ ρ) : List (List σ) → List ρ → Bool
  | r :: rs, d :: ds => O.over r d && overs O rs ds
  | _, _ => true
def firstI (L : List (StF σ)) : Option Nat := L.findIdx? (·.first)
def overR (L : List (StF σ)) (d : RdF ρ) : Bool := match d.there with
  | none => false
  | some i => match L[i]? with
    | none => false
    | some s => s.last
def leaveR (O : Ops σ ρ) (was : Env) (L : List (StF σ)) (n : Env) (d : RdF ρ) : Option (Env × RdF ρ) := match d.there with
  | none => some (n, d)
  | some i => match L[i]?, d.sts[i]? with
    | some s, some x => match allI (O.leave was) s.regions s.regions.length 0 n x.inside with
      | none => none
      | some p => some (doS was s.leave p.1, ⟨none, some i, d.sts.set i ⟨x.so, p.2⟩⟩)
    | _, _ => none
/-- all of entering but the way that is open then -/
def arriveR (O : Ops σ ρ) (was : Env) (L : List (StF σ)) (i : Nat) (back : Bool) (n : Env) (d : RdF ρ) : Option (Option Nat × Env × RdF ρ) := match L[i]?, d.sts[i]? with
  | some s, some x =>
    let n1 := doS was s.enter n
    let o1 := opnW (overs O s.regions x.inside) n1 was askNS s.ways (List.replicate s.ways.length 0)
    match o1.1 with
    | some j => some (some j, n1, ⟨some i, d.was, d.sts.set i ⟨o1.2, x.inside⟩⟩)
    | none => match allI (O.enter was back) s.regions s.regions.length 0 n1 x.inside with
      | none => none
      | some p =>
        let o2 := opnW (overs O s.regions p.2) p.1 was askNW s.ways o1.2
        some (o2.1, p.1, ⟨some i, d.was, d.sts.set i ⟨o2.2, p.2⟩⟩)
  | _, _ => none
/-- all of going on but the way that is open then -/
def passR (O : Ops σ ρ) (was : Env) (L : List (StF σ)) (n : Env) (d : RdF ρ) : Option (Option Nat × Env × RdF ρ) := match d.there with
  | none => none
  | some i => match L[i]?, d.sts[i]? with
    | some s, some x =>
      let o1 := opnW (overs O s.regions x.inside) n was askS s.ways x.so
      match o1.1 with
      | some j => some (some j, n, ⟨some i, d.was, d.sts.set i ⟨o1.2, x.inside⟩⟩)
      | none =>
        if evE n was s.rests ≠ 0 then some (none, n, ⟨some i, d.was, d.sts.set i ⟨o1.2, x.inside⟩⟩)
        else match allI (O.go was) s.regions s.regions.length 0 (doS was s.during n) x.inside with
          | none => none
          | some p =>
            let o2 := opnW (overs O s.regions p.2) p.1 was askW s.ways o1.2
            some (o2.1, p.1, ⟨some i, d.was, d.sts.set i ⟨o2.2, p.2⟩⟩)
    | _, _ => none
/-- one way is taken, but for the way that is open then -/
def takeR (O : Ops σ ρ) (was : Env) (L : List (StF σ)) (j : Nat) (n : Env) (d : RdF ρ) : Option (Option Nat × Env × RdF ρ) := match d.there with
  | none => none
  | some i => match L[i]? with
    | none => none
    | some s => match s.ways[j]? with
      | none => none
      | some y => match leaveR O was L n d with
        | none => none
        | some p => match fnd (snames L) y.to with
          | none => none
          | some t => arriveR O was L t y.back (doS was y.sets p.1) p.2
def followR (O : Ops σ ρ) (was : Env) (L : List (StF σ)) : Nat → Option Nat → Env → RdF ρ → Option (Env × RdF ρ)
  | _, none, n, d => some (n, d)
  | 0, some _, _, _ => none
  | f + 1, some j, n, d => match takeR O was L j n d with
    | none => none
    | some p => followR O was L f p.1 p.2.1 p.2.2
def enterAt (O : Ops σ ρ) (was : Env) (L : List (StF σ)) (i : Nat) (back : Bool) (n : Env) (d : RdF ρ) : Option (Env × RdF ρ) := match arriveR O was L i back n d with
  | none => none
  | some p => followR O was L (L.length + 2) p.1 p.2.1 p.2.2
def enterR (O : Ops σ ρ) (was : Env) (back : Bool) (L : List (StF σ)) (n : Env) (d : RdF ρ) : Option (Env × RdF ρ) := match back, d.was with
  | true, some i => enterAt O was L i true n d
  | _, _ => match firstI L with
    | none => none
    | some i => enterAt O was L i false n d
def goR (O : Ops σ ρ) (was : Env) (L : List (StF σ)) (n : Env) (d : RdF ρ) : Option (Env × RdF ρ) := match passR O was L n d with
  | none => none
  | some p => followR O was L (L.length + 2) p.1 p.2.1 p.2.2
def OpsF (O : Ops σ ρ) : Ops (StF σ) (RdF ρ) := ⟨overR, enterR O, goR O, leaveR O⟩
end
def OpsK : (k : Nat) → Ops (St k) (Rd k)
  | 0 => ⟨fun _ _ => false, fun _ _ _ n d => some (n, d), fun _ _ n d => some (n, d), fun _ _ n d => some (n, d)⟩
  | k + 1 => OpsF (OpsK k)
/-- a region in which nothing is there -/
def layD : (k : Nat) → List (St k) → Rd k
  | 0 => fun _ => ()
  | k + 1 => fun L => ⟨none, none, List.map (fun s : StF (St k) => ⟨s.ways.map fun _ => 0, s.regions.map (layD k)⟩) L⟩
/-- a chart that runs -/
structure Rn where
  now : Env
  was : Env
  ds : List (Rd 6)
def firstE (vs : List Decl) : Env := vs.foldl (fun n v => updE n v.name v.first) (fun _ => 0)
/-- inputs are what they are told -/
def hearE : List Decl → List Int → Env → Env
  | [], _, n => n
  | v :: r, ins, n => if v.kind = 1 then hearE r ins.tail (updE n v.name (ins.headD 0)) else hearE r ins n
def newC (c : Chart) : Rn := ⟨firstE c.vars, firstE c.vars, c.regions.map (layD 6)⟩
def tickG (was : Env) (L : List (St 6)) (n : Env) (d : Rd 6) : Option (Env × Rd 6) :=
  if (show RdF (Rd 5) from d).there = none then (OpsK 6).enter was false L n d else (OpsK 6).go was L n d
def tellC (p : Nat → Bool) (vs : List Decl) (n : Env) : List Int := (vs.filter fun v => p v.kind).map fun v => n v.name
def tickC (c : Chart) (ins : List Int) (r : Rn) : Option Rn := match allI (tickG r.was) c.regions c.regions.length 0 (hearE c.vars ins r.now) r.ds with
  | none => none
  | some p => some ⟨p.1, p.1, p.2⟩
def outsC (c : Chart) (r : Rn) : List Int := tellC (fun k => decide (k = 2)) c.vars r.now
/-- names of what is there -/
def thereF {σ ρ : Type} (f : List σ → ρ → List Str) (L : List (StF σ)) (d : RdF ρ) : List Str := match d.there with
  | none => []
  | some i => match L[i]?, d.sts[i]? with
    | some s, some x => s.name :: (List.zipWith f s.regions x.inside).flatten
    | _, _ => []
def thereK : (k : Nat) → List (St k) → Rd k → List Str
  | 0 => fun _ _ => []
  | k + 1 => fun L d => thereF (thereK k) L d
def thereC (c : Chart) (r : Rn) : List Str := (List.zipWith (thereK 6) c.regions r.ds).flatten
end Px
end Go.Proofs.YtiihgnagjemikaaGreatDoor
/- A map of names to numbers of 64 bits, told by an environment. -/
namespace Go.Proofs.YtiihgnagjemikaaGreatDoor
open Go.RowKit Go.Maps Go.WideMaps Px

/-- a number of 64 bits -/
def N64 (x : Int) : Prop := -9223372036854775808 ≤ x ∧ x ≤ 9223372036854775807
theorem N64.wf {x : Int} (h : N64 x) : (Lit.int .i64 x).wf = true := by
  have e1 : IntKind.i64.min = -9223372036854775808 := by decide
  have e2 : IntKind.i64.max = 9223372036854775807 := by decide
  unfold N64 at h
  simp [Lit.wf, e1, e2]
  omega
theorem N64.of_wf {x : Int} (h : (Lit.int .i64 x).wf = true) : N64 x := by
  have e1 : IntKind.i64.min = -9223372036854775808 := by decide
  have e2 : IntKind.i64.max = 9223372036854775807 := by decide
  simp [Lit.wf, e1, e2] at h
  exact ⟨h.1, h.2⟩
theorem N64.zero : N64 0 := by unfold N64; omega
theorem yes_n64 (b : Bool) : N64 (yes b) := by unfold N64 yes; split <;> omega
theorem vOne_n64 (c a : Int) : N64 (vOne c a) := by
  unfold vOne
  split
  · exact wrap64_lo _
  · split
    · exact yes_n64 _
    · exact N64.zero
theorem vTwo_n64 {c a b : Int} (hb : N64 b) : N64 (vTwo c a b) := by
  unfold vTwo
  repeat' split
  all_goals first
    | exact wrap64_lo _
    | exact yes_n64 _
    | exact N64.zero
    | skip
  · unfold vDiv; split
    · exact N64.zero
    · exact wrap64_lo _
  · unfold vMod; split
    · exact N64.zero
    · have := tmod_small a b hb (by assumption)
      unfold N64
      omega
theorem smapZero64 (w : World) : (zeroValue 2).run Tryz.prog w = .ok (.int .i64 0) w := by kernel_rfl
/-- block b is a map that has those names, and of each name what f tells -/
def MapE (w : World) (b m : Nat) (ns : List Str) (f : Px.Env) : Prop :=
  ∃ D : DataW Unit, w.ownsMap Tryz.prog 9 (plainElem Tryz.prog 2) b (Maps.size D) D ∧ Maps.size D ≤ m ∧ (∀ s ∈ ns, Maps.has D (.string s) = true) ∧ (∀ s : Str, Maps.has D (.string s) = true → s ∈ ns) ∧ ∀ (s : Str), D.atKey (.string s) (.lit (.int .i64 0)) = .lit (.int .i64 (f s))
section
variable {w w' : World} {b m : Nat} {ns : List Str} {f g : Px.Env}
theorem MapE.lt (h : MapE w b m ns f) : b < w.heap.size := by obtain ⟨D, h, _⟩ := h; exact h.lt
theorem MapE.keep (h : MapE w b m ns f) (hb : w'.heap[b]? = w.heap[b]?) : MapE w' b m ns f := by
  obtain ⟨D, ⟨es, clock, h1, h2⟩, h3⟩ := h
  exact ⟨D, ⟨es, clock, by rw [hb]; exact h1, h2⟩, h3⟩
theorem MapE.below (h : MapE w b m ns f) (hb : Below w.heap.size w w') : MapE w' b m ns f := h.keep (hb.block b h.lt)
theorem MapE.like (h : MapE w b m ns f) (hfg : ∀ s, f s = g s) : MapE w b m ns g := by
  have : f = g := funext hfg
  exact this ▸ h
/-- what it tells of a name -/
theorem MapE.look (h : MapE w b m ns f) {s : Str} (hs : s.length ≤ maxLen) :
    (Instr.lookup 91 (.map (some b)) (sv s) false).run Tryz.prog w = .ok (.int .i64 (f s)) w ∧ N64 (f s) := by
  obtain ⟨D, h1, _, _, _, h2⟩ := h
  obtain ⟨c, hrun, hat, hwc⟩ := h1.lookup_int smapLaw Tryz.underlying91 Tryz.underlying2 (smapZero64 w) (sKey hs)
  rw [h2 s] at hat
  injection hat with hat
  injection hat with _ hat
  rw [hat]
  exact ⟨hrun, N64.of_wf hwc⟩
theorem mapE_size {D : DataW Unit} {n : Nat} (h : w.ownsMap Tryz.prog 9 (plainElem Tryz.prog 2) b n D) : w.ownsMap Tryz.prog 9 (plainElem Tryz.prog 2) b (Maps.size D) D := by
  obtain ⟨es, clock, h1, h2, h3, rfl⟩ := h
  refine ⟨es, clock, h1, h2, ?_, rfl⟩
  show es.size ≤ ((es.toList.map _).foldr DataW.insert []).length
  rw [length_sorted]; simp
theorem MapE.put (h : MapE w b m ns f) (hm : m ≤ 1000000) {s : Str} (hn : s ∈ ns) (hs : s.length ≤ maxLen) {x : Int} (hx : N64 x) :
    ∃ w', (Instr.mapUpdate 91 (.map (some b)) (sv s) (.int .i64 x)).run Tryz.prog w = .ok () w' ∧ MapE w' b m ns (updE f s x) ∧ w.grownBy w' (some b) := by
  obtain ⟨D, hD, hz, hk, ho, hat⟩ := h
  obtain ⟨w', hrun, hD', hg⟩ := hD.update smapLaw Tryz.underlying91 (by unfold maxLen; omega) (sKey hs) (plainElem_int Tryz.underlying2 hx.wf)
  refine ⟨w', hrun, ⟨_, mapE_size hD', ?_, fun t ht => ?_, fun t ht => ?_, fun t => ?_⟩, hg⟩
  · rw [Maps.size_put (hD.tidy smapLaw), hk s hn]; exact hz
  · by_cases e : s = t
    · subst e; exact Maps.has_put_same hD.isMap (by simp [WideAt.IsKeyLit]) _
    · rw [Maps.has_put_other (by intro hh; injection hh with hh; exact e hh.symm)]; exact hk t ht
  · by_cases e : s = t
    · rw [← e]; exact hn
    · rw [Maps.has_put_other (by intro hh; injection hh with hh; exact e hh.symm)] at ht; exact ho t ht
  · by_cases e : s = t
    · subst e
      rw [atKey_put_same hD.isMap (k := .string s) (by simp [WideAt.IsKeyLit])]
      simp [updE]
    · rw [atKey_put_other (by intro hh; injection hh with hh; exact e hh.symm), hat t]
      simp [updE, e]
/-- .. of a name that may be new -/
theorem MapE.add (h : MapE w b m ns f) (hm : m < 1000000) {s : Str} (hs : s.length ≤ maxLen) {x : Int} (hx : N64 x) :
    ∃ w', (Instr.mapUpdate 91 (.map (some b)) (sv s) (.int .i64 x)).run Tryz.prog w = .ok () w' ∧ MapE w' b (m + 1) (s :: ns) (updE f s x) ∧ w.grownBy w' (some b) := by
  obtain ⟨D, hD, hz, hk, ho, hat⟩ := h
  obtain ⟨w', hrun, hD', hg⟩ := hD.update smapLaw Tryz.underlying91 (by unfold maxLen; omega) (sKey hs) (plainElem_int Tryz.underlying2 hx.wf)
  refine ⟨w', hrun, ⟨_, mapE_size hD', ?_, fun t ht => ?_, fun t ht => ?_, fun t => ?_⟩, hg⟩
  · rw [Maps.size_put (hD.tidy smapLaw)]; split <;> omega
  · by_cases e : s = t
    · subst e; exact Maps.has_put_same hD.isMap (by simp [WideAt.IsKeyLit]) _
    · rw [Maps.has_put_other (by intro hh; injection hh with hh; exact e hh.symm)]
      rcases List.mem_cons.1 ht with h | h
      · exact absurd h.symm e
      · exact hk t h
  · by_cases e : s = t
    · rw [← e]; simp
    · rw [Maps.has_put_other (by intro hh; injection hh with hh; exact e hh.symm)] at ht; exact List.mem_cons_of_mem _ (ho t ht)
  · by_cases e : s = t
    · subst e
      rw [atKey_put_same hD.isMap (k := .string s) (by simp [WideAt.IsKeyLit])]
      simp [updE]
    · rw [atKey_put_other (by intro hh; injection hh with hh; exact e hh.symm), hat t]
      simp [updE, e]
theorem mapE_made (w : World) : MapE (w.alloc (.map #[] 0)) w.heap.size 0 [] (fun _ => 0) :=
  ⟨.map [], World.ownsMap_made _ _ _ _, Nat.le_refl _, fun _ h => absurd h (by simp), fun _ h => absurd h (by simp [Maps.has]), fun _ => rfl⟩
end
end Go.Proofs.YtiihgnagjemikaaGreatDoor
/- A chart's variables, copied: maps.Clone, maps.Copy. -/
namespace Go.Proofs.YtiihgnagjemikaaGreatDoor
open Go.RowKit Go.Maps Go.WideMaps Px

theorem size_foldPut : ∀ (es : List (Lit × DataW Unit)) (D : DataW Unit), Tidy D → (∀ p ∈ es, WideAt.IsKeyLit p.1 ∧ Maps.has D p.1 = true) → Maps.size (es.foldl (fun D p => D.put p.1 p.2) D) = Maps.size D
  | [], _, _, _ => rfl
  | a :: r, D, hT, hk => by
    rw [List.foldl_cons, size_foldPut r _ (hT.put (hk a (by simp)).1 a.2) (fun p hp => ⟨(hk p (List.mem_cons_of_mem _ hp)).1, ?_⟩), size_put hT, (hk a (by simp)).2, if_pos rfl]
    by_cases e : p.1 = a.1
    · rw [e]; exact Maps.has_put_same hT.isMap (hk a (by simp)).1 _
    · rw [Maps.has_put_other e]; exact (hk p (List.mem_cons_of_mem _ hp)).2
section
variable {w : World} {b bd bs m : Nat} {ns : List Str} {f g : Px.Env}
theorem mclone_any (h : MapE w b m ns f) : Calls Tryz.prog 36 #[.map (some b)] w fun e w' => e = .returned (.map (some w.heap.size)) ∧ Hid (MapE w' w.heap.size m ns f ∧ MapE w' b m ns f ∧ Below w.heap.size w w') := by
  obtain ⟨D, hD, h1⟩ := h
  refine (AnyW.maps_Clone_owns Tryz.cloneE 9 (plainElem Tryz.prog 2) b (Maps.size D) D w hD).mono ?_
  rintro e w' ⟨he, h2, h3, h4⟩
  exact ⟨he, ⟨D, h2, h1⟩, ⟨D, h3, h1⟩, h4⟩
theorem keys_string {D : DataW Unit} {n : Nat} (h : w.ownsMap Tryz.prog 9 (plainElem Tryz.prog 2) b n D) : ∃ es, D = .map es ∧ es.Pairwise (fun p q => p.1 ≠ q.1) ∧ ∀ p ∈ es, ∃ s, p.1 = Lit.string s := by
  obtain ⟨es, rfl, hp⟩ := h.tidy smapLaw
  obtain ⟨es', e, _, hk⟩ := h.canonK smapLaw
  injection e with e
  subst e
  refine ⟨es, rfl, hp, fun p hm => ?_⟩
  obtain ⟨v, hv⟩ := hk p hm
  exact (WideMaps.string_law Tryz.underlying9).str hv
theorem mcopy_any (hd : MapE w bd m ns f) (hs : MapE w bs m ns g) (hne : bd ≠ bs) (hm : m ≤ 1000000) : Calls Tryz.prog 41 #[.map (some bd), .map (some bs)] w fun e w' => e = .returned (.tuple #[]) ∧ Hid (MapE w' bd m ns g ∧ MapE w' bs m ns g ∧ w.grownBy w' (some bd)) := by
  obtain ⟨Dd, hD, hz, hk, ho, hat⟩ := hd
  obtain ⟨Ds, hD2, hz2, hk2, ho2, hat2⟩ := hs
  refine (AnyX.maps_Copy Tryz.copyE smapLaw (plainElem Tryz.prog 2) bd bs (Maps.size Dd) (Maps.size Ds) Dd Ds w hD hD2 hne (by unfold maxLen; omega)).mono ?_
  rintro e w' ⟨he, h2, h3, h4⟩
  obtain ⟨es, rfl, hp, hks⟩ := keys_string hD2
  have hkl : ∀ p ∈ es, WideAt.IsKeyLit p.1 := fun p hp => by obtain ⟨s, e⟩ := hks p hp; rw [e]; simp [WideAt.IsKeyLit]
  have hany : ∀ s : Str, Maps.has (.map es : DataW Unit) (.string s) = es.any (fun p => p.1.sameKey (.string s)) := fun s => rfl
  have hin : ∀ p ∈ es, Maps.has Dd p.1 = true := fun p hp => by
    obtain ⟨s, e⟩ := hks p hp
    rw [e]
    refine hk s (ho2 s ?_)
    rw [hany, List.any_eq_true]
    exact ⟨p, hp, by rw [e]; exact WideAt.sameKey_self (by simp [WideAt.IsKeyLit])⟩
  have hsz : Maps.size (Lib.mergeD Dd (.map es)) = Maps.size Dd := size_foldPut es Dd (hD.tidy smapLaw) fun p hp => ⟨hkl p hp, hin p hp⟩
  have hh : ∀ s : Str, Maps.has (Lib.mergeD Dd (.map es)) (.string s) = (Maps.has Dd (.string s) || es.any (fun p => p.1.sameKey (.string s))) := fun s => has_foldPut (.string s) es Dd hD.isMap hkl
  refine ⟨he, ⟨_, mapE_size h2, by rw [hsz]; exact hz, fun s hs => by rw [hh, hk s hs]; rfl, fun s hs => ?_, fun s => ?_⟩, ⟨_, h3, hz2, hk2, ho2, hat2⟩, h4⟩
  · rw [hh, Bool.or_eq_true] at hs
    rcases hs with hs | hs
    · exact ho s hs
    · exact ho2 s hs
  · have ha := atKey_foldPut (.string s) (.lit (.int .i64 0)) es Dd hD.isMap hkl hp
    refine ha.trans ?_
    have h5 := hat2 s
    have hdef : (DataW.map es : DataW Unit).atKey (.string s) (.lit (.int .i64 0)) = match es.find? (fun p => p.1.sameKey (.string s)) with | some p => p.2 | none => .lit (.int .i64 0) := by
      simp only [DataW.atKey]
      cases es.find? (fun p => p.1.sameKey (.string s)) <;> rfl
    rw [hdef] at h5
    cases hf : es.find? (fun p => p.1.sameKey (.string s)) with
    | some p => rw [hf] at h5; exact h5
    | none =>
      rw [hf] at h5
      simp only at h5 ⊢
      rw [hat s]
      have hno : s ∉ ns := fun hs => by
        have := hk2 s hs
        rw [hany, List.any_eq_true] at this
        obtain ⟨p, hp', hk'⟩ := this
        rw [List.find?_eq_none] at hf
        exact hf p hp' hk'
      have hnd : Maps.has Dd (.string s) = false := by
        cases hx : Maps.has Dd (.string s) with
        | false => rfl
        | true => exact absurd (ho s hx) hno
      have := Maps.atKey_of_not_has hnd (.lit (.int .i64 0))
      rw [hat s] at this
      rw [this]
      exact h5
end
end Go.Proofs.YtiihgnagjemikaaGreatDoor
