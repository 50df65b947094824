/- What code is, what may be wrong with it, and what it tells: plain, no program in sight. -/
import Derived.Test.YtlaimlfacheolaaGreatDoorVPlain
namespace Go.Proofs.YtlaimlfacheolaaGreatDoor
namespace Nx

structure Sp where
  code : Int
  dst : Int
  a : Int
  b : Int
  c : Int

structure Nt where
  places : Int
  first : List Int
  ins : List Int
  outs : List Int
  keeps : List Int
  nums : List Int
  code : List Sp

def sp0 : Sp := ⟨0, 0, 0, 0, 0⟩

/-- what stands at a place of a list; 0 if it has none there -/
def get (l : List Int) (i : Int) : Int := if 0 ≤ i then l.getD i.toNat 0 else 0
def put (l : List Int) (i x : Int) : List Int := if 0 ≤ i then l.set i.toNat x else l

theorem put_len (l : List Int) (i x : Int) : (put l i x).length = l.length := by unfold put; split <;> simp
theorem get_nat (l : List Int) (k : Nat) : get l k = l.getD k 0 := by unfold get; simp
theorem get_low (l : List Int) (i : Int) (h : i < 0) : get l i = 0 := by unfold get; rw [if_neg (by omega)]
theorem get_high (l : List Int) (i : Int) (h : (l.length : Int) ≤ i) : get l i = 0 := by
  unfold get
  split
  · rw [List.getD_eq_getElem?_getD, List.getElem?_eq_none (by omega)]; rfl
  · rfl
theorem get_in (l : List Int) (i : Int) (h0 : 0 ≤ i) : get l i = l.getD i.toNat 0 := by unfold get; rw [if_pos h0]
theorem put_in (l : List Int) (i x : Int) (h0 : 0 ≤ i) : put l i x = l.set i.toNat x := by unfold put; rw [if_pos h0]
theorem put_out (l : List Int) (i x : Int) (h : i < 0 ∨ (l.length : Int) ≤ i) : put l i x = l := by
  unfold put
  split
  · rw [List.set_eq_of_length_le (by omega)]
  · rfl
theorem get_put (l : List Int) (i j x : Int) : get (put l i x) j = if i = j ∧ 0 ≤ i ∧ i < l.length then x else get l j := by
  by_cases hj : 0 ≤ j
  · rw [get_in _ _ hj, get_in _ _ hj]
    by_cases hi : 0 ≤ i
    · rw [put_in _ _ _ hi]
      simp only [List.getD_eq_getElem?_getD, List.getElem?_set]
      by_cases e : i = j
      · subst e
        by_cases hl : i < l.length
        · rw [if_pos rfl, if_pos (by omega), if_pos ⟨rfl, hi, hl⟩]; rfl
        · rw [if_pos rfl, if_neg (by omega), if_neg (by omega), List.getElem?_eq_none (by omega)]
      · rw [if_neg (by omega), if_neg (by omega)]
    · rw [put_out _ _ _ (.inl (by omega)), if_neg (by omega)]
  · rw [get_low _ _ (by omega), get_low _ _ (by omega)]
    split
    · omega
    · rfl

def asks (s : Sp) : List Int :=
  if s.code = 2 ∨ s.code = 4 ∨ s.code = 5 then [s.a] else if 6 ≤ s.code ∧ s.code ≤ 16 then [s.a, s.b] else if s.code = 17 then [s.a, s.b, s.c] else []

def isPl (P p : Int) : Bool := decide (0 ≤ p) && decide (p < P)

/-- what is wrong with one step -/
def stepE (P : Int) (nums : Nat) (s : Sp) : Nat :=
  if s.code < 1 ∨ 17 < s.code ∨ s.code = 3 then 3
  else if ¬ (isPl P s.dst = true ∧ (asks s).all (isPl P) = true) then 2
  else if s.code = 1 ∧ ¬ (0 ≤ s.a ∧ s.a < nums) then 2
  else if ([s.a, s.b, s.c].drop (if s.code = 1 then 1 else (asks s).length)).any (· != 0) then 1 else 0

/-- what is wrong with all of code but its steps -/
def wholeE (n : Nt) : Nat :=
  if n.places < 0 ∨ 4000 < n.places ∨ 4000 < n.code.length ∨ 4000 < n.nums.length ∨ 4000 < n.ins.length + n.outs.length + n.keeps.length then 4
  else if (n.first.length : Int) ≠ n.places then 3
  else if ¬ (n.ins.all (isPl n.places) = true ∧ n.outs.all (isPl n.places) = true ∧ n.keeps.all (isPl n.places) = true) then 2
  else if ¬ n.ins.Nodup then 9 else 0

def stepsE (P : Int) (nums : Nat) : List Sp → Nat → Nat × Int
  | [], _ => (0, -1)
  | s :: r, i => if stepE P nums s = 0 then stepsE P nums r (i + 1) else (stepE P nums s, i)

/-- what is wrong with code, and where (-1: nowhere) -/
def check (n : Nt) : Nat × Int := if wholeE n = 0 then stepsE n.places n.nums.length n.code 0 else (wholeE n, -1)

theorem stepsE_drop (P : Int) (nums : Nat) (l : List Sp) (i k : Nat) (h : ∀ j, j < k → stepE P nums (l.getD j sp0) = 0) (hk : k ≤ l.length) : stepsE P nums l i = stepsE P nums (l.drop k) (i + k) := by
  induction k generalizing l i with
  | zero => simp
  | succ k ih =>
    cases l with
    | nil => simp at hk
    | cons s r =>
      have h0 : stepE P nums s = 0 := by simpa using h 0 (by omega)
      rw [stepsE, if_pos h0, ih r (i + 1) (fun j hj => by simpa using h (j + 1) (by omega)) (by simpa using hk)]
      simp only [List.drop_succ_cons]
      congr 1; omega
theorem stepsE_at (P : Int) (nums : Nat) (l : List Sp) (k : Nat) (h : ∀ j, j < k → stepE P nums (l.getD j sp0) = 0) (hk : k < l.length) (hb : stepE P nums (l.getD k sp0) ≠ 0) : stepsE P nums l 0 = (stepE P nums (l.getD k sp0), (k : Int)) := by
  rw [stepsE_drop P nums l 0 k h (by omega)]
  have e : l.drop k = l.getD k sp0 :: l.drop (k + 1) := by
    rw [List.drop_eq_getElem_cons hk]
    simp [List.getD_eq_getElem?_getD, hk]
  rw [e, stepsE, if_neg hb]; simp
theorem stepsE_fine (P : Int) (nums : Nat) (l : List Sp) (h : ∀ j, j < l.length → stepE P nums (l.getD j sp0) = 0) : stepsE P nums l 0 = (0, -1) := by
  rw [stepsE_drop P nums l 0 l.length h (by omega)]; simp [stepsE]

/-! what it tells -/
def insK (l ins V : List Int) : Nat → List Int
  | 0 => V
  | k + 1 => put (insK l ins V k) (l.getD k 0) (ins.getD k 0)

def made (nums V : List Int) (s : Sp) : Int :=
  if s.code = 1 then get nums s.a else if s.code = 2 then get V s.a else if s.code = 4 ∨ s.code = 5 then vOne s.code (get V s.a)
  else if s.code = 17 then vPick (get V s.a) (get V s.b) (get V s.c) else vTwo s.code (get V s.a) (get V s.b)

def codeK (nums : List Int) (cs : List Sp) (V : List Int) : Nat → List Int
  | 0 => V
  | k + 1 => put (codeK nums cs V k) (cs.getD k sp0).dst (made nums (codeK nums cs V k) (cs.getD k sp0))

def keepK (keeps V : List Int) : Nat → List Int
  | 0 => List.replicate V.length 0
  | k + 1 => put (keepK keeps V k) (keeps.getD k 0) (get V (keeps.getD k 0))

def ran (n : Nt) (V ins : List Int) : List Int := codeK n.nums n.code (insK n.ins ins V n.ins.length) n.code.length
def tells (n : Nt) (V ins : List Int) : List Int := n.outs.map (get (ran n V ins))
def after (n : Nt) (V ins : List Int) : List Int := keepK n.keeps (ran n V ins) n.keeps.length

theorem insK_len (l ins V : List Int) (k : Nat) : (insK l ins V k).length = V.length := by
  induction k with
  | zero => rfl
  | succ k ih => rw [insK, put_len, ih]
theorem codeK_len (nums : List Int) (cs : List Sp) (V : List Int) (k : Nat) : (codeK nums cs V k).length = V.length := by
  induction k with
  | zero => rfl
  | succ k ih => rw [codeK, put_len, ih]
theorem keepK_len (keeps V : List Int) (k : Nat) : (keepK keeps V k).length = V.length := by
  induction k with
  | zero => simp [keepK]
  | succ k ih => rw [keepK, put_len, ih]
theorem ran_len (n : Nt) (V ins : List Int) : (ran n V ins).length = V.length := by unfold ran; rw [codeK_len, insK_len]
theorem after_len (n : Nt) (V ins : List Int) : (after n V ins).length = V.length := by unfold after; rw [keepK_len, ran_len]
theorem tells_len (n : Nt) (V ins : List Int) : (tells n V ins).length = n.outs.length := by unfold tells; simp
theorem tells_at (n : Nt) (V ins : List Int) (k : Nat) (h : k < n.outs.length) : (n.outs.take (k + 1)).map (get (ran n V ins)) = (n.outs.take k).map (get (ran n V ins)) ++ [get (ran n V ins) (n.outs.getD k 0)] := by
  rw [List.take_succ_eq_append_getElem h, List.map_append]; simp [List.getD_eq_getElem?_getD, h]

end Nx
end Go.Proofs.YtlaimlfacheolaaGreatDoor
