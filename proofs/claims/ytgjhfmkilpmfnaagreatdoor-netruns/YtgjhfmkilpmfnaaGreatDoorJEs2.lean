/-
  What numbers come to, as plain integers: the functions that the program's package value and the document's own answer are both held against. No program in sight.
-/
import Derived.RowKit
import Derived.IntWalk
import Derived.Laws.Bits64
import Derived.Test.YtgjhfmkilpmfnaaGreatDoorRows
import Derived.WalkKit
import Derived.WalkSpells
import Derived.WalkLawsBesides
import Derived.Below
import Derived.LaidEql
import Derived.Stop.Asserts
import Derived.RowKitTokens
namespace Go.Proofs.YtgjhfmkilpmfnaaGreatDoor
open Go.RowKit

def yes (b : Bool) : Int := if b then 1 else 0

def vOne (c a : Int) : Int := if c = 4 then wrap64 (-a) else if c = 5 then yes (a == 0) else 0

def vDiv (a b : Int) : Int := if b = 0 then 0 else wrap64 (a.tdiv b)
def vMod (a b : Int) : Int := if b = 0 then 0 else a.tmod b

def vTwo (c a b : Int) : Int :=
  if c = 6 then wrap64 (a + b) else
  if c = 7 then wrap64 (a - b) else
  if c = 8 then wrap64 (a * b) else
  if c = 9 then vDiv a b else
  if c = 10 then vMod a b else
  if c = 11 then yes (a == b) else
  if c = 12 then yes (a != b) else
  if c = 13 then yes (decide (a < b)) else
  if c = 14 then yes (decide (a ≤ b)) else
  if c = 15 then yes (a != 0 && b != 0) else
  if c = 16 then yes (a != 0 || b != 0) else 0

def vPick (a b c : Int) : Int := if a = 0 then c else b

/-! ### wraps -/
theorem wrap64_congr {x y : Int} (h : x % 18446744073709551616 = y % 18446744073709551616) : wrap64 x = wrap64 y := by
  unfold wrap64; omega

theorem wrap64_mod (x : Int) : wrap64 x % 18446744073709551616 = x % 18446744073709551616 := by
  unfold wrap64; omega

theorem wrap64_lo (x : Int) : -9223372036854775808 ≤ wrap64 x ∧ wrap64 x ≤ 9223372036854775807 := by
  unfold wrap64; omega

theorem wrap64_add (x y : Int) : wrap64 (wrap64 x + wrap64 y) = wrap64 (x + y) := by
  apply wrap64_congr
  rw [Int.add_emod, wrap64_mod, wrap64_mod, ← Int.add_emod]

theorem wrap64_mulL (x y : Int) : wrap64 (wrap64 x * y) = wrap64 (x * y) := by
  apply wrap64_congr
  rw [Int.mul_emod, wrap64_mod, ← Int.mul_emod]

theorem wrap64_mulR (x y : Int) : wrap64 (x * wrap64 y) = wrap64 (x * y) := by
  rw [Int.mul_comm, wrap64_mulL, Int.mul_comm]

theorem wrap64_subR (x y : Int) : wrap64 (x - wrap64 y) = wrap64 (x - y) := by
  unfold wrap64; omega

theorem wrap64_neg (x : Int) : wrap64 (-wrap64 x) = wrap64 (-x) := by
  unfold wrap64; omega

/-! ### sums of 64 bits without a sign -/
theorem u_add (a b : Int) : wrap64 (IntKind.u64.wrap (IntKind.u64.wrap a + IntKind.u64.wrap b)) = wrap64 (a + b) := by
  rw [IntKind.wrap_u64, IntKind.wrap_u64, IntKind.wrap_u64]; unfold wrap64; omega

theorem u_sub (a b : Int) : wrap64 (IntKind.u64.wrap (IntKind.u64.wrap a - IntKind.u64.wrap b)) = wrap64 (a - b) := by
  rw [IntKind.wrap_u64, IntKind.wrap_u64, IntKind.wrap_u64]; unfold wrap64; omega

theorem u_mul (a b : Int) : wrap64 (IntKind.u64.wrap (IntKind.u64.wrap a * IntKind.u64.wrap b)) = wrap64 (a * b) := by
  rw [IntKind.wrap_u64, IntKind.wrap_u64, IntKind.wrap_u64]
  apply wrap64_congr
  rw [Int.emod_emod_of_dvd _ (Int.dvd_refl _), ← Int.mul_emod]

/-! ### quotients by their sizes -/
theorem size_quo (a b : Int) (ha : -9223372036854775808 ≤ a ∧ a ≤ 9223372036854775807) :
    IntKind.u64.wrap ((a.natAbs : Int) / (b.natAbs : Int)) = ((a.natAbs / b.natAbs : Nat) : Int) := by
  have h := Nat.div_le_self a.natAbs b.natAbs
  rw [IntKind.wrap_u64, ← Int.natCast_ediv]
  generalize a.natAbs / b.natAbs = q at h ⊢
  omega

theorem tdiv_same (a b : Int) (h : (decide (a < 0)) = decide (b < 0)) : a.tdiv b = ((a.natAbs / b.natAbs : Nat) : Int) := by
  by_cases h1 : a < 0
  · have h2 : b < 0 := by simpa [h1] using h
    obtain ⟨x, rfl⟩ : ∃ x : Nat, a = -(x : Int) := ⟨a.natAbs, by omega⟩
    obtain ⟨y, rfl⟩ : ∃ y : Nat, b = -(y : Int) := ⟨b.natAbs, by omega⟩
    rw [Int.neg_tdiv, Int.tdiv_neg, Int.neg_neg, Int.natAbs_neg, Int.natAbs_neg, Int.natAbs_natCast, Int.natAbs_natCast, Int.ofNat_tdiv]
  · have h2 : ¬ b < 0 := by simpa [h1] using h
    obtain ⟨x, rfl⟩ : ∃ x : Nat, a = (x : Int) := ⟨a.natAbs, by omega⟩
    obtain ⟨y, rfl⟩ : ∃ y : Nat, b = (y : Int) := ⟨b.natAbs, by omega⟩
    rw [Int.natAbs_natCast, Int.natAbs_natCast, Int.ofNat_tdiv]

theorem tdiv_other (a b : Int) (h : (decide (a < 0)) ≠ decide (b < 0)) : a.tdiv b = -((a.natAbs / b.natAbs : Nat) : Int) := by
  by_cases h1 : a < 0
  · have h2 : ¬ b < 0 := by simpa [h1] using h
    obtain ⟨x, rfl⟩ : ∃ x : Nat, a = -(x : Int) := ⟨a.natAbs, by omega⟩
    obtain ⟨y, rfl⟩ : ∃ y : Nat, b = (y : Int) := ⟨b.natAbs, by omega⟩
    rw [Int.neg_tdiv, Int.natAbs_neg, Int.natAbs_natCast, Int.natAbs_natCast, Int.ofNat_tdiv]
  · have h2 : b < 0 := by simpa [h1] using h
    obtain ⟨x, rfl⟩ : ∃ x : Nat, a = (x : Int) := ⟨a.natAbs, by omega⟩
    obtain ⟨y, rfl⟩ : ∃ y : Nat, b = -(y : Int) := ⟨b.natAbs, by omega⟩
    rw [Int.tdiv_neg, Int.natAbs_neg, Int.natAbs_natCast, Int.natAbs_natCast, Int.ofNat_tdiv]

theorem tmod_small (a b : Int) (hb : -9223372036854775808 ≤ b ∧ b ≤ 9223372036854775807) (h : ¬ b = 0) :
    -9223372036854775808 ≤ a.tmod b ∧ a.tmod b ≤ 9223372036854775807 := by
  have h1 : (a.tmod b).natAbs = a.natAbs % b.natAbs := Int.natAbs_tmod a b
  have h2 := Nat.mod_lt a.natAbs (show 0 < b.natAbs by omega)
  omega

theorem left_is (a b : Int) (hb : -9223372036854775808 ≤ b ∧ b ≤ 9223372036854775807) (h : ¬ b = 0) :
    wrap64 (a - wrap64 (vDiv a b * b)) = vMod a b := by
  unfold vDiv vMod
  rw [if_neg h, if_neg h, wrap64_subR, ← wrap64_subR, wrap64_mulL, wrap64_subR, IntWalk.wrap64_in]
  · rw [Int.tmod_def, Int.mul_comm]
  · have e : a - a.tdiv b * b = a.tmod b := by rw [Int.tmod_def, Int.mul_comm]
    rw [e]
    exact tmod_small a b hb h

theorem quo_same (a b : Int) (ha : -9223372036854775808 ≤ a ∧ a ≤ 9223372036854775807) (h : ¬ b = 0) (hs : (decide (a < 0)) = decide (b < 0)) :
    wrap64 (IntKind.u64.wrap ((a.natAbs : Int) / (b.natAbs : Int))) = vDiv a b := by
  unfold vDiv
  rw [if_neg h, size_quo a b ha, tdiv_same a b hs]

theorem quo_other (a b : Int) (ha : -9223372036854775808 ≤ a ∧ a ≤ 9223372036854775807) (h : ¬ b = 0) (hs : (decide (a < 0)) ≠ decide (b < 0)) :
    wrap64 (-wrap64 (IntKind.u64.wrap ((a.natAbs : Int) / (b.natAbs : Int)))) = vDiv a b := by
  unfold vDiv
  rw [if_neg h, size_quo a b ha, wrap64_neg, tdiv_other a b hs]

end Go.Proofs.YtgjhfmkilpmfnaaGreatDoor
/- What code is, what may be wrong with it, and what it tells: plain, no program in sight. -/
namespace Go.Proofs.YtgjhfmkilpmfnaaGreatDoor
namespace Nx

structure Sp where
  code : Int
  dst : Int
  a : Int
  b : Int
  c : Int

structure Nt where
  places : Int
  first : List Int
  ins : List Int
  outs : List Int
  keeps : List Int
  nums : List Int
  code : List Sp

def sp0 : Sp := ⟨0, 0, 0, 0, 0⟩

/-- what stands at a place of a list; 0 if it has none there -/
def get (l : List Int) (i : Int) : Int := if 0 ≤ i then l.getD i.toNat 0 else 0
def put (l : List Int) (i x : Int) : List Int := if 0 ≤ i then l.set i.toNat x else l

theorem put_len (l : List Int) (i x : Int) : (put l i x).length = l.length := by unfold put; split <;> simp
theorem get_nat (l : List Int) (k : Nat) : get l k = l.getD k 0 := by unfold get; simp
theorem get_low (l : List Int) (i : Int) (h : i < 0) : get l i = 0 := by unfold get; rw [if_neg (by omega)]
theorem get_high (l : List Int) (i : Int) (h : (l.length : Int) ≤ i) : get l i = 0 := by
  unfold get
  split
  · rw [List.getD_eq_getElem?_getD, List.getElem?_eq_none (by omega)]; rfl
  · rfl
theorem get_in (l : List Int) (i : Int) (h0 : 0 ≤ i) : get l i = l.getD i.toNat 0 := by unfold get; rw [if_pos h0]
theorem put_in (l : List Int) (i x : Int) (h0 : 0 ≤ i) : put l i x = l.set i.toNat x := by unfold put; rw [if_pos h0]
theorem put_out (l : List Int) (i x : Int) (h : i < 0 ∨ (l.length : Int) ≤ i) : put l i x = l := by
  unfold put
  split
  · rw [List.set_eq_of_length_le (by omega)]
  · rfl
theorem get_put (l : List Int) (i j x : Int) : get (put l i x) j = if i = j ∧ 0 ≤ i ∧ i < l.length then x else get l j := by
  by_cases hj : 0 ≤ j
  · rw [get_in _ _ hj, get_in _ _ hj]
    by_cases hi : 0 ≤ i
    · rw [put_in _ _ _ hi]
      simp only [List.getD_eq_getElem?_getD, List.getElem?_set]
      by_cases e : i = j
      · subst e
        by_cases hl : i < l.length
        · rw [if_pos rfl, if_pos (by omega), if_pos ⟨rfl, hi, hl⟩]; rfl
        · rw [if_pos rfl, if_neg (by omega), if_neg (by omega), List.getElem?_eq_none (by omega)]
      · rw [if_neg (by omega), if_neg (by omega)]
    · rw [put_out _ _ _ (.inl (by omega)), if_neg (by omega)]
  · rw [get_low _ _ (by omega), get_low _ _ (by omega)]
    split
    · omega
    · rfl

def asks (s : Sp) : List Int :=
  if s.code = 2 ∨ s.code = 4 ∨ s.code = 5 then [s.a] else if 6 ≤ s.code ∧ s.code ≤ 16 then [s.a, s.b] else if s.code = 17 then [s.a, s.b, s.c] else []

def isPl (P p : Int) : Bool := decide (0 ≤ p) && decide (p < P)

/-- what is wrong with one step -/
def stepE (P : Int) (nums : Nat) (s : Sp) : Nat :=
  if s.code < 1 ∨ 17 < s.code ∨ s.code = 3 then 3
  else if ¬ (isPl P s.dst = true ∧ (asks s).all (isPl P) = true) then 2
  else if s.code = 1 ∧ ¬ (0 ≤ s.a ∧ s.a < nums) then 2
  else if ([s.a, s.b, s.c].drop (if s.code = 1 then 1 else (asks s).length)).any (· != 0) then 1 else 0

/-- what is wrong with all of code but its steps -/
def wholeE (n : Nt) : Nat :=
  if n.places < 0 ∨ 4000 < n.places ∨ 4000 < n.code.length ∨ 4000 < n.nums.length ∨ 4000 < n.ins.length + n.outs.length + n.keeps.length then 4
  else if (n.first.length : Int) ≠ n.places then 3
  else if ¬ (n.ins.all (isPl n.places) = true ∧ n.outs.all (isPl n.places) = true ∧ n.keeps.all (isPl n.places) = true) then 2
  else if ¬ n.ins.Nodup then 9 else 0

def stepsE (P : Int) (nums : Nat) : List Sp → Nat → Nat × Int
  | [], _ => (0, -1)
  | s :: r, i => if stepE P nums s = 0 then stepsE P nums r (i + 1) else (stepE P nums s, i)

/-- what is wrong with code, and where (-1: nowhere) -/
def check (n : Nt) : Nat × Int := if wholeE n = 0 then stepsE n.places n.nums.length n.code 0 else (wholeE n, -1)

theorem stepsE_drop (P : Int) (nums : Nat) (l : List Sp) (i k : Nat) (h : ∀ j, j < k → stepE P nums (l.getD j sp0) = 0) (hk : k ≤ l.length) : stepsE P nums l i = stepsE P nums (l.drop k) (i + k) := by
  induction k generalizing l i with
  | zero => simp
  | succ k ih =>
    cases l with
    | nil => simp at hk
    | cons s r =>
      have h0 : stepE P nums s = 0 := by simpa using h 0 (by omega)
      rw [stepsE, if_pos h0, ih r (i + 1) (fun j hj => by simpa using h (j + 1) (by omega)) (by simpa using hk)]
      simp only [List.drop_succ_cons]
      congr 1; omega
theorem stepsE_at (P : Int) (nums : Nat) (l : List Sp) (k : Nat) (h : ∀ j, j < k → stepE P nums (l.getD j sp0) = 0) (hk : k < l.length) (hb : stepE P nums (l.getD k sp0) ≠ 0) : stepsE P nums l 0 = (stepE P nums (l.getD k sp0), (k : Int)) := by
  rw [stepsE_drop P nums l 0 k h (by omega)]
  have e : l.drop k = l.getD k sp0 :: l.drop (k + 1) := by
    rw [List.drop_eq_getElem_cons hk]
    simp [List.getD_eq_getElem?_getD, hk]
  rw [e, stepsE, if_neg hb]; simp
theorem stepsE_fine (P : Int) (nums : Nat) (l : List Sp) (h : ∀ j, j < l.length → stepE P nums (l.getD j sp0) = 0) : stepsE P nums l 0 = (0, -1) := by
  rw [stepsE_drop P nums l 0 l.length h (by omega)]; simp [stepsE]

/-! what it tells -/
def insK (l ins V : List Int) : Nat → List Int
  | 0 => V
  | k + 1 => put (insK l ins V k) (l.getD k 0) (ins.getD k 0)

def made (nums V : List Int) (s : Sp) : Int :=
  if s.code = 1 then get nums s.a else if s.code = 2 then get V s.a else if s.code = 4 ∨ s.code = 5 then vOne s.code (get V s.a)
  else if s.code = 17 then vPick (get V s.a) (get V s.b) (get V s.c) else vTwo s.code (get V s.a) (get V s.b)

def codeK (nums : List Int) (cs : List Sp) (V : List Int) : Nat → List Int
  | 0 => V
  | k + 1 => put (codeK nums cs V k) (cs.getD k sp0).dst (made nums (codeK nums cs V k) (cs.getD k sp0))

def keepK (keeps V : List Int) : Nat → List Int
  | 0 => List.replicate V.length 0
  | k + 1 => put (keepK keeps V k) (keeps.getD k 0) (get V (keeps.getD k 0))

def ran (n : Nt) (V ins : List Int) : List Int := codeK n.nums n.code (insK n.ins ins V n.ins.length) n.code.length
def tells (n : Nt) (V ins : List Int) : List Int := n.outs.map (get (ran n V ins))
def after (n : Nt) (V ins : List Int) : List Int := keepK n.keeps (ran n V ins) n.keeps.length

theorem insK_len (l ins V : List Int) (k : Nat) : (insK l ins V k).length = V.length := by
  induction k with
  | zero => rfl
  | succ k ih => rw [insK, put_len, ih]
theorem codeK_len (nums : List Int) (cs : List Sp) (V : List Int) (k : Nat) : (codeK nums cs V k).length = V.length := by
  induction k with
  | zero => rfl
  | succ k ih => rw [codeK, put_len, ih]
theorem keepK_len (keeps V : List Int) (k : Nat) : (keepK keeps V k).length = V.length := by
  induction k with
  | zero => simp [keepK]
  | succ k ih => rw [keepK, put_len, ih]
theorem ran_len (n : Nt) (V ins : List Int) : (ran n V ins).length = V.length := by unfold ran; rw [codeK_len, insK_len]
theorem after_len (n : Nt) (V ins : List Int) : (after n V ins).length = V.length := by unfold after; rw [keepK_len, ran_len]
theorem tells_len (n : Nt) (V ins : List Int) : (tells n V ins).length = n.outs.length := by unfold tells; simp
theorem tells_at (n : Nt) (V ins : List Int) (k : Nat) (h : k < n.outs.length) : (n.outs.take (k + 1)).map (get (ran n V ins)) = (n.outs.take k).map (get (ran n V ins)) ++ [get (ran n V ins) (n.outs.getD k 0)] := by
  rw [List.take_succ_eq_append_getElem h, List.map_append]; simp [List.getD_eq_getElem?_getD, h]

end Nx
end Go.Proofs.YtgjhfmkilpmfnaaGreatDoor
/- How code and what it runs on lie in memory. -/
namespace Go.Proofs.YtgjhfmkilpmfnaaGreatDoor
open Go.RowKit
namespace Nx

/-- all old blocks below B but those of X are as they were -/
structure Fr (B : Nat) (X : List Nat) (w w' : World) : Prop where
  os : w'.os = w.os
  tape : w'.tape = w.tape
  output : w'.output = w.output
  size : w.heap.size ≤ w'.heap.size
  block : ∀ k, k < B → k ∉ X → w'.heap[k]? = w.heap[k]?
theorem Fr.refl (B : Nat) (X : List Nat) (w : World) : Fr B X w w := ⟨rfl, rfl, rfl, Nat.le_refl _, fun _ _ _ => rfl⟩
theorem Fr.trans {B : Nat} {X : List Nat} {a b c : World} (h : Fr B X a b) (k : Fr B X b c) : Fr B X a c :=
  ⟨k.os.trans h.os, k.tape.trans h.tape, k.output.trans h.output, Nat.le_trans h.size k.size, fun i hi hx => (k.block i hi hx).trans (h.block i hi hx)⟩
theorem Fr.mono {B B' : Nat} {X X' : List Nat} {w w' : World} (h : Fr B X w w') (hB : B' ≤ B) (hX : ∀ x ∈ X, x < B' → x ∈ X') : Fr B' X' w w' :=
  ⟨h.os, h.tape, h.output, h.size, fun k hk hx => h.block k (by omega) (fun hm => hx (hX k hm hk))⟩
theorem Fr.of_below {B : Nat} {w w' : World} (h : Below B w w') (X : List Nat) : Fr B X w w' := ⟨h.os, h.tape, h.output, h.size, fun k hk _ => h.block k hk⟩
theorem Fr.below {B : Nat} {w w' : World} (h : Fr B [] w w') : Below B w w' := ⟨h.os, h.tape, h.output, h.size, fun k hk => h.block k hk (by simp)⟩
theorem Fr.alloc {B : Nat} {X : List Nat} {a w : World} (h : Fr B X a w) (hB : B ≤ w.heap.size) (o : Obj) : Fr B X a (w.alloc o) :=
  h.trans ⟨rfl, rfl, rfl, by simp, fun k hk _ => Below.heap_alloc _ _ _ (by omega)⟩
theorem Fr.setCell {B : Nat} {X : List Nat} {a w : World} (h : Fr B X a w) {p : Addr} (hp : B ≤ p.block ∨ p.block ∈ X) (u : Value) : Fr B X a (w.setCell p u) :=
  h.trans ⟨rfl, rfl, rfl, by simp [World.setCell], fun k hk hx => Below.heap_setCell _ _ _ _ (fun e => by rcases hp with hp | hp; omega; exact hx (e ▸ hp))⟩
theorem Fr.drew {B : Nat} {X : List Nat} {a w : World} (h : Fr B X a w) : Fr B X a w.drew := ⟨h.os, h.tape, h.output, h.size, h.block⟩

theorem lt_of_block {w : World} {b : Nat} {o : Obj} (h : w.heap[b]? = some o) : b < w.heap.size := (Array.getElem?_eq_some_iff.1 h).1
theorem cell_of_block {w w' : World} {b : Nat} (h : w'.heap[b]? = w.heap[b]?) (o : Nat) : w'.cell? ⟨b, o, none⟩ = w.cell? ⟨b, o, none⟩ := by
  simp only [World.cell?, h]
theorem lt_of_cell {w : World} {b o : Nat} {v : Value} (h : w.cell? ⟨b, o, none⟩ = some v) : b < w.heap.size := by
  rcases Nat.lt_or_ge b w.heap.size with hl | hl
  · exact hl
  · simp [World.cell?, Array.getElem?_eq_none hl] at h

/-- what lies in blocks of those lies there still, in blocks of these -/
def Keep (A A' : Nat → Prop) (w w' : World) : Prop := ∀ b, A b → b < w.heap.size → A' b ∧ w'.heap[b]? = w.heap[b]?

/-- a slice of numbers, in a block of those -/
def Ints (A : Nat → Prop) (w : World) (v : Value) (zs : List Int) : Prop :=
  ∃ ad b off cap, v = .slice ad zs.length cap ∧ (0 < zs.length → ad = some ⟨b, off, none⟩ ∧ A b) ∧ ∀ k, k < zs.length → w.cell? ⟨b, off + k, none⟩ = some (.int .i64 (zs.getD k 0))
theorem Ints.carry {A A' : Nat → Prop} {w w' : World} {v : Value} {zs : List Int} (h : Ints A w v zs) (k : Keep A A' w w') : Ints A' w' v zs := by
  obtain ⟨ad, b, off, cap, rfl, h1, h2⟩ := h
  refine ⟨ad, b, off, cap, rfl, fun hp => ?_, fun j hj => ?_⟩
  · obtain ⟨e, ha⟩ := h1 hp
    exact ⟨e, (k b ha (lt_of_cell (h2 0 hp))).1⟩
  · obtain ⟨e, ha⟩ := h1 (by omega)
    rw [cell_of_block (k b ha (lt_of_cell (h2 j hj))).2]; exact h2 j hj

/-- a slice of steps, in a block of those -/
def Steps (A : Nat → Prop) (w : World) (v : Value) (l : List Sp) : Prop :=
  ∃ ad b off cap, v = .slice ad l.length cap ∧ (0 < l.length → ad = some ⟨b, off, none⟩ ∧ A b) ∧
    ∀ k, k < l.length → w.cell? ⟨b, off + k * 5, none⟩ = some (.int .i64 (l.getD k sp0).code) ∧ w.cell? ⟨b, off + k * 5 + 1, none⟩ = some (.int .i64 (l.getD k sp0).dst) ∧
      w.cell? ⟨b, off + k * 5 + 2, none⟩ = some (.int .i64 (l.getD k sp0).a) ∧ w.cell? ⟨b, off + k * 5 + 3, none⟩ = some (.int .i64 (l.getD k sp0).b) ∧ w.cell? ⟨b, off + k * 5 + 4, none⟩ = some (.int .i64 (l.getD k sp0).c)
theorem Steps.carry {A A' : Nat → Prop} {w w' : World} {v : Value} {l : List Sp} (h : Steps A w v l) (k : Keep A A' w w') : Steps A' w' v l := by
  obtain ⟨ad, b, off, cap, rfl, h1, h2⟩ := h
  refine ⟨ad, b, off, cap, rfl, fun hp => ?_, fun j hj => ?_⟩
  · obtain ⟨e, ha⟩ := h1 hp
    exact ⟨e, (k b ha (lt_of_cell (h2 0 hp).1)).1⟩
  · obtain ⟨e, ha⟩ := h1 (by omega)
    have hb := (k b ha (lt_of_cell (h2 j hj).1)).2
    rw [cell_of_block hb, cell_of_block hb, cell_of_block hb, cell_of_block hb, cell_of_block hb]; exact h2 j hj

/-- a slice of numbers that is written into: it lies at the head of block g -/
def Own (w : World) (v : Value) (V : List Int) (g : Nat) : Prop :=
  ∃ ad cap, v = .slice ad V.length cap ∧ (0 < V.length → ad = some ⟨g, 0, none⟩ ∧ ∃ rest T, w.heap[g]? = some (.cells (V.map (Value.int .i64) ++ rest).toArray T (0, 0)))
theorem Own.keep {w w' : World} {v : Value} {V : List Int} {g : Nat} (h : Own w v V g) (hg : w'.heap[g]? = w.heap[g]?) : Own w' v V g := by
  obtain ⟨ad, cap, rfl, h1⟩ := h
  exact ⟨ad, cap, rfl, fun hp => by obtain ⟨e, rest, T, hb⟩ := h1 hp; exact ⟨e, rest, T, by rw [hg]; exact hb⟩⟩
theorem cell_of_cells {w : World} {g : Nat} {l : List Value} {T : TypeId} {f : Nat × Nat} (h : w.heap[g]? = some (.cells l.toArray T f)) (k : Nat) : w.cell? ⟨g, k, none⟩ = l[k]? := by
  simp only [World.cell?, h]
  simp
theorem Own.cell {w : World} {v : Value} {V : List Int} {g : Nat} (h : Own w v V g) (k : Nat) (hk : k < V.length) : w.cell? ⟨g, k, none⟩ = some (.int .i64 (V.getD k 0)) := by
  obtain ⟨ad, cap, rfl, h1⟩ := h
  obtain ⟨e, rest, T, hb⟩ := h1 (by omega)
  rw [cell_of_cells hb, List.getElem?_append_left (by simpa using hk), List.getElem?_map, List.getD_eq_getElem?_getD, List.getElem?_eq_getElem hk]; rfl
theorem Own.ints {w : World} {v : Value} {V : List Int} {g : Nat} (h : Own w v V g) {A : Nat → Prop} (ha : 0 < V.length → A g) : Ints A w v V := by
  have hc := h.cell
  obtain ⟨ad, cap, rfl, h1⟩ := h
  exact ⟨ad, g, 0, cap, rfl, fun hp => ⟨(h1 hp).1, ha hp⟩, fun k hk => by rw [Nat.zero_add]; exact hc k hk⟩

end Nx
end Go.Proofs.YtgjhfmkilpmfnaaGreatDoor
/- errors.As at an *api.At and a target of type *api.Errno: the entries of internal/reflectlite at this program's types. -/
namespace Go.Proofs.YtgjhfmkilpmfnaaGreatDoor
open Go.RowKit Go.Extern.Stop Go.Stop Go.Extern Nx

theorem Tryz.valueOf67 (t : Addr) (w : World) : (ReflectliteValue.unpack (.iface 84 (.pointer (some t)))).run Tryz.prog w
    = .ok (.agg #[.pointer (some ⟨2, 84, none⟩), .pointer (some ⟨w.heap.size, 0, none⟩), .int .u64 150]) (w.alloc (.cells #[.pointer (some t)] 84)) := by kernel_rfl
theorem Tryz.type67 (a : Addr) (w : World) : (ReflectliteValue.methodAny (ReflectliteValue.valueError "reflectlite.Value.Type" 0) (fun t _ _ _ => ReflectliteType.toType t) #[.agg #[.pointer (some ⟨2, 84, none⟩), .pointer (some a), .int .u64 150]]).run Tryz.prog w
    = .ok (.iface 108 (.agg #[.pointer (some ⟨2, 84, none⟩)])) w := by kernel_rfl
theorem Tryz.kind67 (w : World) : ((ReflectliteType.abiMethod fun t => (fun a : Nat => Value.int IntKind.u8 (a : Int)) <$> Rtype.kind t) #[.pointer (some ⟨2, 84, none⟩)]).run Tryz.prog w = .ok (.int .u8 22) w := by kernel_rfl
theorem Tryz.kind23 (w : World) : ((ReflectliteType.abiMethod fun t => (fun a : Nat => Value.int IntKind.u8 (a : Int)) <$> Rtype.kind t) #[.pointer (some ⟨2, 30, none⟩)]).run Tryz.prog w = .ok (.int .u8 2) w := by kernel_rfl
theorem Tryz.meth67 (z : Sem Value) (f : TypeId → Addr → Nat → Nat → Sem Value) (a : Addr) (W : World) :
    (ReflectliteValue.method z f #[.agg #[.pointer (some ⟨2, 84, none⟩), .pointer (some a), .int .u64 150]]).run Tryz.prog W = (f 84 a 150 22).run Tryz.prog W := by kernel_rfl
theorem Tryz.isNil67 (a p : Addr) (W : World) (ha : W.cell? a = some (.pointer (some p))) :
    (ReflectliteValue.method (ReflectliteValue.valueError "reflectlite.Value.IsNil" 0) ReflectliteValue.isNil #[.agg #[.pointer (some ⟨2, 84, none⟩), .pointer (some a), .int .u64 150]]).run Tryz.prog W = .ok (.bool false) W := by
  rw [Tryz.meth67]
  simp [ReflectliteValue.isNil, loadVar, isAgg, underlying, Tryz.underlying84, ha, Result.andThen]
theorem Tryz.elem67 (w : World) : (ReflectliteType.method ReflectliteType.elem #[.agg #[.pointer (some ⟨2, 84, none⟩)]]).run Tryz.prog w = .ok (.iface 108 (.agg #[.pointer (some ⟨2, 30, none⟩)])) w := by kernel_rfl
theorem Tryz.implements23 (w : World) : (ReflectliteType.relation "Implements" ReflectliteType.implements_ #[.agg #[.pointer (some ⟨2, 30, none⟩)], .iface 108 (.agg #[.pointer (some ⟨2, 36, none⟩)])]).run Tryz.prog w = .ok (.bool true) w := by kernel_rfl
theorem Tryz.typeOf59 (v : Value) (w : World) : (ReflectliteType.typeOf #[.iface 69 v]).run Tryz.prog w = .ok (.iface 108 (.agg #[.pointer (some ⟨2, 69, none⟩)])) w := by kernel_rfl
theorem Tryz.typeOf23 (v : Value) (w : World) : (ReflectliteType.typeOf #[.iface 30 v]).run Tryz.prog w = .ok (.iface 108 (.agg #[.pointer (some ⟨2, 30, none⟩)])) w := by kernel_rfl
theorem Tryz.assignable59 (w : World) : (ReflectliteType.relation "AssignableTo" ReflectliteType.assignableTo #[.agg #[.pointer (some ⟨2, 69, none⟩)], .iface 108 (.agg #[.pointer (some ⟨2, 30, none⟩)])]).run Tryz.prog w = .ok (.bool false) w := by kernel_rfl
theorem Tryz.assignable23 (w : World) : (ReflectliteType.relation "AssignableTo" ReflectliteType.assignableTo #[.agg #[.pointer (some ⟨2, 30, none⟩)], .iface 108 (.agg #[.pointer (some ⟨2, 30, none⟩)])]).run Tryz.prog w = .ok (.bool true) w := by kernel_rfl
theorem Tryz.valueOf23 (e : Int) (w : World) : (ReflectliteValue.unpack (.iface 30 (.int .i64 e))).run Tryz.prog w
    = .ok (.agg #[.pointer (some ⟨2, 30, none⟩), .pointer (some ⟨w.heap.size, 0, none⟩), .int .u64 130]) (w.alloc (.cells #[.int .i64 e] 30)) := by kernel_rfl
theorem Tryz.elemOf67 (w : World) : (Rtype.elem? 84).run Tryz.prog w = .ok (some 30) w := by kernel_rfl
theorem Tryz.mk23 (p : Addr) (w : World) : (ReflectliteValue.mk 30 p ReflectliteValue.flagAddr).run Tryz.prog w = .ok (.agg #[.pointer (some ⟨2, 30, none⟩), .pointer (some p), .int .u64 386]) w := by kernel_rfl
theorem Tryz.elemV67 (a p : Addr) (W : World) (ha : W.cell? a = some (.pointer (some p))) :
    (ReflectliteValue.method (ReflectliteValue.valueError "reflectlite.Value.Elem" 0) ReflectliteValue.elem #[.agg #[.pointer (some ⟨2, 84, none⟩), .pointer (some a), .int .u64 150]]).run Tryz.prog W
      = .ok (.agg #[.pointer (some ⟨2, 30, none⟩), .pointer (some p), .int .u64 386]) W := by
  rw [Tryz.meth67]
  simp [ReflectliteValue.elem, loadVar, isAgg, underlying, Tryz.underlying84, ha, Result.andThen, Tryz.elemOf67, Tryz.mk23]
theorem Tryz.parts23a (a : Addr) (w : World) : (ReflectliteValue.parts (.agg #[.pointer (some ⟨2, 30, none⟩), .pointer (some a), .int .u64 386])).run Tryz.prog w = .ok (some (30, a, 386)) w := by kernel_rfl
theorem Tryz.parts23 (a : Addr) (w : World) : (ReflectliteValue.parts (.agg #[.pointer (some ⟨2, 30, none⟩), .pointer (some a), .int .u64 130])).run Tryz.prog w = .ok (some (30, a, 130)) w := by kernel_rfl
theorem Tryz.direct23 (w : World) : (Rtype.directlyAssignable 30 30).run Tryz.prog w = .ok true w := by kernel_rfl
theorem Tryz.set23 (ta b : Addr) (e : Int) (old : Value) (W : World) (hb : W.cell? b = some (.int .i64 e)) (ht : W.cell? ta = some old) (hf : W.frozen? ta = false) :
    (ReflectliteValue.set #[.agg #[.pointer (some ⟨2, 30, none⟩), .pointer (some ta), .int .u64 386], .agg #[.pointer (some ⟨2, 30, none⟩), .pointer (some b), .int .u64 130]]).run Tryz.prog W
      = .ok (.tuple #[]) (W.setCell ta (.int .i64 e)) := by
  have g1 : ∀ (h1 : (#[.agg #[.pointer (some ⟨2, 30, none⟩), .pointer (some ta), .int .u64 386], .agg #[.pointer (some ⟨2, 30, none⟩), .pointer (some b), .int .u64 130]] : Array Value).size = 2) (h2 : 1 < 2), Array.getLit (n := 2) (#[.agg #[.pointer (some ⟨2, 30, none⟩), .pointer (some ta), .int .u64 386], .agg #[.pointer (some ⟨2, 30, none⟩), .pointer (some b), .int .u64 130]] : Array Value) 1 h1 h2 = .agg #[.pointer (some ⟨2, 30, none⟩), .pointer (some b), .int .u64 130] := fun _ _ => rfl
  rw [show ReflectliteValue.set #[.agg #[.pointer (some ⟨2, 30, none⟩), .pointer (some ta), .int .u64 386], .agg #[.pointer (some ⟨2, 30, none⟩), .pointer (some b), .int .u64 130]] = ReflectliteValue.parts (.agg #[.pointer (some ⟨2, 30, none⟩), .pointer (some ta), .int .u64 386]) >>= _ from rfl]
  simp only [g1, Sem.run_bind, Tryz.parts23a, Tryz.parts23, Result.andThen]
  simp [ReflectliteValue.flagAddr, loadVar, isAgg, underlying, Tryz.underlying30, hb, Result.andThen, Tryz.direct23, storeVar, Value.cells, storeCells, Addr.add]
  rw [run_store Tryz.prog W ta _ _ (by rfl)]
  simp [ht, hf]
theorem Tryz.noAs (v : Value) (x : TypeId) (w : World) : (Instr.typeAssert (.iface 69 v) x 113 true).run Tryz.prog w = .ok (.tuple #[.nilIface, .bool false]) w := run_typeAssert_lacksB Tryz.underlying113 (by kernel_rfl) (by kernel_rfl) v x w
theorem Tryz.hasUnwrap (v : Value) (x : TypeId) (w : World) : (Instr.typeAssert (.iface 69 v) x 73 true).run Tryz.prog w = .ok (.tuple #[.iface 69 v, .bool true]) w := run_typeAssert_hasB Tryz.underlying73 (by kernel_rfl) v x w
end Go.Proofs.YtgjhfmkilpmfnaaGreatDoor
/- errors.As, api.Tell, plain.Place at what Split answers. -/
namespace Go.Proofs.YtgjhfmkilpmfnaaGreatDoor
open Go.RowKit Go.Extern.Stop Go.Stop Go.Extern Nx

theorem unwrap_any (g : Nat) (e : Int) (w : World) (h : w.cell? ⟨g, 0, none⟩ = some (.int .i64 e)) :
    Calls Tryz.prog 106 #[.pointer (some ⟨g, 0, none⟩)] w fun e' w' => e' = .returned (.iface 30 (.int .i64 e)) ∧ w' = w := by
  go_enter Tryz.func106, Tryz.ntmps106
  go_wp2
  go_ret
  exact ⟨rfl, rfl⟩

theorem Tryz.methodKind (h : Value) (w : World) : (Go.method 269 108 (.agg #[h]) "Kind").run Tryz.prog w = .ok (101, h) w := by kernel_rfl
theorem Tryz.methodElem (h : Value) (w : World) : (Go.method 269 108 (.agg #[h]) "Elem").run Tryz.prog w = .ok (113, .agg #[h]) w := by kernel_rfl
theorem Tryz.methodImplements (h : Value) (w : World) : (Go.method 269 108 (.agg #[h]) "Implements").run Tryz.prog w = .ok (114, .agg #[h]) w := by kernel_rfl
theorem Tryz.methodAssignableTo (h : Value) (w : World) : (Go.method 269 108 (.agg #[h]) "AssignableTo").run Tryz.prog w = .ok (111, .agg #[h]) w := by kernel_rfl
theorem Tryz.methodUnwrap (a : Addr) (w : World) : (Go.method 269 69 (.pointer (some a)) "Unwrap").run Tryz.prog w = .ok (106, .pointer (some a)) w := by kernel_rfl

/-- the handle of type error, where errors laid it -/
def ErrType (w : World) : Prop := w.cell? ⟨1, 0, none⟩ = some (.iface 108 (.agg #[.pointer (some ⟨2, 36, none⟩)]))

set_option maxRecDepth 100000 in
set_option maxHeartbeats 4000000 in
theorem as_any (g e q : Nat) (t : Addr) (old : Value) (w : World) (hg : ErrType w) (hA : w.heap[g]? = some (.cells #[.int .i64 e, .int .i64 q] 70 (0, 0))) (ht0 : w.cell? t = some old) (hf0 : w.frozen? t = false) :
    Calls Tryz.prog 40 #[.iface 69 (.pointer (some ⟨g, 0, none⟩)), .iface 84 (.pointer (some t))] w fun ev w' => ev = .returned (.bool true) ∧ w' = ((((w.alloc (.cells #[.pointer (some t)] 84)).alloc (.cells #[.pointer (some ⟨2, 84, none⟩), .pointer (some ⟨w.heap.size, 0, none⟩), .int .u64 150] 93)).alloc (.cells #[.pointer (some ⟨2, 84, none⟩), .pointer (some ⟨w.heap.size, 0, none⟩), .int .u64 150] 93)).alloc (.cells #[.int .i64 e] 30)).setCell t (.int .i64 e) := by
  have h33 := @run_callFunc_extern Tryz.prog 59 _ (fun args => ReflectliteValue.unpack (args.getD 0 (.tuple #[]))) Tryz.func59 (by kernel_rfl) (by kernel_rfl) (by kernel_rfl) (by kernel_rfl)
  have h34 := @run_callFunc_extern Tryz.prog 60 _ (ReflectliteValue.methodAny (ReflectliteValue.valueError "reflectlite.Value.Type" 0) (fun t _ _ _ => ReflectliteType.toType t)) Tryz.func60 (by kernel_rfl) (by kernel_rfl) (by kernel_rfl) (by kernel_rfl)
  have h35 := @run_callFunc_extern Tryz.prog 61 _ (ReflectliteValue.method (ReflectliteValue.valueError "reflectlite.Value.IsNil" 0) ReflectliteValue.isNil) Tryz.func61 (by kernel_rfl) (by kernel_rfl) (by kernel_rfl) (by kernel_rfl)
  have h55 := @run_callFunc_extern Tryz.prog 101 _ (ReflectliteType.abiMethod fun t => do pure (.int .u8 (← Rtype.kind t))) Tryz.func101 (by kernel_rfl) (by kernel_rfl) (by kernel_rfl) (by kernel_rfl)
  have h68 := @run_callFunc_extern Tryz.prog 113 _ (ReflectliteType.method ReflectliteType.elem) Tryz.func113 (by kernel_rfl) (by kernel_rfl) (by kernel_rfl) (by kernel_rfl)
  have h69 := @run_callFunc_extern Tryz.prog 114 _ (ReflectliteType.relation "Implements" ReflectliteType.implements_) Tryz.func114 (by kernel_rfl) (by kernel_rfl) (by kernel_rfl) (by kernel_rfl)
  have h38 := @run_callFunc_extern Tryz.prog 66 _ ReflectliteType.typeOf Tryz.func66 (by kernel_rfl) (by kernel_rfl) (by kernel_rfl) (by kernel_rfl)
  have h66 := @run_callFunc_extern Tryz.prog 111 _ (ReflectliteType.relation "AssignableTo" ReflectliteType.assignableTo) Tryz.func111 (by kernel_rfl) (by kernel_rfl) (by kernel_rfl) (by kernel_rfl)
  have h39 := @run_callFunc_extern Tryz.prog 67 _ (ReflectliteValue.method (ReflectliteValue.valueError "reflectlite.Value.Elem" 0) ReflectliteValue.elem) Tryz.func67 (by kernel_rfl) (by kernel_rfl) (by kernel_rfl) (by kernel_rfl)
  have h40 := @run_callFunc_extern Tryz.prog 68 _ ReflectliteValue.set Tryz.func68 (by kernel_rfl) (by kernel_rfl) (by kernel_rfl) (by kernel_rfl)
  have k1 := Tryz.valueOf67
  have k2 := Tryz.type67
  have k3 := Tryz.kind67
  have k4 := Tryz.kind23
  have k5 := Tryz.elem67
  have k6 := Tryz.implements23
  have k7 := Tryz.typeOf59
  have k8 := Tryz.typeOf23
  have k9 := Tryz.assignable59
  have k10 := Tryz.assignable23
  have k11 := Tryz.valueOf23
  have k12 := Tryz.noAs
  have k13 := Tryz.hasUnwrap
  have m1 := Tryz.methodKind
  have m2 := Tryz.methodElem
  have m3 := Tryz.methodImplements
  have m4 := Tryz.methodAssignableTo
  have m5 := Tryz.methodUnwrap
  have hglt : 1 < w.heap.size := lt_of_cell hg
  have hAlt : g < w.heap.size := (Array.getElem?_eq_some_iff.1 hA).1
  have htl : t.block < w.heap.size := by
    rcases Nat.lt_or_ge t.block w.heap.size with h | h
    · exact h
    · simp [World.cell?, Array.getElem?_eq_none h] at ht0
  have hA0 : w.cell? ⟨g, 0, none⟩ = some (.int .i64 e) := by rw [cell_of_row _ _ _ _ _ _ hA]; rfl
  have n8 := Tryz.isNil67 ⟨w.heap.size, 0, none⟩ t ((w.alloc (.cells #[.pointer (some t)] 84)).alloc (.cells #[.pointer (some ⟨2, 84, none⟩), .pointer (some ⟨w.heap.size, 0, none⟩), .int .u64 150] 93)) (by simp)
  have hg2 : ((w.alloc (.cells #[.pointer (some t)] 84)).alloc (.cells #[.pointer (some ⟨2, 84, none⟩), .pointer (some ⟨w.heap.size, 0, none⟩), .int .u64 150] 93)).cell? ⟨1, 0, none⟩ = some (.iface 108 (.agg #[.pointer (some ⟨2, 36, none⟩)])) := by
    rw [World.cell?_alloc_lt _ _ ⟨1, 0, none⟩ (by simp; omega), World.cell?_alloc_lt _ _ ⟨1, 0, none⟩ hglt]; exact hg
  have hu : (((w.alloc (.cells #[.pointer (some t)] 84)).alloc (.cells #[.pointer (some ⟨2, 84, none⟩), .pointer (some ⟨w.heap.size, 0, none⟩), .int .u64 150] 93)).alloc (.cells #[.pointer (some ⟨2, 84, none⟩), .pointer (some ⟨w.heap.size, 0, none⟩), .int .u64 150] 93)).cell? ⟨g, 0, none⟩ = some (.int .i64 e) := by
    rw [World.cell?_alloc_lt _ _ ⟨g, 0, none⟩ (by simp; omega), World.cell?_alloc_lt _ _ ⟨g, 0, none⟩ (by simp; omega), World.cell?_alloc_lt _ _ ⟨g, 0, none⟩ hAlt]; exact hA0
  have el := Tryz.elemV67 ⟨w.heap.size, 0, none⟩ t (((w.alloc (.cells #[.pointer (some t)] 84)).alloc (.cells #[.pointer (some ⟨2, 84, none⟩), .pointer (some ⟨w.heap.size, 0, none⟩), .int .u64 150] 93)).alloc (.cells #[.pointer (some ⟨2, 84, none⟩), .pointer (some ⟨w.heap.size, 0, none⟩), .int .u64 150] 93)) (by rw [World.cell?_alloc_lt _ _ ⟨w.heap.size, 0, none⟩ (by simp; omega)]; simp)
  have st := Tryz.set23 t ⟨w.heap.size + 1 + 1 + 1, 0, none⟩ e old ((((w.alloc (.cells #[.pointer (some t)] 84)).alloc (.cells #[.pointer (some ⟨2, 84, none⟩), .pointer (some ⟨w.heap.size, 0, none⟩), .int .u64 150] 93)).alloc (.cells #[.pointer (some ⟨2, 84, none⟩), .pointer (some ⟨w.heap.size, 0, none⟩), .int .u64 150] 93)).alloc (.cells #[.int .i64 e] 30))
    (by rw [World.cell?_alloc_at _ _ _ _ (by simp)]; rfl)
    (by rw [World.cell?_alloc_lt _ _ t (by simp; omega), World.cell?_alloc_lt _ _ t (by simp; omega), World.cell?_alloc_lt _ _ t (by simp; omega), World.cell?_alloc_lt _ _ t htl]; exact ht0)
    (by rw [World.frozen?_alloc_old _ _ t (by simp; omega), World.frozen?_alloc_old _ _ t (by simp; omega), World.frozen?_alloc_old _ _ t (by simp; omega), World.frozen?_alloc_old _ _ t (Nat.ne_of_lt htl)]; exact hf0)
  go_enter Tryz.func40, Tryz.ntmps40
  go_wp2
  refine wp_loop_rounds 2 ?_
  rw [rounds_succ]
  go_wp2_with (go_at_call 106; refine (unwrap_any g e _ hu).mono ?_; rintro e' w' ⟨rfl, hw⟩; obtain rfl := hw.symm)
  rw [rounds_succ]
  go_wp2
  go_ret
  exact ⟨rfl, rfl⟩

set_option maxRecDepth 100000 in
set_option maxHeartbeats 4000000 in
theorem as_err (e : Nat) (t : Addr) (old : Value) (w : World) (hg : ErrType w) (ht0 : w.cell? t = some old) (hf0 : w.frozen? t = false) :
    Calls Tryz.prog 40 #[.iface 30 (.int .i64 e), .iface 84 (.pointer (some t))] w fun ev w' => ev = .returned (.bool true) ∧ w' = ((((w.alloc (.cells #[.pointer (some t)] 84)).alloc (.cells #[.pointer (some ⟨2, 84, none⟩), .pointer (some ⟨w.heap.size, 0, none⟩), .int .u64 150] 93)).alloc (.cells #[.pointer (some ⟨2, 84, none⟩), .pointer (some ⟨w.heap.size, 0, none⟩), .int .u64 150] 93)).alloc (.cells #[.int .i64 e] 30)).setCell t (.int .i64 e) := by
  have h33 := @run_callFunc_extern Tryz.prog 59 _ (fun args => ReflectliteValue.unpack (args.getD 0 (.tuple #[]))) Tryz.func59 (by kernel_rfl) (by kernel_rfl) (by kernel_rfl) (by kernel_rfl)
  have h34 := @run_callFunc_extern Tryz.prog 60 _ (ReflectliteValue.methodAny (ReflectliteValue.valueError "reflectlite.Value.Type" 0) (fun t _ _ _ => ReflectliteType.toType t)) Tryz.func60 (by kernel_rfl) (by kernel_rfl) (by kernel_rfl) (by kernel_rfl)
  have h35 := @run_callFunc_extern Tryz.prog 61 _ (ReflectliteValue.method (ReflectliteValue.valueError "reflectlite.Value.IsNil" 0) ReflectliteValue.isNil) Tryz.func61 (by kernel_rfl) (by kernel_rfl) (by kernel_rfl) (by kernel_rfl)
  have h55 := @run_callFunc_extern Tryz.prog 101 _ (ReflectliteType.abiMethod fun t => do pure (.int .u8 (← Rtype.kind t))) Tryz.func101 (by kernel_rfl) (by kernel_rfl) (by kernel_rfl) (by kernel_rfl)
  have h68 := @run_callFunc_extern Tryz.prog 113 _ (ReflectliteType.method ReflectliteType.elem) Tryz.func113 (by kernel_rfl) (by kernel_rfl) (by kernel_rfl) (by kernel_rfl)
  have h69 := @run_callFunc_extern Tryz.prog 114 _ (ReflectliteType.relation "Implements" ReflectliteType.implements_) Tryz.func114 (by kernel_rfl) (by kernel_rfl) (by kernel_rfl) (by kernel_rfl)
  have h38 := @run_callFunc_extern Tryz.prog 66 _ ReflectliteType.typeOf Tryz.func66 (by kernel_rfl) (by kernel_rfl) (by kernel_rfl) (by kernel_rfl)
  have h66 := @run_callFunc_extern Tryz.prog 111 _ (ReflectliteType.relation "AssignableTo" ReflectliteType.assignableTo) Tryz.func111 (by kernel_rfl) (by kernel_rfl) (by kernel_rfl) (by kernel_rfl)
  have h39 := @run_callFunc_extern Tryz.prog 67 _ (ReflectliteValue.method (ReflectliteValue.valueError "reflectlite.Value.Elem" 0) ReflectliteValue.elem) Tryz.func67 (by kernel_rfl) (by kernel_rfl) (by kernel_rfl) (by kernel_rfl)
  have h40 := @run_callFunc_extern Tryz.prog 68 _ ReflectliteValue.set Tryz.func68 (by kernel_rfl) (by kernel_rfl) (by kernel_rfl) (by kernel_rfl)
  have k1 := Tryz.valueOf67
  have k2 := Tryz.type67
  have k3 := Tryz.kind67
  have k4 := Tryz.kind23
  have k5 := Tryz.elem67
  have k6 := Tryz.implements23
  have k8 := Tryz.typeOf23
  have k10 := Tryz.assignable23
  have k11 := Tryz.valueOf23
  have m1 := Tryz.methodKind
  have m2 := Tryz.methodElem
  have m3 := Tryz.methodImplements
  have m4 := Tryz.methodAssignableTo
  have hglt : 1 < w.heap.size := lt_of_cell hg
  have htl : t.block < w.heap.size := by
    rcases Nat.lt_or_ge t.block w.heap.size with h | h
    · exact h
    · simp [World.cell?, Array.getElem?_eq_none h] at ht0
  have n8 := Tryz.isNil67 ⟨w.heap.size, 0, none⟩ t ((w.alloc (.cells #[.pointer (some t)] 84)).alloc (.cells #[.pointer (some ⟨2, 84, none⟩), .pointer (some ⟨w.heap.size, 0, none⟩), .int .u64 150] 93)) (by simp)
  have hg2 : ((w.alloc (.cells #[.pointer (some t)] 84)).alloc (.cells #[.pointer (some ⟨2, 84, none⟩), .pointer (some ⟨w.heap.size, 0, none⟩), .int .u64 150] 93)).cell? ⟨1, 0, none⟩ = some (.iface 108 (.agg #[.pointer (some ⟨2, 36, none⟩)])) := by
    rw [World.cell?_alloc_lt _ _ ⟨1, 0, none⟩ (by simp; omega), World.cell?_alloc_lt _ _ ⟨1, 0, none⟩ hglt]; exact hg
  have el := Tryz.elemV67 ⟨w.heap.size, 0, none⟩ t (((w.alloc (.cells #[.pointer (some t)] 84)).alloc (.cells #[.pointer (some ⟨2, 84, none⟩), .pointer (some ⟨w.heap.size, 0, none⟩), .int .u64 150] 93)).alloc (.cells #[.pointer (some ⟨2, 84, none⟩), .pointer (some ⟨w.heap.size, 0, none⟩), .int .u64 150] 93)) (by rw [World.cell?_alloc_lt _ _ ⟨w.heap.size, 0, none⟩ (by simp; omega)]; simp)
  have st := Tryz.set23 t ⟨w.heap.size + 1 + 1 + 1, 0, none⟩ e old ((((w.alloc (.cells #[.pointer (some t)] 84)).alloc (.cells #[.pointer (some ⟨2, 84, none⟩), .pointer (some ⟨w.heap.size, 0, none⟩), .int .u64 150] 93)).alloc (.cells #[.pointer (some ⟨2, 84, none⟩), .pointer (some ⟨w.heap.size, 0, none⟩), .int .u64 150] 93)).alloc (.cells #[.int .i64 e] 30))
    (by rw [World.cell?_alloc_at _ _ _ _ (by simp)]; rfl)
    (by rw [World.cell?_alloc_lt _ _ t (by simp; omega), World.cell?_alloc_lt _ _ t (by simp; omega), World.cell?_alloc_lt _ _ t (by simp; omega), World.cell?_alloc_lt _ _ t htl]; exact ht0)
    (by rw [World.frozen?_alloc_old _ _ t (by simp; omega), World.frozen?_alloc_old _ _ t (by simp; omega), World.frozen?_alloc_old _ _ t (by simp; omega), World.frozen?_alloc_old _ _ t (Nat.ne_of_lt htl)]; exact hf0)
  go_enter Tryz.func40, Tryz.ntmps40
  go_wp2
  refine wp_loop_rounds 1 ?_
  rw [rounds_succ]
  go_wp2
  go_ret
  exact ⟨rfl, rfl⟩

end Go.Proofs.YtgjhfmkilpmfnaaGreatDoor
