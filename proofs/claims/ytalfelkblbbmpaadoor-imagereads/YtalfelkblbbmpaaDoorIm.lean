/- Code as bytes (chapter 12): plain, no program in sight. -/
import Derived.Test.YtalfelkblbbmpaaDoorNm
namespace Go.Proofs.YtalfelkblbbmpaaDoor
namespace Ix
open Nx

/-- twice a number; below 0 one less than twice as much as it is below 0 -/
def wv (z : Int) : Nat := if z < 0 then (2 * (-z) - 1).toNat else (2 * z).toNat
def uv (u : Nat) : Int := if u % 2 = 1 then -((u / 2 : Nat) : Int) - 1 else ((u / 2 : Nat) : Int)
theorem uv_wv (z : Int) : uv (wv z) = z := by
  unfold uv wv
  split <;> split <;> omega
theorem wv_uv (u : Nat) : wv (uv u) = u := by
  unfold uv wv
  split <;> split <;> omega
theorem wv_lt {z : Int} (h : -9223372036854775808 ≤ z) (h' : z ≤ 9223372036854775807) : wv z < 18446744073709551616 := by
  unfold wv
  split <;> omega
theorem uv_fits {u : Nat} (h : u < 18446744073709551616) : -9223372036854775808 ≤ uv u ∧ uv u ≤ 9223372036854775807 := by
  unfold uv
  split <;> omega

def pb (u : Nat) : List UInt8 := if u < 128 then [UInt8.ofNat u] else UInt8.ofNat (u % 128 + 128) :: pb (u / 128)
termination_by u
decreasing_by omega
theorem pb_one {u : Nat} (h : u < 128) : pb u = [UInt8.ofNat u] := by rw [pb, if_pos h]
theorem pb_more {u : Nat} (h : ¬ u < 128) : pb u = UInt8.ofNat (u % 128 + 128) :: pb (u / 128) := by rw [pb, if_neg h]
theorem pb_pos (u : Nat) : 0 < (pb u).length := by
  rw [pb]; split <;> simp
theorem pb_len : ∀ (k u : Nat), u < 128 ^ (k + 1) → (pb u).length ≤ k + 1
  | 0, u, h => by rw [pb_one (by simpa using h)]; simp
  | k + 1, u, h => by
    by_cases h0 : u < 128
    · rw [pb_one h0]; simp
    · rw [pb_more h0]
      have : u / 128 < 128 ^ (k + 1) := by
        apply Nat.div_lt_of_lt_mul
        rw [Nat.pow_succ] at h
        omega
      have := pb_len k (u / 128) this
      simp only [List.length_cons]
      omega
theorem pb_ten {u : Nat} (h : u < 18446744073709551616) : (pb u).length ≤ 10 := pb_len 9 u (by omega)

/-- PUT -/
def P8 (z : Int) : List UInt8 := pb (wv z)
theorem P8_pos (z : Int) : 0 < (P8 z).length := pb_pos _
theorem P8_ten {z : Int} (h : -9223372036854775808 ≤ z) (h' : z ≤ 9223372036854775807) : (P8 z).length ≤ 10 := pb_ten (wv_lt h h')

def pl (l : List Int) : List UInt8 := P8 l.length ++ l.flatMap P8
def nAsk (c : Int) : Nat := if c = 1 ∨ c = 2 ∨ c = 4 ∨ c = 5 then 1 else if 6 ≤ c ∧ c ≤ 16 then 2 else if c = 17 then 3 else 0
/-- what of a step is told -/
def toldS (s : Sp) : List Int := s.code :: s.dst :: [s.a, s.b, s.c].take (nAsk s.code)
theorem asks_take (s : Sp) (h : s.code ≠ 1) : asks s = [s.a, s.b, s.c].take (nAsk s.code) := by
  unfold asks nAsk
  by_cases h1 : s.code = 2 ∨ s.code = 4 ∨ s.code = 5
  · rw [if_pos h1, if_pos (.inr h1)]; rfl
  · rw [if_neg h1, if_neg (show ¬ (s.code = 1 ∨ s.code = 2 ∨ s.code = 4 ∨ s.code = 5) by omega)]
    split
    · rfl
    · split <;> rfl
theorem asks_num (s : Sp) (h : s.code = 1) : asks s = [] := by
  unfold asks
  rw [if_neg (by omega), if_neg (by omega), if_neg (by omega)]
def ps (s : Sp) : List UInt8 := (toldS s).flatMap P8
def writeN (n : Nt) : List UInt8 := [67, 76, 80, 49] ++ P8 n.places ++ pl n.first ++ pl n.ins ++ pl n.outs ++ pl n.keeps ++ pl n.nums ++ P8 n.code.length ++ n.code.flatMap ps

/-! taking numbers -/
/-- what the first i bytes come to -/
def vb (s : List UInt8) : Nat → Nat
  | 0 => 0
  | i + 1 => (vb s i + ((s.getD i 0).toNat % 128) * 2 ^ (7 * i)) % 18446744073709551616
theorem vb_lt (s : List UInt8) : ∀ i, vb s i < 18446744073709551616
  | 0 => by unfold vb; decide
  | i + 1 => Nat.mod_lt _ (by decide)
def vbs (s : List UInt8) : Nat → Nat
  | 0 => 0
  | i + 1 => vbs s i + ((s.getD i 0).toNat % 128) * 2 ^ (7 * i)
theorem vbs_lt (s : List UInt8) : ∀ i, vbs s i < 2 ^ (7 * i)
  | 0 => by simp [vbs]
  | i + 1 => by
    have h1 := vbs_lt s i
    have h2 : (s.getD i 0).toNat % 128 < 128 := Nat.mod_lt _ (by decide)
    have h3 : ((s.getD i 0).toNat % 128) * 2 ^ (7 * i) ≤ 127 * 2 ^ (7 * i) := Nat.mul_le_mul_right _ (by omega)
    have h4 : 2 ^ (7 * (i + 1)) = 128 * 2 ^ (7 * i) := by rw [show 7 * (i + 1) = 7 * i + 7 by omega, Nat.pow_add, Nat.mul_comm]
    rw [vbs, h4]; omega
theorem vb_vbs (s : List UInt8) : ∀ i, vb s i = vbs s i % 18446744073709551616
  | 0 => rfl
  | i + 1 => by rw [vb, vbs, vb_vbs s i, Nat.mod_add_mod]
theorem vb_small (s : List UInt8) (i : Nat) (h : i ≤ 9) : vb s i = vbs s i ∧ vb s i < 2 ^ (7 * i) := by
  have h1 := vbs_lt s i
  have h2 : 2 ^ (7 * i) ≤ 2 ^ 63 := Nat.pow_le_pow_right (by decide) (by omega)
  rw [vb_vbs, Nat.mod_eq_of_lt (by omega)]
  exact ⟨rfl, h1⟩

def tkF (s : List UInt8) : Nat → Nat → Option (Int × List UInt8)
  | 0, _ => none
  | f + 1, i => if i < s.length then (if 128 ≤ (s.getD i 0).toNat then tkF s f (i + 1) else if P8 (uv (vb s (i + 1))) = s.take (i + 1) then some (uv (vb s (i + 1)), s.drop (i + 1)) else none) else none
/-- a number that is PUT, and what is left -/
def tk (s : List UInt8) : Option (Int × List UInt8) := tkF s 10 0
theorem tkF_out (s : List UInt8) : ∀ (f i : Nat), s.length ≤ i → tkF s f i = none
  | 0, _, _ => rfl
  | f + 1, i, h => by rw [tkF, if_neg (by omega)]
theorem tkF_spec (s : List UInt8) : ∀ (f i : Nat) (z : Int) (r : List UInt8), tkF s f i = some (z, r) → s = P8 z ++ r ∧ -9223372036854775808 ≤ z ∧ z ≤ 9223372036854775807 ∧ (P8 z).length ≤ s.length
  | 0, _, _, _, h => by cases h
  | f + 1, i, z, r, h => by
    rw [tkF] at h
    split at h
    · split at h
      · exact tkF_spec s f (i + 1) z r h
      · split at h
        · rename_i he
          injection h with h
          injection h with h1 h2
          subst h1; subst h2
          refine ⟨by rw [he, List.take_append_drop], (uv_fits (vb_lt s _)).1, (uv_fits (vb_lt s _)).2, ?_⟩
          rw [he, List.length_take]
          omega
        · cases h
    · cases h
theorem tk_spec {s r : List UInt8} {z : Int} (h : tk s = some (z, r)) : s = P8 z ++ r ∧ -9223372036854775808 ≤ z ∧ z ≤ 9223372036854775807 := by
  obtain ⟨h1, h2, h3, _⟩ := tkF_spec s 10 0 z r h
  exact ⟨h1, h2, h3⟩
theorem tk_less {s r : List UInt8} {z : Int} (h : tk s = some (z, r)) : r.length + 1 ≤ s.length := by
  have h1 := (tk_spec h).1
  have := P8_pos z
  rw [h1, List.length_append]
  omega
theorem tk_nil : tk [] = none := rfl
/-- one from 0 to 4000 -/
def sm (s : List UInt8) : Option (Int × List UInt8) :=
  match tk s with
  | some (z, r) => if 0 ≤ z ∧ z ≤ 4000 then some (z, r) else none
  | none => none
theorem sm_nil : sm [] = none := rfl
theorem sm_spec {s r : List UInt8} {z : Int} (h : sm s = some (z, r)) : tk s = some (z, r) ∧ 0 ≤ z ∧ z ≤ 4000 := by
  unfold sm at h
  split at h
  · rename_i z' r' e
    split at h
    · rename_i hz
      injection h with h
      injection h with h1 h2
      subst h1; subst h2
      exact ⟨e, hz⟩
    · cases h
  · cases h
theorem sm_of {s r : List UInt8} {z : Int} (h : tk s = some (z, r)) (h0 : 0 ≤ z) (h1 : z ≤ 4000) : sm s = some (z, r) := by
  unfold sm; rw [h]; simp only [if_pos (And.intro h0 h1)]
theorem sm_none_tk {s : List UInt8} (h : tk s = none) : sm s = none := by unfold sm; rw [h]
theorem sm_none_big {s r : List UInt8} {z : Int} (h : tk s = some (z, r)) (hz : ¬ (0 ≤ z ∧ z ≤ 4000)) : sm s = none := by unfold sm; rw [h]; simp only [if_neg hz]

section
variable {α : Type} (f : List UInt8 → Option (α × List UInt8))
/-- k of them, one behind the other -/
def tkK (s : List UInt8) : Nat → Option (List α × List UInt8)
  | 0 => some ([], s)
  | k + 1 => match tkK s k with
    | some (l, r) => match f r with
      | some (z, r') => some (l ++ [z], r')
      | none => none
    | none => none
theorem tkK_none {s : List UInt8} {k : Nat} (h : tkK f s k = none) : tkK f s (k + 1) = none := by rw [tkK, h]
theorem tkK_none_le {s : List UInt8} {k m : Nat} (h : tkK f s k = none) (hm : k ≤ m) : tkK f s m = none := by
  induction m with
  | zero => obtain rfl : k = 0 := by omega
            exact h
  | succ m ih =>
    rcases Nat.lt_or_ge m k with hk | hk
    · obtain rfl : k = m + 1 := by omega
      exact h
    · exact tkK_none f (ih hk)
theorem tkK_step {s : List UInt8} {k : Nat} {l : List α} {r r' : List UInt8} {z : α} (h : tkK f s k = some (l, r)) (hz : f r = some (z, r')) : tkK f s (k + 1) = some (l ++ [z], r') := by
  rw [tkK, h]; simp only [hz]
theorem tkK_fail {s : List UInt8} {k : Nat} {l : List α} {r : List UInt8} (h : tkK f s k = some (l, r)) (hz : f r = none) : tkK f s (k + 1) = none := by
  rw [tkK, h]; simp only [hz]
theorem tkK_len {s : List UInt8} : ∀ {k : Nat} {l : List α} {r : List UInt8}, tkK f s k = some (l, r) → l.length = k
  | 0, l, r, h => by rw [tkK] at h; injection h with h; injection h with h1 _; subst h1; rfl
  | k + 1, l, r, h => by
    rw [tkK] at h
    split at h
    · rename_i l' r' e
      split at h
      · rename_i z r'' e2
        injection h with h; injection h with h1 _
        subst h1
        have := tkK_len e
        simp [this]
      · cases h
    · cases h
/-- each of them takes a byte at least -/
theorem tkK_less {s : List UInt8} (hf : ∀ s z r, f s = some (z, r) → r.length + 1 ≤ s.length) : ∀ {k : Nat} {l : List α} {r : List UInt8}, tkK f s k = some (l, r) → r.length + k ≤ s.length
  | 0, l, r, h => by rw [tkK] at h; injection h with h; injection h with _ h1; subst h1; omega
  | k + 1, l, r, h => by
    rw [tkK] at h
    split at h
    · rename_i l' r' e
      split at h
      · rename_i z r'' e2
        injection h with h; injection h with _ h1
        subst h1
        have h2 := tkK_less hf e
        have h3 := hf _ _ _ e2
        omega
      · cases h
    · cases h
theorem tkK_all {s : List UInt8} {p : α → Prop} (hf : ∀ s z r, f s = some (z, r) → p z) : ∀ {k : Nat} {l : List α} {r : List UInt8}, tkK f s k = some (l, r) → ∀ z ∈ l, p z
  | 0, l, r, h => by rw [tkK] at h; injection h with h; injection h with h1 _; subst h1; simp
  | k + 1, l, r, h => by
    rw [tkK] at h
    split at h
    · rename_i l' r' e
      split at h
      · rename_i z r'' e2
        injection h with h; injection h with h1 _
        subst h1
        intro x hx
        rcases List.mem_append.1 hx with hx | hx
        · exact tkK_all hf e x hx
        · rw [List.mem_singleton.1 hx]; exact hf _ _ _ e2
      · cases h
    · cases h
/-- what was taken stood there -/
theorem tkK_spec {s : List UInt8} {g : α → List UInt8} (hf : ∀ s z r, f s = some (z, r) → s = g z ++ r) : ∀ {k : Nat} {l : List α} {r : List UInt8}, tkK f s k = some (l, r) → s = l.flatMap g ++ r
  | 0, l, r, h => by rw [tkK] at h; injection h with h; injection h with h1 h2; subst h1; subst h2; rfl
  | k + 1, l, r, h => by
    rw [tkK] at h
    split at h
    · rename_i l' r' e
      split at h
      · rename_i z r'' e2
        injection h with h; injection h with h1 h2
        subst h1; subst h2
        rw [tkK_spec hf e, hf _ _ _ e2]
        simp
      · cases h
    · cases h
end

/-- how many, and they -/
def lst (f : List UInt8 → Option (Int × List UInt8)) (s : List UInt8) : Option (List Int × List UInt8) :=
  match sm s with
  | some (c, r) => tkK f r c.toNat
  | none => none
def rdS (s : List UInt8) : Option (Sp × List UInt8) :=
  match sm s with
  | some (c, r) => match tkK sm r (1 + nAsk c) with
    | some (l, r') => some (⟨c, l.getD 0 0, l.getD 1 0, l.getD 2 0, l.getD 3 0⟩, r')
    | none => none
  | none => none
def lstS (s : List UInt8) : Option (List Sp × List UInt8) :=
  match sm s with
  | some (c, r) => tkK rdS r c.toNat
  | none => none
/-- all of it -/
def rdN (s : List UInt8) : Option (Nt × List UInt8) :=
  match sm s with
  | none => none
  | some (p, s1) => match lst tk s1 with
    | none => none
    | some (fi, s2) => match lst sm s2 with
      | none => none
      | some (i, s3) => match lst sm s3 with
        | none => none
        | some (o, s4) => match lst sm s4 with
          | none => none
          | some (k, s5) => match lst tk s5 with
            | none => none
            | some (m, s6) => match lstS s6 with
              | none => none
              | some (c, s7) => some (⟨p, fi, i, o, k, m, c⟩, s7)
def nt0 : Nt := ⟨0, [], [], [], [], [], []⟩
/-- the code that bytes are -/
def readN (s : List UInt8) : Option Nt :=
  if [67, 76, 80, 49].isPrefixOf s = true then
    match rdN (s.drop 4) with
    | some (n, r) => if r = [] then some n else none
    | none => none
  else none
/-- what reading tells -/
def readE (s : List UInt8) : Nt × (Nat × Int) :=
  match readN s with
  | some n => if check n = (0, -1) then (n, (0, -1)) else (nt0, check n)
  | none => (nt0, (3, -1))

theorem lst_less {f : List UInt8 → Option (Int × List UInt8)} (hf : ∀ s z r, f s = some (z, r) → r.length + 1 ≤ s.length) {s r : List UInt8} {l : List Int} (h : lst f s = some (l, r)) : r.length + l.length + 1 ≤ s.length ∧ l.length ≤ 4000 := by
  unfold lst at h
  split at h
  · rename_i c r' e
    obtain ⟨e1, e2, e3⟩ := sm_spec e
    have h1 := tkK_less f hf h
    have h2 := tkK_len f h
    have h3 := tk_less e1
    omega
  · cases h
theorem sm_less (s : List UInt8) (z : Int) (r : List UInt8) (h : sm s = some (z, r)) : r.length + 1 ≤ s.length := tk_less (sm_spec h).1
theorem rdS_less (s : List UInt8) (x : Sp) (r : List UInt8) (h : rdS s = some (x, r)) : r.length + 1 ≤ s.length := by
  unfold rdS at h
  split at h
  · rename_i c r' e
    split at h
    · rename_i l r'' e2
      injection h with h; injection h with _ h1
      subst h1
      have h1 := tkK_less sm sm_less e2
      have h2 := sm_less _ _ _ e
      omega
    · cases h
  · cases h
theorem lstS_less {s r : List UInt8} {l : List Sp} (h : lstS s = some (l, r)) : r.length + l.length + 1 ≤ s.length ∧ l.length ≤ 4000 := by
  unfold lstS at h
  split at h
  · rename_i c r' e
    obtain ⟨e1, e2, e3⟩ := sm_spec e
    have h1 := tkK_less rdS rdS_less h
    have h2 := tkK_len rdS h
    have h3 := tk_less e1
    omega
  · cases h
/-- the parts of what was read -/
theorem rdN_parts {s r : List UInt8} {n : Nt} (h : rdN s = some (n, r)) : ∃ s1 s2 s3 s4 s5 s6, sm s = some (n.places, s1) ∧ lst tk s1 = some (n.first, s2) ∧ lst sm s2 = some (n.ins, s3) ∧ lst sm s3 = some (n.outs, s4) ∧ lst sm s4 = some (n.keeps, s5) ∧ lst tk s5 = some (n.nums, s6) ∧ lstS s6 = some (n.code, r) := by
  unfold rdN at h
  split at h
  · cases h
  rename_i p s1 e1
  split at h
  · cases h
  rename_i fi s2 e2
  split at h
  · cases h
  rename_i i s3 e3
  split at h
  · cases h
  rename_i o s4 e4
  split at h
  · cases h
  rename_i k s5 e5
  split at h
  · cases h
  rename_i m s6 e6
  split at h
  · cases h
  rename_i c s7 e7
  injection h with h
  injection h with h1 h2
  subst h1; subst h2
  exact ⟨s1, s2, s3, s4, s5, s6, e1, e2, e3, e4, e5, e6, e7⟩
theorem rdN_of {s s1 s2 s3 s4 s5 s6 s7 : List UInt8} {p : Int} {fi i o k m : List Int} {c : List Sp} (e1 : sm s = some (p, s1)) (e2 : lst tk s1 = some (fi, s2)) (e3 : lst sm s2 = some (i, s3)) (e4 : lst sm s3 = some (o, s4)) (e5 : lst sm s4 = some (k, s5)) (e6 : lst tk s5 = some (m, s6)) (e7 : lstS s6 = some (c, s7)) : rdN s = some (⟨p, fi, i, o, k, m, c⟩, s7) := by
  unfold rdN
  simp only [e1, e2, e3, e4, e5, e6, e7]
theorem rdN_len {s r : List UInt8} {n : Nt} (h : rdN s = some (n, r)) : n.first.length + n.ins.length + n.outs.length + n.keeps.length + n.nums.length + n.code.length ≤ s.length ∧ n.places ≤ 4000 ∧ n.code.length ≤ 4000 ∧ n.nums.length ≤ 4000 := by
  obtain ⟨s1, s2, s3, s4, s5, s6, e1, e2, e3, e4, e5, e6, e7⟩ := rdN_parts h
  have t1 := sm_less _ _ _ e1
  have t0 := (sm_spec e1).2.2
  have t2 := lst_less (fun _ _ _ => tk_less) e2
  have t3 := lst_less sm_less e3
  have t4 := lst_less sm_less e4
  have t5 := lst_less sm_less e5
  have t6 := lst_less (fun _ _ _ => tk_less) e6
  have t7 := lstS_less e7
  omega
end Ix
end Go.Proofs.YtalfelkblbbmpaaDoor
