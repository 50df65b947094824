/- Code whose places are called otherwise, with steps more that put something where nobody asks: it tells the same. Plain. -/
import Derived.Test.YtanlfmhlohcmgaaNm
namespace Go.Proofs.Ytanlfmhlohcmgaa
open Go.RowKit
namespace Nx

/-- a place's other name -/
def toP (P y p : Int) : Int := (p + y) % P
theorem toP_in (P y p : Int) (hP : 0 < P) : 0 ≤ toP P y p ∧ toP P y p < P := ⟨Int.emod_nonneg _ (by omega), Int.emod_lt_of_pos _ hP⟩
theorem toP_eq (P y p : Int) (hy : 0 ≤ y) (hy' : y < P) (h0 : 0 ≤ p) (h1 : p < P) : toP P y p = if p + y < P then p + y else p + y - P := by
  unfold toP
  split
  · rw [Int.emod_eq_of_lt (by omega) (by omega)]
  · rw [← Int.sub_emod_right, Int.emod_eq_of_lt (by omega) (by omega)]
theorem toP_inj (P y p q : Int) (hy : 0 ≤ y) (hy' : y < P) (h0 : 0 ≤ p) (h1 : p < P) (k0 : 0 ≤ q) (k1 : q < P) (h : toP P y p = toP P y q) : p = q := by
  rw [toP_eq P y p hy hy' h0 h1, toP_eq P y q hy hy' k0 k1] at h
  split at h <;> split at h <;> omega

/-- the same numbers, at places that are called otherwise -/
structure Rel (P y : Int) (V V' : List Int) : Prop where
  l : (V.length : Int) = P
  l' : (V'.length : Int) = P + 1
  g : ∀ p, 0 ≤ p → p < P → get V' (toP P y p) = get V p

theorem Rel.put {P y : Int} {V V' : List Int} (h : Rel P y V V') (hy : 0 ≤ y) (hy' : y < P) (p x : Int) (h0 : 0 ≤ p) (h1 : p < P) : Rel P y (put V p x) (put V' (toP P y p) x) := by
  have hl := h.l; have hl' := h.l'
  have ht := toP_in P y p (by omega)
  refine ⟨by rw [put_len]; exact h.l, by rw [put_len]; exact h.l', fun q k0 k1 => ?_⟩
  rw [get_put, get_put]
  by_cases e : p = q
  · subst e; rw [if_pos ⟨rfl, by omega, by omega⟩, if_pos ⟨rfl, by omega, by omega⟩]
  · rw [if_neg (fun hh => e (toP_inj P y p q hy hy' h0 h1 k0 k1 hh.1)), if_neg (fun hh => e hh.1)]
    exact h.g q k0 k1
theorem Rel.more {P y : Int} {V V' : List Int} (h : Rel P y V V') (x : Int) : Rel P y V (Nx.put V' P x) := by
  have hl := h.l; have hl' := h.l'
  refine ⟨h.l, by rw [put_len]; exact h.l', fun q k0 k1 => ?_⟩
  rw [get_put, if_neg (fun hh => by have := (toP_in P y q (by omega)).2; omega)]
  exact h.g q k0 k1

/-- a step whose places are called otherwise -/
def swS (P y : Int) (s : Sp) : Sp :=
  ⟨s.code, toP P y s.dst, if 0 < (asks s).length then toP P y s.a else s.a, if 1 < (asks s).length then toP P y s.b else 0, if 2 < (asks s).length then toP P y s.c else 0⟩

/-- what a step that is fine is like -/
theorem fine_step {P : Int} {nums : Nat} {s : Sp} (h : stepE P nums s = 0) :
    (1 ≤ s.code ∧ s.code ≤ 17 ∧ s.code ≠ 3) ∧ isPl P s.dst = true ∧ (asks s).all (isPl P) = true ∧ (s.code = 1 → 0 ≤ s.a ∧ s.a < nums) ∧ (([s.a, s.b, s.c].drop (if s.code = 1 then 1 else (asks s).length)).any (· != 0)) = false := by
  unfold stepE at h
  by_cases h1 : s.code < 1 ∨ 17 < s.code ∨ s.code = 3
  · rw [if_pos h1] at h; simp at h
  rw [if_neg h1] at h
  by_cases h2 : ¬ (isPl P s.dst = true ∧ (asks s).all (isPl P) = true)
  · rw [if_pos h2] at h; simp at h
  rw [if_neg h2] at h
  by_cases h3 : s.code = 1 ∧ ¬ (0 ≤ s.a ∧ s.a < nums)
  · rw [if_pos h3] at h; simp at h
  rw [if_neg h3] at h
  cases h4 : (([s.a, s.b, s.c].drop (if s.code = 1 then 1 else (asks s).length)).any (· != 0)) with
  | true => rw [h4, if_pos rfl] at h; simp at h
  | false =>
    have h2 := Classical.not_not.1 h2
    exact ⟨⟨by omega, by omega, by omega⟩, h2.1, h2.2, fun e => Classical.byContradiction fun hn => h3 ⟨e, hn⟩, rfl⟩

theorem step_fine {P : Int} {nums : Nat} {s : Sp} (h1 : 1 ≤ s.code ∧ s.code ≤ 17 ∧ s.code ≠ 3) (h2 : isPl P s.dst = true) (h3 : (asks s).all (isPl P) = true) (h4 : s.code = 1 → 0 ≤ s.a ∧ s.a < nums)
    (h5 : (([s.a, s.b, s.c].drop (if s.code = 1 then 1 else (asks s).length)).any (· != 0)) = false) : stepE P nums s = 0 := by
  unfold stepE
  rw [if_neg (by omega), if_neg (fun hn => hn ⟨h2, h3⟩), if_neg (fun hn => hn.2 (h4 hn.1)), if_neg (by rw [h5]; simp)]

theorem isPl_iff (P p : Int) : isPl P p = true ↔ 0 ≤ p ∧ p < P := by unfold isPl; simp

/-- the ways that a step's code may be -/
theorem asks_cases (s : Sp) (h : 1 ≤ s.code ∧ s.code ≤ 17 ∧ s.code ≠ 3) :
    (s.code = 1 ∧ asks s = []) ∨ ((s.code = 2 ∨ s.code = 4 ∨ s.code = 5) ∧ asks s = [s.a]) ∨ ((6 ≤ s.code ∧ s.code ≤ 16) ∧ asks s = [s.a, s.b]) ∨ (s.code = 17 ∧ asks s = [s.a, s.b, s.c]) := by
  unfold asks
  by_cases h1 : s.code = 2 ∨ s.code = 4 ∨ s.code = 5
  · right; left; rw [if_pos h1]; exact ⟨h1, rfl⟩
  · by_cases h2 : 6 ≤ s.code ∧ s.code ≤ 16
    · right; right; left; rw [if_neg h1, if_pos h2]; exact ⟨h2, rfl⟩
    · by_cases h3 : s.code = 17
      · right; right; right; rw [if_neg h1, if_neg h2, if_pos h3]; exact ⟨h3, rfl⟩
      · left; rw [if_neg h1, if_neg h2, if_neg h3]; exact ⟨by omega, rfl⟩

theorem sw_eq0 (P y : Int) (s : Sp) (e : asks s = []) : swS P y s = ⟨s.code, toP P y s.dst, s.a, 0, 0⟩ := by unfold swS; rw [e]; simp
theorem sw_eq1 (P y : Int) (s : Sp) (e : asks s = [s.a]) : swS P y s = ⟨s.code, toP P y s.dst, toP P y s.a, 0, 0⟩ := by unfold swS; rw [e]; simp
theorem sw_eq2 (P y : Int) (s : Sp) (e : asks s = [s.a, s.b]) : swS P y s = ⟨s.code, toP P y s.dst, toP P y s.a, toP P y s.b, 0⟩ := by unfold swS; rw [e]; simp
theorem sw_eq3 (P y : Int) (s : Sp) (e : asks s = [s.a, s.b, s.c]) : swS P y s = ⟨s.code, toP P y s.dst, toP P y s.a, toP P y s.b, toP P y s.c⟩ := by unfold swS; rw [e]; simp

theorem asks_sw (P y : Int) (s : Sp) (h : 1 ≤ s.code ∧ s.code ≤ 17 ∧ s.code ≠ 3) : asks (swS P y s) = (asks s).map (toP P y) := by
  rcases asks_cases s h with ⟨c, e⟩ | ⟨c, e⟩ | ⟨c, e⟩ | ⟨c, e⟩
  · rw [sw_eq0 P y s e, e]; simp [asks, c]
  · rw [sw_eq1 P y s e, e]; simp only [asks]; rw [if_pos c]; rfl
  · rw [sw_eq2 P y s e, e]; simp only [asks]; rw [if_neg (by omega), if_pos c]; rfl
  · rw [sw_eq3 P y s e, e]; simp [asks, c]

theorem sw_fine (P y : Int) (nums : Nat) (s : Sp) (hy : 0 ≤ y) (hy' : y < P) (h : stepE P nums s = 0) : stepE (P + 1) nums (swS P y s) = 0 := by
  obtain ⟨h1, h2, h3, h4, h5⟩ := fine_step h
  have ht := fun p => toP_in P y p (by omega)
  have ha := asks_sw P y s h1
  refine step_fine h1 ?_ ?_ ?_ ?_
  · rw [isPl_iff]; have := ht s.dst; show 0 ≤ toP P y s.dst ∧ toP P y s.dst < P + 1; omega
  · rw [ha, List.all_eq_true]
    intro x hx
    obtain ⟨p, _, rfl⟩ := List.mem_map.1 hx
    rw [isPl_iff]; have := ht p; omega
  · intro hc
    have hc' : s.code = 1 := hc
    rcases asks_cases s h1 with ⟨c, e⟩ | ⟨c, e⟩ | ⟨c, e⟩ | ⟨c, e⟩
    · have : (swS P y s).a = s.a := by simp [swS, e]
      rw [this]; exact h4 hc'
    all_goals omega
  · rw [ha, List.length_map]
    rcases asks_cases s h1 with ⟨c, e⟩ | ⟨c, e⟩ | ⟨c, e⟩ | ⟨c, e⟩
    · rw [sw_eq0 P y s e]; simp [c]
    · rw [sw_eq1 P y s e, e, if_neg (by show ¬ s.code = 1; omega)]; simp
    · rw [sw_eq2 P y s e, e, if_neg (by show ¬ s.code = 1; omega)]; simp
    · rw [sw_eq3 P y s e, e, if_neg (by show ¬ s.code = 1; omega)]; simp

theorem made_rel {P y : Int} {nums V V' : List Int} {s : Sp} {k : Nat} (hR : Rel P y V V') (h : stepE P k s = 0) : made nums V' (swS P y s) = made nums V s := by
  obtain ⟨h1, h2, h3, h4, h5⟩ := fine_step h
  have gg : ∀ p ∈ asks s, get V' (toP P y p) = get V p := by
    intro p hp
    have := (isPl_iff P p).1 (List.all_eq_true.1 h3 p hp)
    exact hR.g p this.1 this.2
  rcases asks_cases s h1 with ⟨c, e⟩ | ⟨c, e⟩ | ⟨c, e⟩ | ⟨c, e⟩
  all_goals rw [e] at gg
  · rw [sw_eq0 P y s e]; simp [made, c]
  · have g1 := gg s.a (by simp)
    rw [sw_eq1 P y s e]
    have n1 : ¬ s.code = 1 := by omega
    by_cases c2 : s.code = 2
    · simp [made, c2, g1]
    · have n4 : s.code = 4 ∨ s.code = 5 := by omega
      simp [made, c2, n1, n4, g1]
  · have g1 := gg s.a (by simp)
    have g2 := gg s.b (by simp)
    rw [sw_eq2 P y s e]
    have n1 : ¬ s.code = 1 := by omega
    have n2 : ¬ s.code = 2 := by omega
    have n4 : ¬ (s.code = 4 ∨ s.code = 5) := by omega
    have n17 : ¬ s.code = 17 := by omega
    simp [made, n1, n2, n4, n17, g1, g2]
  · have g1 := gg s.a (by simp)
    have g2 := gg s.b (by simp)
    have g3 := gg s.c (by simp)
    rw [sw_eq3 P y s e]
    simp [made, c, g1, g2, g3]

/-- steps, one after another -/
def runL (nums : List Int) (V : List Int) (cs : List Sp) : List Int := cs.foldl (fun V s => put V s.dst (made nums V s)) V
theorem codeK_take (nums : List Int) (cs : List Sp) (V : List Int) (k : Nat) (hk : k ≤ cs.length) : codeK nums cs V k = runL nums V (cs.take k) := by
  induction k with
  | zero => simp [codeK, runL]
  | succ k ih =>
    rw [codeK, ih (by omega), List.take_succ_eq_append_getElem (by omega)]
    unfold runL
    rw [List.foldl_append]
    simp [List.getD_eq_getElem?_getD, show k < cs.length by omega]
theorem codeK_all (nums : List Int) (cs : List Sp) (V : List Int) : codeK nums cs V cs.length = runL nums V cs := by
  rw [codeK_take nums cs V _ (Nat.le_refl _), List.take_length]

/-- a step more -/
def exS (P : Int) (s : Sp) : Sp := ⟨6, P, s.a % 18446744073709551616 % (P + 1), s.b % 18446744073709551616 % P, 0⟩
/-- the code, called otherwise, with steps more -/
def codeW (P y : Int) (cs more : List Sp) : Nat → List Sp
  | 0 => []
  | k + 1 => codeW P y cs more k ++ [swS P y (cs.getD k sp0)] ++ (if k < more.length then [exS P (more.getD k sp0)] else [])

theorem codeW_len (P y : Int) (cs more : List Sp) (k : Nat) : (codeW P y cs more k).length = k + min k more.length := by
  induction k with
  | zero => simp [codeW]
  | succ k ih =>
    rw [codeW, List.length_append, List.length_append, ih]
    split <;> simp <;> omega

theorem ex_fine (P : Int) (nums : Nat) (s : Sp) (hP : 0 < P) : stepE (P + 1) nums (exS P s) = 0 := by
  have h1 := Int.emod_nonneg (s.a % 18446744073709551616) (show P + 1 ≠ 0 by omega)
  have h2 := Int.emod_lt_of_pos (s.a % 18446744073709551616) (show 0 < P + 1 by omega)
  have h3 := Int.emod_nonneg (s.b % 18446744073709551616) (show P ≠ 0 by omega)
  have h4 := Int.emod_lt_of_pos (s.b % 18446744073709551616) hP
  have ha : asks (exS P s) = [s.a % 18446744073709551616 % (P + 1), s.b % 18446744073709551616 % P] := by simp [asks, exS]
  refine step_fine (by simp [exS]) ?_ ?_ ?_ ?_
  · rw [isPl_iff]; show 0 ≤ P ∧ P < P + 1; omega
  · rw [ha]; simp only [List.all_cons, List.all_nil, Bool.and_true, Bool.and_eq_true, isPl_iff]; omega
  · intro h; simp [exS] at h
  · rw [ha]; simp [exS]

theorem codeW_fine (P y : Int) (nums : Nat) (cs more : List Sp) (hy : 0 ≤ y) (hy' : y < P) (h : ∀ k, k < cs.length → stepE P nums (cs.getD k sp0) = 0) (k : Nat) (hk : k ≤ cs.length) : ∀ s ∈ codeW P y cs more k, stepE (P + 1) nums s = 0 := by
  induction k with
  | zero => simp [codeW]
  | succ k ih =>
    intro s hs
    rw [codeW, List.mem_append, List.mem_append] at hs
    rcases hs with (hs | hs) | hs
    · exact ih (by omega) s hs
    · rw [List.mem_singleton] at hs; rw [hs]; exact sw_fine P y nums _ hy hy' (h k (by omega))
    · split at hs
      · rw [List.mem_singleton] at hs; rw [hs]; exact ex_fine P nums _ (by omega)
      · simp at hs

theorem runL_rel {P y : Int} {nums : List Int} {nn : Nat} {cs more : List Sp} (hy : 0 ≤ y) (hy' : y < P) (h : ∀ k, k < cs.length → stepE P nn (cs.getD k sp0) = 0) {V V' : List Int} (hR : Rel P y V V') (k : Nat) (hk : k ≤ cs.length) :
    Rel P y (runL nums V (cs.take k)) (runL nums V' (codeW P y cs more k)) := by
  induction k with
  | zero => simpa [runL, codeW] using hR
  | succ k ih =>
    have ih := ih (by omega)
    have hf := h k (by omega)
    have hd := (isPl_iff P _).1 (fine_step hf).2.1
    rw [List.take_succ_eq_append_getElem (by omega), codeW]
    have e : cs[k] = cs.getD k sp0 := by simp [List.getD_eq_getElem?_getD, show k < cs.length by omega]
    rw [e]
    unfold runL at *
    rw [List.foldl_append, List.foldl_append, List.foldl_append]
    have h1 := ih.put hy hy' _ (made nums (List.foldl (fun V s => put V s.dst (made nums V s)) V (List.take k cs)) (cs.getD k sp0)) hd.1 hd.2
    rw [← made_rel (y := y) (nums := nums) ih hf] at h1
    split
    · have := h1.more (made nums (put (List.foldl (fun V s => put V s.dst (made nums V s)) V' (codeW P y cs more k)) (swS P y (cs.getD k sp0)).dst (made nums (List.foldl (fun V s => put V s.dst (made nums V s)) V' (codeW P y cs more k)) (swS P y (cs.getD k sp0)))) (exS P (more.getD k sp0)))
      simp only [List.foldl_cons, List.foldl_nil]
      rw [made_rel (y := y) (nums := nums) ih hf] at this ⊢
      exact this
    · simp only [List.foldl_cons, List.foldl_nil]
      rw [made_rel (y := y) (nums := nums) ih hf] at h1 ⊢
      exact h1

theorem getD_map (f : Int → Int) (l : List Int) (k : Nat) (hk : k < l.length) : (l.map f).getD k 0 = f (l.getD k 0) := by
  simp [List.getD_eq_getElem?_getD, hk]

theorem insK_rel {P y : Int} {l ins : List Int} (hy : 0 ≤ y) (hy' : y < P) (h : ∀ k, k < l.length → 0 ≤ l.getD k 0 ∧ l.getD k 0 < P) {V V' : List Int} (hR : Rel P y V V') (k : Nat) (hk : k ≤ l.length) : Rel P y (insK l ins V k) (insK (l.map (toP P y)) ins V' k) := by
  induction k with
  | zero => exact hR
  | succ k ih =>
    rw [insK, insK, getD_map _ _ _ (by omega)]
    exact (ih (by omega)).put hy hy' _ _ (h k (by omega)).1 (h k (by omega)).2

theorem keepK_rel {P y : Int} {l : List Int} (hy : 0 ≤ y) (hy' : y < P) (h : ∀ k, k < l.length → 0 ≤ l.getD k 0 ∧ l.getD k 0 < P) {V V' : List Int} (hR : Rel P y V V') (k : Nat) (hk : k ≤ l.length) : Rel P y (keepK l V k) (keepK (l.map (toP P y)) V' k) := by
  induction k with
  | zero =>
    refine ⟨by simpa [keepK] using hR.l, by simpa [keepK] using hR.l', fun p h0 h1 => ?_⟩
    have z : ∀ (n : Nat) (i : Int), get (List.replicate n 0) i = 0 := by
      intro n i
      unfold get
      split
      · by_cases hl : i.toNat < n
        · simp [List.getD_eq_getElem?_getD, hl]
        · simp [List.getD_eq_getElem?_getD, hl]
      · rfl
    rw [keepK, keepK, z, z]
  | succ k ih =>
    rw [keepK, keepK, getD_map _ _ _ (by omega), hR.g _ (h k (by omega)).1 (h k (by omega)).2]
    exact (ih (by omega)).put hy hy' _ _ (h k (by omega)).1 (h k (by omega)).2

/-- the code, all places called otherwise, with steps more; the first numbers put one by one -/
def firstW (P y : Int) (first : List Int) : Nat → List Int
  | 0 => List.replicate (P + 1).toNat 0
  | k + 1 => put (firstW P y first k) (toP P y k) (first.getD k 0)
theorem firstW_len (P y : Int) (first : List Int) (k : Nat) : (firstW P y first k).length = (P + 1).toNat := by
  induction k with
  | zero => simp [firstW]
  | succ k ih => rw [firstW, put_len, ih]
theorem firstW_get (P y : Int) (first : List Int) (hy : 0 ≤ y) (hy' : y < P) (k : Nat) (hk : (k : Int) ≤ P) : ∀ p : Int, 0 ≤ p → p < k → get (firstW P y first k) (toP P y p) = get first p := by
  induction k with
  | zero => intro p h0 h1; omega
  | succ k ih =>
    intro p h0 h1
    have ht := toP_in P y (k : Int) (by omega)
    rw [firstW, get_put, firstW_len]
    by_cases e : p = k
    · subst e; rw [if_pos ⟨rfl, by omega, by omega⟩, get_nat]
    · rw [if_neg (fun hh => e (toP_inj P y _ _ hy hy' (by omega) (by omega) h0 (by omega) hh.1).symm)]
      exact ih (by omega) p h0 (by omega)

def swN (n : Nt) (y : Int) (more : List Sp) : Nt :=
  ⟨n.places + 1, firstW n.places y n.first n.places.toNat, n.ins.map (toP n.places y), n.outs.map (toP n.places y), n.keeps.map (toP n.places y), n.nums, codeW n.places y n.code more n.code.length⟩

/-- what code that may be is, place by place -/
structure FineN (n : Nt) : Prop where
  p : 0 ≤ n.places
  first : (n.first.length : Int) = n.places
  ins : ∀ k, k < n.ins.length → 0 ≤ n.ins.getD k 0 ∧ n.ins.getD k 0 < n.places
  outs : ∀ k, k < n.outs.length → 0 ≤ n.outs.getD k 0 ∧ n.outs.getD k 0 < n.places
  keeps : ∀ k, k < n.keeps.length → 0 ≤ n.keeps.getD k 0 ∧ n.keeps.getD k 0 < n.places
  nodup : n.ins.Nodup
  code : ∀ k, k < n.code.length → stepE n.places n.nums.length (n.code.getD k sp0) = 0

theorem all_getD {P : Int} {l : List Int} (h : l.all (isPl P) = true) (k : Nat) (hk : k < l.length) : 0 ≤ l.getD k 0 ∧ l.getD k 0 < P := by
  have := List.all_eq_true.1 h (l.getD k 0) (by simp [List.getD_eq_getElem?_getD, hk])
  exact (isPl_iff _ _).1 this

theorem stepsE_all (P : Int) (nums : Nat) (l : List Sp) (i : Nat) (h : (stepsE P nums l i).1 = 0) : ∀ s ∈ l, stepE P nums s = 0 := by
  induction l generalizing i with
  | nil => simp
  | cons a r ih =>
    rw [stepsE] at h
    split at h
    · rename_i h0
      intro s hs
      rcases List.mem_cons.1 hs with rfl | hs
      · exact h0
      · exact ih _ h s hs
    · rename_i h0; exact absurd h h0

theorem fineN_of_check (n : Nt) (h : (check n).1 = 0) : FineN n := by
  unfold check at h
  split at h
  · rename_i hw
    have hst := stepsE_all _ _ _ _ h
    unfold wholeE at hw
    split at hw
    · simp at hw
    · split at hw
      · simp at hw
      · split at hw
        · simp at hw
        · split at hw
          · simp at hw
          · rename_i h1 h2 h3 h4
            have h3 := Classical.not_not.1 h3
            refine ⟨by omega, Classical.not_not.1 h2, all_getD h3.1, all_getD h3.2.1, all_getD h3.2.2, Classical.not_not.1 h4, fun k hk => hst _ (by simp [List.getD_eq_getElem?_getD, hk])⟩
  · rename_i hw; exact absurd h hw

theorem nodup_map {P y : Int} (hy : 0 ≤ y) (hy' : y < P) (l : List Int) (h : ∀ x ∈ l, 0 ≤ x ∧ x < P) (hn : l.Nodup) : (l.map (toP P y)).Nodup := by
  induction l with
  | nil => simp
  | cons a r ih =>
    rw [List.nodup_cons] at hn
    rw [List.map_cons, List.nodup_cons]
    refine ⟨fun hm => ?_, ih (fun x hx => h x (by simp [hx])) hn.2⟩
    obtain ⟨b, hb, e⟩ := List.mem_map.1 hm
    have ha := h a (by simp)
    have hb' := h b (by simp [hb])
    have := toP_inj P y b a hy hy' hb'.1 hb'.2 ha.1 ha.2 e
    exact hn.1 (this ▸ hb)

theorem mem_of_getD {l : List Int} {P : Int} (h : ∀ k, k < l.length → 0 ≤ l.getD k 0 ∧ l.getD k 0 < P) : ∀ x ∈ l, 0 ≤ x ∧ x < P := by
  intro x hx
  obtain ⟨k, hk, rfl⟩ := List.mem_iff_getElem.1 hx
  have := h k hk
  simpa [List.getD_eq_getElem?_getD, hk] using this

theorem swN_check (n : Nt) (y : Int) (more : List Sp) (hf : FineN n) (hy : 0 ≤ y) (hy' : y < n.places) (hs1 : n.places < 4000) (hs2 : n.code.length ≤ 2000) (hs3 : n.nums.length ≤ 4000) (hs4 : n.ins.length + n.outs.length + n.keeps.length ≤ 4000) : (check (swN n y more)).1 = 0 := by
  have hlen := codeW_len n.places y n.code more n.code.length
  have hall : ∀ l : List Int, (l.map (toP n.places y)).all (isPl (n.places + 1)) = true := by
    intro l
    rw [List.all_eq_true]
    intro x hx
    obtain ⟨p, _, rfl⟩ := List.mem_map.1 hx
    rw [isPl_iff]; have := toP_in n.places y p (by omega); omega
  have hw : wholeE (swN n y more) = 0 := by
    unfold wholeE swN
    simp only [List.length_map, firstW_len]
    rw [if_neg (by omega), if_neg (by simp; omega), if_neg (fun hn => hn ⟨hall _, hall _, hall _⟩), if_neg (fun hn => hn (nodup_map hy hy' _ (mem_of_getD hf.ins) hf.nodup))]
  unfold check
  rw [if_pos hw]
  show (stepsE (n.places + 1) n.nums.length (codeW n.places y n.code more n.code.length) 0).1 = 0
  rw [stepsE_fine _ _ _ fun j hj => codeW_fine n.places y n.nums.length n.code more hy hy' hf.code n.code.length (Nat.le_refl _) _ (by
    have hj' : j < (codeW n.places y n.code more n.code.length).length := hj
    show (codeW n.places y n.code more n.code.length).getD j sp0 ∈ _
    simp [List.getD_eq_getElem?_getD, hj'])]

theorem ran_rel (n : Nt) (y : Int) (more : List Sp) (hf : FineN n) (hy : 0 ≤ y) (hy' : y < n.places) {V V' : List Int} (hR : Rel n.places y V V') (ins : List Int) : Rel n.places y (ran n V ins) (ran (swN n y more) V' ins) := by
  unfold ran
  rw [codeK_all, codeK_all]
  have h1 := insK_rel (ins := ins) hy hy' hf.ins hR n.ins.length (Nat.le_refl _)
  have h2 := runL_rel (nums := n.nums) (more := more) hy hy' hf.code h1 n.code.length (Nat.le_refl _)
  rw [List.take_length] at h2
  have e : (swN n y more).ins.length = n.ins.length := by simp [swN]
  rw [e]
  exact h2
theorem tells_rel (n : Nt) (y : Int) (more : List Sp) (hf : FineN n) (hy : 0 ≤ y) (hy' : y < n.places) {V V' : List Int} (hR : Rel n.places y V V') (ins : List Int) : tells (swN n y more) V' ins = tells n V ins := by
  unfold tells
  show (n.outs.map (toP n.places y)).map _ = _
  rw [List.map_map]
  apply List.map_congr_left
  intro x hx
  have := mem_of_getD hf.outs x hx
  exact (ran_rel n y more hf hy hy' hR ins).g x this.1 this.2
theorem after_rel (n : Nt) (y : Int) (more : List Sp) (hf : FineN n) (hy : 0 ≤ y) (hy' : y < n.places) {V V' : List Int} (hR : Rel n.places y V V') (ins : List Int) : Rel n.places y (after n V ins) (after (swN n y more) V' ins) := by
  unfold after
  have e : (swN n y more).keeps.length = n.keeps.length := by simp [swN]
  rw [e]
  exact keepK_rel hy hy' hf.keeps (ran_rel n y more hf hy hy' hR ins) n.keeps.length (Nat.le_refl _)
theorem first_rel (n : Nt) (y : Int) (more : List Sp) (hf : FineN n) (hy : 0 ≤ y) (hy' : y < n.places) : Rel n.places y n.first (swN n y more).first := by
  refine ⟨hf.first, by show ((firstW n.places y n.first n.places.toNat).length : Int) = _; rw [firstW_len]; omega, fun p h0 h1 => ?_⟩
  exact firstW_get n.places y n.first hy hy' n.places.toNat (by omega) p h0 (by omega)

/-! what is told in ticks, as one list -/
def toldV (n : Nt) (V : List Int) (rows : List (List Int)) : Nat → List Int
  | 0 => V
  | k + 1 => after n (toldV n V rows k) (rows.getD k [])
def told (n : Nt) (V : List Int) (rows : List (List Int)) : Nat → List Int
  | 0 => []
  | k + 1 => (told n V rows k ++ [((told n V rows k).length : Int)]) ++ tells n (toldV n V rows k) (rows.getD k [])
theorem toldV_len (n : Nt) (V : List Int) (rows : List (List Int)) (k : Nat) : (toldV n V rows k).length = V.length := by
  induction k with
  | zero => rfl
  | succ k ih => rw [toldV, after_len, ih]
theorem told_len (n : Nt) (V : List Int) (rows : List (List Int)) (k : Nat) : (told n V rows k).length = k * (n.outs.length + 1) := by
  induction k with
  | zero => simp [told]
  | succ k ih => rw [told, List.length_append, List.length_append, ih, tells_len, Nat.add_mul]; simp; omega
theorem toldV_rel (n : Nt) (y : Int) (more : List Sp) (hf : FineN n) (hy : 0 ≤ y) (hy' : y < n.places) {V V' : List Int} (hR : Rel n.places y V V') (rows : List (List Int)) (k : Nat) : Rel n.places y (toldV n V rows k) (toldV (swN n y more) V' rows k) := by
  induction k with
  | zero => exact hR
  | succ k ih => rw [toldV, toldV]; exact after_rel n y more hf hy hy' ih _
theorem told_same (n : Nt) (y : Int) (more : List Sp) (hf : FineN n) (hy : 0 ≤ y) (hy' : y < n.places) (rows : List (List Int)) (k : Nat) : told (swN n y more) (swN n y more).first rows k = told n n.first rows k := by
  induction k with
  | zero => rfl
  | succ k ih => rw [told, told, ih, tells_rel n y more hf hy hy' (toldV_rel n y more hf hy hy' (first_rel n y more hf hy hy') rows k)]

end Nx
end Go.Proofs.Ytanlfmhlohcmgaa
