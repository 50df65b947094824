import Derived.Test.YtpogmfliojcnjaaGreatDoorQRreg0
import Derived.Test.YtpogmfliojcnjaaGreatDoorQSplit
import Derived.Test.YtpogmfliojcnjaaGreatDoorQPvar
import Derived.Defers
import Derived.Recover
namespace Go.Proofs.YtpogmfliojcnjaaGreatDoor
namespace Px
namespace Sh
open Go.Lib
def wE : E → Nat
 | .nil => 0
 | .node _ _ _ l r => 1 + wE l + wE r
def TE : E → Prop
 | .nil => True
 | .node _ _ a l r => 1 ≤ a.code ∧ a.code ≤ 16 ∧ (-9223372036854775808 ≤ a.num ∧ a.num ≤ 9223372036854775807) ∧ a.name.length ≤ 12 ∧ ((a.code ≤ 3 → l = .nil) ∧ (a.code ≤ 5 → r = .nil) ∧ (4 ≤ a.code → l ≠ .nil) ∧ (6 ≤ a.code → r ≠ .nil)) ∧ TE l ∧ TE r
section
variable {L : List Lx.Tok}
def DE (f : Nat → Except F (E × Nat)) : Prop := ∀ i e j, f i = .ok (e, j) → (TE e ∧ e ≠ .nil) ∧ i < j ∧ wE e ≤ j - i
theorem nm_len {i : Nat} {s : Str} (h : nm L i = .ok s) : s.length ≤ 12 := by
 unfold nm at h
 split at h
 ·exact absurd h (by simp)
 ·split at h
  ·exact absurd h (by simp)
  ·injection h with h; subst h; omega
theorem codeIn_mem (l : List (Str × Nat)) (s : Str) : codeIn l s = 0 ∨ ∃ p ∈ l, codeIn l s = p.2 := by
 induction l with
 | nil => exact .inl rfl
 | cons p r ih =>
  obtain ⟨t, c⟩ := p
  rw [codeIn]
  split
  ·exact .inr ⟨(t, c), by simp, rfl⟩
  ·rcases ih with h | ⟨q, hq, he⟩
   ·exact .inl h
   ·exact .inr ⟨q, by simp [hq], he⟩
theorem signs_range : ∀ (t : Fin 5) (p : Str × Nat), p ∈ signs.getD t.val [] → 6 ≤ p.2 ∧ p.2 ≤ 16 := by decide
theorem codeAt_range (t : Nat) (ht : t < 5) (s : Str) : codeAt t s = 0 ∨ (6 ≤ codeAt t s ∧ codeAt t s ≤ 16) := by
 rcases codeIn_mem (signs.getD t []) s with h | ⟨p, hp, he⟩
 ·exact .inl h
 ·have := signs_range ⟨t, ht⟩ p hp
  rw [codeAt, he]; exact .inr this
theorem chainF_w {below : Nat → Except F (E × Nat)} {code : Str → Nat} (hb : DE below) (hc : ∀ s, code s = 0 ∨ (6 ≤ code s ∧ code s ≤ 16)) : ∀ (f : Nat) (e : E) (i : Nat) (e' : E) (j : Nat), chainF L below code f e i = .ok (e', j) → (TE e ∧ e ≠ .nil) → (TE e' ∧ e' ≠ .nil) ∧ i ≤ j ∧ wE e' ≤ wE e + (j - i) := by
 intro f
 induction f with
 | zero =>
  intro e i e' j h he
  rw [chainF] at h
  injection h with h
  injection h with h1 h2
  subst h1; subst h2
  exact ⟨he, Nat.le_refl _, by omega⟩
 | succ f ih =>
  intro e i e' j h he
  rw [chainF] at h
  split at h
  ·injection h with h
   injection h with h1 h2
   subst h1; subst h2
   exact ⟨he, Nat.le_refl _, by omega⟩
  ·rename_i hne
   split at h
   ·exact absurd h (by simp)
   ·rename_i r m hr
    obtain ⟨t1, t2, t3⟩ := hb _ _ _ hr
    have hcc := hc (tx L i)
    have hte : TE (eTwo (code (tx L i)) e r) := ⟨show 1 ≤ code (tx L i) by omega, show code (tx L i) ≤ 16 by omega, ⟨show (-9223372036854775808 : Int) ≤ 0 by omega, show (0 : Int) ≤ 9223372036854775807 by omega⟩, Nat.zero_le _, ⟨fun h => absurd (show code (tx L i) ≤ 3 from h) (by omega), fun h => absurd (show code (tx L i) ≤ 5 from h) (by omega), fun _ => he.2, fun _ => t1.2⟩, he.1, t1.1⟩
    obtain ⟨q1, q2, q3⟩ := ih _ _ _ _ h ⟨hte, by simp [eTwo]⟩
    rw [show wE (eTwo (code (tx L i)) e r) = 1 + wE e + wE r from rfl] at q3
    exact ⟨q1, by omega, by omega⟩
theorem chain_w {below : Nat → Except F (E × Nat)} {code : Str → Nat} (hb : DE below) (hc : ∀ s, code s = 0 ∨ (6 ≤ code s ∧ code s ≤ 16)) : DE (chain L below code) := by
 intro i e j h
 rw [chain] at h
 split at h
 ·exact absurd h (by simp)
 ·rename_i e0 m hr
  obtain ⟨t1, t2, t3⟩ := hb _ _ _ hr
  obtain ⟨q1, q2, q3⟩ := chainF_w hb hc _ _ _ _ _ h t1
  exact ⟨q1, by omega, by omega⟩
theorem lev_w {one : Nat → Except F (E × Nat)} (h : DE one) : ∀ t, t ≤ 5 → DE (lev L one t) := by
 intro t
 induction t with
 | zero => intro _; exact h
 | succ t ih => intro ht; rw [lev]; exact chain_w (ih (by omega)) (codeAt_range (4 - t) (by omega))
theorem codeAhead_range (s : Str) : codeAhead s = 0 ∨ codeAhead s = 4 ∨ codeAhead s = 5 := by unfold codeAhead; (repeat' split) <;> simp
theorem one_w (hL : Wf L) : ∀ k, DE (one L k) := by
 intro k
 induction k with
 | zero => intro i e j h; rw [one] at h; exact absurd h (by simp)
 | succ k ih =>
  intro i e j h
  rw [one] at h
  split at h
  ·split at h
   ·exact absurd h (by simp)
   ·rename_i hne _ e0 m hr
    obtain ⟨t1, t2, t3⟩ := ih _ _ _ hr
    injection h with h
    injection h with h1 h2
    subst h1; subst h2
    have hcc := codeAhead_range (tx L i)
    refine ⟨⟨⟨show 1 ≤ codeAhead (tx L i) by omega, show codeAhead (tx L i) ≤ 16 by omega, ⟨show (-9223372036854775808 : Int) ≤ 0 by omega, show (0 : Int) ≤ 9223372036854775807 by omega⟩, Nat.zero_le _, ⟨fun h => absurd (show codeAhead (tx L i) ≤ 3 from h) (by omega), fun _ => rfl, fun _ => t1.2, fun h => absurd (show 6 ≤ codeAhead (tx L i) from h) (by omega)⟩, t1.1, trivial⟩, by simp [eOne]⟩, by omega, ?_⟩
    rw [show wE (eOne (codeAhead (tx L i)) e0) = 1 + wE e0 + 0 from rfl]
    omega
  ·split at h
   ·split at h
    ·exact absurd h (by simp)
    ·rename_i e0 m hr
     obtain ⟨t1, t2, t3⟩ := lev_w ih 5 (Nat.le_refl _) _ _ _ hr
     split at h
     ·injection h with h
      injection h with h1 h2
      subst h1; subst h2
      exact ⟨t1, by omega, by omega⟩
     ·exact absurd h (by simp)
   ·split at h
    ·split at h
     ·split at h
      ·exact absurd h (by simp)
      ·rename_i s hs
       split at h
       ·injection h with h
        injection h with h1 h2
        subst h1; subst h2
        refine ⟨⟨⟨show 1 ≤ 3 by omega, show 3 ≤ 16 by omega, ⟨show (-9223372036854775808 : Int) ≤ 0 by omega, show (0 : Int) ≤ 9223372036854775807 by omega⟩, nm_len hs, ⟨fun _ => rfl, fun _ => rfl, fun h => absurd (show 4 ≤ 3 from h) (by omega), fun h => absurd (show 6 ≤ 3 from h) (by omega)⟩, trivial, trivial⟩, by simp [eName]⟩, by omega, ?_⟩
        rw [show wE (eName 3 s) = 1 + 0 + 0 from rfl]; omega
       ·exact absurd h (by simp)
     ·exact absurd h (by simp)
    ·split at h
     ·rename_i hk
      injection h with h
      injection h with h1 h2
      subst h1; subst h2
      obtain ⟨n1, n2, n3⟩ := hL.num i hk
      have hv := (parse_digits (tx L i) n3 n1 n2).2
      have hp : (10 : Nat) ^ 18 = 1000000000000000000 := by decide
      rw [hp] at hv
      refine ⟨⟨⟨show 1 ≤ 1 by omega, show 1 ≤ 16 by omega, ⟨show (-9223372036854775808 : Int) ≤ (val (tx L i) : Int) by omega, show (val (tx L i) : Int) ≤ 9223372036854775807 by omega⟩, Nat.zero_le _, ⟨fun _ => rfl, fun _ => rfl, fun h => absurd (show 4 ≤ 1 from h) (by omega), fun h => absurd (show 6 ≤ 1 from h) (by omega)⟩, trivial, trivial⟩, by simp [eNum]⟩, by omega, ?_⟩
      rw [show wE (eNum (val (tx L i))) = 1 + 0 + 0 from rfl]; omega
     ·split at h
      ·exact absurd h (by simp)
      ·rename_i s hs
       injection h with h
       injection h with h1 h2
       subst h1; subst h2
       refine ⟨⟨⟨show 1 ≤ 2 by omega, show 2 ≤ 16 by omega, ⟨show (-9223372036854775808 : Int) ≤ 0 by omega, show (0 : Int) ≤ 9223372036854775807 by omega⟩, nm_len hs, ⟨fun _ => rfl, fun _ => rfl, fun h => absurd (show 4 ≤ 2 from h) (by omega), fun h => absurd (show 6 ≤ 2 from h) (by omega)⟩, trivial, trivial⟩, by simp [eName]⟩, by omega, ?_⟩
       rw [show wE (eName 2 s) = 1 + 0 + 0 from rfl]; omega
theorem expr_w (hL : Wf L) : DE (expr L) := lev_w (one_w hL 7) 5 (Nat.le_refl _)
def wS : List Asg → Nat
 | [] => 0
 | a :: r => 1 + wE a.e + wS r
def TS (l : List Asg) : Prop := ∀ a ∈ l, TE a.e ∧ a.name.length ≤ 12
theorem wS_append (l m : List Asg) : wS (l ++ m) = wS l + wS m := by
 induction l with
 | nil => simp [wS]
 | cons a r ih => rw [List.cons_append, wS, wS, ih]; omega
theorem wS_len (l : List Asg) : l.length ≤ wS l := by
 induction l with
 | nil => simp
 | cons a r ih => rw [wS, List.length_cons]; omega
theorem TS.app {l m : List Asg} (h : TS l) (h' : TS m) : TS (l ++ m) := fun a ha => (List.mem_append.1 ha).elim (h a) (h' a)
theorem sets_w (hL : Wf L) : ∀ (f : Nat) (l : List Asg) (i : Nat) (l' : List Asg) (j : Nat), sets L f l i = .ok (l', j) → TS l → TS l' ∧ i ≤ j ∧ wS l' ≤ wS l + (j - i) := by
 intro f
 induction f with
 | zero =>
  intro l i l' j h hl
  rw [sets] at h
  injection h with h
  injection h with h1 h2
  subst h1; subst h2
  exact ⟨hl, Nat.le_refl _, by omega⟩
 | succ f ih =>
  intro l i l' j h hl
  rw [sets] at h
  split at h
  ·exact absurd h (by simp)
  ·rename_i s hs
   split at h
   ·split at h
    ·exact absurd h (by simp)
    ·rename_i e m hr
     obtain ⟨t1, t2, t3⟩ := expr_w hL _ _ _ hr
     have hl' : TS (l ++ [⟨s, e⟩]) := hl.app (fun a ha => by obtain rfl := List.mem_singleton.1 ha; exact ⟨t1.1, nm_len hs⟩)
     have hw : wS (l ++ [⟨s, e⟩]) = wS l + (1 + wE e + 0) := wS_append _ _
     split at h
     ·obtain ⟨q1, q2, q3⟩ := ih _ _ _ _ h hl'
      exact ⟨q1, by omega, by omega⟩
     ·injection h with h
      injection h with h1 h2
      subst h1; subst h2
      exact ⟨hl', by omega, by omega⟩
   ·exact absurd h (by simp)
def wW (y : Wy) : Nat := 1 + wE y.cond + wS y.sets
def TW (y : Wy) : Prop := y.kind ≤ 2 ∧ y.times ≤ 1000 ∧ TE y.cond ∧ TS y.sets ∧ y.to.length ≤ 12
theorem times_le {i n : Nat} (h : times L i = .ok n) : n ≤ 1000 := by
 unfold times at h
 split at h
 ·exact absurd h (by simp)
 ·split at h
  ·exact absurd h (by simp)
  ·injection h with h; omega
theorem cond_w (hL : Wf L) {i n j : Nat} {e : E} (h : cond L i = .ok (n, e, j)) : n ≤ 1000 ∧ TE e ∧ i ≤ j ∧ wE e ≤ j - i := by
 unfold cond at h
 split at h
 ·split at h
  ·split at h
   ·exact absurd h (by simp)
   ·rename_i n' hn
    split at h
    ·exact absurd h (by simp)
    ·rename_i e' m hr
     obtain ⟨t1, t2, t3⟩ := expr_w hL _ _ _ hr
     injection h with h
     injection h with h1 h2
     injection h2 with h2 h3
     subst h1; subst h2; subst h3
     exact ⟨times_le hn, t1.1, by omega, by omega⟩
  ·split at h
   ·exact absurd h (by simp)
   ·rename_i e' m hr
    obtain ⟨t1, t2, t3⟩ := expr_w hL _ _ _ hr
    injection h with h
    injection h with h1 h2
    injection h2 with h2 h3
    subst h1; subst h2; subst h3
    exact ⟨by omega, t1.1, by omega, by omega⟩
 ·injection h with h
  injection h with h1 h2
  injection h2 with h2 h3
  subst h1; subst h2; subst h3
  exact ⟨by omega, trivial, Nat.le_refl _, Nat.zero_le _⟩
theorem does_w (hL : Wf L) {i j : Nat} {l : List Asg} (h : does L i = .ok (l, j)) : TS l ∧ i ≤ j ∧ wS l ≤ j - i := by
 unfold does at h
 split at h
 ·obtain ⟨q1, q2, q3⟩ := sets_w hL _ _ _ _ _ h (fun a ha => absurd ha (by simp))
  rw [show wS [] = 0 from rfl] at q3
  exact ⟨q1, by omega, by omega⟩
 ·injection h with h
  injection h with h1 h2
  subst h1; subst h2
  exact ⟨fun a ha => absurd ha (by simp), Nat.le_refl _, Nat.zero_le _⟩
theorem tx_lt {i : Nat} {s : Str} (h : tx L i = s) (hs : s ≠ []) : i < L.length := by
 rcases Nat.lt_or_ge i L.length with h' | h'
 ·exact h'
 ·exact absurd (by rw [← h, tx, tok, List.getD_eq_getElem?_getD, List.getElem?_eq_none h']; rfl) hs
theorem way_w (hL : Wf L) {k i j : Nat} {y : Wy} (hk : k ≤ 2) (h : way L k i = .ok (y, j)) : TW y ∧ i < j ∧ wW y ≤ j - i ∧ j ≤ L.length := by
 unfold way at h
 split at h
 ·exact absurd h (by simp)
 ·rename_i n e m hr
  obtain ⟨c1, c2, c3, c4⟩ := cond_w hL hr
  split at h
  ·exact absurd h (by simp)
  ·rename_i l q hd
   obtain ⟨d1, d2, d3⟩ := does_w hL hd
   split at h
   ·split at h
    ·exact absurd h (by simp)
    ·rename_i s hs
     split at h
     ·rename_i ht
      have := tx_lt ht (by simp [kSemi])
      have o1 := opt_le L kImm i
      have o2 := opt_le L kHist (q + 2)
      injection h with h
      injection h with h1 h2
      subst h1; subst h2
      refine ⟨⟨hk, c1, c2, d1, nm_len hs⟩, by omega, ?_, by omega⟩
      show 1 + wE e + wS l ≤ _
      omega
     ·exact absurd h (by simp)
   ·exact absurd h (by simp)
end
def sumW {α : Type} (f : α → Nat) : List α → Nat
 | [] => 0
 | a :: r => f a + sumW f r
theorem sumW_append {α : Type} (f : α → Nat) (l m : List α) : sumW f (l ++ m) = sumW f l + sumW f m := by
 induction l with
 | nil => simp [sumW]
 | cons a r ih => rw [List.cons_append, sumW, sumW, ih]; omega
theorem sumW_one {α : Type} (f : α → Nat) (a : α) : sumW f [a] = f a := by simp [sumW]
section
variable {ρ : Type}
def wR (f : ρ → Nat) (r : List ρ) : Nat := 1 + sumW f r
def wStF (f : ρ → Nat) (s : StF ρ) : Nat := 1 + wS s.enter + wS s.during + wS s.leave + wE s.rests + sumW wW s.ways + sumW (wR f) s.regions
def TStF (T : ρ → Prop) (s : StF ρ) : Prop := s.name.length ≤ 12 ∧ TS s.enter ∧ TS s.during ∧ TS s.leave ∧ TE s.rests ∧ (∀ y ∈ s.ways, TW y) ∧ ∀ r ∈ s.regions, ∀ x ∈ r, T x
end
def wSt : (k : Nat) → St k → Nat
 | 0 => fun _ => 1
 | k + 1 => fun s => wStF (wSt k) s
def TSt : (k : Nat) → St k → Prop
 | 0 => fun _ => True
 | k + 1 => fun s => TStF (TSt k) s
section
variable {ρ : Type} {f : ρ → Nat} {T : ρ → Prop}
end
section
variable {L : List Lx.Tok} {ρ : Type}
def DR (L : List Lx.Tok) (T : ρ → Prop) (f : ρ → Nat) (reg : Nat → Nat → Except F (List ρ × Nat × Nat)) : Prop := ∀ c i l c' j, reg c i = .ok (l, c', j) → (∀ x ∈ l, T x) ∧ i < j ∧ wR f l ≤ j - i ∧ j ≤ L.length
theorem semi_w {i m : Nat} (h : semi L i = .ok m) : m = i + 1 ∧ m ≤ L.length := by
 unfold semi at h
 split at h
 ·rename_i ht
  have := tx_lt ht (by simp [kSemi])
  injection h with h; omega
 ·exact absurd h (by simp)
theorem leadOf_le {s : Str} {k : Nat} (h : leadOf s = some k) : k ≤ 2 := by
 unfold leadOf at h
 split at h
 ·injection h with h; omega
 ·split at h
  ·injection h with h; omega
  ·split at h
   ·injection h with h; omega
   ·exact absurd h (by simp)
variable {T : ρ → Prop} {f : ρ → Nat} {reg : Nat → Nat → Except F (List ρ × Nat × Nat)}
theorem TS_nil : TS [] := fun a ha => absurd ha (by simp)
theorem part_w (hL : Wf L) (hr : DR L T f reg) {s s' : StF ρ} {c i c' j : Nat} (h : part L ρ reg s c i = .ok (some (s', c', j))) (hs : TStF T s) : TStF T s' ∧ i < j ∧ wStF f s' ≤ wStF f s + (j - i) ∧ j ≤ L.length := by
 obtain ⟨h0, h1, h2, h3, h4, h5, h6⟩ := hs
 rw [part] at h
 split at h
 ·rename_i k hk
  split at h
  ·exact absurd h (by simp)
  ·rename_i y m hy
   obtain ⟨y1, y2, y3, y4⟩ := way_w hL (leadOf_le hk) hy
   injection h with h; injection h with h; injection h with e1 h; injection h with e2 e3
   subst e1; subst e2; subst e3
   refine ⟨⟨h0, h1, h2, h3, h4, fun z hz => (List.mem_append.1 hz).elim (h5 z) (fun hz => by rw [List.mem_singleton.1 hz]; exact y1), h6⟩, by omega, ?_, y4⟩
   have := sumW_append wW s.ways [y]
   rw [sumW_one] at this
   simp only [wStF]
   omega
 ·split at h
  ·split at h
   ·exact absurd h (by simp)
   ·rename_i l c1 m hy
    obtain ⟨y1, y2, y3, y4⟩ := hr _ _ _ _ _ hy
    injection h with h; injection h with h; injection h with e1 h; injection h with e2 e3
    subst e1; subst e2; subst e3
    refine ⟨⟨h0, h1, h2, h3, h4, h5, fun z hz => (List.mem_append.1 hz).elim (h6 z) (fun hz => by rw [List.mem_singleton.1 hz]; exact y1)⟩, by omega, ?_, y4⟩
    have := sumW_append (wR f) s.regions [l]
    rw [sumW_one] at this
    simp only [wStF]
    omega
  ·split at h
   ·split at h
    ·exact absurd h (by simp)
    ·rename_i l m hy
     obtain ⟨q1, q2, q3⟩ := sets_w hL _ _ _ _ _ hy TS_nil
     rw [show wS [] = 0 from rfl] at q3
     split at h
     ·exact absurd h (by simp)
     ·rename_i m2 hm
      have hm' := semi_w hm
      injection h with h; injection h with h; injection h with e1 h; injection h with e2 e3
      subst e1; subst e2; subst e3
      refine ⟨⟨h0, h1.app q1, h2, h3, h4, h5, h6⟩, by omega, ?_, hm'.2⟩
      have := wS_append s.enter l
      simp only [wStF]
      omega
   ·split at h
    ·split at h
     ·exact absurd h (by simp)
     ·rename_i l m hy
      obtain ⟨q1, q2, q3⟩ := sets_w hL _ _ _ _ _ hy TS_nil
      rw [show wS [] = 0 from rfl] at q3
      split at h
      ·exact absurd h (by simp)
      ·rename_i m2 hm
       have hm' := semi_w hm
       injection h with h; injection h with h; injection h with e1 h; injection h with e2 e3
       subst e1; subst e2; subst e3
       refine ⟨⟨h0, h1, h2.app q1, h3, h4, h5, h6⟩, by omega, ?_, hm'.2⟩
       have := wS_append s.during l
       simp only [wStF]
       omega
    ·split at h
     ·split at h
      ·exact absurd h (by simp)
      ·rename_i l m hy
       obtain ⟨q1, q2, q3⟩ := sets_w hL _ _ _ _ _ hy TS_nil
       rw [show wS [] = 0 from rfl] at q3
       split at h
       ·exact absurd h (by simp)
       ·rename_i m2 hm
        have hm' := semi_w hm
        injection h with h; injection h with h; injection h with e1 h; injection h with e2 e3
        subst e1; subst e2; subst e3
        refine ⟨⟨h0, h1, h2, h3.app q1, h4, h5, h6⟩, by omega, ?_, hm'.2⟩
        have := wS_append s.leave l
        simp only [wStF]
        omega
     ·split at h
      ·split at h
       ·rename_i he
        split at h
        ·exact absurd h (by simp)
        ·rename_i e m hy
         obtain ⟨q1, q2, q3⟩ := expr_w hL _ _ _ hy
         split at h
         ·exact absurd h (by simp)
         ·rename_i m2 hm
          have hm' := semi_w hm
          injection h with h; injection h with h; injection h with e1 h; injection h with e2 e3
          subst e1; subst e2; subst e3
          refine ⟨⟨h0, h1, h2, h3, q1.1, h5, h6⟩, by omega, ?_, hm'.2⟩
          simp only [wStF]
          omega
       ·exact absurd h (by simp)
      ·exact absurd h (by simp)
theorem parts_w (hL : Wf L) (hr : DR L T f reg) : ∀ (n : Nat) (s : StF ρ) (c i : Nat) (s' : StF ρ) (c' j : Nat), parts L ρ reg n s c i = .ok (s', c', j) → TStF T s → i ≤ L.length → TStF T s' ∧ i ≤ j ∧ wStF f s' ≤ wStF f s + (j - i) ∧ j ≤ L.length := by
 intro n
 induction n with
 | zero =>
  intro s c i s' c' j h hs hi
  rw [parts] at h
  injection h with h; injection h with e1 h; injection h with e2 e3
  subst e1; subst e2; subst e3
  exact ⟨hs, Nat.le_refl _, by omega, hi⟩
 | succ n ih =>
  intro s c i s' c' j h hs hi
  rw [parts] at h
  split at h
  ·exact absurd h (by simp)
  ·split at h
   ·rename_i ht
    have := tx_lt ht (by simp [kShut])
    injection h with h; injection h with e1 h; injection h with e2 e3
    subst e1; subst e2; subst e3
    exact ⟨hs, by omega, by omega, by omega⟩
   ·exact absurd h (by simp)
  ·rename_i s1 c1 m hp
   obtain ⟨p1, p2, p3, p4⟩ := part_w hL hr hp hs
   obtain ⟨q1, q2, q3, q4⟩ := ih _ _ _ _ _ _ h p1 p4
   exact ⟨q1, by omega, by omega, q4⟩
theorem state_w (hL : Wf L) (hr : DR L T f reg) {fi la : Bool} {c i c' j : Nat} {s : StF ρ} (h : state L ρ reg fi la c i = .ok (s, c', j)) : TStF T s ∧ i < j ∧ wStF f s ≤ j - i ∧ j ≤ L.length := by
 rw [state] at h
 split at h
 ·split at h
  ·exact absurd h (by simp)
  ·split at h
   ·exact absurd h (by simp)
   ·rename_i nm' hn
    have hz : TStF T (⟨nm', fi, la, [], [], [], .nil, [], []⟩ : StF ρ) := ⟨nm_len hn, TS_nil, TS_nil, TS_nil, trivial, fun y hy => absurd hy (by simp), fun r hr => absurd hr (by simp)⟩
    have hw : wStF f (⟨nm', fi, la, [], [], [], .nil, [], []⟩ : StF ρ) = 1 := rfl
    split at h
    ·rename_i ht
     have := tx_lt ht (by simp [kSemi])
     injection h with h; injection h with e1 h; injection h with e2 e3
     subst e1; subst e2; subst e3
     exact ⟨hz, by omega, by omega, by omega⟩
    ·split at h
     ·rename_i ht
      have := tx_lt ht (by simp [kOpen])
      obtain ⟨q1, q2, q3, q4⟩ := parts_w hL hr _ _ _ _ _ _ _ h hz (by omega)
      exact ⟨q1, by omega, by omega, q4⟩
     ·exact absurd h (by simp)
 ·exact absurd h (by simp)
theorem states_w (hL : Wf L) (hr : DR L T f reg) : ∀ (n : Nat) (l : List (StF ρ)) (c i : Nat) (l' : List (StF ρ)) (c' j : Nat), states L ρ reg n l c i = .ok (l', c', j) → (∀ x ∈ l, TStF T x) → i ≤ L.length → (∀ x ∈ l', TStF T x) ∧ i ≤ j ∧ sumW (wStF f) l' ≤ sumW (wStF f) l + (j - i) ∧ j ≤ L.length := by
 intro n
 induction n with
 | zero =>
  intro l c i l' c' j h hl hi
  rw [states] at h
  injection h with h; injection h with e1 h; injection h with e2 e3
  subst e1; subst e2; subst e3
  exact ⟨hl, Nat.le_refl _, by omega, hi⟩
 | succ n ih =>
  intro l c i l' c' j h hl hi
  rw [states] at h
  split at h
  ·split at h
   ·exact absurd h (by simp)
   ·rename_i s c1 m hs
    obtain ⟨p1, p2, p3, p4⟩ := state_w hL hr hs
    have o1 := opt_le L kInitial i
    have o2 := opt_le L kFinal (opt L kInitial i)
    obtain ⟨q1, q2, q3, q4⟩ := ih _ _ _ _ _ _ h (fun x hx => (List.mem_append.1 hx).elim (hl x) (fun hx => by rw [List.mem_singleton.1 hx]; exact p1)) p4
    rw [sumW_append, sumW_one] at q3
    exact ⟨q1, by omega, by omega, q4⟩
  ·split at h
   ·rename_i ht
    have := tx_lt ht (by simp [kShut])
    injection h with h; injection h with e1 h; injection h with e2 e3
    subst e1; subst e2; subst e3
    exact ⟨hl, by omega, by omega, by omega⟩
   ·exact absurd h (by simp)
end
theorem region_w {L : List Lx.Tok} (hL : Wf L) : ∀ k, DR L (TSt k) (wSt k) (region L k) := by
 intro k
 induction k with
 | zero => intro c i l c' j h; rw [region] at h; exact absurd h (by simp)
 | succ k ih =>
  intro c i l c' j h
  have h' : @ite (Except F (List (StF (St k)) × Nat × Nat)) (tx L i = kOpen) _ (states L (St k) (region L k) L.length [] c (i + 1)) (.error (3, pl L i)) = .ok (l, c', j) := h
  by_cases ht : tx L i = kOpen
  ·rw [if_pos ht] at h'
   have := tx_lt ht (by simp [kOpen])
   obtain ⟨q1, q2, q3, q4⟩ := states_w hL ih _ _ _ _ _ _ _ h' (fun x hx => absurd hx (by simp)) (by omega)
   refine ⟨q1, by omega, ?_, q4⟩
   rw [show sumW (wStF (wSt k)) [] = 0 from rfl] at q3
   show 1 + sumW (wStF (wSt k)) l ≤ _
   omega
  ·rw [if_neg ht] at h'
   exact absurd h' (by simp)
section
variable {L : List Lx.Tok}
def TD (v : Decl) : Prop := (1 ≤ v.kind ∧ v.kind ≤ 3 ∧ -9223372036854775808 ≤ v.first ∧ v.first ≤ 9223372036854775807) ∧ v.name.length ≤ 12
theorem number_w (hL : Wf L) {i n : Nat} (h : number L i = .ok n) : n < 1000000000000000000 := by
 unfold number at h
 split at h
 ·rename_i hk
  obtain ⟨n1, n2, n3⟩ := hL.num i hk
  have hv := (parse_digits (tx L i) n3 n1 n2).2
  have hp : (10 : Nat) ^ 18 = 1000000000000000000 := by decide
  rw [hp] at hv
  injection h with h
  omega
 ·exact absurd h (by simp)
theorem first_w (hL : Wf L) {i j : Nat} {n : Int} (h : first L i = .ok (n, j)) : -9223372036854775808 ≤ n ∧ n ≤ 9223372036854775807 ∧ i ≤ j := by
 unfold first at h
 split at h
 ·split at h
  ·split at h
   ·exact absurd h (by simp)
   ·rename_i q hq
    have := number_w hL hq
    injection h with h; injection h with e1 e2
    subst e1; subst e2
    exact ⟨by omega, by omega, by omega⟩
  ·split at h
   ·exact absurd h (by simp)
   ·rename_i q hq
    have := number_w hL hq
    injection h with h; injection h with e1 e2
    subst e1; subst e2
    exact ⟨by omega, by omega, by omega⟩
 ·injection h with h; injection h with e1 e2
  subst e1; subst e2
  exact ⟨by omega, by omega, by omega⟩
theorem kindOf_le (s : Str) : kindOf s ≤ 3 := by unfold kindOf; (repeat' split) <;> omega
theorem variable_w (hL : Wf L) {k i j : Nat} {v : Decl} (h1 : 1 ≤ k) (h3 : k ≤ 3) (h : variable_ L k i = .ok (v, j)) : TD v ∧ i < j ∧ j ≤ L.length := by
 unfold variable_ at h
 split at h
 ·exact absurd h (by simp)
 ·rename_i s hs
  split at h
  ·exact absurd h (by simp)
  ·rename_i n m hf
   obtain ⟨f1, f2, f3⟩ := first_w hL hf
   split at h
   ·rename_i ht
    have := tx_lt ht (by simp [kSemi])
    injection h with h; injection h with e1 e2
    subst e1; subst e2
    exact ⟨⟨⟨h1, h3, f1, f2⟩, nm_len hs⟩, by omega, by omega⟩
   ·exact absurd h (by simp)
theorem items_w (hL : Wf L) : ∀ (n : Nat) (vs : List Decl) (rs : List (List (St 6))) (c i : Nat) (vs' : List Decl) (rs' : List (List (St 6))) (j : Nat), items L n vs rs c i = .ok (vs', rs', j) → (∀ v ∈ vs, TD v) → (∀ r ∈ rs, ∀ x ∈ r, TSt 6 x) → i ≤ L.length →
    (∀ v ∈ vs', TD v) ∧ (∀ r ∈ rs', ∀ x ∈ r, TSt 6 x) ∧ i ≤ j ∧ vs'.length + sumW (wR (wSt 6)) rs' ≤ vs.length + sumW (wR (wSt 6)) rs + (j - i) ∧ j ≤ L.length := by
 intro n
 induction n with
 | zero =>
  intro vs rs c i vs' rs' j h hv hr hi
  rw [items] at h
  injection h with h; injection h with e1 h; injection h with e2 e3
  subst e1; subst e2; subst e3
  exact ⟨hv, hr, Nat.le_refl _, by omega, hi⟩
 | succ n ih =>
  intro vs rs c i vs' rs' j h hv hr hi
  rw [items] at h
  split at h
  ·rename_i hk
   split at h
   ·exact absurd h (by simp)
   ·split at h
    ·exact absurd h (by simp)
    ·rename_i v m hd
     obtain ⟨p1, p2, p3⟩ := variable_w hL (by omega) (kindOf_le _) hd
     obtain ⟨q1, q2, q3, q4, q5⟩ := ih _ _ _ _ _ _ _ h (fun x hx => (List.mem_append.1 hx).elim (hv x) (fun hx => by rw [List.mem_singleton.1 hx]; exact p1)) hr p3
     rw [List.length_append, List.length_singleton] at q4
     exact ⟨q1, q2, by omega, by omega, q5⟩
  ·split at h
   ·split at h
    ·exact absurd h (by simp)
    ·rename_i l c1 m hd
     obtain ⟨p1, p2, p3, p4⟩ := region_w hL 6 _ _ _ _ _ hd
     obtain ⟨q1, q2, q3, q4, q5⟩ := ih _ _ _ _ _ _ _ h hv (fun x hx => (List.mem_append.1 hx).elim (hr x) (fun hx => by rw [List.mem_singleton.1 hx]; exact p1)) p4
     rw [sumW_append, sumW_one] at q4
     exact ⟨q1, q2, by omega, by omega, q5⟩
   ·split at h
    ·rename_i ht
     have := tx_lt ht (by simp [kShut])
     injection h with h; injection h with e1 h; injection h with e2 e3
     subst e1; subst e2; subst e3
     exact ⟨hv, hr, by omega, by omega, by omega⟩
    ·exact absurd h (by simp)
theorem sumW_mem {α : Type} (g : α → Nat) (l : List α) (z : α) (hz : z ∈ l) : g z ≤ sumW g l := by
 induction l with
 | nil => exact absurd hz (by simp)
 | cons b q ihq =>
  rw [sumW]
  rcases List.mem_cons.1 hz with rfl | hz
  ·omega
  ·have := ihq hz; omega
theorem chart_w (hL : Wf L) {c : Chart} (h : chart L = .ok c) : (∀ v ∈ c.vars, TD v) ∧ (∀ r ∈ c.regions, ∀ x ∈ r, TSt 6 x) ∧ c.vars.length + sumW (wR (wSt 6)) c.regions ≤ 601 := by
 unfold chart at h
 split at h
 ·split at h
  ·exact absurd h (by simp)
  ·rename_i s hs
   split at h
   ·rename_i ht
    have h2 := tx_lt ht (by simp [kOpen])
    split at h
    ·exact absurd h (by simp)
    ·rename_i vs rs i hi
     obtain ⟨q1, q2, q3, q4, q5⟩ := items_w hL _ _ _ _ _ _ _ _ hi (fun v hv => absurd hv (by simp)) (fun v hv => absurd hv (by simp)) (by omega)
     rw [show sumW (wR (wSt 6)) [] = 0 from rfl, List.length_nil] at q4
     have h6 := hL.len
     split at h
     ·injection h with h
      subst h
      exact ⟨q1, q2, by show vs.length + sumW (wR (wSt 6)) rs ≤ 601; omega⟩
     ·exact absurd h (by simp)
   ·exact absurd h (by simp)
 ·exact absurd h (by simp)
end
end Sh
end Px
end Go.Proofs.YtpogmfliojcnjaaGreatDoor
namespace Go.Proofs.YtpogmfliojcnjaaGreatDoor
open Go.RowKit Px
theorem Tryz.isAtAny (v : Value) (w : World) : (Instr.typeAssert (.iface 110 v) 20 110 true).run Tryz.prog w = .ok (.tuple #[v, .bool true]) w := by kernel_rfl
set_option maxRecDepth 100000 in
set_option maxHeartbeats 2000000 in
theorem catch_idle (cb eb : Addr) (w : World) :
    CallsD Tryz.prog 54 #[.pointer (some cb), .pointer (some eb)] .returning w fun e u' w' => e = .returned (.tuple #[]) ∧ u' = .returning ∧ w' = w := by
 refine callsD_of_wpS Tryz.func54 rfl fun c₀ cs hu => ?_
 apply wpS_seq
 apply wpS_region
 simp [wpOpsS, go_sem, recoverD, hu, Tryz.ntmps54, Exit.thenS]
 apply wpS_of_wp
 go_wp2
 cases c₀
 simp_all [bodyPostS, results, Tryz.results54]
end Go.Proofs.YtpogmfliojcnjaaGreatDoor
namespace Go.Proofs.YtpogmfliojcnjaaGreatDoor
open Go.RowKit Px
set_option maxRecDepth 100000 in
set_option maxHeartbeats 4000000 in
theorem catch_thrown (cb eb q : Nat) (w : World) (older : List PanicEntry) (k0 : w.cell? ⟨cb, 0, none⟩ = some (.string ⟨#[]⟩)) (k1 : w.cell? ⟨cb, 1, none⟩ = some (.slice none 0 0)) (k2 : w.cell? ⟨cb, 2, none⟩ = some (.slice none 0 0)) (kz : ∀ o, w.frozen? ⟨cb, o, none⟩ = false) (ke : w.cell? ⟨eb, 0, none⟩ = some .nilIface) (ez : w.frozen? ⟨eb, 0, none⟩ = false) (hne : cb ≠ eb) :
    CallsD Tryz.prog 54 #[.pointer (some ⟨cb, 0, none⟩), .pointer (some ⟨eb, 0, none⟩)] (.panicking ({ v := .iface 110 (.pointer (some ⟨q, 0, none⟩)), recovered := false } :: older)) w fun e u' w' => e = .returned (.tuple #[]) ∧ u' = .panicking ({ v := .iface 110 (.pointer (some ⟨q, 0, none⟩)), recovered := true } :: older) ∧ w' = (((w.setCell ⟨cb, 0, none⟩ (.string ⟨#[]⟩)).setCell ⟨cb, 1, none⟩ (.slice none 0 0)).setCell ⟨cb, 2, none⟩ (.slice none 0 0)).setCell ⟨eb, 0, none⟩ (.iface 110 (.pointer (some ⟨q, 0, none⟩))) := by
 refine callsD_of_wpS Tryz.func54 rfl fun c₀ cs hu => ?_
 apply wpS_seq
 apply wpS_region
 simp [wpOpsS, go_sem, recoverD, hu, Tryz.ntmps54, Exit.thenS]
 have harr : ∀ (V a b : Value), (#[a, b] ++ ((Array.replicate 17 undef).setIfInBounds 3 V).setIfInBounds 0 V : Array Value) = #[a, b, V, undef, undef, V, undef, undef, undef, undef, undef, undef, undef, undef, undef, undef, undef, undef, undef] := fun _ _ _ => rfl
 rw [harr]
 apply wpS_of_wp
 have hta := Tryz.isAtAny (.pointer (some ⟨q, 0, none⟩))
 go_wp2
 cases c₀
 simp_all [bodyPostS, results, Tryz.results54]
end Go.Proofs.YtpogmfliojcnjaaGreatDoor
