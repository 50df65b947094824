/- Plain mathematics: what is in a chart that is drawn, and how long its print is; expressions, sets, ways. -/
import Derived.Test.YtlgoclebedjiiaaGreatDoorJXr3
import Derived.Lib.ItoaLen
namespace Go.Proofs.YtlgoclebedjiiaaGreatDoor
namespace Px
open Go.Lib

def wE : E → Nat
  | .nil => 0
  | .node _ _ _ l r => 1 + wE l + wE r
/-- an expression such as is drawn -/
def TE : E → Prop
  | .nil => True
  | .node _ _ a l r => 1 ≤ a.code ∧ a.code ≤ 16 ∧ (-9223372036854775808 ≤ a.num ∧ a.num ≤ 9223372036854775807) ∧ a.name.length ≤ 12 ∧ TE l ∧ TE r
theorem TE.good {e : E} (h : TE e) : GoodE e := by
  induction e with
  | nil => trivial
  | node _ _ a l r ihl ihr =>
    obtain ⟨h1, h2, h3, _, h5, h6⟩ := h
    exact ⟨h1, h2, h3, ihl h5, ihr h6⟩
theorem itoa_len (n : Int) (h1 : -9223372036854775808 ≤ n) (h2 : n ≤ 9223372036854775807) : (itoa n).length ≤ 21 := by
  unfold itoa
  split
  · have := nDigits_le20 n.natAbs (by omega)
    rw [List.length_cons, decDigits_length]; omega
  · have := nDigits_le20 n.toNat (by omega)
    rw [decDigits_length]; omega
theorem signT_len (c : Nat) : (signT c).length ≤ 2 := by unfold signT; (repeat' split) <;> simp
theorem aheadT_len (c : Nat) : (aheadT c).length ≤ 1 := by unfold aheadT; (repeat' split) <;> simp
theorem brack_len (b : Bool) (s : Str) : (brack b s).length ≤ s.length + 2 := by unfold brack; split <;> simp
theorem exprT_len {e : E} (h : TE e) : ∀ least, (exprT e least).length ≤ 40 * wE e := by
  induction e with
  | nil => intro _; simp [exprT]
  | node b o a l r ihl ihr =>
    intro least
    obtain ⟨h1, h2, h3, h4, h5, h6⟩ := h
    have il := ihl h5
    have ir := ihr h6
    rw [exprT, wE]
    split
    · have := itoa_len a.num h3.1 h3.2; omega
    · split
      · omega
      · split
        · simp; omega
        · split
          · have := aheadT_len a.code
            have := il 6
            simp; omega
          · have hb := brack_len (decide (line a.code < least)) (exprT l (line a.code) ++ [32] ++ signT a.code ++ [32] ++ exprT r (line a.code + 1))
            have := il (line a.code)
            have := ir (line a.code + 1)
            have := signT_len a.code
            simp only [List.length_append, List.length_cons, List.length_nil] at hb
            omega

section
variable {L : List Lx.Tok}
def DE (f : Nat → Except F (E × Nat)) : Prop := ∀ i e j, f i = .ok (e, j) → TE e ∧ i < j ∧ wE e ≤ j - i
theorem nm_len {i : Nat} {s : Str} (h : nm L i = .ok s) : s.length ≤ 12 := by
  unfold nm at h
  split at h
  · exact absurd h (by simp)
  · split at h
    · exact absurd h (by simp)
    · injection h with h; subst h; omega
theorem codeIn_mem (l : List (Str × Nat)) (s : Str) : codeIn l s = 0 ∨ ∃ p ∈ l, codeIn l s = p.2 := by
  induction l with
  | nil => exact .inl rfl
  | cons p r ih =>
    obtain ⟨t, c⟩ := p
    rw [codeIn]
    split
    · exact .inr ⟨(t, c), by simp, rfl⟩
    · rcases ih with h | ⟨q, hq, he⟩
      · exact .inl h
      · exact .inr ⟨q, by simp [hq], he⟩
theorem signs_range : ∀ (t : Fin 5) (p : Str × Nat), p ∈ signs.getD t.val [] → 6 ≤ p.2 ∧ p.2 ≤ 16 := by decide
theorem codeAt_range (t : Nat) (ht : t < 5) (s : Str) : codeAt t s = 0 ∨ (6 ≤ codeAt t s ∧ codeAt t s ≤ 16) := by
  rcases codeIn_mem (signs.getD t []) s with h | ⟨p, hp, he⟩
  · exact .inl h
  · have := signs_range ⟨t, ht⟩ p hp
    rw [codeAt, he]; exact .inr this
theorem chainF_w {below : Nat → Except F (E × Nat)} {code : Str → Nat} (hb : DE below) (hc : ∀ s, code s = 0 ∨ (6 ≤ code s ∧ code s ≤ 16)) : ∀ (f : Nat) (e : E) (i : Nat) (e' : E) (j : Nat), chainF L below code f e i = .ok (e', j) → TE e → TE e' ∧ i ≤ j ∧ wE e' ≤ wE e + (j - i) := by
  intro f
  induction f with
  | zero =>
    intro e i e' j h he
    rw [chainF] at h
    injection h with h
    injection h with h1 h2
    subst h1; subst h2
    exact ⟨he, Nat.le_refl _, by omega⟩
  | succ f ih =>
    intro e i e' j h he
    rw [chainF] at h
    split at h
    · injection h with h
      injection h with h1 h2
      subst h1; subst h2
      exact ⟨he, Nat.le_refl _, by omega⟩
    · rename_i hne
      split at h
      · exact absurd h (by simp)
      · rename_i r m hr
        obtain ⟨t1, t2, t3⟩ := hb _ _ _ hr
        have hcc := hc (tx L i)
        have hte : TE (eTwo (code (tx L i)) e r) := ⟨show 1 ≤ code (tx L i) by omega, show code (tx L i) ≤ 16 by omega, ⟨show (-9223372036854775808 : Int) ≤ 0 by omega, show (0 : Int) ≤ 9223372036854775807 by omega⟩, Nat.zero_le _, he, t1⟩
        obtain ⟨q1, q2, q3⟩ := ih _ _ _ _ h hte
        rw [show wE (eTwo (code (tx L i)) e r) = 1 + wE e + wE r from rfl] at q3
        exact ⟨q1, by omega, by omega⟩
theorem chain_w {below : Nat → Except F (E × Nat)} {code : Str → Nat} (hb : DE below) (hc : ∀ s, code s = 0 ∨ (6 ≤ code s ∧ code s ≤ 16)) : DE (chain L below code) := by
  intro i e j h
  rw [chain] at h
  split at h
  · exact absurd h (by simp)
  · rename_i e0 m hr
    obtain ⟨t1, t2, t3⟩ := hb _ _ _ hr
    obtain ⟨q1, q2, q3⟩ := chainF_w hb hc _ _ _ _ _ h t1
    exact ⟨q1, by omega, by omega⟩
theorem lev_w {one : Nat → Except F (E × Nat)} (h : DE one) : ∀ t, t ≤ 5 → DE (lev L one t) := by
  intro t
  induction t with
  | zero => intro _; exact h
  | succ t ih => intro ht; rw [lev]; exact chain_w (ih (by omega)) (codeAt_range (4 - t) (by omega))
theorem codeAhead_range (s : Str) : codeAhead s = 0 ∨ codeAhead s = 4 ∨ codeAhead s = 5 := by unfold codeAhead; (repeat' split) <;> simp
theorem one_w (hL : Wf L) : ∀ k, DE (one L k) := by
  intro k
  induction k with
  | zero => intro i e j h; rw [one] at h; exact absurd h (by simp)
  | succ k ih =>
    intro i e j h
    rw [one] at h
    split at h
    · split at h
      · exact absurd h (by simp)
      · rename_i hne _ e0 m hr
        obtain ⟨t1, t2, t3⟩ := ih _ _ _ hr
        injection h with h
        injection h with h1 h2
        subst h1; subst h2
        have hcc := codeAhead_range (tx L i)
        refine ⟨⟨show 1 ≤ codeAhead (tx L i) by omega, show codeAhead (tx L i) ≤ 16 by omega, ⟨show (-9223372036854775808 : Int) ≤ 0 by omega, show (0 : Int) ≤ 9223372036854775807 by omega⟩, Nat.zero_le _, t1, trivial⟩, by omega, ?_⟩
        rw [show wE (eOne (codeAhead (tx L i)) e0) = 1 + wE e0 + 0 from rfl]
        omega
    · split at h
      · split at h
        · exact absurd h (by simp)
        · rename_i e0 m hr
          obtain ⟨t1, t2, t3⟩ := lev_w ih 5 (Nat.le_refl _) _ _ _ hr
          split at h
          · injection h with h
            injection h with h1 h2
            subst h1; subst h2
            exact ⟨t1, by omega, by omega⟩
          · exact absurd h (by simp)
      · split at h
        · split at h
          · split at h
            · exact absurd h (by simp)
            · rename_i s hs
              split at h
              · injection h with h
                injection h with h1 h2
                subst h1; subst h2
                refine ⟨⟨show 1 ≤ 3 by omega, show 3 ≤ 16 by omega, ⟨show (-9223372036854775808 : Int) ≤ 0 by omega, show (0 : Int) ≤ 9223372036854775807 by omega⟩, nm_len hs, trivial, trivial⟩, by omega, ?_⟩
                rw [show wE (eName 3 s) = 1 + 0 + 0 from rfl]; omega
              · exact absurd h (by simp)
          · exact absurd h (by simp)
        · split at h
          · rename_i hk
            injection h with h
            injection h with h1 h2
            subst h1; subst h2
            obtain ⟨n1, n2, n3⟩ := hL.num i hk
            have hv := (parse_digits (tx L i) n3 n1 n2).2
            have hp : (10 : Nat) ^ 18 = 1000000000000000000 := by decide
            rw [hp] at hv
            refine ⟨⟨show 1 ≤ 1 by omega, show 1 ≤ 16 by omega, ⟨show (-9223372036854775808 : Int) ≤ (val (tx L i) : Int) by omega, show (val (tx L i) : Int) ≤ 9223372036854775807 by omega⟩, Nat.zero_le _, trivial, trivial⟩, by omega, ?_⟩
            rw [show wE (eNum (val (tx L i))) = 1 + 0 + 0 from rfl]; omega
          · split at h
            · exact absurd h (by simp)
            · rename_i s hs
              injection h with h
              injection h with h1 h2
              subst h1; subst h2
              refine ⟨⟨show 1 ≤ 2 by omega, show 2 ≤ 16 by omega, ⟨show (-9223372036854775808 : Int) ≤ 0 by omega, show (0 : Int) ≤ 9223372036854775807 by omega⟩, nm_len hs, trivial, trivial⟩, by omega, ?_⟩
              rw [show wE (eName 2 s) = 1 + 0 + 0 from rfl]; omega
theorem expr_w (hL : Wf L) : DE (expr L) := lev_w (one_w hL 7) 5 (Nat.le_refl _)

/-- sets -/
def wS : List Asg → Nat
  | [] => 0
  | a :: r => 1 + wE a.e + wS r
def TS (l : List Asg) : Prop := ∀ a ∈ l, TE a.e ∧ a.name.length ≤ 12
theorem wS_append (l m : List Asg) : wS (l ++ m) = wS l + wS m := by
  induction l with
  | nil => simp [wS]
  | cons a r ih => rw [List.cons_append, wS, wS, ih]; omega
theorem wS_len (l : List Asg) : l.length ≤ wS l := by
  induction l with
  | nil => simp
  | cons a r ih => rw [wS, List.length_cons]; omega
theorem TS.app {l m : List Asg} (h : TS l) (h' : TS m) : TS (l ++ m) := fun a ha => (List.mem_append.1 ha).elim (h a) (h' a)
theorem TS.good {l : List Asg} (h : TS l) : GoodSets l := fun a ha => (h a ha).1.good
theorem setT_len {a : Asg} (h : TE a.e ∧ a.name.length ≤ 12) : (setT a).length ≤ 16 + 40 * wE a.e := by
  have := exprT_len h.1 0
  unfold setT; simp; omega
theorem setsT_len {l : List Asg} (h : TS l) : (setsT l).length ≤ 40 * wS l := by
  cases l with
  | nil => simp [setsT]
  | cons a r =>
    have h1 := setT_len (h a (by simp))
    have h2 : (r.flatMap (fun b => [44, 32] ++ setT b)).length ≤ 40 * wS r := by
      have hr : TS r := fun b hb => h b (by simp [hb])
      clear h h1
      induction r with
      | nil => simp
      | cons b r ih =>
        have h1 := setT_len (hr b (by simp))
        have := ih (fun c hc => hr c (by simp [hc]))
        rw [List.flatMap_cons, wS, List.length_append]
        simp only [List.length_append, List.length_cons, List.length_nil]
        omega
    rw [setsT, wS, List.length_append]; omega
theorem sets_w (hL : Wf L) : ∀ (f : Nat) (l : List Asg) (i : Nat) (l' : List Asg) (j : Nat), sets L f l i = .ok (l', j) → TS l → TS l' ∧ i ≤ j ∧ wS l' ≤ wS l + (j - i) := by
  intro f
  induction f with
  | zero =>
    intro l i l' j h hl
    rw [sets] at h
    injection h with h
    injection h with h1 h2
    subst h1; subst h2
    exact ⟨hl, Nat.le_refl _, by omega⟩
  | succ f ih =>
    intro l i l' j h hl
    rw [sets] at h
    split at h
    · exact absurd h (by simp)
    · rename_i s hs
      split at h
      · split at h
        · exact absurd h (by simp)
        · rename_i e m hr
          obtain ⟨t1, t2, t3⟩ := expr_w hL _ _ _ hr
          have hl' : TS (l ++ [⟨s, e⟩]) := hl.app (fun a ha => by obtain rfl := List.mem_singleton.1 ha; exact ⟨t1, nm_len hs⟩)
          have hw : wS (l ++ [⟨s, e⟩]) = wS l + (1 + wE e + 0) := wS_append _ _
          split at h
          · obtain ⟨q1, q2, q3⟩ := ih _ _ _ _ h hl'
            exact ⟨q1, by omega, by omega⟩
          · injection h with h
            injection h with h1 h2
            subst h1; subst h2
            exact ⟨hl', by omega, by omega⟩
      · exact absurd h (by simp)

/-- ways -/
def wW (y : Wy) : Nat := 1 + wE y.cond + wS y.sets
def TW (y : Wy) : Prop := y.kind ≤ 2 ∧ y.times ≤ 1000 ∧ TE y.cond ∧ TS y.sets ∧ y.to.length ≤ 12
theorem TW.good {y : Wy} (h : TW y) : GoodWay y := ⟨h.1, h.2.1, h.2.2.1.good, h.2.2.2.1.good⟩
theorem condT_len {y : Wy} (h : TW y) : (condT y).length ≤ 32 + 40 * wE y.cond := by
  have h1 := exprT_len h.2.2.1 0
  have h2 := itoa_len (y.times : Int) (by omega) (by have := h.2.1; omega)
  unfold condT
  split
  · simp
  · rename_i b o a l r he
    rw [he] at h1 ⊢
    split
    · simp only [List.length_append, List.length_cons, List.length_nil]; omega
    · simp only [List.length_append, List.length_cons, List.length_nil]; omega
theorem wayT_len {y : Wy} (h : TW y) : (wayT y).length ≤ 90 + 40 * (wE y.cond + wS y.sets) := by
  have h1 := condT_len h
  have h2 := setsT_len h.2.2.2.1
  have h3 : (doesT y.sets).length ≤ 4 + (setsT y.sets).length := by unfold doesT; split <;> simp; omega
  have h4 : (leadT y.kind).length ≤ 5 := by unfold leadT; (repeat' split) <;> simp [kAbort, kJoin, kGo]
  have h5 := h.2.2.2.2
  have h6 : (if y.now then ([32, 105, 109, 109, 101, 100, 105, 97, 116, 101] : Str) else []).length ≤ 10 := by split <;> simp
  have h7 : (if y.back then ([32, 104, 105, 115, 116, 111, 114, 121] : Str) else []).length ≤ 8 := by split <;> simp
  unfold wayT
  simp only [List.length_append, List.length_cons, List.length_nil]
  omega
theorem times_le {i n : Nat} (h : times L i = .ok n) : n ≤ 1000 := by
  unfold times at h
  split at h
  · exact absurd h (by simp)
  · split at h
    · exact absurd h (by simp)
    · injection h with h; omega
theorem cond_w (hL : Wf L) {i n j : Nat} {e : E} (h : cond L i = .ok (n, e, j)) : n ≤ 1000 ∧ TE e ∧ i ≤ j ∧ wE e ≤ j - i := by
  unfold cond at h
  split at h
  · split at h
    · split at h
      · exact absurd h (by simp)
      · rename_i n' hn
        split at h
        · exact absurd h (by simp)
        · rename_i e' m hr
          obtain ⟨t1, t2, t3⟩ := expr_w hL _ _ _ hr
          injection h with h
          injection h with h1 h2
          injection h2 with h2 h3
          subst h1; subst h2; subst h3
          exact ⟨times_le hn, t1, by omega, by omega⟩
    · split at h
      · exact absurd h (by simp)
      · rename_i e' m hr
        obtain ⟨t1, t2, t3⟩ := expr_w hL _ _ _ hr
        injection h with h
        injection h with h1 h2
        injection h2 with h2 h3
        subst h1; subst h2; subst h3
        exact ⟨by omega, t1, by omega, by omega⟩
  · injection h with h
    injection h with h1 h2
    injection h2 with h2 h3
    subst h1; subst h2; subst h3
    exact ⟨by omega, trivial, Nat.le_refl _, Nat.zero_le _⟩
theorem does_w (hL : Wf L) {i j : Nat} {l : List Asg} (h : does L i = .ok (l, j)) : TS l ∧ i ≤ j ∧ wS l ≤ j - i := by
  unfold does at h
  split at h
  · obtain ⟨q1, q2, q3⟩ := sets_w hL _ _ _ _ _ h (fun a ha => absurd ha (by simp))
    rw [show wS [] = 0 from rfl] at q3
    exact ⟨q1, by omega, by omega⟩
  · injection h with h
    injection h with h1 h2
    subst h1; subst h2
    exact ⟨fun a ha => absurd ha (by simp), Nat.le_refl _, Nat.zero_le _⟩
theorem tx_lt {i : Nat} {s : Str} (h : tx L i = s) (hs : s ≠ []) : i < L.length := by
  rcases Nat.lt_or_ge i L.length with h' | h'
  · exact h'
  · exact absurd (by rw [← h, tx, tok, List.getD_eq_getElem?_getD, List.getElem?_eq_none h']; rfl) hs
theorem way_w (hL : Wf L) {k i j : Nat} {y : Wy} (hk : k ≤ 2) (h : way L k i = .ok (y, j)) : TW y ∧ i < j ∧ wW y ≤ j - i ∧ j ≤ L.length := by
  unfold way at h
  split at h
  · exact absurd h (by simp)
  · rename_i n e m hr
    obtain ⟨c1, c2, c3, c4⟩ := cond_w hL hr
    split at h
    · exact absurd h (by simp)
    · rename_i l q hd
      obtain ⟨d1, d2, d3⟩ := does_w hL hd
      split at h
      · split at h
        · exact absurd h (by simp)
        · rename_i s hs
          split at h
          · rename_i ht
            have := tx_lt ht (by simp [kSemi])
            have o1 := opt_le L kImm i
            have o2 := opt_le L kHist (q + 2)
            injection h with h
            injection h with h1 h2
            subst h1; subst h2
            refine ⟨⟨hk, c1, c2, d1, nm_len hs⟩, by omega, ?_, by omega⟩
            show 1 + wE e + wS l ≤ _
            omega
          · exact absurd h (by simp)
      · exact absurd h (by simp)
end
end Px
end Go.Proofs.YtlgoclebedjiiaaGreatDoor
/- Plain mathematics: what is in a chart that is drawn, and how long its print is; states, regions, the chart. -/
namespace Go.Proofs.YtlgoclebedjiiaaGreatDoor
namespace Px
open Go.Lib

/-- a sum over a list -/
def sumW {α : Type} (f : α → Nat) : List α → Nat
  | [] => 0
  | a :: r => f a + sumW f r
theorem sumW_append {α : Type} (f : α → Nat) (l m : List α) : sumW f (l ++ m) = sumW f l + sumW f m := by
  induction l with
  | nil => simp [sumW]
  | cons a r ih => rw [List.cons_append, sumW, sumW, ih]; omega
theorem sumW_one {α : Type} (f : α → Nat) (a : α) : sumW f [a] = f a := by simp [sumW]
theorem flatMap_len {α : Type} (t : α → Str) (f : α → Nat) (c : Nat) : ∀ (l : List α), (∀ a ∈ l, (t a).length ≤ c * f a) → (l.flatMap t).length ≤ c * sumW f l := by
  intro l
  induction l with
  | nil => intro _; simp
  | cons a r ih =>
    intro h
    have h1 := h a (by simp)
    have h2 := ih (fun b hb => h b (by simp [hb]))
    rw [List.flatMap_cons, List.length_append, sumW, Nat.mul_add]; omega
section
variable {ρ : Type}
/-- how much is in a region -/
def wR (f : ρ → Nat) (r : List ρ) : Nat := 1 + sumW f r
def wStF (f : ρ → Nat) (s : StF ρ) : Nat := 1 + wS s.enter + wS s.during + wS s.leave + wE s.rests + sumW wW s.ways + sumW (wR f) s.regions
def TStF (T : ρ → Prop) (s : StF ρ) : Prop := s.name.length ≤ 12 ∧ TS s.enter ∧ TS s.during ∧ TS s.leave ∧ TE s.rests ∧ (∀ y ∈ s.ways, TW y) ∧ ∀ r ∈ s.regions, ∀ x ∈ r, T x
end
def wSt : (k : Nat) → St k → Nat
  | 0 => fun _ => 0
  | k + 1 => fun s => wStF (wSt k) s
def TSt : (k : Nat) → St k → Prop
  | 0 => fun _ => True
  | k + 1 => fun s => TStF (TSt k) s
section
variable {ρ : Type} {f : ρ → Nat} {T : ρ → Prop}
theorem momT_len {d : Nat} (hd : d ≤ 40) {word : Str} (hw : word.length ≤ 8) {l : List Asg} (h : TS l) : (momT d word l).length ≤ 300 * wS l := by
  unfold momT
  split
  · simp
  · rename_i hne
    have h1 := setsT_len h
    have h2 := padT_len d
    have h3 : 1 ≤ wS l := by
      have := wS_len l
      have : 0 < l.length := List.length_pos_iff.2 hne
      omega
    simp only [List.length_append, List.length_cons, List.length_nil]
    omega
theorem restT_len {d : Nat} (hd : d ≤ 40) {e : E} (h : TE e) : (restT d e).length ≤ 300 * wE e := by
  unfold restT
  split
  · simp
  · rename_i b o a l r
    have h1 := exprT_len h 0
    have h2 := padT_len d
    have h3 : 1 ≤ wE (.node b o a l r) := by rw [wE]; omega
    simp only [List.length_append, List.length_cons, List.length_nil]
    omega
theorem wlT_len {d : Nat} (hd : d ≤ 40) {y : Wy} (h : TW y) : (wlT d y).length ≤ 300 * wW y := by
  have h1 := wayT_len h
  have h2 := padT_len d
  unfold wlT wW
  simp only [List.length_append, List.length_cons, List.length_nil]
  omega
theorem oneRegT_len {st : ρ → Nat → Str} {d : Nat} (hd : d ≤ 40) {r : List ρ} (h : ∀ x ∈ r, (st x (d + 1)).length ≤ 300 * f x) : (oneRegT st d r).length ≤ 300 * wR f r := by
  have h1 := flatMap_len (fun x => st x (d + 1)) f 300 r h
  have h2 := padT_len d
  unfold oneRegT wR
  simp only [List.length_append, List.length_cons, List.length_nil]
  omega
theorem regT_len {st : ρ → Nat → Str} {d : Nat} (hd : d ≤ 40) {l : List (List ρ)} (h : ∀ r ∈ l, ∀ x ∈ r, (st x (d + 1)).length ≤ 300 * f x) : (regT st l d).length ≤ 300 * sumW (wR f) l :=
  flatMap_len (oneRegT st d) (wR f) 300 l (fun r hr => oneRegT_len hd (h r hr))
theorem stT_len {st : ρ → Nat → Str} {d : Nat} (hd : d + 1 ≤ 40) {s : StF ρ} (h : TStF T s) (hx : ∀ x, T x → (st x (d + 1 + 1)).length ≤ 300 * f x) : (stT (regT st) s d).length ≤ 300 * wStF f s := by
  obtain ⟨h0, h1, h2, h3, h4, h5, h6⟩ := h
  have e1 := momT_len hd (word := [101, 110, 116, 114, 121, 32]) (by simp) h1
  have e2 := momT_len hd (word := [100, 117, 114, 105, 110, 103, 32]) (by simp) h2
  have e3 := momT_len hd (word := [101, 120, 105, 116, 32]) (by simp) h3
  have e4 := restT_len hd h4
  have e5 := flatMap_len (wlT (d + 1)) wW 300 s.ways (fun y hy => wlT_len hd (h5 y hy))
  have e6 := regT_len (st := st) hd (fun r hr x hxr => hx x (h6 r hr x hxr))
  have p := padT_len d
  have hin : (inT (regT st) s (d + 1)).length ≤ 300 * (wS s.enter + wS s.during + wS s.leave + wE s.rests + sumW wW s.ways + sumW (wR f) s.regions) := by
    rw [show inT (regT st) s (d + 1) = momT (d + 1) [101, 110, 116, 114, 121, 32] s.enter ++ momT (d + 1) [100, 117, 114, 105, 110, 103, 32] s.during ++ momT (d + 1) [101, 120, 105, 116, 32] s.leave ++ restT (d + 1) s.rests ++ s.ways.flatMap (wlT (d + 1)) ++ regT st s.regions (d + 1) from rfl]
    simp only [List.length_append]
    omega
  have hh : (headT s d).length ≤ 2 * d + 32 := by
    unfold headT
    have a1 : (if s.first then ([105, 110, 105, 116, 105, 97, 108, 32] : Str) else []).length ≤ 8 := by split <;> simp
    have a2 : (if s.last then ([102, 105, 110, 97, 108, 32] : Str) else []).length ≤ 6 := by split <;> simp
    simp only [List.length_append, List.length_cons, List.length_nil]
    omega
  unfold stT wStF
  split
  · simp only [List.length_append, List.length_cons, List.length_nil]; omega
  · simp only [List.length_append, List.length_cons, List.length_nil]; omega
end
theorem stateT_len : ∀ (k d : Nat), d + 2 * k ≤ 40 → ∀ (s : St k), TSt k s → (stateT k s d).length ≤ 300 * wSt k s := by
  intro k
  induction k with
  | zero => intro d _ s _; simp [stateT]
  | succ k ih =>
    intro d hd s h
    exact stT_len (T := TSt k) (by omega) h (fun x hx => ih (d + 1 + 1) (by omega) x hx)

section
variable {L : List Lx.Tok} {ρ : Type}
/-- what a reader of regions gives -/
def DR (L : List Lx.Tok) (T : ρ → Prop) (f : ρ → Nat) (reg : Nat → Nat → Except F (List ρ × Nat × Nat)) : Prop := ∀ c i l c' j, reg c i = .ok (l, c', j) → (∀ x ∈ l, T x) ∧ i < j ∧ wR f l ≤ j - i ∧ j ≤ L.length
theorem semi_w {i m : Nat} (h : semi L i = .ok m) : m = i + 1 ∧ m ≤ L.length := by
  unfold semi at h
  split at h
  · rename_i ht
    have := tx_lt ht (by simp [kSemi])
    injection h with h; omega
  · exact absurd h (by simp)
theorem leadOf_le {s : Str} {k : Nat} (h : leadOf s = some k) : k ≤ 2 := by
  unfold leadOf at h
  split at h
  · injection h with h; omega
  · split at h
    · injection h with h; omega
    · split at h
      · injection h with h; omega
      · exact absurd h (by simp)
variable {T : ρ → Prop} {f : ρ → Nat} {reg : Nat → Nat → Except F (List ρ × Nat × Nat)}
theorem TS_nil : TS [] := fun a ha => absurd ha (by simp)
theorem part_w (hL : Wf L) (hr : DR L T f reg) {s s' : StF ρ} {c i c' j : Nat} (h : part L ρ reg s c i = .ok (some (s', c', j))) (hs : TStF T s) : TStF T s' ∧ i < j ∧ wStF f s' ≤ wStF f s + (j - i) ∧ j ≤ L.length := by
  obtain ⟨h0, h1, h2, h3, h4, h5, h6⟩ := hs
  rw [part] at h
  split at h
  · rename_i k hk
    split at h
    · exact absurd h (by simp)
    · rename_i y m hy
      obtain ⟨y1, y2, y3, y4⟩ := way_w hL (leadOf_le hk) hy
      injection h with h; injection h with h; injection h with e1 h; injection h with e2 e3
      subst e1; subst e2; subst e3
      refine ⟨⟨h0, h1, h2, h3, h4, fun z hz => (List.mem_append.1 hz).elim (h5 z) (fun hz => by rw [List.mem_singleton.1 hz]; exact y1), h6⟩, by omega, ?_, y4⟩
      have := sumW_append wW s.ways [y]
      rw [sumW_one] at this
      simp only [wStF]
      omega
  · split at h
    · split at h
      · exact absurd h (by simp)
      · rename_i l c1 m hy
        obtain ⟨y1, y2, y3, y4⟩ := hr _ _ _ _ _ hy
        injection h with h; injection h with h; injection h with e1 h; injection h with e2 e3
        subst e1; subst e2; subst e3
        refine ⟨⟨h0, h1, h2, h3, h4, h5, fun z hz => (List.mem_append.1 hz).elim (h6 z) (fun hz => by rw [List.mem_singleton.1 hz]; exact y1)⟩, by omega, ?_, y4⟩
        have := sumW_append (wR f) s.regions [l]
        rw [sumW_one] at this
        simp only [wStF]
        omega
    · split at h
      · split at h
        · exact absurd h (by simp)
        · rename_i l m hy
          obtain ⟨q1, q2, q3⟩ := sets_w hL _ _ _ _ _ hy TS_nil
          rw [show wS [] = 0 from rfl] at q3
          split at h
          · exact absurd h (by simp)
          · rename_i m2 hm
            have hm' := semi_w hm
            injection h with h; injection h with h; injection h with e1 h; injection h with e2 e3
            subst e1; subst e2; subst e3
            refine ⟨⟨h0, h1.app q1, h2, h3, h4, h5, h6⟩, by omega, ?_, hm'.2⟩
            have := wS_append s.enter l
            simp only [wStF]
            omega
      · split at h
        · split at h
          · exact absurd h (by simp)
          · rename_i l m hy
            obtain ⟨q1, q2, q3⟩ := sets_w hL _ _ _ _ _ hy TS_nil
            rw [show wS [] = 0 from rfl] at q3
            split at h
            · exact absurd h (by simp)
            · rename_i m2 hm
              have hm' := semi_w hm
              injection h with h; injection h with h; injection h with e1 h; injection h with e2 e3
              subst e1; subst e2; subst e3
              refine ⟨⟨h0, h1, h2.app q1, h3, h4, h5, h6⟩, by omega, ?_, hm'.2⟩
              have := wS_append s.during l
              simp only [wStF]
              omega
        · split at h
          · split at h
            · exact absurd h (by simp)
            · rename_i l m hy
              obtain ⟨q1, q2, q3⟩ := sets_w hL _ _ _ _ _ hy TS_nil
              rw [show wS [] = 0 from rfl] at q3
              split at h
              · exact absurd h (by simp)
              · rename_i m2 hm
                have hm' := semi_w hm
                injection h with h; injection h with h; injection h with e1 h; injection h with e2 e3
                subst e1; subst e2; subst e3
                refine ⟨⟨h0, h1, h2, h3.app q1, h4, h5, h6⟩, by omega, ?_, hm'.2⟩
                have := wS_append s.leave l
                simp only [wStF]
                omega
          · split at h
            · split at h
              · rename_i he
                split at h
                · exact absurd h (by simp)
                · rename_i e m hy
                  obtain ⟨q1, q2, q3⟩ := expr_w hL _ _ _ hy
                  split at h
                  · exact absurd h (by simp)
                  · rename_i m2 hm
                    have hm' := semi_w hm
                    injection h with h; injection h with h; injection h with e1 h; injection h with e2 e3
                    subst e1; subst e2; subst e3
                    refine ⟨⟨h0, h1, h2, h3, q1, h5, h6⟩, by omega, ?_, hm'.2⟩
                    simp only [wStF]
                    omega
              · exact absurd h (by simp)
            · exact absurd h (by simp)
theorem parts_w (hL : Wf L) (hr : DR L T f reg) : ∀ (n : Nat) (s : StF ρ) (c i : Nat) (s' : StF ρ) (c' j : Nat), parts L ρ reg n s c i = .ok (s', c', j) → TStF T s → i ≤ L.length → TStF T s' ∧ i ≤ j ∧ wStF f s' ≤ wStF f s + (j - i) ∧ j ≤ L.length := by
  intro n
  induction n with
  | zero =>
    intro s c i s' c' j h hs hi
    rw [parts] at h
    injection h with h; injection h with e1 h; injection h with e2 e3
    subst e1; subst e2; subst e3
    exact ⟨hs, Nat.le_refl _, by omega, hi⟩
  | succ n ih =>
    intro s c i s' c' j h hs hi
    rw [parts] at h
    split at h
    · exact absurd h (by simp)
    · split at h
      · rename_i ht
        have := tx_lt ht (by simp [kShut])
        injection h with h; injection h with e1 h; injection h with e2 e3
        subst e1; subst e2; subst e3
        exact ⟨hs, by omega, by omega, by omega⟩
      · exact absurd h (by simp)
    · rename_i s1 c1 m hp
      obtain ⟨p1, p2, p3, p4⟩ := part_w hL hr hp hs
      obtain ⟨q1, q2, q3, q4⟩ := ih _ _ _ _ _ _ h p1 p4
      exact ⟨q1, by omega, by omega, q4⟩
theorem state_w (hL : Wf L) (hr : DR L T f reg) {fi la : Bool} {c i c' j : Nat} {s : StF ρ} (h : state L ρ reg fi la c i = .ok (s, c', j)) : TStF T s ∧ i < j ∧ wStF f s ≤ j - i ∧ j ≤ L.length := by
  rw [state] at h
  split at h
  · split at h
    · exact absurd h (by simp)
    · split at h
      · exact absurd h (by simp)
      · rename_i nm' hn
        have hz : TStF T (⟨nm', fi, la, [], [], [], .nil, [], []⟩ : StF ρ) := ⟨nm_len hn, TS_nil, TS_nil, TS_nil, trivial, fun y hy => absurd hy (by simp), fun r hr => absurd hr (by simp)⟩
        have hw : wStF f (⟨nm', fi, la, [], [], [], .nil, [], []⟩ : StF ρ) = 1 := rfl
        split at h
        · rename_i ht
          have := tx_lt ht (by simp [kSemi])
          injection h with h; injection h with e1 h; injection h with e2 e3
          subst e1; subst e2; subst e3
          exact ⟨hz, by omega, by omega, by omega⟩
        · split at h
          · rename_i ht
            have := tx_lt ht (by simp [kOpen])
            obtain ⟨q1, q2, q3, q4⟩ := parts_w hL hr _ _ _ _ _ _ _ h hz (by omega)
            exact ⟨q1, by omega, by omega, q4⟩
          · exact absurd h (by simp)
  · exact absurd h (by simp)
theorem states_w (hL : Wf L) (hr : DR L T f reg) : ∀ (n : Nat) (l : List (StF ρ)) (c i : Nat) (l' : List (StF ρ)) (c' j : Nat), states L ρ reg n l c i = .ok (l', c', j) → (∀ x ∈ l, TStF T x) → i ≤ L.length → (∀ x ∈ l', TStF T x) ∧ i ≤ j ∧ sumW (wStF f) l' ≤ sumW (wStF f) l + (j - i) ∧ j ≤ L.length := by
  intro n
  induction n with
  | zero =>
    intro l c i l' c' j h hl hi
    rw [states] at h
    injection h with h; injection h with e1 h; injection h with e2 e3
    subst e1; subst e2; subst e3
    exact ⟨hl, Nat.le_refl _, by omega, hi⟩
  | succ n ih =>
    intro l c i l' c' j h hl hi
    rw [states] at h
    split at h
    · split at h
      · exact absurd h (by simp)
      · rename_i s c1 m hs
        obtain ⟨p1, p2, p3, p4⟩ := state_w hL hr hs
        have o1 := opt_le L kInitial i
        have o2 := opt_le L kFinal (opt L kInitial i)
        obtain ⟨q1, q2, q3, q4⟩ := ih _ _ _ _ _ _ h (fun x hx => (List.mem_append.1 hx).elim (hl x) (fun hx => by rw [List.mem_singleton.1 hx]; exact p1)) p4
        rw [sumW_append, sumW_one] at q3
        exact ⟨q1, by omega, by omega, q4⟩
    · split at h
      · rename_i ht
        have := tx_lt ht (by simp [kShut])
        injection h with h; injection h with e1 h; injection h with e2 e3
        subst e1; subst e2; subst e3
        exact ⟨hl, by omega, by omega, by omega⟩
      · exact absurd h (by simp)
end
theorem region_w {L : List Lx.Tok} (hL : Wf L) : ∀ k, DR L (TSt k) (wSt k) (region L k) := by
  intro k
  induction k with
  | zero => intro c i l c' j h; rw [region] at h; exact absurd h (by simp)
  | succ k ih =>
    intro c i l c' j h
    have h' : @ite (Except F (List (StF (St k)) × Nat × Nat)) (tx L i = kOpen) _ (states L (St k) (region L k) L.length [] c (i + 1)) (.error (3, pl L i)) = .ok (l, c', j) := h
    by_cases ht : tx L i = kOpen
    · rw [if_pos ht] at h'
      have := tx_lt ht (by simp [kOpen])
      obtain ⟨q1, q2, q3, q4⟩ := states_w hL ih _ _ _ _ _ _ _ h' (fun x hx => absurd hx (by simp)) (by omega)
      refine ⟨q1, by omega, ?_, q4⟩
      rw [show sumW (wStF (wSt k)) [] = 0 from rfl] at q3
      show 1 + sumW (wStF (wSt k)) l ≤ _
      omega
    · rw [if_neg ht] at h'
      exact absurd h' (by simp)

section
variable {L : List Lx.Tok}
def TD (v : Decl) : Prop := GoodDecl v ∧ v.name.length ≤ 12
theorem number_w (hL : Wf L) {i n : Nat} (h : number L i = .ok n) : n < 1000000000000000000 := by
  unfold number at h
  split at h
  · rename_i hk
    obtain ⟨n1, n2, n3⟩ := hL.num i hk
    have hv := (parse_digits (tx L i) n3 n1 n2).2
    have hp : (10 : Nat) ^ 18 = 1000000000000000000 := by decide
    rw [hp] at hv
    injection h with h
    omega
  · exact absurd h (by simp)
theorem first_w (hL : Wf L) {i j : Nat} {n : Int} (h : first L i = .ok (n, j)) : -9223372036854775808 ≤ n ∧ n ≤ 9223372036854775807 ∧ i ≤ j := by
  unfold first at h
  split at h
  · split at h
    · split at h
      · exact absurd h (by simp)
      · rename_i q hq
        have := number_w hL hq
        injection h with h; injection h with e1 e2
        subst e1; subst e2
        exact ⟨by omega, by omega, by omega⟩
    · split at h
      · exact absurd h (by simp)
      · rename_i q hq
        have := number_w hL hq
        injection h with h; injection h with e1 e2
        subst e1; subst e2
        exact ⟨by omega, by omega, by omega⟩
  · injection h with h; injection h with e1 e2
    subst e1; subst e2
    exact ⟨by omega, by omega, by omega⟩
theorem kindOf_le (s : Str) : kindOf s ≤ 3 := by unfold kindOf; (repeat' split) <;> omega
theorem variable_w (hL : Wf L) {k i j : Nat} {v : Decl} (h1 : 1 ≤ k) (h3 : k ≤ 3) (h : variable_ L k i = .ok (v, j)) : TD v ∧ i < j ∧ j ≤ L.length := by
  unfold variable_ at h
  split at h
  · exact absurd h (by simp)
  · rename_i s hs
    split at h
    · exact absurd h (by simp)
    · rename_i n m hf
      obtain ⟨f1, f2, f3⟩ := first_w hL hf
      split at h
      · rename_i ht
        have := tx_lt ht (by simp [kSemi])
        injection h with h; injection h with e1 e2
        subst e1; subst e2
        exact ⟨⟨⟨h1, h3, f1, f2⟩, nm_len hs⟩, by omega, by omega⟩
      · exact absurd h (by simp)
theorem items_w (hL : Wf L) : ∀ (n : Nat) (vs : List Decl) (rs : List (List (St 6))) (c i : Nat) (vs' : List Decl) (rs' : List (List (St 6))) (j : Nat), items L n vs rs c i = .ok (vs', rs', j) → (∀ v ∈ vs, TD v) → (∀ r ∈ rs, ∀ x ∈ r, TSt 6 x) → i ≤ L.length →
    (∀ v ∈ vs', TD v) ∧ (∀ r ∈ rs', ∀ x ∈ r, TSt 6 x) ∧ i ≤ j ∧ vs'.length + sumW (wR (wSt 6)) rs' ≤ vs.length + sumW (wR (wSt 6)) rs + (j - i) ∧ j ≤ L.length := by
  intro n
  induction n with
  | zero =>
    intro vs rs c i vs' rs' j h hv hr hi
    rw [items] at h
    injection h with h; injection h with e1 h; injection h with e2 e3
    subst e1; subst e2; subst e3
    exact ⟨hv, hr, Nat.le_refl _, by omega, hi⟩
  | succ n ih =>
    intro vs rs c i vs' rs' j h hv hr hi
    rw [items] at h
    split at h
    · rename_i hk
      split at h
      · exact absurd h (by simp)
      · split at h
        · exact absurd h (by simp)
        · rename_i v m hd
          obtain ⟨p1, p2, p3⟩ := variable_w hL (by omega) (kindOf_le _) hd
          obtain ⟨q1, q2, q3, q4, q5⟩ := ih _ _ _ _ _ _ _ h (fun x hx => (List.mem_append.1 hx).elim (hv x) (fun hx => by rw [List.mem_singleton.1 hx]; exact p1)) hr p3
          rw [List.length_append, List.length_singleton] at q4
          exact ⟨q1, q2, by omega, by omega, q5⟩
    · split at h
      · split at h
        · exact absurd h (by simp)
        · rename_i l c1 m hd
          obtain ⟨p1, p2, p3, p4⟩ := region_w hL 6 _ _ _ _ _ hd
          obtain ⟨q1, q2, q3, q4, q5⟩ := ih _ _ _ _ _ _ _ h hv (fun x hx => (List.mem_append.1 hx).elim (hr x) (fun hx => by rw [List.mem_singleton.1 hx]; exact p1)) p4
          rw [sumW_append, sumW_one] at q4
          exact ⟨q1, q2, by omega, by omega, q5⟩
      · split at h
        · rename_i ht
          have := tx_lt ht (by simp [kShut])
          injection h with h; injection h with e1 h; injection h with e2 e3
          subst e1; subst e2; subst e3
          exact ⟨hv, hr, by omega, by omega, by omega⟩
        · exact absurd h (by simp)
theorem TSt.ok : ∀ (k : Nat) (s : St k), TSt k s → wSt k s ≤ 10000 → OkSt k s := by
  intro k
  induction k with
  | zero => intro _ _ _; trivial
  | succ k ih =>
    intro s ⟨_, h1, h2, h3, h4, h5, h6⟩ hw
    have hw' : wStF (wSt k) s ≤ 10000 := hw
    unfold wStF at hw'
    have l1 := wS_len s.enter
    have l2 := wS_len s.during
    have l3 := wS_len s.leave
    refine ⟨⟨h1.good, h2.good, h3.good, h4.good, fun y hy => (h5 y hy).good⟩, ⟨by omega, by omega, by omega⟩, fun r hr x hx => ih x (h6 r hr x hx) ?_⟩
    have a : ∀ {α : Type} (g : α → Nat) (l : List α) (z : α), z ∈ l → g z ≤ sumW g l := fun {α} g l z hz => by
      induction l with
      | nil => exact absurd hz (by simp)
      | cons b q ihq =>
        rw [sumW]
        rcases List.mem_cons.1 hz with rfl | hz
        · omega
        · have := ihq hz; omega
    have a1 : 1 + sumW (wSt k) r ≤ sumW (wR (wSt k)) s.regions := a (wR (wSt k)) s.regions r hr
    have a2 := a (wSt k) r x hx
    omega
theorem declT_len {v : Decl} (h : TD v) : (declT v).length ≤ 300 := by
  have h1 := itoa_len v.first h.1.2.2.1 h.1.2.2.2
  have h2 := h.2
  have h3 : (kindT v.kind).length ≤ 6 := by unfold kindT; (repeat' split) <;> simp [kInput, kOutput, kVar]
  unfold declT
  split
  · simp only [List.length_append, List.length_cons, List.length_nil]; omega
  · simp only [List.length_append, List.length_cons, List.length_nil]; omega
/-- what is in a chart that is drawn, and how long its print is -/
theorem chart_w (hL : Wf L) {c : Chart} (h : chart L = .ok c) : OkChart c ∧ (printT c).length ≤ 1000000 ∧ ∀ r ∈ c.regions, ∀ s ∈ r, ∀ least, (exprT (StF.rests s) least).length ≤ 1000000 := by
  unfold chart at h
  split at h
  · split at h
    · exact absurd h (by simp)
    · rename_i s hs
      split at h
      · rename_i ht
        have h2 := tx_lt ht (by simp [kOpen])
        split at h
        · exact absurd h (by simp)
        · rename_i vs rs i hi
          obtain ⟨q1, q2, q3, q4, q5⟩ := items_w hL _ _ _ _ _ _ _ _ hi (fun v hv => absurd hv (by simp)) (fun v hv => absurd hv (by simp)) (by omega)
          rw [show sumW (wR (wSt 6)) [] = 0 from rfl, List.length_nil] at q4
          have h6 := hL.len
          split at h
          · injection h with h
            subst h
            have a : ∀ {α : Type} (g : α → Nat) (l : List α) (z : α), z ∈ l → g z ≤ sumW g l := fun {α} g l z hz => by
              induction l with
              | nil => exact absurd hz (by simp)
              | cons b q ihq =>
                rw [sumW]
                rcases List.mem_cons.1 hz with rfl | hz
                · omega
                · have := ihq hz; omega
            have hws : ∀ r ∈ rs, ∀ x ∈ r, wSt 6 x ≤ 601 := fun r hr x hx => by
              have a1 : 1 + sumW (wSt 6) r ≤ sumW (wR (wSt 6)) rs := a (wR (wSt 6)) rs r hr
              have a2 := a (wSt 6) r x hx
              omega
            refine ⟨⟨fun v hv => (q1 v hv).1, fun r hr x hx => TSt.ok 6 x (q2 r hr x hx) (by have := hws r hr x hx; omega)⟩, ?_, ?_⟩
            · have e1 := flatMap_len declT (fun _ => 1) 300 vs (fun v hv => by have := declT_len (q1 v hv); omega)
              have e2 := regT_len (st := stateT 6) (f := wSt 6) (d := 1) (by omega) (fun r hr x hx => stateT_len 6 (1 + 1) (by omega) x (q2 r hr x hx))
              have e3 : sumW (fun _ : Decl => 1) vs = vs.length := by
                clear q1 q4 e1 hi
                induction vs with
                | nil => rfl
                | cons v r ih => rw [sumW, ih, List.length_cons]; omega
              have e4 := nm_len hs
              rw [e3] at e1
              unfold printT
              simp only [List.length_append, List.length_cons, List.length_nil]
              omega
            · intro r hr x hx least
              obtain ⟨_, _, _, _, t4, _, _⟩ := q2 r hr x hx
              have b1 := exprT_len t4 least
              have b2 : wStF (wSt 5) x ≤ 601 := hws r hr x hx
              unfold wStF at b2
              omega
          · exact absurd h (by simp)
      · exact absurd h (by simp)
  · exact absurd h (by simp)
end
end Px
end Go.Proofs.YtlgoclebedjiiaaGreatDoor
