/- Plain mathematics of chapter 3: how a chart is printed; no program. -/
import Derived.Test.YtpbfmfhjgghldaaDoorJSmall
import Derived.Lib.ItoaNum
import Derived.Test.YtpbfmfhjgghldaaDoorJRchain5
import Derived.Test.YtpbfmfhjgghldaaDoorJPvar
import Derived.Lib.AppendStr
namespace Go.Proofs.YtpbfmfhjgghldaaDoor
namespace Px
open Go.Lib

/-- what stands ahead of a line -/
def padT (n : Nat) : Str := List.replicate (2 * n) 32
theorem padT_succ (n : Nat) : padT (n + 1) = padT n ++ [32, 32] := by
  rw [padT, padT, show 2 * (n + 1) = 2 * n + 2 by omega, ← List.replicate_append_replicate]; rfl
theorem padT_len (n : Nat) : (padT n).length = 2 * n := by simp [padT]
/-- which of 3.1's lines a code is of -/
def line (c : Nat) : Nat := if c = 16 then 1 else if c = 15 then 2 else if c = 11 ∨ c = 12 ∨ c = 13 ∨ c = 14 then 3 else if c = 6 ∨ c = 7 then 4 else if c = 8 ∨ c = 9 ∨ c = 10 then 5 else 6
/-- how a code of two is written -/
def signT (c : Nat) : Str := if c = 16 then [124, 124] else if c = 15 then [38, 38] else if c = 11 then [61, 61] else if c = 12 then [33, 61] else if c = 13 then [60] else if c = 14 then [60, 61] else if c = 6 then [43] else if c = 7 then [45] else if c = 8 then [42] else if c = 9 then [47] else [37]
/-- how a code of one is written -/
def aheadT (c : Nat) : Str := if c = 4 then [45] else if c = 5 then [33] else []
def brack (b : Bool) (s : Str) : Str := if b then [40] ++ s ++ [41] else s
def exprT : E → Nat → Str
  | .nil, _ => []
  | .node _ _ a l r, least =>
    if a.code = 1 then itoa a.num
    else if a.code = 2 then a.name
    else if a.code = 3 then [112, 114, 101, 40] ++ a.name ++ [41]
    else if a.code = 4 ∨ a.code = 5 then aheadT a.code ++ exprT l 6
    else brack (decide (line a.code < least)) (exprT l (line a.code) ++ [32] ++ signT a.code ++ [32] ++ exprT r (line a.code + 1))
def setT (a : Asg) : Str := a.name ++ [32, 58, 61, 32] ++ exprT a.e 0
def setsT : List Asg → Str
  | [] => []
  | a :: r => setT a ++ r.flatMap (fun b => [44, 32] ++ setT b)
theorem setsT_snoc (l : List Asg) (a : Asg) : setsT (l ++ [a]) = setsT l ++ (if l = [] then [] else [44, 32]) ++ setT a := by
  cases l with
  | nil => simp [setsT]
  | cons b r => simp [setsT, List.flatMap_append]
def leadT (k : Nat) : Str := if k = 1 then kAbort else if k = 2 then kJoin else kGo
/-- if, count -/
def condT (y : Wy) : Str :=
  match y.cond with
  | .nil => []
  | .node b o a l r => [32, 105, 102, 32] ++ (if 1 < y.times then [99, 111, 117, 110, 116, 32] ++ itoa y.times ++ [32] else []) ++ exprT (.node b o a l r) 0
def doesT (l : List Asg) : Str := if l = [] then [] else [32, 100, 111, 32] ++ setsT l
def wayT (y : Wy) : Str :=
  leadT y.kind ++ (if y.now then [32, 105, 109, 109, 101, 100, 105, 97, 116, 101] else []) ++ condT y ++ doesT y.sets ++ [32, 45, 45, 62, 32] ++ y.to ++ (if y.back then [32, 104, 105, 115, 116, 111, 114, 121] else []) ++ [59]
/-- what is set at a moment: a line, or none -/
def momT (d : Nat) (word : Str) (l : List Asg) : Str := if l = [] then [] else padT d ++ word ++ setsT l ++ [59, 10]
def restT (d : Nat) (e : E) : Str :=
  match e with
  | .nil => []
  | .node b o a l r => padT d ++ [115, 117, 115, 112, 101, 110, 100, 32] ++ exprT (.node b o a l r) 0 ++ [59, 10]
section
variable {ρ : Type}
/-- what is in a state -/
def inT (regs : List (List ρ) → Nat → Str) (x : StF ρ) (d : Nat) : Str :=
  momT d [101, 110, 116, 114, 121, 32] x.enter ++ momT d [100, 117, 114, 105, 110, 103, 32] x.during ++ momT d [101, 120, 105, 116, 32] x.leave ++ restT d x.rests ++ x.ways.flatMap (fun y => padT d ++ wayT y ++ [10]) ++ regs x.regions d
def headT (x : StF ρ) (d : Nat) : Str :=
  padT d ++ (if x.first then [105, 110, 105, 116, 105, 97, 108, 32] else []) ++ (if x.last then [102, 105, 110, 97, 108, 32] else []) ++ [115, 116, 97, 116, 101, 32] ++ x.name
def stT (regs : List (List ρ) → Nat → Str) (x : StF ρ) (d : Nat) : Str :=
  headT x d ++ (if inT regs x (d + 1) = [] then [59, 10] else [32, 123, 10] ++ inT regs x (d + 1) ++ padT d ++ [125, 10])
def oneRegT (st : ρ → Nat → Str) (d : Nat) (r : List ρ) : Str := padT d ++ [114, 101, 103, 105, 111, 110, 32, 123, 10] ++ r.flatMap (fun x => st x (d + 1)) ++ padT d ++ [125, 10]
def regT (st : ρ → Nat → Str) (l : List (List ρ)) (d : Nat) : Str := l.flatMap (oneRegT st d)
end
def stateT : (k : Nat) → St k → Nat → Str
  | 0 => fun _ _ => []
  | k + 1 => fun s d => stT (regT (stateT k)) s d
def kindT (k : Nat) : Str := if k = 1 then kInput else if k = 2 then kOutput else if k = 3 then kVar else []
def declT (v : Decl) : Str := [32, 32] ++ kindT v.kind ++ [32] ++ v.name ++ (if v.first ≠ 0 then [32, 58, 61, 32] ++ itoa v.first else []) ++ [59, 10]
def printT (c : Chart) : Str := [99, 104, 97, 114, 116, 32] ++ c.name ++ [32, 123, 10] ++ c.vars.flatMap declT ++ regT (stateT 6) c.regions 1 ++ [125, 10]

/-- codes and numbers are such as there are -/
def GoodE : E → Prop
  | .nil => True
  | .node _ _ a l r => 1 ≤ a.code ∧ a.code ≤ 16 ∧ (-9223372036854775808 ≤ a.num ∧ a.num ≤ 9223372036854775807) ∧ GoodE l ∧ GoodE r
def GoodSets (l : List Asg) : Prop := ∀ a ∈ l, GoodE a.e
def GoodWay (y : Wy) : Prop := y.kind ≤ 2 ∧ y.times ≤ 1000 ∧ GoodE y.cond ∧ GoodSets y.sets
def GoodStF {ρ : Type} (G : ρ → Prop) (x : StF ρ) : Prop := GoodSets x.enter ∧ GoodSets x.during ∧ GoodSets x.leave ∧ GoodE x.rests ∧ (∀ y ∈ x.ways, GoodWay y) ∧ ∀ r ∈ x.regions, ∀ s ∈ r, G s
def GoodSt : (k : Nat) → St k → Prop
  | 0 => fun _ => True
  | k + 1 => fun s => GoodStF (GoodSt k) s
def GoodDecl (v : Decl) : Prop := 1 ≤ v.kind ∧ v.kind ≤ 3 ∧ -9223372036854775808 ≤ v.first ∧ v.first ≤ 9223372036854775807
def GoodChart (c : Chart) : Prop := (∀ v ∈ c.vars, GoodDecl v) ∧ ∀ r ∈ c.regions, ∀ s ∈ r, GoodSt 6 s

/-- brackets are asked by lines alone: where none is below the first -/
theorem exprT_zero (e : E) : exprT e 1 = exprT e 0 := by
  cases e with
  | nil => rfl
  | node _ _ a l r =>
    have h : ¬ line a.code < 1 := by unfold line; (repeat' split) <;> omega
    simp only [exprT, h, Nat.not_lt_zero, decide_false]
/-- a state is bare, if nothing is printed in it -/
theorem inT_nil {ρ : Type} {st : ρ → Nat → Str} (x : StF ρ) (d : Nat) : inT (regT st) x d = [] ↔ (x.enter = [] ∧ x.during = [] ∧ x.leave = [] ∧ x.rests = .nil ∧ x.ways = [] ∧ x.regions = []) := by
  have hm : ∀ w l, momT d w l = [] ↔ l = [] := fun w l => by
    unfold momT; split
    · rename_i h; simp [h]
    · rename_i h; simp [h]
  have hr : restT d x.rests = [] ↔ x.rests = .nil := by
    cases x.rests with
    | nil => simp [restT]
    | node _ _ _ _ _ => simp [restT]
  have hw : (x.ways.flatMap (fun y => padT d ++ wayT y ++ [10])) = [] ↔ x.ways = [] := by
    cases x.ways with
    | nil => simp
    | cons y r => simp
  have hg : regT st x.regions d = [] ↔ x.regions = [] := by
    cases x.regions with
    | nil => simp [regT]
    | cons y r => simp [regT, oneRegT]
  unfold inT
  simp only [List.append_eq_nil_iff, hm, hr, hw, hg, and_assoc]
end Px
end Go.Proofs.YtpbfmfhjgghldaaDoor
/- Plain mathematics for ParseBack: a text that is spelled by tokens is read as those. -/
namespace Go.Proofs.YtpbfmfhjgghldaaDoor
namespace Lx

/-- a text is spelled by tokens (kind, text), with blanks between -/
def Lexes : List (Nat × List UInt8) → List UInt8 → Prop
  | [], u => ∀ c ∈ u, blank c = true
  | (k, t) :: r, u => ∃ b v, u = b ++ (t ++ v) ∧ (∀ c ∈ b, blank c = true) ∧ rd (t ++ v) = (k, t.length) ∧ t ≠ [] ∧ k ≠ 0 ∧ ¬ (k = 2 ∧ 18 < t.length) ∧ Lexes r v
theorem sk_blank : ∀ (b v : List UInt8), (∀ c ∈ b, blank c = true) → sk false (b ++ v) = b.length + sk false v := by
  intro b v
  induction b with
  | nil => intro _; simp
  | cons c r ih =>
    intro h
    rw [List.cons_append, sk, if_pos (h c (by simp)), ih (fun d hd => h d (by simp [hd])), List.length_cons]; omega
/-- where a token stands, nothing is passed by -/
theorem sk_tok {u : List UInt8} (h : (rd u).1 ≠ 0) : sk false u = 0 := by
  cases u with
  | nil => rfl
  | cons c r =>
    have hb : blank c = false := by
      cases hb : blank c with
      | false => rfl
      | true =>
        exfalso
        apply h
        have hc : c = 32 ∨ c = 9 ∨ c = 10 := by
          unfold blank at hb
          simp only [Bool.or_eq_true, beq_iff_eq] at hb
          rcases hb with (h | h) | h
          · exact .inl h
          · exact .inr (.inl h)
          · exact .inr (.inr h)
        rcases hc with rfl | rfl | rfl <;> simp [rd, digit, word, alpha, mk, markIn, marks]
    have hs : (c == 35) = false := by
      cases hs : c == 35 with
      | false => rfl
      | true =>
        exfalso
        apply h
        have hc : c = 35 := by simpa using hs
        subst hc
        simp [rd, digit, word, alpha, mk, markIn, marks]
    rw [sk, hb, hs]; rfl
/-- the tokens, with their places -/
def placed : List (Nat × List UInt8) → List Tok → Prop
  | [], l => l = []
  | (k, t) :: r, l => ∃ p m, l = ⟨k, t, p⟩ :: m ∧ placed r m
theorem lexes_reads : ∀ (ks : List (Nat × List UInt8)) (u : List UInt8) (p : Nat), Lexes ks u → ∃ l u' p', Reads u p l u' p' ∧ u'.drop (sk false u') = [] ∧ placed ks l := by
  intro ks
  induction ks with
  | nil =>
    intro u p h
    refine ⟨[], u, p, Reads_nil _ _, ?_, rfl⟩
    have := sk_blank u [] h
    rw [List.append_nil] at this
    rw [this]
    simp [sk]
  | cons x r ih =>
    obtain ⟨k, t⟩ := x
    intro u p h
    obtain ⟨b, v, rfl, hb, hr, ht, hk, h2, hl⟩ := h
    obtain ⟨l, u', p', h1, h3, h4⟩ := ih v (p + b.length + t.length) hl
    have hs : sk false (b ++ (t ++ v)) = b.length := by rw [sk_blank b _ hb, sk_tok (by rw [hr]; exact hk), Nat.add_zero]
    have hd : (b ++ (t ++ v)).drop (sk false (b ++ (t ++ v))) = t ++ v := by rw [hs]; simp
    refine ⟨⟨k, t, p + b.length⟩ :: l, u', p', ?_, h3, ⟨_, _, rfl, h4⟩⟩
    refine ⟨?_, ?_, ?_, ?_, ?_⟩
    · rw [hd]; cases t with
      | nil => exact absurd rfl ht
      | cons c q => simp
    · rw [hd, hr, hs]; simp
    · rw [hd, hr]; exact hk
    · rw [hd, hr]; exact h2
    · rw [hd, hr, hs]; simpa using h1
theorem placed_len : ∀ {ks : List (Nat × List UInt8)} {l : List Tok}, placed ks l → l.length = ks.length := by
  intro ks
  induction ks with
  | nil => intro l h; rw [show l = [] from h]; rfl
  | cons x r ih =>
    obtain ⟨k, t⟩ := x
    intro l ⟨p, m, e, h⟩
    rw [e, List.length_cons, List.length_cons, ih h]
theorem lexes_ok {ks : List (Nat × List UInt8)} {u : List UInt8} (h : Lexes ks u) (hn : ks.length ≤ 600) : ∃ l, Ok u l ∧ placed ks l := by
  obtain ⟨l, u', p', h1, h2, h3⟩ := lexes_reads ks u 0 h
  exact ⟨l, ⟨by rw [placed_len h3]; exact hn, u', p', h1, h2⟩, h3⟩
theorem placed_at : ∀ {ks : List (Nat × List UInt8)} {l : List Tok}, placed ks l → ∀ (i : Nat) (x : Nat × List UInt8), ks[i]? = some x → ∃ p, l[i]? = some ⟨x.1, x.2, p⟩ := by
  intro ks
  induction ks with
  | nil => intro l _ i x hx; simp at hx
  | cons y r ih =>
    obtain ⟨k, t⟩ := y
    intro l ⟨p, m, e, h⟩ i x hx
    subst e
    cases i with
    | zero => simp at hx; subst hx; exact ⟨p, by simp⟩
    | succ i =>
      obtain ⟨q, hq⟩ := ih h i x (by simpa using hx)
      exact ⟨q, by simpa using hq⟩

/-- a word is read whole, where no letter follows -/
theorem rd_word {t v : List UInt8} {c : UInt8} {r : List UInt8} (e : t = c :: r) (hc : alpha c = true) (ht : ∀ x ∈ t, word x = true) (hv : ∀ x y, v = x :: y → word x = false) : rd (t ++ v) = (1, t.length) := by
  have hd : digit c = false := by
    unfold alpha at hc
    unfold digit
    simp only [Bool.or_eq_true, Bool.and_eq_true, decide_eq_true_eq, beq_iff_eq] at hc
    rcases hc with (h | h) | h
    · simp; omega
    · simp; omega
    · subst h; rfl
  have hw : wh word (t ++ v) = t.length := by
    clear e hc hd
    unfold wh
    induction t with
    | nil =>
      cases v with
      | nil => rfl
      | cons x y => simp [hv x y rfl]
    | cons x y ih =>
      rw [List.cons_append, List.takeWhile_cons, if_pos (ht x (by simp)), List.length_cons, ih (fun z hz => ht z (by simp [hz])), List.length_cons]
  subst e
  rw [List.cons_append] at hw ⊢
  rw [rd, hd, if_neg (by simp), if_pos (ht c (by simp)), hw]
/-- a number is read whole, where no digit follows -/
theorem rd_num {t v : List UInt8} (hne : t ≠ []) (ht : ∀ x ∈ t, digit x = true) (hv : ∀ x y, v = x :: y → digit x = false) : rd (t ++ v) = (2, t.length) := by
  have hw : wh digit (t ++ v) = t.length := by
    clear hne
    unfold wh
    induction t with
    | nil =>
      cases v with
      | nil => rfl
      | cons x y => simp [hv x y rfl]
    | cons x y ih =>
      rw [List.cons_append, List.takeWhile_cons, if_pos (ht x (by simp)), List.length_cons, ih (fun z hz => ht z (by simp [hz])), List.length_cons]
  cases t with
  | nil => exact absurd rfl hne
  | cons c r =>
    rw [List.cons_append] at hw ⊢
    rw [rd, if_pos (ht c (by simp)), hw]
end Lx
end Go.Proofs.YtpbfmfhjgghldaaDoor
/- Plain mathematics for ParseBack: the tokens of a printed expression. -/
namespace Go.Proofs.YtpbfmfhjgghldaaDoor
namespace Px
open Go.Lib Lx

def NameOk (s : Str) : Prop := (∃ c r, s = c :: r ∧ alpha c = true) ∧ (∀ x ∈ s, word x = true) ∧ kw s = false ∧ s.length ≤ 12
/-- an expression just such as is drawn -/
def SE : E → Prop
  | .nil => False
  | .node b o a l r => b = 0 ∧ o = 0 ∧
    ((a.code = 1 ∧ 0 ≤ a.num ∧ a.num < 1000000000000000000 ∧ a.name = [] ∧ l = .nil ∧ r = .nil) ∨ ((a.code = 2 ∨ a.code = 3) ∧ a.num = 0 ∧ NameOk a.name ∧ l = .nil ∧ r = .nil) ∨
      ((a.code = 4 ∨ a.code = 5) ∧ a.num = 0 ∧ a.name = [] ∧ SE l ∧ r = .nil) ∨ (6 ≤ a.code ∧ a.code ≤ 16 ∧ a.num = 0 ∧ a.name = [] ∧ SE l ∧ SE r))
abbrev Kt := Nat × Str
def brackK (b : Bool) (s : List Kt) : List Kt := if b then (3, kPar) :: (s ++ [(3, kRap)]) else s
/-- an expression's tokens -/
def exprK : E → Nat → List Kt
  | .nil, _ => []
  | .node _ _ a l r, least =>
    if a.code = 1 then [(2, itoa a.num)]
    else if a.code = 2 then [(1, a.name)]
    else if a.code = 3 then [(1, kPre), (3, kPar), (1, a.name), (3, kRap)]
    else if a.code = 4 ∨ a.code = 5 then (3, aheadT a.code) :: exprK l 6
    else brackK (decide (line a.code < least)) (exprK l (line a.code) ++ ((3, signT a.code) :: exprK r (line a.code + 1)))
/-- no letter stands first -/
def Sep (v : Str) : Prop := ∀ x y, v = x :: y → word x = false
theorem Sep.digit {v : Str} (h : Sep v) : ∀ x y, v = x :: y → Lx.digit x = false := fun x y e => by
  have := h x y e
  unfold word at this
  simp at this
  exact this.2
theorem sep_cons {c : UInt8} {v : Str} (h : word c = false) : Sep (c :: v) := fun x y e => by injection e with e _; rw [← e]; exact h

theorem dec_digits : ∀ (n : Nat), ∀ c ∈ decDigits n, Lx.digit c = true := by
  intro n
  induction n using Nat.strongRecOn with
  | _ n ih =>
    intro c hc
    rw [decDigits] at hc
    split at hc
    · rename_i h
      rw [List.mem_singleton] at hc
      subst hc
      have : (UInt8.ofNat (48 + n)).toNat = 48 + n := by rw [UInt8.toNat_ofNat']; omega
      unfold Lx.digit
      rw [this]; simp; omega
    · rename_i h
      rcases List.mem_append.1 hc with hc | hc
      · exact ih (n / 10) (by omega) c hc
      · rw [List.mem_singleton] at hc
        subst hc
        have : (UInt8.ofNat (48 + n % 10)).toNat = 48 + n % 10 := by rw [UInt8.toNat_ofNat']; omega
        unfold Lx.digit
        rw [this]; simp; omega
theorem nDigits_le : ∀ (k u : Nat), u < 10 ^ (k + 1) → nDigits u ≤ k + 1 := by
  intro k
  induction k with
  | zero => intro u h; rw [nDigits_small (by omega)]; omega
  | succ k ih =>
    intro u h
    by_cases hu : u < 10
    · rw [nDigits_small hu]; omega
    · rw [nDigits_big hu]
      have := ih (u / 10) (by rw [Nat.pow_succ] at h; omega)
      omega
theorem itoa_digits {n : Int} (h0 : 0 ≤ n) (h1 : n < 1000000000000000000) : (itoa n ≠ []) ∧ (∀ c ∈ itoa n, Lx.digit c = true) ∧ (itoa n).length ≤ 18 := by
  unfold itoa
  rw [if_neg (by omega)]
  refine ⟨?_, dec_digits _, ?_⟩
  · intro h
    have := congrArg List.length h
    rw [decDigits_length, List.length_nil] at this
    have := nDigits_pos n.toNat
    omega
  · rw [decDigits_length]
    have hp : (10 : Nat) ^ (17 + 1) = 1000000000000000000 := by decide
    have := nDigits_le 17 n.toNat (by rw [hp]; omega)
    omega

/-- a mark is read, if what follows makes no longer one -/
theorem rd_mark {t v : Str} (ht : t ∈ ([[40], [41], [123], [125], [59], [44], [58, 61], [45, 45, 62]] : List Str)) : rd (t ++ v) = (3, t.length) := by
  simp only [List.mem_cons, List.not_mem_nil, or_false] at ht
  rcases ht with rfl | rfl | rfl | rfl | rfl | rfl | rfl | rfl <;> simp [rd, Lx.digit, word, alpha, mk, markIn, marks]
theorem rd_sign {c : Nat} (h1 : 6 ≤ c) (h2 : c ≤ 16) (v : Str) : rd (signT c ++ (32 :: v)) = (3, (signT c).length) := by
  have hc : c = 6 ∨ c = 7 ∨ c = 8 ∨ c = 9 ∨ c = 10 ∨ c = 11 ∨ c = 12 ∨ c = 13 ∨ c = 14 ∨ c = 15 ∨ c = 16 := by omega
  rcases hc with rfl | rfl | rfl | rfl | rfl | rfl | rfl | rfl | rfl | rfl | rfl <;> simp [signT, rd, Lx.digit, word, alpha, mk, markIn, marks]
/-- what stands first in an expression -/
def Fst (u : Str) : Prop := ∃ c r, u = c :: r ∧ c ≠ 61 ∧ c ≠ 62 ∧ (c = 45 → ∃ d q, r = d :: q ∧ d ≠ 62)
theorem rd_minus {u : Str} (h : Fst u) : rd ([45] ++ u) = (3, 1) := by
  obtain ⟨c, r, rfl, h1, h2, h3⟩ := h
  by_cases hc : c = 45
  · obtain ⟨d, q, rfl, hd⟩ := h3 hc
    subst hc
    have : (62 == d) = false := by simpa using fun e => hd e.symm
    simp [rd, Lx.digit, word, alpha, mk, markIn, marks, List.isPrefixOf, this]
  · have : (45 == c) = false := by simpa using fun e => hc e.symm
    simp [rd, Lx.digit, word, alpha, mk, markIn, marks, List.isPrefixOf, this]
theorem rd_not {u : Str} (h : Fst u) : rd ([33] ++ u) = (3, 1) := by
  obtain ⟨c, r, rfl, h1, h2, h3⟩ := h
  have : (61 == c) = false := by simpa using fun e => h1 e.symm
  simp [rd, Lx.digit, word, alpha, mk, markIn, marks, List.isPrefixOf, this]
theorem lx_word {s v : Str} {ks : List Kt} (h1 : ∃ c r, s = c :: r ∧ alpha c = true) (h2 : ∀ x ∈ s, word x = true) (hv : Sep v) (h : Lexes ks v) : Lexes ((1, s) :: ks) (s ++ v) := by
  obtain ⟨c, r, e, hc⟩ := h1
  refine ⟨[], v, rfl, fun c hc => absurd hc (by simp), rd_word e hc h2 hv, by rw [e]; simp, by simp, by simp, h⟩
theorem lx_mark {t v : Str} {ks : List Kt} (ht : t ∈ ([[40], [41], [123], [125], [59], [44], [58, 61], [45, 45, 62]] : List Str)) (h : Lexes ks v) : Lexes ((3, t) :: ks) (t ++ v) := by
  refine ⟨[], v, rfl, fun c hc => absurd hc (by simp), rd_mark ht, ?_, by simp, by simp, h⟩
  intro e
  rw [e] at ht
  simp at ht
theorem lx_num {n : Int} {v : Str} {ks : List Kt} (h0 : 0 ≤ n) (h1 : n < 1000000000000000000) (hv : Sep v) (h : Lexes ks v) : Lexes ((2, itoa n) :: ks) (itoa n ++ v) := by
  obtain ⟨a, b, c⟩ := itoa_digits h0 h1
  exact ⟨[], v, rfl, fun c hc => absurd hc (by simp), rd_num a b hv.digit, a, by simp, by simp; omega, h⟩
theorem lx_blank {c : UInt8} {v : Str} {ks : List Kt} (hc : Lx.blank c = true) (h : Lexes ks v) : Lexes ks (c :: v) := by
  cases ks with
  | nil => intro x hx; rcases List.mem_cons.1 hx with rfl | hx; exact hc; exact h x hx
  | cons x r =>
    obtain ⟨k, t⟩ := x
    obtain ⟨b, u, e, hb, hr⟩ := h
    exact ⟨c :: b, u, by rw [e]; rfl, fun x hx => by rcases List.mem_cons.1 hx with rfl | hx; exact hc; exact hb x hx, hr⟩
theorem fst_expr : ∀ {e : E}, SE e → ∀ (least : Nat) (v : Str), Fst (exprT e least ++ v) := by
  intro e
  induction e with
  | nil => intro h; exact absurd h (by simp [SE])
  | node b o a l r ihl ihr =>
    intro h least v
    obtain ⟨_, _, h | h | h | h⟩ := h
    · obtain ⟨h1, h2, h3, _⟩ := h
      obtain ⟨n1, n2, _⟩ := itoa_digits h2 h3
      rw [exprT, if_pos h1]
      cases hi : itoa a.num with
      | nil => exact absurd hi n1
      | cons c q =>
        have := n2 c (by rw [hi]; simp)
        unfold Lx.digit at this
        simp only [Bool.and_eq_true, decide_eq_true_eq] at this
        exact ⟨c, q ++ v, rfl, by rintro rfl; simp at this, by rintro rfl; simp at this, by rintro rfl; simp at this⟩
    · obtain ⟨h1, _, ⟨⟨c, q, e, hc⟩, _⟩, _⟩ := h
      rcases h1 with h1 | h1
      · rw [exprT, if_neg (by omega), if_pos h1, e]
        exact ⟨c, q ++ v, rfl, by rintro rfl; simp [alpha] at hc, by rintro rfl; simp [alpha] at hc, by rintro rfl; simp [alpha] at hc⟩
      · rw [exprT, if_neg (by omega), if_neg (by omega), if_pos h1]
        exact ⟨112, _, rfl, by decide, by decide, fun h => absurd h (by decide)⟩
    · obtain ⟨h1, _, _, h2, _⟩ := h
      obtain ⟨c, q, e, n1, n2, n3⟩ := ihl h2 6 v
      rw [exprT, if_neg (by omega), if_neg (by omega), if_neg (by omega), if_pos h1, List.append_assoc, e]
      rcases h1 with h1 | h1
      · rw [h1]; exact ⟨45, c :: q, rfl, by decide, by decide, fun _ => ⟨c, q, rfl, n2⟩⟩
      · rw [h1]; exact ⟨33, c :: q, rfl, by decide, by decide, fun h => absurd h (by decide)⟩
    · obtain ⟨h1, h2, _, _, h3, h4⟩ := h
      rw [exprT, if_neg (by omega), if_neg (by omega), if_neg (by omega), if_neg (by omega), brack]
      split
      · exact ⟨40, _, rfl, by decide, by decide, fun h => absurd h (by decide)⟩
      · simp only [List.append_assoc]
        exact ihl h3 _ _
theorem exprK_lex : ∀ {e : E}, SE e → ∀ (least : Nat) (v : Str) (ks : List Kt), Sep v → Lexes ks v → Lexes (exprK e least ++ ks) (exprT e least ++ v) := by
  intro e
  induction e with
  | nil => intro h; exact absurd h (by simp [SE])
  | node b o a l r ihl ihr =>
    intro h least v ks hv hl
    obtain ⟨_, _, h | h | h | h⟩ := h
    · obtain ⟨h1, h2, h3, _⟩ := h
      rw [exprT, exprK, if_pos h1, if_pos h1]
      exact lx_num h2 h3 hv hl
    · obtain ⟨h1, _, ⟨n1, n2, _⟩, _⟩ := h
      rcases h1 with h1 | h1
      · rw [exprT, exprK, if_neg (by omega), if_pos h1, if_neg (by omega), if_pos h1]
        exact lx_word n1 n2 hv hl
      · rw [exprT, exprK, if_neg (by omega), if_neg (by omega), if_pos h1, if_neg (by omega), if_neg (by omega), if_pos h1]
        have e1 : [112, 114, 101, 40] ++ a.name ++ [41] ++ v = kPre ++ (kPar ++ (a.name ++ (kRap ++ v))) := by simp [kPre, kPar, kRap]
        rw [e1]
        refine lx_word ⟨112, [114, 101], rfl, rfl⟩ (by decide) (sep_cons (by decide)) (lx_mark (by decide) (lx_word n1 n2 (sep_cons (by decide)) (lx_mark (by decide) hl)))
    · obtain ⟨h1, _, _, h2, _⟩ := h
      have hf := fst_expr h2 6 v
      rw [exprT, exprK, if_neg (by omega), if_neg (by omega), if_neg (by omega), if_pos h1, if_neg (by omega), if_neg (by omega), if_neg (by omega), if_pos h1, List.append_assoc]
      rcases h1 with h1 | h1
      · rw [h1]
        exact ⟨[], _, rfl, fun c hc => absurd hc (by simp), rd_minus hf, by decide, by decide, by decide, ihl h2 6 v ks hv hl⟩
      · rw [h1]
        exact ⟨[], _, rfl, fun c hc => absurd hc (by simp), rd_not hf, by decide, by decide, by decide, ihl h2 6 v ks hv hl⟩
    · obtain ⟨h1, h2, _, _, h3, h4⟩ := h
      have two : ∀ (v : Str) (ks : List Kt), Sep v → Lexes ks v → Lexes (exprK l (line a.code) ++ ((3, signT a.code) :: exprK r (line a.code + 1)) ++ ks) (exprT l (line a.code) ++ [32] ++ signT a.code ++ [32] ++ exprT r (line a.code + 1) ++ v) := by
        intro v ks hv hl
        have q := ihr h4 (line a.code + 1) v ks hv hl
        simp only [List.append_assoc, List.cons_append, List.nil_append]
        refine ihl h3 (line a.code) _ _ (sep_cons (by decide)) (lx_blank (by decide) ?_)
        refine ⟨[], _, rfl, fun c hc => absurd hc (by simp), rd_sign h1 h2 _, ?_, by simp, by simp, lx_blank (by decide) q⟩
        intro e
        have : ∀ c, 6 ≤ c → c ≤ 16 → signT c ≠ [] := fun c q1 q2 => by unfold signT; (repeat' split) <;> simp
        exact this _ h1 h2 e
      rw [exprT, exprK, if_neg (by omega), if_neg (by omega), if_neg (by omega), if_neg (by omega), if_neg (by omega), if_neg (by omega), if_neg (by omega), if_neg (by omega)]
      unfold brack brackK
      split
      · have q := two (kRap ++ v) ((3, kRap) :: ks) (sep_cons (by decide)) (lx_mark (by decide) hl)
        have q2 := lx_mark (t := kPar) (by decide) q
        simpa [kPar, kRap, List.append_assoc] using q2
      · exact two v ks hv hl
end Px
end Go.Proofs.YtpbfmfhjgghldaaDoor
/- Plain mathematics for ParseBack: a printed expression's tokens draw that expression. -/
namespace Go.Proofs.YtpbfmfhjgghldaaDoor
namespace Px
open Go.Lib Lx

/-- how deep an expression's print is -/
def dpE : E → Nat → Nat
  | .nil, _ => 0
  | .node _ _ a l r, least =>
    if a.code = 1 ∨ a.code = 2 ∨ a.code = 3 then 1
    else if a.code = 4 ∨ a.code = 5 then 1 + dpE l 6
    else if line a.code < least then 1 + max (dpE l (line a.code)) (dpE r (line a.code + 1)) else max (dpE l (line a.code)) (dpE r (line a.code + 1))
section
variable {L : List Tok}
/-- these tokens stand there -/
def Ats (L : List Tok) (i : Nat) (ks : List Kt) : Prop := ∀ (j : Nat) (x : Kt), ks[j]? = some x → kd L (i + j) = x.1 ∧ tx L (i + j) = x.2
theorem Ats.head {i : Nat} {x : Kt} {r : List Kt} (h : Ats L i (x :: r)) : kd L i = x.1 ∧ tx L i = x.2 := h 0 x rfl
theorem Ats.tail {i : Nat} {x : Kt} {r : List Kt} (h : Ats L i (x :: r)) : Ats L (i + 1) r := fun j y hy => by
  have := h (j + 1) y (by simpa using hy)
  rw [show i + 1 + j = i + (j + 1) by omega]; exact this
theorem Ats.left {i : Nat} {a b : List Kt} (h : Ats L i (a ++ b)) : Ats L i a := fun j y hy => h j y (by
  rw [List.getElem?_append_left (List.getElem?_eq_some_iff.1 hy).1]; exact hy)
theorem Ats.right {i : Nat} {a b : List Kt} (h : Ats L i (a ++ b)) : Ats L (i + a.length) b := fun j y hy => by
  have := h (a.length + j) y (by rw [List.getElem?_append_right (by omega)]; simpa using hy)
  rw [show i + a.length + j = i + (a.length + j) by omega]; exact this
/-- what follows is no sign of a line so tight -/
def Stop (L : List Tok) (m j : Nat) : Prop := ∀ t, m ≤ t + 1 → t < 5 → codeAt t (tx L j) = 0
theorem Stop.mono {m m' j : Nat} (h : Stop L m j) (hm : m ≤ m') : Stop L m' j := fun t h1 h2 => h t (by omega) h2
theorem sign_self : ∀ c : Fin 17, 6 ≤ c.val → codeAt (line c.val - 1) (signT c.val) = c.val := by decide
theorem sign_stop : ∀ (c : Fin 17) (t : Fin 5), 6 ≤ c.val → line c.val ≤ t.val → codeAt t.val (signT c.val) = 0 := by decide
theorem line_range : ∀ c : Fin 17, 6 ≤ c.val → 1 ≤ line c.val ∧ line c.val ≤ 5 := by decide
theorem rap_stop : ∀ t : Fin 5, codeAt t.val kRap = 0 := by decide
theorem climb {k t i j : Nat} {e : E} (h : lev L (one L k) t i = .ok (e, j)) (hs : codeAt (4 - t) (tx L j) = 0) : lev L (one L k) (t + 1) i = .ok (e, j) := by
  rw [lev, chain, h]
  show chainF L _ _ L.length e j = _
  cases L.length with
  | zero => rfl
  | succ n => rw [chainF, if_pos hs]
theorem climbs {k i j : Nat} {e : E} (h : one L k i = .ok (e, j)) : ∀ (m : Nat), 1 ≤ m → m ≤ 6 → Stop L m j → lev L (one L k) (6 - m) i = .ok (e, j) := by
  intro m h1 h6 hs
  obtain ⟨t, rfl⟩ : ∃ t, m = 6 - t := ⟨6 - m, by omega⟩
  rw [show 6 - (6 - t) = t by omega]
  have : ∀ t, t ≤ 5 → Stop L (6 - t) j → lev L (one L k) t i = .ok (e, j) := by
    intro t
    induction t with
    | zero => intro _ _; exact h
    | succ t ih =>
      intro ht hs
      exact climb (ih (by omega) (hs.mono (by omega))) (hs (4 - t) (by omega) (by omega))
  exact this t (by omega) hs
theorem val_dec : ∀ n : Nat, val (decDigits n) = n := by
  intro n
  induction n using Nat.strongRecOn with
  | _ n ih =>
    rw [decDigits]
    split
    · rename_i h
      have : (UInt8.ofNat (48 + n)).toNat = 48 + n := by rw [UInt8.toNat_ofNat']; omega
      simp only [val, List.foldl_cons, List.foldl_nil, this]; omega
    · rename_i h
      have : (UInt8.ofNat (48 + n % 10)).toNat = 48 + n % 10 := by rw [UInt8.toNat_ofNat']; omega
      rw [val_snoc, ih (n / 10) (by omega), this]; omega
theorem val_itoa {n : Int} (h : 0 ≤ n) : (val (itoa n) : Int) = n := by
  unfold itoa
  rw [if_neg (by omega), val_dec]; omega
theorem digits_plain {s : Str} (hne : s ≠ []) (h : ∀ c ∈ s, Lx.digit c = true) : codeAhead s = 0 ∧ s ≠ kPar ∧ s ≠ kPre := by
  cases s with
  | nil => exact absurd rfl hne
  | cons c r =>
    have hc := h c (by simp)
    have n1 : c ≠ 45 := by rintro rfl; simp [Lx.digit] at hc
    have n2 : c ≠ 33 := by rintro rfl; simp [Lx.digit] at hc
    have n3 : c ≠ 40 := by rintro rfl; simp [Lx.digit] at hc
    have n4 : c ≠ 112 := by rintro rfl; simp [Lx.digit] at hc
    exact ⟨by unfold codeAhead kMinus kNot; rw [if_neg (by simp [n1]), if_neg (by simp [n2])], by simp [kPar, n3], by simp [kPre, n4]⟩
theorem name_plain {s : Str} (h : NameOk s) : codeAhead s = 0 ∧ s ≠ kPar ∧ s ≠ kPre := by
  obtain ⟨⟨c, r, e, hc⟩, _, hk, _⟩ := h
  have n4 : s ≠ kPre := by rintro rfl; simp [kw, words, kPre] at hk
  subst e
  have n1 : c ≠ 45 := by rintro rfl; simp [alpha] at hc
  have n2 : c ≠ 33 := by rintro rfl; simp [alpha] at hc
  have n3 : c ≠ 40 := by rintro rfl; simp [alpha] at hc
  exact ⟨by unfold codeAhead kMinus kNot; rw [if_neg (by simp [n1]), if_neg (by simp [n2])], by simp [kPar, n3], n4⟩
theorem nm_ok {i : Nat} {s : Str} (h : NameOk s) (hk : kd L i = 1) (ht : tx L i = s) : nm L i = .ok s := by
  unfold nm
  rw [if_neg (by rw [ht, hk, h.2.2.1]; simp), ht, if_neg (by have := h.2.2.2; omega)]
theorem climbFrom {k i j t0 : Nat} {e : E} (h : lev L (one L k) t0 i = .ok (e, j)) : ∀ (t : Nat), t0 ≤ t → t ≤ 5 → Stop L (6 - t) j → lev L (one L k) t i = .ok (e, j) := by
  intro t
  induction t with
  | zero => intro h0 _ _; obtain rfl : t0 = 0 := by omega
            exact h
  | succ t ih =>
    intro h0 h5 hs
    by_cases he : t0 = t + 1
    · subst he; exact h
    · exact climb (ih (by omega) (by omega) (hs.mono (by omega))) (hs (4 - t) (by omega) (by omega))
theorem tx_in {i : Nat} {s : Str} (h : tx L i = s) (hs : s ≠ []) : i < L.length := by
  rcases Nat.lt_or_ge i L.length with h' | h'
  · exact h'
  · exact absurd (by rw [← h, tx, tok, List.getD_eq_getElem?_getD, List.getElem?_eq_none h']; rfl) hs
theorem signT_neK (c : Nat) : signT c ≠ [] := by unfold signT; (repeat' split) <;> simp
theorem chainF_stop {below : Nat → Except F (E × Nat)} {code : Str → Nat} {e : E} {j : Nat} (h : code (tx L j) = 0) : ∀ f, chainF L below code f e j = .ok (e, j) := by
  intro f
  cases f with
  | zero => rfl
  | succ f => rw [chainF, if_pos h]
theorem S_of_below {k q i j n : Nat} {e : E} (h : lev L (one L k) (5 - q) i = .ok (e, j)) : ∃ f, chain L (lev L (one L k) (5 - q)) (codeAt (q - 1)) i = chainF L (lev L (one L k) (5 - q)) (codeAt (q - 1)) f e j ∧ L.length ≤ f + n := ⟨L.length, by rw [chain, h], by omega⟩
/-- what an expression's tokens draw, at every line -/
def Draws1 (L : List Tok) (e : E) : Prop :=
  (∀ k m i, 1 ≤ m → m ≤ 6 → dpE e m ≤ k → Ats L i (exprK e m) → Stop L m (i + (exprK e m).length) → lev L (one L k) (6 - m) i = .ok (e, i + (exprK e m).length)) ∧
  (∀ k q i, 1 ≤ q → q ≤ 5 → dpE e q ≤ k → Ats L i (exprK e q) → Stop L (q + 1) (i + (exprK e q).length) → ∃ f, chain L (lev L (one L k) (5 - q)) (codeAt (q - 1)) i = chainF L (lev L (one L k) (5 - q)) (codeAt (q - 1)) f e (i + (exprK e q).length) ∧ L.length ≤ f + (exprK e q).length)
/-- .. of one that stands by itself -/
theorem draws_atom {e : E} {ks : List Kt} {d : Nat} (hK : ∀ m, exprK e m = ks) (hD : ∀ m, dpE e m = d) (h : ∀ k i, d ≤ k → Ats L i ks → one L k i = .ok (e, i + ks.length)) : Draws1 L e := by
  refine ⟨fun k m i h1 h6 hd ha hs => ?_, fun k q i h1 h5 hd ha hs => ?_⟩
  · rw [hK] at ha hs ⊢; rw [hD] at hd
    exact climbs (h k i hd ha) m h1 h6 hs
  · rw [hK] at ha hs ⊢; rw [hD] at hd
    have := climbs (h k i hd ha) (q + 1) (by omega) (by omega) hs
    rw [show 6 - (q + 1) = 5 - q by omega] at this
    exact S_of_below this
theorem expr_back : ∀ {e : E}, SE e → Draws1 L e := by
  intro e
  induction e with
  | nil => intro h; exact absurd h (by simp [SE])
  | node b o a l r ihl ihr =>
    intro h
    obtain ⟨c, n, nmx⟩ := a
    obtain ⟨rfl, rfl, h | h | h | h⟩ := h
    · obtain ⟨h1, h2, h3, h4, rfl, rfl⟩ := h
      simp only at h1 h2 h3 h4
      subst h1; subst h4
      obtain ⟨d1, d2, d3⟩ := itoa_digits h2 h3
      obtain ⟨p1, p2, p3⟩ := digits_plain d1 d2
      refine draws_atom (ks := [(2, itoa n)]) (d := 1) (fun m => by simp [exprK]) (fun m => by simp [dpE]) (fun k i hk ha => ?_)
      obtain ⟨k, rfl⟩ : ∃ k', k = k' + 1 := ⟨k - 1, by omega⟩
      have hh := ha.head
      rw [one, hh.2, if_neg (by rw [p1]; simp), if_neg p2, if_neg p3, if_pos hh.1, val_itoa h2]
      rfl
    · obtain ⟨h1, h2, h3, rfl, rfl⟩ := h
      simp only at h1 h2 h3
      subst h2
      obtain ⟨p1, p2, p3⟩ := name_plain h3
      rcases h1 with rfl | rfl
      · refine draws_atom (ks := [(1, nmx)]) (d := 1) (fun m => by simp [exprK]) (fun m => by simp [dpE]) (fun k i hk ha => ?_)
        obtain ⟨k, rfl⟩ : ∃ k', k = k' + 1 := ⟨k - 1, by omega⟩
        have hh := ha.head
        rw [one, nm_ok h3 hh.1 hh.2, hh.2, if_neg (by rw [p1]; simp), if_neg p2, if_neg p3, if_neg (by rw [hh.1]; simp)]
        rfl
      · refine draws_atom (ks := [(1, kPre), (3, kPar), (1, nmx), (3, kRap)]) (d := 1) (fun m => by simp [exprK]) (fun m => by simp [dpE]) (fun k i hk ha => ?_)
        obtain ⟨k, rfl⟩ : ∃ k', k = k' + 1 := ⟨k - 1, by omega⟩
        have hh := ha.head
        have hh1 := ha.tail.head
        have hh2 := ha.tail.tail.head
        have hh3 := ha.tail.tail.tail.head
        rw [one, nm_ok h3 hh2.1 hh2.2, hh.2, if_neg (by decide), if_neg (by decide), if_pos rfl, hh1.2, if_pos rfl]
        show (if tx L (i + 3) = kRap then _ else _) = _
        rw [if_pos hh3.2]
        rfl
    · obtain ⟨h1, h2, h3, h4, rfl⟩ := h
      simp only at h1 h2 h3
      subst h2; subst h3
      have hc : c = 4 ∨ c = 5 := h1
      refine draws_atom (ks := (3, aheadT c) :: exprK l 6) (d := 1 + dpE l 6) (fun m => by rcases hc with rfl | rfl <;> simp [exprK]) (fun m => by rcases hc with rfl | rfl <;> simp [dpE]) (fun k i hk ha => ?_)
      obtain ⟨k, rfl⟩ : ∃ k', k = k' + 1 := ⟨k - 1, by omega⟩
      have hh := ha.head
      have q := (ihl h4).1 k 6 (i + 1) (by omega) (by omega) (by omega) ha.tail (fun t h _ => absurd h (by omega))
      rw [show 6 - 6 = 0 from rfl, lev] at q
      have hca : codeAhead (aheadT c) = c := by rcases hc with rfl | rfl <;> rfl
      rw [one, hh.2, hca, if_pos (by rcases hc with rfl | rfl <;> decide), q]
      simp only [List.length_cons]
      rw [show i + 1 + (exprK l 6).length = i + ((exprK l 6).length + 1) by omega]
      rfl
    · obtain ⟨h1, h2, h3, h4, h5, h6⟩ := h
      simp only at h1 h2 h3 h4
      subst h3; subst h4
      have hl := ihl h5
      have hr := ihr h6
      obtain ⟨l1, l5⟩ := line_range ⟨c, by omega⟩ h1
      simp only at l1 l5
      have ss := sign_self ⟨c, by omega⟩ h1
      simp only at ss
      obtain ⟨body, hbody⟩ : ∃ x, x = exprK l (line c) ++ ((3, signT c) :: exprK r (line c + 1)) := ⟨_, rfl⟩
      obtain ⟨D, hD⟩ : ∃ x, x = max (dpE l (line c)) (dpE r (line c + 1)) := ⟨_, rfl⟩
      have K1 : ∀ m, m ≤ line c → exprK (.node 0 0 ⟨c, 0, []⟩ l r) m = body := fun m hm => by
        rw [exprK, if_neg (by show ¬ c = 1; omega), if_neg (by show ¬ c = 2; omega), if_neg (by show ¬ c = 3; omega), if_neg (by show ¬ (c = 4 ∨ c = 5); omega), brackK, hbody]
        rw [if_neg (by simp; omega)]
      have K2 : ∀ m, line c < m → exprK (.node 0 0 ⟨c, 0, []⟩ l r) m = (3, kPar) :: (body ++ [(3, kRap)]) := fun m hm => by
        rw [exprK, if_neg (by show ¬ c = 1; omega), if_neg (by show ¬ c = 2; omega), if_neg (by show ¬ c = 3; omega), if_neg (by show ¬ (c = 4 ∨ c = 5); omega), brackK, hbody]
        rw [if_pos (by simp; omega)]
      have D1 : ∀ m, m ≤ line c → dpE (.node 0 0 ⟨c, 0, []⟩ l r) m = D := fun m hm => by
        rw [dpE, if_neg (by show ¬ (c = 1 ∨ c = 2 ∨ c = 3); omega), if_neg (by show ¬ (c = 4 ∨ c = 5); omega), if_neg (by show ¬ line c < m; omega), hD]
      have D2 : ∀ m, line c < m → dpE (.node 0 0 ⟨c, 0, []⟩ l r) m = 1 + D := fun m hm => by
        rw [dpE, if_neg (by show ¬ (c = 1 ∨ c = 2 ∨ c = 3); omega), if_neg (by show ¬ (c = 4 ∨ c = 5); omega), if_pos (by show line c < m; omega), hD]
      have S0 : ∀ k i, D ≤ k → Ats L i body → Stop L (line c + 1) (i + body.length) → ∃ f, chain L (lev L (one L k) (5 - line c)) (codeAt (line c - 1)) i = chainF L (lev L (one L k) (5 - line c)) (codeAt (line c - 1)) f (.node 0 0 ⟨c, 0, []⟩ l r) (i + body.length) ∧ L.length ≤ f + body.length := by
        intro k i hk ha hs
        rw [hbody] at ha hs ⊢
        have ar := ha.right
        have hh := ar.head
        have len : (exprK l (line c) ++ ((3, signT c) :: exprK r (line c + 1))).length = (exprK l (line c)).length + 1 + (exprK r (line c + 1)).length := by simp; omega
        rw [len] at hs ⊢
        obtain ⟨f, hf, hfl⟩ := hl.2 k (line c) i l1 l5 (by omega) ha.left (fun t ht t5 => by rw [hh.2]; exact sign_stop ⟨c, by omega⟩ ⟨t, t5⟩ h1 (by show line c ≤ t; omega))
        have hp := tx_in hh.2 (signT_neK c)
        obtain ⟨f, rfl⟩ : ∃ f', f = f' + 1 := ⟨f - 1, by omega⟩
        have q := hr.1 k (line c + 1) (i + (exprK l (line c)).length + 1) (by omega) (by omega) (by omega) ar.tail (by rw [show i + (exprK l (line c)).length + 1 + (exprK r (line c + 1)).length = i + ((exprK l (line c)).length + 1 + (exprK r (line c + 1)).length) by omega]; exact hs)
        rw [show 6 - (line c + 1) = 5 - line c by omega] at q
        refine ⟨f, ?_, by omega⟩
        rw [hf, chainF, hh.2, ss, if_neg (by omega), q]
        rw [show i + (exprK l (line c)).length + 1 + (exprK r (line c + 1)).length = i + ((exprK l (line c)).length + 1 + (exprK r (line c + 1)).length) by omega]
        rfl
      have M0 : ∀ k m i, 1 ≤ m → m ≤ line c → D ≤ k → Ats L i body → Stop L m (i + body.length) → lev L (one L k) (6 - m) i = .ok (.node 0 0 ⟨c, 0, []⟩ l r, i + body.length) := by
        intro k m i hm1 hm hk ha hs
        obtain ⟨f, hf, _⟩ := S0 k i hk ha (hs.mono (by omega))
        have base : lev L (one L k) (6 - line c) i = .ok (.node 0 0 ⟨c, 0, []⟩ l r, i + body.length) := by
          rw [show 6 - line c = (5 - line c) + 1 by omega, lev, show 4 - (5 - line c) = line c - 1 by omega, hf]
          exact chainF_stop (hs (line c - 1) (by omega) (by omega)) f
        exact climbFrom base (6 - m) (by omega) (by omega) (by rw [show 6 - (6 - m) = m by omega]; exact hs)
      have O : ∀ k i, 1 + D ≤ k → Ats L i ((3, kPar) :: (body ++ [(3, kRap)])) → one L k i = .ok (.node 0 0 ⟨c, 0, []⟩ l r, i + ((3, kPar) :: (body ++ [(3, kRap)])).length) := by
        intro k i hk ha
        obtain ⟨k, rfl⟩ : ∃ k', k = k' + 1 := ⟨k - 1, by omega⟩
        have hh := ha.head
        have hz := ha.tail.right.head
        have q := M0 k 1 (i + 1) (by omega) l1 (by omega) ha.tail.left (fun t _ t5 => by rw [hz.2]; exact rap_stop ⟨t, t5⟩)
        rw [show 6 - 1 = 5 from rfl] at q
        rw [one, hh.2, if_neg (by decide), if_pos rfl, q]
        show (if tx L (i + 1 + body.length) = kRap then _ else _) = _
        rw [if_pos hz.2]
        simp only [List.length_cons, List.length_append, List.length_nil]
        rw [show i + 1 + body.length + 1 = i + (body.length + (0 + 1) + 1) by omega]
      refine ⟨fun k m i m1 m6 hd ha hs => ?_, fun k q i q1 q5 hd ha hs => ?_⟩
      · by_cases hm : m ≤ line c
        · rw [K1 m hm] at ha hs ⊢
          rw [D1 m hm] at hd
          exact M0 k m i m1 hm hd ha hs
        · rw [K2 m (by omega)] at ha hs ⊢
          rw [D2 m (by omega)] at hd
          exact climbs (O k i hd ha) m m1 m6 hs
      · by_cases hq : q = line c
        · subst hq
          rw [K1 _ (Nat.le_refl _)] at ha hs ⊢
          rw [D1 _ (Nat.le_refl _)] at hd
          exact S0 k i hd ha hs
        · by_cases hm : q < line c
          · rw [K1 q (by omega)] at ha hs ⊢
            rw [D1 q (by omega)] at hd
            have := M0 k (q + 1) i (by omega) (by omega) hd ha hs
            rw [show 6 - (q + 1) = 5 - q by omega] at this
            exact S_of_below this
          · rw [K2 q (by omega)] at ha hs ⊢
            rw [D2 q (by omega)] at hd
            have := climbs (O k i hd ha) (q + 1) (by omega) (by omega) hs
            rw [show 6 - (q + 1) = 5 - q by omega] at this
            exact S_of_below this
end
end Px
end Go.Proofs.YtpbfmfhjgghldaaDoor
/- append of a string's bytes to a row of one's own: where the row then lies. -/
namespace Go.Proofs.YtpbfmfhjgghldaaDoor
open Go.RowKit Go.Lib Px

theorem append_str_at {P : Program} {w w' : World} {base t u ty e n : Nat} {i : TypeInfo} (ht : P.underlying t = some (.slice e)) (hu : P.underlying u = some .string) (hi : P.info? e = some i) (hz : i.zero = some (.int .u8 0)) (hsize : i.size = 1) (hby : i.bytes = 1)
    {v v' : Value} {xs : List Value} (hown : w.ownsRow base e 1 v n xs) (s : ByteArray) (hbytes : n + s.size ≤ 140737488355328) (hbase : base ≤ w.heap.size)
    (hr : (Builtin.append_ #[t, u] ty #[v, .string s]).run P w = .ok v' w') : v'.ownBlock = v.ownBlock ∨ v'.ownBlock = some w.heap.size := by
  have hxl : xs.length = n := by simpa using hown.1
  obtain ⟨v2, w2, hr2, _, _, h4⟩ := run_append_own_string (P := P) w base t u ty e i ht hu hi hz hsize hby v n xs hown s (by unfold maxLen; omega) hbytes hbase
  obtain ⟨rfl, rfl⟩ : v2 = v' ∧ w2 = w' := by rw [hr2] at hr; injection hr with h1 h2; exact ⟨h1, h2⟩
  have hcells := fun g hg => hown.cells (g := g) hg
  rcases hown.2 with ⟨rfl, rfl⟩ | ⟨g, cap, cur, rfl, hbg, hg, hnc, hcm, hcs, htake⟩
  · by_cases hm : s.size = 0
    · rw [h4.2 ⟨rfl, hm⟩]; exact .inl rfl
    · have h3 := run_append_nil_string (P := P) w t u ty e i (.int .u8 0) ht hu hi hz s (by omega) (by omega) (by rw [hby]; omega)
      rw [h3] at hr2
      injection hr2 with h1 _
      rw [← h1]; exact .inr rfl
  · by_cases hroom : n + s.size ≤ cap
    · have h3 := run_append_room_string (P := P) w t u ty e i ht hu hi hsize g n cap cur hg s hroom (by rw [hcs]; omega)
      rw [h3] at hr2
      injection hr2 with h1 _
      rw [← h1]; exact .inl rfl
    · have h3 := run_append_grow_string (P := P) w t u ty e i (.int .u8 0) ht hu hi hz ⟨g, 0, none⟩ n cap xs (by rw [hsize]; simpa using hxl) (hcells g rfl) s (by omega) (by omega) (by rw [hby]; exact growslice_fits (by omega) (by omega))
      rw [h3] at hr2
      injection hr2 with h1 _
      rw [← h1]; exact .inr rfl
theorem wpList_append_str_at {P : Program} {w : World} {ops : Array Oper} {rest : List Oper} {o : Oper} {a : Act} {Q : Exit → Act → World → Prop} (hgd : o.guard = none) (sl x : Operand) (t u : TypeId)
    (ho : o.op = .call { callee := .builtin .append, args := #[sl, x], argTypes := #[t, u] })
    (base : Nat) (e : TypeId) (i : TypeInfo) (ht : P.underlying t = some (.slice e)) (hu : P.underlying u = some .string) (hi : P.info? e = some i) (hz : i.zero = some (.int .u8 0)) (hsize : i.size = 1) (hby : i.bytes = 1)
    (v : Value) (n : Nat) (xs : List Value) (hs : a.eval sl = v) (hown : w.ownsRow base e 1 v n xs) (s : ByteArray) (hx : a.eval x = .string s) (hbytes : n + s.size ≤ 140737488355328) (hbase : base ≤ w.heap.size)
    (h : ∀ v' w', w'.ownsRow base e 1 v' (n + s.size) (xs ++ strCells s) → w.grownBy w' v.ownBlock → (v'.ownBlock = v.ownBlock ∨ v'.ownBlock = some w.heap.size) → wpList P ops Q rest (a.put o.dst v') w') : wpList P ops Q (o :: rest) a w := by
  refine wpList_plain hgd fun K hK => ?_
  obtain ⟨v', w', hr, h2, h3, _⟩ := run_append_own_string (P := P) w base t u o.type e i ht hu hi hz hsize hby v n xs hown s (by unfold maxLen; omega) hbytes hbase
  have h5 := append_str_at ht hu hi hz hsize hby hown s hbytes hbase hr
  unfold Oper.wp execOp
  simp only [ho, resolve, invoke, builtin, Sem.run_bind, Sem.run_pure, Result.andThen_ok, List.map_toArray, List.map_cons, List.map_nil, hs, hx, hr]
  exact hK _ _ (h v' w' h2 h3 h5)
end Go.Proofs.YtpbfmfhjgghldaaDoor
