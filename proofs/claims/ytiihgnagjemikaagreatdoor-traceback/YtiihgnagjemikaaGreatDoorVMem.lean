/- maps.Clone and maps.Copy at the variables of a chart: laid for this program out of the shelf. -/
import Derived.Ground.SlmcProg
import Derived.Ground.SlmpProg
import Derived.Shelf.SlMaps.Clone
import Derived.Shelf.SlMaps.Copy
import Derived.Test.YtiihgnagjemikaaGreatDoorProg
import Derived.Deep.Trees
import Derived.Below
import Derived.Laws.OwnMore
import Derived.Deep.Draws
namespace Go.Proofs
open Go.Shelf
def Tryz.cloneE_ren : Go.Shelf.Ren := ⟨fun | 5 => 36 | 7 => 70 | n => n, fun | 23 => 91 | 25 => 9 | 3 => 2 | 4 => 4 | 20 => 20 | n => n, fun | n => n⟩
theorem Tryz.cloneE : Go.Proofs.SlLaysW.n5 Tryz.prog Tryz.cloneE_ren := {
  mixed := by kernel_rfl
  f5 := ⟨Tryz.f36.name, by decide, Tryz.func36.trans (congrArg some (by kernel_rfl))⟩
  f7 := Tryz.func70.trans (congrArg some (by kernel_rfl))
  t4 := Tryz.underlying4
  a4 := Tryz.isAgg4
  z4 := Tryz.sizeOf4
  v4 := Tryz.zeroValue4
  t20 := Tryz.underlying20
  a20 := Tryz.isAgg20
  z20 := Tryz.sizeOf20
  v20 := Tryz.zeroValue20
  t23 := Tryz.underlying91
  a23 := Tryz.isAgg91
  z23 := Tryz.sizeOf91
  v23 := Tryz.zeroValue91 }
def Tryz.copyE_ren : Go.Shelf.Ren := ⟨fun | 5 => 41 | n => n, fun | 23 => 91 | 24 => 91 | 26 => 9 | 27 => 2 | 0 => 0 | 4 => 4 | n => n, fun | n => n⟩
theorem Tryz.copyE : Go.Proofs.SlLaysX.n5 Tryz.prog Tryz.copyE_ren := {
  mixed := by kernel_rfl
  f5 := ⟨Tryz.f41.name, by decide, Tryz.func41.trans (congrArg some (by kernel_rfl))⟩
  t0 := Tryz.underlying0
  a0 := Tryz.isAgg0
  z0 := Tryz.sizeOf0
  v0 := Tryz.zeroValue0
  t4 := Tryz.underlying4
  a4 := Tryz.isAgg4
  z4 := Tryz.sizeOf4
  v4 := Tryz.zeroValue4
  t23 := Tryz.underlying91
  a23 := Tryz.isAgg91
  z23 := Tryz.sizeOf91
  v23 := Tryz.zeroValue91
  t24 := Tryz.underlying91
  a24 := Tryz.isAgg91
  z24 := Tryz.sizeOf91
  v24 := Tryz.zeroValue91
  a26 := Tryz.isAgg9
  z26 := Tryz.sizeOf9
  a27 := Tryz.isAgg2
  z27 := Tryz.sizeOf2 }
end Go.Proofs
/- Plain mathematics of chapter 2: what is nothing, runs, marks, tokens of a list of bytes; no program. -/
namespace Go.Proofs.YtiihgnagjemikaaGreatDoor
namespace Lx

def blank (c : UInt8) : Bool := c == 32 || c == 9 || c == 10
def digit (c : UInt8) : Bool := decide (48 ≤ c.toNat) && decide (c.toNat ≤ 57)
def alpha (c : UInt8) : Bool := (decide (97 ≤ c.toNat) && decide (c.toNat ≤ 122)) || (decide (65 ≤ c.toNat) && decide (c.toNat ≤ 90)) || c == 95
def word (c : UInt8) : Bool := alpha c || digit c
def inl (c : UInt8) : Bool := c != 10

/-- how many bytes are nothing, from here on; true: inside a remark -/
def sk : Bool → List UInt8 → Nat
  | _, [] => 0
  | true, c :: r => if c == 10 then 1 + sk false r else 1 + sk true r
  | false, c :: r => if blank c then 1 + sk false r else if c == 35 then 1 + sk true r else 0

def wh (p : UInt8 → Bool) (u : List UInt8) : Nat := (u.takeWhile p).length

def marks : List (List UInt8) := [[45, 45, 62], [58, 61], [61, 61], [33, 61], [60, 61], [38, 38], [124, 124], [60], [43], [45], [42], [47], [37], [33], [40], [41], [123], [125], [59], [58], [44]]

def markIn : List (List UInt8) → List UInt8 → Nat
  | [], _ => 0
  | m :: r, u => if m.isPrefixOf u then m.length else markIn r u

def mk (u : List UInt8) : Nat := markIn marks u

/-- the kind of the token that stands here, and its length -/
def rd : List UInt8 → Nat × Nat
  | [] => (0, 0)
  | c :: r => if digit c then (2, wh digit (c :: r)) else if word c then (1, wh word (c :: r)) else if mk (c :: r) = 0 then (0, 0) else (3, mk (c :: r))

def flt (kind len n : Nat) : Nat := if kind = 0 then 3 else if kind = 2 ∧ 18 < len then 4 else if 600 ≤ n then 4 else 0

structure Tok where
  kind : Nat
  text : List UInt8
  place : Nat

/-- tokens are read, from a place on, up to another one -/
def Reads (u : List UInt8) (p : Nat) : List Tok → List UInt8 → Nat → Prop
  | [], u', p' => u' = u ∧ p' = p
  | t :: r, u', p' => u.drop (sk false u) ≠ [] ∧ t = ⟨(rd (u.drop (sk false u))).1, (u.drop (sk false u)).take (rd (u.drop (sk false u))).2, p + sk false u⟩ ∧
      (rd (u.drop (sk false u))).1 ≠ 0 ∧ ¬ ((rd (u.drop (sk false u))).1 = 2 ∧ 18 < (rd (u.drop (sk false u))).2) ∧
      Reads ((u.drop (sk false u)).drop (rd (u.drop (sk false u))).2) (p + sk false u + (rd (u.drop (sk false u))).2) r u' p'

theorem Reads_nil (u : List UInt8) (p : Nat) : Reads u p [] u p := ⟨rfl, rfl⟩

theorem Reads_append {l m : List Tok} : ∀ {u : List UInt8} {p : Nat} {u1 : List UInt8} {p1 : Nat} {u2 : List UInt8} {p2 : Nat}, Reads u p l u1 p1 → Reads u1 p1 m u2 p2 → Reads u p (l ++ m) u2 p2 := by
  induction l with
  | nil => intro u p u1 p1 u2 p2 h1 h2; obtain ⟨rfl, rfl⟩ := h1; exact h2
  | cons t r ih =>
    intro u p u1 p1 u2 p2 h1 h2
    obtain ⟨a, b, c, d, e⟩ := h1
    exact ⟨a, b, c, d, ih e h2⟩

theorem Reads_split {l m : List Tok} : ∀ {u : List UInt8} {p : Nat} {u2 : List UInt8} {p2 : Nat}, Reads u p (l ++ m) u2 p2 → ∃ u1 p1, Reads u p l u1 p1 ∧ Reads u1 p1 m u2 p2 := by
  induction l with
  | nil => intro u p u2 p2 h; exact ⟨u, p, ⟨rfl, rfl⟩, h⟩
  | cons t r ih =>
    intro u p u2 p2 h
    obtain ⟨a, b, c, d, e⟩ := h
    obtain ⟨u1, p1, h1, h2⟩ := ih e
    exact ⟨u1, p1, ⟨a, b, c, d, h1⟩, h2⟩

theorem Reads_det {l : List Tok} : ∀ {l' : List Tok} {u : List UInt8} {p : Nat} {u1 : List UInt8} {p1 : Nat} {u2 : List UInt8} {p2 : Nat}, Reads u p l u1 p1 → Reads u p l' u2 p2 → l.length ≤ l'.length → ∃ m, l' = l ++ m ∧ Reads u1 p1 m u2 p2 := by
  induction l with
  | nil => intro l' u p u1 p1 u2 p2 h1 h2 _; obtain ⟨rfl, rfl⟩ := h1; exact ⟨l', rfl, h2⟩
  | cons t r ih =>
    intro l' u p u1 p1 u2 p2 h1 h2 hl
    cases l' with
    | nil => simp at hl
    | cons t' r' =>
      obtain ⟨_, b, _, _, e⟩ := h1
      obtain ⟨_, b', _, _, e'⟩ := h2
      obtain ⟨m, rfl, hm⟩ := ih e e' (by simpa using hl)
      exact ⟨m, by rw [b, b']; rfl, hm⟩

/-- the tokens of a whole text -/
def Ok (s : List UInt8) (l : List Tok) : Prop := l.length ≤ 600 ∧ ∃ u p, Reads s 0 l u p ∧ u.drop (sk false u) = []
/-- there are none: what is wrong, and where -/
def Bad (s : List UInt8) (e q : Nat) : Prop := ∃ l u p, Reads s 0 l u p ∧ l.length ≤ 600 ∧ u.drop (sk false u) ≠ [] ∧ q = p + sk false u ∧ e = flt (rd (u.drop (sk false u))).1 (rd (u.drop (sk false u))).2 l.length ∧ e ≠ 0

theorem Ok_Ok {s : List UInt8} {l l' : List Tok} (h : Ok s l) (h' : Ok s l') : l = l' := by
  have key : ∀ {l l' : List Tok}, Ok s l → Ok s l' → l.length ≤ l'.length → l = l' := by
    intro l l' h h' hl
    obtain ⟨_, u, p, r, e⟩ := h
    obtain ⟨_, u', p', r', e'⟩ := h'
    obtain ⟨m, rfl, hm⟩ := Reads_det r r' hl
    cases m with
    | nil => simp
    | cons t m => exact absurd e hm.1
  rcases Nat.le_total l.length l'.length with hl | hl
  · exact key h h' hl
  · exact (key h' h hl).symm

theorem flt_ok {k len n : Nat} (h0 : k ≠ 0) (h1 : ¬ (k = 2 ∧ 18 < len)) (he : flt k len n ≠ 0) : 600 ≤ n := by
  unfold flt at he
  rw [if_neg h0, if_neg h1] at he
  by_cases h : 600 ≤ n
  · exact h
  · rw [if_neg h] at he; exact absurd rfl he

theorem Ok_Bad {s : List UInt8} {l : List Tok} {e q : Nat} (h : Ok s l) (h' : Bad s e q) : False := by
  obtain ⟨hn, u, p, r, hu⟩ := h
  obtain ⟨l', u', p', r', hn', hu', hq, he, he0⟩ := h'
  rcases Nat.le_total l.length l'.length with hl | hl
  · obtain ⟨m, rfl, hm⟩ := Reads_det r r' hl
    cases m with
    | nil => obtain ⟨rfl, rfl⟩ := hm; exact hu' hu
    | cons t m => exact hm.1 hu
  · obtain ⟨m, rfl, hm⟩ := Reads_det r' r hl
    cases m with
    | nil => obtain ⟨rfl, rfl⟩ := hm; exact hu' hu
    | cons t m =>
      have := flt_ok hm.2.2.1 hm.2.2.2.1 (by rw [← he]; exact he0)
      simp at hn; omega

theorem Bad_Bad {s : List UInt8} {e q e' q' : Nat} (h : Bad s e q) (h' : Bad s e' q') : e = e' ∧ q = q' := by
  have key : ∀ {e q e' q' : Nat} {l l' : List Tok} {u u' : List UInt8} {p p' : Nat}, Reads s 0 l u p → Reads s 0 l' u' p' → l.length ≤ l'.length → l'.length ≤ 600 → 
      q = p + sk false u → e = flt (rd (u.drop (sk false u))).1 (rd (u.drop (sk false u))).2 l.length → e ≠ 0 →
      q' = p' + sk false u' → e' = flt (rd (u'.drop (sk false u'))).1 (rd (u'.drop (sk false u'))).2 l'.length → e = e' ∧ q = q' := by
    intro e q e' q' l l' u u' p p' r r' hl hn hq he he0 hq' he'
    obtain ⟨m, rfl, hm⟩ := Reads_det r r' hl
    cases m with
    | nil => obtain ⟨rfl, rfl⟩ := hm; simp at he'; exact ⟨he.trans he'.symm, hq.trans hq'.symm⟩
    | cons t m =>
      have := flt_ok hm.2.2.1 hm.2.2.2.1 (by rw [← he]; exact he0)
      simp at hn; omega
  obtain ⟨l, u, p, r, hn, _, hq, he, he0⟩ := h
  obtain ⟨l', u', p', r', hn', _, hq', he', he0'⟩ := h'
  rcases Nat.le_total l.length l'.length with hl | hl
  · exact key r r' hl hn' hq he he0 hq' he'
  · obtain ⟨a, b⟩ := key r' r hl hn hq' he' he0' hq he
    exact ⟨a.symm, b.symm⟩

/- lengths -/
theorem sk_le : ∀ (b : Bool) (u : List UInt8), sk b u ≤ u.length := by
  intro b u
  induction u generalizing b with
  | nil => cases b <;> simp [sk]
  | cons c r ih =>
    have h1 := ih true; have h2 := ih false
    cases b <;> simp only [sk, List.length_cons] <;> repeat' split
    all_goals omega

theorem wh_le (p : UInt8 → Bool) (u : List UInt8) : wh p u ≤ u.length := List.Sublist.length_le (List.takeWhile_sublist p)

theorem wh_cons (p : UInt8 → Bool) (c : UInt8) (r : List UInt8) : wh p (c :: r) = if p c then 1 + wh p r else 0 := by
  unfold wh; rw [List.takeWhile_cons]; split <;> simp [Nat.add_comm]

theorem sk_true (u : List UInt8) : sk true u = wh inl u + sk false (u.drop (wh inl u)) := by
  induction u with
  | nil => simp [sk, wh]
  | cons c r ih =>
    rw [wh_cons]
    by_cases h : c = 10
    · subst h; simp [sk, inl, blank]
    · have hi : inl c = true := by simp [inl, h]
      rw [if_pos hi]
      have hd : List.drop (1 + wh inl r) (c :: r) = r.drop (wh inl r) := by rw [Nat.add_comm, List.drop_succ_cons]
      rw [hd]
      simp only [sk, beq_iff_eq, h, if_false]
      rw [ih]; omega

theorem markIn_le (M : List (List UInt8)) (u : List UInt8) : markIn M u ≤ u.length := by
  induction M with
  | nil => simp [markIn]
  | cons m r ih =>
    unfold markIn; split
    · exact List.IsPrefix.length_le (List.isPrefixOf_iff_prefix.1 ‹_›)
    · exact ih
theorem mk_le (u : List UInt8) : mk u ≤ u.length := markIn_le marks u

theorem rd_cons (c : UInt8) (r : List UInt8) : rd (c :: r) = if digit c then (2, wh digit (c :: r)) else if word c then (1, wh word (c :: r)) else if mk (c :: r) = 0 then (0, 0) else (3, mk (c :: r)) := rfl
theorem rd_le (u : List UInt8) : (rd u).2 ≤ u.length := by
  cases u with
  | nil => simp [rd]
  | cons c r =>
    rw [rd_cons]
    split
    · exact wh_le _ _
    · split
      · exact wh_le _ _
      · split
        · simp
        · exact mk_le _

theorem rd_pos (u : List UInt8) (h : (rd u).1 ≠ 0) : 0 < (rd u).2 := by
  cases u with
  | nil => simp [rd] at h
  | cons c r =>
    rw [rd_cons] at h ⊢
    split
    · rw [wh_cons, if_pos ‹_›]; show 0 < 1 + _; omega
    · rename_i h1
      rw [if_neg h1] at h
      split
      · rw [wh_cons, if_pos ‹_›]; show 0 < 1 + _; omega
      · rename_i h2
        rw [if_neg h2] at h
        split
        · rename_i h3; rw [if_pos h3] at h; exact absurd rfl h
        · show 0 < mk _; omega

theorem rd_kind (u : List UInt8) : (rd u).1 ≤ 3 := by
  cases u with
  | nil => simp [rd]
  | cons c r =>
    rw [rd_cons]
    split
    · simp
    · split
      · simp
      · split <;> simp

/- by places of a whole text -/
/-- where what is nothing ends that begins at a place -/
def skipTo (s : List UInt8) (k : Nat) : Nat := k + sk false (s.drop k)
def runTo (p : UInt8 → Bool) (s : List UInt8) (k : Nat) : Nat := k + wh p (s.drop k)

theorem runTo_yes {p : UInt8 → Bool} {s : List UInt8} {k : Nat} {c : UInt8} (h : s[k]? = some c) (hp : p c = true) : runTo p s k = runTo p s (k + 1) := by
  obtain ⟨hk, hc⟩ := List.getElem?_eq_some_iff.1 h
  unfold runTo; rw [List.drop_eq_getElem_cons hk, wh_cons, hc, if_pos hp]; omega
theorem runTo_no {p : UInt8 → Bool} {s : List UInt8} {k : Nat} {c : UInt8} (h : s[k]? = some c) (hp : p c = false) : runTo p s k = k := by
  obtain ⟨hk, hc⟩ := List.getElem?_eq_some_iff.1 h
  unfold runTo; rw [List.drop_eq_getElem_cons hk, wh_cons, hc, hp]; rfl
theorem runTo_end {p : UInt8 → Bool} {s : List UInt8} {k : Nat} (h : s.length ≤ k) : runTo p s k = k := by
  unfold runTo; rw [List.drop_eq_nil_of_le h]; rfl
theorem runTo_le {p : UInt8 → Bool} {s : List UInt8} {k : Nat} (h : k ≤ s.length) : k ≤ runTo p s k ∧ runTo p s k ≤ s.length := by
  have := wh_le p (s.drop k); simp only [List.length_drop] at this; unfold runTo; omega

theorem skipTo_blank {s : List UInt8} {k : Nat} {c : UInt8} (h : s[k]? = some c) (hp : blank c = true) : skipTo s k = skipTo s (k + 1) := by
  obtain ⟨hk, hc⟩ := List.getElem?_eq_some_iff.1 h
  unfold skipTo; rw [List.drop_eq_getElem_cons hk, hc, sk, if_pos hp]; omega
theorem skipTo_remark {s : List UInt8} {k : Nat} (h : s[k]? = some 35) : skipTo s k = skipTo s (runTo inl s k) := by
  obtain ⟨hk, hc⟩ := List.getElem?_eq_some_iff.1 h
  have e : runTo inl s k = k + 1 + wh inl (s.drop (k + 1)) := by
    unfold runTo; rw [List.drop_eq_getElem_cons hk, wh_cons, hc, if_pos (by decide)]; omega
  rw [e]
  unfold skipTo; rw [List.drop_eq_getElem_cons hk, hc, sk, if_neg (by decide), if_pos (by decide), sk_true, List.drop_drop]; omega
theorem skipTo_no {s : List UInt8} {k : Nat} {c : UInt8} (h : s[k]? = some c) (hp : blank c = false) (hq : c ≠ 35) : skipTo s k = k := by
  obtain ⟨hk, hc⟩ := List.getElem?_eq_some_iff.1 h
  unfold skipTo; rw [List.drop_eq_getElem_cons hk, hc, sk, hp, if_neg (by simp), if_neg (by simpa using hq)]; rfl
theorem skipTo_end {s : List UInt8} {k : Nat} (h : s.length ≤ k) : skipTo s k = k := by
  unfold skipTo; rw [List.drop_eq_nil_of_le h]; rfl
theorem skipTo_le {s : List UInt8} {k : Nat} (h : k ≤ s.length) : k ≤ skipTo s k ∧ skipTo s k ≤ s.length := by
  have := sk_le false (s.drop k); simp only [List.length_drop] at this; unfold skipTo; omega
/-- a remark's beginning goes on -/
theorem runTo_remark_lt {s : List UInt8} {k : Nat} (h : s[k]? = some 35) : k < runTo inl s k := by
  obtain ⟨hk, hc⟩ := List.getElem?_eq_some_iff.1 h
  unfold runTo; rw [List.drop_eq_getElem_cons hk, wh_cons, hc, if_pos (by decide)]; omega

/-- tokens read from the beginning of a text, up to a place -/
def To (s : List UInt8) (l : List Tok) (k : Nat) : Prop := k ≤ s.length ∧ Reads s 0 l (s.drop k) k
theorem To_zero (s : List UInt8) : To s [] 0 := ⟨Nat.zero_le _, rfl, rfl⟩
theorem To_snoc {s : List UInt8} {l : List Tok} {k a : Nat} (h : To s l k) (ha : a = skipTo s k) (hl : a < s.length) (h0 : (rd (s.drop a)).1 ≠ 0) (h1 : ¬ ((rd (s.drop a)).1 = 2 ∧ 18 < (rd (s.drop a)).2)) :
    To s (l ++ [⟨(rd (s.drop a)).1, (s.drop a).take (rd (s.drop a)).2, a⟩]) (a + (rd (s.drop a)).2) := by
  have hd : (s.drop k).drop (sk false (s.drop k)) = s.drop a := by rw [List.drop_drop, ha]; rfl
  have hr := rd_le (s.drop a); rw [List.length_drop] at hr
  refine ⟨by omega, Reads_append h.2 ?_⟩
  refine ⟨?_, ?_, ?_, ?_, ?_⟩
  · rw [hd]; intro e; have := congrArg List.length e; simp at this; omega
  · rw [hd, ha]; rfl
  · rw [hd]; exact h0
  · rw [hd]; exact h1
  · rw [hd, List.drop_drop]; exact ⟨rfl, by rw [ha]; rfl⟩
theorem To_Ok {s : List UInt8} {l : List Tok} {k : Nat} (h : To s l k) (hn : l.length ≤ 600) (ha : s.length ≤ skipTo s k) : Ok s l :=
  ⟨hn, _, _, h.2, by rw [List.drop_drop]; exact List.drop_eq_nil_of_le ha⟩
theorem To_Bad {s : List UInt8} {l : List Tok} {k a e : Nat} (h : To s l k) (hn : l.length ≤ 600) (ha : a = skipTo s k) (hl : a < s.length) (he : e = flt (rd (s.drop a)).1 (rd (s.drop a)).2 l.length) (h0 : e ≠ 0) : Bad s e a := by
  have hd : (s.drop k).drop (sk false (s.drop k)) = s.drop a := by rw [List.drop_drop, ha]; rfl
  refine ⟨l, _, _, h.2, hn, ?_, ha, ?_, h0⟩
  · rw [hd]; intro e; have := congrArg List.length e; simp at this; omega
  · rw [hd]; exact he
end Lx
end Go.Proofs.YtiihgnagjemikaaGreatDoor
/- Plain mathematics of chapter 3: what a list of tokens draws; no program. -/
namespace Go.Proofs.YtiihgnagjemikaaGreatDoor
namespace Px
open Go.Deep (BT)

abbrev Str := List UInt8
structure Nd where
  code : Nat
  num : Int
  name : Str
abbrev E := BT Nd
def eNum (n : Int) : E := .node 0 0 ⟨1, n, []⟩ .nil .nil
def eName (c : Nat) (s : Str) : E := .node 0 0 ⟨c, 0, s⟩ .nil .nil
def eOne (c : Nat) (e : E) : E := .node 0 0 ⟨c, 0, []⟩ e .nil
def eTwo (c : Nat) (l r : E) : E := .node 0 0 ⟨c, 0, []⟩ l r

structure Asg where
  name : Str
  e : E
structure Wy where
  kind : Nat
  now : Bool
  cond : E
  times : Nat
  sets : List Asg
  to : Str
  back : Bool
structure StF (ρ : Type) where
  name : Str
  first : Bool
  last : Bool
  enter : List Asg
  during : List Asg
  leave : List Asg
  rests : E
  ways : List Wy
  regions : List (List ρ)
/-- a state that stands where so many depths are left -/
def St : Nat → Type
  | 0 => Unit
  | k + 1 => StF (St k)
structure Decl where
  kind : Nat
  name : Str
  first : Int
structure Chart where
  name : Str
  vars : List Decl
  regions : List (List (St 6))

def kChart : Str := [99, 104, 97, 114, 116]
def kOpen : Str := [123]
def kShut : Str := [125]
def kSemi : Str := [59]
def kColEq : Str := [58, 61]
def kMinus : Str := [45]
def kNot : Str := [33]
def kPar : Str := [40]
def kRap : Str := [41]
def kComma : Str := [44]
def kArrow : Str := [45, 45, 62]
def kRegion : Str := [114, 101, 103, 105, 111, 110]
def kInitial : Str := [105, 110, 105, 116, 105, 97, 108]
def kFinal : Str := [102, 105, 110, 97, 108]
def kState : Str := [115, 116, 97, 116, 101]
def kEntry : Str := [101, 110, 116, 114, 121]
def kDuring : Str := [100, 117, 114, 105, 110, 103]
def kExit : Str := [101, 120, 105, 116]
def kSuspend : Str := [115, 117, 115, 112, 101, 110, 100]
def kGo : Str := [103, 111]
def kAbort : Str := [97, 98, 111, 114, 116]
def kJoin : Str := [106, 111, 105, 110]
def kImm : Str := [105, 109, 109, 101, 100, 105, 97, 116, 101]
def kIf : Str := [105, 102]
def kCount : Str := [99, 111, 117, 110, 116]
def kDo : Str := [100, 111]
def kHist : Str := [104, 105, 115, 116, 111, 114, 121]
def kPre : Str := [112, 114, 101]
def kInput : Str := [105, 110, 112, 117, 116]
def kOutput : Str := [111, 117, 116, 112, 117, 116]
def kVar : Str := [118, 97, 114]
def words : List Str := [[97, 98, 111, 114, 116], [99, 104, 97, 114, 116], [99, 111, 117, 110, 116], [100, 111], [100, 117, 114, 105, 110, 103], [101, 110, 116, 114, 121], [101, 120, 105, 116], [102, 105, 110, 97, 108], [103, 111], [104, 105, 115, 116, 111, 114, 121], [105, 109, 109, 101, 100, 105, 97, 116, 101], [105, 102], [105, 110, 105, 116, 105, 97, 108], [105, 110, 112, 117, 116], [106, 111, 105, 110], [111, 117, 116, 112, 117, 116], [112, 114, 101], [114, 101, 103, 105, 111, 110], [115, 116, 97, 116, 101], [115, 117, 115, 112, 101, 110, 100], [118, 97, 114]]
def kw (s : Str) : Bool := words.any (· == s)
def signs : List (List (Str × Nat)) := [[([124, 124], 16)], [([38, 38], 15)], [([61, 61], 11), ([33, 61], 12), ([60], 13), ([60, 61], 14)], [([43], 6), ([45], 7)], [([42], 8), ([47], 9), ([37], 10)]]
/-- the code of a sign in a row; 0: none -/
def codeIn : List (Str × Nat) → Str → Nat
  | [], _ => 0
  | (t, c) :: r, s => if t = s then c else codeIn r s
/-- the code of a sign between two that binds so tightly -/
def codeAt (tight : Nat) (s : Str) : Nat := codeIn (signs.getD tight []) s
def codeAhead (s : Str) : Nat := if s = kMinus then 4 else if s = kNot then 5 else 0
def kindOf (s : Str) : Nat := if s = kInput then 1 else if s = kOutput then 2 else if s = kVar then 3 else 0
def leadOf (s : Str) : Option Nat := if s = kGo then some 0 else if s = kAbort then some 1 else if s = kJoin then some 2 else none
def val (s : Str) : Nat := s.foldl (fun n c => n * 10 + (c.toNat - 48)) 0

abbrev F := Nat × Nat
section
variable (L : List Lx.Tok)
def tok (i : Nat) : Lx.Tok := L.getD i ⟨4, [], 0⟩
def tx (i : Nat) : Str := (tok L i).text
def kd (i : Nat) : Nat := (tok L i).kind
def pl (i : Nat) : Nat := (tok L i).place

def nm (i : Nat) : Except F Str := if kd L i ≠ 1 ∨ kw (tx L i) = true then .error (3, pl L i) else if 12 < (tx L i).length then .error (4, pl L i) else .ok (tx L i)
def need (s : Str) (i : Nat) : Except F Unit := if tx L i = s then .ok () else .error (3, pl L i)
def number (i : Nat) : Except F Nat := if kd L i = 2 then .ok (val (tx L i)) else .error (3, pl L i)

/-- what stands between signs, from the left, behind the first one -/
def chainF (below : Nat → Except F (E × Nat)) (code : Str → Nat) : Nat → E → Nat → Except F (E × Nat)
  | 0, e, i => .ok (e, i)
  | f + 1, e, i =>
    if code (tx L i) = 0 then .ok (e, i)
    else match below (i + 1) with
      | .error x => .error x
      | .ok (r, j) => chainF below code f (eTwo (code (tx L i)) e r) j
def chain (below : Nat → Except F (E × Nat)) (code : Str → Nat) (i : Nat) : Except F (E × Nat) :=
  match below i with
  | .error x => .error x
  | .ok (e, j) => chainF L below code L.length e j
/-- so many lines of 3.1 above a ONE -/
def lev (one : Nat → Except F (E × Nat)) : Nat → Nat → Except F (E × Nat)
  | 0 => one
  | t + 1 => chain L (lev one t) (codeAt (4 - t))
def one : Nat → Nat → Except F (E × Nat)
  | 0, i => .error (4, pl L i)
  | k + 1, i =>
    if codeAhead (tx L i) ≠ 0 then
      match one k (i + 1) with
      | .error x => .error x
      | .ok (e, j) => .ok (eOne (codeAhead (tx L i)) e, j)
    else if tx L i = kPar then
      match lev L (one k) 5 (i + 1) with
      | .error x => .error x
      | .ok (e, j) => if tx L j = kRap then .ok (e, j + 1) else .error (3, pl L j)
    else if tx L i = kPre then
      if tx L (i + 1) = kPar then
        match nm L (i + 2) with
        | .error x => .error x
        | .ok s => if tx L (i + 3) = kRap then .ok (eName 3 s, i + 4) else .error (3, pl L (i + 3))
      else .error (3, pl L (i + 1))
    else if kd L i = 2 then .ok (eNum (val (tx L i)), i + 1)
    else match nm L i with
      | .error x => .error x
      | .ok s => .ok (eName 2 s, i + 1)
def expr (i : Nat) : Except F (E × Nat) := lev L (one L 7) 5 i

def sets : Nat → List Asg → Nat → Except F (List Asg × Nat)
  | 0, l, i => .ok (l, i)
  | f + 1, l, i =>
    match nm L i with
    | .error x => .error x
    | .ok s =>
      if tx L (i + 1) = kColEq then
        match expr L (i + 2) with
        | .error x => .error x
        | .ok (e, j) => if tx L j = kComma then sets f (l ++ [⟨s, e⟩]) (j + 1) else .ok (l ++ [⟨s, e⟩], j)
      else .error (3, pl L (i + 1))

def times (i : Nat) : Except F Nat :=
  match number L i with
  | .error x => .error x
  | .ok n => if n < 1 ∨ 1000 < n then .error (4, pl L i) else .ok n
/-- [if [count N] E] -/
def cond (i : Nat) : Except F (Nat × E × Nat) :=
  if tx L i = kIf then
    if tx L (i + 1) = kCount then
      match times L (i + 2) with
      | .error x => .error x
      | .ok n =>
        match expr L (i + 3) with
        | .error x => .error x
        | .ok (e, j) => .ok (n, e, j)
    else
      match expr L (i + 1) with
      | .error x => .error x
      | .ok (e, j) => .ok (1, e, j)
  else .ok (1, .nil, i)
/-- [do SETS] -/
def does (i : Nat) : Except F (List Asg × Nat) := if tx L i = kDo then sets L L.length [] (i + 1) else .ok ([], i)
def opt (s : Str) (i : Nat) : Nat := if tx L i = s then i + 1 else i
def way (kind i : Nat) : Except F (Wy × Nat) :=
  match cond L (opt L kImm i) with
  | .error x => .error x
  | .ok (n, e, j) =>
    match does L j with
    | .error x => .error x
    | .ok (l, m) =>
      if tx L m = kArrow then
        match nm L (m + 1) with
        | .error x => .error x
        | .ok s =>
          if tx L (opt L kHist (m + 2)) = kSemi then .ok (⟨kind, decide (tx L i = kImm), e, n, l, s, decide (tx L (m + 2) = kHist)⟩, opt L kHist (m + 2) + 1)
          else .error (3, pl L (opt L kHist (m + 2)))
      else .error (3, pl L m)

/-- one part of a state that ends with ; -/
def semi (i : Nat) : Except F Nat := if tx L i = kSemi then .ok (i + 1) else .error (3, pl L i)
section
variable (ρ : Type) (region : Nat → Nat → Except F (List ρ × Nat × Nat))
/-- one part of a state; none: none stands there; how many states there are so far, the place -/
def part (s : StF ρ) (c i : Nat) : Except F (Option (StF ρ × Nat × Nat)) :=
  match leadOf (tx L i) with
  | some k =>
    match way L k (i + 1) with
    | .error x => .error x
    | .ok (y, j) => .ok (some ({ s with ways := s.ways ++ [y] }, c, j))
  | none =>
    if tx L i = kRegion then
      match region c (i + 1) with
      | .error x => .error x
      | .ok (l, c', j) => .ok (some ({ s with regions := s.regions ++ [l] }, c', j))
    else if tx L i = kEntry then
      match sets L L.length [] (i + 1) with
      | .error x => .error x
      | .ok (l, j) => match semi L j with
        | .error x => .error x
        | .ok m => .ok (some ({ s with enter := s.enter ++ l }, c, m))
    else if tx L i = kDuring then
      match sets L L.length [] (i + 1) with
      | .error x => .error x
      | .ok (l, j) => match semi L j with
        | .error x => .error x
        | .ok m => .ok (some ({ s with during := s.during ++ l }, c, m))
    else if tx L i = kExit then
      match sets L L.length [] (i + 1) with
      | .error x => .error x
      | .ok (l, j) => match semi L j with
        | .error x => .error x
        | .ok m => .ok (some ({ s with leave := s.leave ++ l }, c, m))
    else if tx L i = kSuspend then
      match s.rests with
      | .nil =>
        match expr L (i + 1) with
        | .error x => .error x
        | .ok (e, j) => match semi L j with
          | .error x => .error x
          | .ok m => .ok (some ({ s with rests := e }, c, m))
      | .node _ _ _ _ _ => .error (9, pl L (i + 1))
    else .ok none
def parts : Nat → StF ρ → Nat → Nat → Except F (StF ρ × Nat × Nat)
  | 0, s, c, i => .ok (s, c, i)
  | f + 1, s, c, i =>
    match part L ρ region s c i with
    | .error x => .error x
    | .ok none => if tx L i = kShut then .ok (s, c, i + 1) else .error (3, pl L i)
    | .ok (some (s', c', j)) => parts f s' c' j
/-- a state, behind initial and final -/
def state (fi la : Bool) (c i : Nat) : Except F (StF ρ × Nat × Nat) :=
  if tx L i = kState then
    if 24 ≤ c then .error (4, pl L (i + 1))
    else match nm L (i + 1) with
      | .error x => .error x
      | .ok s =>
        if tx L (i + 2) = kSemi then .ok (⟨s, fi, la, [], [], [], .nil, [], []⟩, c + 1, i + 3)
        else if tx L (i + 2) = kOpen then parts L ρ region L.length ⟨s, fi, la, [], [], [], .nil, [], []⟩ (c + 1) (i + 3)
        else .error (3, pl L (i + 2))
  else .error (3, pl L i)
def states : Nat → List (StF ρ) → Nat → Nat → Except F (List (StF ρ) × Nat × Nat)
  | 0, l, c, i => .ok (l, c, i)
  | f + 1, l, c, i =>
    if tx L i = kInitial ∨ tx L i = kFinal ∨ tx L i = kState then
      match state L ρ region (decide (tx L i = kInitial)) (decide (tx L (opt L kInitial i) = kFinal)) c (opt L kFinal (opt L kInitial i)) with
      | .error x => .error x
      | .ok (s, c', j) => states f (l ++ [s]) c' j
    else if tx L i = kShut then .ok (l, c, i + 1)
    else .error (3, pl L i)
end
/-- the states of a region, behind the word for it; where so many depths are left -/
def region : (k : Nat) → Nat → Nat → Except F (List (St k) × Nat × Nat)
  | 0, _, i => .error (4, pl L i)
  | k + 1, c, i => if tx L i = kOpen then states L (St k) (region k) L.length [] c (i + 1) else .error (3, pl L i)

def first (i : Nat) : Except F (Int × Nat) :=
  if tx L i = kColEq then
    if tx L (i + 1) = kMinus then
      match number L (i + 2) with
      | .error x => .error x
      | .ok n => .ok (-(n : Int), i + 3)
    else
      match number L (i + 1) with
      | .error x => .error x
      | .ok n => .ok ((n : Int), i + 2)
  else .ok (0, i)
def variable_ (kind i : Nat) : Except F (Decl × Nat) :=
  match nm L i with
  | .error x => .error x
  | .ok s =>
    match first L (i + 1) with
    | .error x => .error x
    | .ok (n, j) => if tx L j = kSemi then .ok (⟨kind, s, n⟩, j + 1) else .error (3, pl L j)
/-- variables and regions; how many states there are so far -/
def items : Nat → List Decl → List (List (St 6)) → Nat → Nat → Except F (List Decl × List (List (St 6)) × Nat)
  | 0, vs, rs, _, i => .ok (vs, rs, i)
  | f + 1, vs, rs, c, i =>
    if kindOf (tx L i) ≠ 0 then
      if 20 ≤ vs.length then .error (4, pl L (i + 1))
      else match variable_ L (kindOf (tx L i)) (i + 1) with
        | .error x => .error x
        | .ok (v, j) => items f (vs ++ [v]) rs c j
    else if tx L i = kRegion then
      match region L 6 c (i + 1) with
      | .error x => .error x
      | .ok (l, c', j) => items f vs (rs ++ [l]) c' j
    else if tx L i = kShut then .ok (vs, rs, i + 1)
    else .error (3, pl L i)
def chart : Except F Chart :=
  if tx L 0 = kChart then
    match nm L 1 with
    | .error x => .error x
    | .ok s =>
      if tx L 2 = kOpen then
        match items L L.length [] [] 0 3 with
        | .error x => .error x
        | .ok (vs, rs, i) => if kd L i = 4 then .ok ⟨s, vs, rs⟩ else .error (3, pl L i)
      else .error (3, pl L 2)
  else .error (3, pl L 0)
end
end Px
end Go.Proofs.YtiihgnagjemikaaGreatDoor
/- How what a text draws lies in memory. -/
namespace Go.Proofs.YtiihgnagjemikaaGreatDoor
open Go.RowKit Go.Deep Px

def sv (s : Str) : Value := .string ⟨s.toArray⟩

/-- what lies in blocks of those, lies there still, in blocks of these -/
def Keep (A A' : Nat → Prop) (w w' : World) : Prop := ∀ b, A b → b < w.heap.size → A' b ∧ w'.heap[b]? = w.heap[b]?
theorem Keep.trans {A A' A'' : Nat → Prop} {w w' w'' : World} (h : Keep A A' w w') (k : Keep A' A'' w' w'') (hs : w.heap.size ≤ w'.heap.size) : Keep A A'' w w'' := fun b ha hb =>
  ⟨(k b (h b ha hb).1 (by omega)).1, (k b (h b ha hb).1 (by omega)).2.trans (h b ha hb).2⟩
theorem lt_of_block {w : World} {b : Nat} {o : Obj} (h : w.heap[b]? = some o) : b < w.heap.size := (Array.getElem?_eq_some_iff.1 h).1

/-- a row of one's own, in a block of those -/
def Row (A : Nat → Prop) (w : World) (e size : Nat) (v : Value) (n : Nat) (xs : List Value) : Prop := w.ownsRow 0 e size v n xs ∧ ∀ g, v.ownBlock = some g → A g
theorem own_keep {A A' : Nat → Prop} {w w' : World} {B e size n : Nat} {v : Value} {xs : List Value} (h : w.ownsRow B e size v n xs) (ha : ∀ g, v.ownBlock = some g → A g) (k : Keep A A' w w') : w'.ownsRow B e size v n xs := by
  refine ⟨h.1, ?_⟩
  rcases h.2 with hn | ⟨g, cap, cur, rfl, hb, hgg, rest⟩
  · exact .inl hn
  · exact .inr ⟨g, cap, cur, rfl, hb, by rw [(k g (ha g rfl) (lt_of_block hgg)).2]; exact hgg, rest⟩
theorem Row.carry {A A' : Nat → Prop} {w w' : World} {e size n : Nat} {v : Value} {xs : List Value} (h : Row A w e size v n xs) (k : Keep A A' w w') : Row A' w' e size v n xs :=
  ⟨own_keep h.1 h.2 k, fun g hg => (k g (h.2 g hg) (h.1.lt g hg).2).1⟩
theorem own_base0 {w : World} {B e size n : Nat} {v : Value} {xs : List Value} (h : w.ownsRow B e size v n xs) : w.ownsRow 0 e size v n xs := by
  refine ⟨h.1, ?_⟩
  rcases h.2 with hn | ⟨g, cap, cur, rfl, _, rest⟩
  · exact .inl hn
  · exact .inr ⟨g, cap, cur, rfl, Nat.zero_le _, rest⟩

/-- records one behind the other -/
def Rows {α : Type} (R : α → List Value → Prop) : List α → List Value → Prop
  | [], xs => xs = []
  | a :: r, xs => ∃ c ys, xs = c ++ ys ∧ R a c ∧ Rows R r ys
theorem Rows.append {α : Type} {R : α → List Value → Prop} : ∀ {l m : List α} {xs ys : List Value}, Rows R l xs → Rows R m ys → Rows R (l ++ m) (xs ++ ys) := by
  intro l
  induction l with
  | nil => intro m xs ys h k; obtain rfl : xs = [] := h; exact k
  | cons a r ih =>
    intro m xs ys h k
    obtain ⟨c, zs, rfl, hc, hr⟩ := h
    exact ⟨c, zs ++ ys, by rw [List.append_assoc], hc, ih hr k⟩
theorem Rows.one {α : Type} {R : α → List Value → Prop} {a : α} {c : List Value} (h : R a c) : Rows R [a] c := ⟨c, [], by simp, h, rfl⟩
theorem Rows.map {α : Type} {R R' : α → List Value → Prop} (hR : ∀ a c, R a c → R' a c) : ∀ {l : List α} {xs : List Value}, Rows R l xs → Rows R' l xs := by
  intro l
  induction l with
  | nil => intro xs h; exact h
  | cons a r ih => intro xs h; obtain ⟨c, ys, rfl, hc, hr⟩ := h; exact ⟨c, ys, rfl, hR _ _ hc, ih hr⟩
theorem Rows.get {α : Type} {R : α → List Value → Prop} {k : Nat} (hk : ∀ a c, R a c → c.length = k) : ∀ {l : List α} {xs : List Value}, Rows R l xs → ∀ (i : Nat) (a : α), l[i]? = some a → ∃ c, R a c ∧ ∀ (j : Nat) (u : Value), c[j]? = some u → xs[i * k + j]? = some u := by
  intro l
  induction l with
  | nil => intro xs _ i a h; simp at h
  | cons x r ih =>
    intro xs h i a hi
    obtain ⟨c, ys, rfl, hc, hr⟩ := h
    have hl := hk _ _ hc
    cases i with
    | zero =>
      obtain rfl : x = a := by simpa using hi
      refine ⟨c, hc, fun j u hj => ?_⟩
      have hlt := (List.getElem?_eq_some_iff.1 hj).1
      rw [Nat.zero_mul, Nat.zero_add, List.getElem?_append_left hlt]; exact hj
    | succ i =>
      obtain ⟨d, hd, hg⟩ := ih hr i a (by simpa using hi)
      refine ⟨d, hd, fun j u hj => ?_⟩
      have e : (i + 1) * k + j = c.length + (i * k + j) := by rw [Nat.add_mul, hl]; omega
      rw [e, List.getElem?_append_right (by omega), Nat.add_sub_cancel_left]; exact hg j u hj

def IsE (A : Nat → Prop) (w : World) : E → Value → Prop
  | .nil, v => v = .pointer none
  | .node _ _ a l r, v => ∃ g lv rv, v = .pointer (some ⟨g, 0, none⟩) ∧ A g ∧ w.heap[g]? = some (.cells #[.int .i64 a.code, .int .i64 a.num, sv a.name, lv, rv] 222 (0, 0)) ∧ IsE A w l lv ∧ IsE A w r rv
theorem IsE.carry {A A' : Nat → Prop} {w w' : World} (k : Keep A A' w w') : ∀ {e : E} {v : Value}, IsE A w e v → IsE A' w' e v := by
  intro e
  induction e with
  | nil => intro v h; exact h
  | node b o a l r ihl ihr =>
    intro v h
    obtain ⟨g, lv, rv, rfl, ha, hg, hl, hr⟩ := h
    obtain ⟨ha', hg'⟩ := k g ha (lt_of_block hg)
    exact ⟨g, lv, rv, rfl, ha', by rw [hg']; exact hg, ihl hl, ihr hr⟩

def SetC (A : Nat → Prop) (w : World) (a : Asg) (c : List Value) : Prop := ∃ p, c = [sv a.name, p] ∧ IsE A w a.e p
def IsSets (A : Nat → Prop) (w : World) (l : List Asg) (v : Value) : Prop := ∃ xs, Row A w 203 2 v l.length xs ∧ Rows (SetC A w) l xs
def WayC (A : Nat → Prop) (w : World) (a : Wy) (c : List Value) : Prop :=
  ∃ p q, c = [.int .i64 a.kind, .bool a.now, p, .int .i64 a.times, q, sv a.to, .bool a.back] ∧ IsE A w a.cond p ∧ IsSets A w a.sets q
def IsWays (A : Nat → Prop) (w : World) (l : List Wy) (v : Value) : Prop := ∃ xs, Row A w 180 7 v l.length xs ∧ Rows (WayC A w) l xs
def RegC {ρ : Type} (IsReg : List ρ → Value → Prop) (r : List ρ) (c : List Value) : Prop := ∃ u, c = [u] ∧ IsReg r u
def IsRegs {ρ : Type} (A : Nat → Prop) (w : World) (IsReg : List ρ → Value → Prop) (l : List (List ρ)) (v : Value) : Prop := ∃ xs, Row A w 133 1 v l.length xs ∧ Rows (RegC IsReg) l xs
def StC {ρ : Type} (A : Nat → Prop) (w : World) (IsReg : List ρ → Value → Prop) (s : StF ρ) (c : List Value) : Prop :=
  ∃ e d l p y r, c = [sv s.name, .bool s.first, .bool s.last, e, d, l, p, y, r] ∧ IsSets A w s.enter e ∧ IsSets A w s.during d ∧ IsSets A w s.leave l ∧ IsE A w s.rests p ∧ IsWays A w s.ways y ∧ IsRegs A w IsReg s.regions r
def IsStates (A : Nat → Prop) (w : World) : (k : Nat) → List (St k) → Value → Prop
  | 0 => fun l v => l = [] ∧ v = .slice none 0 0
  | k + 1 => fun l v => ∃ xs, Row A w 169 9 v l.length xs ∧ Rows (StC A w (IsStates A w k)) l xs
def DeclC (a : Decl) (c : List Value) : Prop := c = [.int .i64 a.kind, sv a.name, .int .i64 a.first]
def IsVars (A : Nat → Prop) (w : World) (l : List Decl) (v : Value) : Prop := ∃ xs, Row A w 86 3 v l.length xs ∧ Rows DeclC l xs

section
variable {A A' : Nat → Prop} {w w' : World}
theorem SetC.carry (k : Keep A A' w w') (a : Asg) (c : List Value) (h : SetC A w a c) : SetC A' w' a c := by
  obtain ⟨p, rfl, hp⟩ := h; exact ⟨p, rfl, hp.carry k⟩
theorem IsSets.carry (k : Keep A A' w w') {l : List Asg} {v : Value} (h : IsSets A w l v) : IsSets A' w' l v := by
  obtain ⟨xs, hr, hs⟩ := h; exact ⟨xs, hr.carry k, hs.map (SetC.carry k)⟩
theorem WayC.carry (k : Keep A A' w w') (a : Wy) (c : List Value) (h : WayC A w a c) : WayC A' w' a c := by
  obtain ⟨p, q, rfl, hp, hq⟩ := h; exact ⟨p, q, rfl, hp.carry k, hq.carry k⟩
theorem IsWays.carry (k : Keep A A' w w') {l : List Wy} {v : Value} (h : IsWays A w l v) : IsWays A' w' l v := by
  obtain ⟨xs, hr, hs⟩ := h; exact ⟨xs, hr.carry k, hs.map (WayC.carry k)⟩
theorem IsRegs.carry {ρ : Type} {I I' : List ρ → Value → Prop} (k : Keep A A' w w') (hI : ∀ l v, I l v → I' l v) {l : List (List ρ)} {v : Value} (h : IsRegs A w I l v) : IsRegs A' w' I' l v := by
  obtain ⟨xs, hr, hs⟩ := h; exact ⟨xs, hr.carry k, hs.map (fun a c ⟨u, hc, hu⟩ => ⟨u, hc, hI _ _ hu⟩)⟩
theorem StC.carry {ρ : Type} {I I' : List ρ → Value → Prop} (k : Keep A A' w w') (hI : ∀ l v, I l v → I' l v) (s : StF ρ) (c : List Value) (h : StC A w I s c) : StC A' w' I' s c := by
  obtain ⟨e, d, l, p, y, r, rfl, h1, h2, h3, h4, h5, h6⟩ := h
  exact ⟨e, d, l, p, y, r, rfl, h1.carry k, h2.carry k, h3.carry k, h4.carry k, h5.carry k, h6.carry k hI⟩
theorem IsStates.carry (k : Keep A A' w w') : ∀ (n : Nat) (l : List (St n)) (v : Value), IsStates A w n l v → IsStates A' w' n l v := by
  intro n
  induction n with
  | zero => intro l v h; exact h
  | succ n ih => intro l v h; obtain ⟨xs, hr, hs⟩ := h; exact ⟨xs, hr.carry k, hs.map (StC.carry k ih)⟩
theorem IsVars.carry (k : Keep A A' w w') {l : List Decl} {v : Value} (h : IsVars A w l v) : IsVars A' w' l v := by
  obtain ⟨xs, hr, hs⟩ := h; exact ⟨xs, hr.carry k, hs⟩
end

/-- all old blocks below B but those of X are as they were -/
structure Fr (B : Nat) (X : List Nat) (w w' : World) : Prop where
  os : w'.os = w.os
  tape : w'.tape = w.tape
  output : w'.output = w.output
  size : w.heap.size ≤ w'.heap.size
  block : ∀ k, k < B → k ∉ X → w'.heap[k]? = w.heap[k]?
theorem Fr.refl (B : Nat) (X : List Nat) (w : World) : Fr B X w w := ⟨rfl, rfl, rfl, Nat.le_refl _, fun _ _ _ => rfl⟩
theorem Fr.trans {B : Nat} {X : List Nat} {a b c : World} (h : Fr B X a b) (k : Fr B X b c) : Fr B X a c :=
  ⟨k.os.trans h.os, k.tape.trans h.tape, k.output.trans h.output, Nat.le_trans h.size k.size, fun i hi hx => (k.block i hi hx).trans (h.block i hi hx)⟩
theorem Fr.mono {B B' : Nat} {X X' : List Nat} {w w' : World} (h : Fr B X w w') (hB : B' ≤ B) (hX : ∀ x ∈ X, x < B' → x ∈ X') : Fr B' X' w w' :=
  ⟨h.os, h.tape, h.output, h.size, fun k hk hx => h.block k (by omega) (fun hm => hx (hX k hm hk))⟩
theorem Fr.of_below {B : Nat} {w w' : World} (h : Below B w w') (X : List Nat) : Fr B X w w' := ⟨h.os, h.tape, h.output, h.size, fun k hk _ => h.block k hk⟩
theorem Fr.below {B : Nat} {w w' : World} (h : Fr B [] w w') : Below B w w' := ⟨h.os, h.tape, h.output, h.size, fun k hk => h.block k hk (by simp)⟩
theorem Fr.alloc {B : Nat} {X : List Nat} {a w : World} (h : Fr B X a w) (hB : B ≤ w.heap.size) (o : Obj) : Fr B X a (w.alloc o) :=
  h.trans ⟨rfl, rfl, rfl, by simp, fun k hk _ => Below.heap_alloc _ _ _ (by omega)⟩
theorem Fr.setCell {B : Nat} {X : List Nat} {a w : World} (h : Fr B X a w) {p : Addr} (hp : B ≤ p.block ∨ p.block ∈ X) (u : Value) : Fr B X a (w.setCell p u) :=
  h.trans ⟨rfl, rfl, rfl, by simp [World.setCell], fun k hk hx => Below.heap_setCell _ _ _ _ (fun e => by rcases hp with hp | hp; omega; exact hx (e ▸ hp))⟩
theorem Fr.drew {B : Nat} {X : List Nat} {a w : World} (h : Fr B X a w) : Fr B X a w.drew := ⟨h.os, h.tape, h.output, h.size, h.block⟩
theorem Fr.drewN {B : Nat} {X : List Nat} {a w : World} (h : Fr B X a w) (n : Nat) : Fr B X a (w.drewN n) := h.trans ⟨rfl, rfl, rfl, Nat.le_refl _, fun _ _ _ => rfl⟩
theorem Fr.grown {B : Nat} {X : List Nat} {a w w' : World} {row : Option Nat} (h : Fr B X a w) (hg : w.grownBy w' row) (hB : B ≤ w.heap.size) (hr : ∀ k, row = some k → B ≤ k ∨ k ∈ X) : Fr B X a w' :=
  h.trans ⟨hg.os, hg.tape, hg.output, hg.size, fun k hk hx => hg.block k (by omega) (fun e => by rcases hr k e.symm with h | h; omega; exact hx h)⟩
theorem Fr.cell {B : Nat} {X : List Nat} {w w' : World} (h : Fr B X w w') {p : Addr} (hp : p.block < B) (hx : p.block ∉ X) : w'.cell? p = w.cell? p := World.cell?_of_block (w := w) (h.block p.block hp hx)
/-- what lies above x, outside X, stays -/
theorem Fr.keep {X : List Nat} {w w' : World} {A : Nat → Prop} (h : Fr w.heap.size X w w') (hA : ∀ b, A b → b ∉ X) : Keep A A w w' := fun b ha hb => ⟨ha, h.block b hb (hA b ha)⟩
end Go.Proofs.YtiihgnagjemikaaGreatDoor
