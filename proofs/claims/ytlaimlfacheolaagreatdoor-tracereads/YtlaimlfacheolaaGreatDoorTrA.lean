/- chapter 14, plain: lines, words, numbers. -/
import Derived.Lib.FieldsP
import Derived.Lib.SplitLaws
import Derived.Lib.CutLaws
import Derived.Lib.ParseIntBTie
import Derived.Lib.ItoaNum
import Derived.Lib.SpaceUEq
import Derived.Lib.FieldsLaws
namespace Go.Proofs.YtlaimlfacheolaaGreatDoor
namespace Tq
open Go.Lib
abbrev By := List UInt8
/-- cut at each c -/
def spl (c : UInt8) : By → By → List By
  | cur, [] => [cur]
  | cur, b :: t => if b = c then cur :: spl c [] t else spl c (cur ++ [b]) t
/-- words, with blanks between -/
def wl : By → By → List By
  | cur, [] => if cur = [] then [] else [cur]
  | cur, b :: t => if b = 32 then (if cur = [] then wl [] t else cur :: wl [] t) else wl (cur ++ [b]) t
/-- lines; a line feed at the end begins none -/
def lnL : By → By → List By
  | cur, [] => if cur = [] then [] else [cur]
  | cur, b :: t => if b = 10 then cur :: lnL [] t else lnL (cur ++ [b]) t
def wordsT (l : By) : List By := wl [] l
def linesT (l : By) : List By := lnL [] l
/-- what stands at the first c -/
theorem ix_one (c : UInt8) : ∀ l : By, (index l [c] = -1 ∧ c ∉ l) ∨ ∃ i : Nat, index l [c] = i ∧ l = l.take i ++ c :: l.drop (i + 1) ∧ c ∉ l.take i
  | [] => .inl ⟨rfl, by simp⟩
  | b :: t => by
    by_cases hb : b = c
    · subst hb
      exact .inr ⟨0, by rw [index]; simp [List.isPrefixOf], by simp, by simp⟩
    · have hp : ([c] : List UInt8).isPrefixOf (b :: t) = false := by simp [List.isPrefixOf, Ne.symm hb]
      have hix : index (b :: t) [c] = if index t [c] == -1 then -1 else index t [c] + 1 := by rw [index, hp]; simp
      rcases ix_one c t with ⟨h, hn⟩ | ⟨i, h, he, hn⟩
      · exact .inl ⟨by rw [hix, h]; rfl, by simp [hn, Ne.symm hb]⟩
      · refine .inr ⟨i + 1, ?_, ?_, ?_⟩
        · rw [hix, h, if_neg (by simp <;> omega)]; omega
        · simpa using he
        · simp [hn, Ne.symm hb]
theorem spl_no {c : UInt8} : ∀ (x cur : By), c ∉ x → spl c cur x = [cur ++ x]
  | [], cur, _ => by simp [spl]
  | b :: t, cur, h => by
    rw [spl, if_neg (fun e => h (by simp [e])), spl_no t _ (fun e => h (by simp [e]))]; simp
theorem spl_at {c : UInt8} : ∀ (x cur r : By), c ∉ x → spl c cur (x ++ c :: r) = (cur ++ x) :: spl c [] r
  | [], cur, r, _ => by simp [spl]
  | b :: t, cur, r, h => by
    rw [List.cons_append, spl, if_neg (fun e => h (by simp [e])), spl_at t _ r (fun e => h (by simp [e]))]; simp
theorem ln_no : ∀ (x cur : By), (10 : UInt8) ∉ x → lnL cur x = if cur ++ x = [] then [] else [cur ++ x]
  | [], cur, _ => by simp [lnL]
  | b :: t, cur, h => by
    rw [lnL, if_neg (fun e => h (by simp [e])), ln_no t _ (fun e => h (by simp [e]))]; simp
theorem ln_at : ∀ (x cur r : By), (10 : UInt8) ∉ x → lnL cur (x ++ 10 :: r) = (cur ++ x) :: lnL [] r
  | [], cur, r, _ => by simp [lnL]
  | b :: t, cur, r, h => by
    rw [List.cons_append, lnL, if_neg (fun e => h (by simp [e])), ln_at t _ r (fun e => h (by simp [e]))]; simp
/-- strings.Split at one byte -/
theorem split_spl (c : UInt8) : ∀ (n : Nat) (l : By), l.length ≤ n → splitK [c] 0 (count l [c]) l = spl c [] l
  | n, l, hl => by
    rcases ix_one c l with ⟨h, hn⟩ | ⟨i, h, he, hn⟩
    · rw [count_miss h, spl_no l [] hn]; rfl
    · have hi : i < l.length := by
        have := congrArg List.length he
        simp at this; omega
      rw [count_hit (by simp) h, show 1 + count (l.drop (i + [c].length)) [c] = count (l.drop (i + 1)) [c] + 1 by rw [Nat.add_comm]; rfl]
      rw [splitK, if_neg (by rw [h]; simp), h]
      cases n with
      | zero => omega
      | succ n =>
        have ih := split_spl c n (l.drop (i + 1)) (by simp <;> omega)
        conv => rhs; rw [he, spl_at _ _ _ hn]
        simp only [Int.toNat_natCast, Nat.add_zero, List.length_singleton, List.nil_append]
        rw [ih]
/-- the program's way through lines -/
theorem lines_cut {l : By} (hl : l ≠ []) : linesT l = (cut l [10]).1 :: linesT (cut l [10]).2.1 ∧ (cut l [10]).2.1.length < l.length := by
  have h0 : 0 < l.length := List.length_pos_iff.2 hl
  unfold linesT cut
  rcases ix_one 10 l with ⟨h, hn⟩ | ⟨i, h, he, hn⟩
  · rw [if_neg (by omega), ln_no l [] hn]
    simp only [List.nil_append, if_neg hl]
    exact ⟨by simp [lnL], h0⟩
  · rw [if_pos (by omega), h]
    refine ⟨?_, by simp; omega⟩
    conv => lhs; rw [he, ln_at _ _ _ hn]
    simp
theorem lines_nil : linesT [] = [] := by simp [linesT, lnL]
/-- without the last one, if that is empty -/
def dropE (l : List By) : List By := if l.getLast? = some [] then l.dropLast else l
theorem spl_ne (c : UInt8) : ∀ (s cur : By), spl c cur s ≠ []
  | [], cur => by simp [spl]
  | b :: t, cur => by
    rw [spl]; split
    · simp
    · exact spl_ne c t _
theorem ln_drop : ∀ (s cur : By), lnL cur s = dropE (spl 10 cur s)
  | [], cur => by
    by_cases h : cur = [] <;> simp [lnL, spl, dropE, h]
  | b :: t, cur => by
    rw [lnL, spl]
    split
    · have hne := spl_ne 10 t []
      rw [ln_drop t []]
      unfold dropE
      obtain ⟨x, y, e⟩ := List.exists_cons_of_ne_nil hne
      rw [e, List.getLast?_cons_cons]
      split
      · rw [List.dropLast_cons_cons]
      · rfl
    · exact ln_drop t _
theorem ln_nil : ∀ (s cur : By), lnL cur s = [] → cur = [] ∧ s = []
  | [], cur, h => by
    by_cases hc : cur = []
    · exact ⟨hc, rfl⟩
    · simp [lnL, hc] at h
  | b :: t, cur, h => by
    rw [lnL] at h
    split at h
    · simp at h
    · have := (ln_nil t _ h).1; simp at this
/-- the document's lines -/
theorem lines_split {s : By} (hs : s ≠ []) : linesT s = if 1 < (spl 10 [] s).length ∧ (spl 10 [] s).getLast? = some [] then (spl 10 [] s).dropLast else spl 10 [] s := by
  have h := ln_drop s []
  unfold linesT
  by_cases h1 : 1 < (spl 10 [] s).length
  · rw [h]; unfold dropE; simp [h1]
  · rw [if_neg (fun e => h1 e.1), h]
    unfold dropE
    rw [if_neg]
    intro e
    have hne := spl_ne 10 s []
    obtain ⟨x, y, e2⟩ := List.exists_cons_of_ne_nil hne
    rw [e2] at h1 e
    have : y = [] := by
      cases y with
      | nil => rfl
      | cons _ _ => simp at h1
    subst this
    have hx : x = [] := by simpa using e
    rw [hx] at e2
    have : lnL [] s = [] := by rw [h, e2]; simp [dropE]
    exact hs (ln_nil s [] this).2
/-- the document's words -/
theorem words_split : ∀ (s cur : By), (spl 32 cur s).filter (fun x => decide (x ≠ [])) = wl cur s
  | [], cur => by
    by_cases h : cur = [] <;> simp [spl, wl, h]
  | b :: t, cur => by
    rw [spl, wl]
    split
    · rw [List.filter_cons, words_split t []]
      by_cases h : cur = [] <;> simp [h]
    · exact words_split t _
theorem wl_run : ∀ (x cur r : By), (32 : UInt8) ∉ x → wl cur (x ++ r) = wl (cur ++ x) r
  | [], cur, r, _ => by simp
  | b :: t, cur, r, h => by
    rw [List.cons_append, wl, if_neg (fun e => h (by simp [e])), wl_run t _ r (fun e => h (by simp [e]))]; simp
end Tq
end Go.Proofs.YtlaimlfacheolaaGreatDoor
