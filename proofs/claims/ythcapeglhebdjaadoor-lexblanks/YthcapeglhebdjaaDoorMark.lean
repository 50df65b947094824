/- the document's own answer: how long the mark is that stands first. -/
import Derived.Test.YthcapeglhebdjaaDoorSplit
namespace Go.Proofs.YthcapeglhebdjaaDoor
open Go.RowKit

/-- by lengths, the longest first -/
def byLen : Nat → List UInt8 → Nat
  | 0, _ => 0
  | n + 1, u => if u.length < n + 1 then byLen n u else if Lx.marks.contains (u.take (n + 1)) then n + 1 else byLen n u

theorem prefix_take (m u : List UInt8) (n : Nat) (hn : m.length = n) : m.isPrefixOf u = (decide (n ≤ u.length) && (u.take n == m)) := by
  rw [Bool.eq_iff_iff]
  simp only [List.isPrefixOf_iff_prefix, Bool.and_eq_true, decide_eq_true_eq, beq_iff_eq]
  constructor
  · intro h; refine ⟨hn ▸ h.length_le, ?_⟩; rw [← hn]; exact (List.prefix_iff_eq_take.1 h).symm
  · rintro ⟨_, h2⟩; rw [← h2]; exact List.take_prefix n u

theorem markIn_same (M : List (List UInt8)) (n : Nat) (h : ∀ m ∈ M, m.length = n) (R : List (List UInt8)) (u : List UInt8) :
    Lx.markIn (M ++ R) u = if decide (n ≤ u.length) && M.contains (u.take n) then n else Lx.markIn R u := by
  induction M with
  | nil => simp
  | cons m r ih =>
    have hm := h m (by simp)
    rw [List.cons_append, Lx.markIn, prefix_take m u n hm, ih (fun x hx => h x (by simp [hx])), hm]
    by_cases h1 : n ≤ u.length
    · by_cases h2 : u.take n = m
      · simp [h1, h2]
      · simp only [h1, decide_true, Bool.true_and, beq_iff_eq, h2, if_false, List.contains_cons]
        have h3 : (List.take n u == m) = false := by simpa using h2
        rw [h3, Bool.false_or]
    · simp [h1]

theorem contains_len (A B : List (List UInt8)) (x : List UInt8) (h : ∀ m ∈ A, m.length ≠ x.length) : (A ++ B).contains x = B.contains x := by
  rw [Bool.eq_iff_iff]
  simp only [List.contains_iff_mem, List.mem_append]
  constructor
  · rintro (h1 | h1)
    · exact absurd rfl (h x h1)
    · exact h1
  · exact .inr

theorem mk_byLen (u : List UInt8) : Lx.mk u = byLen 3 u := by
  have e : Lx.marks = [[45, 45, 62]] ++ ([[58, 61], [61, 61], [33, 61], [60, 61], [38, 38], [124, 124]] ++ ([[60], [43], [45], [42], [47], [37], [33], [40], [41], [123], [125], [59], [58], [44]] ++ [])) := rfl
  unfold Lx.mk
  rw [e, markIn_same _ 3 (by decide), markIn_same _ 2 (by decide), markIn_same _ 1 (by decide)]
  simp only [byLen, Lx.markIn]
  have c3 : 3 ≤ u.length → Lx.marks.contains (u.take 3) = [[45, 45, 62]].contains (u.take 3) := by
    intro h
    have hl : (u.take 3).length = 3 := by rw [List.length_take]; omega
    rw [Bool.eq_iff_iff]; simp only [List.contains_iff_mem, Lx.marks, List.mem_cons, List.not_mem_nil, or_false]
    constructor
    · rintro (h | h | h | h | h | h | h | h | h | h | h | h | h | h | h | h | h | h | h | h | h) <;> first | exact h | (rw [h] at hl; simp at hl)
    · exact .inl
  have c2 : 2 ≤ u.length → Lx.marks.contains (u.take 2) = [[58, 61], [61, 61], [33, 61], [60, 61], [38, 38], [124, 124]].contains (u.take 2) := by
    intro h
    have hl : (u.take 2).length = 2 := by rw [List.length_take]; omega
    rw [Bool.eq_iff_iff]; simp only [List.contains_iff_mem, Lx.marks, List.mem_cons, List.not_mem_nil, or_false]
    constructor
    · rintro (h | h | h | h | h | h | h | h | h | h | h | h | h | h | h | h | h | h | h | h | h) <;> first | (simp [h]; done) | (rw [h] at hl; simp at hl)
    · rintro (h | h | h | h | h | h) <;> simp [h]
  have c1 : 1 ≤ u.length → Lx.marks.contains (u.take 1) = [[60], [43], [45], [42], [47], [37], [33], [40], [41], [123], [125], [59], [58], [44]].contains (u.take 1) := by
    intro h
    have hl : (u.take 1).length = 1 := by rw [List.length_take]; omega
    rw [Bool.eq_iff_iff]; simp only [List.contains_iff_mem, Lx.marks, List.mem_cons, List.not_mem_nil, or_false]
    constructor
    · rintro (h | h | h | h | h | h | h | h | h | h | h | h | h | h | h | h | h | h | h | h | h) <;> first | (simp [h]; done) | (rw [h] at hl; simp at hl)
    · rintro (h | h | h | h | h | h | h | h | h | h | h | h | h | h) <;> simp [h]
  by_cases h3 : 3 ≤ u.length
  · rw [c3 h3, c2 (by omega), c1 (by omega)]
    simp [h3, show 2 ≤ u.length by omega, show 1 ≤ u.length by omega, show ¬ u.length < 3 by omega, show ¬ u.length < 2 by omega, show ¬ u.length < 1 by omega]
  · by_cases h2 : 2 ≤ u.length
    · rw [c2 h2, c1 (by omega)]
      simp [h3, h2, show 1 ≤ u.length by omega, show u.length < 3 by omega, show ¬ u.length < 2 by omega, show ¬ u.length < 1 by omega]
    · by_cases h1 : 1 ≤ u.length
      · rw [c1 h1]
        simp [h3, h2, h1, show u.length < 3 by omega, show u.length < 2 by omega, show ¬ u.length < 1 by omega]
      · simp [h3, h2, h1, show u.length < 3 by omega, show u.length < 2 by omega, show u.length < 1 by omega]
end Go.Proofs.YthcapeglhebdjaaDoor
