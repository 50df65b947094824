/- Plain mathematics: what stands apart is apart; with other blanks between them tokens are the same. -/
import Derived.Test.YthcapeglhebdjaaDoorPlain
namespace Go.Proofs.YthcapeglhebdjaaDoor
namespace Lx

theorem sk_app (x : List UInt8) : ∀ (u : List UInt8) (b : Bool), u.drop (sk b u) ≠ [] → sk b (u ++ x) = sk b u := by
  intro u
  induction u with
  | nil => intro b h; simp at h
  | cons c r ih =>
    intro b h
    have h1 : ∀ b', r.drop (sk b' r) ≠ [] → 1 + sk b' (r ++ x) = 1 + sk b' r := fun b' hb => by rw [ih b' hb]
    have hd : ∀ n, (c :: r).drop (1 + n) = r.drop n := fun n => by rw [Nat.add_comm, List.drop_succ_cons]
    cases b
    · by_cases hb : blank c = true
      · simp only [List.cons_append, sk, hb, if_true] at h ⊢
        rw [hd] at h; exact h1 _ h
      · by_cases h35 : (c == 35) = true
        · simp only [List.cons_append, sk, hb, h35, if_true] at h ⊢
          rw [if_neg (by simp)] at h; rw [if_neg (by simp), if_neg (by simp)]
          rw [hd] at h; exact h1 _ h
        · simp only [List.cons_append, sk]
          rw [if_neg hb, if_neg h35, if_neg hb, if_neg h35]
    · by_cases h10 : (c == 10) = true
      · simp only [List.cons_append, sk, h10, if_true] at h ⊢
        rw [hd] at h; exact h1 _ h
      · simp only [List.cons_append, sk]
        simp only [sk] at h
        rw [if_neg h10] at h; rw [if_neg h10, if_neg h10]
        rw [hd] at h; exact h1 _ h

/-- all of u is nothing, and no remark goes on behind it -/
theorem sk_all (x : List UInt8) : ∀ (u : List UInt8) (b : Bool), sk b u = u.length → sk b (u ++ 10 :: x) = u.length + 1 + sk false x := by
  intro u
  induction u with
  | nil => intro b _; cases b <;> simp [sk, blank]
  | cons c r ih =>
    intro b h
    have hle := sk_le
    cases b
    · by_cases hb : blank c = true
      · simp only [List.cons_append, sk, hb, if_true, List.length_cons] at h ⊢
        rw [ih false (by omega)]; omega
      · by_cases h35 : (c == 35) = true
        · simp only [List.cons_append, sk, List.length_cons] at h ⊢
          rw [if_neg hb, if_pos h35] at h ⊢
          rw [ih true (by omega)]; omega
        · simp only [sk, List.length_cons] at h
          rw [if_neg hb, if_neg h35] at h; omega
    · by_cases h10 : (c == 10) = true
      · simp only [List.cons_append, sk, List.length_cons] at h ⊢
        rw [if_pos h10] at h ⊢
        rw [ih false (by omega)]; omega
      · simp only [List.cons_append, sk, List.length_cons] at h ⊢
        rw [if_neg h10] at h ⊢
        rw [ih true (by omega)]; omega

/-- a byte that ends every token -/
def ends (c : UInt8) : Bool := !digit c && !word c && Lx.marks.all fun m => !m.contains c

theorem wh_app (p : UInt8 → Bool) (c : UInt8) (x : List UInt8) (hc : p c = false) : ∀ u, wh p (u ++ c :: x) = wh p u := by
  intro u
  induction u with
  | nil => rw [List.nil_append, wh_cons, hc]; rfl
  | cons d r ih => rw [List.cons_append, wh_cons, wh_cons, ih]
theorem prefix_app (c : UInt8) (x : List UInt8) : ∀ (m u : List UInt8), m.contains c = false → m.isPrefixOf (u ++ c :: x) = m.isPrefixOf u := by
  intro m
  induction m with
  | nil => intro u _; simp
  | cons d r ih =>
    intro u h
    simp only [List.contains_cons, Bool.or_eq_false_iff] at h
    cases u with
    | nil =>
      rw [List.nil_append]
      have : (d == c) = false := by
        have := h.1; rw [Bool.eq_false_iff] at this ⊢; intro e; apply this; simp at e ⊢; exact e.symm
      simp [List.isPrefixOf, this]
    | cons e u => rw [List.cons_append]; simp only [List.isPrefixOf]; rw [ih u h.2]
theorem markIn_app (c : UInt8) (x u : List UInt8) (M : List (List UInt8)) (h : (M.all fun m => !m.contains c) = true) : markIn M (u ++ c :: x) = markIn M u := by
  induction M with
  | nil => rfl
  | cons m r ih =>
    simp only [List.all_cons, Bool.and_eq_true, Bool.not_eq_true'] at h
    rw [markIn, markIn, prefix_app c x m u h.1, ih h.2]
theorem rd_app (c : UInt8) (x : List UInt8) (hc : ends c = true) : ∀ u, u ≠ [] → rd (u ++ c :: x) = rd u := by
  intro u hu
  simp only [ends, Bool.and_eq_true, Bool.not_eq_true'] at hc
  cases u with
  | nil => exact absurd rfl hu
  | cons d r =>
    have e1 : wh digit (d :: (r ++ c :: x)) = wh digit (d :: r) := wh_app digit c x hc.1.1 (d :: r)
    have e2 : wh word (d :: (r ++ c :: x)) = wh word (d :: r) := wh_app word c x hc.1.2 (d :: r)
    have e3 : mk (d :: (r ++ c :: x)) = mk (d :: r) := markIn_app c x (d :: r) marks hc.2
    rw [List.cons_append, rd_cons, rd_cons, e1, e2, e3]

theorem Reads_app (x : List UInt8) : ∀ (l : List Tok) {u : List UInt8} {p : Nat} {u' : List UInt8} {p' : Nat}, Reads u p l u' p' → Reads (u ++ 10 :: x) p l (u' ++ 10 :: x) p' := by
  intro l
  induction l with
  | nil => intro u p u' p' h; obtain ⟨rfl, rfl⟩ := h; exact ⟨rfl, rfl⟩
  | cons t r ih =>
    intro u p u' p' h
    obtain ⟨a, b, c, d, e⟩ := h
    have hs := sk_app (10 :: x) u false a
    have hd : (u ++ 10 :: x).drop (sk false u) = u.drop (sk false u) ++ 10 :: x := List.drop_append_of_le_length (sk_le _ _)
    have hr : rd (u.drop (sk false u) ++ 10 :: x) = rd (u.drop (sk false u)) := rd_app 10 x (by decide) _ a
    have hle := rd_le (u.drop (sk false u))
    refine ⟨?_, ?_, ?_, ?_, ?_⟩
    · rw [hs, hd]; simp
    · rw [hs, hd, hr, List.take_append_of_le_length hle]; exact b
    · rw [hs, hd, hr]; exact c
    · rw [hs, hd, hr]; exact d
    · rw [hs, hd, hr, List.drop_append_of_le_length hle]; exact ih e

def shift (k : Nat) (t : Tok) : Tok := ⟨t.kind, t.text, t.place + k⟩
theorem Reads_shift (k : Nat) : ∀ (l : List Tok) {u : List UInt8} {p : Nat} {u' : List UInt8} {p' : Nat}, Reads u p l u' p' → Reads u (p + k) (l.map (shift k)) u' (p' + k) := by
  intro l
  induction l with
  | nil => intro u p u' p' h; obtain ⟨rfl, rfl⟩ := h; exact ⟨rfl, rfl⟩
  | cons t r ih =>
    intro u p u' p' h
    obtain ⟨a, b, c, d, e⟩ := h
    refine ⟨a, ?_, c, d, ?_⟩
    · rw [b]; simp only [shift]; rw [show p + sk false u + k = p + k + sk false u by omega]
    · have := ih e
      rw [show p + sk false u + (rd (u.drop (sk false u))).2 + k = p + k + sk false u + (rd (u.drop (sk false u))).2 by omega] at this
      exact this
theorem Reads_from (l : List Tok) {u v : List UInt8} {p q : Nat} {u' : List UInt8} {p' : Nat} (hu : u.drop (sk false u) = v.drop (sk false v)) (hp : p + sk false u = q + sk false v) (hl : l ≠ []) (h : Reads v q l u' p') : Reads u p l u' p' := by
  cases l with
  | nil => exact absurd rfl hl
  | cons t r => simp only [Reads] at h ⊢; rw [hu, hp]; exact h

theorem Reads_pos {l : List Tok} : ∀ {u : List UInt8} {p : Nat} {u' : List UInt8} {p' : Nat}, Reads u p l u' p' → p' + u'.length = p + u.length := by
  induction l with
  | nil => intro u p u' p' h; obtain ⟨rfl, rfl⟩ := h; rfl
  | cons t r ih =>
    intro u p u' p' h
    obtain ⟨a, b, c, d, e⟩ := h
    have := ih e
    have h1 := sk_le false u
    have h2 := rd_le (u.drop (sk false u))
    simp only [List.length_drop] at this h2
    omega

/-- two texts, a line feed between -/
theorem pieces {a b : List UInt8} {l m : List Tok} (ha : Ok a l) (hb : Ok b m) : ∃ u p, Reads (a ++ 10 :: b) 0 (l ++ m.map (shift (a.length + 1))) u p ∧ u.drop (sk false u) = [] := by
  obtain ⟨_, u, p, hr, hu⟩ := ha
  obtain ⟨_, v, q, hs, hv⟩ := hb
  have h1 := Reads_app b l hr
  have hlen := Reads_pos hr
  have hsk : sk false u = u.length := by
    have h := congrArg List.length hu; rw [List.length_drop] at h; have := sk_le false u; simp at h; omega
  have hs2 := sk_all b u false hsk
  have h2 := Reads_shift (a.length + 1) m hs
  rw [Nat.zero_add] at h2
  have e1 : (u ++ 10 :: b).drop (sk false (u ++ 10 :: b)) = b.drop (sk false b) := by
    rw [hs2, show u.length + 1 + sk false b = u.length + (1 + sk false b) by omega, ← List.drop_drop, List.drop_left, Nat.add_comm 1, List.drop_succ_cons]
  have e2 : p + sk false (u ++ 10 :: b) = a.length + 1 + sk false b := by rw [hs2]; omega
  by_cases hm : m = []
  · subst hm
    obtain ⟨rfl, rfl⟩ := hs
    refine ⟨_, _, by simpa using h1, ?_⟩
    rw [e1]; exact hv
  · exact ⟨v, _, Reads_append h1 (Reads_from _ e1 e2 (by simpa using hm) h2), hv⟩
theorem pieces_ok {a b : List UInt8} {l m : List Tok} (ha : Ok a l) (hb : Ok b m) (hn : l.length + m.length ≤ 600) : Ok (a ++ 10 :: b) (l ++ m.map (shift (a.length + 1))) := by
  obtain ⟨u, p, h, hu⟩ := pieces ha hb
  exact ⟨by simpa using hn, u, p, h, hu⟩
theorem much_bad {s : List UInt8} {L : List Tok} {u : List UInt8} {p e q : Nat} (h : Reads s 0 L u p) (hn : 600 < L.length) (hb : Bad s e q) : e = 4 := by
  obtain ⟨l', u', p', r', hn', hu', hq, he, he0⟩ := hb
  obtain ⟨m, rfl, hm⟩ := Reads_det r' h (by omega)
  cases m with
  | nil => simp at hn; omega
  | cons t m =>
    have h6 := flt_ok hm.2.2.1 hm.2.2.2.1 (by rw [← he]; exact he0)
    rw [he, flt, if_neg hm.2.2.1, if_neg hm.2.2.2.1, if_pos h6]
theorem much_no {s : List UInt8} {L : List Tok} {u : List UInt8} {p : Nat} (h : Reads s 0 L u p) (hn : 600 < L.length) (l : List Tok) : ¬ Ok s l := by
  rintro ⟨hl, u', p', r', hu'⟩
  obtain ⟨m, rfl, hm⟩ := Reads_det r' h (by omega)
  cases m with
  | nil => simp at hn; omega
  | cons t m => exact hm.1 hu'
end Lx
end Go.Proofs.YthcapeglhebdjaaDoor
