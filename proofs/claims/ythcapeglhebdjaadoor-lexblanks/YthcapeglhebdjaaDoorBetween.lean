/- Plain mathematics: tokens with other blanks and remarks between them are the same. -/
import Derived.Test.YthcapeglhebdjaaDoorApart
namespace Go.Proofs.YthcapeglhebdjaaDoor
namespace Lx

def sep : Nat → List UInt8
  | 0 => [32]
  | 1 => [10]
  | 2 => [9, 32, 35, 32, 41, 32, 57, 32, 45, 45, 62, 32, 120, 10]
  | _ => [32, 32, 32, 35, 10, 35, 10, 32]
theorem sep_sk (k : Nat) (x : List UInt8) : sk false (sep k ++ x) = (sep k).length + sk false x := by
  match k with
  | 0 => simp [sep, sk, blank]
  | 1 => simp [sep, sk, blank]
  | 2 => simp [sep, sk, blank]; omega
  | k + 3 => simp [sep, sk, blank]; omega
theorem sep_head (k : Nat) : ∃ c r, sep k = c :: r ∧ ends c = true := by
  match k with
  | 0 => exact ⟨_, _, rfl, by decide⟩
  | 1 => exact ⟨_, _, rfl, by decide⟩
  | 2 => exact ⟨_, _, rfl, by decide⟩
  | k + 3 => exact ⟨_, _, rfl, by decide⟩
theorem sep_len (k : Nat) : (sep k).length ≤ 14 := by
  match k with
  | 0 => decide
  | 1 => decide
  | 2 => decide
  | k + 3 => show 8 ≤ 14; decide

/-- a token by itself -/
def Good (t : Tok) : Prop := t.text ≠ [] ∧ sk false t.text = 0 ∧ rd t.text = (t.kind, t.text.length) ∧ t.kind ≠ 0 ∧ ¬ (t.kind = 2 ∧ 18 < t.text.length)

theorem sk_drop : ∀ (u : List UInt8) (b : Bool), u.drop (sk b u) ≠ [] → sk false (u.drop (sk b u)) = 0 := by
  intro u
  induction u with
  | nil => intro b h; simp at h
  | cons c r ih =>
    intro b h
    have hd : ∀ n, (c :: r).drop (1 + n) = r.drop n := fun n => by rw [Nat.add_comm, List.drop_succ_cons]
    cases b
    · by_cases hb : blank c = true
      · have e : sk false (c :: r) = 1 + sk false r := by rw [sk, if_pos hb]
        rw [e, hd] at h ⊢; exact ih _ h
      · by_cases h35 : (c == 35) = true
        · have e : sk false (c :: r) = 1 + sk true r := by rw [sk, if_neg hb, if_pos h35]
          rw [e, hd] at h ⊢; exact ih _ h
        · have e : sk false (c :: r) = 0 := by rw [sk, if_neg hb, if_neg h35]
          rw [e, List.drop_zero, e]
    · by_cases h10 : (c == 10) = true
      · have e : sk true (c :: r) = 1 + sk false r := by rw [sk, if_pos h10]
        rw [e, hd] at h ⊢; exact ih _ h
      · have e : sk true (c :: r) = 1 + sk true r := by rw [sk, if_neg h10]
        rw [e, hd] at h ⊢; exact ih _ h
/-- nothing stands first: so it is with whatever follows -/
theorem sk_zero {c : UInt8} {r x : List UInt8} (h : sk false (c :: r) = 0) : sk false (c :: x) = 0 := by
  by_cases hb : blank c = true
  · rw [sk, if_pos hb] at h; omega
  · by_cases h35 : (c == 35) = true
    · rw [sk, if_neg hb, if_pos h35] at h; omega
    · rw [sk, if_neg hb, if_neg h35]
theorem wh_take (p : UInt8 → Bool) : ∀ u, wh p (u.take (wh p u)) = wh p u ∧ (u.take (wh p u)).length = wh p u := by
  intro u
  refine ⟨?_, by rw [List.length_take]; have := wh_le p u; omega⟩
  induction u with
  | nil => rfl
  | cons c r ih =>
    by_cases h : p c = true
    · have e : wh p (c :: r) = wh p r + 1 := by rw [wh_cons, if_pos h]; omega
      rw [e, List.take_succ_cons, wh_cons, if_pos h, ih]; omega
    · have e : wh p (c :: r) = 0 := by rw [wh_cons, if_neg h]
      rw [e]; rfl
theorem markIn_take (u : List UInt8) : ∀ (M : List (List UInt8)), markIn M (u.take (markIn M u)) = markIn M u ∨ markIn M u = 0 := by
  intro M
  suffices h : ∀ (M : List (List UInt8)) (n : Nat), n = markIn M u → n ≠ 0 → markIn M (u.take n) = n by
    by_cases h0 : markIn M u = 0
    · exact .inr h0
    · exact .inl (h M _ rfl h0)
  intro M
  induction M with
  | nil => intro n hn h0; rw [markIn] at hn; exact absurd hn h0
  | cons m r ih =>
    intro n hn h0
    rw [markIn] at hn
    by_cases hp : m.isPrefixOf u = true
    · rw [if_pos hp] at hn
      have he := List.prefix_iff_eq_take.1 (List.isPrefixOf_iff_prefix.1 hp)
      rw [markIn, hn, ← he, if_pos (List.isPrefixOf_iff_prefix.2 (List.prefix_refl m))]
    · rw [if_neg hp] at hn
      have hq : ¬ m.isPrefixOf (u.take n) = true := fun hc => hp (List.isPrefixOf_iff_prefix.2 ((List.isPrefixOf_iff_prefix.1 hc).trans (List.take_prefix n u)))
      rw [markIn, if_neg hq]; exact ih n hn h0
theorem rd_take (v : List UInt8) (h : (rd v).1 ≠ 0) : rd (v.take (rd v).2) = rd v ∧ (v.take (rd v).2).length = (rd v).2 := by
  refine ⟨?_, by rw [List.length_take]; have := rd_le v; omega⟩
  cases v with
  | nil => exact absurd rfl h
  | cons c r =>
    have hpos := rd_pos (c :: r) h
    obtain ⟨n, hn⟩ : ∃ n, (rd (c :: r)).2 = n + 1 := ⟨(rd (c :: r)).2 - 1, by omega⟩
    rw [hn, List.take_succ_cons]
    have hc := rd_cons c r
    by_cases hd : digit c = true
    · rw [if_pos hd] at hc
      rw [rd_cons, if_pos hd, hc]
      have := (wh_take digit (c :: r)).1
      have e : wh digit (c :: r) = n + 1 := by rw [hc] at hn; exact hn
      rw [e, List.take_succ_cons] at this; rw [this, e]
    · rw [if_neg hd] at hc
      by_cases hw : word c = true
      · rw [if_pos hw] at hc
        rw [rd_cons, if_neg hd, if_pos hw, hc]
        have := (wh_take word (c :: r)).1
        have e : wh word (c :: r) = n + 1 := by rw [hc] at hn; exact hn
        rw [e, List.take_succ_cons] at this; rw [this, e]
      · rw [if_neg hw] at hc
        by_cases hm : mk (c :: r) = 0
        · rw [if_pos hm] at hc; rw [hc] at h; exact absurd rfl h
        · rw [if_neg hm] at hc
          have e : mk (c :: r) = n + 1 := by rw [hc] at hn; exact hn
          have := markIn_take (c :: r) marks
          rcases this with h1 | h1
          · have h2 : mk (c :: r.take n) = n + 1 := by
              have : markIn marks ((c :: r).take (n + 1)) = n + 1 := by rw [← e]; exact h1
              rw [List.take_succ_cons] at this; exact this
            rw [rd_cons, if_neg hd, if_neg hw, h2, if_neg (by omega), hc, e]
          · exact absurd h1 hm
theorem Reads_good : ∀ (l : List Tok) {u : List UInt8} {p : Nat} {u' : List UInt8} {p' : Nat}, Reads u p l u' p' → ∀ t ∈ l, Good t := by
  intro l
  induction l with
  | nil => intro u p u' p' _ t ht; simp at ht
  | cons x r ih =>
    intro u p u' p' h t ht
    obtain ⟨a, b, c, d, e⟩ := h
    rcases List.mem_cons.1 ht with rfl | ht
    · have hz := sk_drop u false a
      obtain ⟨v, hv⟩ : ∃ v, v = u.drop (sk false u) := ⟨_, rfl⟩
      rw [← hv] at a b c d hz
      obtain ⟨h1, h2⟩ := rd_take v c
      have hpos := rd_pos v c
      have ht : t.text = v.take (rd v).2 := by rw [b]
      have hk : t.kind = (rd v).1 := by rw [b]
      refine ⟨?_, ?_, ?_, ?_, ?_⟩
      · rw [ht]; intro e; rw [e] at h2; simp at h2; omega
      · rw [ht]
        cases v with
        | nil => exact absurd rfl a
        | cons c0 r0 =>
          obtain ⟨n, hn⟩ : ∃ n, (rd (c0 :: r0)).2 = n + 1 := ⟨(rd (c0 :: r0)).2 - 1, by omega⟩
          rw [hn, List.take_succ_cons]; exact sk_zero hz
      · rw [ht, hk, h1, h2]
      · rw [hk]; exact c
      · rw [hk, ht, h2]; exact d
    · exact ih e t ht

/-- a text: each token behind a separator -/
def bld (P : List (Nat × Tok)) : List UInt8 := P.flatMap fun x => sep x.1 ++ x.2.text
def rel (p : Nat) : List (Nat × Tok) → List Tok
  | [] => []
  | x :: r => ⟨x.2.kind, x.2.text, p + (sep x.1).length⟩ :: rel (p + (sep x.1).length + x.2.text.length) r
theorem bld_cons (x : Nat × Tok) (r : List (Nat × Tok)) : bld (x :: r) = sep x.1 ++ x.2.text ++ bld r := rfl
theorem bld_snoc (P : List (Nat × Tok)) (x : Nat × Tok) : bld (P ++ [x]) = bld P ++ sep x.1 ++ x.2.text := by simp [bld]
theorem rel_snoc (x : Nat × Tok) : ∀ (P : List (Nat × Tok)) (p : Nat), rel p (P ++ [x]) = rel p P ++ [⟨x.2.kind, x.2.text, p + (bld P).length + (sep x.1).length⟩] := by
  intro P
  induction P with
  | nil => intro p; simp [rel, bld]
  | cons y r ih => intro p; rw [List.cons_append, rel, ih, rel, bld_cons]; simp; omega
theorem rel_len : ∀ (P : List (Nat × Tok)) (p : Nat), (rel p P).length = P.length := by
  intro P
  induction P with
  | nil => intro p; rfl
  | cons y r ih => intro p; simp [rel, ih]
theorem bld_head (r : List (Nat × Tok)) (c : UInt8) (x : List UInt8) (hc : ends c = true) : ∃ c1 x1, bld r ++ c :: x = c1 :: x1 ∧ ends c1 = true := by
  cases r with
  | nil => exact ⟨c, x, rfl, hc⟩
  | cons y r =>
    obtain ⟨c1, r1, h1, h2⟩ := sep_head y.1
    exact ⟨c1, _, by rw [bld_cons, h1]; rfl, h2⟩
theorem Reads_bld : ∀ (P : List (Nat × Tok)), (∀ x ∈ P, Good x.2) → ∀ (p : Nat) (c : UInt8) (x : List UInt8), ends c = true → Reads (bld P ++ c :: x) p (rel p P) (c :: x) (p + (bld P).length) := by
  intro P
  induction P with
  | nil => intro _ p c x _; exact ⟨rfl, rfl⟩
  | cons y r ih =>
    intro hg p c x hc
    obtain ⟨h1, h2, h3, h4, h5⟩ := hg y (by simp)
    obtain ⟨c1, x1, e1, e2⟩ := bld_head r c x hc
    have e : bld (y :: r) ++ c :: x = sep y.1 ++ (y.2.text ++ c1 :: x1) := by
      rw [bld_cons, List.append_assoc, e1, List.append_assoc]
    have hz : sk false (y.2.text ++ c1 :: x1) = 0 := by
      cases ht : y.2.text with
      | nil => exact absurd ht h1
      | cons c0 r0 => rw [ht] at h2; exact sk_zero h2
    have hs : sk false (bld (y :: r) ++ c :: x) = (sep y.1).length := by rw [e, sep_sk, hz]; rfl
    have hd : (bld (y :: r) ++ c :: x).drop (sep y.1).length = y.2.text ++ c1 :: x1 := by rw [e, List.drop_left]
    have hr : rd (y.2.text ++ c1 :: x1) = (y.2.kind, y.2.text.length) := by rw [rd_app c1 x1 e2 _ h1]; exact h3
    refine ⟨?_, ?_, ?_, ?_, ?_⟩
    · rw [hs, hd]; simp
    · rw [hs, hd, hr]; simp
    · rw [hs, hd, hr]; exact h4
    · rw [hs, hd, hr]; exact h5
    · rw [hs, hd, hr]
      simp only [List.drop_left]
      have := ih (fun z hz => hg z (by simp [hz])) (p + (sep y.1).length + y.2.text.length) c x hc
      rw [e1] at this
      rw [bld_cons]
      simp only [List.length_append]
      rw [show p + ((sep y.1).length + y.2.text.length + (bld r).length) = p + (sep y.1).length + y.2.text.length + (bld r).length by omega]
      exact this
def tot (l : List Tok) : Nat := (l.map (·.text.length)).sum
theorem tot_append (l m : List Tok) : tot (l ++ m) = tot l + tot m := by simp [tot]
theorem Reads_tot : ∀ (l : List Tok) {u : List UInt8} {p : Nat} {u' : List UInt8} {p' : Nat}, Reads u p l u' p' → tot l + u'.length ≤ u.length := by
  intro l
  induction l with
  | nil => intro u p u' p' h; obtain ⟨rfl, rfl⟩ := h; simp [tot]
  | cons t r ih =>
    intro u p u' p' h
    obtain ⟨a, b, c, d, e⟩ := h
    have h1 := ih e
    have h2 := sk_le false u
    have h3 := rd_le (u.drop (sk false u))
    have h4 : t.text.length = (rd (u.drop (sk false u))).2 := by rw [b]; simp only [List.length_take]; omega
    simp only [List.length_drop] at h1 h3
    have h5 : tot (t :: r) = t.text.length + tot r := by simp [tot]
    omega
theorem bld_len : ∀ (P : List (Nat × Tok)), (bld P).length ≤ 14 * P.length + tot (P.map (·.2)) := by
  intro P
  induction P with
  | nil => simp [bld]
  | cons x r ih =>
    have := sep_len x.1
    have h5 : tot ((x :: r).map (·.2)) = x.2.text.length + tot (r.map (·.2)) := by simp [tot]
    rw [bld_cons, h5]; simp; omega
/-- the whole: an End's separator last -/
theorem between {s : List UInt8} {l : List Tok} (h : Ok s l) {P : List (Nat × Tok)} (hP : P.map (·.2) = l) (k : Nat) : Ok (bld P ++ sep k) (rel 0 P) := by
  obtain ⟨hn, u, p, hr, _⟩ := h
  obtain ⟨c, r, h1, h2⟩ := sep_head k
  have hg : ∀ x ∈ P, Good x.2 := fun x hx => Reads_good l hr x.2 (by rw [← hP]; exact List.mem_map_of_mem hx)
  have hR := Reads_bld P hg 0 c r h2
  refine ⟨by rw [rel_len]; have := congrArg List.length hP; simp at this; omega, _, _, by rw [h1]; exact hR, ?_⟩
  have := sep_sk k []
  rw [List.append_nil] at this
  rw [← h1, this]; simp [sk]
end Lx
end Go.Proofs.YthcapeglhebdjaaDoor
