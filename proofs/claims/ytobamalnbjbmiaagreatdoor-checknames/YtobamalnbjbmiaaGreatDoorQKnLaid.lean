/- keep's renamed at every depth; CheckNames, of whatever text. -/
import Derived.Test.YtobamalnbjbmiaaGreatDoorQKz
import Derived.Test.YtobamalnbjbmiaaGreatDoorQKq
import Derived.Test.YtobamalnbjbmiaaGreatDoorQLaidK
namespace Go.Proofs.YtobamalnbjbmiaaGreatDoor
open Go.RowKit Px
namespace Kx

theorem Rows.of_map {α β : Type} {R : β → List Value → Prop} {R' : α → List Value → Prop} {f : α → β} : ∀ {l : List α} {xs : List Value}, (∀ a ∈ l, ∀ c, R (f a) c → R' a c) → Rows R (l.map f) xs → Rows R' l xs := by
  intro l
  induction l with
  | nil => intro xs _ h; exact h
  | cons a r ih =>
    intro xs hR h
    obtain ⟨c, ys, rfl, hc, hr⟩ := h
    exact ⟨c, ys, rfl, hR a (by simp) c hc, ih (fun b hb => hR b (by simp [hb])) hr⟩
theorem sumW_len {α : Type} {f : α → Nat} (hf : ∀ a, 1 ≤ f a) : ∀ l : List α, l.length ≤ Sh.sumW f l := by
  intro l
  induction l with
  | nil => simp [Sh.sumW]
  | cons a r ih => rw [List.length_cons, Sh.sumW]; have := hf a; omega
theorem isStates_zero {A : Nat → Prop} {w : World} {l : List (St 0)} {v : Value} (h : IsStates A w 0 l v) : l = [] ∧ v = .slice none 0 0 := h
theorem ren_zero : RenOk 0 := by
  intro A w L v hI _ hw
  have hlen : L.length ≤ 601 := Nat.le_trans (sumW_len (f := Sh.wR (Sh.wSt 0)) (fun a => by unfold Sh.wR; omega) L) hw
  obtain ⟨ad, g, cap, rfl, h1, h2, h3⟩ := hI.len
  have hnil : ∀ r ∈ L, r = [] := fun r hr => by
    obtain ⟨i, hi⟩ := List.getElem?_of_mem hr
    obtain ⟨u, _, hS⟩ := h3 i r hi
    exact (isStates_zero hS).1
  have kp : Keep (fun b => (A b ∧ b < w.heap.size) ∨ w.heap.size ≤ b) (fun b => A b ∨ w.heap.size ≤ b) w w := fun b hb _ => ⟨by rcases hb with h | h; exact .inl h.1; exact .inr h, rfl⟩
  have hc := ren_at (ρ := Unit) (A := fun b => A b ∧ b < w.heap.size) (w := w) (fr := id) (J := fun _ _ _ _ => True) (fun _ _ _ _ => trivial) (fun b hb => hb.2) (ad := ad) (N := L.length) (cap := cap) (L := L.map fun _ => ([] : List (StF Unit))) (by rw [Hid, List.length_map]) (by omega)
    ⟨g, fun hp => (h2 hp).1, fun i r hi => by
      rw [List.getElem?_map] at hi
      cases hL : L[i]? with
      | none => rw [hL] at hi; simp at hi
      | some q =>
        rw [hL] at hi
        simp at hi
        subst hi
        obtain ⟨u, hu, hS⟩ := h3 i q hL
        obtain ⟨rfl, rfl⟩ := isStates_zero hS
        exact ⟨none, 0, hu, 0, fun h => absurd h (by simp), by simp, fun i s h => absurd h (by simp)⟩⟩
  refine hc.mono ?_
  rintro e w' ⟨a, n, m, rfl, h⟩
  obtain ⟨⟨xs, hr, hs⟩, hb⟩ := h.out
  refine ⟨a, n, m, rfl, ⟨xs, ?_, ?_⟩, hb⟩
  · rw [List.length_map] at hr ⊢
    exact hr.carry fun b hb _ => ⟨by rcases hb with h | h; exact .inl h.1; exact .inr h, rfl⟩
  · rw [show L.map (renR 0) = L from List.map_id'' (fun _ => rfl) L]
    rw [List.map_map] at hs
    refine Rows.of_map (fun r hr c hc => ?_) hs
    obtain ⟨u, hcu, hu⟩ := hc
    exact ⟨u, hcu, hnil r hr, hu.2 rfl⟩
theorem ren_succ (k : Nat) (ih : RenOk k) : RenOk (k + 1) := by
  intro A w L v hI hT hw
  have hlen : L.length ≤ 601 := Nat.le_trans (sumW_len (f := Sh.wR (Sh.wSt (k + 1))) (fun a => by unfold Sh.wR; omega) L) hw
  have kA : Keep A (fun b => A b ∧ b < w.heap.size) w w := fun b hb hlt => ⟨⟨hb, hlt⟩, rfl⟩
  have hI := hI.carry kA (IsStates.carry kA (k + 1))
  obtain ⟨ad, g, cap, rfl, h1, h2, h3⟩ := hI.len
  have hc := ren_at (ρ := St k) (A := fun b => A b ∧ b < w.heap.size) (w := w) (fr := renR k) (J := fun A w => IsStates A w k) (fun kp l v h => IsStates.carry kp k l v h) (fun b hb => hb.2) (ad := ad) (N := L.length) (cap := cap) (L := L) rfl (by omega)
    ⟨g, fun hp => (h2 hp).1, fun i r hi => by
      have hm := List.mem_of_getElem? hi
      obtain ⟨u, hu, hS⟩ := h3 i r hi
      obtain ⟨a, gr, c, rfl, r1, r2, r3⟩ := IsStates.open hS
      have hwr : 1 + Sh.sumW (Sh.wSt (k + 1)) r ≤ 601 := Nat.le_trans (Sh.sumW_mem (Sh.wR (Sh.wSt (k + 1))) L r hm) hw
      have hrl : List.length r ≤ Sh.sumW (Sh.wSt (k + 1)) r := sumW_len (f := Sh.wSt (k + 1)) (fun s => by show 1 ≤ Sh.wStF (Sh.wSt k) s; unfold Sh.wStF; omega) r
      refine ⟨a, c, hu, gr, fun hp => (r2 hp).1, by omega, fun i s hi' => ?_⟩
      have hms := List.mem_of_getElem? hi'
      obtain ⟨ve, vd, vl, p, ay, ar, gy, capy, capr, hM, hR⟩ := r3 i s hi'
      have hws : Sh.wStF (Sh.wSt k) s ≤ Sh.sumW (Sh.wSt (k + 1)) r := Sh.sumW_mem (Sh.wSt (k + 1)) r s hms
      unfold Sh.wStF at hws
      have hwy : s.ways.length ≤ Sh.sumW Sh.wW s.ways := sumW_len (fun y => by unfold Sh.wW; omega) _
      obtain ⟨t0, t1, t2, t3, t4, t5, t6⟩ := hT r hm s hms
      refine ⟨ve, vd, vl, p, ay, ar, gy, capy, capr, hM, t0, fun y hy => (t5 y hy).2.2.2.2, by omega, fun w' hb' => ?_⟩
      have kp : Keep (fun b => A b ∧ b < w.heap.size) (fun b => A b ∧ b < w.heap.size) w w' := fun b ha hlt => ⟨ha, hb'.block b hlt⟩
      exact ih _ w' s.regions _ (hR.carry kp (IsStates.carry kp k)) t6 (by omega)⟩
  refine hc.mono ?_
  rintro e w' ⟨a, n, m, rfl, h⟩
  obtain ⟨⟨xs, hr, hs⟩, hb⟩ := h.out
  have k2 : Keep (fun b => (A b ∧ b < w.heap.size) ∨ w.heap.size ≤ b) (fun b => A b ∨ w.heap.size ≤ b) w' w' := fun b hb _ => ⟨by rcases hb with h | h; exact .inl h.1; exact .inr h, rfl⟩
  refine ⟨a, n, m, rfl, ⟨xs, ?_, ?_⟩, hb⟩
  · rw [List.length_map]
    exact hr.carry k2
  · refine Rows.map (fun r c hc => ?_) hs
    obtain ⟨u, hcu, hu⟩ := hc
    exact ⟨u, hcu, IsStates.carry k2 (k + 1) r u hu.1⟩
theorem ren_all : ∀ k, RenOk k
  | 0 => ren_zero
  | k + 1 => ren_succ k (ren_all k)
theorem checkNames_any (s : ByteArray) {w : World} (hv : KEnv w) : Calls Tryz.prog 3 #[.string s] w fun e w' => e = .returned (.bool true) ∧ Below w.heap.size w w' := checkNames_of (ren_all 6) s hv
end Kx
end Go.Proofs.YtobamalnbjbmiaaGreatDoor
/- What the listed variables' readings give CheckNames. -/
namespace Go.Proofs.YtobamalnbjbmiaaGreatDoor
open Go.ChangeShapes Go.WideShapes Go.ChangeAt Go.RowKit Px

theorem names_laid {W : World} (h : laidMetH Tryz.prog Rows.checkNamesRow.laid W) : Kx.KEnv W := by
  have h' : laidMet Tryz.prog [("math/bits.deBruijn32tab", Rows.laid_math_bits_deBruijn32tab), ("math/bits.deBruijn64tab", Rows.laid_math_bits_deBruijn64tab), ("internal/strconv.uint64pow10", Rows.laid_internal_strconv_uint64pow10), ("strconv.ErrRange", Rows.laid_strconv_ErrRange), ("strconv.ErrSyntax", Rows.laid_strconv_ErrSyntax), ("clepsydra/lex.marks", Rows.laid_clepsydra_lex_marks), ("clepsydra/parse.between", Rows.laid_clepsydra_parse_between), ("clepsydra/parse.ahead", Rows.laid_clepsydra_parse_ahead), ("clepsydra/parse.kinds", Rows.laid_clepsydra_parse_kinds), ("clepsydra/parse.leads", Rows.laid_clepsydra_parse_leads), ("clepsydra/parse.words", Rows.laid_clepsydra_parse_words)] W ∧ handlesMet Tryz.prog [("errors.errorType", Rows.laid_errors_errorType)] W := h
  obtain ⟨⟨ps, hl, _⟩, hh⟩ := h'
  have m0 : ∀ (a : String × DataW Unit) (r : List (String × DataW Unit)), a ∈ a :: r := fun a r => List.mem_cons_self
  exact vars_laid hl hh (m0 _ _) (.tail _ (.tail _ (.tail _ (.tail _ (.tail _ (m0 _ _)))))) (.tail _ (.tail _ (.tail _ (.tail _ (.tail _ (.tail _ (m0 _ _))))))) (.tail _ (.tail _ (.tail _ (.tail _ (.tail _ (.tail _ (.tail _ (m0 _ _)))))))) (.tail _ (.tail _ (.tail _ (.tail _ (.tail _ (.tail _ (.tail _ (.tail _ (m0 _ _))))))))) (.tail _ (.tail _ (.tail _ (.tail _ (.tail _ (.tail _ (.tail _ (.tail _ (.tail _ (m0 _ _)))))))))) (.tail _ (.tail _ (.tail _ (.tail _ (.tail _ (.tail _ (.tail _ (.tail _ (.tail _ (.tail _ (m0 _ _))))))))))) (.tail _ (m0 _ _))
end Go.Proofs.YtobamalnbjbmiaaGreatDoor
