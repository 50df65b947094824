/- chapter 14: what the program's reader holds while it goes through lines. -/
import Derived.Test.YtlaimlfacheolaaGreatDoorTrH
namespace Go.Proofs.YtlaimlfacheolaaGreatDoor
open Go.RowKit Go.Shelf
namespace Tq
open Nx (Ints lt_of_block)
abbrev rrT : TypeId := 22
abbrev erT : TypeId := 30
theorem cells_of {w : World} {b o : Nat} {v : Value} (h : w.cell? ⟨b, o, none⟩ = some v) : ∃ l T f, w.heap[b]? = some (.cells l T f) := by
  obtain ⟨x, hx, hc⟩ := cells_of_cell h
  cases x with
  | cells l T f => exact ⟨l, T, f, hx⟩
  | _ => cases hc
theorem ints_kept {A A' : Nat → Prop} {w w' : World} {v : Value} {zs : List Int} (h : Ints A w v zs) (hA : ∀ b, A b → b < w.heap.size → A' b) (hc : ∀ (b : Nat) l T f, w.heap[b]? = some (.cells l T f) → w'.heap[b]? = w.heap[b]?) : Ints A' w' v zs := by
  obtain ⟨ad, b, off, cap, rfl, h1, h2⟩ := h
  refine ⟨ad, b, off, cap, rfl, fun hp => ?_, fun j hj => ?_⟩
  · obtain ⟨e, ha⟩ := h1 hp
    exact ⟨e, hA b ha (Nx.lt_of_cell (h2 0 hp))⟩
  · obtain ⟨l, T, f, hl⟩ := cells_of (h2 j hj)
    rw [Nx.cell_of_block (hc b l T f hl)]; exact h2 j hj
theorem OutR.kept {S : Nat} {w w' : World} {v : Value} {rows : List (List Int)} (h : OutR S w v rows) (hc : ∀ (b : Nat) l T f, w.heap[b]? = some (.cells l T f) → w'.heap[b]? = w.heap[b]?) (hs : w.heap.size ≤ w'.heap.size) : OutR S w' v rows := by
  obtain ⟨xs, h1, h2⟩ := h
  refine ⟨xs, ⟨h1.1, ?_⟩, fun k hk => ?_⟩
  · rcases h1.2 with h3 | ⟨g, cap, cur, rfl, hB, hg, hr⟩
    · exact .inl h3
    · exact .inr ⟨g, cap, cur, rfl, hB, by rw [hc g _ _ _ hg]; exact hg, hr⟩
  · obtain ⟨u, hu, hi⟩ := h2 k hk
    exact ⟨u, hu, ints_kept hi (fun b hA _ => ⟨hA.1, by omega, hA.2.2⟩) hc⟩
theorem OutR.kept' {S S' : Nat} {w w' : World} {v : Value} {rows : List (List Int)} (h : OutR S w v rows) (hS : S' ≤ S) (hc : ∀ (b : Nat) l T f, S ≤ b → w.heap[b]? = some (.cells l T f) → w'.heap[b]? = w.heap[b]?) (hs : w.heap.size ≤ w'.heap.size) : OutR S' w' v rows := by
  obtain ⟨xs, h1, h2⟩ := h
  refine ⟨xs, Omono hS ⟨h1.1, ?_⟩, fun k hk => ?_⟩
  · rcases h1.2 with h3 | ⟨g, cap, cur, rfl, hB, hg, hr⟩
    · exact .inl h3
    · exact .inr ⟨g, cap, cur, rfl, hB, by rw [hc g _ _ _ hB hg]; exact hg, hr⟩
  · obtain ⟨u, hu, ad, b, off, cap, rfl, h3, h4⟩ := h2 k hk
    refine ⟨_, hu, ad, b, off, cap, rfl, fun hp => ?_, fun j hj => ?_⟩
    · obtain ⟨e, hA⟩ := h3 hp
      exact ⟨e, by omega, by omega, hA.2.2⟩
    · obtain ⟨e, hA⟩ := h3 (by omega)
      obtain ⟨l, T, f, hl⟩ := cells_of (h4 j hj)
      rw [Nx.cell_of_block (hc b l T f hA.1 hl)]; exact h4 j hj
/-- ahead of a line -/
structure RdI (ls : List By) (w : World) (q : Nat) (pre : List (XL ls)) (W : World) : Prop where
  fine : ∃ rs : List (List Int), pre.map (fun x => numsW (wordsT x.1.2)) = rs.map some ∧ ∃ a c, W.heap[q + 2]? = some (.cells #[.slice a rs.length c] rrT (0, 0)) ∧ OutR (q + 3) W (.slice a rs.length c) rs
  few : ∀ x ∈ pre, x.1.1 ≠ 60
  bel : Below q w W
  res : W.heap[q]? = some (.cells #[.slice none 0 0] rrT (0, 0))
  err : W.heap[q + 1]? = some (.cells #[.nilIface] erT (0, 0))
  big : q + 3 ≤ W.heap.size
/-- what is told, as an error -/
def ErrV (q : Nat) (W : World) (ev : Value) (f : Int × Int) : Prop :=
  (f = (4, -1) ∧ ev = .iface 24 (.int .i64 4)) ∨ ∃ g i : Nat, f = (3, (i : Int)) ∧ q ≤ g ∧ ev = .iface 48 (.pointer (some ⟨g, 0, none⟩)) ∧ W.heap[g]? = some (.cells #[.int .i64 3, .int .i64 (i : Int)] 49 (0, 0))
/-- at a line that ends it -/
structure RdX (ls : List By) (w : World) (q : Nat) (pre : List (XL ls)) (W : World) : Prop where
  fine : ∃ (p0 : List (XL ls)) (x : XL ls) (rs : List (List Int)), pre = p0 ++ [x] ∧ p0.map (fun x => numsW (wordsT x.1.2)) = rs.map some ∧ (∀ x ∈ p0, x.1.1 ≠ 60) ∧
    ∃ ev f, W.heap[q + 1]? = some (.cells #[ev] erT (0, 0)) ∧ ErrV q W ev f ∧ ((numsW (wordsT x.1.2) = none ∧ f = (3, (x.1.1 : Int))) ∨ (∃ t, numsW (wordsT x.1.2) = some t) ∧ x.1.1 = 60 ∧ f = (4, -1))
  bel : Below q w W
  res : W.heap[q]? = some (.cells #[.slice none 0 0] rrT (0, 0))
theorem kept_cells {B : Nat} {W W' : World} {row : Option Nat} (hg : W.grownBy W' row) (hr : ∀ r, row = some r → B ≤ r ∧ ∃ o : Obj, W.heap[r]? = some o ∧ o.isCells = false) : ∀ (b : Nat) l T f, W.heap[b]? = some (.cells l T f) → W'.heap[b]? = W.heap[b]? := fun b l T f hb =>
  hg.block b (lt_of_block hb) fun e => by
    obtain ⟨_, o, ho, hc⟩ := hr b e.symm
    rw [hb] at ho
    injection ho with ho
    subst ho
    cases hc
theorem below_kept {B q : Nat} {w W W' : World} {row : Option Nat} (hq : q ≤ B) (h : Below q w W) (hs : q ≤ W.heap.size) (hg : W.grownBy W' row) (hr : ∀ r, row = some r → B ≤ r ∧ ∃ o : Obj, W.heap[r]? = some o ∧ o.isCells = false) : Below q w W' :=
  ⟨hg.os.trans h.os, hg.tape.trans h.tape, hg.output.trans h.output, Nat.le_trans h.size hg.size, fun k hk => by rw [hg.block k (by omega) (fun e => by have := (hr k e.symm).1; omega)]; exact h.block k hk⟩
theorem rdI_own (ls : List By) (w : World) (q B : Nat) (hq : q + 3 ≤ B) : OwnFrom B (RdI ls w q) := fun pre W W' row hs hg hr => by
  have kc := kept_cells hg hr
  obtain ⟨rs, h1, a, c, h2, h3⟩ := hs.fine
  exact ⟨⟨rs, h1, a, c, by rw [kc _ _ _ _ h2]; exact h2, h3.kept kc hg.size⟩, hs.few, below_kept (B := B) (by omega) hs.bel (by have := hs.big; omega) hg hr, by rw [kc _ _ _ _ hs.res]; exact hs.res, by rw [kc _ _ _ _ hs.err]; exact hs.err, Nat.le_trans hs.big hg.size⟩
theorem rdX_own (ls : List By) (w : World) (q B : Nat) (hq : q + 3 ≤ B) (hw : q ≤ w.heap.size) : OwnFrom B (RdX ls w q) := fun pre W W' row hs hg hr => by
  have kc := kept_cells hg hr
  obtain ⟨p0, x, rs, h1, h2, h3, ev, f, h4, h5, h6⟩ := hs.fine
  refine ⟨⟨p0, x, rs, h1, h2, h3, ev, f, by rw [kc _ _ _ _ h4]; exact h4, ?_, h6⟩, below_kept (B := B) (by omega) hs.bel (Nat.le_trans hw hs.bel.size) hg hr, by rw [kc _ _ _ _ hs.res]; exact hs.res⟩
  rcases h5 with h5 | ⟨g, i, e1, e2, e3, e4⟩
  · exact .inl h5
  · exact .inr ⟨g, i, e1, e2, e3, by rw [kc _ _ _ _ e4]; exact e4⟩
/-- what has come, and what is to come -/
theorem pre_glue (ls : List By) : ∀ (k : Nat), k ≤ ls.length → ∀ rs : List (List Int), (preL ls k).map (fun x => numsW (wordsT x.1.2)) = rs.map some → (∀ x ∈ preL ls k, x.1.1 ≠ 60) → rs.length = k ∧ rdT 0 ls = glue rs (rdT k (ls.drop k))
  | 0, _, rs, h, _ => by
    obtain rfl : rs = [] := by simpa [preL] using h.symm
    exact ⟨rfl, by rw [List.drop_zero]; cases rdT 0 ls <;> rfl⟩
  | k + 1, hk, rs, h, h60 => by
    rw [preL, dif_pos (by omega)] at h h60
    have hlen := congrArg List.length h
    rw [List.length_map, List.length_append, preL_len ls k (by omega), List.length_map, List.length_singleton] at hlen
    obtain ⟨r0, t, rfl⟩ : ∃ r0 t, rs = r0 ++ [t] := by
      rcases List.eq_nil_or_concat rs with rfl | ⟨r0, t, rfl⟩
      · simp at hlen
      · exact ⟨r0, t, by simp⟩
    rw [List.map_append, List.map_append] at h
    obtain ⟨e1, e2⟩ := List.append_inj' h (by simp)
    obtain ⟨i1, i2⟩ := pre_glue ls k (by omega) r0 e1 fun x hx => h60 x (List.mem_append_left _ hx)
    have e3 : numsW (wordsT (ls.getD k [])) = some t := by
      have : [numsW (wordsT (ls.getD k []))] = [some t] := e2
      injection this
    refine ⟨by rw [List.length_append, i1]; rfl, rd_step (by omega) i2 e3 ?_⟩
    exact h60 (xlAt ls k (by omega)) (by simp)
theorem rd_done {ls : List By} {w W : World} {q : Nat} (h : RdI ls w q (preL ls ls.length) W) : ∃ rs a c, rdT 0 ls = .ok rs ∧ W.heap[q + 2]? = some (.cells #[.slice a rs.length c] rrT (0, 0)) ∧ OutR (q + 3) W (.slice a rs.length c) rs := by
  obtain ⟨rs, h1, a, c, h2, h3⟩ := h.fine
  exact ⟨rs, a, c, rd_end (pre_glue ls _ (Nat.le_refl _) rs h1 h.few).2, h2, h3⟩
theorem rd_stop {ls : List By} {w W : World} {q k : Nat} {hk : k < ls.length} (h : RdX ls w q (preL ls k ++ [xlAt ls k hk]) W) : ∃ ev f, rdT 0 ls = .error f ∧ W.heap[q + 1]? = some (.cells #[ev] erT (0, 0)) ∧ ErrV q W ev f := by
  obtain ⟨p0, x, rs, h1, h2, h3, ev, f, h4, h5, h6⟩ := h.fine
  obtain ⟨e1, e2⟩ := List.append_inj' h1 rfl
  have e3 : xlAt ls k hk = x := by injection e2
  subst e1
  subst e3
  obtain ⟨i1, i2⟩ := pre_glue ls k (by omega) rs h2 h3
  refine ⟨ev, f, ?_, h4, h5⟩
  rcases h6 with ⟨h6, rfl⟩ | ⟨⟨t, h6⟩, h7, rfl⟩
  · exact rd_form hk i2 h6
  · exact rd_many hk i2 h6 h7
/-- one more line -/
theorem rdI_more {ls : List By} {w W W' : World} {q : Nat} {pre : List (XL ls)} {x : XL ls} {rs : List (List Int)} {t : List Int} {a : Option Addr} {c : Nat} (h : RdI ls w q pre W) (hrs : pre.map (fun x => numsW (wordsT x.1.2)) = rs.map some) (ht : numsW (wordsT x.1.2) = some t) (h60 : x.1.1 ≠ 60) (hb : Below q w W') (h0 : W'.heap[q]? = W.heap[q]?) (h1 : W'.heap[q + 1]? = W.heap[q + 1]?) (h2 : W'.heap[q + 2]? = some (.cells #[.slice a (rs.length + 1) c] rrT (0, 0))) (ho : OutR (q + 3) W' (.slice a (rs.length + 1) c) (rs ++ [t])) (hs : q + 3 ≤ W'.heap.size) : RdI ls w q (pre ++ [x]) W' := by
  refine ⟨⟨rs ++ [t], ?_, a, c, ?_, ?_⟩, fun y hy => ?_, hb, h0.trans h.res, h1.trans h.err, hs⟩
  · rw [List.map_append, hrs, List.map_append, List.map_singleton, ht]; rfl
  · rw [List.length_append, List.length_singleton]; exact h2
  · rw [List.length_append, List.length_singleton]; exact ho
  · rcases List.mem_append.1 hy with hy | hy
    · exact h.few y hy
    · obtain rfl : y = x := by simpa using hy
      exact h60
end Tq
end Go.Proofs.YtlaimlfacheolaaGreatDoor
