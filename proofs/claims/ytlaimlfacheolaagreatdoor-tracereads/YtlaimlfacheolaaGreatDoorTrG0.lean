/- chapter 14: ticks as they are read: rows of numbers of one's own. -/
import Derived.Test.YtlaimlfacheolaaGreatDoorTrF
namespace Go.Proofs.YtlaimlfacheolaaGreatDoor
open Go.RowKit
namespace Tq
open Nx (Ints lt_of_block)
/-- rows of numbers of one's own, from block S on -/
def OutR (S : Nat) (w : World) (v : Value) (rows : List (List Int)) : Prop :=
  ∃ xs : List Value, w.ownsRow S 36 1 v rows.length xs ∧ ∀ k, k < rows.length → ∃ u, xs[k]? = some u ∧ Ints (fun b => S ≤ b ∧ b < w.heap.size ∧ v.ownBlock ≠ some b) w u (rows.getD k [])
theorem OutR.nil (S : Nat) (w : World) : OutR S w (.slice none 0 0) [] := ⟨[], World.ownsRow_nil _ _ _ _, fun k hk => absurd hk (by simp)⟩
theorem OutR.below {S : Nat} {w w' : World} {v : Value} {rows : List (List Int)} (h : OutR S w v rows) (hb : Below w.heap.size w w') : OutR S w' v rows := by
  obtain ⟨xs, h1, h2⟩ := h
  refine ⟨xs, Okeep h1 hb, fun k hk => ?_⟩
  obtain ⟨u, hu, hi⟩ := h2 k hk
  exact ⟨u, hu, hi.carry fun b hA hl => ⟨⟨hA.1, Nat.lt_of_lt_of_le hl hb.size, hA.2.2⟩, hb.block b hl⟩⟩
theorem OutR.keep {S S' : Nat} {w w' : World} {v : Value} {rows : List (List Int)} (h : OutR S w v rows) (hS : S' ≤ S) (hb : ∀ b, S ≤ b → b < w.heap.size → w'.heap[b]? = w.heap[b]?) (hs : w.heap.size ≤ w'.heap.size) : OutR S' w' v rows := by
  obtain ⟨xs, h1, h2⟩ := h
  refine ⟨xs, Omono hS ⟨h1.1, ?_⟩, fun k hk => ?_⟩
  · rcases h1.2 with h3 | ⟨g, cap, cur, rfl, hB, hg, hr⟩
    · exact .inl h3
    · exact .inr ⟨g, cap, cur, rfl, hB, by rw [hb g hB (lt_of_block hg)]; exact hg, hr⟩
  · obtain ⟨u, hu, hi⟩ := h2 k hk
    exact ⟨u, hu, hi.carry fun b hA hl => ⟨⟨by omega, by omega, hA.2.2⟩, hb b hA.1 hl⟩⟩
theorem OutR.form {S : Nat} {w : World} {v : Value} {rows : List (List Int)} (h : OutR S w v rows) : ∃ ad cap, v = .slice ad rows.length cap := by
  obtain ⟨xs, h1, _⟩ := h
  exact ownForm h1
theorem ints_slice {A : Nat → Prop} {w : World} {u : Value} {zs : List Int} (h : Ints A w u zs) : ∃ ad cap, u = .slice ad zs.length cap := by
  obtain ⟨ad, b, off, cap, rfl, _⟩ := h
  exact ⟨ad, cap, rfl⟩
/-- one more -/
theorem OutR.more {S : Nat} {w : World} {v u : Value} {rows : List (List Int)} {zs : List Int} (h : OutR S w v rows) (hu : Ints (fun b => S ≤ b ∧ b < w.heap.size ∧ v.ownBlock ≠ some b) w u zs) (hS : S ≤ w.heap.size) (hl : rows.length ≤ 100000) :
    ∃ g cap w5, (Builtin.append_ #[22, 22] 22 #[v, .slice (some ⟨w.heap.size, 0, none⟩) 1 1]).run Tryz.prog (w.alloc (.cells #[u] 36)) = .ok (.slice (some ⟨g, 0, none⟩) (rows.length + 1) cap) w5 ∧ OutR S w5 (.slice (some ⟨g, 0, none⟩) (rows.length + 1) cap) (rows ++ [zs]) ∧ Below S w w5 ∧ (w.alloc (.cells #[u] 36)).grownBy w5 v.ownBlock ∧ S ≤ g := by
  obtain ⟨xs, h1, h2⟩ := h
  obtain ⟨ua, uc, hus⟩ := ints_slice hu
  obtain ⟨g, cap, w5, hr, hown, hg, hat, hb⟩ := appV Tryz.underlying22 infoR rfl (by decide) h1 u (by rw [hus]; rfl) hS hl
  have hsz := hg.size
  rw [World.size_alloc] at hsz
  have kp : ∀ b, b < w.heap.size → v.ownBlock ≠ some b → w5.heap[b]? = w.heap[b]? := fun b hl hn => by
    rw [hg.block b (by rw [World.size_alloc]; omega) (fun e => hn e.symm)]
    exact Below.heap_alloc _ _ _ hl
  have hng : ∀ b, b < w.heap.size → v.ownBlock ≠ some b → (Value.slice (some ⟨g, 0, none⟩) (rows.length + 1) cap).ownBlock ≠ some b := fun b hl hn e => by
    have : g = b := by simpa [Value.ownBlock] using e
    subst this
    rcases hat with e | e
    · exact hn e
    · omega
  have hlx : xs.length = rows.length := by rw [h1.1]; omega
  refine ⟨g, cap, w5, hr, ⟨xs ++ [u], by rw [List.length_append, List.length_singleton]; exact hown, fun k hk => ?_⟩, hb, hg, (hown.lt g rfl).1⟩
  rw [List.length_append, List.length_singleton] at hk
  by_cases hlt : k < rows.length
  · obtain ⟨y, hy, hi⟩ := h2 k hlt
    refine ⟨y, by rw [List.getElem?_append_left (by omega)]; exact hy, ?_⟩
    have : (rows ++ [zs]).getD k [] = rows.getD k [] := by rw [List.getD_eq_getElem?_getD, List.getElem?_append_left hlt, ← List.getD_eq_getElem?_getD]
    rw [this]
    exact hi.carry fun b hA hl => ⟨⟨hA.1, by omega, hng b hl hA.2.2⟩, kp b hl hA.2.2⟩
  · obtain rfl : k = rows.length := by omega
    refine ⟨u, by rw [← hlx]; simp, ?_⟩
    have : (rows ++ [zs]).getD rows.length [] = zs := by simp [List.getD_eq_getElem?_getD]
    rw [this]
    exact hu.carry fun b hA hl => ⟨⟨hA.1, by omega, hng b hl hA.2.2⟩, kp b hl hA.2.2⟩
/-- read row by row -/
theorem OutR.at {S : Nat} {w : World} {v : Value} {rows : List (List Int)} (h : OutR S w v rows) : ∃ ad b cap, v = .slice ad rows.length cap ∧ (0 < rows.length → ad = some ⟨b, 0, none⟩) ∧ ∀ k, k < rows.length → ∃ u, w.cell? ⟨b, k, none⟩ = some u ∧ Ints (fun b => S ≤ b ∧ b < w.heap.size) w u (rows.getD k []) := by
  obtain ⟨xs, h1, h2⟩ := h
  rcases h1.2 with ⟨rfl, h0⟩ | ⟨g, cap, cur, rfl, _⟩
  · rw [h0]
    exact ⟨none, 0, 0, rfl, fun h => absurd h (by simp), fun k hk => absurd hk (by omega)⟩
  · refine ⟨_, g, cap, rfl, fun _ => rfl, fun k hk => ?_⟩
    obtain ⟨u, hu, hi⟩ := h2 k hk
    have h3 := h1.cells (g := g) rfl k u hu
    have ad : (⟨g, 0, none⟩ : Addr).add k = ⟨g, k, none⟩ := by unfold Addr.add; split <;> simp_all
    rw [ad] at h3
    exact ⟨u, h3, hi.carry fun b hA hl => ⟨⟨hA.1, hA.2.1⟩, rfl⟩⟩
/-- what was read ahead of line i -/
def glue (rs : List (List Int)) : Except (Int × Int) (List (List Int)) → Except (Int × Int) (List (List Int))
  | .ok x => .ok (rs ++ x)
  | .error e => .error e
theorem rd_step {ls : List By} {i : Nat} {rs : List (List Int)} (hi : i < ls.length) (h : rdT 0 ls = glue rs (rdT i (ls.drop i))) {t : List Int} (ht : numsW (wordsT (ls.getD i [])) = some t) (h60 : i ≠ 60) : rdT 0 ls = glue (rs ++ [t]) (rdT (i + 1) (ls.drop (i + 1))) := by
  rw [h, List.drop_eq_getElem_cons hi, rdT]
  have e : ls.getD i [] = ls[i] := by rw [List.getD_eq_getElem?_getD, List.getElem?_eq_getElem hi]; rfl
  rw [e] at ht
  rw [ht]
  simp only [if_neg h60]
  cases rdT (i + 1) (ls.drop (i + 1)) with
  | ok x => simp [glue]
  | error e => rfl
theorem rd_form {ls : List By} {i : Nat} {rs : List (List Int)} (hi : i < ls.length) (h : rdT 0 ls = glue rs (rdT i (ls.drop i))) (ht : numsW (wordsT (ls.getD i [])) = none) : rdT 0 ls = .error (3, i) := by
  rw [h, List.drop_eq_getElem_cons hi, rdT]
  have e : ls.getD i [] = ls[i] := by rw [List.getD_eq_getElem?_getD, List.getElem?_eq_getElem hi]; rfl
  rw [e] at ht
  rw [ht]
  rfl
theorem rd_many {ls : List By} {i : Nat} {rs : List (List Int)} (hi : i < ls.length) (h : rdT 0 ls = glue rs (rdT i (ls.drop i))) {t : List Int} (ht : numsW (wordsT (ls.getD i [])) = some t) (h60 : i = 60) : rdT 0 ls = .error (4, -1) := by
  rw [h, List.drop_eq_getElem_cons hi, rdT]
  have e : ls.getD i [] = ls[i] := by rw [List.getD_eq_getElem?_getD, List.getElem?_eq_getElem hi]; rfl
  rw [e] at ht
  rw [ht]
  simp only [if_pos h60]
  rfl
theorem rd_end {ls : List By} {rs : List (List Int)} (h : rdT 0 ls = glue rs (rdT ls.length (ls.drop ls.length))) : rdT 0 ls = .ok rs := by
  rw [h, List.drop_length, rdT, glue, List.append_nil]
theorem ln_len : ∀ (l cur : By), (lnL cur l).length ≤ l.length + 1
  | [], cur => by rw [lnL]; split <;> simp
  | b :: t, cur => by
    rw [lnL]
    split
    · have := ln_len t []; simp; omega
    · have := ln_len t (cur ++ [b]); simp; omega
theorem ln_size : ∀ (l cur : By), ∀ x ∈ lnL cur l, x.length ≤ cur.length + l.length
  | [], cur, x, h => by
    rw [lnL] at h
    split at h
    · simp at h
    · obtain rfl : x = cur := by simpa using h
      simp
  | b :: t, cur, x, h => by
    rw [lnL] at h
    split at h
    · rcases List.mem_cons.1 h with rfl | h
      · simp
      · have := ln_size t [] x h; simp at this ⊢; omega
    · have := ln_size t _ x h; simp at this ⊢; omega
theorem line_size {l : By} {k : Nat} (hk : k < (linesT l).length) : ((linesT l).getD k []).length ≤ l.length := by
  have := ln_size l [] ((linesT l).getD k []) (by rw [List.getD_eq_getElem?_getD, show (linesT l)[k]? = some (linesT l)[k] from List.getElem?_eq_getElem hk]; exact List.getElem_mem _)
  simpa using this
end Tq
end Go.Proofs.YtlaimlfacheolaaGreatDoor
