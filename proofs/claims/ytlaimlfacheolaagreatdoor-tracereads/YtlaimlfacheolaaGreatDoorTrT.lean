/- chapter 14: the law TraceReads, of whatever it is handed. -/
import Derived.Test.YtlaimlfacheolaaGreatDoorTrR
namespace Go.Proofs.YtlaimlfacheolaaGreatDoor
open Go.RowKit
namespace Tq
open Nx (Ints lt_of_block)
theorem rd_rows : ∀ (ls : List By) (i : Nat) (rs : List (List Int)), rdT i ls = .ok rs → rs.length = ls.length ∧ ∀ k, k < rs.length → (rs.getD k []).length = (wordsT (ls.getD k [])).length
  | [], i, rs, h => by
    rw [rdT] at h
    obtain rfl : [] = rs := by injection h
    exact ⟨rfl, fun k hk => absurd hk (by simp)⟩
  | l :: r, i, rs, h => by
    rw [rdT] at h
    cases e : numsW (wordsT l) with
    | none => rw [e] at h; cases h
    | some t =>
      rw [e] at h
      simp only at h
      split at h
      · cases h
      · cases e2 : rdT (i + 1) r with
        | error f => rw [e2] at h; cases h
        | ok x =>
          rw [e2] at h
          obtain rfl : t :: x = rs := by injection h
          obtain ⟨h1, h2⟩ := rd_rows r (i + 1) x e2
          refine ⟨by simp [h1], fun k hk => ?_⟩
          cases k with
          | zero => exact nums_len e
          | succ k => exact h2 k (by simpa using hk)
theorem read_rows {l : By} {rs : List (List Int)} (h : readT l = .ok rs) : rs.length ≤ l.length + 1 ∧ ∀ k, k < rs.length → (rs.getD k []).length ≤ l.length + 1 := by
  obtain ⟨h1, h2⟩ := rd_rows _ _ _ h
  have h3 := ln_len l []
  refine ⟨by rw [h1]; exact h3, fun k hk => ?_⟩
  rw [h2 k hk]
  have h4 := line_size (l := l) (k := k) (by rw [← h1]; exact hk)
  have h5 := wl_len ((linesT l).getD k []) []
  unfold wordsT
  omega
/-- what is told in a card's variables -/
structure TEnv (w : World) : Prop where
  gv : GV w
  et : ErrType w
  f0 : w.cell? ⟨0, 0, none⟩ = some (.int .i64 0)
  f1 : w.cell? ⟨0, 1, none⟩ = some (.int .i64 (-1))
theorem TEnv.below {w w' : World} (h : TEnv w) (hb : Below w.heap.size w w') : TEnv w' :=
  ⟨h.gv.below hb h.gv.big, ck_cell hb h.et, ck_cell hb h.f0, ck_cell hb h.f1⟩
set_option maxRecDepth 100000 in
set_option maxHeartbeats 4000000 in
theorem law_big {s : ByteArray} (hs : 1500 < s.size) (v : Value) (w : World) :
    Calls Tryz.prog 3 #[.string s, v] w fun e w' => e = .returned (.bool true) ∧ Hid (Below w.heap.size w w') := by
  go_enter Tryz.func3, Tryz.ntmps3
  go_wp2_with fail
  go_ret
  exact ⟨rfl, Below.refl _ _⟩
set_option maxRecDepth 100000 in
set_option maxHeartbeats 4000000 in
theorem law_many {s : ByteArray} (hs : s.size ≤ 1500) {v : Value} {w : World} (hf : Calls Tryz.prog 4 #[v] w fun e w' => e = .returned (.bool false) ∧ w' = w) :
    Calls Tryz.prog 3 #[.string s, v] w fun e w' => e = .returned (.bool true) ∧ Hid (Below w.heap.size w w') := by
  go_enter Tryz.func3, Tryz.ntmps3
  go_wp2_with (go_at_call 4; refine hf.mono ?_; rintro e w' ⟨rfl, rfl⟩)
  go_ret
  exact ⟨rfl, Below.refl _ _⟩
theorem refRead_all {l : By} (hl : l.length ≤ 40000) {w : World} (h : TEnv w) :
    Calls Tryz.prog 5 #[.string (st l)] w fun e w' => ∃ ad n cap f0 f1, e = .returned (.tuple #[.slice ad n cap, .agg #[.int .i64 f0, .int .i64 f1]]) ∧ Hid (RefO w w' l (.slice ad n cap) (f0, f1)) := by
  by_cases h0 : l = []
  · subst h0; exact refRead_nil h.f0 h.f1
  · exact refRead_any h0 hl h.gv h.f0 h.f1
set_option maxRecDepth 100000 in
set_option maxHeartbeats 8000000 in
theorem law_few {l : By} (hs : l.length ≤ 1500) {v : Value} {rows : List (List Int)} {w : World} (hr : RowsI w v rows) (he : TEnv w) (hN : ∀ k j, I64 ((rows.getD k []).getD j 0)) (hl : rows.length ≤ 40) (hm : ∀ k, k < rows.length → (rows.getD k []).length ≤ 30) (hf : Calls Tryz.prog 4 #[v] w fun e w' => e = .returned (.bool true) ∧ w' = w) :
    Calls Tryz.prog 3 #[.string (st l), v] w fun e w' => e = .returned (.bool true) ∧ Hid (Below w.heap.size w w') := by
  have hrd := refRead_all (l := l) (by omega) he
  obtain ⟨s, hs'⟩ : ∃ s, s = st l := ⟨_, rfl⟩
  have hsz : s.size ≤ 1500 := by rw [hs', st_size]; exact hs
  have hnx : ∀ W, Below w.heap.size w W → Calls Tryz.prog 6 #[.string s] W fun e w' => ∃ ad n cap ev, e = .returned (.tuple #[.slice ad n cap, ev]) ∧ Hid (ReadO W w' l (.slice ad n cap) ev) := fun W hb => by
    rw [hs']; exact read_any (by omega) (he.below hb).gv
  have HH : Hid (RowsI w v rows ∧ TEnv w ∧ (∀ k j, I64 ((rows.getD k []).getD j 0)) ∧ rows.length ≤ 40 ∧ (∀ k, k < rows.length → (rows.getD k []).length ≤ 30) ∧ l.length ≤ 1500) := ⟨hr, he, hN, hl, hm, hs⟩
  have HNX : Hid (∀ W, Below w.heap.size w W → Calls Tryz.prog 6 #[.string s] W fun e w' => ∃ ad n cap ev, e = .returned (.tuple #[.slice ad n cap, ev]) ∧ Hid (ReadO W w' l (.slice ad n cap) ev)) := hnx
  rw [← hs'] at hrd ⊢
  clear hr he hN hl hm hs hs' hnx
  go_enter Tryz.func3, Tryz.ntmps3
  go_wp2_with (first
    | (go_at_call 4; refine hf.mono ?_; rintro e w' ⟨rfl, hw'⟩; obtain rfl := hw'.symm; clear hf)
    | (go_at_call 5; refine hrd.mono ?_; rintro e w1 ⟨a1, n1, c1, f0, f1, rfl, H1⟩; clear hrd
       obtain ⟨X, hX⟩ : ∃ X, X = w1.alloc (.cells #[.int .i64 f0, .int .i64 f1] ftT) := ⟨_, rfl⟩
       have kX : X.heap[w1.heap.size]? = some (.cells #[.int .i64 f0, .int .i64 f1] ftT (0, 0)) := by { rw [hX]; exact ck_new w1 _ }
       have bX : Below w1.heap.size w1 X := by { rw [hX]; exact ck_grown w1 _ }
       have hn2 := HNX.out X (ck_all H1.out.1 bX)
       have HX : Hid (X = _ ∧ X.heap[w1.heap.size]? = some (.cells #[.int .i64 f0, .int .i64 f1] ftT (0, 0)) ∧ Below w1.heap.size w1 X ∧ Below w.heap.size w X) := ⟨hX, kX, bX, ck_all H1.out.1 bX⟩
       obtain ⟨q, hq⟩ : ∃ q, q = w1.heap.size := ⟨_, rfl⟩
       have HQ : Hid (q = w1.heap.size) := hq
       clear hq kX bX
       rw [hX] at hn2
       clear hX)
    | (go_at_call 6; refine hn2.mono ?_; rintro e w2 ⟨a2, n2, c2, ev, rfl, H2⟩; clear hn2
       rw [← HX.out.1] at H2
       obtain ⟨rs, e0, e1, e2, o1, o2, his⟩ := read_both H1.out HX.out.2.2.1 H2.out
       have hrb : rs.length ≤ 1501 ∧ ∀ k, k < rs.length → (rs.getD k []).length ≤ 1501 := by { have h6 := HH.out.2.2.2.2.2; rcases e0 with e0 | rfl; · { obtain ⟨g1, g2⟩ := read_rows e0; exact ⟨by omega, fun k hk => by have := g2 k hk; omega⟩ }; · { exact ⟨by simp, fun k hk => absurd hk (by simp)⟩ } }
       have k2 := ck_block H2.out.1 HX.out.2.1
       have c0 := cell_row k2 0 (u := .int .i64 f0) rfl
       have c1' := cell_row k2 1 (u := .int .i64 f1) rfl
       have hw2 := HX.out.2.2.2.trans (H2.out.1.mono HX.out.2.2.2.size)
       have hi2 := his w2 (Below.refl _ _) (HH.out.2.1.below hw2).et
       have H3 : Hid (n1 = rs.length ∧ n2 = rs.length ∧ OutR w.heap.size w2 (.slice a1 n1 c1) rs ∧ OutR X.heap.size w2 (.slice a2 n2 c2) rs ∧ Below w.heap.size w w2 ∧ rs.length ≤ 1501 ∧ (∀ k, k < rs.length → (rs.getD k []).length ≤ 1501)) := ⟨e1, e2, o1, o2, hw2, hrb.1, hrb.2⟩
       obtain rfl : n2 = n1 := e2.trans e1.symm
       clear his e0 e1 e2 o1 o2 hw2 k2 hrb)
    | (go_at_call 7; refine hi2.mono ?_; rintro e w3 ⟨rfl, h3⟩; clear hi2
       have hb3 : Below w.heap.size w w3 := H3.out.2.2.2.2.1.trans (h3.out.mono H3.out.2.2.2.2.1.size)
       have hp := print_any (HH.out.1.below hb3) (HH.out.2.1.below hb3).gv HH.out.2.2.1 (by have := HH.out.2.2.2.1; omega) (fun k hk => by have := HH.out.2.2.2.2.1 k hk; omega)
       have HB3 : Hid (Below w.heap.size w w3) := hb3
       clear hb3)
    | (go_at_call 8; refine hp.mono ?_; rintro e w4 ⟨rfl, h4⟩; clear hp
       have hb4 : Below w.heap.size w w4 := HB3.out.trans (h4.out.mono HB3.out.size)
       have hp2 := refPrint_any (HH.out.1.below hb4) (HH.out.2.1.below hb4).gv HH.out.2.2.1 (by have := HH.out.2.2.2.1; omega) (fun k hk => by have := HH.out.2.2.2.2.1 k hk; omega)
       have HB4 : Hid (Below w.heap.size w w4) := hb4
       clear hb4)
    | (go_at_call 9; refine hp2.mono ?_; rintro e w5 ⟨rfl, h5⟩; clear hp2)
    | fail)
  obtain ⟨B1, hA1, hC1⟩ : ∃ B1, (0 < n2 → a1 = some ⟨B1, 0, none⟩) ∧ ∀ k, k < n2 → ∃ u, w2.cell? ⟨B1, k, none⟩ = some u ∧ Ints (fun b => b < w2.heap.size) w2 u (rs.getD k []) := by
    obtain ⟨ad, b, cap, he, h1, h2⟩ := H3.out.2.2.1.at
    injection he with e1 e2 e3
    subst e1
    refine ⟨b, fun hp => h1 (by omega), fun k hk => ?_⟩
    obtain ⟨u, hu, hi⟩ := h2 k (by omega)
    exact ⟨u, hu, hi.carry fun b hb hl => ⟨hl, rfl⟩⟩
  obtain ⟨B2, hA2, hC2⟩ : ∃ B2, (0 < n2 → a2 = some ⟨B2, 0, none⟩) ∧ ∀ k, k < n2 → ∃ u, w2.cell? ⟨B2, k, none⟩ = some u ∧ Ints (fun b => b < w2.heap.size) w2 u (rs.getD k []) := by
    obtain ⟨ad, b, cap, he, h1, h2⟩ := H3.out.2.2.2.1.at
    injection he with e1 e2 e3
    subst e1
    refine ⟨b, fun hp => h1 (by omega), fun k hk => ?_⟩
    obtain ⟨u, hu, hi⟩ := h2 k (by omega)
    exact ⟨u, hu, hi.carry fun b hb hl => ⟨hl, rfl⟩⟩
  have hn5 : n2 ≤ 1501 := by have := H3.out; omega
  have HC : Hid ((0 < n2 → a1 = some ⟨B1, 0, none⟩) ∧ (0 < n2 → a2 = some ⟨B2, 0, none⟩) ∧ (∀ k, k < n2 → ∃ u, w2.cell? ⟨B1, k, none⟩ = some u ∧ Ints (fun b => b < w2.heap.size) w2 u (rs.getD k [])) ∧ (∀ k, k < n2 → ∃ u, w2.cell? ⟨B2, k, none⟩ = some u ∧ Ints (fun b => b < w2.heap.size) w2 u (rs.getD k [])) ∧ Below w2.heap.size w2 w5) := ⟨hA1, hA2, hC1, hC2, ck_all h3.out (ck_all h4.out h5.out)⟩
  clear hA1 hA2 hC1 hC2 c0 c1'
  go_loopw [9] (fun i wr => ∃ k : Nat, k ≤ n2 ∧ i = .int .i64 k ∧ Hid (Below w2.heap.size w2 wr)) (fun i _ => n2 - (intOf i).toNat)
  case atStart => exact ⟨0, Nat.zero_le _, rfl, HC.out.2.2.2.2⟩
  case round =>
    obtain ⟨k, hk, rfl, HB⟩ := hrel
    by_cases hlt : k < n2
    · have hi1 := ixRow a1 B1 0 n2 c1 k hlt HC.out.1
      have hi2 := ixRow a2 B2 0 n2 c2 k hlt HC.out.2.1
      obtain ⟨u1, hu1, ho1⟩ := HC.out.2.2.1 k hlt
      obtain ⟨u2, hu2, ho2⟩ := HC.out.2.2.2.1 k hlt
      have y1 := ck_cell HB.out hu1
      have y2 := ck_cell HB.out hu2
      have hsm := sameN_any u2 u1 (rs.getD k []) wr.drew (ho2.carry (A' := fun _ => True) (w' := wr.drew) fun b hb hl => ⟨trivial, HB.out.block b hl⟩) (ho1.carry (A' := fun _ => True) (w' := wr.drew) fun b hb hl => ⟨trivial, HB.out.block b hl⟩) (by have := H3.out.2.2.2.2.2.2 k (by have := H3.out; omega); omega)
      clear hu1 hu2 ho1 ho2
      go_wp2_with fail
      go_region_with (go_at_call 10; refine hsm.mono ?_; rintro e w6 ⟨rfl, h6⟩; clear hsm)
      all_goals
        go_wp2_with fail
        refine ⟨⟨k + 1, by omega, by go_num, ?_⟩, by simp [intOf]; omega⟩
        exact ck_all HB.out ((Below.refl wr.heap.size wr).drew.trans h6.out)
    · obtain rfl : k = n2 := by omega
      go_wp2_with fail
      go_ret
      exact ⟨rfl, H3.out.2.2.2.2.1.trans (HB.out.mono H3.out.2.2.2.2.1.size)⟩
end Tq
end Go.Proofs.YtlaimlfacheolaaGreatDoor
