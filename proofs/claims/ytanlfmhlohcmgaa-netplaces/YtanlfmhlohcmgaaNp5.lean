/- A row of steps that grows; what the law's closure that calls places otherwise answers. -/
import Derived.Test.YtanlfmhlohcmgaaNp4
namespace Go.Proofs.Ytanlfmhlohcmgaa
open Go.RowKit
namespace Nx

def stepC (s : Sp) : List Value := [.int .i64 s.code, .int .i64 s.dst, .int .i64 s.a, .int .i64 s.b, .int .i64 s.c]
def stepsC (l : List Sp) : List Value := l.flatMap stepC
/-- a row of steps that the call made itself -/
def RowS (B : Nat) (w : World) (v : Value) (l : List Sp) : Prop := w.ownsRow B 37 5 v l.length (stepsC l)
theorem RowS.keep {B : Nat} {w w' : World} {v : Value} {l : List Sp} (h : RowS B w v l) (hk : ∀ k, v.ownBlock = some k → w'.heap[k]? = w.heap[k]?) : RowS B w' v l := by
  obtain ⟨hl, h2⟩ := h
  refine ⟨hl, ?_⟩
  rcases h2 with h2 | ⟨g, cap, cur, rfl, hB, hg, hr⟩
  · exact .inl h2
  · exact .inr ⟨g, cap, cur, rfl, hB, by rw [hk g rfl]; exact hg, hr⟩
theorem RowS.form {B : Nat} {w : World} {v : Value} {l : List Sp} (h : RowS B w v l) : ∃ ad cap, v = .slice ad l.length cap ∧ (∀ k, v.ownBlock = some k → B ≤ k ∧ k < w.heap.size) := by
  obtain ⟨hl, h2⟩ := h
  rcases h2 with ⟨rfl, h0⟩ | ⟨g, cap, cur, rfl, hB, hg, hr⟩
  · exact ⟨none, 0, by rw [h0], fun k hk => by simp [Value.ownBlock] at hk⟩
  · refine ⟨_, cap, rfl, fun k hk => ?_⟩
    have : g = k := by simpa [Value.ownBlock] using hk
    subst this
    exact ⟨hB, lt_of_block hg⟩
theorem stepsC_at (l : List Sp) : ∀ k, k < l.length → (stepsC l)[k * 5]? = some (.int .i64 (l.getD k sp0).code) ∧ (stepsC l)[k * 5 + 1]? = some (.int .i64 (l.getD k sp0).dst) ∧ (stepsC l)[k * 5 + 2]? = some (.int .i64 (l.getD k sp0).a) ∧ (stepsC l)[k * 5 + 3]? = some (.int .i64 (l.getD k sp0).b) ∧ (stepsC l)[k * 5 + 4]? = some (.int .i64 (l.getD k sp0).c) := by
  induction l with
  | nil => intro k hk; simp at hk
  | cons s r ih =>
    intro k hk
    have e : stepsC (s :: r) = .int .i64 s.code :: .int .i64 s.dst :: .int .i64 s.a :: .int .i64 s.b :: .int .i64 s.c :: stepsC r := rfl
    rw [e]
    cases k with
    | zero => simp
    | succ k =>
      have := ih k (by simpa using hk)
      have e0 : (k + 1) * 5 = k * 5 + 1 + 1 + 1 + 1 + 1 := by omega
      have e1 : (k + 1) * 5 + 1 = k * 5 + 1 + 1 + 1 + 1 + 1 + 1 := by omega
      have e2 : (k + 1) * 5 + 2 = k * 5 + 2 + 1 + 1 + 1 + 1 + 1 := by omega
      have e3 : (k + 1) * 5 + 3 = k * 5 + 3 + 1 + 1 + 1 + 1 + 1 := by omega
      have e4 : (k + 1) * 5 + 4 = k * 5 + 4 + 1 + 1 + 1 + 1 + 1 := by omega
      rw [e1, e2, e3, e4, e0]
      simpa using this
theorem RowS.steps {B : Nat} {w : World} {v : Value} {l : List Sp} (h : RowS B w v l) : Steps (fun b => B ≤ b ∧ b < w.heap.size) w v l := by
  have hc := fun g hg => World.ownsRow.cells h (g := g) hg
  obtain ⟨ad, cap, rfl, hk⟩ := h.form
  cases ad with
  | none =>
    refine ⟨none, 0, 0, cap, rfl, fun hp => ?_, fun k hk => ?_⟩
    · rcases h.2 with ⟨_, h0⟩ | ⟨g, cap, cur, e, _⟩
      · omega
      · simp at e
    · rcases h.2 with ⟨_, h0⟩ | ⟨g, cap, cur, e, _⟩
      · omega
      · simp at e
  | some a =>
    rcases h.2 with ⟨h0, _⟩ | ⟨g, cap', cur, e, hB, hg, _⟩
    · simp at h0
    · obtain ⟨rfl, rfl⟩ : a = ⟨g, 0, none⟩ ∧ cap = cap' := by simpa using e
      refine ⟨_, g, 0, cap, rfl, fun _ => ⟨rfl, hB, lt_of_block hg⟩, fun k hk => ?_⟩
      obtain ⟨x0, x1, x2, x3, x4⟩ := stepsC_at l k hk
      have y0 := hc g rfl _ _ x0
      have y1 := hc g rfl _ _ x1
      have y2 := hc g rfl _ _ x2
      have y3 := hc g rfl _ _ x3
      have y4 := hc g rfl _ _ x4
      rw [add_none] at y0 y1 y2 y3 y4
      simp only [Nat.zero_add] at y0 y1 y2 y3 y4 ⊢
      exact ⟨y0, y1, y2, y3, y4⟩

theorem Try.infoStep : (Try.prog.info? 37).map (fun i => (i.zero, i.size, i.bytes)) = some (some (.agg #[.int .i64 0, .int .i64 0, .int .i64 0, .int .i64 0, .int .i64 0]), 5, 40) := by kernel_rfl

theorem appS (B : Nat) (w : World) (v : Value) (l : List Sp) (s : Sp) (q : Nat) (h : RowS B w v l) (hq : w.heap[q]? = some (.cells #[.int .i64 s.code, .int .i64 s.dst, .int .i64 s.a, .int .i64 s.b, .int .i64 s.c] 37 (0, 0))) (hB : B ≤ w.heap.size) (hl : l.length ≤ 100000) :
    ∃ g cap w', (Builtin.append_ #[24, 24] 24 #[v, .slice (some ⟨q, 0, none⟩) 1 1]).run Try.prog w = .ok (.slice (some ⟨g, 0, none⟩) (l.length + 1) cap) w' ∧
      RowS B w' (.slice (some ⟨g, 0, none⟩) (l.length + 1) cap) (l ++ [s]) ∧ w.grownBy w' v.ownBlock ∧ (v.ownBlock = some g ∨ g = w.heap.size) ∧ g < w'.heap.size := by
  obtain ⟨i0, hi, hz0, hz1, hz2⟩ := info_parts Try.infoStep
  obtain ⟨g, cap, w', hr, h2, h3, h4, h5⟩ := run_append_lies (P := Try.prog) w 24 24 B 37 i0 _ 5 40 Try.underlying24 hi hz0 hz1 hz2 rfl (by decide) v l.length _ h ⟨q, 0, none⟩ 1 1 (stepC s) (by simp [stepC])
    (World.news_of_block hq) (fun u hu => by simp only [stepC, List.mem_cons, List.not_mem_nil, or_false] at hu; rcases hu with rfl | rfl | rfl | rfl | rfl <;> rfl) (by decide) (by unfold maxLen; omega) (by omega) hB _ rfl
  refine ⟨g, cap, w', hr, ?_, h3, h4, h5⟩
  have e : stepsC (l ++ [s]) = stepsC l ++ stepC s := by simp [stepsC]
  unfold RowS
  rw [List.length_append, e]; exact h2

theorem Try.infoInt : (Try.prog.info? 3).map (fun i => (i.zero, i.size, i.bytes)) = some (some (.int .i64 0), 1, 8) := by kernel_rfl

def toV (qb qn : Nat) : Value := .func (.func 9) #[] #[.pointer (some ⟨qb, 0, none⟩), .pointer (some ⟨qn, 0, none⟩)]

set_option maxHeartbeats 2000000 in
/-- all places of a list, called otherwise -/
theorem all_pl {A : Nat → Prop} (P y : Int) (qb qn qt : Nat) (v : Value) (l : List Int) (w : World) (hb : w.cell? ⟨qb, 0, none⟩ = some (.int .i64 y)) (hn : w.cell? ⟨qn, 0, none⟩ = some (.int .i64 P)) (hq : w.cell? ⟨qt, 0, none⟩ = some (toV qb qn)) (hP : P ≤ 100000) (hy : 0 ≤ y) (hy' : y < P)
    (hv : Ints A w v l) (hl : l.length ≤ 1000) (hin : ∀ k, k < l.length → 0 ≤ l.getD k 0 ∧ l.getD k 0 < P) :
    Calls Try.prog 10 #[v, .pointer (some ⟨qt, 0, none⟩)] w fun e w' => ∃ ad cap, e = .returned (.slice ad l.length cap) ∧ Hid (Ints (fun b => w.heap.size ≤ b ∧ b < w'.heap.size) w' (.slice ad l.length cap) (l.map (toP P y)) ∧ Below w.heap.size w w') := by
  obtain ⟨adl, bl, offl, capl, rfl, p1, p2⟩ := hv
  have H1 : Hid (0 < l.length → adl = some ⟨bl, offl, none⟩ ∧ A bl) := p1
  have H2 : Hid (∀ k, k < l.length → w.cell? ⟨bl, offl + k, none⟩ = some (.int .i64 (l.getD k 0))) := p2
  have HB : Hid (w.cell? ⟨qb, 0, none⟩ = some (.int .i64 y)) := hb
  have HN : Hid (w.cell? ⟨qn, 0, none⟩ = some (.int .i64 P)) := hn
  have HQ : Hid (w.cell? ⟨qt, 0, none⟩ = some (toV qb qn)) := hq
  have HIN : Hid (∀ k, k < l.length → 0 ≤ l.getD k 0 ∧ l.getD k 0 < P) := hin
  clear p1 p2 hb hn hq hin
  go_enter Try.func10, Try.ntmps10
  go_wp2
  go_loopw [4, 5] (fun v i wr => ∃ k : Nat, k ≤ l.length ∧ i = .int .i64 k ∧ Hid (RowG 3 w.heap.size wr v ((l.take k).map (toP P y)) ∧ Below w.heap.size w wr)) (fun _ i _ => l.length - (intOf i).toNat)
  case atStart => exact ⟨0, Nat.zero_le _, rfl, RowG.nil _ _ _, Below.refl _ _⟩
  case round =>
    obtain ⟨k, hk, rfl, TT⟩ := hrel
    by_cases hlt : k < l.length
    · have hix := ix23 adl bl offl l.length capl k hlt (fun h => (H1.out h).1)
      obtain ⟨x, hx⟩ : ∃ x, x = l.getD k 0 := ⟨_, rfl⟩
      have hxi := HIN.out k hlt
      rw [← hx] at hxi
      have HBL : Hid (Below w.heap.size w wr) := TT.out.2
      have hdr : Below wr.heap.size wr wr.drew := ⟨rfl, rfl, rfl, Nat.le_refl _, fun _ _ => rfl⟩
      have c1 : wr.cell? ⟨bl, offl + k, none⟩ = some (.int .i64 x) := by rw [hx]; exact cell_below HBL.out (H2.out k hlt)
      have c2 : wr.cell? ⟨qt, 0, none⟩ = some (.func (.func 9) #[] #[.pointer (some ⟨qb, 0, none⟩), .pointer (some ⟨qn, 0, none⟩)]) := cell_below HBL.out HQ.out
      have hto := to_any P y x qb qn wr.drew (cell_below hdr (cell_below HBL.out HB.out)) (cell_below hdr (cell_below HBL.out HN.out)) hP hy hy' hxi.1 hxi.2
      obtain ⟨t, ht⟩ : ∃ t, t = toP P y x := ⟨_, rfl⟩
      rw [← ht] at hto
      obtain ⟨zs, hzs⟩ : ∃ zs, zs = (l.take k).map (toP P y) := ⟨_, rfl⟩
      have hrow : RowG 3 w.heap.size wr u4 zs := by rw [hzs]; exact TT.out.1
      have HZ : Hid ((l.take (k + 1)).map (toP P y) = zs ++ [t]) := by
        unfold Hid
        rw [List.take_succ_eq_append_getElem hlt, List.map_append, hzs, ht, hx]
        simp [List.getD_eq_getElem?_getD, hlt]
      have hzl : zs.length ≤ 1000 := by rw [hzs]; simp; omega
      obtain ⟨ad, cap, hform, hk'⟩ := hrow.form
      subst hform
      have hrow' : RowG 3 w.heap.size (wr.drew.alloc (.cells #[.int .i64 t] 3)) (.slice ad zs.length cap) zs := hrow.keep fun b e => Below.heap_alloc _ _ _ (hk' b e).2
      have hsz : w.heap.size ≤ (wr.drew.alloc (.cells #[.int .i64 t] 3)).heap.size := Nat.le_trans HBL.out.size (grown_one wr.drew (.cells #[.int .i64 t] 3)).size
      obtain ⟨g1, cap1, w2, E1, R1, G1, -, -⟩ := appG 23 3 Try.underlying23 Try.infoInt w.heap.size (wr.drew.alloc (.cells #[.int .i64 t] 3)) (.slice ad zs.length cap) (.slice (some ⟨wr.drew.heap.size, 0, none⟩) 1 1) zs [t] hrow'
        (A := fun b => b = wr.drew.heap.size) ⟨some ⟨wr.drew.heap.size, 0, none⟩, wr.drew.heap.size, 0, 1, rfl, fun _ => ⟨rfl, rfl⟩, fun j hj => by
          obtain rfl : j = 0 := by simpa using hj
          exact cell_row (heap_alloc_new _ _) 0⟩ hsz (.inr (by simp)) (by simp; omega)
      have HR : Hid (RowG 3 w.heap.size w2 (.slice (some ⟨g1, 0, none⟩) (zs.length + 1) cap1) (zs ++ [t]) ∧ Below w.heap.size w w2) := ⟨R1, by
        have hF : Fr (wr.drew.alloc (.cells #[.int .i64 t] 3)).heap.size (Value.ownBlock (.slice ad zs.length cap)).toList (wr.drew.alloc (.cells #[.int .i64 t] 3)) w2 := ⟨G1.os, G1.tape, G1.output, G1.size, fun b hb hx => G1.block b hb (fun e => hx (by rw [← e]; simp))⟩
        exact (HBL.out.trans ((hdr.mono HBL.out.size).trans ((grown_one _ _).mono (Nat.le_trans HBL.out.size (Nat.le_refl _))))).trans (frBelow hF hsz (fun b hb => (hk' b (by simpa using hb)).1))⟩
      have HS1 : Hid (w2.cell? ⟨bl, offl + k, none⟩ = some (.int .i64 x) ∧ w2.cell? ⟨qt, 0, none⟩ = some (.func (.func 9) #[] #[.pointer (some ⟨qb, 0, none⟩), .pointer (some ⟨qn, 0, none⟩)])) := ⟨by rw [hx]; exact cell_below HR.out.2 (H2.out k hlt), cell_below HR.out.2 HQ.out⟩
      clear TT hx ht hzs hrow hrow' hsz R1 G1 hk' hxi hdr
      go_wp2_with fail
      go_region_held3 (fun w' => w'.cell? ⟨bl, offl + k, none⟩ = some (.int .i64 x) ∧ w'.cell? ⟨qt, 0, none⟩ = some (.func (.func 9) #[] #[.pointer (some ⟨qb, 0, none⟩), .pointer (some ⟨qn, 0, none⟩)])) (first | exact hS1 | go_keep)
        ((first
          | (go_at_call 9; refine hto.mono ?_; rintro e w' ⟨rfl, rfl⟩)
          | (refine step_app (by rfl) (.tmp 12) (.tmp 19) _ (by rfl) _ _ _ (by rfl) (by rfl) E1 ?_; have hS1 := HS1.out)
          | fail))
      all_goals
        go_wp2_with fail
        go_roundw
        case rel => exact ⟨k + 1, by omega, by go_num, by rw [HZ.out]; exact HR.out⟩
        case measure => simp [intOf]; omega
    · obtain rfl : k = l.length := by omega
      have X : Hid (RowG 3 w.heap.size wr u4 (l.map (toP P y)) ∧ Below w.heap.size w wr) := by have := TT.out; rw [List.take_length] at this; exact this
      obtain ⟨ad, cap, hform, _⟩ := X.out.1.form
      rw [List.length_map] at hform
      subst hform
      clear TT
      go_wp2
      go_ret
      exact ⟨ad, cap, rfl, X.out.1.ints, X.out.2⟩
end Nx
end Go.Proofs.Ytanlfmhlohcmgaa
