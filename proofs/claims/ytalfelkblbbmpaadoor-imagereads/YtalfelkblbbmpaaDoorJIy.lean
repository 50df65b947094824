/- ImageReads: two codes are compared. -/
import Derived.Test.YtalfelkblbbmpaaDoorJIu
import Derived.Test.YtalfelkblbbmpaaDoorIj
namespace Go.Proofs.YtalfelkblbbmpaaDoor
open Go.RowKit
namespace Ix
open Nx

set_option maxHeartbeats 1000000 in
theorem sameN_any' {A A' : Nat → Prop} (va vb : Value) (zs : List Int) (w : World) (ha : Ints A w va zs) (hb : Ints A' w vb zs) (hl : zs.length ≤ 1000000) :
    Calls Tryd.prog 33 #[va, vb] w fun e w' => e = .returned (.bool true) ∧ Below w.heap.size w w' := by
  obtain ⟨ad1, b1, o1, c1, rfl, p1, q1⟩ := ha
  obtain ⟨ad2, b2, o2, c2, rfl, p2, q2⟩ := hb
  have H1 : Hid (0 < zs.length → ad1 = some ⟨b1, o1, none⟩ ∧ A b1) := p1
  have H2 : Hid (0 < zs.length → ad2 = some ⟨b2, o2, none⟩ ∧ A' b2) := p2
  have Q1 : Hid (∀ k, k < zs.length → w.cell? ⟨b1, o1 + k, none⟩ = some (.int .i64 (zs.getD k 0))) := q1
  have Q2 : Hid (∀ k, k < zs.length → w.cell? ⟨b2, o2 + k, none⟩ = some (.int .i64 (zs.getD k 0))) := q2
  clear p1 p2 q1 q2
  go_enter Tryd.func33, Tryd.ntmps33
  go_wp2
  go_loopw [5] (fun i wr => ∃ k : Nat, k ≤ zs.length ∧ i = .int .i64 k ∧ Below w.heap.size w wr) (fun i _ => zs.length - (intOf i).toNat)
  case atStart => exact ⟨0, Nat.zero_le _, rfl, Below.refl _ _⟩
  case round =>
    obtain ⟨k, hk, rfl, hbr⟩ := hrel
    have HB : Hid (Below w.heap.size w wr) := hbr
    clear hbr
    by_cases hlt : k < zs.length
    · have hi1 := ix22 ad1 b1 o1 zs.length c1 k hlt (fun h => (H1.out h).1)
      have hi2 := ix22 ad2 b2 o2 zs.length c2 k hlt (fun h => (H2.out h).1)
      obtain ⟨x, hx⟩ : ∃ x, x = zs.getD k 0 := ⟨_, rfl⟩
      have y1 : wr.cell? ⟨b1, o1 + k, none⟩ = some (.int .i64 x) := by rw [hx]; exact cell_below HB.out (Q1.out k hlt)
      have y2 : wr.cell? ⟨b2, o2 + k, none⟩ = some (.int .i64 x) := by rw [hx]; exact cell_below HB.out (Q2.out k hlt)
      clear hx
      go_wp2_with fail
      go_quiet (fail)
      go_wp2_with fail
      go_roundw
      case rel => exact ⟨k + 1, by omega, by go_num, ball HB.out ⟨rfl, rfl, rfl, Nat.le_refl _, fun _ _ => rfl⟩⟩
      case measure => simp [intOf]; omega
    · go_wp2
      go_ret
      exact ⟨rfl, HB.out⟩

/-- two codes that are one -/
structure S2 (w W : World) (n : Nt) (x1 x2 x3 x4 x5 x6 y1 y2 y3 y4 y5 y6 : Value) : Prop where
  a : W.heap[w.heap.size]? = some (.cells #[.int .i64 n.places, x1, x2, x3, x4, x5, x6] 26 (0, 0))
  b : W.heap[w.heap.size + 1]? = some (.cells #[.int .i64 n.places, y1, y2, y3, y4, y5, y6] 26 (0, 0))
  na : NetV w.heap.size W n x1 x2 x3 x4 x5 x6
  nb : NetV w.heap.size W n y1 y2 y3 y4 y5 y6
  below : Below w.heap.size w W
theorem S2.next {w W W' : World} {n : Nt} {x1 x2 x3 x4 x5 x6 y1 y2 y3 y4 y5 y6 : Value} (h : S2 w W n x1 x2 x3 x4 x5 x6 y1 y2 y3 y4 y5 y6) (hb : Below W.heap.size W W') : S2 w W' n x1 x2 x3 x4 x5 x6 y1 y2 y3 y4 y5 y6 :=
  ⟨by rw [hb.block _ (lt_of_block h.a)]; exact h.a, by rw [hb.block _ (lt_of_block h.b)]; exact h.b, h.na.below (hb.mono h.below.size) (Nat.le_refl _), h.nb.below (hb.mono h.below.size) (Nat.le_refl _), ball h.below hb⟩

set_option maxHeartbeats 4000000 in
theorem same_any (n : Nt) (w : World) (x1 x2 x3 x4 x5 y1 y2 y3 y4 y5 : Value) (ad1 ad2 : Option Addr) (c1 c2 : Nat) (ha : NetV w.heap.size w n x1 x2 x3 x4 x5 (.slice ad1 n.code.length c1)) (hb : NetV w.heap.size w n y1 y2 y3 y4 y5 (.slice ad2 n.code.length c2)) (h1 : n.first.length ≤ 1000000) (h2 : n.ins.length ≤ 1000000) (h3 : n.outs.length ≤ 1000000) (h4 : n.keeps.length ≤ 1000000) (h5 : n.nums.length ≤ 1000000) (h6 : n.code.length ≤ 1000000) :
    Calls Tryd.prog 11 #[.agg #[.int .i64 n.places, x1, x2, x3, x4, x5, .slice ad1 n.code.length c1], .agg #[.int .i64 n.places, y1, y2, y3, y4, y5, .slice ad2 n.code.length c2]] w fun e w' => e = .returned (.bool true) ∧ Below w.heap.size w w' := by
  have hS : ∀ W, W = (w.alloc (.cells #[.int .i64 n.places, x1, x2, x3, x4, x5, .slice ad1 n.code.length c1] 26)).alloc (.cells #[.int .i64 n.places, y1, y2, y3, y4, y5, .slice ad2 n.code.length c2] 26) → S2 w W n x1 x2 x3 x4 x5 (.slice ad1 n.code.length c1) y1 y2 y3 y4 y5 (.slice ad2 n.code.length c2) := fun W hW => by
    subst hW
    have hb2 : Below w.heap.size w ((w.alloc (.cells #[.int .i64 n.places, x1, x2, x3, x4, x5, .slice ad1 n.code.length c1] 26)).alloc (.cells #[.int .i64 n.places, y1, y2, y3, y4, y5, .slice ad2 n.code.length c2] 26)) := below_alloc1 (grown_one w _) _
    exact ⟨by rw [Below.heap_alloc _ _ _ (by simp)]; exact heap_alloc_new w _, new2' _ _ _, ha.below hb2 (Nat.le_refl _), hb.below hb2 (Nat.le_refl _), hb2⟩
  clear ha hb
  go_enter Tryd.func11, Tryd.ntmps11
  go_upto_region 1 with fail
  have S0 := hS _ rfl
  revert S0
  generalize (w.alloc (.cells #[.int .i64 n.places, x1, x2, x3, x4, x5, .slice ad1 n.code.length c1] 26)).alloc (.cells #[.int .i64 n.places, y1, y2, y3, y4, y5, .slice ad2 n.code.length c2] 26) = W0
  intro S0
  clear hS
  have S : Hid (S2 w W0 n x1 x2 x3 x4 x5 (.slice ad1 n.code.length c1) y1 y2 y3 y4 y5 (.slice ad2 n.code.length c2)) := S0
  have RD : Hid (∀ W, S2 w W n x1 x2 x3 x4 x5 (.slice ad1 n.code.length c1) y1 y2 y3 y4 y5 (.slice ad2 n.code.length c2) → (W.cell? ⟨w.heap.size, 1, none⟩ = some x1 ∧ W.cell? ⟨w.heap.size, 2, none⟩ = some x2 ∧ W.cell? ⟨w.heap.size, 3, none⟩ = some x3 ∧ W.cell? ⟨w.heap.size, 4, none⟩ = some x4 ∧ W.cell? ⟨w.heap.size, 5, none⟩ = some x5 ∧ W.cell? ⟨w.heap.size, 6, none⟩ = some (.slice ad1 n.code.length c1)) ∧ (W.cell? ⟨w.heap.size + 1, 1, none⟩ = some y1 ∧ W.cell? ⟨w.heap.size + 1, 2, none⟩ = some y2 ∧ W.cell? ⟨w.heap.size + 1, 3, none⟩ = some y3 ∧ W.cell? ⟨w.heap.size + 1, 4, none⟩ = some y4 ∧ W.cell? ⟨w.heap.size + 1, 5, none⟩ = some y5 ∧ W.cell? ⟨w.heap.size + 1, 6, none⟩ = some (.slice ad2 n.code.length c2))) := fun W h => ⟨⟨(cel h.a 1 _ rfl).1, (cel h.a 2 _ rfl).1, (cel h.a 3 _ rfl).1, (cel h.a 4 _ rfl).1, (cel h.a 5 _ rfl).1, (cel h.a 6 _ rfl).1⟩, ⟨(cel h.b 1 _ rfl).1, (cel h.b 2 _ rfl).1, (cel h.b 3 _ rfl).1, (cel h.b 4 _ rfl).1, (cel h.b 5 _ rfl).1, (cel h.b 6 _ rfl).1⟩⟩
  have a0 := (cel S0.a 0 _ rfl).1
  have b0 := (cel S0.b 0 _ rfl).1
  obtain ⟨⟨a1, a2, a3, a4, a5, a6⟩, ⟨b1, b2, b3, b4, b5, b6⟩⟩ := RD.out W0 S0
  have hq1 := sameN_any' x1 y1 n.first W0 S0.na.f S0.nb.f h1
  clear S0
  go_upto_region 3 with (first
    | (go_at_call 33; refine hq1.mono ?_; rintro e Wa ⟨rfl, hba⟩; have Sa : Hid (S2 w Wa n _ _ _ _ _ _ _ _ _ _ _ _) := S.out.next hba; clear a1 a2 a3 a4 a5 a6 b1 b2 b3 b4 b5 b6 hq1; obtain ⟨⟨a1, a2, a3, a4, a5, a6⟩, ⟨b1, b2, b3, b4, b5, b6⟩⟩ := RD.out Wa Sa.out; have hq2 := sameI_any x2 y2 n.ins Wa Sa.out.na.i Sa.out.nb.i h2; clear hba)
    | (go_at_call 34; refine hq2.mono ?_; rintro e Wb ⟨rfl, hbb⟩; have Sb : Hid (S2 w Wb n _ _ _ _ _ _ _ _ _ _ _ _) := Sa.out.next hbb; clear a1 a2 a3 a4 a5 a6 b1 b2 b3 b4 b5 b6 hq2; obtain ⟨⟨a1, a2, a3, a4, a5, a6⟩, ⟨b1, b2, b3, b4, b5, b6⟩⟩ := RD.out Wb Sb.out; have hq3 := sameI_any x3 y3 n.outs Wb Sb.out.na.o Sb.out.nb.o h3; clear hbb)
    | (go_at_call 34; refine hq3.mono ?_; rintro e Wc ⟨rfl, hbc⟩; have Sc : Hid (S2 w Wc n _ _ _ _ _ _ _ _ _ _ _ _) := Sb.out.next hbc; clear a1 a2 a3 a4 a5 a6 b1 b2 b3 b4 b5 b6 hq3; obtain ⟨⟨a1, a2, a3, a4, a5, a6⟩, ⟨b1, b2, b3, b4, b5, b6⟩⟩ := RD.out Wc Sc.out; have hq4 := sameI_any x4 y4 n.keeps Wc Sc.out.na.k Sc.out.nb.k h4; clear hbc)
    | (go_at_call 34; refine hq4.mono ?_; rintro e Wd ⟨rfl, hbd⟩; have Sd : Hid (S2 w Wd n _ _ _ _ _ _ _ _ _ _ _ _) := Sc.out.next hbd; clear a1 a2 a3 a4 a5 a6 b1 b2 b3 b4 b5 b6 hq4; obtain ⟨⟨a1, a2, a3, a4, a5, a6⟩, ⟨b1, b2, b3, b4, b5, b6⟩⟩ := RD.out Wd Sd.out; have hq5 := sameN_any' x5 y5 n.nums Wd Sd.out.na.m Sd.out.nb.m h5; clear hbd)
    | (go_at_call 33; refine hq5.mono ?_; rintro e We ⟨rfl, hbe⟩; have Se : Hid (S2 w We n _ _ _ _ _ _ _ _ _ _ _ _) := Sd.out.next hbe; clear a1 a2 a3 a4 a5 a6 b1 b2 b3 b4 b5 b6 hq5; obtain ⟨⟨a1, a2, a3, a4, a5, a6⟩, ⟨b1, b2, b3, b4, b5, b6⟩⟩ := RD.out We Se.out; clear hbe))
  clear a0 b0 a1 a2 a3 a4 a5 a6 b1 b2 b3 b4 b5 b6 S Sa Sb Sc Sd
  go_upto_region 4 with fail
  go_loopw [5] (fun i wr => ∃ k : Nat, k ≤ n.code.length ∧ i = .int .i64 k ∧ Hid (S2 w wr n x1 x2 x3 x4 x5 (.slice ad1 n.code.length c1) y1 y2 y3 y4 y5 (.slice ad2 n.code.length c2))) (fun i _ => n.code.length - (intOf i).toNat)
  case atStart => exact ⟨0, Nat.zero_le _, rfl, Se.out⟩
  case round =>
    clear Se
    obtain ⟨k, hk, rfl, S⟩ := hrel
    obtain ⟨⟨_, _, _, _, _, a6⟩, ⟨_, _, _, _, _, b6⟩⟩ := RD.out wr S.out
    by_cases hlt : k < n.code.length
    · obtain ⟨_, bA, oA, _, eA, pA, qA⟩ := S.out.na.c
      cases eA
      obtain ⟨_, bB, oB, _, eB, pB, qB⟩ := S.out.nb.c
      cases eB
      have hiA := ix24 ad1 bA oA n.code.length c1 k hlt (fun h => (pA h).1)
      have hiB := ix24 ad2 bB oB n.code.length c2 k hlt (fun h => (pB h).1)
      obtain ⟨s, hs⟩ : ∃ s, s = n.code.getD k sp0 := ⟨_, rfl⟩
      obtain ⟨p0, p1, p2, p3, p4⟩ := qA k hlt
      obtain ⟨q0, q1, q2, q3, q4⟩ := qB k hlt
      rw [← hs] at p0 p1 p2 p3 p4 q0 q1 q2 q3 q4
      clear hs qA qB pA pB
      obtain ⟨code, dst, a, b, c⟩ := s
      simp only at p0 p1 p2 p3 p4 q0 q1 q2 q3 q4
      go_upto_region 6 with fail
      go_region
      all_goals
        go_wp2_with fail
        go_roundw
        case rel => exact ⟨k + 1, by omega, by go_num, S.out.next ⟨rfl, rfl, rfl, Nat.le_refl _, fun _ _ => rfl⟩⟩
        case measure => simp [intOf]; omega
    · obtain rfl : k = n.code.length := by omega
      go_wp2_with fail
      go_ret
      exact ⟨rfl, S.out.below⟩
end Ix
end Go.Proofs.YtalfelkblbbmpaaDoor
/- the document's ReadImage: its walk. -/
namespace Go.Proofs.YtalfelkblbbmpaaDoor
open Go.RowKit
namespace Ix
open Nx

theorem resultsRI (tmps : Array Value) (W : World) (e g : Nat) (fe fg : Array Value) (hse : fe.size = 7) (hsg : fg.size = 2) (hq : tmps[2]?.getD undef = .pointer (some ⟨e, 0, none⟩)) (hr : tmps[3]?.getD undef = .pointer (some ⟨g, 0, none⟩)) (he : W.heap[e]? = some (.cells fe 26 (0, 0))) (hg : W.heap[g]? = some (.cells fg 30 (0, 0))) :
    (results Tryd.f9 tmps).run Tryd.prog W = .ok (.tuple #[.agg fe, .agg fg]) W := by
  have hl : (loadVar 26 ⟨e, 0, none⟩).run Tryd.prog W = .ok (.agg fe) W := run_loadVar_row (P := Tryd.prog) W e 26 26 fe (0, 0) _ he Tryd.underlying26 rfl (by rw [hse]; kernel_rfl)
  simp [results, Tryd.results9, hq, hr, asAddr, hl, loadFault hsg hg]
/-- what the document's reading gives back -/
def RiOut (w : World) (n : Nt) (f : Nat × Int) (e : Ending) (w' : World) : Prop := ∃ vF vI vO vK vN vC, e = .returned (.tuple #[.agg #[.int .i64 n.places, vF, vI, vO, vK, vN, vC], .agg #[.int .i64 f.1, .int .i64 f.2]]) ∧ NetV w'.heap.size w' n vF vI vO vK vN vC ∧ Below w.heap.size w w'

/-- while the document reads steps -/
structure DL (w D W : World) (tb nb : Nat) (x0 x1 x2 x3 x4 x5 vC : Value) (k : Nat) (l : List Sp) (s : List UInt8) (bad : Bool) : Prop where
  dr : DR w W tb nb #[x0, x1, x2, x3, x4, x5, vC] s bad
  own : W.ownsRow D.heap.size 55 5 vC k (stC l)
  len : l.length = k
  kept : ∀ c, nb < c → c < D.heap.size → W.heap[c]? = D.heap[c]?
  size : D.heap.size ≤ W.heap.size
  hD : nb < D.heap.size
theorem DL.call {w D W W' : World} {tb nb : Nat} {x0 x1 x2 x3 x4 x5 vC : Value} {k : Nat} {l : List Sp} {s s' : List UInt8} {bad bad' : Bool} (h : DL w D W tb nb x0 x1 x2 x3 x4 x5 vC k l s bad) (hf : Fr W.heap.size [tb] W W') (hr : TkS W' tb s' bad') : DL w D W' tb nb x0 x1 x2 x3 x4 x5 vC k l s' bad' := by
  have h2 := h.dr.l2
  have h3 := h.hD
  have h4 := h.size
  exact ⟨h.dr.call hf hr, own_fr h.own fun g hg => hf.block g (h.own.lt g hg).2 (by have := (h.own.lt g hg).1; simp; omega), h.len, fun c hc hl => by rw [hf.block c (by omega) (by simp; omega)]; exact h.kept c hc hl, Nat.le_trans h.size hf.size, h.hD⟩
theorem DL.more {w D W W' : World} {tb nb : Nat} {x0 x1 x2 x3 x4 x5 vC : Value} {k : Nat} {l : List Sp} {s : List UInt8} {bad : Bool} (h : DL w D W tb nb x0 x1 x2 x3 x4 x5 vC k l s bad) (hb : Below W.heap.size W W') : DL w D W' tb nb x0 x1 x2 x3 x4 x5 vC k l s bad :=
  h.call (Fr.of_below hb _) (by unfold TkS; rw [hb.block _ (lt_of_block h.dr.rd)]; exact h.dr.rd)
theorem DL.set {w D W : World} {tb nb sb : Nat} {x0 x1 x2 x3 x4 x5 vC : Value} {k : Nat} {l : List Sp} {s : List UInt8} {bad : Bool} (h : DL w D W tb nb x0 x1 x2 x3 x4 x5 vC k l s bad) (hs : D.heap.size ≤ sb) (hne : vC.ownBlock ≠ some sb) (j : Nat) (v : Value) : DL w D (W.setCell ⟨sb, j, none⟩ v) tb nb x0 x1 x2 x3 x4 x5 vC k l s bad := by
  have h1 := h.dr.l1
  have h2 := h.dr.l2
  have h3 := h.hD
  refine ⟨⟨?_, ?_, ?_, ?_, h.dr.below.setCell (by simp; omega) _, h1, h2⟩, own_fr h.own fun g hg => Below.heap_setCell _ _ _ _ (fun e => hne (by rw [hg]; exact congrArg some e)), h.len, fun c hc hl => ?_, by simpa [World.setCell] using h.size, h.hD⟩
  · unfold TkS; rw [Below.heap_setCell _ _ _ _ (by simp; omega)]; exact h.dr.rd
  · rw [Below.heap_setCell _ _ _ _ (by simp; omega)]; exact h.dr.box
  · rw [Below.heap_setCell _ _ _ _ (by simp; omega)]; exact h.dr.rb
  · rw [Below.heap_setCell _ _ _ _ (by simp; omega)]; exact h.dr.fb
  · rw [Below.heap_setCell _ _ _ _ (by simp; omega)]; exact h.kept c hc hl
theorem DL.app {w D W W2 : World} {tb nb : Nat} {x0 x1 x2 x3 x4 x5 vC v2 : Value} {k : Nat} {l : List Sp} {s : List UInt8} {bad : Bool} {x : Sp} {o : Obj} (h : DL w D W tb nb x0 x1 x2 x3 x4 x5 vC k l s bad)
    (hown : W2.ownsRow D.heap.size 55 5 v2 (k + 1) (stC l ++ [.int .i64 x.code, .int .i64 x.dst, .int .i64 x.a, .int .i64 x.b, .int .i64 x.c])) (hg : (W.alloc o).grownBy W2 vC.ownBlock) :
    DL w D (W2.setCell ⟨nb, 6, none⟩ v2) tb nb x0 x1 x2 x3 x4 x5 v2 (k + 1) (l ++ [x]) s bad := by
  have h1 := h.dr.l1
  have h2 := h.dr.l2
  have h3 := h.hD
  have hsz := h.size
  have hs2 : W.heap.size ≤ W2.heap.size := by have := hg.size; simp at this; omega
  have hvne : ∀ g, vC.ownBlock = some g → D.heap.size ≤ g := fun g hgg => (h.own.lt g hgg).1
  have old : ∀ c, c < D.heap.size → W2.heap[c]? = W.heap[c]? := fun c hcD => by
    rw [hg.block c (by simp; omega) (fun e => by have := hvne c e.symm; omega)]
    exact Below.heap_alloc _ _ _ (by omega)
  have c2 : DR w W2 tb nb #[x0, x1, x2, x3, x4, x5, vC] s bad := by
    refine ⟨?_, ?_, ?_, ?_, h.dr.below.trans ⟨hg.os, hg.tape, hg.output, hs2, fun c hc => old c (by omega)⟩, h1, h2⟩
    · unfold TkS; rw [old tb (by omega)]; exact h.dr.rd
    · rw [old nb h3]; exact h.dr.box
    · rw [old _ (by omega)]; exact h.dr.rb
    · rw [old _ (by omega)]; exact h.dr.fb
  refine ⟨c2.put 6 v2, ?_, by simp [h.len], fun c hc hcD => ?_, by simp [World.setCell]; omega, h.hD⟩
  · have e : stC (l ++ [x]) = stC l ++ [.int .i64 x.code, .int .i64 x.dst, .int .i64 x.a, .int .i64 x.b, .int .i64 x.c] := by simp [stC]
    rw [e]
    exact own_fr hown fun g hgg => Below.heap_setCell _ _ _ _ (by have := (hown.lt g hgg).1; simp; omega)
  · rw [Below.heap_setCell _ _ _ _ (by simp; omega), old c hcD]
    exact h.kept c hc hcD
theorem rdS_of {s r r' : List UInt8} {c : Int} {l : List Int} (h : sm s = some (c, r)) (h2 : tkK sm r (1 + nAsk c) = some (l, r')) : rdS s = some (⟨c, l.getD 0 0, l.getD 1 0, l.getD 2 0, l.getD 3 0⟩, r') := by
  unfold rdS; rw [h]; simp only [h2]
theorem rdS_no1 {s : List UInt8} (h : sm s = none) : rdS s = none := by unfold rdS; rw [h]
theorem rdS_no2 {s r : List UInt8} {c : Int} (h : sm s = some (c, r)) (h2 : tkK sm r (1 + nAsk c) = none) : rdS s = none := by unfold rdS; rw [h]; simp only [h2]
/-- of the code and what stands behind it: the step -/
theorem Tt.step {s r r' : List UInt8} {bad bad1 bad2 : Bool} {c : Int} {l : List Int} (h : Tt sm s bad c r bad1) (k : Tt (fun s => tkK sm s (1 + nAsk c)) r bad1 l r' bad2) : Tt rdS s bad ⟨c, l.getD 0 0, l.getD 1 0, l.getD 2 0, l.getD 3 0⟩ r' bad2 :=
  Tt.next h k (fun a b => rdS_of a b) (fun a => rdS_no1 a) (fun a b => rdS_no2 a b)

theorem five_cells {W : World} {sb : Nat} {c : Int} {l : List Int} (h : W.heap[sb]? = some (.cells (five c l) 55 (0, 0))) : W.cell? ⟨sb, 0, none⟩ = some (.int .i64 c) ∧ W.cell? ⟨sb, 1, none⟩ = some (.int .i64 (l.getD 0 0)) ∧ W.cell? ⟨sb, 2, none⟩ = some (.int .i64 (l.getD 1 0)) ∧ W.cell? ⟨sb, 3, none⟩ = some (.int .i64 (l.getD 2 0)) ∧ W.cell? ⟨sb, 4, none⟩ = some (.int .i64 (l.getD 3 0)) :=
  ⟨(cel h 0 _ rfl).1, (cel h 1 _ rfl).1, (cel h 2 _ rfl).1, (cel h 3 _ rfl).1, (cel h 4 _ rfl).1⟩
theorem asksL (code dst a b c : Int) (m : Nat) (hm : (asks ⟨code, dst, a, b, c⟩).length = m) (w : World) :
    Calls Tryd.prog 17 #[.agg #[.int .i64 code, .int .i64 dst, .int .i64 a, .int .i64 b, .int .i64 c]] w fun e w' => ∃ ad cap, e = .returned (.slice ad m cap) ∧ Hid (Below w.heap.size w w') :=
  (refAsks_any code dst a b c w).mono fun e w' ⟨v, he, ⟨ad, _, _, cap, hv, _, _⟩, hb⟩ => ⟨ad, cap, by rw [he, hv, hm], hb⟩
theorem asks_len {s : Sp} (h : s.code ≠ 1) : (asks s).length = nAsk s.code := by
  rw [asks_take s h, List.length_take]
  show min (nAsk s.code) 3 = nAsk s.code
  have := nAsk3 s.code
  omega

/-- both results stored -/
theorem fin9 {w W : World} (r : W.heap[w.heap.size]? = some (.cells #[.int .i64 0, .slice none 0 0, .slice none 0 0, .slice none 0 0, .slice none 0 0, .slice none 0 0, .slice none 0 0] 26 (0, 0))) (f : W.heap[w.heap.size + 1]? = some (.cells #[.int .i64 0, .int .i64 0] 30 (0, 0))) (hb : Below w.heap.size w W) (y0 y1 y2 y3 y4 y5 y6 a b : Value) :
    (((((((((W.setCell ⟨w.heap.size, 0, none⟩ (y0)).setCell ⟨w.heap.size, 1, none⟩ (y1)).setCell ⟨w.heap.size, 2, none⟩ (y2)).setCell ⟨w.heap.size, 3, none⟩ (y3)).setCell ⟨w.heap.size, 4, none⟩ (y4)).setCell ⟨w.heap.size, 5, none⟩ (y5)).setCell ⟨w.heap.size, 6, none⟩ (y6)).setCell ⟨w.heap.size + 1, 0, none⟩ (a)).setCell ⟨w.heap.size + 1, 1, none⟩ (b)).heap[w.heap.size]? = some (.cells #[y0, y1, y2, y3, y4, y5, y6] 26 (0, 0)) ∧ (((((((((W.setCell ⟨w.heap.size, 0, none⟩ (y0)).setCell ⟨w.heap.size, 1, none⟩ (y1)).setCell ⟨w.heap.size, 2, none⟩ (y2)).setCell ⟨w.heap.size, 3, none⟩ (y3)).setCell ⟨w.heap.size, 4, none⟩ (y4)).setCell ⟨w.heap.size, 5, none⟩ (y5)).setCell ⟨w.heap.size, 6, none⟩ (y6)).setCell ⟨w.heap.size + 1, 0, none⟩ (a)).setCell ⟨w.heap.size + 1, 1, none⟩ (b)).heap[w.heap.size + 1]? = some (.cells #[a, b] 30 (0, 0)) ∧ Below w.heap.size w (((((((((W.setCell ⟨w.heap.size, 0, none⟩ (y0)).setCell ⟨w.heap.size, 1, none⟩ (y1)).setCell ⟨w.heap.size, 2, none⟩ (y2)).setCell ⟨w.heap.size, 3, none⟩ (y3)).setCell ⟨w.heap.size, 4, none⟩ (y4)).setCell ⟨w.heap.size, 5, none⟩ (y5)).setCell ⟨w.heap.size, 6, none⟩ (y6)).setCell ⟨w.heap.size + 1, 0, none⟩ (a)).setCell ⟨w.heap.size + 1, 1, none⟩ (b)) ∧ (∀ c, c ≠ w.heap.size → c ≠ w.heap.size + 1 → (((((((((W.setCell ⟨w.heap.size, 0, none⟩ (y0)).setCell ⟨w.heap.size, 1, none⟩ (y1)).setCell ⟨w.heap.size, 2, none⟩ (y2)).setCell ⟨w.heap.size, 3, none⟩ (y3)).setCell ⟨w.heap.size, 4, none⟩ (y4)).setCell ⟨w.heap.size, 5, none⟩ (y5)).setCell ⟨w.heap.size, 6, none⟩ (y6)).setCell ⟨w.heap.size + 1, 0, none⟩ (a)).setCell ⟨w.heap.size + 1, 1, none⟩ (b)).heap[c]? = W.heap[c]?) ∧ (((((((((W.setCell ⟨w.heap.size, 0, none⟩ (y0)).setCell ⟨w.heap.size, 1, none⟩ (y1)).setCell ⟨w.heap.size, 2, none⟩ (y2)).setCell ⟨w.heap.size, 3, none⟩ (y3)).setCell ⟨w.heap.size, 4, none⟩ (y4)).setCell ⟨w.heap.size, 5, none⟩ (y5)).setCell ⟨w.heap.size, 6, none⟩ (y6)).setCell ⟨w.heap.size + 1, 0, none⟩ (a)).setCell ⟨w.heap.size + 1, 1, none⟩ (b)).heap.size = W.heap.size := by
  have h1 := set7' r y0 y1 y2 y3 y4 y5 y6
  have h2 := (other7 W w.heap.size y0 y1 y2 y3 y4 y5 y6 (w.heap.size + 1) (by omega)).trans f
  refine ⟨?_, set_at (set_at h2 0 _) 1 _, ?_, fun c h3 h4 => ?_, by simp [World.setCell]⟩
  · rw [Below.heap_setCell _ _ _ _ (by simp), Below.heap_setCell _ _ _ _ (by simp)]; exact h1
  · exact ((((((((hb.setCell (by simp) _).setCell (by simp) _).setCell (by simp) _).setCell (by simp) _).setCell (by simp) _).setCell (by simp) _).setCell (by simp) _).setCell (by simp) _).setCell (by simp) _
  · rw [Below.heap_setCell _ _ _ _ h4, Below.heap_setCell _ _ _ _ h4]; exact other7 W w.heap.size y0 y1 y2 y3 y4 y5 y6 c h3

theorem drew_b {X : World} {g : Nat} {o : Option Obj} (h : X.heap[g]? = o) : X.drew.heap[g]? = o := h
theorem drew_s {X : World} {n : Nat} (h : X.heap.size = n) : X.drew.heap.size = n := h
theorem drew_w {B : Nat} {w X : World} (h : Below B w X) : Below B w X.drew := ⟨h.os, h.tape, h.output, h.size, h.block⟩

set_option maxHeartbeats 4000000 in
theorem readR_yes (s : List UInt8) (w : World) (h : s.take 4 = hd4) (hs : s.length ≤ 1000000000) (hsm : ∀ n r, rdN (s.drop 4) = some (n, r) → Small n) (hFine : w.cell? ⟨0, 0, none⟩ = some (.int .i64 0) ∧ w.cell? ⟨0, 1, none⟩ = some (.int .i64 (-1))) : Calls Tryd.prog 9 #[.string (str s)] w (RiOut w (readE s).1 (readE s).2) := by
  have hc := fun W => hasp_yes s W h
  obtain ⟨T, hT⟩ : ∃ T, T = str s := ⟨_, rfl⟩
  rw [← hT] at hc ⊢
  obtain ⟨T5, hT5⟩ : ∃ T5, T5 = str (s.drop 4) := ⟨_, rfl⟩
  have h4 : 4 ≤ T.size := by
    have := congrArg List.length h
    rw [List.length_take] at this
    rw [hT, str_size]
    have : min 4 s.length = 4 := this
    omega
  have hsl2 : ∀ W, (Instr.sliceAt 9 (.string T) (some (.int .i64 4)) none none).run Tryd.prog W = .ok (.string T5) W := fun W => by
    rw [run_sliceAt_string W _ _ _ _ _ Tryd.underlying9, run_slice_string_l W _ T Tryd.underlying9 .i64 4 (by omega) (by omega), hT5, hT]
    exact congrArg (fun x => Result.ok (Value.string x) W) (str_drop s 4)
  have hl5 : (s.drop 4).length ≤ 1000000000 := by simp; omega
  have hpre : hd4.isPrefixOf s = true := (pre_iff s).2 h
  have hW : ∀ W, W = (((w.alloc (.cells #[.int .i64 0, .slice none 0 0, .slice none 0 0, .slice none 0 0, .slice none 0 0, .slice none 0 0, .slice none 0 0] 26)).alloc (.cells #[.int .i64 0, .int .i64 0] 30)).alloc (.cells #[.string T5, .bool false] 72)).alloc (.cells #[.int .i64 0, .slice none 0 0, .slice none 0 0, .slice none 0 0, .slice none 0 0, .slice none 0 0, .slice none 0 0] 26) → DR w W (w.heap.size + 1 + 1) (w.heap.size + 1 + 1 + 1) #[.int .i64 0, .slice none 0 0, .slice none 0 0, .slice none 0 0, .slice none 0 0, .slice none 0 0, .slice none 0 0] (s.drop 4) false := fun W hW => by
    subst hW
    refine ⟨?_, ?_, ?_, ?_, below_alloc1 (below_alloc1 (below_alloc1 (grown_one w _) _) _) _, by omega, by omega⟩
    · unfold TkS
      rw [Below.heap_alloc _ _ _ (by simp <;> omega), ← hT5]
      have := heap_alloc_new ((w.alloc (.cells #[.int .i64 0, .slice none 0 0, .slice none 0 0, .slice none 0 0, .slice none 0 0, .slice none 0 0, .slice none 0 0] 26)).alloc (.cells #[.int .i64 0, .int .i64 0] 30)) (.cells #[.string T5, .bool false] 72)
      simpa using this
    · have := heap_alloc_new (((w.alloc (.cells #[.int .i64 0, .slice none 0 0, .slice none 0 0, .slice none 0 0, .slice none 0 0, .slice none 0 0, .slice none 0 0] 26)).alloc (.cells #[.int .i64 0, .int .i64 0] 30)).alloc (.cells #[.string T5, .bool false] 72)) (.cells #[.int .i64 0, .slice none 0 0, .slice none 0 0, .slice none 0 0, .slice none 0 0, .slice none 0 0, .slice none 0 0] 26)
      simpa using this
    · rw [Below.heap_alloc _ _ _ (by simp <;> omega), Below.heap_alloc _ _ _ (by simp <;> omega), Below.heap_alloc _ _ _ (by simp <;> omega)]; exact heap_alloc_new w _
    · rw [Below.heap_alloc _ _ _ (by simp <;> omega), Below.heap_alloc _ _ _ (by simp <;> omega)]; exact new2' _ _ _
  have HSM : Hid (∀ n r, rdN (s.drop 4) = some (n, r) → Small n) := hsm
  have HFI : Hid (w.cell? ⟨0, 0, none⟩ = some (.int .i64 0) ∧ w.cell? ⟨0, 1, none⟩ = some (.int .i64 (-1))) := hFine
  have HPRE : Hid (hd4.isPrefixOf s = true) := hpre
  obtain ⟨s0, hs0⟩ : ∃ s0, s0 = s.drop 4 := ⟨_, rfl⟩
  rw [← hs0] at hW hl5 HSM
  have HS0 : Hid (s0 = s.drop 4) := hs0
  clear hT hT5 h hpre hsm hFine hs0
  go_enter Tryd.func9, Tryd.ntmps9
  go_upto_region 5 with (go_at_call 26; refine (hc _).mono ?_; rintro e w1 ⟨rfl, hw⟩; obtain rfl := hw.symm)
  have S0 := hW _ rfl
  revert S0
  generalize (((w.alloc (.cells #[.int .i64 0, .slice none 0 0, .slice none 0 0, .slice none 0 0, .slice none 0 0, .slice none 0 0, .slice none 0 0] 26)).alloc (.cells #[.int .i64 0, .int .i64 0] 30)).alloc (.cells #[.string T5, .bool false] 72)).alloc (.cells #[.int .i64 0, .slice none 0 0, .slice none 0 0, .slice none 0 0, .slice none 0 0, .slice none 0 0, .slice none 0 0] 26) = W0
  obtain ⟨nb, hnb⟩ : ∃ nb, nb = w.heap.size + 1 + 1 + 1 := ⟨_, rfl⟩
  obtain ⟨tb, htb⟩ : ∃ tb, tb = w.heap.size + 1 + 1 := ⟨_, rfl⟩
  rw [← hnb, ← htb]
  intro S0
  have S : Hid (DR w W0 tb nb #[.int .i64 0, .slice none 0 0, .slice none 0 0, .slice none 0 0, .slice none 0 0, .slice none 0 0, .slice none 0 0] s0 false) := S0
  have TH : Hid (Th2 (rdN s0) k0 s0 false) := ⟨fun _ => rdN_k0 s0, fun h => by cases h⟩
  have HL : Hid (w.heap.size + 1 < tb ∧ tb < nb) := ⟨S0.l1, S0.l2⟩
  clear S0 hW hc hsl2 hnb htb
  have hsm := tsmall_any tb s0 false W0 S.out.rd hl5
  go_upto_region 6 with (go_at_call 28; refine hsm.mono ?_; rintro e W1 ⟨p, s1, bad1, rfl, hp, X⟩; have S1 : Hid (DR w W1 tb nb #[.int .i64 0, .slice none 0 0, .slice none 0 0, .slice none 0 0, .slice none 0 0, .slice none 0 0, .slice none 0 0] s1 bad1) := S.out.call X.out.2.1 X.out.1; obtain ⟨q0, f0⟩ := cel S1.out.box 0 (.int .i64 0) rfl; clear hsm)
  have S2 : DR w (W1.setCell ⟨nb, 0, none⟩ (.int .i64 p)) tb nb #[.int .i64 p, .slice none 0 0, .slice none 0 0, .slice none 0 0, .slice none 0 0, .slice none 0 0, .slice none 0 0] s1 bad1 := S1.out.put 0 _
  have TH1 : Hid (Th2 (rdN s0) (k1 p) s1 bad1) := Th2.next (f := sm) (K := k0) (K' := k1) (fun s => by unfold k0; cases sm s <;> rfl) TH.out X.out.2.2.2
  have hl1 : s1.length ≤ 1000000000 := by have := X.out.2.2.1; omega
  clear S S1 TH X q0 f0
  revert S2
  generalize W1.setCell ⟨nb, 0, none⟩ (.int .i64 p) = Y1
  intro S2
  have C1 : Hid (DR w Y1 tb nb #[.int .i64 p, .slice none 0 0, .slice none 0 0, .slice none 0 0, .slice none 0 0, .slice none 0 0, .slice none 0 0] s1 bad1) := S2
  clear S2
  have hc1 := wide_list C1.out hl1
  go_upto_region 7 with (go_at_call 29; refine hc1.mono ?_; rintro e X1 ⟨ao1, cap1, fi, s2, bad2, rfl, D1⟩; obtain ⟨q0, f0⟩ := cel D1.out.1.box 1 (.slice none 0 0) rfl; clear hc1)
  have G1 : DR w (X1.setCell ⟨nb, 1, none⟩ (.slice ao1 fi.length cap1)) tb nb #[.int .i64 p, .slice ao1 fi.length cap1, .slice none 0 0, .slice none 0 0, .slice none 0 0, .slice none 0 0, .slice none 0 0] s2 bad2 := D1.out.1.put 1 _
  have I1 : Ints (fun c => nb < c) (X1.setCell ⟨nb, 1, none⟩ (.slice ao1 fi.length cap1)) (.slice ao1 fi.length cap1) fi := ints_put2 D1.out.2.2.1 _ _
  have TH2 : Hid (Th2 (rdN s0) (k2 p fi) s2 bad2) := Th2.next (f := lst tk) (K := k1 p) (K' := k2 p) (fun s => by unfold k1; cases lst tk s <;> rfl) TH1.out D1.out.2.2.2.2
  have hl2 : s2.length ≤ 1000000000 := by have := D1.out.2.2.2.1; omega
  clear C1 D1 TH1 q0 f0
  revert G1 I1
  generalize X1.setCell ⟨nb, 1, none⟩ (.slice ao1 fi.length cap1) = Y2
  intro G1 I1
  have C2 : Hid (DR w Y2 tb nb #[.int .i64 p, .slice ao1 fi.length cap1, .slice none 0 0, .slice none 0 0, .slice none 0 0, .slice none 0 0, .slice none 0 0] s2 bad2) := G1
  have J1 : Hid (Ints (fun c => nb < c) Y2 (.slice ao1 fi.length cap1) fi) := I1
  clear G1 I1
  have hcI := narrow_any C2.out hl2
  have hltb := HL.out.2
  go_upto_region 8 with (first
    | (go_at_call 29; refine hcI.mono ?_; rintro e Wa ⟨va, rfl, hdI⟩; clear hcI)
    | (go_at_call 30; refine hdI.mono ?_; rintro e X2 ⟨ao2, cap2, ii, s3, bad3, rfl, D2⟩; have hcO := narrow_any D2.out.1 (by have := D2.out.2.2.2.2.1; omega); clear hdI)
    | (go_at_call 29; refine hcO.mono ?_; rintro e Wb ⟨vb, rfl, hdO⟩; clear hcO)
    | (go_at_call 30; refine hdO.mono ?_; rintro e X3 ⟨ao3, cap3, oo, s4, bad4, rfl, D3⟩; have hcK := narrow_any D3.out.1 (by have := D3.out.2.2.2.2.1; have := D2.out.2.2.2.2.1; omega); clear hdO)
    | (go_at_call 29; refine hcK.mono ?_; rintro e Wc ⟨vc, rfl, hdK⟩; clear hcK)
    | (go_at_call 30; refine hdK.mono ?_; rintro e X4 ⟨ao4, cap4, kk, s5, bad5, rfl, D4⟩; obtain ⟨q2, f2⟩ := cel D4.out.1.box 2 (.slice none 0 0) rfl; obtain ⟨q3, f3⟩ := cel D4.out.1.box 3 (.slice none 0 0) rfl; obtain ⟨q4, f4⟩ := cel D4.out.1.box 4 (.slice none 0 0) rfl; clear hdK))
  have G4 : DR w (((X4.setCell ⟨nb, 2, none⟩ (.slice ao2 ii.length cap2)).setCell ⟨nb, 3, none⟩ (.slice ao3 oo.length cap3)).setCell ⟨nb, 4, none⟩ (.slice ao4 kk.length cap4)) tb nb #[.int .i64 p, .slice ao1 fi.length cap1, .slice ao2 ii.length cap2, .slice ao3 oo.length cap3, .slice ao4 kk.length cap4, .slice none 0 0, .slice none 0 0] s5 bad5 := ((D4.out.1.put 2 _).put 3 _).put 4 _
  have I1 : Ints (fun c => nb < c) (((X4.setCell ⟨nb, 2, none⟩ (.slice ao2 ii.length cap2)).setCell ⟨nb, 3, none⟩ (.slice ao3 oo.length cap3)).setCell ⟨nb, 4, none⟩ (.slice ao4 kk.length cap4)) (.slice ao1 fi.length cap1) fi := ints_put2 (ints_put2 (ints_put2 (ints_call2 (ints_call2 (ints_call2 J1.out hltb D2.out.2.1) hltb D3.out.2.1) hltb D4.out.2.1) _ _) _ _) _ _
  have I2 : Ints (fun c => nb < c) (((X4.setCell ⟨nb, 2, none⟩ (.slice ao2 ii.length cap2)).setCell ⟨nb, 3, none⟩ (.slice ao3 oo.length cap3)).setCell ⟨nb, 4, none⟩ (.slice ao4 kk.length cap4)) (.slice ao2 ii.length cap2) ii := ints_put2 (ints_put2 (ints_put2 (ints_call2 (ints_call2 D2.out.2.2.1 hltb D3.out.2.1) hltb D4.out.2.1) _ _) _ _) _ _
  have I3 : Ints (fun c => nb < c) (((X4.setCell ⟨nb, 2, none⟩ (.slice ao2 ii.length cap2)).setCell ⟨nb, 3, none⟩ (.slice ao3 oo.length cap3)).setCell ⟨nb, 4, none⟩ (.slice ao4 kk.length cap4)) (.slice ao3 oo.length cap3) oo := ints_put2 (ints_put2 (ints_put2 (ints_call2 D3.out.2.2.1 hltb D4.out.2.1) _ _) _ _) _ _
  have I4 : Ints (fun c => nb < c) (((X4.setCell ⟨nb, 2, none⟩ (.slice ao2 ii.length cap2)).setCell ⟨nb, 3, none⟩ (.slice ao3 oo.length cap3)).setCell ⟨nb, 4, none⟩ (.slice ao4 kk.length cap4)) (.slice ao4 kk.length cap4) kk := ints_put2 (ints_put2 (ints_put2 D4.out.2.2.1 _ _) _ _) _ _
  have TH3 := Th2.next (f := lst sm) (K := k2 p fi) (K' := k3 p fi) (fun s => by unfold k2; cases lst sm s <;> rfl) TH2.out D2.out.2.2.2.2.2
  have TH4 := Th2.next (f := lst sm) (K := k3 p fi ii) (K' := k4 p fi ii) (fun s => by unfold k3; cases lst sm s <;> rfl) TH3 D3.out.2.2.2.2.2
  have TH5 : Hid (Th2 (rdN s0) (k5 p fi ii oo kk) s5 bad5) := Th2.next (f := lst sm) (K := k4 p fi ii oo) (K' := k5 p fi ii oo) (fun s => by unfold k4; cases lst sm s <;> rfl) TH4 D4.out.2.2.2.2.2
  have hl5' : s5.length ≤ 1000000000 := by have := D2.out.2.2.2.2.1; have := D3.out.2.2.2.2.1; have := D4.out.2.2.2.2.1; omega
  have HCI : Hid (ii.length ≤ cap2) := D2.out.2.2.2.1
  clear C2 J1 D2 D3 D4 TH2 TH3 TH4 q2 f2 q3 f3 q4 f4
  revert G4 I1 I2 I3 I4
  generalize ((X4.setCell ⟨nb, 2, none⟩ (.slice ao2 ii.length cap2)).setCell ⟨nb, 3, none⟩ (.slice ao3 oo.length cap3)).setCell ⟨nb, 4, none⟩ (.slice ao4 kk.length cap4) = Y5
  intro G4 I1 I2 I3 I4
  have C5 : Hid (DR w Y5 tb nb #[.int .i64 p, .slice ao1 fi.length cap1, .slice ao2 ii.length cap2, .slice ao3 oo.length cap3, .slice ao4 kk.length cap4, .slice none 0 0, .slice none 0 0] s5 bad5) := G4
  have JJ : Hid (Ints (fun c => nb < c) Y5 (.slice ao1 fi.length cap1) fi ∧ Ints (fun c => nb < c) Y5 (.slice ao2 ii.length cap2) ii ∧ Ints (fun c => nb < c) Y5 (.slice ao3 oo.length cap3) oo ∧ Ints (fun c => nb < c) Y5 (.slice ao4 kk.length cap4) kk) := ⟨I1, I2, I3, I4⟩
  clear G4 I1 I2 I3 I4
  have hcN := wide_list C5.out hl5'
  go_upto_region 9 with (go_at_call 29; refine hcN.mono ?_; rintro e X5 ⟨ao5, cap5, mm, s6, bad6, rfl, D5⟩; obtain ⟨q5, f5⟩ := cel D5.out.1.box 5 (.slice none 0 0) rfl; clear hcN)
  have G5 : DR w (X5.setCell ⟨nb, 5, none⟩ (.slice ao5 mm.length cap5)) tb nb #[.int .i64 p, .slice ao1 fi.length cap1, .slice ao2 ii.length cap2, .slice ao3 oo.length cap3, .slice ao4 kk.length cap4, .slice ao5 mm.length cap5, .slice none 0 0] s6 bad6 := D5.out.1.put 5 _
  have I5 : Ints (fun c => nb < c) (X5.setCell ⟨nb, 5, none⟩ (.slice ao5 mm.length cap5)) (.slice ao1 fi.length cap1) fi ∧ Ints (fun c => nb < c) (X5.setCell ⟨nb, 5, none⟩ (.slice ao5 mm.length cap5)) (.slice ao2 ii.length cap2) ii ∧ Ints (fun c => nb < c) (X5.setCell ⟨nb, 5, none⟩ (.slice ao5 mm.length cap5)) (.slice ao3 oo.length cap3) oo ∧ Ints (fun c => nb < c) (X5.setCell ⟨nb, 5, none⟩ (.slice ao5 mm.length cap5)) (.slice ao4 kk.length cap4) kk ∧ Ints (fun c => nb < c) (X5.setCell ⟨nb, 5, none⟩ (.slice ao5 mm.length cap5)) (.slice ao5 mm.length cap5) mm := ⟨ints_put2 (ints_call2 JJ.out.1 hltb D5.out.2.1) _ _, ints_put2 (ints_call2 JJ.out.2.1 hltb D5.out.2.1) _ _, ints_put2 (ints_call2 JJ.out.2.2.1 hltb D5.out.2.1) _ _, ints_put2 (ints_call2 JJ.out.2.2.2 hltb D5.out.2.1) _ _, ints_put2 D5.out.2.2.1 _ _⟩
  have TH6 : Hid (Th2 (rdN s0) (k6 p fi ii oo kk mm) s6 bad6) := Th2.next (f := lst tk) (K := k5 p fi ii oo kk) (K' := k6 p fi ii oo kk) (fun s => by unfold k5; cases lst tk s <;> rfl) TH5.out D5.out.2.2.2.2
  have hl6 : s6.length ≤ 1000000000 := by have := D5.out.2.2.2.1; omega
  clear C5 JJ D5 TH5 q5 f5 hl5'
  revert G5 I5
  generalize X5.setCell ⟨nb, 5, none⟩ (.slice ao5 mm.length cap5) = Y6
  intro G5 I5
  have C6 : Hid (DR w Y6 tb nb #[.int .i64 p, .slice ao1 fi.length cap1, .slice ao2 ii.length cap2, .slice ao3 oo.length cap3, .slice ao4 kk.length cap4, .slice ao5 mm.length cap5, .slice none 0 0] s6 bad6) := G5
  have JJ : Hid _ := I5
  clear G5 I5
  have hsm2 := tsmall_any tb s6 bad6 Y6 C6.out.rd hl6
  go_upto_region 11 with (go_at_call 28; refine hsm2.mono ?_; rintro e Y7 ⟨c, r, bad7, rfl, hc, X⟩; clear hsm2)
  have D7 : DL w Y7 Y7 tb nb (.int .i64 p) (.slice ao1 fi.length cap1) (.slice ao2 ii.length cap2) (.slice ao3 oo.length cap3) (.slice ao4 kk.length cap4) (.slice ao5 mm.length cap5) (.slice none 0 0) 0 [] r bad7 := ⟨C6.out.call X.out.2.1 X.out.1, World.ownsRow_nil _ _ _ _, rfl, fun _ _ _ => rfl, Nat.le_refl _, lt_of_block (C6.out.call X.out.2.1 X.out.1).box⟩
  have J7 : Hid (Ints (fun c => nb < c) Y7 (.slice ao1 fi.length cap1) fi ∧ Ints (fun c => nb < c) Y7 (.slice ao2 ii.length cap2) ii ∧ Ints (fun c => nb < c) Y7 (.slice ao3 oo.length cap3) oo ∧ Ints (fun c => nb < c) Y7 (.slice ao4 kk.length cap4) kk ∧ Ints (fun c => nb < c) Y7 (.slice ao5 mm.length cap5) mm) := ⟨ints_call2 JJ.out.1 hltb X.out.2.1, ints_call2 JJ.out.2.1 hltb X.out.2.1, ints_call2 JJ.out.2.2.1 hltb X.out.2.1, ints_call2 JJ.out.2.2.2.1 hltb X.out.2.1, ints_call2 JJ.out.2.2.2.2 hltb X.out.2.1⟩
  have HX : Hid (r.length ≤ s6.length ∧ Tt sm s6 bad6 (c : Int) r bad7) := X.out.2.2
  have LL0 : ∃ l0 s0' bad0, Hid (DL w Y7 Y7 tb nb (.int .i64 p) (.slice ao1 fi.length cap1) (.slice ao2 ii.length cap2) (.slice ao3 oo.length cap3) (.slice ao4 kk.length cap4) (.slice ao5 mm.length cap5) (.slice none 0 0) 0 l0 s0' bad0 ∧ s0'.length ≤ r.length ∧ (bad0 = false → bad7 = false ∧ tkK rdS r 0 = some (l0, s0')) ∧ (bad0 = true → bad7 = true ∨ tkK rdS r c = none)) := ⟨[], r, bad7, D7, Nat.le_refl _, fun h => ⟨h, rfl⟩, fun h => .inl h⟩
  obtain ⟨i0, hi, iz0, iz1, iz2⟩ := info_parts Tryd.infoStep
  clear C6 JJ X D7
  go_loopw [7] (fun i wr => ∃ k : Nat, k ≤ c ∧ i = .int .i64 k ∧ ∃ vC l s' bad', Hid (DL w Y7 wr tb nb (.int .i64 p) (.slice ao1 fi.length cap1) (.slice ao2 ii.length cap2) (.slice ao3 oo.length cap3) (.slice ao4 kk.length cap4) (.slice ao5 mm.length cap5) vC k l s' bad' ∧ s'.length ≤ r.length ∧ (bad' = false → bad7 = false ∧ tkK rdS r k = some (l, s')) ∧ (bad' = true → bad7 = true ∨ tkK rdS r c = none))) (fun i _ => c - (intOf i).toNat)
  case atStart => exact ⟨0, Nat.zero_le _, rfl, _, LL0⟩
  case round =>
    clear LL0
    obtain ⟨k, hk, rfl, vC, l, s', bad', Y⟩ := hrel
    obtain ⟨ao, cap, hvC, _⟩ := own_shape Y.out.1.own
    subst hvC
    have cb : wr.cell? ⟨tb, 1, none⟩ = some (.bool bad') := (cel Y.out.1.dr.rd 1 _ rfl).1
    by_cases hgo : k < c ∧ bad' = false
    · obtain ⟨hlt, rfl⟩ := hgo
      have hl' : s'.length ≤ 1000000000 := by have := Y.out.2.1; have := HX.out.1; omega
      have hc1 := tsmall_any tb s' false wr Y.out.1.dr.rd hl'
      go_upto_region 14 with (first | (go_at_call 28; refine hc1.mono ?_; rintro e Wa ⟨code, ra, ba, rfl, hcode, Za⟩; have hc2 := tsmall_any tb ra ba Wa Za.out.1 (by have := Za.out.2.2.1; omega); clear hc1) | (go_at_call 28; refine hc2.mono ?_; rintro e Wb ⟨dst, rb, bb, rfl, hdst, Zb⟩; clear hc2))
      have sbE : (Wb.alloc (.cells #[.int .i64 code, .int .i64 dst, .int .i64 0, .int .i64 0, .int .i64 0] 55)).heap[Wb.heap.size]? = some (.cells (five code [(dst : Int)]) 55 (0, 0)) := heap_alloc_new Wb _
      have hza := Za.out.2.1.size
      have hzb := Zb.out.2.1.size
      have DL0 := ((Y.out.1.call Za.out.2.1 Za.out.1).call Zb.out.2.1 Zb.out.1).more (grown_one Wb (.cells #[.int .i64 code, .int .i64 dst, .int .i64 0, .int .i64 0, .int .i64 0] 55))
      have hsbb : Y7.heap.size ≤ Wb.heap.size ∧ (Value.slice ao k cap).ownBlock ≠ some Wb.heap.size := ⟨by have := Y.out.1.size; omega, fun e => by have := (Y.out.1.own.lt _ e).2; omega⟩
      have F0 : Hid (DL w Y7 (Wb.alloc (.cells #[.int .i64 code, .int .i64 dst, .int .i64 0, .int .i64 0, .int .i64 0] 55)) tb nb (.int .i64 p) (.slice ao1 fi.length cap1) (.slice ao2 ii.length cap2) (.slice ao3 oo.length cap3) (.slice ao4 kk.length cap4) (.slice ao5 mm.length cap5) (.slice ao k cap) k l rb bb) := DL0
      have TA : Hid (Tt sm s' false (code : Int) ra ba) := Za.out.2.2.2
      have TB : Hid (Tt (fun s => tkK sm s 1) ra ba [(dst : Int)] rb bb) := Tt.next (f := fun s => tkK sm s 0) (x := []) ⟨fun h => ⟨h, rfl⟩, fun h => .inl h⟩ Zb.out.2.2.2 (fun a b => tkK_step sm a b) (fun a => tkK_none sm a) (fun a b => tkK_fail sm a b)
      have HLR : Hid (rb.length ≤ s'.length) := Nat.le_trans Zb.out.2.2.1 Za.out.2.2.1
      revert F0 sbE hsbb
      generalize Wb.alloc (.cells #[.int .i64 code, .int .i64 dst, .int .i64 0, .int .i64 0, .int .i64 0] 55) = Q0
      obtain ⟨sb, hsb⟩ : ∃ sb, sb = Wb.heap.size := ⟨_, rfl⟩
      rw [← hsb]
      intro sbE hsbb F0
      have HSB : Hid (Y7.heap.size ≤ sb ∧ (Value.slice ao k cap).ownBlock ≠ some sb) := hsbb
      have E0 : Hid (DL w Y7 Q0 tb nb (.int .i64 p) (.slice ao1 fi.length cap1) (.slice ao2 ii.length cap2) (.slice ao3 oo.length cap3) (.slice ao4 kk.length cap4) (.slice ao5 mm.length cap5) (.slice ao k cap) k l rb bb ∧ Q0.heap[sb]? = some (.cells (five code [(dst : Int)]) 55 (0, 0)) ∧ rb.length ≤ s'.length ∧ Tt (fun s => tkK sm s 1) ra ba [(dst : Int)] rb bb) := ⟨F0.out, sbE, HLR.out, TB.out⟩
      clear sbE hsbb F0 DL0 hza hzb Za Zb hsb TB HLR cb
      have m0 := (five_cells E0.out.2.1).1
      by_cases h1 : code = 1
      · have h1' : ((code : Int) == 1) = true := by simp; omega
        have H1 : Hid ((code : Int) = 1) := by
          have : (code : Int) = 1 := by omega
          exact this
        clear h1
        have hq1 := tsmall_any tb rb bb Q0 E0.out.1.dr.rd (by have := E0.out.2.2.1; omega)
        go_upto_region 16 with (first | (go_at_call 28; refine hq1.mono ?_; rintro e U1 ⟨z1, r1, b1, rfl, hz1, Z1⟩; have st1 : U1.heap[sb]? = some (.cells (five code [(dst : Int)]) 55 (0, 0)) := (by rw [Z1.out.2.1.block sb (lt_of_block E0.out.2.1) (by have := HL.out; have := HSB.out; have := E0.out.1.hD; simp; omega)]; exact E0.out.2.1); obtain ⟨y1, cy1⟩ : ∃ y, U1.cell? ⟨sb, 2, none⟩ = some y := ⟨_, (cel st1 2 _ rfl).1⟩; have fy1 : U1.frozen? ⟨sb, 2, none⟩ = false := (cel st1 2 _ rfl).2; clear hq1) | fail)
        have F1 : Hid (DL w Y7 (U1.setCell ⟨sb, 2, none⟩ (.int .i64 z1)) tb nb (.int .i64 p) (.slice ao1 fi.length cap1) (.slice ao2 ii.length cap2) (.slice ao3 oo.length cap3) (.slice ao4 kk.length cap4) (.slice ao5 mm.length cap5) (.slice ao k cap) k l r1 b1 ∧ (U1.setCell ⟨sb, 2, none⟩ (.int .i64 z1)).heap[sb]? = some (.cells (five code ([(dst : Int)] ++ [(z1 : Int)])) 55 (0, 0)) ∧ r1.length ≤ s'.length ∧ Tt (fun s => tkK sm s 2) ra ba ([(dst : Int)] ++ [(z1 : Int)]) r1 b1) := ⟨(E0.out.1.call Z1.out.2.1 Z1.out.1).set HSB.out.1 HSB.out.2 _ _, (by rw [← five_set code [(dst : Int)] 1 rfl (by omega)]; exact set_at st1 _ _), Nat.le_trans Z1.out.2.2.1 E0.out.2.2.1, Tt.more E0.out.2.2.2 Z1.out.2.2.2⟩
        clear E0 cy1 fy1 st1 Z1
        revert F1
        generalize U1.setCell ⟨sb, 2, none⟩ (.int .i64 z1) = Q1
        intro F1
        have E1 : Hid (DL w Y7 Q1 tb nb (.int .i64 p) (.slice ao1 fi.length cap1) (.slice ao2 ii.length cap2) (.slice ao3 oo.length cap3) (.slice ao4 kk.length cap4) (.slice ao5 mm.length cap5) (.slice ao k cap) k l r1 b1 ∧ Q1.heap[sb]? = some (.cells (five code ([(dst : Int)] ++ [(z1 : Int)])) 55 (0, 0)) ∧ r1.length ≤ s'.length ∧ Tt (fun s => tkK sm s 2) ra ba ([(dst : Int)] ++ [(z1 : Int)]) r1 b1) := F1
        clear F1
        clear m0
        obtain ⟨m0, m1, m2, m3, m4⟩ := five_cells E1.out.2.1
        have hask := asksL code (([(dst : Int)] ++ [(z1 : Int)]).getD 0 0) (([(dst : Int)] ++ [(z1 : Int)]).getD 1 0) (([(dst : Int)] ++ [(z1 : Int)]).getD 2 0) (([(dst : Int)] ++ [(z1 : Int)]).getD 3 0) 0 (by rw [asks_num _ H1.out]; rfl) Q1
        obtain ⟨x1, hx1⟩ : ∃ x, Hid (x = ([(dst : Int)] ++ [(z1 : Int)]).getD 0 0) := ⟨_, rfl⟩
        obtain ⟨x2, hx2⟩ : ∃ x, Hid (x = ([(dst : Int)] ++ [(z1 : Int)]).getD 1 0) := ⟨_, rfl⟩
        obtain ⟨x3, hx3⟩ : ∃ x, Hid (x = ([(dst : Int)] ++ [(z1 : Int)]).getD 2 0) := ⟨_, rfl⟩
        obtain ⟨x4, hx4⟩ : ∃ x, Hid (x = ([(dst : Int)] ++ [(z1 : Int)]).getD 3 0) := ⟨_, rfl⟩
        rw [← hx1.out] at m1 hask
        rw [← hx2.out] at m2 hask
        rw [← hx3.out] at m3 hask
        rw [← hx4.out] at m4 hask
        go_upto_region 23 with (go_at_call 17; refine hask.mono ?_; rintro e Wk ⟨ad, capq, rfl, hbk⟩; clear hask)
        clear m0 m1 m2 m3 m4
        have E2 : Hid (DL w Y7 Wk tb nb (.int .i64 p) (.slice ao1 fi.length cap1) (.slice ao2 ii.length cap2) (.slice ao3 oo.length cap3) (.slice ao4 kk.length cap4) (.slice ao5 mm.length cap5) (.slice ao k cap) k l r1 b1 ∧ Wk.heap[sb]? = some (.cells (five code ([(dst : Int)] ++ [(z1 : Int)])) 55 (0, 0)) ∧ r1.length ≤ s'.length ∧ Tt (fun s => tkK sm s 2) ra ba ([(dst : Int)] ++ [(z1 : Int)]) r1 b1) := ⟨E1.out.1.more hbk.out, (by rw [hbk.out.block _ (lt_of_block E1.out.2.1)]; exact E1.out.2.1), E1.out.2.2.1, E1.out.2.2.2⟩
        clear E1
        obtain ⟨m0, m1, m2, m3, m4⟩ := five_cells E2.out.2.1
        have mc : Wk.cell? ⟨nb, 6, none⟩ = some (.slice ao k cap) := (cel E2.out.1.dr.box 6 _ rfl).1
        obtain ⟨x1, hx1⟩ : ∃ x, Hid (x = ([(dst : Int)] ++ [(z1 : Int)]).getD 0 0) := ⟨_, rfl⟩
        obtain ⟨x2, hx2⟩ : ∃ x, Hid (x = ([(dst : Int)] ++ [(z1 : Int)]).getD 1 0) := ⟨_, rfl⟩
        obtain ⟨x3, hx3⟩ : ∃ x, Hid (x = ([(dst : Int)] ++ [(z1 : Int)]).getD 2 0) := ⟨_, rfl⟩
        obtain ⟨x4, hx4⟩ : ∃ x, Hid (x = ([(dst : Int)] ++ [(z1 : Int)]).getD 3 0) := ⟨_, rfl⟩
        rw [← hx1.out] at m1
        rw [← hx2.out] at m2
        rw [← hx3.out] at m3
        rw [← hx4.out] at m4
        have TT : Hid (Tt rdS s' false ⟨code, x1, x2, x3, x4⟩ r1 b1) := by
          rw [hx1.out, hx2.out, hx3.out, hx4.out]
          exact Tt.step TA.out (by rw [show 1 + nAsk (code : Int) = 2 by rw [H1.out]; rfl]; exact E2.out.2.2.2)
        go_wp2_with (at_builtin; refine wpList_append_own_at _ rfl (.tmp 85) (.tmp 87) 24 rfl Y7.heap.size 55 i0 _ 5 40 Tryd.underlying24 hi iz0 iz1 iz2 rfl (by decide) _ _ _ rfl (E2.out.1.own.alloc _) ⟨Wk.heap.size, 0, none⟩ 1 1 [.int .i64 code, .int .i64 x1, .int .i64 x2, .int .i64 x3, .int .i64 x4] rfl rfl (cells_newL Wk #[.int .i64 code, .int .i64 x1, .int .i64 x2, .int .i64 x3, .int .i64 x4] 55) (by intro u hu; simp at hu; rcases hu with rfl | rfl | rfl | rfl | rfl <;> rfl) (by unfold maxLen; omega) (by omega) (by have := E2.out.1.size; simp; omega) ?_; intro v5 w5 hown5 hgrow5 _ hat5; have hb5 : w5.heap[nb]? = some (.cells _ 26 (0, 0)) := (((hgrow5.block nb (by have := lt_of_block E2.out.1.dr.box; simp; omega) (fun e => by have := (E2.out.1.own.lt _ e.symm).1; have := E2.out.1.hD; omega)).trans (Below.heap_alloc _ _ _ (lt_of_block E2.out.1.dr.box))).trans E2.out.1.dr.box); have c6 := (cel hb5 6 _ rfl).1; have f6 := (cel hb5 6 _ rfl).2; obtain ⟨ao9, cap9, hv9, _⟩ := own_shape hown5; subst hv9; have YN : Hid _ := E2.out.1.app (x := ⟨code, x1, x2, x3, x4⟩) hown5 hgrow5; clear hown5 hgrow5 hat5 hb5)
        go_roundw
        case rel =>
          refine ⟨k + 1, by omega, by go_num, _, l ++ [⟨code, x1, x2, x3, x4⟩], r1, b1, YN.out, Nat.le_trans E2.out.2.2.1 Y.out.2.1, fun hb => ?_, fun hb => ?_⟩
          · obtain ⟨t1, t2⟩ := TT.out.1 hb
            obtain ⟨y1, y2⟩ := Y.out.2.2.1 (by first | rfl | trivial)
            exact ⟨y1, tkK_step rdS y2 t2⟩
          · right
            rcases TT.out.2 hb with t1 | t1
            · cases t1
            · exact tkK_none_le rdS (tkK_fail rdS (Y.out.2.2.1 (by first | rfl | trivial)).2 t1) hlt
        case measure => simp [intOf]; omega
      · have h1' : ((code : Int) == 1) = false := by simp; omega
        have h1n : (code : Int) ≠ 1 := by omega
        go_upto_region 16 with fail
        clear m0
        have hm3 : nAsk (code : Int) = 0 ∨ nAsk (code : Int) = 1 ∨ nAsk (code : Int) = 2 ∨ nAsk (code : Int) = 3 := by have := nAsk3 (code : Int); omega
        have hal : ∀ d a b c : Int, (asks ⟨code, d, a, b, c⟩).length = nAsk (code : Int) := fun d a b c => asks_len h1n
        rcases hm3 with hm | hm | hm | hm
        · obtain ⟨m0, m1, m2, m3, m4⟩ := five_cells E0.out.2.1
          have hask := asksL code ([(dst : Int)].getD 0 0) ([(dst : Int)].getD 1 0) ([(dst : Int)].getD 2 0) ([(dst : Int)].getD 3 0) 0 (by rw [hal]; exact hm) Q0
          obtain ⟨x1, hx1⟩ : ∃ x, Hid (x = [(dst : Int)].getD 0 0) := ⟨_, rfl⟩
          obtain ⟨x2, hx2⟩ : ∃ x, Hid (x = [(dst : Int)].getD 1 0) := ⟨_, rfl⟩
          obtain ⟨x3, hx3⟩ : ∃ x, Hid (x = [(dst : Int)].getD 2 0) := ⟨_, rfl⟩
          obtain ⟨x4, hx4⟩ : ∃ x, Hid (x = [(dst : Int)].getD 3 0) := ⟨_, rfl⟩
          rw [← hx1.out] at m1 hask
          rw [← hx2.out] at m2 hask
          rw [← hx3.out] at m3 hask
          rw [← hx4.out] at m4 hask
          go_upto_region 23 with (go_at_call 17; refine hask.mono ?_; rintro e Wk ⟨ad, capq, rfl, hbk⟩; clear hask)
          clear m0 m1 m2 m3 m4 hx1 hx2 hx3 hx4
          have E1 : Hid (DL w Y7 Wk tb nb (.int .i64 p) (.slice ao1 fi.length cap1) (.slice ao2 ii.length cap2) (.slice ao3 oo.length cap3) (.slice ao4 kk.length cap4) (.slice ao5 mm.length cap5) (.slice ao k cap) k l rb bb ∧ Wk.heap[sb]? = some (.cells (five code [(dst : Int)]) 55 (0, 0)) ∧ rb.length ≤ s'.length ∧ Tt (fun s => tkK sm s 1) ra ba [(dst : Int)] rb bb) := ⟨E0.out.1.more hbk.out, (by rw [hbk.out.block _ (lt_of_block E0.out.2.1)]; exact E0.out.2.1), E0.out.2.2.1, E0.out.2.2.2⟩
          clear E0
          obtain ⟨m0, m1, m2, m3, m4⟩ := five_cells E1.out.2.1
          have mc : Wk.cell? ⟨nb, 6, none⟩ = some (.slice ao k cap) := (cel E1.out.1.dr.box 6 _ rfl).1
          obtain ⟨x1, hx1⟩ : ∃ x, Hid (x = [(dst : Int)].getD 0 0) := ⟨_, rfl⟩
          obtain ⟨x2, hx2⟩ : ∃ x, Hid (x = [(dst : Int)].getD 1 0) := ⟨_, rfl⟩
          obtain ⟨x3, hx3⟩ : ∃ x, Hid (x = [(dst : Int)].getD 2 0) := ⟨_, rfl⟩
          obtain ⟨x4, hx4⟩ : ∃ x, Hid (x = [(dst : Int)].getD 3 0) := ⟨_, rfl⟩
          rw [← hx1.out] at m1
          rw [← hx2.out] at m2
          rw [← hx3.out] at m3
          rw [← hx4.out] at m4
          have TT : Hid (Tt rdS s' false ⟨code, x1, x2, x3, x4⟩ rb bb) := by
            rw [hx1.out, hx2.out, hx3.out, hx4.out]
            exact Tt.step TA.out (by rw [show 1 + nAsk (code : Int) = 1 by rw [hm]]; exact E1.out.2.2.2)
          go_wp2_with (at_builtin; refine wpList_append_own_at _ rfl (.tmp 85) (.tmp 87) 24 rfl Y7.heap.size 55 i0 _ 5 40 Tryd.underlying24 hi iz0 iz1 iz2 rfl (by decide) _ _ _ rfl (E1.out.1.own.alloc _) ⟨Wk.heap.size, 0, none⟩ 1 1 [.int .i64 code, .int .i64 x1, .int .i64 x2, .int .i64 x3, .int .i64 x4] rfl rfl (cells_newL Wk #[.int .i64 code, .int .i64 x1, .int .i64 x2, .int .i64 x3, .int .i64 x4] 55) (by intro u hu; simp at hu; rcases hu with rfl | rfl | rfl | rfl | rfl <;> rfl) (by unfold maxLen; omega) (by omega) (by have := E1.out.1.size; simp; omega) ?_; intro v5 w5 hown5 hgrow5 _ hat5; have hb5 : w5.heap[nb]? = some (.cells _ 26 (0, 0)) := (((hgrow5.block nb (by have := lt_of_block E1.out.1.dr.box; simp; omega) (fun e => by have := (E1.out.1.own.lt _ e.symm).1; have := E1.out.1.hD; omega)).trans (Below.heap_alloc _ _ _ (lt_of_block E1.out.1.dr.box))).trans E1.out.1.dr.box); have c6 := (cel hb5 6 _ rfl).1; have f6 := (cel hb5 6 _ rfl).2; obtain ⟨ao9, cap9, hv9, _⟩ := own_shape hown5; subst hv9; have YN : Hid _ := E1.out.1.app (x := ⟨code, x1, x2, x3, x4⟩) hown5 hgrow5; clear hown5 hgrow5 hat5 hb5)
          go_roundw
          case rel =>
            refine ⟨k + 1, by omega, by go_num, _, l ++ [⟨code, x1, x2, x3, x4⟩], rb, bb, YN.out, Nat.le_trans E1.out.2.2.1 Y.out.2.1, fun hb => ?_, fun hb => ?_⟩
            · obtain ⟨t1, t2⟩ := TT.out.1 hb
              obtain ⟨y1, y2⟩ := Y.out.2.2.1 (by first | rfl | trivial)
              exact ⟨y1, tkK_step rdS y2 t2⟩
            · right
              rcases TT.out.2 hb with t1 | t1
              · cases t1
              · exact tkK_none_le rdS (tkK_fail rdS (Y.out.2.2.1 (by first | rfl | trivial)).2 t1) hlt
          case measure => simp [intOf]; omega
        · obtain ⟨m0, m1, m2, m3, m4⟩ := five_cells E0.out.2.1
          have hask := asksL code ([(dst : Int)].getD 0 0) ([(dst : Int)].getD 1 0) ([(dst : Int)].getD 2 0) ([(dst : Int)].getD 3 0) 1 (by rw [hal]; exact hm) Q0
          obtain ⟨x1, hx1⟩ : ∃ x, Hid (x = [(dst : Int)].getD 0 0) := ⟨_, rfl⟩
          obtain ⟨x2, hx2⟩ : ∃ x, Hid (x = [(dst : Int)].getD 1 0) := ⟨_, rfl⟩
          obtain ⟨x3, hx3⟩ : ∃ x, Hid (x = [(dst : Int)].getD 2 0) := ⟨_, rfl⟩
          obtain ⟨x4, hx4⟩ : ∃ x, Hid (x = [(dst : Int)].getD 3 0) := ⟨_, rfl⟩
          rw [← hx1.out] at m1 hask
          rw [← hx2.out] at m2 hask
          rw [← hx3.out] at m3 hask
          rw [← hx4.out] at m4 hask
          go_upto_region 18 with (go_at_call 17; refine hask.mono ?_; rintro e Wk ⟨ad, capq, rfl, hbk⟩; clear hask)
          clear m0 m1 m2 m3 m4 hx1 hx2 hx3 hx4
          have E1 : Hid (DL w Y7 Wk tb nb (.int .i64 p) (.slice ao1 fi.length cap1) (.slice ao2 ii.length cap2) (.slice ao3 oo.length cap3) (.slice ao4 kk.length cap4) (.slice ao5 mm.length cap5) (.slice ao k cap) k l rb bb ∧ Wk.heap[sb]? = some (.cells (five code [(dst : Int)]) 55 (0, 0)) ∧ rb.length ≤ s'.length ∧ Tt (fun s => tkK sm s 1) ra ba [(dst : Int)] rb bb) := ⟨E0.out.1.more hbk.out, (by rw [hbk.out.block _ (lt_of_block E0.out.2.1)]; exact E0.out.2.1), E0.out.2.2.1, E0.out.2.2.2⟩
          clear E0
          have hq2 := tsmall_any tb rb bb Wk E1.out.1.dr.rd (by have := E1.out.2.2.1; omega)
          go_upto_region 23 with (first | (go_at_call 28; refine hq2.mono ?_; rintro e U2 ⟨z2, r2, b2, rfl, hz2, Z2⟩; have st2 : U2.heap[sb]? = some (.cells (five code [(dst : Int)]) 55 (0, 0)) := (by rw [Z2.out.2.1.block sb (lt_of_block E1.out.2.1) (by have := HL.out; have := HSB.out; have := E1.out.1.hD; simp; omega)]; exact E1.out.2.1); obtain ⟨y2, cy2⟩ : ∃ y, U2.cell? ⟨sb, 2, none⟩ = some y := ⟨_, (cel st2 2 _ rfl).1⟩; have fy2 : U2.frozen? ⟨sb, 2, none⟩ = false := (cel st2 2 _ rfl).2; clear hq2) | fail)
          have F2 : Hid (DL w Y7 (U2.setCell ⟨sb, 2, none⟩ (.int .i64 z2)) tb nb (.int .i64 p) (.slice ao1 fi.length cap1) (.slice ao2 ii.length cap2) (.slice ao3 oo.length cap3) (.slice ao4 kk.length cap4) (.slice ao5 mm.length cap5) (.slice ao k cap) k l r2 b2 ∧ (U2.setCell ⟨sb, 2, none⟩ (.int .i64 z2)).heap[sb]? = some (.cells (five code ([(dst : Int)] ++ [(z2 : Int)])) 55 (0, 0)) ∧ r2.length ≤ s'.length ∧ Tt (fun s => tkK sm s 2) ra ba ([(dst : Int)] ++ [(z2 : Int)]) r2 b2) := ⟨(E1.out.1.call Z2.out.2.1 Z2.out.1).set HSB.out.1 HSB.out.2 _ _, (by rw [← five_set code [(dst : Int)] 1 rfl (by omega)]; exact set_at st2 _ _), Nat.le_trans Z2.out.2.2.1 E1.out.2.2.1, Tt.more E1.out.2.2.2 Z2.out.2.2.2⟩
          clear E1 cy2 fy2 st2 Z2
          revert F2
          generalize U2.setCell ⟨sb, 2, none⟩ (.int .i64 z2) = Q2
          intro F2
          have E2 : Hid (DL w Y7 Q2 tb nb (.int .i64 p) (.slice ao1 fi.length cap1) (.slice ao2 ii.length cap2) (.slice ao3 oo.length cap3) (.slice ao4 kk.length cap4) (.slice ao5 mm.length cap5) (.slice ao k cap) k l r2 b2 ∧ Q2.heap[sb]? = some (.cells (five code ([(dst : Int)] ++ [(z2 : Int)])) 55 (0, 0)) ∧ r2.length ≤ s'.length ∧ Tt (fun s => tkK sm s 2) ra ba ([(dst : Int)] ++ [(z2 : Int)]) r2 b2) := F2
          clear F2
          obtain ⟨m0, m1, m2, m3, m4⟩ := five_cells E2.out.2.1
          have mc : Q2.cell? ⟨nb, 6, none⟩ = some (.slice ao k cap) := (cel E2.out.1.dr.box 6 _ rfl).1
          obtain ⟨x1, hx1⟩ : ∃ x, Hid (x = ([(dst : Int)] ++ [(z2 : Int)]).getD 0 0) := ⟨_, rfl⟩
          obtain ⟨x2, hx2⟩ : ∃ x, Hid (x = ([(dst : Int)] ++ [(z2 : Int)]).getD 1 0) := ⟨_, rfl⟩
          obtain ⟨x3, hx3⟩ : ∃ x, Hid (x = ([(dst : Int)] ++ [(z2 : Int)]).getD 2 0) := ⟨_, rfl⟩
          obtain ⟨x4, hx4⟩ : ∃ x, Hid (x = ([(dst : Int)] ++ [(z2 : Int)]).getD 3 0) := ⟨_, rfl⟩
          rw [← hx1.out] at m1
          rw [← hx2.out] at m2
          rw [← hx3.out] at m3
          rw [← hx4.out] at m4
          have TT : Hid (Tt rdS s' false ⟨code, x1, x2, x3, x4⟩ r2 b2) := by
            rw [hx1.out, hx2.out, hx3.out, hx4.out]
            exact Tt.step TA.out (by rw [show 1 + nAsk (code : Int) = 2 by rw [hm]]; exact E2.out.2.2.2)
          go_wp2_with (at_builtin; refine wpList_append_own_at _ rfl (.tmp 85) (.tmp 87) 24 rfl Y7.heap.size 55 i0 _ 5 40 Tryd.underlying24 hi iz0 iz1 iz2 rfl (by decide) _ _ _ rfl (E2.out.1.own.alloc _) ⟨Q2.heap.size, 0, none⟩ 1 1 [.int .i64 code, .int .i64 x1, .int .i64 x2, .int .i64 x3, .int .i64 x4] rfl rfl (cells_newL Q2 #[.int .i64 code, .int .i64 x1, .int .i64 x2, .int .i64 x3, .int .i64 x4] 55) (by intro u hu; simp at hu; rcases hu with rfl | rfl | rfl | rfl | rfl <;> rfl) (by unfold maxLen; omega) (by omega) (by have := E2.out.1.size; simp; omega) ?_; intro v5 w5 hown5 hgrow5 _ hat5; have hb5 : w5.heap[nb]? = some (.cells _ 26 (0, 0)) := (((hgrow5.block nb (by have := lt_of_block E2.out.1.dr.box; simp; omega) (fun e => by have := (E2.out.1.own.lt _ e.symm).1; have := E2.out.1.hD; omega)).trans (Below.heap_alloc _ _ _ (lt_of_block E2.out.1.dr.box))).trans E2.out.1.dr.box); have c6 := (cel hb5 6 _ rfl).1; have f6 := (cel hb5 6 _ rfl).2; obtain ⟨ao9, cap9, hv9, _⟩ := own_shape hown5; subst hv9; have YN : Hid _ := E2.out.1.app (x := ⟨code, x1, x2, x3, x4⟩) hown5 hgrow5; clear hown5 hgrow5 hat5 hb5)
          go_roundw
          case rel =>
            refine ⟨k + 1, by omega, by go_num, _, l ++ [⟨code, x1, x2, x3, x4⟩], r2, b2, YN.out, Nat.le_trans E2.out.2.2.1 Y.out.2.1, fun hb => ?_, fun hb => ?_⟩
            · obtain ⟨t1, t2⟩ := TT.out.1 hb
              obtain ⟨y1, y2⟩ := Y.out.2.2.1 (by first | rfl | trivial)
              exact ⟨y1, tkK_step rdS y2 t2⟩
            · right
              rcases TT.out.2 hb with t1 | t1
              · cases t1
              · exact tkK_none_le rdS (tkK_fail rdS (Y.out.2.2.1 (by first | rfl | trivial)).2 t1) hlt
          case measure => simp [intOf]; omega
        · obtain ⟨m0, m1, m2, m3, m4⟩ := five_cells E0.out.2.1
          have hask := asksL code ([(dst : Int)].getD 0 0) ([(dst : Int)].getD 1 0) ([(dst : Int)].getD 2 0) ([(dst : Int)].getD 3 0) 2 (by rw [hal]; exact hm) Q0
          obtain ⟨x1, hx1⟩ : ∃ x, Hid (x = [(dst : Int)].getD 0 0) := ⟨_, rfl⟩
          obtain ⟨x2, hx2⟩ : ∃ x, Hid (x = [(dst : Int)].getD 1 0) := ⟨_, rfl⟩
          obtain ⟨x3, hx3⟩ : ∃ x, Hid (x = [(dst : Int)].getD 2 0) := ⟨_, rfl⟩
          obtain ⟨x4, hx4⟩ : ∃ x, Hid (x = [(dst : Int)].getD 3 0) := ⟨_, rfl⟩
          rw [← hx1.out] at m1 hask
          rw [← hx2.out] at m2 hask
          rw [← hx3.out] at m3 hask
          rw [← hx4.out] at m4 hask
          go_upto_region 18 with (go_at_call 17; refine hask.mono ?_; rintro e Wk ⟨ad, capq, rfl, hbk⟩; clear hask)
          clear m0 m1 m2 m3 m4 hx1 hx2 hx3 hx4
          have E1 : Hid (DL w Y7 Wk tb nb (.int .i64 p) (.slice ao1 fi.length cap1) (.slice ao2 ii.length cap2) (.slice ao3 oo.length cap3) (.slice ao4 kk.length cap4) (.slice ao5 mm.length cap5) (.slice ao k cap) k l rb bb ∧ Wk.heap[sb]? = some (.cells (five code [(dst : Int)]) 55 (0, 0)) ∧ rb.length ≤ s'.length ∧ Tt (fun s => tkK sm s 1) ra ba [(dst : Int)] rb bb) := ⟨E0.out.1.more hbk.out, (by rw [hbk.out.block _ (lt_of_block E0.out.2.1)]; exact E0.out.2.1), E0.out.2.2.1, E0.out.2.2.2⟩
          clear E0
          have hq2 := tsmall_any tb rb bb Wk E1.out.1.dr.rd (by have := E1.out.2.2.1; omega)
          go_upto_region 20 with (first | (go_at_call 28; refine hq2.mono ?_; rintro e U2 ⟨z2, r2, b2, rfl, hz2, Z2⟩; have st2 : U2.heap[sb]? = some (.cells (five code [(dst : Int)]) 55 (0, 0)) := (by rw [Z2.out.2.1.block sb (lt_of_block E1.out.2.1) (by have := HL.out; have := HSB.out; have := E1.out.1.hD; simp; omega)]; exact E1.out.2.1); obtain ⟨y2, cy2⟩ : ∃ y, U2.cell? ⟨sb, 2, none⟩ = some y := ⟨_, (cel st2 2 _ rfl).1⟩; have fy2 : U2.frozen? ⟨sb, 2, none⟩ = false := (cel st2 2 _ rfl).2; clear hq2) | fail)
          have F2 : Hid (DL w Y7 (U2.setCell ⟨sb, 2, none⟩ (.int .i64 z2)) tb nb (.int .i64 p) (.slice ao1 fi.length cap1) (.slice ao2 ii.length cap2) (.slice ao3 oo.length cap3) (.slice ao4 kk.length cap4) (.slice ao5 mm.length cap5) (.slice ao k cap) k l r2 b2 ∧ (U2.setCell ⟨sb, 2, none⟩ (.int .i64 z2)).heap[sb]? = some (.cells (five code ([(dst : Int)] ++ [(z2 : Int)])) 55 (0, 0)) ∧ r2.length ≤ s'.length ∧ Tt (fun s => tkK sm s 2) ra ba ([(dst : Int)] ++ [(z2 : Int)]) r2 b2) := ⟨(E1.out.1.call Z2.out.2.1 Z2.out.1).set HSB.out.1 HSB.out.2 _ _, (by rw [← five_set code [(dst : Int)] 1 rfl (by omega)]; exact set_at st2 _ _), Nat.le_trans Z2.out.2.2.1 E1.out.2.2.1, Tt.more E1.out.2.2.2 Z2.out.2.2.2⟩
          clear E1 cy2 fy2 st2 Z2
          revert F2
          generalize U2.setCell ⟨sb, 2, none⟩ (.int .i64 z2) = Q2
          intro F2
          have E2 : Hid (DL w Y7 Q2 tb nb (.int .i64 p) (.slice ao1 fi.length cap1) (.slice ao2 ii.length cap2) (.slice ao3 oo.length cap3) (.slice ao4 kk.length cap4) (.slice ao5 mm.length cap5) (.slice ao k cap) k l r2 b2 ∧ Q2.heap[sb]? = some (.cells (five code ([(dst : Int)] ++ [(z2 : Int)])) 55 (0, 0)) ∧ r2.length ≤ s'.length ∧ Tt (fun s => tkK sm s 2) ra ba ([(dst : Int)] ++ [(z2 : Int)]) r2 b2) := F2
          clear F2
          have hq3 := tsmall_any tb r2 b2 Q2 E2.out.1.dr.rd (by have := E2.out.2.2.1; omega)
          go_upto_region 23 with (first | (go_at_call 28; refine hq3.mono ?_; rintro e U3 ⟨z3, r3, b3, rfl, hz3, Z3⟩; have st3 : U3.heap[sb]? = some (.cells (five code ([(dst : Int)] ++ [(z2 : Int)])) 55 (0, 0)) := (by rw [Z3.out.2.1.block sb (lt_of_block E2.out.2.1) (by have := HL.out; have := HSB.out; have := E2.out.1.hD; simp; omega)]; exact E2.out.2.1); obtain ⟨y3, cy3⟩ : ∃ y, U3.cell? ⟨sb, 3, none⟩ = some y := ⟨_, (cel st3 3 _ rfl).1⟩; have fy3 : U3.frozen? ⟨sb, 3, none⟩ = false := (cel st3 3 _ rfl).2; clear hq3) | fail)
          have F3 : Hid (DL w Y7 (U3.setCell ⟨sb, 3, none⟩ (.int .i64 z3)) tb nb (.int .i64 p) (.slice ao1 fi.length cap1) (.slice ao2 ii.length cap2) (.slice ao3 oo.length cap3) (.slice ao4 kk.length cap4) (.slice ao5 mm.length cap5) (.slice ao k cap) k l r3 b3 ∧ (U3.setCell ⟨sb, 3, none⟩ (.int .i64 z3)).heap[sb]? = some (.cells (five code (([(dst : Int)] ++ [(z2 : Int)]) ++ [(z3 : Int)])) 55 (0, 0)) ∧ r3.length ≤ s'.length ∧ Tt (fun s => tkK sm s 3) ra ba (([(dst : Int)] ++ [(z2 : Int)]) ++ [(z3 : Int)]) r3 b3) := ⟨(E2.out.1.call Z3.out.2.1 Z3.out.1).set HSB.out.1 HSB.out.2 _ _, (by rw [← five_set code ([(dst : Int)] ++ [(z2 : Int)]) 2 rfl (by omega)]; exact set_at st3 _ _), Nat.le_trans Z3.out.2.2.1 E2.out.2.2.1, Tt.more E2.out.2.2.2 Z3.out.2.2.2⟩
          clear E2 cy3 fy3 st3 Z3
          revert F3
          generalize U3.setCell ⟨sb, 3, none⟩ (.int .i64 z3) = Q3
          intro F3
          have E3 : Hid (DL w Y7 Q3 tb nb (.int .i64 p) (.slice ao1 fi.length cap1) (.slice ao2 ii.length cap2) (.slice ao3 oo.length cap3) (.slice ao4 kk.length cap4) (.slice ao5 mm.length cap5) (.slice ao k cap) k l r3 b3 ∧ Q3.heap[sb]? = some (.cells (five code (([(dst : Int)] ++ [(z2 : Int)]) ++ [(z3 : Int)])) 55 (0, 0)) ∧ r3.length ≤ s'.length ∧ Tt (fun s => tkK sm s 3) ra ba (([(dst : Int)] ++ [(z2 : Int)]) ++ [(z3 : Int)]) r3 b3) := F3
          clear F3
          obtain ⟨m0, m1, m2, m3, m4⟩ := five_cells E3.out.2.1
          have mc : Q3.cell? ⟨nb, 6, none⟩ = some (.slice ao k cap) := (cel E3.out.1.dr.box 6 _ rfl).1
          obtain ⟨x1, hx1⟩ : ∃ x, Hid (x = (([(dst : Int)] ++ [(z2 : Int)]) ++ [(z3 : Int)]).getD 0 0) := ⟨_, rfl⟩
          obtain ⟨x2, hx2⟩ : ∃ x, Hid (x = (([(dst : Int)] ++ [(z2 : Int)]) ++ [(z3 : Int)]).getD 1 0) := ⟨_, rfl⟩
          obtain ⟨x3, hx3⟩ : ∃ x, Hid (x = (([(dst : Int)] ++ [(z2 : Int)]) ++ [(z3 : Int)]).getD 2 0) := ⟨_, rfl⟩
          obtain ⟨x4, hx4⟩ : ∃ x, Hid (x = (([(dst : Int)] ++ [(z2 : Int)]) ++ [(z3 : Int)]).getD 3 0) := ⟨_, rfl⟩
          rw [← hx1.out] at m1
          rw [← hx2.out] at m2
          rw [← hx3.out] at m3
          rw [← hx4.out] at m4
          have TT : Hid (Tt rdS s' false ⟨code, x1, x2, x3, x4⟩ r3 b3) := by
            rw [hx1.out, hx2.out, hx3.out, hx4.out]
            exact Tt.step TA.out (by rw [show 1 + nAsk (code : Int) = 3 by rw [hm]]; exact E3.out.2.2.2)
          go_wp2_with (at_builtin; refine wpList_append_own_at _ rfl (.tmp 85) (.tmp 87) 24 rfl Y7.heap.size 55 i0 _ 5 40 Tryd.underlying24 hi iz0 iz1 iz2 rfl (by decide) _ _ _ rfl (E3.out.1.own.alloc _) ⟨Q3.heap.size, 0, none⟩ 1 1 [.int .i64 code, .int .i64 x1, .int .i64 x2, .int .i64 x3, .int .i64 x4] rfl rfl (cells_newL Q3 #[.int .i64 code, .int .i64 x1, .int .i64 x2, .int .i64 x3, .int .i64 x4] 55) (by intro u hu; simp at hu; rcases hu with rfl | rfl | rfl | rfl | rfl <;> rfl) (by unfold maxLen; omega) (by omega) (by have := E3.out.1.size; simp; omega) ?_; intro v5 w5 hown5 hgrow5 _ hat5; have hb5 : w5.heap[nb]? = some (.cells _ 26 (0, 0)) := (((hgrow5.block nb (by have := lt_of_block E3.out.1.dr.box; simp; omega) (fun e => by have := (E3.out.1.own.lt _ e.symm).1; have := E3.out.1.hD; omega)).trans (Below.heap_alloc _ _ _ (lt_of_block E3.out.1.dr.box))).trans E3.out.1.dr.box); have c6 := (cel hb5 6 _ rfl).1; have f6 := (cel hb5 6 _ rfl).2; obtain ⟨ao9, cap9, hv9, _⟩ := own_shape hown5; subst hv9; have YN : Hid _ := E3.out.1.app (x := ⟨code, x1, x2, x3, x4⟩) hown5 hgrow5; clear hown5 hgrow5 hat5 hb5)
          go_roundw
          case rel =>
            refine ⟨k + 1, by omega, by go_num, _, l ++ [⟨code, x1, x2, x3, x4⟩], r3, b3, YN.out, Nat.le_trans E3.out.2.2.1 Y.out.2.1, fun hb => ?_, fun hb => ?_⟩
            · obtain ⟨t1, t2⟩ := TT.out.1 hb
              obtain ⟨y1, y2⟩ := Y.out.2.2.1 (by first | rfl | trivial)
              exact ⟨y1, tkK_step rdS y2 t2⟩
            · right
              rcases TT.out.2 hb with t1 | t1
              · cases t1
              · exact tkK_none_le rdS (tkK_fail rdS (Y.out.2.2.1 (by first | rfl | trivial)).2 t1) hlt
          case measure => simp [intOf]; omega
        · obtain ⟨m0, m1, m2, m3, m4⟩ := five_cells E0.out.2.1
          have hask := asksL code ([(dst : Int)].getD 0 0) ([(dst : Int)].getD 1 0) ([(dst : Int)].getD 2 0) ([(dst : Int)].getD 3 0) 3 (by rw [hal]; exact hm) Q0
          obtain ⟨x1, hx1⟩ : ∃ x, Hid (x = [(dst : Int)].getD 0 0) := ⟨_, rfl⟩
          obtain ⟨x2, hx2⟩ : ∃ x, Hid (x = [(dst : Int)].getD 1 0) := ⟨_, rfl⟩
          obtain ⟨x3, hx3⟩ : ∃ x, Hid (x = [(dst : Int)].getD 2 0) := ⟨_, rfl⟩
          obtain ⟨x4, hx4⟩ : ∃ x, Hid (x = [(dst : Int)].getD 3 0) := ⟨_, rfl⟩
          rw [← hx1.out] at m1 hask
          rw [← hx2.out] at m2 hask
          rw [← hx3.out] at m3 hask
          rw [← hx4.out] at m4 hask
          go_upto_region 18 with (go_at_call 17; refine hask.mono ?_; rintro e Wk ⟨ad, capq, rfl, hbk⟩; clear hask)
          clear m0 m1 m2 m3 m4 hx1 hx2 hx3 hx4
          have E1 : Hid (DL w Y7 Wk tb nb (.int .i64 p) (.slice ao1 fi.length cap1) (.slice ao2 ii.length cap2) (.slice ao3 oo.length cap3) (.slice ao4 kk.length cap4) (.slice ao5 mm.length cap5) (.slice ao k cap) k l rb bb ∧ Wk.heap[sb]? = some (.cells (five code [(dst : Int)]) 55 (0, 0)) ∧ rb.length ≤ s'.length ∧ Tt (fun s => tkK sm s 1) ra ba [(dst : Int)] rb bb) := ⟨E0.out.1.more hbk.out, (by rw [hbk.out.block _ (lt_of_block E0.out.2.1)]; exact E0.out.2.1), E0.out.2.2.1, E0.out.2.2.2⟩
          clear E0
          have hq2 := tsmall_any tb rb bb Wk E1.out.1.dr.rd (by have := E1.out.2.2.1; omega)
          go_upto_region 20 with (first | (go_at_call 28; refine hq2.mono ?_; rintro e U2 ⟨z2, r2, b2, rfl, hz2, Z2⟩; have st2 : U2.heap[sb]? = some (.cells (five code [(dst : Int)]) 55 (0, 0)) := (by rw [Z2.out.2.1.block sb (lt_of_block E1.out.2.1) (by have := HL.out; have := HSB.out; have := E1.out.1.hD; simp; omega)]; exact E1.out.2.1); obtain ⟨y2, cy2⟩ : ∃ y, U2.cell? ⟨sb, 2, none⟩ = some y := ⟨_, (cel st2 2 _ rfl).1⟩; have fy2 : U2.frozen? ⟨sb, 2, none⟩ = false := (cel st2 2 _ rfl).2; clear hq2) | fail)
          have F2 : Hid (DL w Y7 (U2.setCell ⟨sb, 2, none⟩ (.int .i64 z2)) tb nb (.int .i64 p) (.slice ao1 fi.length cap1) (.slice ao2 ii.length cap2) (.slice ao3 oo.length cap3) (.slice ao4 kk.length cap4) (.slice ao5 mm.length cap5) (.slice ao k cap) k l r2 b2 ∧ (U2.setCell ⟨sb, 2, none⟩ (.int .i64 z2)).heap[sb]? = some (.cells (five code ([(dst : Int)] ++ [(z2 : Int)])) 55 (0, 0)) ∧ r2.length ≤ s'.length ∧ Tt (fun s => tkK sm s 2) ra ba ([(dst : Int)] ++ [(z2 : Int)]) r2 b2) := ⟨(E1.out.1.call Z2.out.2.1 Z2.out.1).set HSB.out.1 HSB.out.2 _ _, (by rw [← five_set code [(dst : Int)] 1 rfl (by omega)]; exact set_at st2 _ _), Nat.le_trans Z2.out.2.2.1 E1.out.2.2.1, Tt.more E1.out.2.2.2 Z2.out.2.2.2⟩
          clear E1 cy2 fy2 st2 Z2
          revert F2
          generalize U2.setCell ⟨sb, 2, none⟩ (.int .i64 z2) = Q2
          intro F2
          have E2 : Hid (DL w Y7 Q2 tb nb (.int .i64 p) (.slice ao1 fi.length cap1) (.slice ao2 ii.length cap2) (.slice ao3 oo.length cap3) (.slice ao4 kk.length cap4) (.slice ao5 mm.length cap5) (.slice ao k cap) k l r2 b2 ∧ Q2.heap[sb]? = some (.cells (five code ([(dst : Int)] ++ [(z2 : Int)])) 55 (0, 0)) ∧ r2.length ≤ s'.length ∧ Tt (fun s => tkK sm s 2) ra ba ([(dst : Int)] ++ [(z2 : Int)]) r2 b2) := F2
          clear F2
          have hq3 := tsmall_any tb r2 b2 Q2 E2.out.1.dr.rd (by have := E2.out.2.2.1; omega)
          go_upto_region 22 with (first | (go_at_call 28; refine hq3.mono ?_; rintro e U3 ⟨z3, r3, b3, rfl, hz3, Z3⟩; have st3 : U3.heap[sb]? = some (.cells (five code ([(dst : Int)] ++ [(z2 : Int)])) 55 (0, 0)) := (by rw [Z3.out.2.1.block sb (lt_of_block E2.out.2.1) (by have := HL.out; have := HSB.out; have := E2.out.1.hD; simp; omega)]; exact E2.out.2.1); obtain ⟨y3, cy3⟩ : ∃ y, U3.cell? ⟨sb, 3, none⟩ = some y := ⟨_, (cel st3 3 _ rfl).1⟩; have fy3 : U3.frozen? ⟨sb, 3, none⟩ = false := (cel st3 3 _ rfl).2; clear hq3) | fail)
          have F3 : Hid (DL w Y7 (U3.setCell ⟨sb, 3, none⟩ (.int .i64 z3)) tb nb (.int .i64 p) (.slice ao1 fi.length cap1) (.slice ao2 ii.length cap2) (.slice ao3 oo.length cap3) (.slice ao4 kk.length cap4) (.slice ao5 mm.length cap5) (.slice ao k cap) k l r3 b3 ∧ (U3.setCell ⟨sb, 3, none⟩ (.int .i64 z3)).heap[sb]? = some (.cells (five code (([(dst : Int)] ++ [(z2 : Int)]) ++ [(z3 : Int)])) 55 (0, 0)) ∧ r3.length ≤ s'.length ∧ Tt (fun s => tkK sm s 3) ra ba (([(dst : Int)] ++ [(z2 : Int)]) ++ [(z3 : Int)]) r3 b3) := ⟨(E2.out.1.call Z3.out.2.1 Z3.out.1).set HSB.out.1 HSB.out.2 _ _, (by rw [← five_set code ([(dst : Int)] ++ [(z2 : Int)]) 2 rfl (by omega)]; exact set_at st3 _ _), Nat.le_trans Z3.out.2.2.1 E2.out.2.2.1, Tt.more E2.out.2.2.2 Z3.out.2.2.2⟩
          clear E2 cy3 fy3 st3 Z3
          revert F3
          generalize U3.setCell ⟨sb, 3, none⟩ (.int .i64 z3) = Q3
          intro F3
          have E3 : Hid (DL w Y7 Q3 tb nb (.int .i64 p) (.slice ao1 fi.length cap1) (.slice ao2 ii.length cap2) (.slice ao3 oo.length cap3) (.slice ao4 kk.length cap4) (.slice ao5 mm.length cap5) (.slice ao k cap) k l r3 b3 ∧ Q3.heap[sb]? = some (.cells (five code (([(dst : Int)] ++ [(z2 : Int)]) ++ [(z3 : Int)])) 55 (0, 0)) ∧ r3.length ≤ s'.length ∧ Tt (fun s => tkK sm s 3) ra ba (([(dst : Int)] ++ [(z2 : Int)]) ++ [(z3 : Int)]) r3 b3) := F3
          clear F3
          have hq4 := tsmall_any tb r3 b3 Q3 E3.out.1.dr.rd (by have := E3.out.2.2.1; omega)
          go_upto_region 23 with (first | (go_at_call 28; refine hq4.mono ?_; rintro e U4 ⟨z4, r4, b4, rfl, hz4, Z4⟩; have st4 : U4.heap[sb]? = some (.cells (five code (([(dst : Int)] ++ [(z2 : Int)]) ++ [(z3 : Int)])) 55 (0, 0)) := (by rw [Z4.out.2.1.block sb (lt_of_block E3.out.2.1) (by have := HL.out; have := HSB.out; have := E3.out.1.hD; simp; omega)]; exact E3.out.2.1); obtain ⟨y4, cy4⟩ : ∃ y, U4.cell? ⟨sb, 4, none⟩ = some y := ⟨_, (cel st4 4 _ rfl).1⟩; have fy4 : U4.frozen? ⟨sb, 4, none⟩ = false := (cel st4 4 _ rfl).2; clear hq4) | fail)
          have F4 : Hid (DL w Y7 (U4.setCell ⟨sb, 4, none⟩ (.int .i64 z4)) tb nb (.int .i64 p) (.slice ao1 fi.length cap1) (.slice ao2 ii.length cap2) (.slice ao3 oo.length cap3) (.slice ao4 kk.length cap4) (.slice ao5 mm.length cap5) (.slice ao k cap) k l r4 b4 ∧ (U4.setCell ⟨sb, 4, none⟩ (.int .i64 z4)).heap[sb]? = some (.cells (five code ((([(dst : Int)] ++ [(z2 : Int)]) ++ [(z3 : Int)]) ++ [(z4 : Int)])) 55 (0, 0)) ∧ r4.length ≤ s'.length ∧ Tt (fun s => tkK sm s 4) ra ba ((([(dst : Int)] ++ [(z2 : Int)]) ++ [(z3 : Int)]) ++ [(z4 : Int)]) r4 b4) := ⟨(E3.out.1.call Z4.out.2.1 Z4.out.1).set HSB.out.1 HSB.out.2 _ _, (by rw [← five_set code (([(dst : Int)] ++ [(z2 : Int)]) ++ [(z3 : Int)]) 3 rfl (by omega)]; exact set_at st4 _ _), Nat.le_trans Z4.out.2.2.1 E3.out.2.2.1, Tt.more E3.out.2.2.2 Z4.out.2.2.2⟩
          clear E3 cy4 fy4 st4 Z4
          revert F4
          generalize U4.setCell ⟨sb, 4, none⟩ (.int .i64 z4) = Q4
          intro F4
          have E4 : Hid (DL w Y7 Q4 tb nb (.int .i64 p) (.slice ao1 fi.length cap1) (.slice ao2 ii.length cap2) (.slice ao3 oo.length cap3) (.slice ao4 kk.length cap4) (.slice ao5 mm.length cap5) (.slice ao k cap) k l r4 b4 ∧ Q4.heap[sb]? = some (.cells (five code ((([(dst : Int)] ++ [(z2 : Int)]) ++ [(z3 : Int)]) ++ [(z4 : Int)])) 55 (0, 0)) ∧ r4.length ≤ s'.length ∧ Tt (fun s => tkK sm s 4) ra ba ((([(dst : Int)] ++ [(z2 : Int)]) ++ [(z3 : Int)]) ++ [(z4 : Int)]) r4 b4) := F4
          clear F4
          obtain ⟨m0, m1, m2, m3, m4⟩ := five_cells E4.out.2.1
          have mc : Q4.cell? ⟨nb, 6, none⟩ = some (.slice ao k cap) := (cel E4.out.1.dr.box 6 _ rfl).1
          obtain ⟨x1, hx1⟩ : ∃ x, Hid (x = ((([(dst : Int)] ++ [(z2 : Int)]) ++ [(z3 : Int)]) ++ [(z4 : Int)]).getD 0 0) := ⟨_, rfl⟩
          obtain ⟨x2, hx2⟩ : ∃ x, Hid (x = ((([(dst : Int)] ++ [(z2 : Int)]) ++ [(z3 : Int)]) ++ [(z4 : Int)]).getD 1 0) := ⟨_, rfl⟩
          obtain ⟨x3, hx3⟩ : ∃ x, Hid (x = ((([(dst : Int)] ++ [(z2 : Int)]) ++ [(z3 : Int)]) ++ [(z4 : Int)]).getD 2 0) := ⟨_, rfl⟩
          obtain ⟨x4, hx4⟩ : ∃ x, Hid (x = ((([(dst : Int)] ++ [(z2 : Int)]) ++ [(z3 : Int)]) ++ [(z4 : Int)]).getD 3 0) := ⟨_, rfl⟩
          rw [← hx1.out] at m1
          rw [← hx2.out] at m2
          rw [← hx3.out] at m3
          rw [← hx4.out] at m4
          have TT : Hid (Tt rdS s' false ⟨code, x1, x2, x3, x4⟩ r4 b4) := by
            rw [hx1.out, hx2.out, hx3.out, hx4.out]
            exact Tt.step TA.out (by rw [show 1 + nAsk (code : Int) = 4 by rw [hm]]; exact E4.out.2.2.2)
          go_wp2_with (at_builtin; refine wpList_append_own_at _ rfl (.tmp 85) (.tmp 87) 24 rfl Y7.heap.size 55 i0 _ 5 40 Tryd.underlying24 hi iz0 iz1 iz2 rfl (by decide) _ _ _ rfl (E4.out.1.own.alloc _) ⟨Q4.heap.size, 0, none⟩ 1 1 [.int .i64 code, .int .i64 x1, .int .i64 x2, .int .i64 x3, .int .i64 x4] rfl rfl (cells_newL Q4 #[.int .i64 code, .int .i64 x1, .int .i64 x2, .int .i64 x3, .int .i64 x4] 55) (by intro u hu; simp at hu; rcases hu with rfl | rfl | rfl | rfl | rfl <;> rfl) (by unfold maxLen; omega) (by omega) (by have := E4.out.1.size; simp; omega) ?_; intro v5 w5 hown5 hgrow5 _ hat5; have hb5 : w5.heap[nb]? = some (.cells _ 26 (0, 0)) := (((hgrow5.block nb (by have := lt_of_block E4.out.1.dr.box; simp; omega) (fun e => by have := (E4.out.1.own.lt _ e.symm).1; have := E4.out.1.hD; omega)).trans (Below.heap_alloc _ _ _ (lt_of_block E4.out.1.dr.box))).trans E4.out.1.dr.box); have c6 := (cel hb5 6 _ rfl).1; have f6 := (cel hb5 6 _ rfl).2; obtain ⟨ao9, cap9, hv9, _⟩ := own_shape hown5; subst hv9; have YN : Hid _ := E4.out.1.app (x := ⟨code, x1, x2, x3, x4⟩) hown5 hgrow5; clear hown5 hgrow5 hat5 hb5)
          go_roundw
          case rel =>
            refine ⟨k + 1, by omega, by go_num, _, l ++ [⟨code, x1, x2, x3, x4⟩], r4, b4, YN.out, Nat.le_trans E4.out.2.2.1 Y.out.2.1, fun hb => ?_, fun hb => ?_⟩
            · obtain ⟨t1, t2⟩ := TT.out.1 hb
              obtain ⟨y1, y2⟩ := Y.out.2.2.1 (by first | rfl | trivial)
              exact ⟨y1, tkK_step rdS y2 t2⟩
            · right
              rcases TT.out.2 hb with t1 | t1
              · cases t1
              · exact tkK_none_le rdS (tkK_fail rdS (Y.out.2.2.1 (by first | rfl | trivial)).2 t1) hlt
          case measure => simp [intOf]; omega
    · have hfin : k = c ∨ bad' = true := by
        by_cases hkc : k = c
        · exact .inl hkc
        · right
          cases hb : bad' with
          | true => rfl
          | false => exact absurd ⟨by omega, hb⟩ hgo
      have hT : Tt lstS s6 bad6 l s' bad' := by
        refine ⟨fun hb => ?_, fun hb => ?_⟩
        · have hkc : k = c := by
            rcases hfin with h | h
            · exact h
            · rw [hb] at h; cases h
          obtain ⟨y1, y2⟩ := Y.out.2.2.1 hb
          obtain ⟨x1, x2⟩ := HX.out.2.1 y1
          refine ⟨x1, ?_⟩
          unfold lstS
          rw [x2]
          simp only
          rw [Int.toNat_natCast, ← hkc]
          exact y2
        · have key : bad7 = true → bad6 = true ∨ lstS s6 = none := fun h => by
            rcases HX.out.2.2 h with x1 | x1
            · exact .inl x1
            · right
              unfold lstS
              rw [x1]
          rcases Y.out.2.2.2 hb with y1 | y1
          · exact key y1
          · cases hb7 : bad7 with
            | true => exact key hb7
            | false =>
              right
              obtain ⟨x1, x2⟩ := HX.out.2.1 hb7
              unfold lstS
              rw [x2]
              simp only
              rw [Int.toNat_natCast]
              exact y1
      have hR : (bad' = false → rdN s0 = some (⟨p, fi, ii, oo, kk, mm, l⟩, s')) ∧ (bad' = true → rdN s0 = none) := by
        refine ⟨fun hb => ?_, fun hb => ?_⟩
        · obtain ⟨t1, t2⟩ := hT.1 hb
          have := TH6.out.1 t1
          unfold k6 at this
          rw [t2] at this
          exact this
        · rcases hT.2 hb with t1 | t1
          · exact TH6.out.2 t1
          · cases hb6 : bad6 with
            | true => exact TH6.out.2 hb6
            | false =>
              have := TH6.out.1 hb6
              unfold k6 at this
              rw [t1] at this
              exact this
      have HR : Hid ((bad' = false → rdN s0 = some (⟨p, fi, ii, oo, kk, mm, l⟩, s')) ∧ (bad' = true → rdN s0 = none)) := hR
      have hp4 : [67, 76, 80, 49].isPrefixOf s = true := HPRE.out
      have HP4 : Hid ([67, 76, 80, 49].isPrefixOf s = true) := hp4
      obtain ⟨S1, hS1⟩ : ∃ S1, S1 = str s' := ⟨_, rfl⟩
      have cs0 : wr.cell? ⟨tb, 0, none⟩ = some (.string S1) := by rw [hS1]; exact (cel Y.out.1.dr.rd 0 _ rfl).1
      have HS1 : Hid (S1 = str s') := hS1
      have HFIN : Hid (k = c ∨ bad' = true) := hfin
      clear hT hR hp4 hS1 hfin
      cases bad' with
      | true =>
        have HNO : Hid (readE s = (nt0, (3, -1))) := by
          have e : readE s = (nt0, (3, -1)) := by
            unfold readE readN
            rw [if_pos HP4.out, ← HS0.out, HR.out.2 rfl]
          exact e
        clear hgo
        by_cases hlt : k < c
        · go_wp2_with (go_at_call 27; refine (bare_any 3 _).mono ?_; rintro e w8 ⟨rfl, hb8⟩; have r8 : w8.heap[w.heap.size]? = some (.cells #[.int .i64 0, .slice none 0 0, .slice none 0 0, .slice none 0 0, .slice none 0 0, .slice none 0 0, .slice none 0 0] 26 (0, 0)) := (by rw [hb8.block _ (lt_of_block Y.out.1.dr.rb)]; exact Y.out.1.dr.rb); have g8 : w8.heap[w.heap.size + 1]? = some (.cells #[.int .i64 0, .int .i64 0] 30 (0, 0)) := (by rw [hb8.block _ (lt_of_block Y.out.1.dr.fb)]; exact Y.out.1.dr.fb); obtain ⟨p0, f0⟩ := cel r8 0 (.int .i64 0) rfl; obtain ⟨p1, f1⟩ := cel r8 1 (.slice none 0 0) rfl; obtain ⟨p2, f2⟩ := cel r8 2 (.slice none 0 0) rfl; obtain ⟨p3, f3⟩ := cel r8 3 (.slice none 0 0) rfl; obtain ⟨p4, f4⟩ := cel r8 4 (.slice none 0 0) rfl; obtain ⟨p5, f5⟩ := cel r8 5 (.slice none 0 0) rfl; obtain ⟨p6, f6⟩ := cel r8 6 (.slice none 0 0) rfl; obtain ⟨u0, v0, u1, v1⟩ := rb_cells g8; have K8 : Hid (w8.heap[w.heap.size]? = some (.cells #[.int .i64 0, .slice none 0 0, .slice none 0 0, .slice none 0 0, .slice none 0 0, .slice none 0 0, .slice none 0 0] 26 (0, 0)) ∧ w8.heap[w.heap.size + 1]? = some (.cells #[.int .i64 0, .int .i64 0] 30 (0, 0)) ∧ Below w.heap.size w w8) := ⟨r8, g8, ball Y.out.1.dr.below hb8⟩; clear r8 g8 hb8)
          clear p0 p1 p2 p3 p4 p5 p6 f0 f1 f2 f3 f4 f5 f6 u0 u1 v0 v1
          obtain ⟨e1, e2, e3, e4, e5⟩ := fin9 K8.out.1 K8.out.2.1 K8.out.2.2 (.int .i64 0) (.slice none 0 0) (.slice none 0 0) (.slice none 0 0) (.slice none 0 0) (.slice none 0 0) (.slice none 0 0) (.int .i64 3) (.int .i64 (-1))
          refine bodyPost_ret (resultsRI _ _ w.heap.size (w.heap.size + 1) _ _ rfl rfl rfl rfl e1 e2) rfl ?_
          show RiOut w (readE s).1 (readE s).2 _ _
          rw [HNO.out]
          exact ⟨_, _, _, _, _, _, rfl, net0 _ _, e3⟩
        · obtain rfl : k = c := by omega
          clear hlt
          go_wp2_with (go_at_call 27; refine (bare_any 3 _).mono ?_; rintro e w8 ⟨rfl, hb8⟩; have r8 : w8.heap[w.heap.size]? = some (.cells #[.int .i64 0, .slice none 0 0, .slice none 0 0, .slice none 0 0, .slice none 0 0, .slice none 0 0, .slice none 0 0] 26 (0, 0)) := (by rw [hb8.block _ (lt_of_block Y.out.1.dr.rb)]; exact Y.out.1.dr.rb); have g8 : w8.heap[w.heap.size + 1]? = some (.cells #[.int .i64 0, .int .i64 0] 30 (0, 0)) := (by rw [hb8.block _ (lt_of_block Y.out.1.dr.fb)]; exact Y.out.1.dr.fb); obtain ⟨p0, f0⟩ := cel r8 0 (.int .i64 0) rfl; obtain ⟨p1, f1⟩ := cel r8 1 (.slice none 0 0) rfl; obtain ⟨p2, f2⟩ := cel r8 2 (.slice none 0 0) rfl; obtain ⟨p3, f3⟩ := cel r8 3 (.slice none 0 0) rfl; obtain ⟨p4, f4⟩ := cel r8 4 (.slice none 0 0) rfl; obtain ⟨p5, f5⟩ := cel r8 5 (.slice none 0 0) rfl; obtain ⟨p6, f6⟩ := cel r8 6 (.slice none 0 0) rfl; obtain ⟨u0, v0, u1, v1⟩ := rb_cells g8; have K8 : Hid (w8.heap[w.heap.size]? = some (.cells #[.int .i64 0, .slice none 0 0, .slice none 0 0, .slice none 0 0, .slice none 0 0, .slice none 0 0, .slice none 0 0] 26 (0, 0)) ∧ w8.heap[w.heap.size + 1]? = some (.cells #[.int .i64 0, .int .i64 0] 30 (0, 0)) ∧ Below w.heap.size w w8) := ⟨r8, g8, ball Y.out.1.dr.below hb8⟩; clear r8 g8 hb8)
          clear p0 p1 p2 p3 p4 p5 p6 f0 f1 f2 f3 f4 f5 f6 u0 u1 v0 v1
          obtain ⟨e1, e2, e3, e4, e5⟩ := fin9 K8.out.1 K8.out.2.1 K8.out.2.2 (.int .i64 0) (.slice none 0 0) (.slice none 0 0) (.slice none 0 0) (.slice none 0 0) (.slice none 0 0) (.slice none 0 0) (.int .i64 3) (.int .i64 (-1))
          refine bodyPost_ret (resultsRI _ _ w.heap.size (w.heap.size + 1) _ _ rfl rfl rfl rfl e1 e2) rfl ?_
          show RiOut w (readE s).1 (readE s).2 _ _
          rw [HNO.out]
          exact ⟨_, _, _, _, _, _, rfl, net0 _ _, e3⟩
      | false =>
        have hkc : k = c := by
          rcases HFIN.out with h | h
          · exact h
          · cases h
        subst hkc
        clear hgo
        have hsome := HR.out.1 rfl
        by_cases hs0 : s' = []
        · subst hs0
          obtain ⟨n, hn⟩ : ∃ n : Nt, n = ⟨p, fi, ii, oo, kk, mm, l⟩ := ⟨_, rfl⟩
          rw [← hn] at hsome
          have hSm := HSM.out n [] hsome
          have hrE : readE s = if check n = (0, -1) then (n, (0, -1)) else (nt0, check n) := by
            unfold readE readN
            rw [if_pos HP4.out, ← HS0.out, hsome]
            simp only [if_true]
          have HRE : Hid (readE s = if check n = (0, -1) then (n, (0, -1)) else (nt0, check n)) := hrE
          have hye : (S1.toList == []) = true := by
            have := (Lib.bytes_beq_iff S1 ⟨#[]⟩).2 (by rw [HS1.out]; rfl)
            rw [show (⟨#[]⟩ : ByteArray).toList = [] by decide +kernel] at this
            exact this
          have hsz := Y.out.1.size
          have hnbl := Y.out.1.hD
          have hl1 := HL.out
          have NV : ∀ W', wr.heap.size ≤ W'.heap.size → (∀ c, nb < c → c < wr.heap.size → W'.heap[c]? = wr.heap[c]?) → NetV W'.heap.size W' n (.slice ao1 fi.length cap1) (.slice ao2 ii.length cap2) (.slice ao3 oo.length cap3) (.slice ao4 kk.length cap4) (.slice ao5 mm.length cap5) (.slice ao k cap) := fun W' hW hE => by
            have kI : ∀ {v : Value} {zs : List Int}, Ints (fun c => nb < c) Y7 v zs → Ints (fun c => c < W'.heap.size) W' v zs := fun hI => hI.carry fun c hc hl => ⟨by omega, by rw [hE c hc (by omega)]; exact Y.out.1.kept c hc hl⟩
            rw [hn]
            refine ⟨kI J7.out.1, kI J7.out.2.1, kI J7.out.2.2.1, kI J7.out.2.2.2.1, kI J7.out.2.2.2.2, ?_⟩
            have ho := Y.out.1.own
            rw [← Y.out.1.len] at ho ⊢
            exact (steps_own ho).carry fun c hc hl => ⟨by omega, hE c (by have := hc.1; omega) hl⟩
          have HNV : Hid _ := NV
          obtain ⟨c1, hc1⟩ : ∃ c1 : Int, c1 = ((check n).1 : Int) := ⟨_, rfl⟩
          obtain ⟨c2, hc2⟩ : ∃ c2 : Int, c2 = (check n).2 := ⟨_, rfl⟩
          have hck : Calls Tryd.prog 12 #[.agg #[.int .i64 p, .slice ao1 fi.length cap1, .slice ao2 ii.length cap2, .slice ao3 oo.length cap3, .slice ao4 kk.length cap4, .slice ao5 mm.length cap5, .slice ao k cap]] wr fun e w' => e = .returned (.agg #[.int .i64 c1, .int .i64 c2]) ∧ Hid (Below wr.heap.size wr w') := by
            have h := cn_any wr.heap.size n wr (.slice ao1 fi.length cap1) (.slice ao2 ii.length cap2) (.slice ao3 oo.length cap3) (.slice ao4 kk.length cap4) (.slice ao5 mm.length cap5) (.slice ao k cap) (NV wr (Nat.le_refl _) (fun _ _ _ => rfl)) ⟨ao2, cap2, by rw [hn], by rw [hn]; exact HCI.out⟩ hSm ⟨cell_below Y.out.1.dr.below HFI.out.1, cell_below Y.out.1.dr.below HFI.out.2⟩
            rw [hc1, hc2]
            rw [show n.places = (p : Int) by rw [hn]] at h
            exact h.mono fun _ _ ⟨he, hb⟩ => ⟨he, hb⟩
          have HCC : Hid (c1 = ((check n).1 : Int) ∧ c2 = (check n).2 ∧ n.places = (p : Int)) := ⟨hc1, hc2, by rw [hn]⟩
          have m0 : wr.cell? ⟨nb, 0, none⟩ = some (.int .i64 p) := (cel Y.out.1.dr.box 0 _ rfl).1
          have m1 : wr.cell? ⟨nb, 1, none⟩ = some (.slice ao1 fi.length cap1) := (cel Y.out.1.dr.box 1 _ rfl).1
          have m2 : wr.cell? ⟨nb, 2, none⟩ = some (.slice ao2 ii.length cap2) := (cel Y.out.1.dr.box 2 _ rfl).1
          have m3 : wr.cell? ⟨nb, 3, none⟩ = some (.slice ao3 oo.length cap3) := (cel Y.out.1.dr.box 3 _ rfl).1
          have m4 : wr.cell? ⟨nb, 4, none⟩ = some (.slice ao4 kk.length cap4) := (cel Y.out.1.dr.box 4 _ rfl).1
          have m5 : wr.cell? ⟨nb, 5, none⟩ = some (.slice ao5 mm.length cap5) := (cel Y.out.1.dr.box 5 _ rfl).1
          have m6 : wr.cell? ⟨nb, 6, none⟩ = some (.slice ao k cap) := (cel Y.out.1.dr.box 6 _ rfl).1
          clear hsome hrE hSm hn NV hc1 hc2 hl1
          go_upto_region 27 with (go_at_call 12; refine hck.mono ?_; rintro e w8 ⟨rfl, hb8⟩; clear hck)
          clear m0 m1 m2 m3 m4 m5 m6 cs0 cb
          have Q9 : Hid ((w8.alloc (.cells #[.int .i64 c1, .int .i64 c2] 30)).heap[w8.heap.size]? = some (.cells #[.int .i64 c1, .int .i64 c2] 30 (0, 0)) ∧ Below wr.heap.size wr (w8.alloc (.cells #[.int .i64 c1, .int .i64 c2] 30)) ∧ wr.heap.size ≤ w8.heap.size) := ⟨heap_alloc_new w8 _, below_alloc1 hb8.out _, hb8.out.size⟩
          revert Q9
          generalize w8.alloc (.cells #[.int .i64 c1, .int .i64 c2] 30) = W9
          generalize w8.heap.size = fk
          intro Q9
          have b9 : Below w.heap.size w W9 := ball Y.out.1.dr.below Q9.out.2.1
          have r9 : W9.heap[w.heap.size]? = some (.cells #[.int .i64 0, .slice none 0 0, .slice none 0 0, .slice none 0 0, .slice none 0 0, .slice none 0 0, .slice none 0 0] 26 (0, 0)) := by rw [Q9.out.2.1.block _ (lt_of_block Y.out.1.dr.rb)]; exact Y.out.1.dr.rb
          have g9 : W9.heap[w.heap.size + 1]? = some (.cells #[.int .i64 0, .int .i64 0] 30 (0, 0)) := by rw [Q9.out.2.1.block _ (lt_of_block Y.out.1.dr.fb)]; exact Y.out.1.dr.fb
          have n9 : W9.heap[nb]? = some (.cells #[.int .i64 p, .slice ao1 fi.length cap1, .slice ao2 ii.length cap2, .slice ao3 oo.length cap3, .slice ao4 kk.length cap4, .slice ao5 mm.length cap5, .slice ao k cap] 26 (0, 0)) := by rw [Q9.out.2.1.block _ (lt_of_block Y.out.1.dr.box)]; exact Y.out.1.dr.box
          have y0 := cell_below b9 HFI.out.1
          have y1 := cell_below b9 HFI.out.2
          have k0 : W9.cell? ⟨fk, 0, none⟩ = some (.int .i64 c1) := (cel Q9.out.1 0 _ rfl).1
          have k1 : W9.cell? ⟨fk, 1, none⟩ = some (.int .i64 c2) := (cel Q9.out.1 1 _ rfl).1
          obtain ⟨p0, f0⟩ := cel r9 0 (.int .i64 0) rfl
          obtain ⟨p1, f1⟩ := cel r9 1 (.slice none 0 0) rfl
          obtain ⟨p2, f2⟩ := cel r9 2 (.slice none 0 0) rfl
          obtain ⟨p3, f3⟩ := cel r9 3 (.slice none 0 0) rfl
          obtain ⟨p4, f4⟩ := cel r9 4 (.slice none 0 0) rfl
          obtain ⟨p5, f5⟩ := cel r9 5 (.slice none 0 0) rfl
          obtain ⟨p6, f6⟩ := cel r9 6 (.slice none 0 0) rfl
          obtain ⟨u0, v0, u1, v1⟩ := rb_cells g9
          have m0 : W9.cell? ⟨nb, 0, none⟩ = some (.int .i64 p) := (cel n9 0 _ rfl).1
          have m1 : W9.cell? ⟨nb, 1, none⟩ = some (.slice ao1 fi.length cap1) := (cel n9 1 _ rfl).1
          have m2 : W9.cell? ⟨nb, 2, none⟩ = some (.slice ao2 ii.length cap2) := (cel n9 2 _ rfl).1
          have m3 : W9.cell? ⟨nb, 3, none⟩ = some (.slice ao3 oo.length cap3) := (cel n9 3 _ rfl).1
          have m4 : W9.cell? ⟨nb, 4, none⟩ = some (.slice ao4 kk.length cap4) := (cel n9 4 _ rfl).1
          have m5 : W9.cell? ⟨nb, 5, none⟩ = some (.slice ao5 mm.length cap5) := (cel n9 5 _ rfl).1
          have m6 : W9.cell? ⟨nb, 6, none⟩ = some (.slice ao k cap) := (cel n9 6 _ rfl).1
          have K9 : Hid (W9.heap[w.heap.size]? = some (.cells #[.int .i64 0, .slice none 0 0, .slice none 0 0, .slice none 0 0, .slice none 0 0, .slice none 0 0, .slice none 0 0] 26 (0, 0)) ∧ W9.heap[w.heap.size + 1]? = some (.cells #[.int .i64 0, .int .i64 0] 30 (0, 0)) ∧ Below w.heap.size w W9) := ⟨r9, g9, b9⟩
          have hg0 : 0 < w.heap.size := lt_of_cell HFI.out.1
          have hrb9 := lt_of_block Y.out.1.dr.rb
          have hfb9 := lt_of_block Y.out.1.dr.fb
          have hll := HL.out
          have hfk := Q9.out.2.2
          have d1 : ¬ (0 = w.heap.size) := by omega
          have d2 : ¬ (w.heap.size = 0) := by omega
          have d3 : ¬ (0 = w.heap.size + 1) := by omega
          have d5 : ¬ (nb = w.heap.size) := by omega
          have d6 : ¬ (w.heap.size = nb) := by omega
          have d7 : ¬ (nb = w.heap.size + 1) := by omega
          have d8 : ¬ (w.heap.size + 1 = nb) := by omega
          have d9 : ¬ (fk = w.heap.size) := by omega
          have da : ¬ (w.heap.size = fk) := by omega
          have db : ¬ (fk = w.heap.size + 1) := by omega
          have dc : ¬ (w.heap.size + 1 = fk) := by omega
          clear r9 g9 b9 n9 hg0 hrb9 hfb9 hll hfk
          by_cases hok : check n = (0, -1)
          · have hc1 : c1 = 0 := by rw [HCC.out.1, hok]; rfl
            have hc2 : c2 = -1 := by rw [HCC.out.2.1, hok]
            have HOK : Hid (check n = (0, -1)) := hok
            clear hok
            subst hc1 hc2
            go_upto_region 29 with fail
            go_region
            all_goals
              go_wp2_with fail
              have FF := fin9 K9.out.1 K9.out.2.1 K9.out.2.2 (.int .i64 p) (.slice ao1 fi.length cap1) (.slice ao2 ii.length cap2) (.slice ao3 oo.length cap3) (.slice ao4 kk.length cap4) (.slice ao5 mm.length cap5) (.slice ao k cap) (.int .i64 0) (.int .i64 (-1))
              revert FF
              generalize ((((((((W9.setCell ⟨w.heap.size, 0, none⟩ (.int .i64 p)).setCell ⟨w.heap.size, 1, none⟩ (.slice ao1 fi.length cap1)).setCell ⟨w.heap.size, 2, none⟩ (.slice ao2 ii.length cap2)).setCell ⟨w.heap.size, 3, none⟩ (.slice ao3 oo.length cap3)).setCell ⟨w.heap.size, 4, none⟩ (.slice ao4 kk.length cap4)).setCell ⟨w.heap.size, 5, none⟩ (.slice ao5 mm.length cap5)).setCell ⟨w.heap.size, 6, none⟩ (.slice ao k cap)).setCell ⟨w.heap.size + 1, 0, none⟩ (.int .i64 0)).setCell ⟨w.heap.size + 1, 1, none⟩ (.int .i64 (-1)) = WF
              rintro ⟨e1, e2, e3, e4, e5⟩
              refine bodyPost_ret (resultsRI _ _ w.heap.size (w.heap.size + 1) #[.int .i64 p, .slice ao1 fi.length cap1, .slice ao2 ii.length cap2, .slice ao3 oo.length cap3, .slice ao4 kk.length cap4, .slice ao5 mm.length cap5, .slice ao k cap] #[.int .i64 0, .int .i64 (-1)] rfl rfl rfl rfl (drew_b e1) (drew_b e2)) rfl ?_
              show RiOut w (readE s).1 (readE s).2 _ _
              rw [HRE.out, if_pos HOK.out]
              refine ⟨_, _, _, _, _, _, by rw [HCC.out.2.2]; rfl, HNV.out _ (Nat.le_trans Q9.out.2.1.size (Nat.le_of_eq (drew_s e5).symm)) (fun c hc hl => ?_), drew_w e3⟩
              have hll := HL.out
              exact (drew_b (e4 c (by omega) (by omega))).trans (Q9.out.2.1.block c hl)
          · have hne1 : (c1 == 0) = false := by
              rw [HCC.out.1]
              have : (check n).1 ≠ 0 := fun e => hok (check_zero e)
              simp; omega
            have HOK : Hid (check n ≠ (0, -1)) := hok
            clear hok
            go_upto_region 28 with fail
            go_region
            all_goals
              go_wp2_with fail
              have FF := fin9 K9.out.1 K9.out.2.1 K9.out.2.2 (.int .i64 0) (.slice none 0 0) (.slice none 0 0) (.slice none 0 0) (.slice none 0 0) (.slice none 0 0) (.slice none 0 0) (.int .i64 c1) (.int .i64 c2)
              revert FF
              generalize ((((((((W9.setCell ⟨w.heap.size, 0, none⟩ (.int .i64 0)).setCell ⟨w.heap.size, 1, none⟩ (.slice none 0 0)).setCell ⟨w.heap.size, 2, none⟩ (.slice none 0 0)).setCell ⟨w.heap.size, 3, none⟩ (.slice none 0 0)).setCell ⟨w.heap.size, 4, none⟩ (.slice none 0 0)).setCell ⟨w.heap.size, 5, none⟩ (.slice none 0 0)).setCell ⟨w.heap.size, 6, none⟩ (.slice none 0 0)).setCell ⟨w.heap.size + 1, 0, none⟩ (.int .i64 c1)).setCell ⟨w.heap.size + 1, 1, none⟩ (.int .i64 c2) = WF
              rintro ⟨e1, e2, e3, e4, e5⟩
              refine bodyPost_ret (resultsRI _ _ w.heap.size (w.heap.size + 1) #[.int .i64 0, .slice none 0 0, .slice none 0 0, .slice none 0 0, .slice none 0 0, .slice none 0 0, .slice none 0 0] #[.int .i64 c1, .int .i64 c2] rfl rfl rfl rfl (drew_b e1) (drew_b e2)) rfl ?_
              show RiOut w (readE s).1 (readE s).2 _ _
              rw [HRE.out, if_neg HOK.out]
              exact ⟨_, _, _, _, _, _, by rw [← HCC.out.1, ← HCC.out.2.1]; rfl, net0 _ _, drew_w e3⟩
        · have HNO : Hid (readE s = (nt0, (3, -1))) := by
            have e : readE s = (nt0, (3, -1)) := by
              unfold readE readN
              rw [if_pos HP4.out, ← HS0.out, hsome]
              simp only [if_neg hs0]
            exact e
          have hne : (S1.toList == []) = false := by
            have := (Lib.bytes_beq_false_iff S1 ⟨#[]⟩).2 (fun e => hs0 (str_inj (by rw [← HS1.out, e]; rfl)))
            rw [show (⟨#[]⟩ : ByteArray).toList = [] by decide +kernel] at this
            exact this
          clear hsome hs0
          go_wp2_with (go_at_call 27; refine (bare_any 3 _).mono ?_; rintro e w8 ⟨rfl, hb8⟩; have r8 : w8.heap[w.heap.size]? = some (.cells #[.int .i64 0, .slice none 0 0, .slice none 0 0, .slice none 0 0, .slice none 0 0, .slice none 0 0, .slice none 0 0] 26 (0, 0)) := (by rw [hb8.block _ (lt_of_block Y.out.1.dr.rb)]; exact Y.out.1.dr.rb); have g8 : w8.heap[w.heap.size + 1]? = some (.cells #[.int .i64 0, .int .i64 0] 30 (0, 0)) := (by rw [hb8.block _ (lt_of_block Y.out.1.dr.fb)]; exact Y.out.1.dr.fb); obtain ⟨p0, f0⟩ := cel r8 0 (.int .i64 0) rfl; obtain ⟨p1, f1⟩ := cel r8 1 (.slice none 0 0) rfl; obtain ⟨p2, f2⟩ := cel r8 2 (.slice none 0 0) rfl; obtain ⟨p3, f3⟩ := cel r8 3 (.slice none 0 0) rfl; obtain ⟨p4, f4⟩ := cel r8 4 (.slice none 0 0) rfl; obtain ⟨p5, f5⟩ := cel r8 5 (.slice none 0 0) rfl; obtain ⟨p6, f6⟩ := cel r8 6 (.slice none 0 0) rfl; obtain ⟨u0, v0, u1, v1⟩ := rb_cells g8; have K8 : Hid (w8.heap[w.heap.size]? = some (.cells #[.int .i64 0, .slice none 0 0, .slice none 0 0, .slice none 0 0, .slice none 0 0, .slice none 0 0, .slice none 0 0] 26 (0, 0)) ∧ w8.heap[w.heap.size + 1]? = some (.cells #[.int .i64 0, .int .i64 0] 30 (0, 0)) ∧ Below w.heap.size w w8) := ⟨r8, g8, ball Y.out.1.dr.below hb8⟩; clear r8 g8 hb8)
          clear p0 p1 p2 p3 p4 p5 p6 f0 f1 f2 f3 f4 f5 f6 u0 u1 v0 v1
          obtain ⟨e1, e2, e3, e4, e5⟩ := fin9 K8.out.1 K8.out.2.1 K8.out.2.2 (.int .i64 0) (.slice none 0 0) (.slice none 0 0) (.slice none 0 0) (.slice none 0 0) (.slice none 0 0) (.slice none 0 0) (.int .i64 3) (.int .i64 (-1))
          refine bodyPost_ret (resultsRI _ _ w.heap.size (w.heap.size + 1) _ _ rfl rfl rfl rfl e1 e2) rfl ?_
          show RiOut w (readE s).1 (readE s).2 _ _
          rw [HNO.out]
          exact ⟨_, _, _, _, _, _, rfl, net0 _ _, e3⟩
end Ix
end Go.Proofs.YtalfelkblbbmpaaDoor
/- ImageReads: the law's walk. -/
namespace Go.Proofs.YtalfelkblbbmpaaDoor
open Go.RowKit
namespace Ix
open Nx

set_option maxHeartbeats 2000000 in
theorem readR_no (s : List UInt8) (w : World) (h : s.take 4 ≠ hd4) : Calls Tryd.prog 9 #[.string (str s)] w (RiOut w nt0 (3, -1)) := by
  have hc := fun W => hasp_no s W h
  obtain ⟨T, hT⟩ : ∃ T, T = str s := ⟨_, rfl⟩
  rw [← hT] at hc ⊢
  have hr0 : ((w.alloc (.cells #[.int .i64 0, .slice none 0 0, .slice none 0 0, .slice none 0 0, .slice none 0 0, .slice none 0 0, .slice none 0 0] 26)).alloc (.cells #[.int .i64 0, .int .i64 0] 30)).heap[w.heap.size]? = some (.cells #[.int .i64 0, .slice none 0 0, .slice none 0 0, .slice none 0 0, .slice none 0 0, .slice none 0 0, .slice none 0 0] 26 (0, 0)) := by rw [Below.heap_alloc _ _ _ (by simp)]; exact heap_alloc_new w _
  have hg0 : ((w.alloc (.cells #[.int .i64 0, .slice none 0 0, .slice none 0 0, .slice none 0 0, .slice none 0 0, .slice none 0 0, .slice none 0 0] 26)).alloc (.cells #[.int .i64 0, .int .i64 0] 30)).heap[w.heap.size + 1]? = some (.cells #[.int .i64 0, .int .i64 0] 30 (0, 0)) := new2' _ _ _
  have H0 : Hid (∀ w8, Below ((w.alloc (.cells #[.int .i64 0, .slice none 0 0, .slice none 0 0, .slice none 0 0, .slice none 0 0, .slice none 0 0, .slice none 0 0] 26)).alloc (.cells #[.int .i64 0, .int .i64 0] 30)).heap.size ((w.alloc (.cells #[.int .i64 0, .slice none 0 0, .slice none 0 0, .slice none 0 0, .slice none 0 0, .slice none 0 0, .slice none 0 0] 26)).alloc (.cells #[.int .i64 0, .int .i64 0] 30)) w8 → w8.heap[w.heap.size]? = some (.cells #[.int .i64 0, .slice none 0 0, .slice none 0 0, .slice none 0 0, .slice none 0 0, .slice none 0 0, .slice none 0 0] 26 (0, 0)) ∧ w8.heap[w.heap.size + 1]? = some (.cells #[.int .i64 0, .int .i64 0] 30 (0, 0)) ∧ Below w.heap.size w w8) := fun w8 hb => ⟨by rw [hb.block _ (lt_of_block hr0)]; exact hr0, by rw [hb.block _ (lt_of_block hg0)]; exact hg0, ball (below_alloc1 (grown_one w _) _) hb⟩
  clear hT h hr0 hg0
  go_enter Tryd.func9, Tryd.ntmps9
  go_wp2_with (first | (go_at_call 26; refine (hc _).mono ?_; rintro e w1 ⟨rfl, hw⟩; obtain rfl := hw.symm) | (go_at_call 27; refine (bare_any 3 _).mono ?_; rintro e w8 ⟨rfl, hb8⟩; have K8 : Hid _ := H0.out w8 hb8; have r8 := K8.out.1; have g8 := K8.out.2.1; obtain ⟨p0, f0⟩ := cel r8 0 (.int .i64 0) rfl; obtain ⟨p1, f1⟩ := cel r8 1 (.slice none 0 0) rfl; obtain ⟨p2, f2⟩ := cel r8 2 (.slice none 0 0) rfl; obtain ⟨p3, f3⟩ := cel r8 3 (.slice none 0 0) rfl; obtain ⟨p4, f4⟩ := cel r8 4 (.slice none 0 0) rfl; obtain ⟨p5, f5⟩ := cel r8 5 (.slice none 0 0) rfl; obtain ⟨p6, f6⟩ := cel r8 6 (.slice none 0 0) rfl; obtain ⟨u0, v0, u1, v1⟩ := rb_cells g8; clear r8 g8 hb8))
  obtain ⟨e1, e2, e3, e4, e5⟩ := fin9 K8.out.1 K8.out.2.1 K8.out.2.2 (.int .i64 0) (.slice none 0 0) (.slice none 0 0) (.slice none 0 0) (.slice none 0 0) (.slice none 0 0) (.slice none 0 0) (.int .i64 3) (.int .i64 (-1))
  refine bodyPost_ret (resultsRI _ _ w.heap.size (w.heap.size + 1) _ _ rfl rfl rfl rfl e1 e2) rfl ?_
  exact ⟨_, _, _, _, _, _, rfl, net0 _ _, e3⟩
theorem readE_no {s : List UInt8} (h : s.take 4 ≠ hd4) : readE s = (nt0, (3, -1)) := by
  unfold readE readN
  have : ¬ [67, 76, 80, 49].isPrefixOf s = true := fun e => h ((pre_iff s).1 e)
  rw [if_neg this]
theorem small_of {s : List UInt8} (hs : s.length ≤ 1500) : ∀ n r, rdN (s.drop 4) = some (n, r) → Small n := fun n r h => by
  have h1 := rdN_len h
  have h2 : (s.drop 4).length ≤ s.length := by simp
  exact ⟨h1.2.1, h1.2.2.1, h1.2.2.2, by omega⟩
theorem read_any (s : List UInt8) (w : World) (hs : s.length ≤ 1500) : Calls Tryd.prog 10 #[.string (str s)] w fun e w' => ReadOut w (readE s).1 (readE s).2 e w' := by
  by_cases h : s.take 4 = hd4
  · exact read_yes s w h (by omega) (small_of hs)
  · rw [readE_no h]; exact read_no s w h
theorem readR_any (s : List UInt8) (w : World) (hs : s.length ≤ 1500) (hFine : w.cell? ⟨0, 0, none⟩ = some (.int .i64 0) ∧ w.cell? ⟨0, 1, none⟩ = some (.int .i64 (-1))) : Calls Tryd.prog 9 #[.string (str s)] w (RiOut w (readE s).1 (readE s).2) := by
  by_cases h : s.take 4 = hd4
  · exact readR_yes s w h (by omega) (small_of hs) hFine
  · rw [readE_no h]; exact readR_no s w h
/-- what was read is small -/
theorem readE_len {s : List UInt8} (hs : s.length ≤ 1500) : (readE s).1.first.length ≤ 1000000 ∧ (readE s).1.ins.length ≤ 1000000 ∧ (readE s).1.outs.length ≤ 1000000 ∧ (readE s).1.keeps.length ≤ 1000000 ∧ (readE s).1.nums.length ≤ 1000000 ∧ (readE s).1.code.length ≤ 1000000 := by
  have h0 : nt0.first.length ≤ 1000000 ∧ nt0.ins.length ≤ 1000000 ∧ nt0.outs.length ≤ 1000000 ∧ nt0.keeps.length ≤ 1000000 ∧ nt0.nums.length ≤ 1000000 ∧ nt0.code.length ≤ 1000000 := by decide
  unfold readE
  split
  · rename_i n hn
    split
    · unfold readN at hn
      split at hn
      · split at hn
        · rename_i n' r hr
          split at hn
          · injection hn with hn
            subst hn
            have h1 := (rdN_len hr).1
            have h2 : (s.drop 4).length ≤ s.length := by simp
            simp only
            omega
          · cases hn
        · cases hn
      · cases hn
    · exact h0
  · exact h0

set_option maxHeartbeats 4000000 in
theorem reads_small (s : List UInt8) (w : World) (hs : s.length ≤ 1500) (hE : ErrType w) (hFine : w.cell? ⟨0, 0, none⟩ = some (.int .i64 0) ∧ w.cell? ⟨0, 1, none⟩ = some (.int .i64 (-1))) :
    Calls Tryd.prog 4 #[.string (str s)] w fun e w' => e = .returned (.bool true) ∧ Below w.heap.size w w' := by
  have hlen := readE_len hs
  obtain ⟨n, hn⟩ : ∃ n, n = (readE s).1 := ⟨_, rfl⟩
  obtain ⟨f, hf⟩ : ∃ f, f = (readE s).2 := ⟨_, rfl⟩
  have hd := readR_any s w hs hFine
  have hp : Hid (∀ W, Calls Tryd.prog 10 #[.string (str s)] W fun e w' => ReadOut W n f e w') := fun W => by rw [hn, hf]; exact read_any s W hs
  rw [← hn, ← hf] at hd
  rw [← hn] at hlen
  obtain ⟨f1, hf1⟩ : ∃ f1 : Int, f1 = (f.1 : Int) := ⟨_, rfl⟩
  obtain ⟨f2, hf2⟩ : ∃ f2 : Int, f2 = f.2 := ⟨_, rfl⟩
  obtain ⟨T, hT⟩ : ∃ T, T = str s := ⟨_, rfl⟩
  have hTs : ¬ (1500 : Int) < (T.size : Int) := by rw [hT, str_size]; omega
  have hTs2 : (T.size : Int) ≤ 1500 := by omega
  rw [← hT] at hd ⊢
  have HPR : Hid (∀ W, Calls Tryd.prog 10 #[.string T] W fun e w' => ReadOut W n f e w') := by rw [hT]; exact hp
  have hd' : Calls Tryd.prog 9 #[.string T] w fun e w' => ∃ aF1 cF1 aI1 cI1 aO1 cO1 aK1 cK1 aN1 cN1 aC1 cC1, e = .returned (.tuple #[.agg #[.int .i64 n.places, .slice aF1 n.first.length cF1, .slice aI1 n.ins.length cI1, .slice aO1 n.outs.length cO1, .slice aK1 n.keeps.length cK1, .slice aN1 n.nums.length cN1, .slice aC1 n.code.length cC1], .agg #[.int .i64 f1, .int .i64 f2]]) ∧ Hid (NetV w'.heap.size w' n (.slice aF1 n.first.length cF1) (.slice aI1 n.ins.length cI1) (.slice aO1 n.outs.length cO1) (.slice aK1 n.keeps.length cK1) (.slice aN1 n.nums.length cN1) (.slice aC1 n.code.length cC1) ∧ Below w.heap.size w w') :=
    hd.mono fun e w' ⟨vF, vI, vO, vK, vN, vC, he, hN, hb⟩ => by
      obtain ⟨aF, _, _, cF, rfl, -, -⟩ := id hN.f
      obtain ⟨aI, _, _, cI, rfl, -, -⟩ := id hN.i
      obtain ⟨aO, _, _, cO, rfl, -, -⟩ := id hN.o
      obtain ⟨aK, _, _, cK, rfl, -, -⟩ := id hN.k
      obtain ⟨aN, _, _, cN, rfl, -, -⟩ := id hN.m
      obtain ⟨aC, _, _, cC, rfl, -, -⟩ := id hN.c
      exact ⟨aF, cF, aI, cI, aO, cO, aK, cK, aN, cN, aC, cC, by rw [he, hf1, hf2], hN, hb⟩
  have HLN : Hid (n.first.length ≤ 1000000 ∧ n.ins.length ≤ 1000000 ∧ n.outs.length ≤ 1000000 ∧ n.keeps.length ≤ 1000000 ∧ n.nums.length ≤ 1000000 ∧ n.code.length ≤ 1000000) := hlen
  have HET : Hid (ErrType w ∧ f1 = (f.1 : Int) ∧ f2 = f.2) := ⟨hE, hf1, hf2⟩
  clear hlen hd hp hn hf hf1 hf2 hT hE hFine
  go_enter Tryd.func4, Tryd.ntmps4
  go_upto_region 4 with (go_at_call 9; refine hd'.mono ?_; rintro e w1 ⟨aF1, cF1, aI1, cI1, aO1, cO1, aK1, cK1, aN1, cN1, aC1, cC1, rfl, X⟩; clear hd')
  have G1 : ((w1.alloc (.cells #[.int .i64 n.places, .slice aF1 n.first.length cF1, .slice aI1 n.ins.length cI1, .slice aO1 n.outs.length cO1, .slice aK1 n.keeps.length cK1, .slice aN1 n.nums.length cN1, .slice aC1 n.code.length cC1] 26)).alloc (.cells #[.int .i64 f1, .int .i64 f2] 30)).heap[w1.heap.size]? = some (.cells #[.int .i64 n.places, .slice aF1 n.first.length cF1, .slice aI1 n.ins.length cI1, .slice aO1 n.outs.length cO1, .slice aK1 n.keeps.length cK1, .slice aN1 n.nums.length cN1, .slice aC1 n.code.length cC1] 26 (0, 0)) ∧ ((w1.alloc (.cells #[.int .i64 n.places, .slice aF1 n.first.length cF1, .slice aI1 n.ins.length cI1, .slice aO1 n.outs.length cO1, .slice aK1 n.keeps.length cK1, .slice aN1 n.nums.length cN1, .slice aC1 n.code.length cC1] 26)).alloc (.cells #[.int .i64 f1, .int .i64 f2] 30)).heap[w1.heap.size + 1]? = some (.cells #[.int .i64 f1, .int .i64 f2] 30 (0, 0)) ∧ NetV ((w1.alloc (.cells #[.int .i64 n.places, .slice aF1 n.first.length cF1, .slice aI1 n.ins.length cI1, .slice aO1 n.outs.length cO1, .slice aK1 n.keeps.length cK1, .slice aN1 n.nums.length cN1, .slice aC1 n.code.length cC1] 26)).alloc (.cells #[.int .i64 f1, .int .i64 f2] 30)).heap.size ((w1.alloc (.cells #[.int .i64 n.places, .slice aF1 n.first.length cF1, .slice aI1 n.ins.length cI1, .slice aO1 n.outs.length cO1, .slice aK1 n.keeps.length cK1, .slice aN1 n.nums.length cN1, .slice aC1 n.code.length cC1] 26)).alloc (.cells #[.int .i64 f1, .int .i64 f2] 30)) n (.slice aF1 n.first.length cF1) (.slice aI1 n.ins.length cI1) (.slice aO1 n.outs.length cO1) (.slice aK1 n.keeps.length cK1) (.slice aN1 n.nums.length cN1) (.slice aC1 n.code.length cC1) ∧ Below w.heap.size w ((w1.alloc (.cells #[.int .i64 n.places, .slice aF1 n.first.length cF1, .slice aI1 n.ins.length cI1, .slice aO1 n.outs.length cO1, .slice aK1 n.keeps.length cK1, .slice aN1 n.nums.length cN1, .slice aC1 n.code.length cC1] 26)).alloc (.cells #[.int .i64 f1, .int .i64 f2] 30)) := by
    have hb2 : Below w1.heap.size w1 ((w1.alloc (.cells #[.int .i64 n.places, .slice aF1 n.first.length cF1, .slice aI1 n.ins.length cI1, .slice aO1 n.outs.length cO1, .slice aK1 n.keeps.length cK1, .slice aN1 n.nums.length cN1, .slice aC1 n.code.length cC1] 26)).alloc (.cells #[.int .i64 f1, .int .i64 f2] 30)) := below_alloc1 (grown_one w1 _) _
    exact ⟨by rw [Below.heap_alloc _ _ _ (by simp)]; exact heap_alloc_new w1 _, new2' _ _ _, X.out.1.below hb2 hb2.size, ball X.out.2 hb2⟩
  revert G1
  generalize (w1.alloc (.cells #[.int .i64 n.places, .slice aF1 n.first.length cF1, .slice aI1 n.ins.length cI1, .slice aO1 n.outs.length cO1, .slice aK1 n.keeps.length cK1, .slice aN1 n.nums.length cN1, .slice aC1 n.code.length cC1] 26)).alloc (.cells #[.int .i64 f1, .int .i64 f2] 30) = W2
  generalize w1.heap.size + 1 = bf
  generalize w1.heap.size = bn
  intro G1
  have G : Hid (W2.heap[bn]? = some (.cells #[.int .i64 n.places, .slice aF1 n.first.length cF1, .slice aI1 n.ins.length cI1, .slice aO1 n.outs.length cO1, .slice aK1 n.keeps.length cK1, .slice aN1 n.nums.length cN1, .slice aC1 n.code.length cC1] 26 (0, 0)) ∧ W2.heap[bf]? = some (.cells #[.int .i64 f1, .int .i64 f2] 30 (0, 0)) ∧ NetV W2.heap.size W2 n (.slice aF1 n.first.length cF1) (.slice aI1 n.ins.length cI1) (.slice aO1 n.outs.length cO1) (.slice aK1 n.keeps.length cK1) (.slice aN1 n.nums.length cN1) (.slice aC1 n.code.length cC1) ∧ Below w.heap.size w W2) := G1
  clear G1 X
  have hp2 : Calls Tryd.prog 10 #[.string T] W2 fun e w' => ∃ aF2 cF2 aI2 cI2 aO2 cO2 aK2 cK2 aN2 cN2 aC2 cC2 v, e = .returned (.tuple #[.agg #[.int .i64 n.places, .slice aF2 n.first.length cF2, .slice aI2 n.ins.length cI2, .slice aO2 n.outs.length cO2, .slice aK2 n.keeps.length cK2, .slice aN2 n.nums.length cN2, .slice aC2 n.code.length cC2], v]) ∧ Hid (NetV w'.heap.size w' n (.slice aF2 n.first.length cF2) (.slice aI2 n.ins.length cI2) (.slice aO2 n.outs.length cO2) (.slice aK2 n.keeps.length cK2) (.slice aN2 n.nums.length cN2) (.slice aC2 n.code.length cC2) ∧ IsErr W2.heap.size w' v f ∧ Below W2.heap.size W2 w') :=
    (HPR.out W2).mono fun e w' ⟨vF, vI, vO, vK, vN, vC, v, he, hN, _, hi, hb⟩ => by
      obtain ⟨aF, _, _, cF, rfl, -, -⟩ := id hN.f
      obtain ⟨aI, _, _, cI, rfl, -, -⟩ := id hN.i
      obtain ⟨aO, _, _, cO, rfl, -, -⟩ := id hN.o
      obtain ⟨aK, _, _, cK, rfl, -, -⟩ := id hN.k
      obtain ⟨aN, _, _, cN, rfl, -, -⟩ := id hN.m
      obtain ⟨aC, _, _, cC, rfl, -, -⟩ := id hN.c
      exact ⟨aF, cF, aI, cI, aO, cO, aK, cK, aN, cN, aC, cC, v, he, hN, hi, hb⟩
  go_upto_region 5 with (go_at_call 10; refine hp2.mono ?_; rintro e w3 ⟨aF2, cF2, aI2, cI2, aO2, cO2, aK2, cK2, aN2, cN2, aC2, cC2, v, rfl, X⟩; clear hp2)
  have G2 : (w3.alloc (.cells #[.int .i64 n.places, .slice aF2 n.first.length cF2, .slice aI2 n.ins.length cI2, .slice aO2 n.outs.length cO2, .slice aK2 n.keeps.length cK2, .slice aN2 n.nums.length cN2, .slice aC2 n.code.length cC2] 26)).heap[w3.heap.size]? = some (.cells #[.int .i64 n.places, .slice aF2 n.first.length cF2, .slice aI2 n.ins.length cI2, .slice aO2 n.outs.length cO2, .slice aK2 n.keeps.length cK2, .slice aN2 n.nums.length cN2, .slice aC2 n.code.length cC2] 26 (0, 0)) ∧ NetV (w3.alloc (.cells #[.int .i64 n.places, .slice aF2 n.first.length cF2, .slice aI2 n.ins.length cI2, .slice aO2 n.outs.length cO2, .slice aK2 n.keeps.length cK2, .slice aN2 n.nums.length cN2, .slice aC2 n.code.length cC2] 26)).heap.size (w3.alloc (.cells #[.int .i64 n.places, .slice aF2 n.first.length cF2, .slice aI2 n.ins.length cI2, .slice aO2 n.outs.length cO2, .slice aK2 n.keeps.length cK2, .slice aN2 n.nums.length cN2, .slice aC2 n.code.length cC2] 26)) n (.slice aF2 n.first.length cF2) (.slice aI2 n.ins.length cI2) (.slice aO2 n.outs.length cO2) (.slice aK2 n.keeps.length cK2) (.slice aN2 n.nums.length cN2) (.slice aC2 n.code.length cC2) ∧ IsErr W2.heap.size (w3.alloc (.cells #[.int .i64 n.places, .slice aF2 n.first.length cF2, .slice aI2 n.ins.length cI2, .slice aO2 n.outs.length cO2, .slice aK2 n.keeps.length cK2, .slice aN2 n.nums.length cN2, .slice aC2 n.code.length cC2] 26)) v f ∧ Below W2.heap.size W2 (w3.alloc (.cells #[.int .i64 n.places, .slice aF2 n.first.length cF2, .slice aI2 n.ins.length cI2, .slice aO2 n.outs.length cO2, .slice aK2 n.keeps.length cK2, .slice aN2 n.nums.length cN2, .slice aC2 n.code.length cC2] 26)) := by
    exact ⟨heap_alloc_new w3 _, X.out.1.below (grown_one w3 _) (by simp), X.out.2.1.keep (fun b _ hl => Below.heap_alloc _ _ _ hl), below_alloc1 X.out.2.2 _⟩
  revert G2
  generalize w3.alloc (.cells #[.int .i64 n.places, .slice aF2 n.first.length cF2, .slice aI2 n.ins.length cI2, .slice aO2 n.outs.length cO2, .slice aK2 n.keeps.length cK2, .slice aN2 n.nums.length cN2, .slice aC2 n.code.length cC2] 26) = W4
  generalize w3.heap.size = bp
  intro G2
  have Q : Hid (∀ W, Below W4.heap.size W4 W → W.heap[bp]? = some (.cells #[.int .i64 n.places, .slice aF2 n.first.length cF2, .slice aI2 n.ins.length cI2, .slice aO2 n.outs.length cO2, .slice aK2 n.keeps.length cK2, .slice aN2 n.nums.length cN2, .slice aC2 n.code.length cC2] 26 (0, 0)) ∧ W.heap[bn]? = some (.cells #[.int .i64 n.places, .slice aF1 n.first.length cF1, .slice aI1 n.ins.length cI1, .slice aO1 n.outs.length cO1, .slice aK1 n.keeps.length cK1, .slice aN1 n.nums.length cN1, .slice aC1 n.code.length cC1] 26 (0, 0)) ∧ W.heap[bf]? = some (.cells #[.int .i64 f1, .int .i64 f2] 30 (0, 0)) ∧ NetV W.heap.size W n (.slice aF1 n.first.length cF1) (.slice aI1 n.ins.length cI1) (.slice aO1 n.outs.length cO1) (.slice aK1 n.keeps.length cK1) (.slice aN1 n.nums.length cN1) (.slice aC1 n.code.length cC1) ∧ NetV W.heap.size W n (.slice aF2 n.first.length cF2) (.slice aI2 n.ins.length cI2) (.slice aO2 n.outs.length cO2) (.slice aK2 n.keeps.length cK2) (.slice aN2 n.nums.length cN2) (.slice aC2 n.code.length cC2) ∧ Below w.heap.size w W) := fun W hW => by
    have hb := ball G2.2.2.2 hW
    exact ⟨by rw [hW.block _ (lt_of_block G2.1)]; exact G2.1, by rw [hb.block _ (lt_of_block G.out.1)]; exact G.out.1, by rw [hb.block _ (lt_of_block G.out.2.1)]; exact G.out.2.1, G.out.2.2.1.below hb hb.size, G2.2.1.below hW hW.size, ball G.out.2.2.2 hb⟩
  have his : Calls Tryd.prog 8 #[v, .agg #[.int .i64 f1, .int .i64 f2]] W4 fun e w' => e = .returned (.bool true) ∧ Hid (Below W4.heap.size W4 w') := by
    have hb4 := (Q.out W4 (Below.refl _ _)).2.2.2.2.2
    rw [HET.out.2.1, HET.out.2.2]
    exact (is_isErr (by have := HET.out.1; unfold ErrType at *; exact cell_below hb4 this) G2.2.2.1).mono fun _ _ ⟨he, hb⟩ => ⟨he, hb⟩
  have g4 := (Q.out W4 (Below.refl _ _)).2.2.1
  have z0 : W4.cell? ⟨bf, 0, none⟩ = some (.int .i64 f1) := (cel g4 0 _ rfl).1
  have z1 : W4.cell? ⟨bf, 1, none⟩ = some (.int .i64 f2) := (cel g4 1 _ rfl).1
  clear G2 X g4
  go_wp2_with (first
    | (go_at_call 8; refine his.mono ?_; rintro e w5 ⟨rfl, hb5⟩; obtain ⟨qp, qn, _, nv1, nv2, hbw⟩ := Q.out w5 hb5.out; have m0 : w5.cell? ⟨bp, 0, none⟩ = some (.int .i64 n.places) := (cel qp 0 _ rfl).1; have m1 : w5.cell? ⟨bp, 1, none⟩ = some (.slice aF2 n.first.length cF2) := (cel qp 1 _ rfl).1; have m2 : w5.cell? ⟨bp, 2, none⟩ = some (.slice aI2 n.ins.length cI2) := (cel qp 2 _ rfl).1; have m3 : w5.cell? ⟨bp, 3, none⟩ = some (.slice aO2 n.outs.length cO2) := (cel qp 3 _ rfl).1; have m4 : w5.cell? ⟨bp, 4, none⟩ = some (.slice aK2 n.keeps.length cK2) := (cel qp 4 _ rfl).1; have m5 : w5.cell? ⟨bp, 5, none⟩ = some (.slice aN2 n.nums.length cN2) := (cel qp 5 _ rfl).1; have m6 : w5.cell? ⟨bp, 6, none⟩ = some (.slice aC2 n.code.length cC2) := (cel qp 6 _ rfl).1; have l0 : w5.cell? ⟨bn, 0, none⟩ = some (.int .i64 n.places) := (cel qn 0 _ rfl).1; have l1 : w5.cell? ⟨bn, 1, none⟩ = some (.slice aF1 n.first.length cF1) := (cel qn 1 _ rfl).1; have l2 : w5.cell? ⟨bn, 2, none⟩ = some (.slice aI1 n.ins.length cI1) := (cel qn 2 _ rfl).1; have l3 : w5.cell? ⟨bn, 3, none⟩ = some (.slice aO1 n.outs.length cO1) := (cel qn 3 _ rfl).1; have l4 : w5.cell? ⟨bn, 4, none⟩ = some (.slice aK1 n.keeps.length cK1) := (cel qn 4 _ rfl).1; have l5 : w5.cell? ⟨bn, 5, none⟩ = some (.slice aN1 n.nums.length cN1) := (cel qn 5 _ rfl).1; have l6 : w5.cell? ⟨bn, 6, none⟩ = some (.slice aC1 n.code.length cC1) := (cel qn 6 _ rfl).1; have hsame := same_any n w5 (.slice aF2 n.first.length cF2) (.slice aI2 n.ins.length cI2) (.slice aO2 n.outs.length cO2) (.slice aK2 n.keeps.length cK2) (.slice aN2 n.nums.length cN2) (.slice aF1 n.first.length cF1) (.slice aI1 n.ins.length cI1) (.slice aO1 n.outs.length cO1) (.slice aK1 n.keeps.length cK1) (.slice aN1 n.nums.length cN1) aC2 aC1 cC2 cC1 nv2 nv1 HLN.out.1 HLN.out.2.1 HLN.out.2.2.1 HLN.out.2.2.2.1 HLN.out.2.2.2.2.1 HLN.out.2.2.2.2.2; have HBW : Hid (Below w.heap.size w w5) := hbw; clear his qp qn nv1 nv2 hbw)
    | (go_at_call 11; refine hsame.mono ?_; rintro e w6 ⟨rfl, hb6⟩; have HB6 : Hid (Below w5.heap.size w5 w6) := hb6; clear hsame hb6))
  go_ret
  exact ⟨rfl, ball HBW.out HB6.out⟩
/-- a text that is too long -/
theorem reads_big (T : ByteArray) (w : World) (hs : 1500 < T.size) :
    Calls Tryd.prog 4 #[.string T] w fun e w' => e = .returned (.bool true) ∧ w' = w := by
  have h1 : (1500 : Int) < (T.size : Int) := by omega
  go_enter Tryd.func4, Tryd.ntmps4
  go_wp2_with fail
  go_ret
  exact ⟨rfl, rfl⟩
theorem reads_any (T : ByteArray) (w : World) (hE : ErrType w) (hFine : w.cell? ⟨0, 0, none⟩ = some (.int .i64 0) ∧ w.cell? ⟨0, 1, none⟩ = some (.int .i64 (-1))) :
    Calls Tryd.prog 4 #[.string T] w fun e w' => e = .returned (.bool true) ∧ Below w.heap.size w w' := by
  by_cases hs : T.size ≤ 1500
  · have e : T = str T.data.toList := by
      apply ByteArray.ext
      simp [str]
    rw [e]
    exact reads_small T.data.toList w (by rw [← str_size, ← e]; exact hs) hE hFine
  · exact (reads_big T w (by omega)).mono fun _ _ ⟨he, hw⟩ => ⟨he, by rw [hw]; exact Below.refl _ _⟩
end Ix
end Go.Proofs.YtalfelkblbbmpaaDoor
