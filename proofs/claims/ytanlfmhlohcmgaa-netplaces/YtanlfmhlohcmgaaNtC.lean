/- What net's New answers. -/
import Derived.Test.YtanlfmhlohcmgaaNtB
namespace Go.Proofs.Ytanlfmhlohcmgaa
open Go.RowKit
namespace Nx

theorem IsErr.nil_iff {B : Nat} {w : World} {v : Value} {f : Nat × Int} (h : IsErr B w v f) : (f.1 = 0 ∧ v = .nilIface) ∨ (f.1 ≠ 0 ∧ ∃ T u, v = .iface T u) := by
  rcases h with ⟨h1, _, h2⟩ | ⟨h1, _, h2⟩ | ⟨h1, g, q, _, _, h2, _⟩
  · exact .inl ⟨h1, h2⟩
  · exact .inr ⟨h1, _, _, h2⟩
  · exact .inr ⟨h1, _, _, h2⟩

set_option maxHeartbeats 400000 in
theorem new_bad (B : Nat) (n : Nt) (w : World) (vF vI vO vK vN vC : Value) (h : NetV B w n vF vI vO vK vN vC) (hB : B ≤ w.heap.size) (hs : Small n) (hw : (check n).1 ≠ 0) :
    Calls Try.prog 13 #[.agg #[.int .i64 n.places, vF, vI, vO, vK, vN, vC]] w fun e w' => ∃ v, e = .returned (.tuple #[.pointer none, v]) ∧ IsErr w.heap.size w' v (check n) ∧ Below w.heap.size w w' := by
  have hck : Calls Try.prog 15 #[.agg #[.int .i64 n.places, vF, vI, vO, vK, vN, vC]] (w.alloc (.cells #[.int .i64 n.places, vF, vI, vO, vK, vN, vC] 26)) fun e w' => ∃ T u, e = .returned (.iface T u) ∧ Hid (IsErr w.heap.size w' (.iface T u) (check n) ∧ Below w.heap.size w w') := by
    refine (check_any B n _ vF vI vO vK vN vC (h.below ((grown_one w _).mono hB) (Nat.le_refl _)) (Nat.le_trans hB (grown_one w _).size) hs).mono fun e w' ⟨v, he, hi, hb⟩ => ?_
    rcases hi.nil_iff with ⟨h0, _⟩ | ⟨_, T, u, rfl⟩
    · exact absurd h0 hw
    · refine ⟨T, u, he, ?_, ball (grown_one w _) hb⟩
      rcases hi with hi | hi | ⟨h1, g, q, h2, h3, h4, h5⟩
      · exact .inl hi
      · exact .inr (.inl hi)
      · exact .inr (.inr ⟨h1, g, q, h2, Nat.le_trans (grown_one w _).size h3, h4, h5⟩)
  clear h hB hs hw
  go_enter Try.func13, Try.ntmps13
  go_wp2_with (go_at_call 15; refine hck.mono ?_; rintro e w1 ⟨T, u, rfl, X⟩)
  go_ret2
  exact ⟨_, rfl, X.out.1, X.out.2⟩

set_option maxHeartbeats 1000000 in
theorem new_fine (B : Nat) (n : Nt) (w : World) (vF vI vO vK vN vC : Value) (h : NetV B w n vF vI vO vK vN vC) (hB : B ≤ w.heap.size) (hs : Small n) (hfl : n.first.length ≤ 100000) (hw : (check n).1 = 0) :
    Calls Try.prog 13 #[.agg #[.int .i64 n.places, vF, vI, vO, vK, vN, vC]] w fun e w' => ∃ bm g, e = .returned (.tuple #[.pointer (some ⟨bm, 0, none⟩), .nilIface]) ∧ IsM B w' bm g n n.first ∧ w.heap.size ≤ bm ∧ w.heap.size ≤ g ∧ bm < w'.heap.size ∧ Below w.heap.size w w' := by
  have HV : Hid (NetV B w n vF vI vO vK vN vC) := h
  have hck : Calls Try.prog 15 #[.agg #[.int .i64 n.places, vF, vI, vO, vK, vN, vC]] (w.alloc (.cells #[.int .i64 n.places, vF, vI, vO, vK, vN, vC] 26)) fun e w' => e = .returned .nilIface ∧
      Hid (Below (w.alloc (.cells #[.int .i64 n.places, vF, vI, vO, vK, vN, vC] 26)).heap.size (w.alloc (.cells #[.int .i64 n.places, vF, vI, vO, vK, vN, vC] 26)) w') := by
    refine (check_any B n _ vF vI vO vK vN vC (h.below ((grown_one w _).mono hB) (Nat.le_refl _)) (Nat.le_trans hB (grown_one w _).size) hs).mono fun e w' ⟨v, he, hi, hb⟩ => ?_
    rcases hi.nil_iff with ⟨_, rfl⟩ | ⟨h1, _⟩
    · exact ⟨he, hb⟩
    · exact absurd hw h1
  have HX : Hid (∀ w1, Below (w.alloc (.cells #[.int .i64 n.places, vF, vI, vO, vK, vN, vC] 26)).heap.size (w.alloc (.cells #[.int .i64 n.places, vF, vI, vO, vK, vN, vC] 26)) w1 → w1.cell? ⟨w.heap.size, 0, none⟩ = some (.int .i64 n.places) ∧ w1.cell? ⟨w.heap.size, 1, none⟩ = some vF ∧ w1.cell? ⟨w.heap.size, 2, none⟩ = some vI ∧ w1.cell? ⟨w.heap.size, 3, none⟩ = some vO ∧ w1.cell? ⟨w.heap.size, 4, none⟩ = some vK ∧ w1.cell? ⟨w.heap.size, 5, none⟩ = some vN ∧ w1.cell? ⟨w.heap.size, 6, none⟩ = some vC ∧
      (Calls Try.prog 16 #[vF] w1.drew fun e w' => ∃ ad cap, e = .returned (.slice ad n.first.length cap) ∧ Hid (∃ g, Own w' (.slice ad n.first.length cap) n.first g ∧ w.heap.size ≤ g ∧ g < w'.heap.size ∧ Below w1.heap.size w1 w')) ∧ Hid (Below w.heap.size w w1)) := by
    intro w1 hb
    have hbw : Below w.heap.size w w1 := ball (grown_one w _) hb
    have hlw : w.heap.size < w1.heap.size := by have := hb.size; simp at this; omega
    refine ⟨cell_below hb (by simp), cell_below hb (by simp), cell_below hb (by simp), cell_below hb (by simp), cell_below hb (by simp), cell_below hb (by simp), cell_below hb (by simp), ?_, hbw⟩
    refine (clone64 (A := (· < B)) vF n.first w1.drew ((HV.out.f.carry fun b hl _ => ⟨hl, hbw.block b (Nat.lt_of_lt_of_le hl hB)⟩).carry fun b hl _ => ⟨hl, rfl⟩) hfl).mono fun e w' ⟨v', he, ho, hb'⟩ => ?_
    obtain ⟨g, hg, hgB, hgl, _⟩ := own_of_row ho
    obtain ⟨ad, cap, rfl, -⟩ := id hg
    refine ⟨ad, cap, he, ?_⟩
    have hb2 : Below w1.heap.size w1 w' := (⟨rfl, rfl, rfl, Nat.le_refl _, fun _ _ => rfl⟩ : Below w1.heap.size w1 w1.drew).trans hb'
    by_cases hp : 0 < n.first.length
    · exact ⟨g, hg, Nat.le_trans hbw.size hgB, hgl hp, hb2⟩
    · exact ⟨w.heap.size, ⟨ad, cap, rfl, fun h => absurd h hp⟩, Nat.le_refl _, Nat.lt_of_lt_of_le hlw hb2.size, hb2⟩
  clear h hs hw
  go_enter Try.func13, Try.ntmps13
  go_wp2_with (go_at_call 15; refine hck.mono ?_; rintro e w1 ⟨rfl, X⟩; obtain ⟨d0, d1, d2, d3, d4, d5, d6, hcl, HBW⟩ := HX.out w1 X.out; clear hck)
  go_region_with (go_at_call 16; refine hcl.mono ?_; rintro e w2 ⟨adp, capp, rfl, Y⟩; have HD : Hid (∀ o, w2.cell? ⟨w.heap.size, o, none⟩ = w1.cell? ⟨w.heap.size, o, none⟩) := (by (intro o; obtain ⟨g, _, _, _, hb2⟩ := Y.out; exact cell_of_block (hb2.block w.heap.size (lt_of_cell d0)) o)); have f0 := (HD.out 0).trans d0; have f1 := (HD.out 1).trans d1; have f2 := (HD.out 2).trans d2; have f3 := (HD.out 3).trans d3; have f4 := (HD.out 4).trans d4; have f5 := (HD.out 5).trans d5; have f6 := (HD.out 6).trans d6)
  all_goals
    go_wp2
    go_ret2
    obtain ⟨g, hg, hgw, hgl, hb2⟩ := Y.out
    have hbw : Below w.heap.size w w2 := ball HBW.out hb2
    have hbA := hbw.alloc hbw.size (.cells (mCells n.places vF vI vO vK vN vC (.slice adp n.first.length capp)) 50)
    have hk : Keep (· < B) (· < B) w (w2.alloc (.cells (mCells n.places vF vI vO vK vN vC (.slice adp n.first.length capp)) 50)) := fun b hl _ => ⟨hl, hbA.block b (Nat.lt_of_lt_of_le hl hB)⟩
    refine ⟨w2.heap.size, g, rfl, ⟨⟨vF, vI, vO, vK, vN, vC, .slice adp n.first.length capp, heap_alloc_new _ _, HV.out.i.carry hk, HV.out.o.carry hk, HV.out.k.carry hk, HV.out.m.carry hk, HV.out.c.carry hk, hg.keep (Below.heap_alloc _ _ _ hgl)⟩, Nat.le_trans hB hbw.size, Nat.le_trans hB hgw, Nat.ne_of_lt hgl, ?_⟩, hbw.size, hgw, ?_, hbA⟩
    · simp; omega
    · simp
end Nx
end Go.Proofs.Ytanlfmhlohcmgaa
