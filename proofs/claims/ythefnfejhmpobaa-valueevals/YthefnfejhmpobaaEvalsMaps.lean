/-
  ValueEvals' two maps: what is told at a and at b.
-/
import Derived.Test.YthefnfejhmpobaaEval
import Derived.Test.YthefnfejhmpobaaRefEval
import Derived.Maps.Views
import Derived.ProofKit
import Derived.OpenShut
namespace Go.Proofs.Ythefnfejhmpobaa
open Go.RowKit Go.Sort Go.Maps Go.WideMaps

theorem law9 : Keyed Try.prog 9 := string_keyed Try.underlying9
theorem zero2 (w : World) : (zeroValue 2).run Try.prog w = .ok (.int .i64 0) w := by kernel_rfl

theorem key_a : keyOf Try.prog 9 (.string ⟨#[97]⟩) = some (.string [97]) := keyOf_string_mk Try.underlying9 (by unfold maxLen; decide)
theorem key_b : keyOf Try.prog 9 (.string ⟨#[98]⟩) = some (.string [98]) := keyOf_string_mk Try.underlying9 (by unfold maxLen; decide)

/-- The map that is made of two entries. -/
abbrev both (x y : Int) : DataW Unit := (((DataW.map []).put (.string [97]) (.lit (.int .i64 x))).put (.string [98]) (.lit (.int .i64 y)))

theorem both_a (x y : Int) : (both x y).atKey (.string [97]) (.lit (.int .i64 0)) = .lit (.int .i64 x) := by kernel_rfl
theorem both_b (x y : Int) : (both x y).atKey (.string [98]) (.lit (.int .i64 0)) = .lit (.int .i64 y) := by kernel_rfl

/-- A map of two entries that lies in w tells them, in whatever world grows out of it. -/
theorem tells_both {w : World} {m n : Nat} {x y : Int} (h : w.ownsMap Try.prog 9 (plainElem Try.prog 2) m n (both x y)) : Tells w m ⟨#[97]⟩ x ∧ Tells w m ⟨#[98]⟩ y := by
  have hlt := h.lt
  have later : ∀ w', Below w.heap.size w w' → w'.ownsMap Try.prog 9 (plainElem Try.prog 2) m n (both x y) := fun w' hb => by
    obtain ⟨es, clock, hm, r⟩ := h
    exact ⟨es, clock, (hb.block m hlt).trans hm, r⟩
  refine ⟨fun w' hb => ?_, fun w' hb => ?_⟩
  · obtain ⟨c, hrun, hat, _⟩ := (later w' hb).lookup_int law9 Try.underlying27 Try.underlying2 (zero2 _) key_a
    rw [both_a] at hat
    simp only [DataW.lit.injEq, Lit.int.injEq, true_and] at hat
    rw [hat]; exact hrun
  · obtain ⟨c, hrun, hat, _⟩ := (later w' hb).lookup_int law9 Try.underlying27 Try.underlying2 (zero2 _) key_b
    rw [both_b] at hat
    simp only [DataW.lit.injEq, Lit.int.injEq, true_and] at hat
    rw [hat]; exact hrun

/-- The two maps are made: four stores; the two blocks, and the world behind. -/
theorem maps_made (x1 y1 x2 y2 : Int) (h1 : (Lit.int .i64 x1).wf = true) (h2 : (Lit.int .i64 y1).wf = true) (h3 : (Lit.int .i64 x2).wf = true) (h4 : (Lit.int .i64 y2).wf = true) (w : World) :
    ∃ w1 w2 w3 w4 : World,
      (Instr.mapUpdate 27 (.map (some w.heap.size)) (.string ⟨#[97]⟩) (.int .i64 x1)).run Try.prog (w.alloc (.map #[] 0)) = .ok () w1 ∧
      (Instr.mapUpdate 27 (.map (some w.heap.size)) (.string ⟨#[98]⟩) (.int .i64 y1)).run Try.prog w1 = .ok () w2 ∧
      (Instr.mapUpdate 27 (.map (some w2.heap.size)) (.string ⟨#[97]⟩) (.int .i64 x2)).run Try.prog (w2.alloc (.map #[] 0)) = .ok () w3 ∧
      (Instr.mapUpdate 27 (.map (some w2.heap.size)) (.string ⟨#[98]⟩) (.int .i64 y2)).run Try.prog w3 = .ok () w4 ∧
      w4.ownsMap Try.prog 9 (plainElem Try.prog 2) w.heap.size 2 (both x1 y1) ∧
      w4.ownsMap Try.prog 9 (plainElem Try.prog 2) w2.heap.size 2 (both x2 y2) ∧
      Below w.heap.size w w4 := by
  have hm0 : 0 < maxLen := by unfold maxLen; omega
  have hm1 : 0 + 1 < maxLen := by unfold maxLen; omega
  obtain ⟨w1, r1, o1, g1⟩ := (World.ownsMap_made (H := Unit) w Try.prog 9 (plainElem Try.prog 2)).update law9 Try.underlying27 hm0 key_a (plainElem_int Try.underlying2 h1)
  obtain ⟨w2, r2, o2, g2⟩ := o1.update law9 Try.underlying27 hm1 key_b (plainElem_int Try.underlying2 h2)
  obtain ⟨w3, r3, o3, g3⟩ := (World.ownsMap_made (H := Unit) w2 Try.prog 9 (plainElem Try.prog 2)).update law9 Try.underlying27 hm0 key_a (plainElem_int Try.underlying2 h3)
  obtain ⟨w4, r4, o4, g4⟩ := o3.update law9 Try.underlying27 hm1 key_b (plainElem_int Try.underlying2 h4)
  have l2 := o2.lt
  have hne : some w.heap.size ≠ some w2.heap.size := by intro e; simp at e; omega
  have b1 : Below w.heap.size w w1 := (grown_one w _).grown g1 (by simp) (fun k hk => by cases hk; exact Nat.le_refl _)
  have b2 : Below w.heap.size w w2 := b1.grown g2 b1.size (fun k hk => by cases hk; exact Nat.le_refl _)
  have b3 : Below w.heap.size w w3 := (b2.alloc b2.size _).grown g3 (by have := b2.size; simp; omega) (fun k hk => by cases hk; exact b2.size)
  have b4 : Below w.heap.size w w4 := b3.grown g4 b3.size (fun k hk => by cases hk; exact b2.size)
  exact ⟨w1, w2, w3, w4, r1, r2, r3, r4, ((o2.alloc _).kept g3 hne).kept g4 hne, o4, b4⟩

end Go.Proofs.Ythefnfejhmpobaa
