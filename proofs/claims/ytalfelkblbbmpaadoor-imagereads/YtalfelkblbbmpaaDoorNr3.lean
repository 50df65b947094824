/- The document's own answer on code: CheckNet, all but its steps. -/
import Derived.Test.YtalfelkblbbmpaaDoorNr2
namespace Go.Proofs.YtalfelkblbbmpaaDoor
open Go.RowKit
namespace Nx

section
variable (n : Nt) (w : World) (adF adI adO adK adN adC : Option Addr) (capF capI capO capK capN capC : Nat)

def cnCells : Array Value := #[.int .i64 n.places, .slice adF n.first.length capF, .slice adI n.ins.length capI, .slice adO n.outs.length capO, .slice adK n.keeps.length capK, .slice adN n.nums.length capN, .slice adC n.code.length capC]

/-- what CheckNet knows of the world behind its two blocks -/
structure CnK (w W : World) (n : Nt) (cs : Array Value) : Prop where
  box : W.heap[w.heap.size]? = some (.cells cs 26 (0, 0))
  rb : W.heap[w.heap.size + 1]? = some (.cells #[.int .i64 0, .int .i64 0] 30 (0, 0))
  below : Below w.heap.size w W
theorem CnK.start (w : World) (n : Nt) (cs : Array Value) : CnK w (CnW w cs) n cs := ⟨CnW_box w cs, CnW_rb w cs, CnW_below w cs⟩
theorem CnK.next {w W W' : World} {n : Nt} {cs : Array Value} (h : CnK w W n cs) (hb : Below W.heap.size W W') : CnK w W' n cs :=
  ⟨by rw [hb.block _ (lt_of_block h.box)]; exact h.box, by rw [hb.block _ (lt_of_block h.rb)]; exact h.rb, ball h.below hb⟩
theorem CnK.done {w W : World} {n : Nt} {cs : Array Value} (h : CnK w W n cs) (a b : Value) : ((W.setCell ⟨w.heap.size + 1, 0, none⟩ a).setCell ⟨w.heap.size + 1, 1, none⟩ b).heap[w.heap.size + 1]? = some (.cells #[a, b] 30 (0, 0)) ∧ Below w.heap.size w ((W.setCell ⟨w.heap.size + 1, 0, none⟩ a).setCell ⟨w.heap.size + 1, 1, none⟩ b) :=
  ⟨rb_set h.rb, (h.below.setCell (by simp) _).setCell (by simp) _⟩

set_option maxRecDepth 100000 in
set_option maxHeartbeats 2000000 in
theorem cn_form (hs : Small n) (h0 : 0 ≤ n.places) (hf : (n.first.length : Int) ≠ n.places) :
    Calls Tryd.prog 12 #[.agg (cnCells n adF adI adO adK adN adC capF capI capO capK capN capC)] w fun e w' => e = .returned (.agg #[.int .i64 3, .int .i64 (-1)]) ∧ Below w.heap.size w w' := by
  have s1 := hs.p; have s2 := hs.c; have s3 := hs.m; have s4 := hs.s
  have hin := fun W => in_any n.places 0 4000 W
  have E : (decide (0 ≤ n.places) && decide (n.places ≤ 4000)) = true := by simp; omega
  rw [E] at hin
  have t1 : ((n.first.length : Int) != n.places) = true := by simpa using hf
  have HK : Hid (∀ w2, Below (CnW w (cnCells n adF adI adO adK adN adC capF capI capO capK capN capC)).heap.size (CnW w (cnCells n adF adI adO adK adN adC capF capI capO capK capN capC)) w2 → CnK w w2 n (cnCells n adF adI adO adK adN adC capF capI capO capK capN capC)) := fun w2 hb => (CnK.start w n _).next hb
  clear E hf hs
  unfold cnCells at *
  go_enter Tryd.func12, Tryd.ntmps12
  go_wp2_with (first | (go_at_call 35; refine (hin _).mono ?_; rintro e w' ⟨rfl, hw⟩; obtain rfl := hw.symm) | (go_at_call 27; refine (bare_any 3 _).mono ?_; rintro e w2 ⟨rfl, hb2⟩; have HR : Hid (CnK w w2 n _) := HK.out w2 hb2; obtain ⟨c0, f0, c1, f1⟩ := rb_cells HR.out.rb; clear hb2))
  refine bodyPost_ret (resultsN _ _ _ _ rfl rfl (HR.out.done _ _).1) rfl ?_
  exact ⟨rfl, (HR.out.done _ _).2⟩
end
end Nx
end Go.Proofs.YtalfelkblbbmpaaDoor
