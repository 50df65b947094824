/- The document's own answer on code: its small functions, and Asks. -/
import Derived.Test.YtalfelkblbbmpaaDoorNt6
namespace Go.Proofs.YtalfelkblbbmpaaDoor
open Go.RowKit
namespace Nx

theorem in_any (a lo hi : Int) (w : World) :
    Calls Tryd.prog 35 #[.int .i64 a, .int .i64 lo, .int .i64 hi] w fun e w' => e = .returned (.bool (decide (lo ≤ a) && decide (a ≤ hi))) ∧ w' = w := by
  by_cases h : lo ≤ a
  · have E : Hid ((decide (lo ≤ a) && decide (a ≤ hi)) = decide (a ≤ hi)) := by unfold Hid; simp [h]
    go_enter Tryd.func35, Tryd.ntmps35
    go_wp2
    go_ret
    exact ⟨by rw [E.out]; rfl, rfl⟩
  · have E : Hid ((decide (lo ≤ a) && decide (a ≤ hi)) = false) := by unfold Hid; simp [h]
    have h' : a < lo := by omega
    go_enter Tryd.func35, Tryd.ntmps35
    go_wp2
    go_ret
    exact ⟨by rw [E.out]; rfl, rfl⟩

theorem refPl_any (p P : Int) (q : Nat) (w : World) (hc : w.cell? ⟨q, 0, none⟩ = some (.int .i64 P)) (h0 : 0 ≤ P) (h1 : P ≤ 4000) :
    Calls Tryd.prog 36 #[.int .i64 p, .pointer (some ⟨q, 0, none⟩)] w fun e w' => e = .returned (.bool (isPl P p)) ∧ w' = w := by
  have hin := in_any p 0 (P - 1) w
  have E : Hid ((decide (0 ≤ p) && decide (p ≤ P - 1)) = isPl P p) := by
    unfold Hid isPl
    have : decide (p ≤ P - 1) = decide (p < P) := by rw [decide_eq_decide]; omega
    rw [this]
  rw [E.out] at hin
  clear E
  go_enter Tryd.func36, Tryd.ntmps36
  go_wp2_with (go_at_call 35; refine hin.mono ?_; rintro e w' ⟨rfl, hw⟩; obtain rfl := hw.symm)
  go_ret
  exact ⟨rfl, rfl⟩

theorem loadFault {W : World} {g : Nat} {fc : Array Value} (hsz : fc.size = 2) (hg : W.heap[g]? = some (.cells fc 30 (0, 0))) : (loadVar 30 ⟨g, 0, none⟩).run Tryd.prog W = .ok (.agg fc) W :=
  run_loadVar_row (P := Tryd.prog) W g 30 30 fc (0, 0) _ hg Tryd.underlying30 rfl (by rw [hsz]; kernel_rfl)
theorem resultsB (tmps : Array Value) (W : World) (e : Nat) (fe : Array Value) (hse : fe.size = 2) (hq : tmps[2]?.getD undef = .pointer (some ⟨e, 0, none⟩)) (he : W.heap[e]? = some (.cells fe 30 (0, 0))) :
    (results Tryd.f27 tmps).run Tryd.prog W = .ok (.agg fe) W := by
  simp [results, Tryd.results27, hq, asAddr, loadFault hse he]
set_option maxRecDepth 100000 in
set_option maxHeartbeats 2000000 in
theorem bare_any (e : Int) (w : World) : Calls Tryd.prog 27 #[.int .i64 e] w fun r w' => r = .returned (.agg #[.int .i64 e, .int .i64 (-1)]) ∧ Below w.heap.size w w' := by
  go_enter Tryd.func27, Tryd.ntmps27
  go_wp2_with fail
  refine bodyPost_ret (resultsB _ _ _ _ rfl rfl (heap_alloc_new _ _)) rfl ?_
  exact ⟨rfl, (Below.refl _ _).alloc (Nat.le_refl _) _⟩

theorem resultsN (tmps : Array Value) (W : World) (e : Nat) (fe : Array Value) (hse : fe.size = 2) (hq : tmps[2]?.getD undef = .pointer (some ⟨e, 0, none⟩)) (he : W.heap[e]? = some (.cells fe 30 (0, 0))) :
    (results Tryd.f12 tmps).run Tryd.prog W = .ok (.agg fe) W := by
  simp [results, Tryd.results12, hq, asAddr, loadFault hse he]

theorem rb_set {w : World} {rb : Nat} {x y a b : Value} (h : w.heap[rb]? = some (.cells #[x, y] 30 (0, 0))) : ((w.setCell ⟨rb, 0, none⟩ a).setCell ⟨rb, 1, none⟩ b).heap[rb]? = some (.cells #[a, b] 30 (0, 0)) := by
  have h1 := set_cells (l := [x, y]) h 0 a
  exact set_cells (l := [a, y]) h1 1 b
theorem rb_cells {w : World} {rb : Nat} {x y : Value} (h : w.heap[rb]? = some (.cells #[x, y] 30 (0, 0))) : w.cell? ⟨rb, 0, none⟩ = some x ∧ w.frozen? ⟨rb, 0, none⟩ = false ∧ w.cell? ⟨rb, 1, none⟩ = some y ∧ w.frozen? ⟨rb, 1, none⟩ = false :=
  ⟨cell_row h 0, frozen_cells h 0, cell_row h 1, frozen_cells h 1⟩

def CnW (w : World) (cs : Array Value) : World := (w.alloc (.cells cs 26)).alloc (.cells #[.int .i64 0, .int .i64 0] 30)
theorem CnW_rb (w : World) (cs : Array Value) : (CnW w cs).heap[w.heap.size + 1]? = some (.cells #[.int .i64 0, .int .i64 0] 30 (0, 0)) := by
  have := heap_alloc_new (w.alloc (.cells cs 26)) (.cells #[.int .i64 0, .int .i64 0] 30)
  rw [show (w.alloc (.cells cs 26)).heap.size = w.heap.size + 1 by simp] at this
  exact this
theorem CnW_box (w : World) (cs : Array Value) : (CnW w cs).heap[w.heap.size]? = some (.cells cs 26 (0, 0)) := by
  unfold CnW; rw [Below.heap_alloc _ _ _ (by simp)]; exact heap_alloc_new w _
theorem CnW_below (w : World) (cs : Array Value) : Below w.heap.size w (CnW w cs) := ball (grown_one w _) (grown_one _ _)
theorem CnW_size (w : World) (cs : Array Value) : (CnW w cs).heap.size = w.heap.size + 2 := by simp [CnW]

set_option maxRecDepth 100000 in
set_option maxHeartbeats 2000000 in
theorem cn_low (n : Nt) (w : World) (vF vN vC : Value) (adI adO adK : Option Addr) (capI capO capK : Nat) (h0 : n.places < 0) (hs : n.ins.length + n.outs.length + n.keeps.length ≤ 4000) :
    Calls Tryd.prog 12 #[.agg #[.int .i64 n.places, vF, .slice adI n.ins.length capI, .slice adO n.outs.length capO, .slice adK n.keeps.length capK, vN, vC]] w fun e w' => e = .returned (.agg #[.int .i64 4, .int .i64 (-1)]) ∧ Below w.heap.size w w' := by
  have hin := fun W => in_any n.places 0 4000 W
  have E : (decide (0 ≤ n.places) && decide (n.places ≤ 4000)) = false := by simp; omega
  rw [E] at hin
  clear E
  have HW : Hid (∀ w2, Below (CnW w #[.int .i64 n.places, vF, .slice adI n.ins.length capI, .slice adO n.outs.length capO, .slice adK n.keeps.length capK, vN, vC]).heap.size (CnW w #[.int .i64 n.places, vF, .slice adI n.ins.length capI, .slice adO n.outs.length capO, .slice adK n.keeps.length capK, vN, vC]) w2 → w2.heap[w.heap.size + 1]? = some (.cells #[.int .i64 0, .int .i64 0] 30 (0, 0)) ∧ Below w.heap.size w w2) := fun w2 hb =>
    ⟨by rw [hb.block (w.heap.size + 1) (by rw [CnW_size]; omega)]; exact CnW_rb _ _, ball (CnW_below _ _) hb⟩
  go_enter Tryd.func12, Tryd.ntmps12
  go_wp2_with (first | (go_at_call 35; refine (hin _).mono ?_; rintro e w' ⟨rfl, hw⟩; obtain rfl := hw.symm) | (go_at_call 27; refine (bare_any 4 _).mono ?_; rintro e w2 ⟨rfl, hb2⟩; obtain ⟨hrb, hbw⟩ := HW.out w2 hb2; obtain ⟨c0, f0, c1, f1⟩ := rb_cells hrb; have HR : Hid (w2.heap[w.heap.size + 1]? = some (.cells #[.int .i64 0, .int .i64 0] 30 (0, 0)) ∧ Below w.heap.size w w2) := ⟨hrb, hbw⟩; clear hrb hbw hb2))
  refine bodyPost_ret (resultsN _ _ _ _ rfl rfl (rb_set HR.out.1)) rfl ?_
  exact ⟨rfl, (HR.out.2.setCell (by simp) _).setCell (by simp) _⟩
end Nx
end Go.Proofs.YtalfelkblbbmpaaDoor
