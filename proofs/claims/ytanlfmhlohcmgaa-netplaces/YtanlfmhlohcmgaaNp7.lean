/- NetPlaces: the law's walk, where code may be and has places. -/
import Derived.Test.YtanlfmhlohcmgaaNp6
import Derived.Deep.DeepCutAuto
import Derived.Deep.RegionHeld3
namespace Go.Proofs.Ytanlfmhlohcmgaa
open Go.RowKit
namespace Nx

/-- the new code's box, as it is made -/
structure PM (W wx : World) (P : Int) (vN : Value) (qm gF : Nat) (F I O K : List Int) (vI vO vK v6 : Value) : Prop where
  box : wx.heap[qm]? = some (.cells #[.int .i64 (P + 1), .slice (some ⟨gF, 0, none⟩) F.length F.length, vI, vO, vK, vN, v6] 26 (0, 0))
  own : ∃ rest T, wx.heap[gF]? = some (.cells (F.map (Value.int .i64) ++ rest).toArray T (0, 0))
  i : Ints (fun b => W.heap.size ≤ b ∧ b ≠ qm ∧ b ≠ gF ∧ b < wx.heap.size) wx vI I
  o : Ints (fun b => W.heap.size ≤ b ∧ b ≠ qm ∧ b ≠ gF ∧ b < wx.heap.size) wx vO O
  k : Ints (fun b => W.heap.size ≤ b ∧ b ≠ qm ∧ b ≠ gF ∧ b < wx.heap.size) wx vK K
  qW : W.heap.size ≤ qm
  gW : W.heap.size ≤ gF
  ne : qm ≠ gF
  bl : Below W.heap.size W wx

theorem below_al {W X : World} {o : Obj} (h : Below W.heap.size W X) : Below W.heap.size W (X.alloc o) := ball h (grown_one _ _)
theorem below_ald {W X : World} {o : Obj} (h : Below W.heap.size W X.drew) : Below W.heap.size W (X.alloc o).drew := (below_al (X := X) ⟨h.os, h.tape, h.output, h.size, h.block⟩).drew
/-- a box that nothing was put into yet -/
theorem z1 (Y : World) : (Y.alloc (.cells #[.int .i64 0, .slice none 0 0, .slice none 0 0, .slice none 0 0, .slice none 0 0, .slice none 0 0, .slice none 0 0] 26)).heap[Y.heap.size]? = some (.cells #[.int .i64 0, .slice none 0 0, .slice none 0 0, .slice none 0 0, .slice none 0 0, .slice none 0 0, .slice none 0 0] 26 (0, 0)) := heap_alloc_new _ _
theorem z2 (Y : World) (F : Obj) : ((Y.alloc F).alloc (.cells #[.int .i64 0, .slice none 0 0, .slice none 0 0, .slice none 0 0, .slice none 0 0, .slice none 0 0, .slice none 0 0] 26)).heap[Y.heap.size + 1]? = some (.cells #[.int .i64 0, .slice none 0 0, .slice none 0 0, .slice none 0 0, .slice none 0 0, .slice none 0 0, .slice none 0 0] 26 (0, 0)) := by
  have e : Y.heap.size + 1 = (Y.alloc F).heap.size := by simp
  rw [e]; exact heap_alloc_new _ _
theorem z3 (Y : World) (F : Obj) : ((Y.alloc (.cells #[.int .i64 0, .slice none 0 0, .slice none 0 0, .slice none 0 0, .slice none 0 0, .slice none 0 0, .slice none 0 0] 26)).alloc F).heap[Y.heap.size]? = some (.cells #[.int .i64 0, .slice none 0 0, .slice none 0 0, .slice none 0 0, .slice none 0 0, .slice none 0 0, .slice none 0 0] 26 (0, 0)) := by
  rw [Below.heap_alloc _ _ _ (by simp)]; exact heap_alloc_new _ _
theorem z4 {w : World} {q : Nat} (F : Obj) (h : w.heap[q]? = some (.cells #[.int .i64 0, .slice none 0 0, .slice none 0 0, .slice none 0 0, .slice none 0 0, .slice none 0 0, .slice none 0 0] 26 (0, 0))) : (w.alloc F).heap[q]? = some (.cells #[.int .i64 0, .slice none 0 0, .slice none 0 0, .slice none 0 0, .slice none 0 0, .slice none 0 0, .slice none 0 0] 26 (0, 0)) := by
  rw [Below.heap_alloc _ _ _ (lt_of_block h)]; exact h
theorem zrow {X w' : World} {q : Nat} (hb : Below X.heap.size X w') (h : X.heap[q]? = some (.cells #[.int .i64 0, .slice none 0 0, .slice none 0 0, .slice none 0 0, .slice none 0 0, .slice none 0 0, .slice none 0 0] 26 (0, 0))) : w'.heap[q]? = some (.cells #[.int .i64 0, .slice none 0 0, .slice none 0 0, .slice none 0 0, .slice none 0 0, .slice none 0 0, .slice none 0 0] 26 (0, 0)) := by
  rw [hb.block q (lt_of_block h)]; exact h
theorem zcells {w : World} {q : Nat} (h : w.heap[q]? = some (.cells #[.int .i64 0, .slice none 0 0, .slice none 0 0, .slice none 0 0, .slice none 0 0, .slice none 0 0, .slice none 0 0] 26 (0, 0))) : q < w.heap.size ∧ w.cell? ⟨q, 0, none⟩ = some (.int .i64 0) ∧ w.cell? ⟨q, 1, none⟩ = some (.slice none 0 0) ∧ w.cell? ⟨q, 2, none⟩ = some (.slice none 0 0) ∧ w.cell? ⟨q, 3, none⟩ = some (.slice none 0 0) ∧ w.cell? ⟨q, 4, none⟩ = some (.slice none 0 0) ∧ w.cell? ⟨q, 5, none⟩ = some (.slice none 0 0) ∧ w.cell? ⟨q, 6, none⟩ = some (.slice none 0 0) ∧ ∀ o, w.frozen? ⟨q, o, none⟩ = false :=
  ⟨lt_of_block h, cell_row h 0, cell_row h 1, cell_row h 2, cell_row h 3, cell_row h 4, cell_row h 5, cell_row h 6, frozen_cells h⟩
theorem PM.drew {W wx : World} {P : Int} {vN : Value} {qm gF : Nat} {F I O K : List Int} {vI vO vK v6 : Value} (h : PM W wx P vN qm gF F I O K vI vO vK v6) : PM W wx.drew P vN qm gF F I O K vI vO vK v6 := ⟨h.box, h.own, h.i, h.o, h.k, h.qW, h.gW, h.ne, h.bl.drew⟩
theorem PM.cells {W wx : World} {P : Int} {vN : Value} {qm gF : Nat} {F I O K : List Int} {vI vO vK v6 : Value} (h : PM W wx P vN qm gF F I O K vI vO vK v6) (k : Nat) (hk : k < F.length) : wx.cell? ⟨gF, k, none⟩ = some (.int .i64 (F.getD k 0)) ∧ wx.frozen? ⟨gF, k, none⟩ = false := by
  obtain ⟨rest, T, hb⟩ := h.own
  refine ⟨?_, frozen_cells hb _⟩
  rw [cell_of_cells hb, List.getElem?_append_left (by simpa using hk), List.getElem?_map, List.getD_eq_getElem?_getD, List.getElem?_eq_getElem hk]; rfl
theorem PM.set {W wx : World} {P : Int} {vN : Value} {qm gF : Nat} {F I O K : List Int} {vI vO vK v6 : Value} (h : PM W wx P vN qm gF F I O K vI vO vK v6) (k : Nat) (x : Int) (hk : k < F.length) : PM W (wx.setCell ⟨gF, k, none⟩ (.int .i64 x)) P vN qm gF (F.set k x) I O K vI vO vK v6 := by
  have hs : (wx.setCell ⟨gF, k, none⟩ (.int .i64 x)).heap.size = wx.heap.size := by simp [World.setCell]
  have hk' : ∀ b, b ≠ gF → (wx.setCell ⟨gF, k, none⟩ (.int .i64 x)).heap[b]? = wx.heap[b]? := fun b hb => Below.heap_setCell _ _ _ _ (by simpa using hb)
  have car : ∀ {v : Value} {zs : List Int}, Ints (fun b => W.heap.size ≤ b ∧ b ≠ qm ∧ b ≠ gF ∧ b < wx.heap.size) wx v zs → Ints (fun b => W.heap.size ≤ b ∧ b ≠ qm ∧ b ≠ gF ∧ b < (wx.setCell ⟨gF, k, none⟩ (.int .i64 x)).heap.size) (wx.setCell ⟨gF, k, none⟩ (.int .i64 x)) v zs := fun hi => hi.carry fun b hb _ => ⟨by rw [hs]; exact hb, hk' b hb.2.2.1⟩
  refine ⟨?_, ?_, car h.i, car h.o, car h.k, h.qW, h.gW, h.ne, h.bl.setCell h.gW _⟩
  · rw [hk' _ h.ne, List.length_set]; exact h.box
  · obtain ⟨rest, T, hb⟩ := h.own
    refine ⟨rest, T, ?_⟩
    rw [set_cells hb, List.set_append_left _ _ (by simpa using hk), List.map_set]
/-- an append whose run is known, at a plain region's list -/
theorem wpList_app {P : Program} {w w' : World} {ops : Array Oper} {rest : List Oper} {o : Oper} {a : Act} {Q : Exit → Act → World → Prop} (hgd : o.guard = none) (s x : Operand) (t : TypeId)
    (ho : o.op = .call { callee := .builtin .append, args := #[s, x], argTypes := #[t, t] }) (vs vx r : Value) (hs : a.eval s = vs) (hx : a.eval x = vx) (hr : (Builtin.append_ #[t, t] o.type #[vs, vx]).run P w = .ok r w') (h : wpList P ops Q rest (a.put o.dst r) w') : wpList P ops Q (o :: rest) a w :=
  wpList_plain hgd fun _ hK => by
    unfold Oper.wp execOp
    simp only [ho, resolve, invoke, builtin, Sem.run_bind, Sem.run_pure, Result.andThen_ok, List.map_toArray, List.map_cons, List.map_nil, hs, hx, hr]
    exact hK _ _ h
/-- the new code's box, as its steps are added -/
structure L2 (W2 wr : World) (P : Int) (vN : Value) (qm gF NP : Nat) (vI vO vK v6 : Value) (l : List Sp) : Prop where
  fr : Fr W2.heap.size [qm] W2 wr
  box : wr.heap[qm]? = some (.cells #[.int .i64 (P + 1), .slice (some ⟨gF, 0, none⟩) NP NP, vI, vO, vK, vN, v6] 26 (0, 0))
  row : RowS W2.heap.size wr v6 l
theorem L2.below {W2 wr w' : World} {P : Int} {vN : Value} {qm gF NP : Nat} {vI vO vK v6 : Value} {l : List Sp} (h : L2 W2 wr P vN qm gF NP vI vO vK v6 l) (hb : Below wr.heap.size wr w') : L2 W2 w' P vN qm gF NP vI vO vK v6 l := by
  obtain ⟨_, _, _, hk⟩ := h.row.form
  exact ⟨h.fr.trans (Fr.of_below (hb.mono h.fr.size) _), by rw [hb.block _ (lt_of_block h.box)]; exact h.box, h.row.keep fun k e => hb.block k (hk k e).2⟩
theorem L2.app {W2 wr : World} {P : Int} {vN : Value} {qm gF NP : Nat} {vI vO vK v6 : Value} {l : List Sp} (h : L2 W2 wr P vN qm gF NP vI vO vK v6 l) (hq : qm < W2.heap.size) (s : Sp) (q : Nat) (hs : wr.heap[q]? = some (.cells #[.int .i64 s.code, .int .i64 s.dst, .int .i64 s.a, .int .i64 s.b, .int .i64 s.c] 37 (0, 0))) (hl : l.length ≤ 100000) :
    ∃ g cap w', (Builtin.append_ #[24, 24] 24 #[v6, .slice (some ⟨q, 0, none⟩) 1 1]).run Try.prog wr = .ok (.slice (some ⟨g, 0, none⟩) (l.length + 1) cap) w' ∧ w'.cell? ⟨qm, 6, none⟩ = some v6 ∧ w'.frozen? ⟨qm, 6, none⟩ = false ∧ Fr W2.heap.size [qm] W2 w' ∧ L2 W2 (w'.setCell ⟨qm, 6, none⟩ (.slice (some ⟨g, 0, none⟩) (l.length + 1) cap)) P vN qm gF NP vI vO vK (.slice (some ⟨g, 0, none⟩) (l.length + 1) cap) (l ++ [s]) := by
  obtain ⟨g, cap, w', hr, h2, h3, h4, h5⟩ := appS W2.heap.size wr v6 l s q h.row hs h.fr.size hl
  obtain ⟨_, _, _, hk⟩ := h.row.form
  have hgW : W2.heap.size ≤ g := by
    obtain ⟨_, _, e, hk2⟩ := h2.form
    exact (hk2 g (by simp [Value.ownBlock])).1
  have hbq : w'.heap[qm]? = some (.cells #[.int .i64 (P + 1), .slice (some ⟨gF, 0, none⟩) NP NP, vI, vO, vK, vN, v6] 26 (0, 0)) := by
    rw [h3.block qm (lt_of_block h.box) (fun e => by have := (hk qm e.symm).1; omega)]; exact h.box
  have hF : Fr W2.heap.size [qm] wr w' := ⟨h3.os, h3.tape, h3.output, h3.size, fun b hb _ => h3.block b (Nat.lt_of_lt_of_le hb h.fr.size) (fun e => by have := (hk b e.symm).1; omega)⟩
  refine ⟨g, cap, w', hr, cell_row hbq 6, frozen_cells hbq 6, h.fr.trans hF, ⟨?_, ?_, ?_⟩⟩
  · exact (h.fr.trans hF).setCell (.inr (by simp)) _
  · exact set_cells (l := [.int .i64 (P + 1), .slice (some ⟨gF, 0, none⟩) NP NP, vI, vO, vK, vN, v6]) hbq 6 _
  · refine h2.keep fun k e => ?_
    have : g = k := by simpa [Value.ownBlock] using e
    subst this
    exact Below.heap_setCell _ _ _ _ (by simp; omega)
theorem hn2 (Y : World) (F o : Obj) : ((Y.alloc F).alloc o).heap[Y.heap.size + 1]? = some o := by
  have e : Y.heap.size + 1 = (Y.alloc F).heap.size := by simp
  rw [e]; exact heap_alloc_new _ _
theorem hn3 (Y : World) (F o : Obj) : ((Y.alloc o).alloc F).heap[Y.heap.size]? = some o := by
  rw [Below.heap_alloc _ _ _ (by simp)]; exact heap_alloc_new _ _
theorem gcar {w : World} {q : Nat} {o : Obj} (F : Obj) (h : w.heap[q]? = some o) : (w.alloc F).heap[q]? = some o := by
  rw [Below.heap_alloc _ _ _ (lt_of_block h)]; exact h
theorem gkeep {X w' : World} {q : Nat} {o : Obj} (hb : Below X.heap.size X w') (h : X.heap[q]? = some o) : w'.heap[q]? = some o := by
  rw [hb.block q (lt_of_block h)]; exact h
theorem kx0 {X w' : World} (h : Below X.heap.size X w') : ∀ b, b < X.heap.size → w'.heap[b]? = X.heap[b]? := h.block
theorem kx1 {Y w' : World} {o : Obj} (h : Below (Y.alloc o).heap.size (Y.alloc o) w') : ∀ b, b < Y.heap.size → w'.heap[b]? = Y.heap[b]? := fun b hb => (h.block b (by simp; omega)).trans (Below.heap_alloc _ _ _ hb)
theorem kx2 {Y w' : World} {o o' : Obj} (h : Below ((Y.alloc o).alloc o').heap.size ((Y.alloc o).alloc o') w') : ∀ b, b < Y.heap.size → w'.heap[b]? = Y.heap[b]? := fun b hb => (h.block b (by simp; omega)).trans ((Below.heap_alloc _ _ _ (by simp; omega)).trans (Below.heap_alloc _ _ _ hb))
theorem set7 {Y : World} {q : Nat} (h : Y.heap[q]? = some (.cells #[.int .i64 0, .slice none 0 0, .slice none 0 0, .slice none 0 0, .slice none 0 0, .slice none 0 0, .slice none 0 0] 26 (0, 0))) (a0 a1 a2 a3 a4 a5 a6 : Value) : (((((((Y.setCell ⟨q, 0, none⟩ a0).setCell ⟨q, 1, none⟩ a1).setCell ⟨q, 2, none⟩ a2).setCell ⟨q, 3, none⟩ a3).setCell ⟨q, 4, none⟩ a4).setCell ⟨q, 5, none⟩ a5).setCell ⟨q, 6, none⟩ a6).heap[q]? = some (.cells #[a0, a1, a2, a3, a4, a5, a6] 26 (0, 0)) ∧ (∀ b, b ≠ q → (((((((Y.setCell ⟨q, 0, none⟩ a0).setCell ⟨q, 1, none⟩ a1).setCell ⟨q, 2, none⟩ a2).setCell ⟨q, 3, none⟩ a3).setCell ⟨q, 4, none⟩ a4).setCell ⟨q, 5, none⟩ a5).setCell ⟨q, 6, none⟩ a6).heap[b]? = Y.heap[b]?) ∧ (((((((Y.setCell ⟨q, 0, none⟩ a0).setCell ⟨q, 1, none⟩ a1).setCell ⟨q, 2, none⟩ a2).setCell ⟨q, 3, none⟩ a3).setCell ⟨q, 4, none⟩ a4).setCell ⟨q, 5, none⟩ a5).setCell ⟨q, 6, none⟩ a6).heap.size = Y.heap.size := by
  refine ⟨(set_cells (l := [a0, a1, a2, a3, a4, a5, Value.slice none 0 0]) (set_cells (l := [a0, a1, a2, a3, a4, Value.slice none 0 0, Value.slice none 0 0]) (set_cells (l := [a0, a1, a2, a3, Value.slice none 0 0, Value.slice none 0 0, Value.slice none 0 0]) (set_cells (l := [a0, a1, a2, Value.slice none 0 0, Value.slice none 0 0, Value.slice none 0 0, Value.slice none 0 0]) (set_cells (l := [a0, a1, Value.slice none 0 0, Value.slice none 0 0, Value.slice none 0 0, Value.slice none 0 0, Value.slice none 0 0]) (set_cells (l := [a0, Value.slice none 0 0, Value.slice none 0 0, Value.slice none 0 0, Value.slice none 0 0, Value.slice none 0 0, Value.slice none 0 0]) (set_cells (l := [Value.int .i64 0, Value.slice none 0 0, Value.slice none 0 0, Value.slice none 0 0, Value.slice none 0 0, Value.slice none 0 0, Value.slice none 0 0]) h 0 a0) 1 a1) 2 a2) 3 a3) 4 a4) 5 a5) 6 a6), fun b hb => ?_, by simp [World.setCell]⟩
  have hb' : ∀ o, b ≠ (⟨q, o, none⟩ : Addr).block := fun o => hb
  rw [Below.heap_setCell _ _ _ _ (hb' 6), Below.heap_setCell _ _ _ _ (hb' 5), Below.heap_setCell _ _ _ _ (hb' 4), Below.heap_setCell _ _ _ _ (hb' 3), Below.heap_setCell _ _ _ _ (hb' 2), Below.heap_setCell _ _ _ _ (hb' 1), Below.heap_setCell _ _ _ _ (hb' 0)]
theorem pm_asm {W wI wO wK wx : World} {P : Int} {vN vI vO vK v6 : Value} {qm gF NP xI xO xK : Nat} {ZF : Obj} {I O K : List Int} (hZF : ZF = .cells (madeCells (Value.cells (.int .i64 0)) (NP * 1)) 2)
    (rI : Ints (fun b => xI ≤ b ∧ b < wI.heap.size) wI vI I) (rO : Ints (fun b => xO ≤ b ∧ b < wO.heap.size) wO vO O) (rK : Ints (fun b => xK ≤ b ∧ b < wK.heap.size) wK vK K)
    (KO : ∀ b, b < wI.heap.size → wO.heap[b]? = wI.heap[b]?) (KK : ∀ b, b < wO.heap.size → wK.heap[b]? = wO.heap[b]?) (sIO : wI.heap.size ≤ wO.heap.size) (sOK : wO.heap.size ≤ wK.heap.size)
    (hq : wx.heap[qm]? = some (.cells #[.int .i64 (P + 1), .slice (some ⟨gF, 0, none⟩) NP NP, vI, vO, vK, vN, v6] 26 (0, 0))) (hg : wx.heap[gF]? = some ZF)
    (sx : wK.heap.size ≤ wx.heap.size) (hx : ∀ b, b < wK.heap.size → b ≠ qm → wx.heap[b]? = wK.heap[b]?) (hWI : W.heap.size ≤ xI) (hWO : W.heap.size ≤ xO) (hWK : W.heap.size ≤ xK)
    (dI : ∀ b, xI ≤ b → b < wI.heap.size → b ≠ qm ∧ b ≠ gF) (dO : ∀ b, xO ≤ b → b < wO.heap.size → b ≠ qm ∧ b ≠ gF) (dK : ∀ b, xK ≤ b → b < wK.heap.size → b ≠ qm ∧ b ≠ gF)
    (qW : W.heap.size ≤ qm) (gW : W.heap.size ≤ gF) (ne : qm ≠ gF) (bl : Below W.heap.size W wx) : PM W wx P vN qm gF (List.replicate NP 0) I O K vI vO vK v6 := by
  refine ⟨by rw [List.length_replicate]; exact hq, ⟨[], 2, ?_⟩, rI.carry fun b hb _ => ⟨⟨by omega, (dI b hb.1 hb.2).1, (dI b hb.1 hb.2).2, by omega⟩, ?_⟩, rO.carry fun b hb _ => ⟨⟨by omega, (dO b hb.1 hb.2).1, (dO b hb.1 hb.2).2, by omega⟩, ?_⟩, rK.carry fun b hb _ => ⟨⟨by omega, (dK b hb.1 hb.2).1, (dK b hb.1 hb.2).2, by omega⟩, ?_⟩, qW, gW, ne, bl⟩
  · rw [hg, hZF, List.append_nil, ← made0]
  · rw [hx b (by omega) (dI b hb.1 hb.2).1, KK b (by omega), KO b hb.2]
  · rw [hx b (by omega) (dO b hb.1 hb.2).1, KK b hb.2]
  · exact hx b hb.2 (dK b hb.1 hb.2).1
theorem fin1 {W wI wO wK : World} {P : Int} {vN : Value} {gF NP xI xO xK lI lO lK capI capO capK : Nat} {adI adO adK : Option Addr} {ZF : Obj} {I O K : List Int} (hZF : ZF = .cells (madeCells (Value.cells (.int .i64 0)) (NP * 1)) 2)
    (rI : Ints (fun b => xI ≤ b ∧ b < wI.heap.size) wI (.slice adI lI capI) I) (rO : Ints (fun b => xO ≤ b ∧ b < wO.heap.size) wO (.slice adO lO capO) O) (rK : Ints (fun b => xK ≤ b ∧ b < wK.heap.size) wK (.slice adK lK capK) K)
    (KO : ∀ b, b < wI.heap.size → wO.heap[b]? = wI.heap[b]?) (KK : ∀ b, b < wO.heap.size → wK.heap[b]? = wO.heap[b]?) (HG : wK.heap[gF]? = some ZF)
    (hc : wI.heap.size ≤ wO.heap.size ∧ wO.heap.size ≤ wK.heap.size ∧ W.heap.size ≤ xI ∧ W.heap.size ≤ xO ∧ W.heap.size ≤ xK ∧ (∀ b, xI ≤ b → b < wI.heap.size → b ≠ wK.heap.size ∧ b ≠ gF) ∧ (∀ b, xO ≤ b → b < wO.heap.size → b ≠ wK.heap.size ∧ b ≠ gF) ∧ (∀ b, xK ≤ b → b < wK.heap.size → b ≠ wK.heap.size ∧ b ≠ gF) ∧ W.heap.size ≤ wK.heap.size ∧ W.heap.size ≤ gF ∧ wK.heap.size ≠ gF ∧ Below W.heap.size W wK) :
    ∃ q g a1 c1 a2 c2 a3 c3, Value.pointer (some ⟨wK.heap.size, 0, none⟩) = .pointer (some ⟨q, 0, none⟩) ∧ PM W (wK.alloc (.cells #[.int .i64 (P + 1), .slice (some ⟨gF, 0, none⟩) NP NP, .slice adI lI capI, .slice adO lO capO, .slice adK lK capK, vN, .slice none 0 0] 26)) P vN q g (List.replicate NP 0) I O K (.slice a1 lI c1) (.slice a2 lO c2) (.slice a3 lK c3) (.slice none 0 0) := by
  obtain ⟨c1, c2, c3, c4, c5, d1, d2, d3, e1, e2, e3, bl⟩ := hc
  exact ⟨_, _, adI, capI, adO, capO, adK, capK, rfl, pm_asm hZF rI rO rK KO KK c1 c2 (heap_alloc_new _ _) (gcar _ HG) (by simp) (fun b hb _ => Below.heap_alloc _ _ _ hb) c3 c4 c5 d1 d2 d3 e1 e2 e3 (below_al bl)⟩
theorem fin2 {W wI wO wK : World} {P : Int} {vN : Value} { NP xI xO xK lI lO lK capI capO capK : Nat} {adI adO adK : Option Addr} {ZF : Obj} {I O K : List Int} (hZF : ZF = .cells (madeCells (Value.cells (.int .i64 0)) (NP * 1)) 2)
    (rI : Ints (fun b => xI ≤ b ∧ b < wI.heap.size) wI (.slice adI lI capI) I) (rO : Ints (fun b => xO ≤ b ∧ b < wO.heap.size) wO (.slice adO lO capO) O) (rK : Ints (fun b => xK ≤ b ∧ b < wK.heap.size) wK (.slice adK lK capK) K)
    (KO : ∀ b, b < wI.heap.size → wO.heap[b]? = wI.heap[b]?) (KK : ∀ b, b < wO.heap.size → wK.heap[b]? = wO.heap[b]?) 
    (hc : wI.heap.size ≤ wO.heap.size ∧ wO.heap.size ≤ wK.heap.size ∧ W.heap.size ≤ xI ∧ W.heap.size ≤ xO ∧ W.heap.size ≤ xK ∧ (∀ b, xI ≤ b → b < wI.heap.size → b ≠ wK.heap.size + 1 ∧ b ≠ wK.heap.size) ∧ (∀ b, xO ≤ b → b < wO.heap.size → b ≠ wK.heap.size + 1 ∧ b ≠ wK.heap.size) ∧ (∀ b, xK ≤ b → b < wK.heap.size → b ≠ wK.heap.size + 1 ∧ b ≠ wK.heap.size) ∧ W.heap.size ≤ wK.heap.size + 1 ∧ W.heap.size ≤ wK.heap.size ∧ wK.heap.size + 1 ≠ wK.heap.size ∧ Below W.heap.size W wK) :
    ∃ q g a1 c1 a2 c2 a3 c3, Value.pointer (some ⟨wK.heap.size + 1, 0, none⟩) = .pointer (some ⟨q, 0, none⟩) ∧ PM W ((wK.alloc ZF).alloc (.cells #[.int .i64 (P + 1), .slice (some ⟨wK.heap.size, 0, none⟩) NP NP, .slice adI lI capI, .slice adO lO capO, .slice adK lK capK, vN, .slice none 0 0] 26)) P vN q g (List.replicate NP 0) I O K (.slice a1 lI c1) (.slice a2 lO c2) (.slice a3 lK c3) (.slice none 0 0) := by
  obtain ⟨c1, c2, c3, c4, c5, d1, d2, d3, e1, e2, e3, bl⟩ := hc
  exact ⟨_, _, adI, capI, adO, capO, adK, capK, rfl, pm_asm hZF rI rO rK KO KK c1 c2 (hn2 _ _ _) (hn3 _ _ _) (by simp; omega) (fun b hb _ => (Below.heap_alloc _ _ _ (by simp; omega)).trans (Below.heap_alloc _ _ _ hb)) c3 c4 c5 d1 d2 d3 e1 e2 e3 (below_al (below_al bl))⟩
theorem fin3 {W wI wO wK : World} {P : Int} {vN : Value} { NP xI xO xK lI lO lK capI capO capK : Nat} {adI adO adK : Option Addr} {ZF : Obj} {I O K : List Int} (hZF : ZF = .cells (madeCells (Value.cells (.int .i64 0)) (NP * 1)) 2)
    (rI : Ints (fun b => xI ≤ b ∧ b < wI.heap.size) wI (.slice adI lI capI) I) (rO : Ints (fun b => xO ≤ b ∧ b < wO.heap.size) wO (.slice adO lO capO) O) (rK : Ints (fun b => xK ≤ b ∧ b < wK.heap.size) wK (.slice adK lK capK) K)
    (KO : ∀ b, b < wI.heap.size → wO.heap[b]? = wI.heap[b]?) (KK : ∀ b, b < wO.heap.size → wK.heap[b]? = wO.heap[b]?) 
    (hc : wI.heap.size ≤ wO.heap.size ∧ wO.heap.size ≤ wK.heap.size ∧ W.heap.size ≤ xI ∧ W.heap.size ≤ xO ∧ W.heap.size ≤ xK ∧ (∀ b, xI ≤ b → b < wI.heap.size → b ≠ wK.heap.size ∧ b ≠ wK.heap.size + 1) ∧ (∀ b, xO ≤ b → b < wO.heap.size → b ≠ wK.heap.size ∧ b ≠ wK.heap.size + 1) ∧ (∀ b, xK ≤ b → b < wK.heap.size → b ≠ wK.heap.size ∧ b ≠ wK.heap.size + 1) ∧ W.heap.size ≤ wK.heap.size ∧ W.heap.size ≤ wK.heap.size + 1 ∧ wK.heap.size ≠ wK.heap.size + 1 ∧ Below W.heap.size W wK) :
    ∃ q g a1 c1 a2 c2 a3 c3, Value.pointer (some ⟨wK.heap.size, 0, none⟩) = .pointer (some ⟨q, 0, none⟩) ∧ PM W ((wK.alloc (.cells #[.int .i64 (P + 1), .slice (some ⟨wK.heap.size + 1, 0, none⟩) NP NP, .slice adI lI capI, .slice adO lO capO, .slice adK lK capK, vN, .slice none 0 0] 26)).alloc ZF) P vN q g (List.replicate NP 0) I O K (.slice a1 lI c1) (.slice a2 lO c2) (.slice a3 lK c3) (.slice none 0 0) := by
  obtain ⟨c1, c2, c3, c4, c5, d1, d2, d3, e1, e2, e3, bl⟩ := hc
  exact ⟨_, _, adI, capI, adO, capO, adK, capK, rfl, pm_asm hZF rI rO rK KO KK c1 c2 (hn3 _ _ _) (hn2 _ _ _) (by simp; omega) (fun b hb _ => (Below.heap_alloc _ _ _ (by simp; omega)).trans (Below.heap_alloc _ _ _ hb)) c3 c4 c5 d1 d2 d3 e1 e2 e3 (below_al (below_al bl))⟩
theorem fin4 {W wI wO wK : World} {P : Int} {vN : Value} {gF qm NP xI xO xK lI lO lK capI capO capK : Nat} {adI adO adK : Option Addr} {ZF : Obj} {I O K : List Int} (hZF : ZF = .cells (madeCells (Value.cells (.int .i64 0)) (NP * 1)) 2)
    (rI : Ints (fun b => xI ≤ b ∧ b < wI.heap.size) wI (.slice adI lI capI) I) (rO : Ints (fun b => xO ≤ b ∧ b < wO.heap.size) wO (.slice adO lO capO) O) (rK : Ints (fun b => xK ≤ b ∧ b < wK.heap.size) wK (.slice adK lK capK) K)
    (KO : ∀ b, b < wI.heap.size → wO.heap[b]? = wI.heap[b]?) (KK : ∀ b, b < wO.heap.size → wK.heap[b]? = wO.heap[b]?) (HZ : wK.heap[qm]? = some (.cells #[.int .i64 0, .slice none 0 0, .slice none 0 0, .slice none 0 0, .slice none 0 0, .slice none 0 0, .slice none 0 0] 26 (0, 0))) (HG : wK.heap[gF]? = some ZF)
    (hc : wI.heap.size ≤ wO.heap.size ∧ wO.heap.size ≤ wK.heap.size ∧ W.heap.size ≤ xI ∧ W.heap.size ≤ xO ∧ W.heap.size ≤ xK ∧ (∀ b, xI ≤ b → b < wI.heap.size → b ≠ qm ∧ b ≠ gF) ∧ (∀ b, xO ≤ b → b < wO.heap.size → b ≠ qm ∧ b ≠ gF) ∧ (∀ b, xK ≤ b → b < wK.heap.size → b ≠ qm ∧ b ≠ gF) ∧ W.heap.size ≤ qm ∧ W.heap.size ≤ gF ∧ qm ≠ gF ∧ Below W.heap.size W wK) :
    ∃ q g a1 c1 a2 c2 a3 c3, Value.pointer (some ⟨qm, 0, none⟩) = .pointer (some ⟨q, 0, none⟩) ∧ PM W (((((((wK.setCell ⟨qm, 0, none⟩ (.int .i64 (P + 1))).setCell ⟨qm, 1, none⟩ (.slice (some ⟨gF, 0, none⟩) NP NP)).setCell ⟨qm, 2, none⟩ (.slice adI lI capI)).setCell ⟨qm, 3, none⟩ (.slice adO lO capO)).setCell ⟨qm, 4, none⟩ (.slice adK lK capK)).setCell ⟨qm, 5, none⟩ (vN)).setCell ⟨qm, 6, none⟩ (.slice none 0 0)) P vN q g (List.replicate NP 0) I O K (.slice a1 lI c1) (.slice a2 lO c2) (.slice a3 lK c3) (.slice none 0 0) := by
  obtain ⟨c1, c2, c3, c4, c5, d1, d2, d3, e1, e2, e3, bl⟩ := hc
  exact ⟨_, _, adI, capI, adO, capO, adK, capK, rfl, pm_asm hZF rI rO rK KO KK c1 c2 (set7 HZ _ _ _ _ _ _ _).1 (((set7 HZ _ _ _ _ _ _ _).2.1 _ (Ne.symm e3)).trans HG) (Nat.le_of_eq (set7 HZ _ _ _ _ _ _ _).2.2.symm) (fun b _ hne => (set7 HZ _ _ _ _ _ _ _).2.1 b hne) c3 c4 c5 d1 d2 d3 e1 e2 e3 (((((((bl.setCell e1 _).setCell e1 _).setCell e1 _).setCell e1 _).setCell e1 _).setCell e1 _).setCell e1 _)⟩
theorem fin5 {W wI wO wK : World} {P : Int} {vN : Value} {qm NP xI xO xK lI lO lK capI capO capK : Nat} {adI adO adK : Option Addr} {ZF : Obj} {I O K : List Int} (hZF : ZF = .cells (madeCells (Value.cells (.int .i64 0)) (NP * 1)) 2)
    (rI : Ints (fun b => xI ≤ b ∧ b < wI.heap.size) wI (.slice adI lI capI) I) (rO : Ints (fun b => xO ≤ b ∧ b < wO.heap.size) wO (.slice adO lO capO) O) (rK : Ints (fun b => xK ≤ b ∧ b < wK.heap.size) wK (.slice adK lK capK) K)
    (KO : ∀ b, b < wI.heap.size → wO.heap[b]? = wI.heap[b]?) (KK : ∀ b, b < wO.heap.size → wK.heap[b]? = wO.heap[b]?) (HZ : wK.heap[qm]? = some (.cells #[.int .i64 0, .slice none 0 0, .slice none 0 0, .slice none 0 0, .slice none 0 0, .slice none 0 0, .slice none 0 0] 26 (0, 0)))
    (hc : wI.heap.size ≤ wO.heap.size ∧ wO.heap.size ≤ wK.heap.size ∧ W.heap.size ≤ xI ∧ W.heap.size ≤ xO ∧ W.heap.size ≤ xK ∧ (∀ b, xI ≤ b → b < wI.heap.size → b ≠ qm ∧ b ≠ wK.heap.size) ∧ (∀ b, xO ≤ b → b < wO.heap.size → b ≠ qm ∧ b ≠ wK.heap.size) ∧ (∀ b, xK ≤ b → b < wK.heap.size → b ≠ qm ∧ b ≠ wK.heap.size) ∧ W.heap.size ≤ qm ∧ W.heap.size ≤ wK.heap.size ∧ qm ≠ wK.heap.size ∧ Below W.heap.size W wK) :
    ∃ q g a1 c1 a2 c2 a3 c3, Value.pointer (some ⟨qm, 0, none⟩) = .pointer (some ⟨q, 0, none⟩) ∧ PM W ((((((((wK.alloc ZF).setCell ⟨qm, 0, none⟩ (.int .i64 (P + 1))).setCell ⟨qm, 1, none⟩ (.slice (some ⟨wK.heap.size, 0, none⟩) NP NP)).setCell ⟨qm, 2, none⟩ (.slice adI lI capI)).setCell ⟨qm, 3, none⟩ (.slice adO lO capO)).setCell ⟨qm, 4, none⟩ (.slice adK lK capK)).setCell ⟨qm, 5, none⟩ (vN)).setCell ⟨qm, 6, none⟩ (.slice none 0 0)) P vN q g (List.replicate NP 0) I O K (.slice a1 lI c1) (.slice a2 lO c2) (.slice a3 lK c3) (.slice none 0 0) := by
  obtain ⟨c1, c2, c3, c4, c5, d1, d2, d3, e1, e2, e3, bl⟩ := hc
  exact ⟨_, _, adI, capI, adO, capO, adK, capK, rfl, pm_asm hZF rI rO rK KO KK c1 c2 (set7 (z4 _ HZ) _ _ _ _ _ _ _).1 (((set7 (z4 _ HZ) _ _ _ _ _ _ _).2.1 _ (Ne.symm e3)).trans (heap_alloc_new _ _)) (by rw [(set7 (z4 ZF HZ) _ _ _ _ _ _ _).2.2]; simp) (fun b hb hne => ((set7 (z4 _ HZ) _ _ _ _ _ _ _).2.1 b hne).trans (Below.heap_alloc _ _ _ hb)) c3 c4 c5 d1 d2 d3 e1 e2 e3 ((((((((below_al bl).setCell e1 _).setCell e1 _).setCell e1 _).setCell e1 _).setCell e1 _).setCell e1 _).setCell e1 _)⟩
theorem fin6 {W wI wO wK : World} {P : Int} {vN : Value} {qm NP xI xO xK lI lO lK capI capO capK : Nat} {adI adO adK : Option Addr} {ZF : Obj} {I O K : List Int} (hZF : ZF = .cells (madeCells (Value.cells (.int .i64 0)) (NP * 1)) 2)
    (rI : Ints (fun b => xI ≤ b ∧ b < wI.heap.size) wI (.slice adI lI capI) I) (rO : Ints (fun b => xO ≤ b ∧ b < wO.heap.size) wO (.slice adO lO capO) O) (rK : Ints (fun b => xK ≤ b ∧ b < wK.heap.size) wK (.slice adK lK capK) K)
    (KO : ∀ b, b < wI.heap.size → wO.heap[b]? = wI.heap[b]?) (KK : ∀ b, b < wO.heap.size → wK.heap[b]? = wO.heap[b]?) (HZ : wK.heap[qm]? = some (.cells #[.int .i64 0, .slice none 0 0, .slice none 0 0, .slice none 0 0, .slice none 0 0, .slice none 0 0, .slice none 0 0] 26 (0, 0)))
    (hc : wI.heap.size ≤ wO.heap.size ∧ wO.heap.size ≤ wK.heap.size ∧ W.heap.size ≤ xI ∧ W.heap.size ≤ xO ∧ W.heap.size ≤ xK ∧ (∀ b, xI ≤ b → b < wI.heap.size → b ≠ qm ∧ b ≠ wK.heap.size) ∧ (∀ b, xO ≤ b → b < wO.heap.size → b ≠ qm ∧ b ≠ wK.heap.size) ∧ (∀ b, xK ≤ b → b < wK.heap.size → b ≠ qm ∧ b ≠ wK.heap.size) ∧ W.heap.size ≤ qm ∧ W.heap.size ≤ wK.heap.size ∧ qm ≠ wK.heap.size ∧ Below W.heap.size W wK) :
    ∃ q g a1 c1 a2 c2 a3 c3, Value.pointer (some ⟨qm, 0, none⟩) = .pointer (some ⟨q, 0, none⟩) ∧ PM W ((((((((wK.setCell ⟨qm, 0, none⟩ (.int .i64 (P + 1))).setCell ⟨qm, 1, none⟩ (.slice (some ⟨wK.heap.size, 0, none⟩) NP NP)).setCell ⟨qm, 2, none⟩ (.slice adI lI capI)).setCell ⟨qm, 3, none⟩ (.slice adO lO capO)).setCell ⟨qm, 4, none⟩ (.slice adK lK capK)).setCell ⟨qm, 5, none⟩ (vN)).setCell ⟨qm, 6, none⟩ (.slice none 0 0)).alloc ZF) P vN q g (List.replicate NP 0) I O K (.slice a1 lI c1) (.slice a2 lO c2) (.slice a3 lK c3) (.slice none 0 0) := by
  obtain ⟨c1, c2, c3, c4, c5, d1, d2, d3, e1, e2, e3, bl⟩ := hc
  have key : ∀ X : World, X.heap[qm]? = some (.cells #[.int .i64 (P + 1), .slice (some ⟨wK.heap.size, 0, none⟩) NP NP, .slice adI lI capI, .slice adO lO capO, .slice adK lK capK, vN, .slice none 0 0] 26 (0, 0)) → (∀ b, b ≠ qm → X.heap[b]? = wK.heap[b]?) → X.heap.size = wK.heap.size → Below W.heap.size W X → PM W (X.alloc ZF) P vN qm wK.heap.size (List.replicate NP 0) I O K (.slice adI lI capI) (.slice adO lO capO) (.slice adK lK capK) (.slice none 0 0) := fun X h1 h2 h3 hb =>
    pm_asm hZF rI rO rK KO KK c1 c2 (gcar _ h1) (by rw [← h3]; exact heap_alloc_new _ _) (by simp [h3]) (fun b hb hne => (Below.heap_alloc _ _ _ (by rw [h3]; exact hb)).trans (h2 b hne)) c3 c4 c5 d1 d2 d3 e1 e2 e3 (below_al hb)
  exact ⟨_, _, adI, capI, adO, capO, adK, capK, rfl, key _ (set7 HZ _ _ _ _ _ _ _).1 (set7 HZ _ _ _ _ _ _ _).2.1 (set7 HZ _ _ _ _ _ _ _).2.2 (((((((bl.setCell e1 _).setCell e1 _).setCell e1 _).setCell e1 _).setCell e1 _).setCell e1 _).setCell e1 _)⟩
theorem nb_set {w w4 : World} {n : Nt} {vF vI vO vK vN vC : Value} {y0 : Int} (y : Int) (X : NB w w4 n vF vI vO vK vN vC y0) : NB w (w4.setCell ⟨w.heap.size + 1, 0, none⟩ (.int .i64 y)) n vF vI vO vK vN vC y := by
  refine ⟨?_, ?_, ?_⟩
  · rw [Below.heap_setCell _ _ _ _ (by simp)]; exact X.box
  · exact set_cells (l := [.int .i64 y0]) X.byb 0 _
  · exact X.below.setCell (by simp) _

set_option maxRecDepth 100000 in
set_option maxHeartbeats 40000000 in
/-- the walk, but for the region that makes the new code's box: that is owed -/
def places_half := PLift.up (show PLift (_ : Prop) → ∀ (n : Nt) (y0 y : Int) (w : World) (vF vI vO vK vN vC vr : Value) (L : List Int) (more : List Sp) (h : NetV w.heap.size w n vF vI vO vK vN vC) (hn : Held n) (adm : Option Addr) (bM offM cm : Nat) (hm : more.length ≤ 20)
    (hma : (0 < more.length → adm = some ⟨bM, offM, none⟩ ∧ bM < w.heap.size) ∧ ∀ k, k < more.length → w.cell? ⟨bM, offM + k * 5 + 2, none⟩ = some (.int .i64 (more.getD k sp0).a) ∧ w.cell? ⟨bM, offM + k * 5 + 3, none⟩ = some (.int .i64 (more.getD k sp0).b))
    (hf : ∀ w', Below w.heap.size w w' → Calls Try.prog 5 #[vr] w' fun e w2 => e = .returned (.bool true) ∧ w2 = w') (hP : 0 < n.places) (hfn : FineN n)
    (hpk : ∀ w', Calls Try.prog 8 #[.int .i64 y0, .int .i64 n.places] w' fun e w2 => e = .returned (.int .i64 y) ∧ w2 = w') (hy : 0 ≤ y) (hy' : y < n.places)
    (ht : ∀ w', Below w.heap.size w w' → Calls Try.prog 7 #[.agg #[.int .i64 n.places, vF, vI, vO, vK, vN, vC], vr] w' fun e w2 => ∃ v, e = .returned (.tuple #[v, .bool true]) ∧ Hid (Ints (fun b => w'.heap.size ≤ b ∧ b < w2.heap.size) w2 v L ∧ Below w'.heap.size w' w2))
    (hLL : L.length ≤ 1000000)
    (htb : ∀ w' uF uI uO uK uN uC, Below w.heap.size w w' → NetV w'.heap.size w' (swN n y more) uF uI uO uK uN uC → Calls Try.prog 7 #[.agg #[.int .i64 (n.places + 1), uF, uI, uO, uK, uN, uC], vr] w' fun e w2 => ∃ v, e = .returned (.tuple #[v, .bool true]) ∧ Hid (Ints (fun b => w'.heap.size ≤ b ∧ b < w2.heap.size) w2 v L ∧ Below w'.heap.size w' w2)), Calls Try.prog 3 #[.agg #[.int .i64 n.places, vF, vI, vO, vK, vN, vC], .int .i64 y0, .slice adm more.length cm, vr] w fun e w' => e = .returned (.bool true) ∧ Below w.heap.size w w' from fun owed => by
  intro n y0 y w vF vI vO vK vN vC vr L more h hn adm bM offM cm hm hma hf hP hfn hpk hy hy' ht hLL htb
  obtain ⟨adN, bN, offN, capN, hvN, -, -⟩ := h.m
  subst hvN
  obtain ⟨adF, bF, offF, capF, hvF, hF1, hF2⟩ := h.f
  subst hvF
  obtain ⟨adC, bC, offC, capC, hvC, hC1, hC2⟩ := h.c
  subst hvC
  have HF12 : Hid ((0 < n.first.length → adF = some ⟨bF, offF, none⟩ ∧ bF < w.heap.size) ∧ ∀ k, k < n.first.length → w.cell? ⟨bF, offF + k, none⟩ = some (.int .i64 (n.first.getD k 0))) := ⟨hF1, hF2⟩
  have HC12 : Hid ((0 < n.code.length → adC = some ⟨bC, offC, none⟩ ∧ bC < w.heap.size) ∧ ∀ k, k < n.code.length → w.cell? ⟨bC, offC + k * 5, none⟩ = some (.int .i64 (n.code.getD k sp0).code) ∧ w.cell? ⟨bC, offC + k * 5 + 1, none⟩ = some (.int .i64 (n.code.getD k sp0).dst) ∧
      w.cell? ⟨bC, offC + k * 5 + 2, none⟩ = some (.int .i64 (n.code.getD k sp0).a) ∧ w.cell? ⟨bC, offC + k * 5 + 3, none⟩ = some (.int .i64 (n.code.getD k sp0).b) ∧ w.cell? ⟨bC, offC + k * 5 + 4, none⟩ = some (.int .i64 (n.code.getD k sp0).c)) := ⟨hC1, hC2⟩
  clear hF1 hF2 hC1 hC2
  have hh := held_nb n y0 w (.slice adF n.first.length capF) vI vO vK (.slice adN n.nums.length capN) (.slice adC n.code.length capC) true h (by simp [hn])
  have HF : Hid (∀ w', Below w.heap.size w w' → Calls Try.prog 5 #[vr] w' fun e w2 => e = .returned (.bool true) ∧ w2 = w') := hf
  have HT : Hid (∀ w', Below w.heap.size w w' → Calls Try.prog 7 #[.agg #[.int .i64 n.places, .slice adF n.first.length capF, vI, vO, vK, .slice adN n.nums.length capN, .slice adC n.code.length capC], vr] w' fun e w2 => ∃ v, e = .returned (.tuple #[v, .bool true]) ∧ Hid (Ints (fun b => w'.heap.size ≤ b ∧ b < w2.heap.size) w2 v L ∧ Below w'.heap.size w' w2)) := ht
  have HPK : Hid (∀ w', Calls Try.prog 8 #[.int .i64 y0, .int .i64 n.places] w' fun e w2 => e = .returned (.int .i64 y) ∧ w2 = w') := hpk
  have hpb : (n.places == 0) = false := by simp; omega
  have hpd : decide (n.places = 0) = false := by simp; omega
  have HFN : Hid (FineN n) := hfn
  have HLL : Hid (L.length ≤ 1000000) := hLL
  have HT2 : Hid (∀ w' uF uI uO uK uN uC, Below w.heap.size w w' → NetV w'.heap.size w' (swN n y more) uF uI uO uK uN uC → Calls Try.prog 7 #[.agg #[.int .i64 (n.places + 1), uF, uI, uO, uK, uN, uC], vr] w' fun e w2 => ∃ v, e = .returned (.tuple #[v, .bool true]) ∧ Hid (Ints (fun b => w'.heap.size ≤ b ∧ b < w2.heap.size) w2 v L ∧ Below w'.heap.size w' w2)) := htb
  have HMA : Hid ((0 < more.length → adm = some ⟨bM, offM, none⟩ ∧ bM < w.heap.size) ∧ ∀ k, k < more.length → w.cell? ⟨bM, offM + k * 5 + 2, none⟩ = some (.int .i64 (more.getD k sp0).a) ∧ w.cell? ⟨bM, offM + k * 5 + 3, none⟩ = some (.int .i64 (more.getD k sp0).b)) := hma
  have HNV : Hid (NetV w.heap.size w n (.slice adF n.first.length capF) vI vO vK (.slice adN n.nums.length capN) (.slice adC n.code.length capC)) := h
  have HHD : Hid (Held n) := hn
  clear h hn hf ht hpk hfn hma hLL htb
  go_enter Try.func3, Try.ntmps3
  go_upto_region 11 with (first
    | (go_at_call 4; refine hh.mono ?_; rintro e w1 ⟨rfl, X⟩; clear hh)
    | (go_at_call 5; refine (HF.out w1 X.out.below).mono ?_; rintro e w2 ⟨rfl, hw2⟩; obtain rfl := hw2.symm)
    | (go_at_call 6; refine (coded_at n y0 w (.slice adF n.first.length capF) vI vO vK (.slice adN n.nums.length capN) (.slice adC n.code.length capC) X.out).mono ?_; rintro e w3 ⟨rfl, X3⟩; obtain ⟨d0, d1, d2, d3, d4, d5, d6, b0⟩ := X3.out.cells)
    | (go_at_call 7; refine (HT.out w3 X3.out.below).mono ?_; rintro e w4 ⟨v4, rfl, B4⟩; have X4 : Hid (NB w w4 n (.slice adF n.first.length capF) vI vO vK (.slice adN n.nums.length capN) (.slice adC n.code.length capC) y0) := X3.out.next B4.out.2; clear d0 d1 d2 d3 d4 d5 d6 b0; obtain ⟨d0, d1, d2, d3, d4, d5, d6, b0⟩ := X4.out.cells; have z0 : w4.frozen? ⟨w.heap.size + 1, 0, none⟩ = false := frozen_cells X4.out.byb 0)
    | (go_at_call 8; refine (HPK.out w4).mono ?_; rintro e w5 ⟨rfl, hw5⟩; obtain rfl := hw5.symm))
  obtain ⟨W, hW⟩ : ∃ W, W = ((w4.setCell ⟨w.heap.size + 1, 0, none⟩ (.int .i64 y)).alloc (.cells #[.func (.func 9) #[] #[.pointer (some ⟨w.heap.size + 1, 0, none⟩), .pointer (some ⟨w.heap.size, 0, none⟩)]] 34)) := ⟨_, rfl⟩
  have hs4 : (w4.setCell ⟨w.heap.size + 1, 0, none⟩ (.int .i64 y)).heap.size = w4.heap.size := by simp [World.setCell]
  have HNB : Hid (NB w W n (.slice adF n.first.length capF) vI vO vK (.slice adN n.nums.length capN) (.slice adC n.code.length capC) y) := by unfold Hid; rw [hW]; exact (nb_set y X4.out).next (grown_one _ _)
  have HQT : Hid (W.heap[w4.heap.size]? = some (.cells #[toV (w.heap.size + 1) w.heap.size] 34 (0, 0))) := by
    unfold Hid; rw [hW, ← hs4]; exact heap_alloc_new _ _
  have hl4 : w.heap.size + 1 < w3.heap.size := lt_of_block X3.out.byb
  have HV4 : Hid (Ints (fun b => b < W.heap.size) W v4 L) := by
    unfold Hid
    refine B4.out.1.carry fun b hb hl => ⟨by rw [hW]; simp; omega, ?_⟩
    rw [hW, Below.heap_alloc _ _ _ (by omega), Below.heap_setCell _ _ _ _ (by simp; omega)]
  rw [← hW]
  clear hW hs4 hl4 d0 d1 d2 d3 d4 d5 d6 b0 z0 X X3 B4 X4
  obtain ⟨NP, hNP⟩ : ∃ NP : Nat, NP = (n.places + 1).toNat := ⟨_, rfl⟩
  have hp1 : n.places + 1 ≤ 301 := by have := HHD.out.1; omega
  have hwr : IntKind.i64.wrap (n.places + 1) = n.places + 1 := by rw [IntKind.wrap_i64]; omega
  obtain ⟨ZF, hZF⟩ : ∃ ZF : Obj, ZF = .cells (madeCells (Value.cells (.int .i64 0)) (NP * 1)) 2 := ⟨_, rfl⟩
  have E0 : ∀ X : World, (Instr.makeSlice 22 (.int .i64 (n.places + 1)) (.int .i64 (n.places + 1))).run Try.prog X = .ok (.slice (some ⟨X.heap.size, 0, none⟩) NP NP) (X.alloc ZF) := by
    intro X
    obtain ⟨i0, hi, hz0, hz1, hz2⟩ := info_parts Try.infoI64
    have := run_make (P := Try.prog) X 22 2 i0 (.int .i64 0) Try.underlying22 hi hz0 .i64 .i64 (n.places + 1) (n.places + 1) (by omega) (Int.le_refl _) (by rw [hz2]; omega) (by omega)
    rw [this, hz1, hZF, hNP]
  have HNP : Hid (NP = (n.places + 1).toNat) := hNP
  have HZF : Hid (ZF = .cells (madeCells (Value.cells (.int .i64 0)) (NP * 1)) 2) := hZF
  clear hNP hZF
  obtain ⟨c0, c1, c2, c3, c4, c5, c6, cb⟩ := HNB.out.cells
  have hdr : Below W.heap.size W W.drew := ⟨rfl, rfl, rfl, Nat.le_refl _, fun _ _ => rfl⟩
  have ct : W.cell? ⟨w4.heap.size, 0, none⟩ = some (toV (w.heap.size + 1) w.heap.size) := cell_row HQT.out 0
  have HNW : Hid (∀ X, Below W.heap.size W X → NetV w.heap.size X n (.slice adF n.first.length capF) vI vO vK (.slice adN n.nums.length capN) (.slice adC n.code.length capC)) := fun X hb => HNV.out.below ((HNB.out.below).trans (hb.mono HNB.out.below.size)) (Nat.le_refl _)
  have HAI : Hid (∀ X, Below W.heap.size W X → Calls Try.prog 10 #[vI, .pointer (some ⟨w4.heap.size, 0, none⟩)] X fun e w' => ∃ ad cap, e = .returned (.slice ad n.ins.length cap) ∧ Hid (Ints (fun b => X.heap.size ≤ b ∧ b < w'.heap.size) w' (.slice ad n.ins.length cap) (n.ins.map (toP n.places y)) ∧ Below X.heap.size X w')) := fun X hb =>
    all_pl n.places y (w.heap.size + 1) w.heap.size w4.heap.size vI n.ins X (cell_below hb cb) (cell_below hb c0) (cell_below hb ct) (by omega) hy hy' (HNW.out X hb).i (by have := HHD.out.2.2.1; omega) HFN.out.ins
  have HAO : Hid (∀ X, Below W.heap.size W X → Calls Try.prog 10 #[vO, .pointer (some ⟨w4.heap.size, 0, none⟩)] X fun e w' => ∃ ad cap, e = .returned (.slice ad n.outs.length cap) ∧ Hid (Ints (fun b => X.heap.size ≤ b ∧ b < w'.heap.size) w' (.slice ad n.outs.length cap) (n.outs.map (toP n.places y)) ∧ Below X.heap.size X w')) := fun X hb =>
    all_pl n.places y (w.heap.size + 1) w.heap.size w4.heap.size vO n.outs X (cell_below hb cb) (cell_below hb c0) (cell_below hb ct) (by omega) hy hy' (HNW.out X hb).o (by have := HHD.out.2.2.2.1; omega) HFN.out.outs
  have HAK : Hid (∀ X, Below W.heap.size W X → Calls Try.prog 10 #[vK, .pointer (some ⟨w4.heap.size, 0, none⟩)] X fun e w' => ∃ ad cap, e = .returned (.slice ad n.keeps.length cap) ∧ Hid (Ints (fun b => X.heap.size ≤ b ∧ b < w'.heap.size) w' (.slice ad n.keeps.length cap) (n.keeps.map (toP n.places y)) ∧ Below X.heap.size X w')) := fun X hb =>
    all_pl n.places y (w.heap.size + 1) w.heap.size w4.heap.size vK n.keeps X (cell_below hb cb) (cell_below hb c0) (cell_below hb ct) (by omega) hy hy' (HNW.out X hb).k (by have := HHD.out.2.2.2.2.1; omega) HFN.out.keeps
  have HKP : Hid (∀ X, Below W.heap.size W X → Below W.heap.size W X ∧ X.cell? ⟨w.heap.size, 0, none⟩ = some (.int .i64 n.places) ∧ X.cell? ⟨w.heap.size, 2, none⟩ = some vI ∧ X.cell? ⟨w.heap.size, 3, none⟩ = some vO ∧ X.cell? ⟨w.heap.size, 4, none⟩ = some vK ∧ X.cell? ⟨w.heap.size, 5, none⟩ = some (.slice adN n.nums.length capN)) := fun X hb =>
    ⟨hb, cell_below hb c0, cell_below hb c2, cell_below hb c3, cell_below hb c4, cell_below hb c5⟩
  have T1 : Hid True := trivial
  have T2 : Hid True := trivial
  have T3 : Hid True := trivial
  clear c1 c6 cb
  go_cut [13] (fun s13 wx => Hid (∃ qm gF adI capI adO capO adK capK, s13 = .pointer (some ⟨qm, 0, none⟩) ∧ PM W wx n.places (.slice adN n.nums.length capN) qm gF (List.replicate NP 0) (n.ins.map (toP n.places y)) (n.outs.map (toP n.places y)) (n.keeps.map (toP n.places y)) (.slice adI n.ins.length capI) (.slice adO n.outs.length capO) (.slice adK n.keeps.length capK) (.slice none 0 0)))
  case first =>
    rename_i Q0 q1 q2 K0 k0 J1 K1 j1 j2
    clear_value Q0
    clear T1 T2 T3 q1 q2 k0 hw2 hw5 HF12 HC12 HF HT HPK hpb hpd HFN HLL HT2 HMA HNV HHD HNB HQT HV4 HNW ct hm hP hy hy' hp1 HNP
    revert n y0 y w vI vO vK vr more adm cm adN capN adF capF adC capC Q0 w4 v4 K0 W NP ZF J1 K1
    exact owed.down
  case rest =>
    clear owed
    obtain ⟨qm, gF, adI, capI, adO, capO, adK, capK, rfl, PM0⟩ := hcut.out
    obtain ⟨VI, hVI⟩ : ∃ VI, VI = Value.slice adI n.ins.length capI := ⟨_, rfl⟩
    obtain ⟨VO, hVO⟩ : ∃ VO, VO = Value.slice adO n.outs.length capO := ⟨_, rfl⟩
    obtain ⟨VK, hVK⟩ : ∃ VK, VK = Value.slice adK n.keeps.length capK := ⟨_, rfl⟩
    have PM1 : Hid (PM W wc n.places (.slice adN n.nums.length capN) qm gF (firstW n.places y n.first 0) (n.ins.map (toP n.places y)) (n.outs.map (toP n.places y)) (n.keeps.map (toP n.places y)) VI VO VK (.slice none 0 0)) := by unfold Hid; rw [hVI, hVO, hVK, firstW, ← HNP.out]; exact PM0
    clear hcut PM0 hVI hVO hVK E0 HAI HAO HAK HKP T1 T2 T3 c2 c3 c4 c5 hdr
    have hPn : (n.places.toNat : Int) = n.places := by omega
    obtain ⟨p, hp⟩ : ∃ p : Nat, n.places = (p : Int) := ⟨n.places.toNat, hPn.symm⟩
    have HPP : Hid (n.places = (p : Int)) := hp
    have HFL : Hid (n.first.length = p) := by have := HFN.out.first; unfold Hid; omega
    clear hp hPn
    -- what is there still of all that was there at W
    have HWW : Hid (∀ X, Below W.heap.size W X → X.cell? ⟨w.heap.size, 0, none⟩ = some (.int .i64 n.places) ∧ X.cell? ⟨w.heap.size, 1, none⟩ = some (.slice adF n.first.length capF) ∧ X.cell? ⟨w.heap.size, 6, none⟩ = some (.slice adC n.code.length capC) ∧ X.cell? ⟨w4.heap.size, 0, none⟩ = some (.func (.func 9) #[] #[.pointer (some ⟨w.heap.size + 1, 0, none⟩), .pointer (some ⟨w.heap.size, 0, none⟩)]) ∧ X.cell? ⟨w.heap.size + 1, 0, none⟩ = some (.int .i64 y) ∧ Below w.heap.size w X) := fun X hb =>
      ⟨cell_below hb (HNB.out.cells).1, cell_below hb (HNB.out.cells).2.1, cell_below hb (HNB.out.cells).2.2.2.2.2.2.1, cell_below hb ct, cell_below hb (HNB.out.cells).2.2.2.2.2.2.2, HNB.out.below.trans (hb.mono HNB.out.below.size)⟩
    have HTO : Hid (∀ X q, Below W.heap.size W X → 0 ≤ q → q < n.places → Calls Try.prog 9 #[.int .i64 q, .pointer (some ⟨w.heap.size + 1, 0, none⟩), .pointer (some ⟨w.heap.size, 0, none⟩)] X fun e w' => e = .returned (.int .i64 (toP n.places y q)) ∧ w' = X) := fun X q hb h0 h1 =>
      to_any n.places y q (w.heap.size + 1) w.heap.size X (HWW.out X hb).2.2.2.2.1 (HWW.out X hb).1 (by omega) hy hy' h0 h1
    clear ct c0
    have d0 := (HWW.out wc PM1.out.bl).1
    go_wp2
    go_loopw [14] (fun i wr => ∃ k : Nat, k ≤ p ∧ i = .int .i64 k ∧ Hid (PM W wr n.places (.slice adN n.nums.length capN) qm gF (firstW n.places y n.first k) (n.ins.map (toP n.places y)) (n.outs.map (toP n.places y)) (n.keeps.map (toP n.places y)) VI VO VK (.slice none 0 0))) (fun i _ => p - (intOf i).toNat)
    case atStart => exact ⟨0, Nat.zero_le _, rfl, PM1.out⟩
    case round =>
      clear d0
      obtain ⟨k, hk, rfl, PMk⟩ := hrel
      obtain ⟨d0, d1, -, dt, -, dw⟩ := HWW.out wr PMk.out.bl
      have DW : Hid (Below w.heap.size w wr) := dw
      clear dw
      by_cases hlt : k < p
      · have hcmp : (k : Int) < n.places := by have := HPP.out; omega
        have hix := ix22 adF bF offF n.first.length capF k (by rw [HFL.out]; exact hlt) (fun h => (HF12.out.1 h).1)
        obtain ⟨x, hx⟩ : ∃ x, x = n.first.getD k 0 := ⟨_, rfl⟩
        have cx : wr.cell? ⟨bF, offF + k, none⟩ = some (.int .i64 x) := by
          have := HF12.out.2 k (by rw [HFL.out]; exact hlt)
          rw [hx, cell_of_block (DW.out.block bF (HF12.out.1 (by rw [HFL.out]; omega)).2)]; exact this
        have ht := toP_in n.places y (k : Int) hP
        obtain ⟨tn, htn⟩ : ∃ tn : Nat, toP n.places y (k : Int) = (tn : Int) := ⟨(toP n.places y (k : Int)).toNat, by omega⟩
        have HTN : Hid (toP n.places y (k : Int) = (tn : Int)) := htn
        have htl : tn < NP := by have := HNP.out; omega
        have hfl := firstW_len n.places y n.first k
        rw [← HNP.out] at hfl
        have cm : wr.cell? ⟨qm, 1, none⟩ = some (.slice (some ⟨gF, 0, none⟩) NP NP) := by rw [cell_row PMk.out.box, hfl]; rfl
        obtain ⟨g1, g2⟩ := PMk.out.cells tn (by rw [hfl]; exact htl)
        have hix2 := ix22 (some ⟨gF, 0, none⟩) gF 0 NP NP tn htl (fun _ => rfl)
        rw [Nat.zero_add] at hix2
        have hto := HTO.out wr.drew k PMk.out.bl.drew (by omega) (by omega)
        rw [htn] at hto
        have PMn : Hid (PM W (wr.drew.setCell ⟨gF, tn, none⟩ (.int .i64 x)) n.places (.slice adN n.nums.length capN) qm gF (firstW n.places y n.first (k + 1)) (n.ins.map (toP n.places y)) (n.outs.map (toP n.places y)) (n.keeps.map (toP n.places y)) VI VO VK (.slice none 0 0)) := by
          have := PMk.out.drew.set tn x (by rw [hfl]; exact htl)
          have e : firstW n.places y n.first (k + 1) = (firstW n.places y n.first k).set tn x := by rw [firstW, htn, put_in _ _ _ (by omega), ← hx]; simp
          unfold Hid; rw [e]; exact this
        have hfl2 := firstW_len n.places y n.first (k + 1)
        rw [← HNP.out] at hfl2
        have HSN : Hid ((wr.drew.setCell ⟨gF, tn, none⟩ (.int .i64 x)).cell? ⟨w.heap.size, 1, none⟩ = some (.slice adF n.first.length capF) ∧ (wr.drew.setCell ⟨gF, tn, none⟩ (.int .i64 x)).cell? ⟨w4.heap.size, 0, none⟩ = some (.func (.func 9) #[] #[.pointer (some ⟨w.heap.size + 1, 0, none⟩), .pointer (some ⟨w.heap.size, 0, none⟩)]) ∧ (wr.drew.setCell ⟨gF, tn, none⟩ (.int .i64 x)).cell? ⟨qm, 1, none⟩ = some (.slice (some ⟨gF, 0, none⟩) NP NP) ∧ (wr.drew.setCell ⟨gF, tn, none⟩ (.int .i64 x)).cell? ⟨bF, offF + k, none⟩ = some (.int .i64 x)) := by
          obtain ⟨-, e1, -, et, -, ew⟩ := HWW.out _ PMn.out.bl
          refine ⟨e1, et, by rw [cell_row PMn.out.box, hfl2]; rfl, ?_⟩
          rw [cell_of_block (ew.block bF (HF12.out.1 (by rw [HFL.out]; omega)).2), hx]; exact HF12.out.2 k (by rw [HFL.out]; exact hlt)
        clear ht htn hx hfl hfl2
        go_wp2_with fail
        go_region_held3 (fun w' => w'.cell? ⟨w.heap.size, 1, none⟩ = some (.slice adF n.first.length capF) ∧ w'.cell? ⟨w4.heap.size, 0, none⟩ = some (.func (.func 9) #[] #[.pointer (some ⟨w.heap.size + 1, 0, none⟩), .pointer (some ⟨w.heap.size, 0, none⟩)]) ∧ w'.cell? ⟨qm, 1, none⟩ = some (.slice (some ⟨gF, 0, none⟩) NP NP) ∧ w'.cell? ⟨bF, offF + k, none⟩ = some (.int .i64 x)) (first | exact HSN.out | go_keep)
          ((go_at_call 9; refine hto.mono ?_; rintro e w' ⟨rfl, rfl⟩))
        all_goals
          go_wp2_with fail
          go_roundw
          case rel => exact ⟨k + 1, by omega, by go_num, PMn.out⟩
          case measure => simp [intOf]; omega
      · have hcmp : ¬ (k : Int) < n.places := by have := HPP.out; omega
        obtain rfl : k = p := by omega
        obtain ⟨W2, hW2⟩ : ∃ W2, W2 = wr := ⟨_, rfl⟩
        have hfl := firstW_len n.places y n.first k
        rw [← HNP.out] at hfl
        have PM2 : Hid (PM W W2 n.places (.slice adN n.nums.length capN) qm gF (firstW n.places y n.first k) (n.ins.map (toP n.places y)) (n.outs.map (toP n.places y)) (n.keeps.map (toP n.places y)) VI VO VK (.slice none 0 0)) := by rw [hW2]; exact PMk.out
        have L20 : Hid (L2 W2 wr n.places (.slice adN n.nums.length capN) qm gF NP VI VO VK (.slice none 0 0) (codeW n.places y n.code more 0)) := ⟨by rw [hW2]; exact Fr.refl _ _ _, by have := PMk.out.box; rw [hfl] at this; exact this, World.ownsRow_nil _ _ _ _⟩
        have HQW : Hid (qm < W2.heap.size ∧ W.heap.size ≤ qm) := ⟨lt_of_block PM2.out.box, PM2.out.qW⟩
        have HBW : Hid (∀ X, Fr W2.heap.size [qm] W2 X → Below W.heap.size W X) := fun X hF => PM2.out.bl.trans (frBelow hF PM2.out.bl.size (by have := PM2.out.qW; simp; omega))
        clear hW2 PMk hfl d1 dt DW hlt hk
        obtain ⟨-, -, d6, -⟩ := HWW.out wr (HBW.out wr L20.out.fr)
        have hcb : n.code.length ≤ 120 := HHD.out.2.2.2.2.2.2
        go_wp2
        go_loopw [15] (fun i wr => ∃ j : Nat, j ≤ n.code.length ∧ i = .int .i64 j ∧ Hid (∃ v6, L2 W2 wr n.places (.slice adN n.nums.length capN) qm gF NP VI VO VK v6 (codeW n.places y n.code more j))) (fun i _ => n.code.length - (intOf i).toNat)
        case atStart => exact ⟨0, Nat.zero_le _, rfl, _, L20.out⟩
        case round =>
          clear L20 d6 d0
          obtain ⟨j, hj, rfl, LL⟩ := hrel
          obtain ⟨v6, L0⟩ : ∃ v6, Hid (L2 W2 wr n.places (.slice adN n.nums.length capN) qm gF NP VI VO VK v6 (codeW n.places y n.code more j)) := LL.out
          have hbW := HBW.out wr L0.out.fr
          have HBWR : Hid (Below W.heap.size W wr) := hbW
          obtain ⟨d0, -, d6, dt, -, dw⟩ := HWW.out wr hbW
          have DTX : Hid (Below w.heap.size w wr) := dw
          clear LL
          by_cases hlt : j < n.code.length
          · have hix := ix24 adC bC offC n.code.length capC j hlt (fun h => (HC12.out.1 h).1)
            obtain ⟨s, hs⟩ : ∃ s, s = n.code.getD j sp0 := ⟨_, rfl⟩
            have hb' : wr.heap[bC]? = w.heap[bC]? := dw.block bC (HC12.out.1 (by omega)).2
            obtain ⟨x0, x1, x2, x3, x4⟩ := HC12.out.2 j hlt
            rw [← cell_of_block hb', ← hs] at x0 x1 x2 x3 x4
            have hsf : stepE n.places n.nums.length s = 0 := by rw [hs]; exact HFN.out.code j hlt
            have HSF : Hid (stepE n.places n.nums.length s = 0) := hsf
            have HS : Hid (s = n.code.getD j sp0) := hs
            obtain ⟨q1, q2, q3, -, -⟩ := fine_step hsf
            have hdst := (isPl_iff _ _).1 q2
            have HQ1 : Hid (1 ≤ s.code ∧ s.code ≤ 17 ∧ s.code ≠ 3) := q1
            have HQ3 : Hid (∀ p ∈ asks s, 0 ≤ p ∧ p < n.places) := fun p hp => (isPl_iff _ _).1 (List.all_eq_true.1 q3 p hp)
            obtain ⟨m, hm'⟩ : ∃ m, m = (asks s).length := ⟨_, rfl⟩
            have HM : Hid (m = (asks s).length) := hm'
            have HPA : Hid ((0 < m → 0 ≤ s.a ∧ s.a < n.places) ∧ (1 < m → 0 ≤ s.b ∧ s.b < n.places) ∧ (2 < m → 0 ≤ s.c ∧ s.c < n.places)) := by
              unfold Hid
              rcases asks_cases s HQ1.out with ⟨_, ea⟩ | ⟨_, ea⟩ | ⟨_, ea⟩ | ⟨_, ea⟩
              all_goals
                have hq := HQ3.out
                rw [hm']
                rw [ea] at hq ⊢
                refine ⟨fun h => ?_, fun h => ?_, fun h => ?_⟩ <;> first | (simp at h; done) | exact hq _ (by simp)
            have hask : Calls Try.prog 11 #[.agg #[.int .i64 s.code, .int .i64 s.dst, .int .i64 s.a, .int .i64 s.b, .int .i64 s.c]] (wr.alloc (.cells #[.int .i64 s.code, .int .i64 s.dst, .int .i64 s.a, .int .i64 s.b, .int .i64 s.c] 37)) fun e w' => ∃ ad cap, e = .returned (.slice ad m cap) ∧ Hid (Below wr.heap.size wr w' ∧ w'.heap[wr.heap.size]? = some (.cells #[.int .i64 s.code, .int .i64 s.dst, .int .i64 s.a, .int .i64 s.b, .int .i64 s.c] 37 (0, 0))) :=
              (asks_any s.code s.dst s.a s.b s.c _).mono fun e w' ⟨v, he, ⟨ad, _, _, cap, hv, _, _⟩, hb⟩ => by
                subst hv
                rw [← hm'] at he
                exact ⟨ad, cap, he, ball (grown_one wr _) hb, (hb.block _ (by simp)).trans (heap_alloc_new _ _)⟩
            have DTW : Hid (Below w.heap.size w wr) := dw
            clear hs hb' hsf q1 q2 q3 dw hbW hm'
            go_upto_region 21 with (go_at_call 11; refine hask.mono ?_; rintro e w5 ⟨ada, capa, rfl, Y5⟩)
            have hb5 : Below W.heap.size W w5 := ball HBWR.out Y5.out.1
            obtain ⟨-, -, -, dt5, -, -⟩ := HWW.out w5 hb5
            obtain ⟨y0', y1', y2', y3', y4'⟩ : w5.cell? ⟨wr.heap.size, 0, none⟩ = some (.int .i64 s.code) ∧ w5.cell? ⟨wr.heap.size, 1, none⟩ = some (.int .i64 s.dst) ∧ w5.cell? ⟨wr.heap.size, 2, none⟩ = some (.int .i64 s.a) ∧ w5.cell? ⟨wr.heap.size, 3, none⟩ = some (.int .i64 s.b) ∧ w5.cell? ⟨wr.heap.size, 4, none⟩ = some (.int .i64 s.c) := ⟨cell_row Y5.out.2 0, cell_row Y5.out.2 1, cell_row Y5.out.2 2, cell_row Y5.out.2 3, cell_row Y5.out.2 4⟩
            have nq := World.new_ne w5 ⟨wr.heap.size, 0, none⟩ y0'
            have nt := World.new_ne w5 ⟨w4.heap.size, 0, none⟩ dt5
            obtain ⟨ts, hts⟩ : ∃ ts, ts = toP n.places y s.dst := ⟨_, rfl⟩
            have HTS : Hid (ts = toP n.places y s.dst) := hts
            obtain ⟨A1, hA1⟩ : ∃ A1, Hid (A1 = if 0 < m then toP n.places y s.a else s.a) := ⟨_, rfl⟩
            obtain ⟨B1, hB1⟩ : ∃ B1, Hid (B1 = if 1 < m then toP n.places y s.b else 0) := ⟨_, rfl⟩
            obtain ⟨C1, hC1⟩ : ∃ C1, Hid (C1 = if 2 < m then toP n.places y s.c else 0) := ⟨_, rfl⟩
            have HT3 : Hid (∀ X, Below W.heap.size W X → Calls Try.prog 9 #[.int .i64 s.dst, .pointer (some ⟨w.heap.size + 1, 0, none⟩), .pointer (some ⟨w.heap.size, 0, none⟩)] X fun e w' => e = .returned (.int .i64 ts) ∧ w' = X) := fun X hb => by rw [hts]; exact HTO.out X s.dst hb hdst.1 hdst.2
            clear hts d6 d0 x0 x1 x2 x3 x4 hix hask dt
            have hb5d := hb5.drew
            go_cut [18] (fun s18 wx => Hid (s18 = .pointer (some ⟨w5.heap.size, 0, none⟩) ∧ wx = (w5.alloc (.cells #[.int .i64 s.code, .int .i64 ts, .int .i64 s.a, .int .i64 0, .int .i64 0] 37)).drew))
            case first =>
              go_region_held3 (fun w' => w'.cell? ⟨wr.heap.size, 0, none⟩ = some (.int .i64 s.code) ∧ w'.cell? ⟨wr.heap.size, 1, none⟩ = some (.int .i64 s.dst) ∧ w'.cell? ⟨wr.heap.size, 2, none⟩ = some (.int .i64 s.a) ∧ w'.cell? ⟨w4.heap.size, 0, none⟩ = some (.func (.func 9) #[] #[.pointer (some ⟨w.heap.size + 1, 0, none⟩), .pointer (some ⟨w.heap.size, 0, none⟩)])) (go_keep)
                ((go_at_call 9; refine Calls.mono (HT3.out _ ?_) ?_; (first | (with_reducible exact hb5d) | (with_reducible exact below_ald hb5d)); rintro e w' ⟨rfl, rfl⟩))
              all_goals
                go_wp2_with fail
                go_meet
                case rel => exact ⟨rfl, rfl⟩
            case rest =>
              obtain ⟨hu18, hwc⟩ := hcut.out
              subst hu18
              subst hwc
              clear hcut
              go_upto_if 118 with fail
              go_cut [] (fun wx => Hid (wx = (w5.alloc (.cells #[.int .i64 s.code, .int .i64 ts, .int .i64 A1, .int .i64 0, .int .i64 0] 37)).drew))
              case first =>
                by_cases hm0 : 0 < m
                · have hm0' : (0 : Int) < (m : Int) := by omega
                  obtain ⟨h0, h1⟩ := HPA.out.1 hm0
                  have ht := HTO.out (w5.alloc (.cells #[.int .i64 s.code, .int .i64 ts, .int .i64 s.a, .int .i64 0, .int .i64 0] 37)).drew s.a (below_ald hb5d) h0 h1
                  have kt : (w5.alloc (.cells #[.int .i64 s.code, .int .i64 ts, .int .i64 s.a, .int .i64 0, .int .i64 0] 37)).cell? ⟨w4.heap.size, 0, none⟩ = some (.func (.func 9) #[] #[.pointer (some ⟨w.heap.size + 1, 0, none⟩), .pointer (some ⟨w.heap.size, 0, none⟩)]) := cell_below (grown_one _ _) dt5
                  have ky : (w5.alloc (.cells #[.int .i64 s.code, .int .i64 ts, .int .i64 s.a, .int .i64 0, .int .i64 0] 37)).cell? ⟨wr.heap.size, 2, none⟩ = some (.int .i64 s.a) := cell_below (grown_one _ _) y2'
                  have e : toP n.places y s.a = A1 := by rw [hA1.out, if_pos hm0]
                  rw [e] at ht
                  clear e
                  go_wp2_with (go_at_call 9; refine ht.mono ?_; rintro e w' ⟨rfl, rfl⟩)
                  go_meet
                  case rel => exact rfl
                · have hm0' : ¬ (0 : Int) < (m : Int) := by omega
                  have e : s.a = A1 := by rw [hA1.out, if_neg hm0]
                  go_wp2_with fail
                  go_meet
                  case rel => first | exact rfl | (show _ = _; rw [e])
              case rest =>
                obtain rfl := hcut.out
                clear hcut
                go_upto_if 125 with fail
                go_cut [] (fun wx => Hid (wx = (w5.alloc (.cells #[.int .i64 s.code, .int .i64 ts, .int .i64 A1, .int .i64 B1, .int .i64 0] 37)).drew))
                case first =>
                  by_cases hm0 : 1 < m
                  · have hm0' : (1 : Int) < (m : Int) := by omega
                    obtain ⟨h0, h1⟩ := HPA.out.2.1 hm0
                    have ht := HTO.out (w5.alloc (.cells #[.int .i64 s.code, .int .i64 ts, .int .i64 A1, .int .i64 0, .int .i64 0] 37)).drew s.b (below_ald hb5d) h0 h1
                    have kt : (w5.alloc (.cells #[.int .i64 s.code, .int .i64 ts, .int .i64 A1, .int .i64 0, .int .i64 0] 37)).cell? ⟨w4.heap.size, 0, none⟩ = some (.func (.func 9) #[] #[.pointer (some ⟨w.heap.size + 1, 0, none⟩), .pointer (some ⟨w.heap.size, 0, none⟩)]) := cell_below (grown_one _ _) dt5
                    have ky : (w5.alloc (.cells #[.int .i64 s.code, .int .i64 ts, .int .i64 A1, .int .i64 0, .int .i64 0] 37)).cell? ⟨wr.heap.size, 3, none⟩ = some (.int .i64 s.b) := cell_below (grown_one _ _) y3'
                    have e : toP n.places y s.b = B1 := by rw [hB1.out, if_pos hm0]
                    rw [e] at ht
                    clear e
                    go_wp2_with (go_at_call 9; refine ht.mono ?_; rintro e w' ⟨rfl, rfl⟩)
                    go_meet
                    case rel => exact rfl
                  · have hm0' : ¬ (1 : Int) < (m : Int) := by omega
                    have e : 0 = B1 := by rw [hB1.out, if_neg hm0]
                    go_wp2_with fail
                    go_meet
                    case rel => first | exact rfl | (show _ = _; rw [← e])
                case rest =>
                  obtain rfl := hcut.out
                  clear hcut
                  go_upto_if 132 with fail
                  go_cut [] (fun wx => Hid (wx = (w5.alloc (.cells #[.int .i64 s.code, .int .i64 ts, .int .i64 A1, .int .i64 B1, .int .i64 C1] 37)).drew))
                  case first =>
                    by_cases hm0 : 2 < m
                    · have hm0' : (2 : Int) < (m : Int) := by omega
                      obtain ⟨h0, h1⟩ := HPA.out.2.2 hm0
                      have ht := HTO.out (w5.alloc (.cells #[.int .i64 s.code, .int .i64 ts, .int .i64 A1, .int .i64 B1, .int .i64 0] 37)).drew s.c (below_ald hb5d) h0 h1
                      have kt : (w5.alloc (.cells #[.int .i64 s.code, .int .i64 ts, .int .i64 A1, .int .i64 B1, .int .i64 0] 37)).cell? ⟨w4.heap.size, 0, none⟩ = some (.func (.func 9) #[] #[.pointer (some ⟨w.heap.size + 1, 0, none⟩), .pointer (some ⟨w.heap.size, 0, none⟩)]) := cell_below (grown_one _ _) dt5
                      have ky : (w5.alloc (.cells #[.int .i64 s.code, .int .i64 ts, .int .i64 A1, .int .i64 B1, .int .i64 0] 37)).cell? ⟨wr.heap.size, 4, none⟩ = some (.int .i64 s.c) := cell_below (grown_one _ _) y4'
                      have e : toP n.places y s.c = C1 := by rw [hC1.out, if_pos hm0]
                      rw [e] at ht
                      clear e
                      go_wp2_with (go_at_call 9; refine ht.mono ?_; rintro e w' ⟨rfl, rfl⟩)
                      go_meet
                      case rel => exact rfl
                    · have hm0' : ¬ (2 : Int) < (m : Int) := by omega
                      have e : 0 = C1 := by rw [hC1.out, if_neg hm0]
                      go_wp2_with fail
                      go_meet
                      case rel => first | exact rfl | (show _ = _; rw [← e])
                  case rest =>
                    obtain rfl := hcut.out
                    clear hcut
                    obtain ⟨W6, hW6⟩ : ∃ W6, W6 = (w5.alloc (.cells #[.int .i64 s.code, .int .i64 ts, .int .i64 A1, .int .i64 B1, .int .i64 C1] 37)).drew := ⟨_, rfl⟩
                    have hb6 : Below wr.heap.size wr W6 := by rw [hW6]; exact (ball Y5.out.1 (grown_one _ _)).drew
                    have hy6 : W6.heap[w5.heap.size]? = some (.cells #[.int .i64 s.code, .int .i64 ts, .int .i64 A1, .int .i64 B1, .int .i64 C1] 37 (0, 0)) := by rw [hW6]; exact heap_alloc_new w5 _
                    rw [← hW6]
                    clear hW6 y0' y1' y2' y3' y4' nq nt dt5 hb5d hb5
                    have L6 : Hid (L2 W2 W6 n.places (.slice adN n.nums.length capN) qm gF NP VI VO VK v6 (codeW n.places y n.code more j)) := L0.out.below hb6
                    have hcl := codeW_len n.places y n.code more j
                    have hcl' : (codeW n.places y n.code more j).length ≤ 1000 := by have := HHD.out.2.2.2.2.2.2; omega
                    obtain ⟨l, hl⟩ : ∃ l, l = codeW n.places y n.code more j := ⟨_, rfl⟩
                    rw [← hl] at L6 hcl'
                    have HL : Hid (l = codeW n.places y n.code more j) := hl
                    clear hcl hl
                    obtain ⟨e0, e1, e2, e3, e4⟩ : W6.cell? ⟨w5.heap.size, 0, none⟩ = some (.int .i64 s.code) ∧ W6.cell? ⟨w5.heap.size, 1, none⟩ = some (.int .i64 ts) ∧ W6.cell? ⟨w5.heap.size, 2, none⟩ = some (.int .i64 A1) ∧ W6.cell? ⟨w5.heap.size, 3, none⟩ = some (.int .i64 B1) ∧ W6.cell? ⟨w5.heap.size, 4, none⟩ = some (.int .i64 C1) := ⟨cell_row hy6 0, cell_row hy6 1, cell_row hy6 2, cell_row hy6 3, cell_row hy6 4⟩
                    have m6 : W6.cell? ⟨qm, 6, none⟩ = some v6 := cell_row L6.out.box 6
                    have L7 := L6.out.below (grown_one W6 (.cells #[.int .i64 s.code, .int .i64 ts, .int .i64 A1, .int .i64 B1, .int .i64 C1] 37))
                    obtain ⟨g8, cap8, w8, E8, m8, f8, -, L8⟩ := L7.app HQW.out.1 ⟨s.code, ts, A1, B1, C1⟩ W6.heap.size (heap_alloc_new _ _) (by omega)
                    have L8 : Hid (L2 W2 (w8.setCell ⟨qm, 6, none⟩ (.slice (some ⟨g8, 0, none⟩) (l.length + 1) cap8)) n.places (.slice adN n.nums.length capN) qm gF NP VI VO VK (.slice (some ⟨g8, 0, none⟩) (l.length + 1) cap8) (l ++ [⟨s.code, ts, A1, B1, C1⟩])) := L8
                    have HSW : Hid ((⟨s.code, ts, A1, B1, C1⟩ : Sp) = swS n.places y s) := by unfold Hid swS; rw [HTS.out, hA1.out, hB1.out, hC1.out, ← HM.out]
                    clear L7 hy6
                    go_upto_region 29 with (at_builtin; refine wpList_app rfl (.tmp 139) (.tmp 141) _ rfl _ _ _ rfl rfl E8 ?_)
                    obtain ⟨W9, hW9⟩ : ∃ W9, W9 = w8.setCell ⟨qm, 6, none⟩ (.slice (some ⟨g8, 0, none⟩) (l.length + 1) cap8) := ⟨_, rfl⟩
                    rw [← hW9] at L8 ⊢
                    clear hW9 e0 e1 e2 e3 e4 m6 m8 f8 E8 hb6 Y5 L6 L0
                    by_cases hmo : j < more.length
                    · have hmo' : (j : Int) < (more.length : Int) := by omega
                      have hbW9 := HBW.out W9 L8.out.fr
                      obtain ⟨d0, -, -, -, -, dw⟩ := HWW.out W9 hbW9
                      have hixm := ix24 adm bM offM more.length cm j hmo (fun h => (HMA.out.1 h).1)
                      obtain ⟨z, hz⟩ : ∃ z, z = more.getD j sp0 := ⟨_, rfl⟩
                      obtain ⟨z2, z3⟩ := HMA.out.2 j hmo
                      have hbm : W9.heap[bM]? = w.heap[bM]? := dw.block bM (HMA.out.1 (by omega)).2
                      rw [← cell_of_block hbm, ← hz] at z2 z3
                      have HZZ : Hid (z = more.getD j sp0) := hz
                      have k6 : W9.cell? ⟨qm, 6, none⟩ = some (.slice (some ⟨g8, 0, none⟩) (l.length + 1) cap8) := cell_row L8.out.box 6
                      have hpk1 := pick_any z.a (n.places + 1) W9.drew (by omega) (by omega)
                      have hpk2 := pick_any z.b n.places W9.drew hP (by omega)
                      obtain ⟨pa, hpa⟩ : ∃ pa, pa = z.a % 18446744073709551616 % (n.places + 1) := ⟨_, rfl⟩
                      obtain ⟨pb, hpb2⟩ : ∃ pb, pb = z.b % 18446744073709551616 % n.places := ⟨_, rfl⟩
                      rw [← hpa] at hpk1
                      rw [← hpb2] at hpk2
                      have HEX : Hid ((⟨6, n.places, pa, pb, 0⟩ : Sp) = exS n.places z) := by unfold Hid exS; rw [hpa, hpb2]
                      have hdr9 : Below W9.heap.size W9 W9.drew := ⟨rfl, rfl, rfl, Nat.le_refl _, fun _ _ => rfl⟩
                      have L9 := (L8.out.below hdr9).below (grown_one W9.drew (.cells #[.int .i64 6, .int .i64 n.places, .int .i64 pa, .int .i64 pb, .int .i64 0] 37))
                      have hll : (l ++ [(⟨s.code, ts, A1, B1, C1⟩ : Sp)]).length = l.length + 1 := by simp
                      obtain ⟨gX, capX, wX, EX, mX, fX, FX, LX⟩ := L9.app HQW.out.1 ⟨6, n.places, pa, pb, 0⟩ W9.drew.heap.size (heap_alloc_new _ _) (by rw [hll]; omega)
                      rw [hll] at EX LX
                      have LX : Hid (L2 W2 (wX.setCell ⟨qm, 6, none⟩ (.slice (some ⟨gX, 0, none⟩) (l.length + 1 + 1) capX)) n.places (.slice adN n.nums.length capN) qm gF NP VI VO VK (.slice (some ⟨gX, 0, none⟩) (l.length + 1 + 1) capX) (l ++ [⟨s.code, ts, A1, B1, C1⟩] ++ [⟨6, n.places, pa, pb, 0⟩])) := LX
                      have HS0 : Hid (∀ X, Below W.heap.size W X → Below w.heap.size w X → X.cell? ⟨w.heap.size, 0, none⟩ = some (.int .i64 n.places) ∧ X.cell? ⟨bM, offM + j * 5 + 2, none⟩ = some (.int .i64 z.a) ∧ X.cell? ⟨bM, offM + j * 5 + 3, none⟩ = some (.int .i64 z.b)) := fun X h1 h2 => ⟨(HWW.out X h1).1, by
                        have := (HMA.out.2 j hmo).1
                        rw [cell_of_block (h2.block bM (HMA.out.1 (by omega)).2), HZZ.out]; exact this, by
                        have := (HMA.out.2 j hmo).2
                        rw [cell_of_block (h2.block bM (HMA.out.1 (by omega)).2), HZZ.out]; exact this⟩
                      have HB9 : Hid (Below W.heap.size W W9) := hbW9
                      have hwr1 : IntKind.i64.wrap (n.places + 1) = n.places + 1 := by rw [IntKind.wrap_i64]; omega
                      clear hz hbm hpa hpb2 L9 hll hdr9 hbW9
                      have T1 : Hid True := trivial
                      have f6 : W9.frozen? ⟨qm, 6, none⟩ = false := frozen_cells L8.out.box 6
                      have e : codeW n.places y n.code more (j + 1) = l ++ [⟨s.code, ts, A1, B1, C1⟩] ++ [⟨6, n.places, pa, pb, 0⟩] := by rw [codeW, if_pos hmo, HL.out, HSW.out, HS.out, HEX.out, HZZ.out]
                      have LE : Hid (∃ v, L2 W2 (wX.setCell ⟨qm, 6, none⟩ (.slice (some ⟨gX, 0, none⟩) (l.length + 1 + 1) capX)) n.places (.slice adN n.nums.length capN) qm gF NP VI VO VK v (codeW n.places y n.code more (j + 1))) := ⟨_, by rw [e]; exact LX.out⟩
                      clear e
                      have nqm := World.new_ne W9 ⟨qm, 6, none⟩ k6
                      have HSD : Hid (W9.drew.cell? ⟨w.heap.size, 0, none⟩ = some (.int .i64 n.places) ∧ W9.drew.cell? ⟨bM, offM + j * 5 + 2, none⟩ = some (.int .i64 z.a) ∧ W9.drew.cell? ⟨bM, offM + j * 5 + 3, none⟩ = some (.int .i64 z.b)) := HS0.out _ HB9.out.drew (HWW.out _ HB9.out).2.2.2.2.2.drew
                      have HSA : Hid ((W9.alloc (.cells #[.int .i64 6, .int .i64 n.places, .int .i64 pa, .int .i64 pb, .int .i64 0] 37)).drew.cell? ⟨w.heap.size, 0, none⟩ = some (.int .i64 n.places) ∧ (W9.alloc (.cells #[.int .i64 6, .int .i64 n.places, .int .i64 pa, .int .i64 pb, .int .i64 0] 37)).drew.cell? ⟨bM, offM + j * 5 + 2, none⟩ = some (.int .i64 z.a) ∧ (W9.alloc (.cells #[.int .i64 6, .int .i64 n.places, .int .i64 pa, .int .i64 pb, .int .i64 0] 37)).drew.cell? ⟨bM, offM + j * 5 + 3, none⟩ = some (.int .i64 z.b)) := HS0.out _ (below_al HB9.out).drew (HWW.out _ (below_al HB9.out).drew).2.2.2.2.2
                      have HSX : Hid (wX.cell? ⟨w.heap.size, 0, none⟩ = some (.int .i64 n.places) ∧ wX.cell? ⟨bM, offM + j * 5 + 2, none⟩ = some (.int .i64 z.a) ∧ wX.cell? ⟨bM, offM + j * 5 + 3, none⟩ = some (.int .i64 z.b)) := HS0.out _ (HBW.out wX FX) (HWW.out _ (HBW.out wX FX)).2.2.2.2.2
                      have HSF : Hid ((wX.setCell ⟨qm, 6, none⟩ (.slice (some ⟨gX, 0, none⟩) (l.length + 1 + 1) capX)).cell? ⟨w.heap.size, 0, none⟩ = some (.int .i64 n.places) ∧ (wX.setCell ⟨qm, 6, none⟩ (.slice (some ⟨gX, 0, none⟩) (l.length + 1 + 1) capX)).cell? ⟨bM, offM + j * 5 + 2, none⟩ = some (.int .i64 z.a) ∧ (wX.setCell ⟨qm, 6, none⟩ (.slice (some ⟨gX, 0, none⟩) (l.length + 1 + 1) capX)).cell? ⟨bM, offM + j * 5 + 3, none⟩ = some (.int .i64 z.b)) := HS0.out _ (HBW.out _ LX.out.fr) (HWW.out _ (HBW.out _ LX.out.fr)).2.2.2.2.2
                      go_wp2_with fail
                      refine wp_region_noPanic ?_
                      refine wp_region_held_drew (S := fun w' => w'.cell? ⟨w.heap.size, 0, none⟩ = some (.int .i64 n.places) ∧ w'.cell? ⟨bM, offM + j * 5 + 2, none⟩ = some (.int .i64 z.a) ∧ w'.cell? ⟨bM, offM + j * 5 + 3, none⟩ = some (.int .i64 z.b)) (by as_aux_lemma => kernel_rfl) HSD.out (fun hHeld => ?_)
                      refine wpAnyH_take (i := 0) (v := ?_) rfl (by as_aux_lemma => kernel_rfl) (by as_aux_lemma => kernel_rfl) (by as_aux_lemma => kernel_rfl) (fun _ _ _ h => h) (Or.inl ⟨by rfl, ?_⟩) (by assumption) ?_
                      rotate_left 1
                      · (intro wz hSw; (try dsimp only at hSw); go_simp; (try with_reducible rfl))
                      (try simp only [Act.put, List.setIfInBounds_toArray])
                      refine wpAnyH_take (i := 2) (v := ?_) rfl (by as_aux_lemma => kernel_rfl) (by as_aux_lemma => kernel_rfl) (by as_aux_lemma => kernel_rfl) (fun _ _ _ h => h) (Or.inl ⟨by rfl, ?_⟩) (by assumption) ?_
                      rotate_left 1
                      · (intro wz hSw; (try dsimp only at hSw); go_simp; (try with_reducible rfl))
                      (try simp only [Act.put])
                      refine wpAnyH_take (i := 3) (v := ?_) rfl (by as_aux_lemma => kernel_rfl) (by as_aux_lemma => kernel_rfl) (by as_aux_lemma => kernel_rfl) (fun _ _ _ h => h) (Or.inl ⟨by rfl, ?_⟩) (by assumption) ?_
                      rotate_left 1
                      · (intro wz hSw; (try dsimp only at hSw); go_simp; (try with_reducible rfl))
                      (try simp only [Act.put])
                      refine wpAnyH_take (i := 4) (v := ?_) rfl (by as_aux_lemma => kernel_rfl) (by as_aux_lemma => kernel_rfl) (by as_aux_lemma => kernel_rfl) (fun _ _ _ h => h) (Or.inl ⟨by rfl, ?_⟩) (by assumption) ?_
                      rotate_left 1
                      · (intro wz hSw; (try dsimp only at hSw); go_simp; (try with_reducible rfl))
                      (try simp only [Act.put])
                      refine wpAnyH_take (i := 5) (v := ?_) rfl (by as_aux_lemma => kernel_rfl) (by as_aux_lemma => kernel_rfl) (by as_aux_lemma => kernel_rfl) (fun _ _ _ h => h) (Or.inl ⟨by rfl, ?_⟩) (by assumption) ?_
                      rotate_left 1
                      · (intro wz hSw; (try dsimp only at hSw); go_simp; (try with_reducible rfl))
                      (try simp only [Act.put])
                      refine wpAnyH_take (i := 6) (v := ?_) rfl (by as_aux_lemma => kernel_rfl) (by as_aux_lemma => kernel_rfl) (by as_aux_lemma => kernel_rfl) (fun _ _ _ h => h) (Or.inl ⟨by rfl, ?_⟩) (by assumption) ?_
                      rotate_left 1
                      · (intro wz hSw; (try dsimp only at hSw); go_simp; (try with_reducible rfl))
                      (try simp only [Act.put])
                      refine wpAnyH_take (i := 7) (v := ?_) rfl (by as_aux_lemma => kernel_rfl) (by as_aux_lemma => kernel_rfl) (by as_aux_lemma => kernel_rfl) (fun _ _ _ h => h) (Or.inl ⟨by rfl, ?_⟩) (by assumption) ?_
                      rotate_left 1
                      · (intro wz hSw; (try dsimp only at hSw); go_simp; (try with_reducible rfl))
                      (try simp only [Act.put])
                      refine wpAnyH_take (i := 8) (v := ?_) rfl (by as_aux_lemma => kernel_rfl) (by as_aux_lemma => kernel_rfl) (by as_aux_lemma => kernel_rfl) (fun _ _ _ h => h) (Or.inl ⟨by rfl, ?_⟩) (by assumption) ?_
                      rotate_left 1
                      · (intro wz hSw; (try dsimp only at hSw); go_simp; (try with_reducible rfl))
                      (try simp only [Act.put])
                      refine wpAnyH_take (i := 9) (v := ?_) rfl (by as_aux_lemma => kernel_rfl) (by as_aux_lemma => kernel_rfl) (by as_aux_lemma => kernel_rfl) (fun _ _ _ h => h) (Or.inl ⟨by rfl, ?_⟩) (by assumption) ?_
                      rotate_left 1
                      · (intro wz hSw; (try dsimp only at hSw); go_simp; (try with_reducible rfl))
                      (try simp only [Act.put])
                      refine wpAnyH_take (i := 10) (v := ?_) rfl (by as_aux_lemma => kernel_rfl) (by as_aux_lemma => kernel_rfl) (by as_aux_lemma => kernel_rfl) (fun _ _ _ h => h) (Or.inl ⟨by rfl, ?_⟩) (by assumption) ?_
                      rotate_left 1
                      · (intro wz hSw; (try dsimp only at hSw); go_simp; (try with_reducible rfl))
                      (try simp only [Act.put])
                      refine wpAnyH_take (i := 11) (v := ?_) rfl (by as_aux_lemma => kernel_rfl) (by as_aux_lemma => kernel_rfl) (by as_aux_lemma => kernel_rfl) (fun _ _ _ h => h) (Or.inl ⟨by rfl, ?_⟩) (by assumption) ?_
                      rotate_left 1
                      · (intro wz hSw; (try dsimp only at hSw); go_simp; (try with_reducible rfl))
                      (try simp only [Act.put])
                      refine wpAnyH_take (i := 13) (v := ?_) rfl (by as_aux_lemma => kernel_rfl) (by as_aux_lemma => kernel_rfl) (by as_aux_lemma => kernel_rfl) (fun _ _ _ h => h) (Or.inl ⟨by rfl, ?_⟩) (by assumption) ?_
                      rotate_left 1
                      · (intro wz hSw; (try dsimp only at hSw); go_simp; (try with_reducible rfl))
                      (try simp only [Act.put])
                      refine wpAnyH_take (i := 14) (v := ?_) rfl (by as_aux_lemma => kernel_rfl) (by as_aux_lemma => kernel_rfl) (by as_aux_lemma => kernel_rfl) (fun _ _ _ h => h) (Or.inl ⟨by rfl, ?_⟩) (by assumption) ?_
                      rotate_left 1
                      · (intro wz hSw; (try dsimp only at hSw); go_simp; (try with_reducible rfl))
                      (try simp only [Act.put])
                      refine wpAnyH_take (i := 15) (v := ?_) rfl (by as_aux_lemma => kernel_rfl) (by as_aux_lemma => kernel_rfl) (by as_aux_lemma => kernel_rfl) (fun _ _ _ h => h) (Or.inl ⟨by rfl, ?_⟩) (by assumption) ?_
                      rotate_left 1
                      · (intro wz hSw; (try dsimp only at hSw); go_simp; (try with_reducible rfl))
                      (try simp only [Act.put])
                      refine wpAnyH_take (i := 16) (v := ?_) rfl (by as_aux_lemma => kernel_rfl) (by as_aux_lemma => kernel_rfl) (by as_aux_lemma => kernel_rfl) (fun _ _ _ h => h) (Or.inl ⟨by rfl, ?_⟩) (by assumption) ?_
                      rotate_left 1
                      · (intro wz hSw; (try dsimp only at hSw); go_simp; (try with_reducible rfl))
                      (try simp only [Act.put])
                      refine wpAnyH_take (i := 17) (v := ?_) rfl (by as_aux_lemma => kernel_rfl) (by as_aux_lemma => kernel_rfl) (by as_aux_lemma => kernel_rfl) (fun _ _ _ h => h) (Or.inl ⟨by rfl, ?_⟩) (by assumption) ?_
                      rotate_left 1
                      · (intro wz hSw; (try dsimp only at hSw); go_simp; (try with_reducible rfl))
                      (try simp only [Act.put])
                      refine wpAnyH_take (i := 18) (v := ?_) rfl (by as_aux_lemma => kernel_rfl) (by as_aux_lemma => kernel_rfl) (by as_aux_lemma => kernel_rfl) (fun _ _ _ h => h) (Or.inl ⟨by rfl, ?_⟩) (by assumption) ?_
                      rotate_left 1
                      · (intro wz hSw; (try dsimp only at hSw); go_simp; (try with_reducible rfl))
                      (try simp only [Act.put])
                      refine wpAnyH_take (i := 19) (v := ?_) rfl (by as_aux_lemma => kernel_rfl) (by as_aux_lemma => kernel_rfl) (by as_aux_lemma => kernel_rfl) (fun _ _ _ h => h) (Or.inl ⟨by rfl, ?_⟩) (by assumption) ?_
                      rotate_left 1
                      · (intro wz hSw; (try dsimp only at hSw); go_simp; (try with_reducible rfl))
                      (try simp only [Act.put])
                      refine wpAnyH_ready (rs := [1, 12]) (by as_aux_lemma => kernel_rfl) (by simp) ?_
                      refine AllReadyH.cons rfl (fun K hK => ?_) ?_
                      ·
                        go_simp
                        refine hK.out _ _ ?_ (fun hHeld => ?_)
                        · (try dsimp only); (first | assumption | exact HSA.out | exact HSX.out | exact HSF.out)
                        clear hK K
                        (try simp only [Act.put, List.setIfInBounds_toArray, List.set_cons_zero, List.set_cons_succ])
                        refine wpAnyH_ready (rs := [12]) (by as_aux_lemma => kernel_rfl) (by simp) ?_
                        refine AllReadyH.cons rfl (fun K hK => ?_) ?_
                        ·
                          go_simp
                          go_at_call 8
                          refine hpk1.mono ?_
                          rintro e w' ⟨rfl, rfl⟩
                          (try go_wp2_with fail)
                          refine hK.out _ _ ?_ (fun hHeld => ?_)
                          · (try dsimp only); (first | assumption | exact HSA.out | exact HSX.out | exact HSF.out)
                          clear hK K
                          (try simp only [Act.put, List.setIfInBounds_toArray, List.set_cons_zero, List.set_cons_succ])
                          refine wpAnyH_ready (rs := [20]) (by as_aux_lemma => kernel_rfl) (by simp) ?_
                          refine AllReadyH.cons rfl (fun K hK => ?_) ?_
                          ·
                            go_simp
                            go_at_call 8
                            refine hpk2.mono ?_
                            rintro e w' ⟨rfl, rfl⟩
                            (try go_wp2_with fail)
                            refine hK.out _ _ ?_ (fun hHeld => ?_)
                            · (try dsimp only); (first | assumption | exact HSA.out | exact HSX.out | exact HSF.out)
                            clear hK K
                            (try simp only [Act.put, List.setIfInBounds_toArray, List.set_cons_zero, List.set_cons_succ])
                            refine wpAnyH_take (i := 21) (v := ?_) rfl (by as_aux_lemma => kernel_rfl) (by as_aux_lemma => kernel_rfl) (by as_aux_lemma => kernel_rfl) (fun _ _ _ h => h) (Or.inl ⟨by rfl, ?_⟩) (by assumption) ?_
                            rotate_left 1
                            · (intro wz hSw; (try dsimp only at hSw); go_simp; (try with_reducible rfl))
                            (try simp only [Act.put, List.setIfInBounds_toArray])
                            refine wpAnyH_ready (rs := [22]) (by as_aux_lemma => kernel_rfl) (by simp) ?_
                            refine AllReadyH.cons rfl (fun K hK => ?_) ?_
                            ·
                              go_simp
                              refine hK.out _ _ ?_ (fun hHeld => ?_)
                              · (try dsimp only); (first | assumption | exact HSA.out | exact HSX.out | exact HSF.out)
                              clear hK K
                              (try simp only [Act.put, List.setIfInBounds_toArray, List.set_cons_zero, List.set_cons_succ])
                              refine wpAnyH_ready (rs := [23]) (by as_aux_lemma => kernel_rfl) (by simp) ?_
                              refine AllReadyH.cons rfl (fun K hK => ?_) ?_
                              ·
                                refine step_app (by rfl) (.tmp 149) (.tmp 170) _ (by rfl) _ _ _ (by rfl) (by rfl) EX ?_
                                refine hK.out _ _ ?_ (fun hHeld => ?_)
                                · (try dsimp only); (first | assumption | exact HSA.out | exact HSX.out | exact HSF.out)
                                clear hK K
                                (try simp only [Act.put, List.setIfInBounds_toArray])
                                refine wpAnyH_take (i := 24) (v := ?_) rfl (by as_aux_lemma => kernel_rfl) (by as_aux_lemma => kernel_rfl) (by as_aux_lemma => kernel_rfl) (fun _ _ _ h => h) (Or.inl ⟨by rfl, ?_⟩) (by assumption) ?_
                                rotate_left 1
                                · (intro wz hSw; (try dsimp only at hSw); go_simp; (try with_reducible rfl))
                                (try simp only [Act.put])
                                refine wpAnyH_ready (rs := [25]) (by as_aux_lemma => kernel_rfl) (by simp) ?_
                                refine AllReadyH.cons rfl (fun K hK => ?_) ?_
                                ·
                                  go_simp
                                  refine hK.out _ _ ?_ (fun hHeld => ?_)
                                  · (try dsimp only); (first | assumption | exact HSA.out | exact HSX.out | exact HSF.out)
                                  clear hK K
                                  (try simp only [Act.put, List.setIfInBounds_toArray, List.set_cons_zero, List.set_cons_succ])
                                  refine wpAnyH_done (by as_aux_lemma => kernel_rfl) ?_ _
                                  refine NoPanic.normal ?_
                                  go_wp2_with fail
                                  go_roundw
                                  case rel => exact ⟨j + 1, by omega, by go_num, LE.out⟩
                                  case measure => simp [intOf]; omega
                                exact AllReadyH.nil
                              exact AllReadyH.nil
                            exact AllReadyH.nil
                          exact AllReadyH.nil
                        exact AllReadyH.nil
                      refine AllReadyH.cons rfl (fun K hK => ?_) ?_
                      ·
                        go_simp
                        go_at_call 8
                        refine hpk1.mono ?_
                        rintro e w' ⟨rfl, rfl⟩
                        (try go_wp2_with fail)
                        refine hK.out _ _ ?_ (fun hHeld => ?_)
                        · (try dsimp only); (first | assumption | exact HSA.out | exact HSX.out | exact HSF.out)
                        clear hK K
                        (try simp only [Act.put, List.setIfInBounds_toArray, List.set_cons_zero, List.set_cons_succ])
                        refine wpAnyH_ready (rs := [1, 20]) (by as_aux_lemma => kernel_rfl) (by simp) ?_
                        refine AllReadyH.cons rfl (fun K hK => ?_) ?_
                        ·
                          go_simp
                          refine hK.out _ _ ?_ (fun hHeld => ?_)
                          · (try dsimp only); (first | assumption | exact HSA.out | exact HSX.out | exact HSF.out)
                          clear hK K
                          (try simp only [Act.put, List.setIfInBounds_toArray, List.set_cons_zero, List.set_cons_succ])
                          refine wpAnyH_ready (rs := [20]) (by as_aux_lemma => kernel_rfl) (by simp) ?_
                          refine AllReadyH.cons rfl (fun K hK => ?_) ?_
                          ·
                            go_simp
                            go_at_call 8
                            refine hpk2.mono ?_
                            rintro e w' ⟨rfl, rfl⟩
                            (try go_wp2_with fail)
                            refine hK.out _ _ ?_ (fun hHeld => ?_)
                            · (try dsimp only); (first | assumption | exact HSA.out | exact HSX.out | exact HSF.out)
                            clear hK K
                            (try simp only [Act.put, List.setIfInBounds_toArray, List.set_cons_zero, List.set_cons_succ])
                            refine wpAnyH_take (i := 21) (v := ?_) rfl (by as_aux_lemma => kernel_rfl) (by as_aux_lemma => kernel_rfl) (by as_aux_lemma => kernel_rfl) (fun _ _ _ h => h) (Or.inl ⟨by rfl, ?_⟩) (by assumption) ?_
                            rotate_left 1
                            · (intro wz hSw; (try dsimp only at hSw); go_simp; (try with_reducible rfl))
                            (try simp only [Act.put, List.setIfInBounds_toArray])
                            refine wpAnyH_ready (rs := [22]) (by as_aux_lemma => kernel_rfl) (by simp) ?_
                            refine AllReadyH.cons rfl (fun K hK => ?_) ?_
                            ·
                              go_simp
                              refine hK.out _ _ ?_ (fun hHeld => ?_)
                              · (try dsimp only); (first | assumption | exact HSA.out | exact HSX.out | exact HSF.out)
                              clear hK K
                              (try simp only [Act.put, List.setIfInBounds_toArray, List.set_cons_zero, List.set_cons_succ])
                              refine wpAnyH_ready (rs := [23]) (by as_aux_lemma => kernel_rfl) (by simp) ?_
                              refine AllReadyH.cons rfl (fun K hK => ?_) ?_
                              ·
                                refine step_app (by rfl) (.tmp 149) (.tmp 170) _ (by rfl) _ _ _ (by rfl) (by rfl) EX ?_
                                refine hK.out _ _ ?_ (fun hHeld => ?_)
                                · (try dsimp only); (first | assumption | exact HSA.out | exact HSX.out | exact HSF.out)
                                clear hK K
                                (try simp only [Act.put, List.setIfInBounds_toArray])
                                refine wpAnyH_take (i := 24) (v := ?_) rfl (by as_aux_lemma => kernel_rfl) (by as_aux_lemma => kernel_rfl) (by as_aux_lemma => kernel_rfl) (fun _ _ _ h => h) (Or.inl ⟨by rfl, ?_⟩) (by assumption) ?_
                                rotate_left 1
                                · (intro wz hSw; (try dsimp only at hSw); go_simp; (try with_reducible rfl))
                                (try simp only [Act.put])
                                refine wpAnyH_ready (rs := [25]) (by as_aux_lemma => kernel_rfl) (by simp) ?_
                                refine AllReadyH.cons rfl (fun K hK => ?_) ?_
                                ·
                                  go_simp
                                  refine hK.out _ _ ?_ (fun hHeld => ?_)
                                  · (try dsimp only); (first | assumption | exact HSA.out | exact HSX.out | exact HSF.out)
                                  clear hK K
                                  (try simp only [Act.put, List.setIfInBounds_toArray, List.set_cons_zero, List.set_cons_succ])
                                  refine wpAnyH_done (by as_aux_lemma => kernel_rfl) ?_ _
                                  refine NoPanic.normal ?_
                                  go_wp2_with fail
                                  go_roundw
                                  case rel => exact ⟨j + 1, by omega, by go_num, LE.out⟩
                                  case measure => simp [intOf]; omega
                                exact AllReadyH.nil
                              exact AllReadyH.nil
                            exact AllReadyH.nil
                          exact AllReadyH.nil
                        refine AllReadyH.cons rfl (fun K hK => ?_) ?_
                        ·
                          go_simp
                          go_at_call 8
                          refine hpk2.mono ?_
                          rintro e w' ⟨rfl, rfl⟩
                          (try go_wp2_with fail)
                          refine hK.out _ _ ?_ (fun hHeld => ?_)
                          · (try dsimp only); (first | assumption | exact HSA.out | exact HSX.out | exact HSF.out)
                          clear hK K
                          (try simp only [Act.put, List.setIfInBounds_toArray, List.set_cons_zero, List.set_cons_succ])
                          refine wpAnyH_take (i := 21) (v := ?_) rfl (by as_aux_lemma => kernel_rfl) (by as_aux_lemma => kernel_rfl) (by as_aux_lemma => kernel_rfl) (fun _ _ _ h => h) (Or.inl ⟨by rfl, ?_⟩) (by assumption) ?_
                          rotate_left 1
                          · (intro wz hSw; (try dsimp only at hSw); go_simp; (try with_reducible rfl))
                          (try simp only [Act.put, List.setIfInBounds_toArray])
                          refine wpAnyH_ready (rs := [1, 22]) (by as_aux_lemma => kernel_rfl) (by simp) ?_
                          refine AllReadyH.cons rfl (fun K hK => ?_) ?_
                          ·
                            go_simp
                            refine hK.out _ _ ?_ (fun hHeld => ?_)
                            · (try dsimp only); (first | assumption | exact HSA.out | exact HSX.out | exact HSF.out)
                            clear hK K
                            (try simp only [Act.put, List.setIfInBounds_toArray, List.set_cons_zero, List.set_cons_succ])
                            refine wpAnyH_ready (rs := [22]) (by as_aux_lemma => kernel_rfl) (by simp) ?_
                            refine AllReadyH.cons rfl (fun K hK => ?_) ?_
                            ·
                              go_simp
                              refine hK.out _ _ ?_ (fun hHeld => ?_)
                              · (try dsimp only); (first | assumption | exact HSA.out | exact HSX.out | exact HSF.out)
                              clear hK K
                              (try simp only [Act.put, List.setIfInBounds_toArray, List.set_cons_zero, List.set_cons_succ])
                              refine wpAnyH_ready (rs := [23]) (by as_aux_lemma => kernel_rfl) (by simp) ?_
                              refine AllReadyH.cons rfl (fun K hK => ?_) ?_
                              ·
                                refine step_app (by rfl) (.tmp 149) (.tmp 170) _ (by rfl) _ _ _ (by rfl) (by rfl) EX ?_
                                refine hK.out _ _ ?_ (fun hHeld => ?_)
                                · (try dsimp only); (first | assumption | exact HSA.out | exact HSX.out | exact HSF.out)
                                clear hK K
                                (try simp only [Act.put, List.setIfInBounds_toArray])
                                refine wpAnyH_take (i := 24) (v := ?_) rfl (by as_aux_lemma => kernel_rfl) (by as_aux_lemma => kernel_rfl) (by as_aux_lemma => kernel_rfl) (fun _ _ _ h => h) (Or.inl ⟨by rfl, ?_⟩) (by assumption) ?_
                                rotate_left 1
                                · (intro wz hSw; (try dsimp only at hSw); go_simp; (try with_reducible rfl))
                                (try simp only [Act.put])
                                refine wpAnyH_ready (rs := [25]) (by as_aux_lemma => kernel_rfl) (by simp) ?_
                                refine AllReadyH.cons rfl (fun K hK => ?_) ?_
                                ·
                                  go_simp
                                  refine hK.out _ _ ?_ (fun hHeld => ?_)
                                  · (try dsimp only); (first | assumption | exact HSA.out | exact HSX.out | exact HSF.out)
                                  clear hK K
                                  (try simp only [Act.put, List.setIfInBounds_toArray, List.set_cons_zero, List.set_cons_succ])
                                  refine wpAnyH_done (by as_aux_lemma => kernel_rfl) ?_ _
                                  refine NoPanic.normal ?_
                                  go_wp2_with fail
                                  go_roundw
                                  case rel => exact ⟨j + 1, by omega, by go_num, LE.out⟩
                                  case measure => simp [intOf]; omega
                                exact AllReadyH.nil
                              exact AllReadyH.nil
                            exact AllReadyH.nil
                          refine AllReadyH.cons rfl (fun K hK => ?_) ?_
                          ·
                            go_simp
                            refine hK.out _ _ ?_ (fun hHeld => ?_)
                            · (try dsimp only); (first | assumption | exact HSA.out | exact HSX.out | exact HSF.out)
                            clear hK K
                            (try simp only [Act.put, List.setIfInBounds_toArray, List.set_cons_zero, List.set_cons_succ])
                            refine wpAnyH_ready (rs := [1]) (by as_aux_lemma => kernel_rfl) (by simp) ?_
                            refine AllReadyH.cons rfl (fun K hK => ?_) ?_
                            ·
                              have hC6 := cell_below (grown_one W9 (.cells #[.int .i64 6, .int .i64 n.places, .int .i64 pa, .int .i64 pb, .int .i64 0] 37)) k6
                              go_simp
                              refine hK.out _ _ ?_ (fun hHeld => ?_)
                              · (try dsimp only); (first | assumption | exact HSA.out | exact HSX.out | exact HSF.out)
                              clear hK K
                              (try simp only [Act.put, List.setIfInBounds_toArray, List.set_cons_zero, List.set_cons_succ])
                              refine wpAnyH_ready (rs := [23]) (by as_aux_lemma => kernel_rfl) (by simp) ?_
                              refine AllReadyH.cons rfl (fun K hK => ?_) ?_
                              ·
                                refine step_app (by rfl) (.tmp 149) (.tmp 170) _ (by rfl) _ _ _ (by rfl) (by rfl) EX ?_
                                refine hK.out _ _ ?_ (fun hHeld => ?_)
                                · (try dsimp only); (first | assumption | exact HSA.out | exact HSX.out | exact HSF.out)
                                clear hK K
                                (try simp only [Act.put, List.setIfInBounds_toArray])
                                refine wpAnyH_take (i := 24) (v := ?_) rfl (by as_aux_lemma => kernel_rfl) (by as_aux_lemma => kernel_rfl) (by as_aux_lemma => kernel_rfl) (fun _ _ _ h => h) (Or.inl ⟨by rfl, ?_⟩) (by assumption) ?_
                                rotate_left 1
                                · (intro wz hSw; (try dsimp only at hSw); go_simp; (try with_reducible rfl))
                                (try simp only [Act.put])
                                refine wpAnyH_ready (rs := [25]) (by as_aux_lemma => kernel_rfl) (by simp) ?_
                                refine AllReadyH.cons rfl (fun K hK => ?_) ?_
                                ·
                                  go_simp
                                  refine hK.out _ _ ?_ (fun hHeld => ?_)
                                  · (try dsimp only); (first | assumption | exact HSA.out | exact HSX.out | exact HSF.out)
                                  clear hK K
                                  (try simp only [Act.put, List.setIfInBounds_toArray, List.set_cons_zero, List.set_cons_succ])
                                  refine wpAnyH_done (by as_aux_lemma => kernel_rfl) ?_ _
                                  refine NoPanic.normal ?_
                                  go_wp2_with fail
                                  go_roundw
                                  case rel => exact ⟨j + 1, by omega, by go_num, LE.out⟩
                                  case measure => simp [intOf]; omega
                                exact AllReadyH.nil
                              exact AllReadyH.nil
                            exact AllReadyH.nil
                          exact AllReadyH.nil
                        exact AllReadyH.nil
                      exact AllReadyH.nil
                    · have hmo' : ¬ (j : Int) < (more.length : Int) := by omega
                      have e : codeW n.places y n.code more (j + 1) = l ++ [⟨s.code, ts, A1, B1, C1⟩] := by rw [codeW, if_neg hmo, List.append_nil, HL.out, HSW.out, HS.out]
                      have LE : Hid (∃ v, L2 W2 W9 n.places (.slice adN n.nums.length capN) qm gF NP VI VO VK v (codeW n.places y n.code more (j + 1))) := ⟨_, by rw [e]; exact L8.out⟩
                      clear e
                      go_wp2_with fail
                      go_roundw
                      case rel => exact ⟨j + 1, by omega, by go_num, LE.out⟩
                      case measure => simp [intOf]; omega
          · obtain rfl : j = n.code.length := by omega
            have hbox := L0.out.box
            have hfl := firstW_len n.places y n.first k
            rw [← HNP.out] at hfl
            have hNV : NetV wr.heap.size wr (swN n y more) (.slice (some ⟨gF, 0, none⟩) NP NP) VI VO VK (.slice adN n.nums.length capN) v6 := by
              have hfr := L0.out.fr
              have car : ∀ {v : Value} {zs : List Int}, Ints (fun b => W.heap.size ≤ b ∧ b ≠ qm ∧ b ≠ gF ∧ b < W2.heap.size) W2 v zs → Ints (· < wr.heap.size) wr v zs := fun hi => hi.carry fun b hb hl => ⟨Nat.lt_of_lt_of_le hl hfr.size, hfr.block b hl (by simpa using hb.2.1)⟩
              obtain ⟨rest, T, hown⟩ := PM2.out.own
              have hgl := lt_of_block hown
              have hown' : wr.heap[gF]? = some (.cells (List.map (Value.int .i64) (firstW n.places y n.first k) ++ rest).toArray T (0, 0)) := by rw [hfr.block gF hgl (by simpa using Ne.symm PM2.out.ne)]; exact hown
              have ek : n.places.toNat = k := by have := HPP.out; omega
              refine ⟨?_, car PM2.out.i, car PM2.out.o, car PM2.out.k, ?_, ?_⟩
              · show Ints _ _ _ (firstW n.places y n.first n.places.toNat)
                rw [ek]
                have ho : Own wr (.slice (some ⟨gF, 0, none⟩) NP NP) (firstW n.places y n.first k) gF := ⟨some ⟨gF, 0, none⟩, NP, by rw [hfl], fun _ => ⟨rfl, rest, T, hown'⟩⟩
                exact ho.ints fun _ => Nat.lt_of_lt_of_le hgl hfr.size
              · exact HNV.out.m.carry fun b hl _ => ⟨Nat.lt_of_lt_of_le hl DTX.out.size, DTX.out.block b hl⟩
              · obtain ⟨ad, b, off, cap, e, h1, h2⟩ := L0.out.row.steps
                exact ⟨ad, b, off, cap, e, fun hp => ⟨(h1 hp).1, (h1 hp).2.2⟩, h2⟩
            have ht2 := HT2.out wr _ _ _ _ _ _ DTX.out hNV
            have HV5 : Hid (Ints (· < W.heap.size) wr v4 L) := HV4.out.carry fun b hl _ => ⟨hl, HBWR.out.block b hl⟩
            obtain ⟨m0, m1, m2, m3, m4, m5, m6⟩ : wr.cell? ⟨qm, 0, none⟩ = some (.int .i64 (n.places + 1)) ∧ wr.cell? ⟨qm, 1, none⟩ = some (.slice (some ⟨gF, 0, none⟩) NP NP) ∧ wr.cell? ⟨qm, 2, none⟩ = some VI ∧ wr.cell? ⟨qm, 3, none⟩ = some VO ∧ wr.cell? ⟨qm, 4, none⟩ = some VK ∧ wr.cell? ⟨qm, 5, none⟩ = some (.slice adN n.nums.length capN) ∧ wr.cell? ⟨qm, 6, none⟩ = some v6 := ⟨cell_row hbox 0, cell_row hbox 1, cell_row hbox 2, cell_row hbox 3, cell_row hbox 4, cell_row hbox 5, cell_row hbox 6⟩
            clear hNV hbox hfl hbW dt
            go_wp2_with (first
              | (go_at_call 7; refine ht2.mono ?_; rintro e w7 ⟨v7, rfl, Y7⟩
                 have hsm := same_any v7 v4 L w7 Y7.out.1 (HV5.out.carry (A' := fun _ => True) fun b hl hb => ⟨trivial, Y7.out.2.block b hb⟩) HLL.out
                 clear ht2)
              | (go_at_call 12; refine hsm.mono ?_; rintro e w8 ⟨rfl, B8⟩))
            go_ret
            exact ⟨rfl, ball DTX.out (ball Y7.out.2 B8)⟩)

end Nx
end Go.Proofs.Ytanlfmhlohcmgaa
