/- What net's Check and New answer. -/
import Derived.Test.YtgjhfmkilpmfnaaGreatDoorJNtA
import Derived.Test.YtgjhfmkilpmfnaaGreatDoorJEs2
import Derived.Deep.QuietTactic
import Derived.BigQuiet
import Derived.Test.YtgjhfmkilpmfnaaGreatDoorRows
import Derived.ProofKit
import Derived.LaidMore
import Derived.OpenShut
import Derived.ShutString
import Derived.Stop.Joined
import Derived.LaidHandle
import Derived.Lib.LaidTab
import Derived.ChangeOld
import Derived.DataReads
import Derived.Test.YtgjhfmkilpmfnaaGreatDoorJNt5
import Derived.Maps.Own
import Derived.Maps.OwnOps
namespace Go.Proofs.YtgjhfmkilpmfnaaGreatDoor
open Go.RowKit
namespace Nx

/-- an error as it lies in memory -/
def IsErr (B : Nat) (w : World) (v : Value) (f : Nat × Int) : Prop :=
  (f.1 = 0 ∧ f.2 = -1 ∧ v = .nilIface) ∨ (f.1 ≠ 0 ∧ f.2 = -1 ∧ v = .iface 30 (.int .i64 f.1)) ∨
    (f.1 ≠ 0 ∧ ∃ g q : Nat, f.2 = q ∧ B ≤ g ∧ v = .iface 69 (.pointer (some ⟨g, 0, none⟩)) ∧ w.heap[g]? = some (.cells #[.int .i64 f.1, .int .i64 q] 70 (0, 0)))
theorem IsErr.keep {B : Nat} {w w' : World} {v : Value} {f : Nat × Int} (h : IsErr B w v f) (hb : ∀ b, B ≤ b → b < w.heap.size → w'.heap[b]? = w.heap[b]?) : IsErr B w' v f := by
  rcases h with h | h | ⟨h1, g, q, h2, h3, h4, h5⟩
  · exact .inl h
  · exact .inr (.inl h)
  · exact .inr (.inr ⟨h1, g, q, h2, h3, h4, by rw [hb g h3 (lt_of_block h5)]; exact h5⟩)

def netCells (P : Int) (vF vI vO vK vN vC : Value) : Array Value := #[.int .i64 P, vF, vI, vO, vK, vN, vC]

set_option maxHeartbeats 400000 in
theorem check_whole (B : Nat) (n : Nt) (w : World) (vF vI vO vK vN vC : Value) (h : NetV B w n vF vI vO vK vN vC) (hB : B ≤ w.heap.size) (hs : Small n) (hw : wholeE n ≠ 0) :
    Calls Tryz.prog 17 #[.agg #[.int .i64 n.places, vF, vI, vO, vK, vN, vC]] w fun e w' => e = .returned (.iface 30 (.int .i64 (wholeE n : Nat))) ∧ Below w.heap.size w w' := by
  have hwh := whole_any B n w.heap.size (w.alloc (.cells #[.int .i64 n.places, vF, vI, vO, vK, vN, vC] 26)) vF vI vO vK vN vC (h.below ((grown_one w _).mono hB) (Nat.le_refl _)) hs (by simp)
  obtain ⟨e, he⟩ : ∃ e, e = wholeE n := ⟨_, rfl⟩
  rw [← he] at hwh hw ⊢
  have t0 : ((e : Int) != 0) = true := by simp; omega
  clear he hw h hB hs
  go_enter Tryz.func17, Tryz.ntmps17
  go_wp2_with (go_at_call 29; refine hwh.mono ?_; rintro e w1 ⟨rfl, hb1⟩)
  go_ret
  exact ⟨rfl, ball (grown_one w _) hb1⟩

set_option maxHeartbeats 1000000 in
theorem check_steps (B : Nat) (n : Nt) (w : World) (vF vI vO vK vN vC : Value) (h : NetV B w n vF vI vO vK vN vC) (hB : B ≤ w.heap.size) (hs : Small n) (hw : wholeE n = 0) :
    Calls Tryz.prog 17 #[.agg #[.int .i64 n.places, vF, vI, vO, vK, vN, vC]] w fun e w' => ∃ v, e = .returned v ∧ IsErr w.heap.size w' v (stepsE n.places n.nums.length n.code 0) ∧ Below w.heap.size w w' := by
  have hwh := whole_any B n w.heap.size (w.alloc (.cells #[.int .i64 n.places, vF, vI, vO, vK, vN, vC] 26)) vF vI vO vK vN vC (h.below ((grown_one w _).mono hB) (Nat.le_refl _)) hs (by simp)
  rw [hw] at hwh
  have hcl := hs.c; have hml := hs.m
  obtain ⟨adC, bC, offC, capC, rfl, hC1, hC2⟩ := h.c
  obtain ⟨adN, bN, offN, capN, rfl, -, -⟩ := h.m
  have HC1 : Hid ((0 < n.code.length → adC = some ⟨bC, offC, none⟩ ∧ bC < B) ∧ _) := ⟨hC1, hC2⟩
  have HX : Hid (∀ w1, Below (w.alloc (.cells #[.int .i64 n.places, vF, vI, vO, vK, .slice adN n.nums.length capN, .slice adC n.code.length capC] 26)).heap.size (w.alloc (.cells #[.int .i64 n.places, vF, vI, vO, vK, .slice adN n.nums.length capN, .slice adC n.code.length capC] 26)) w1 → w1.cell? ⟨w.heap.size, 0, none⟩ = some (.int .i64 n.places) ∧ w1.cell? ⟨w.heap.size, 5, none⟩ = some (.slice adN n.nums.length capN) ∧ w1.cell? ⟨w.heap.size, 6, none⟩ = some (.slice adC n.code.length capC) ∧ Below w.heap.size w w1 ∧ w.heap.size < w1.heap.size) :=
    fun w1 hb => ⟨cell_below hb (by simp), cell_below hb (by simp), cell_below hb (by simp), ball (grown_one w _) hb, by have := hb.size; simp at this; omega⟩
  clear h hs hw hC1 hC2
  go_enter Tryz.func17, Tryz.ntmps17
  go_wp2_with (go_at_call 29; refine hwh.mono ?_; rintro e w1 ⟨rfl, hb1⟩; obtain ⟨d0, d5, d6, hbw, hlw⟩ := HX.out w1 hb1; have HB1 : Hid (Below w.heap.size w w1) := hbw; clear hwh hb1 hbw)
  go_loopw [19] (fun i wr => ∃ k : Nat, k ≤ n.code.length ∧ i = .int .i64 k ∧ (∀ j, j < k → stepE n.places n.nums.length (n.code.getD j sp0) = 0) ∧ Below w1.heap.size w1 wr) (fun i _ => n.code.length - (intOf i).toNat)
  case atStart => exact ⟨0, Nat.zero_le _, rfl, fun j hj => by omega, Below.refl _ _⟩
  case round =>
    obtain ⟨k, hk, rfl, hall, hbr⟩ := hrel
    have HA : Hid (∀ j, j < k → stepE n.places n.nums.length (n.code.getD j sp0) = 0) := hall
    have HBR : Hid (Below w1.heap.size w1 wr) := hbr
    have f0 := cell_below hbr d0
    have f5 := cell_below hbr d5
    have hbw : Hid (Below w.heap.size w wr) := ball HB1.out hbr
    clear hall hbr
    by_cases hlt : k < n.code.length
    · have hix := ix24 adC bC offC n.code.length capC k hlt (fun h => (HC1.out.1 h).1)
      obtain ⟨s, hs⟩ : ∃ s, s = n.code.getD k sp0 := ⟨_, rfl⟩
      have hb' : wr.heap[bC]? = w.heap[bC]? := hbw.out.block bC (by have := (HC1.out.1 (by omega)).2; omega)
      obtain ⟨x0, x1, x2, x3, x4⟩ := HC1.out.2 k hlt
      rw [← cell_of_block hb', ← hs] at x0 x1 x2 x3 x4
      have HS : Hid (s = n.code.getD k sp0) := hs
      have hst := step_any s n.places n.nums.length w.heap.size (wr.alloc (.cells #[.int .i64 s.code, .int .i64 s.dst, .int .i64 s.a, .int .i64 s.b, .int .i64 s.c] 50)) (cell_below (grown_one wr _) f0)
      have g5 := cell_below (grown_one wr (.cells #[.int .i64 s.code, .int .i64 s.dst, .int .i64 s.a, .int .i64 s.b, .int .i64 s.c] 50)) f5
      obtain ⟨e, he⟩ : ∃ e, e = stepE n.places n.nums.length s := ⟨_, rfl⟩
      rw [← he] at hst
      have HE : Hid (e = stepE n.places n.nums.length s) := he
      clear hs hb' he d0 d5 d6
      by_cases e0 : e = 0
      · subst e0
        go_wp2_with (go_at_call 30; refine hst.mono ?_; rintro e w2 ⟨rfl, hb2⟩)
        go_roundw
        case rel => exact ⟨k + 1, by omega, by go_num, fun j hj => by
          by_cases ej : j = k
          · rw [ej, ← HS.out]; exact HE.out.symm
          · exact HA.out j (by omega), ball HBR.out (ball (grown_one wr _) hb2)⟩
        case measure => simp [intOf]; omega
      · have t0 : ((e : Int) != 0) = true := by simp; omega
        have E0 : Hid (e ≠ 0) := e0
        clear e0
        go_wp2_with (go_at_call 30; refine hst.mono ?_; rintro e w2 ⟨rfl, hb2⟩)
        go_ret
        have hb3 : Below w.heap.size w w2 := ball hbw.out (ball (grown_one wr _) hb2)
        refine ⟨_, rfl, .inr (.inr ⟨?_, w2.heap.size, k, ?_, hb3.size, rfl, ?_⟩), hb3.alloc hb3.size _⟩
        · rw [stepsE_at _ _ _ k HA.out hlt (by rw [← HS.out, ← HE.out]; exact E0.out)]
          rw [← HS.out, ← HE.out]; exact E0.out
        · rw [stepsE_at _ _ _ k HA.out hlt (by rw [← HS.out, ← HE.out]; exact E0.out)]
        · rw [stepsE_at _ _ _ k HA.out hlt (by rw [← HS.out, ← HE.out]; exact E0.out), ← HS.out, ← HE.out]
          exact heap_alloc_new _ _
    · go_wp2
      go_ret
      refine ⟨_, rfl, .inl ?_, hbw.out⟩
      rw [stepsE_fine _ _ _ (fun j hj => HA.out j (by omega))]
      exact ⟨rfl, rfl, rfl⟩

theorem check_any (B : Nat) (n : Nt) (w : World) (vF vI vO vK vN vC : Value) (h : NetV B w n vF vI vO vK vN vC) (hB : B ≤ w.heap.size) (hs : Small n) :
    Calls Tryz.prog 17 #[.agg #[.int .i64 n.places, vF, vI, vO, vK, vN, vC]] w fun e w' => ∃ v, e = .returned v ∧ IsErr w.heap.size w' v (check n) ∧ Below w.heap.size w w' := by
  unfold check
  by_cases hw : wholeE n = 0
  · rw [if_pos hw]; exact check_steps B n w vF vI vO vK vN vC h hB hs hw
  · rw [if_neg hw]
    exact (check_whole B n w vF vI vO vK vN vC h hB hs hw).mono fun e w' ⟨he, hb⟩ => ⟨_, he, .inr (.inl ⟨hw, rfl, rfl⟩), hb⟩
end Nx
end Go.Proofs.YtgjhfmkilpmfnaaGreatDoor
/- api.Tell and plain.Place at what Split answers. -/
namespace Go.Proofs.YtgjhfmkilpmfnaaGreatDoor
open Go.RowKit Go.Extern.Stop Go.Stop Go.Extern Nx

theorem tell_nil (w : World) : Calls Tryz.prog 31 #[.nilIface] w fun e w' => e = .returned (.int .i64 0) ∧ w' = w := by
  go_enter Tryz.func31, Tryz.ntmps31
  go_wp2
  go_ret
  exact ⟨rfl, rfl⟩

set_option maxRecDepth 100000 in
set_option maxHeartbeats 1000000 in
theorem tell_at (g e q : Nat) (w : World) (hg : ErrType w) (hA : w.heap[g]? = some (.cells #[.int .i64 e, .int .i64 q] 70 (0, 0))) :
    Calls Tryz.prog 31 #[.iface 69 (.pointer (some ⟨g, 0, none⟩))] w fun ev w' => ev = .returned (.int .i64 e) ∧ Below w.heap.size w w' := by
  have hglt : 1 < w.heap.size := lt_of_cell hg
  have hAlt : g < w.heap.size := (Array.getElem?_eq_some_iff.1 hA).1
  have hg2 : ErrType (w.alloc (.cells #[.int .i64 0] 30)) := by
    rw [ErrType, World.cell?_alloc_lt _ _ ⟨1, 0, none⟩ hglt]; exact hg
  have hA2 : (w.alloc (.cells #[.int .i64 0] 30)).heap[g]? = some (.cells #[.int .i64 e, .int .i64 q] 70 (0, 0)) := by
    rw [Below.heap_alloc _ _ _ hAlt]; exact hA
  have has := as_any g e q ⟨w.heap.size, 0, none⟩ (.int .i64 0) _ hg2 hA2 (by simp) (by simp)
  clear hg2 hA2
  go_enter Tryz.func31, Tryz.ntmps31
  go_wp2_with (go_at_call 40; refine has.mono ?_; rintro e' w' ⟨rfl, rfl⟩)
  go_ret
  exact ⟨rfl, (((((Below.refl _ _).alloc (Nat.le_refl _) _).alloc (by simp) _).alloc (by simp; omega) _).alloc (by simp; omega) _).alloc (by simp; omega) _⟩

set_option maxRecDepth 100000 in
set_option maxHeartbeats 1000000 in
theorem tell_err (e : Nat) (w : World) (hg : ErrType w) :
    Calls Tryz.prog 31 #[.iface 30 (.int .i64 e)] w fun ev w' => ev = .returned (.int .i64 e) ∧ Below w.heap.size w w' := by
  have hglt : 1 < w.heap.size := lt_of_cell hg
  have hg2 : ErrType (w.alloc (.cells #[.int .i64 0] 30)) := by
    rw [ErrType, World.cell?_alloc_lt _ _ ⟨1, 0, none⟩ hglt]; exact hg
  have has := as_err e ⟨w.heap.size, 0, none⟩ (.int .i64 0) _ hg2 (by simp) (by simp)
  clear hg2
  go_enter Tryz.func31, Tryz.ntmps31
  go_wp2_with (go_at_call 40; refine has.mono ?_; rintro e' w' ⟨rfl, rfl⟩)
  go_ret
  exact ⟨rfl, (((((Below.refl _ _).alloc (Nat.le_refl _) _).alloc (by simp) _).alloc (by simp; omega) _).alloc (by simp; omega) _).alloc (by simp; omega) _⟩


theorem tell_isErr {B : Nat} {w : World} {v : Value} {f : Nat × Int} (hg : ErrType w) (h : IsErr B w v f) :
    Calls Tryz.prog 31 #[v] w fun ev w' => ev = .returned (.int .i64 f.1) ∧ Below w.heap.size w w' := by
  rcases h with ⟨h1, _, rfl⟩ | ⟨_, _, rfl⟩ | ⟨_, g, q, _, _, rfl, hA⟩
  · rw [h1]; exact (tell_nil w).mono fun e w' ⟨he, hw⟩ => ⟨he, by rw [hw]; exact Below.refl _ _⟩
  · exact tell_err f.1 w hg
  · exact tell_at g f.1 q w hg hA
end Go.Proofs.YtgjhfmkilpmfnaaGreatDoor
/- What the listed variables' readings give the walks: the handle of type error. -/
namespace Go.Proofs.YtgjhfmkilpmfnaaGreatDoor
open Go.ChangeShapes Go.WideShapes Go.ChangeAt Go.RowKit

theorem ownKn : ownKnob Tryz.prog.godebug = none := by kernel_rfl
theorem laidOut : laidOutB Tryz.prog = true := by kernel_rfl
theorem gErr : Tryz.prog.globalNamed "errors.errorType" = some 1 := by kernel_rfl
theorem nTypes : Tryz.prog.types.size = 169 := by kernel_rfl
theorem rtRow : (Tryz.prog.cutTypes.find? (·.1 == "internal/reflectlite.rtype")).map (·.2) = some 108 := by kernel_rfl
theorem oneRow : ((List.range 169).filter fun t => Tryz.prog.rowNamed t [101, 114, 114, 111, 114]) = [36] := by kernel_rfl
theorem errType_laid {W : World} {l : List (String × DataW Unit)} (h : handlesMet Tryz.prog l W) (hm : ("errors.errorType", Rows.laid_errors_errorType) ∈ l) : ErrType W := by
  obtain ⟨name, u, ty, e1, e2, e3, e4, e5⟩ := h _ hm
  have en : name = [101, 114, 114, 111, 114] := (Option.some.inj e1).symm
  subst en
  obtain rfl := Option.some.inj (rtRow.symm.trans e2)
  have hm : ty ∈ (List.range 169).filter fun t => Tryz.prog.rowNamed t [101, 114, 114, 111, 114] := List.mem_filter.2 ⟨List.mem_range.2 (by rw [← nTypes]; exact e3), e4⟩
  rw [oneRow] at hm
  obtain rfl := List.mem_singleton.1 hm
  have hh : typeHandle Tryz.prog 36 = .pointer (some ⟨2, 36, none⟩) := by kernel_rfl
  rw [hh] at e5
  simpa [ErrType] using World.var?_cell gErr e5 0
end Go.Proofs.YtgjhfmkilpmfnaaGreatDoor
/- What the listed variables' readings give the walks: Fine. -/
namespace Go.Proofs.YtgjhfmkilpmfnaaGreatDoor
open Go.ChangeShapes Go.WideShapes Go.ChangeAt Go.RowKit

def TabAt (w : World) (g : Nat) (l : List Value) : Prop := ∀ (i : Nat) (v : Value), l[i]? = some v → w.cell? ⟨g, i, none⟩ = some v
def fl0 : DataW Unit → List Value
  | .lit (.string s) => [.string ⟨s.toArray⟩]
  | .lit (.int k n) => [.int k n]
  | _ => []
def flA (f : DataW Unit → List Value) : DataW Unit → List Value
  | .agg ps => ps.flatMap f
  | _ => []
def Opens (W : World) (t k : Nat) (f : DataW Unit → List Value) : Prop :=
  ∀ fuel cs d p, DataW.trod (fun _ => ()) Tryz.prog W 0 (fun _ => true) false fuel t cs = some (d, p) → cs = f d ∧ cs.length = k
theorem opens_int {W : World} {t : Nat} {k : IntKind} (hu : Tryz.prog.underlying t = some (.int k)) : Opens W t 1 fl0 := by
  intro fuel cs d p h
  cases fuel with
  | zero => simp [DataW.trod] at h
  | succ fuel =>
    rcases cs with _ | ⟨c, _ | ⟨c', r⟩⟩
    · simp [DataW.trod, hu] at h
    · cases c with
      | int k' n =>
        simp only [DataW.trod, hu] at h
        split at h
        · rename_i hk
          have hb := congrArg Prod.fst (Option.some.inj h)
          simp only at hb
          subst hb
          rw [hk.1]
          exact ⟨rfl, rfl⟩
        · cases h
      | _ => simp [DataW.trod, hu] at h
    · simp [DataW.trod, hu] at h
theorem two_of {α : Type} : ∀ (l : List α), l.length = 2 → ∃ x y, l = [x, y]
  | [x, y], _ => ⟨x, y, rfl⟩
theorem opens_two {W : World} {t a b : Nat} {f g : Field} (hu : Tryz.prog.underlying t = some (.struct #[f, g])) (hf : f.type = a ∧ f.offset = 0) (hg : g.type = b ∧ g.offset = 1) (hct : Tryz.prog.cellsOf t = 2) (hca : Tryz.prog.cellsOf a = 1) (hcb : Tryz.prog.cellsOf b = 1) (ha : Opens W a 1 fl0) (hb : Opens W b 1 fl0) : Opens W t 2 (flA fl0) := by
  intro fuel cs d p h
  cases fuel with
  | zero => simp [DataW.trod] at h
  | succ fuel =>
    simp only [DataW.trod, hu, hct] at h
    split at h
    · rename_i hl
      obtain ⟨xs, hm, hx⟩ := Option.map_eq_some_iff.1 h
      obtain ⟨x, y, rfl⟩ : ∃ x y, cs = [x, y] := two_of cs hl
      have hd := congrArg Prod.fst hx
      simp only at hd
      subst hd
      simp only [List.mapM_cons, List.mapM_nil, Option.bind_eq_bind, Option.bind_eq_some_iff, Option.pure_def, Option.some.injEq, hf.1, hf.2, hg.1, hg.2, hca, hcb] at hm
      obtain ⟨b0, hb0, r0, ⟨b1, hb1, r1, rfl, rfl⟩, rfl⟩ := hm
      have e0 := (ha fuel _ b0.1 b0.2 hb0).1
      have e1 := (hb fuel _ b1.1 b1.2 hb1).1
      refine ⟨?_, rfl⟩
      show [x, y] = fl0 b0.1 ++ (fl0 b1.1 ++ [])
      rw [← e0, ← e1]; rfl
    · cases h
theorem laid_mem {W : World} : ∀ {l : List (String × DataW Unit)} {ps : List MemPlace}, DataW.LaidVars Tryz.prog W l ps → ∀ x ∈ l, ∃ g t cs f p, Tryz.prog.globalNamed x.1 = some g ∧ (Tryz.prog.globals[g]?).map (·.type) = some t ∧ W.var? Tryz.prog x.1 = some cs ∧ DataW.trod (fun _ => ()) Tryz.prog W 0 (fun _ => true) false f t cs.toList = some (x.2, p) := by
  intro l
  induction l with
  | nil => intro ps _ x hx; cases hx
  | cons y r ih =>
    intro ps h x hx
    obtain ⟨g, t, cs, f, p, q, h1, h2, h3, h4, h5, _⟩ := h
    rcases List.mem_cons.1 hx with rfl | hx
    · exact ⟨g, t, cs, f, p, h1, h2, h3, h4⟩
    · exact ih h5 x hx
theorem tab_of {W : World} {l : List (String × DataW Unit)} {ps : List MemPlace} (hl : DataW.LaidVars Tryz.prog W l ps) {n : String} {d : DataW Unit} (hm : (n, d) ∈ l) {g t k : Nat} {f : DataW Unit → List Value} (hg : Tryz.prog.globalNamed n = some g) (ht : (Tryz.prog.globals[g]?).map (·.type) = some t) (ho : Opens W t k f) : TabAt W g (f d) := by
  obtain ⟨g', t', cs, fu, p, h1, h2, h3, h4⟩ := laid_mem hl _ hm
  obtain rfl := Option.some.inj (hg.symm.trans h1)
  obtain rfl := Option.some.inj (ht.symm.trans h2)
  have e := (ho fu _ _ _ h4).1
  intro i v hv
  rw [World.var?_cell hg h3 i, ← Array.getElem?_toList, e]
  exact hv
theorem op_int {W : World} : Opens W 3 1 fl0 := opens_int Tryz.underlying3
theorem op_errno {W : World} : Opens W 30 1 fl0 := opens_int Tryz.underlying30
theorem op_fault {W : World} : Opens W 32 2 (flA fl0) := opens_two Tryz.underlying32 ⟨rfl, rfl⟩ ⟨rfl, rfl⟩ (by kernel_rfl) (by kernel_rfl) (by kernel_rfl) op_errno op_int
theorem tFine : (Tryz.prog.globals[0]?).map (·.type) = some 32 := by kernel_rfl
theorem gFine : Tryz.prog.globalNamed "clepsydra/clepsydraref.Fine" = some 0 := by kernel_rfl
theorem fine_laid {W : World} {l : List (String × DataW Unit)} {ps : List MemPlace} (hl : DataW.LaidVars Tryz.prog W l ps) (hm : ("clepsydra/clepsydraref.Fine", Rows.laid_clepsydra_clepsydraref_Fine) ∈ l) : W.cell? ⟨0, 0, none⟩ = some (.int .i64 0) ∧ W.cell? ⟨0, 1, none⟩ = some (.int .i64 (-1)) := by
  have h : TabAt W 0 [.int .i64 0, .int .i64 (-1)] := tab_of hl hm gFine tFine op_fault
  exact ⟨h 0 _ rfl, h 1 _ rfl⟩
end Go.Proofs.YtgjhfmkilpmfnaaGreatDoor
/- Code that came in, as it lies in memory: its lists read off what the reader trod. -/
namespace Go.Proofs.YtgjhfmkilpmfnaaGreatDoor
open Go Go.RowKit Go.ChangeShapes Go.WideShapes
namespace Nx

def Fits (z : Int) : Prop := -9223372036854775808 ≤ z ∧ z ≤ 9223372036854775807
theorem fits_of_wf {z : Int} (h : (Lit.int .i64 z).wf = true) : Fits z := by
  rw [show (Lit.int .i64 z).wf = (decide (-9223372036854775808 ≤ z) && decide (z ≤ 9223372036854775807)) from rfl] at h
  simpa [Fits] using h

theorem add_none (b off k : Nat) : (⟨b, off, none⟩ : Addr).add k = ⟨b, off + k, none⟩ := by unfold Addr.add; split <;> simp_all

section
variable {H : Type} {enc : TypeId × Value → H} {W : World} {sp : Nat → Bool} {held : Bool}

theorem ints_of_trod {t e : TypeId} (ht : Tryz.prog.underlying t = some (.slice e)) (he : Tryz.prog.underlying e = some (.int .i64)) (hc : Tryz.prog.cellsOf e = 1) {fuel : Nat} {v : Value} {x : DataW H × List MemPlace}
    (h : DataW.trod enc Tryz.prog W 0 sp held fuel t [v] = some x) : ∃ zs, Ints (· < W.heap.size) W v zs ∧ (∀ z ∈ zs, Fits z) := by
  rcases open_ints ht he hc h with ⟨hcs, _⟩ | ⟨a, len, cap, zs, hcs, _, hl, hm, hz, _, hcell, hwz⟩
  · obtain rfl : v = .slice none 0 0 := by simpa using hcs
    exact ⟨[], ⟨none, 0, 0, 0, rfl, fun h => by simp at h, fun k hk => by simp at hk⟩, fun z hz => by cases hz⟩
  · obtain rfl : v = .slice (some a) len cap := by simpa using hcs
    have hlz : len ≤ zs.length := by rw [hz]; split <;> omega
    have hlen : (zs.take len).length = len := by simp; omega
    refine ⟨zs.take len, ?_, fun z hz => fits_of_wf (hwz z (List.mem_of_mem_take hz))⟩
    by_cases h0 : len = 0
    · subst h0
      exact ⟨some a, 0, 0, cap, by rw [hlen], fun h => by omega, fun k hk => by omega⟩
    · obtain ⟨b, off, spot⟩ := a
      have hc0 := hcell 0 (by omega)
      have hspot : spot = none := by simpa [Addr.add] using World.cell?_spot hc0
      subst hspot
      have had : ∀ j, (⟨b, off, none⟩ : Addr).add j = ⟨b, off + j, none⟩ := fun j => by simp [Addr.add]
      refine ⟨some ⟨b, off, none⟩, b, off, cap, by rw [hlen], fun _ => ⟨rfl, ?_⟩, fun k hk => ?_⟩
      · rw [had] at hc0; exact lt_of_cell hc0
      · have := hcell k (by omega)
        rw [had] at this
        rw [this]
        simp [List.getD_eq_getElem?_getD, show k < len by omega]

set_option maxRecDepth 100000 in
/-- a struct of five numbers that was trod -/
theorem step_of_trod {fuel : Nat} {cs : List Value} {x : DataW H × List MemPlace} (h : DataW.trod enc Tryz.prog W 0 sp held fuel 50 cs = some x) :
    ∃ s : Sp, cs = [.int .i64 s.code, .int .i64 s.dst, .int .i64 s.a, .int .i64 s.b, .int .i64 s.c] := by
  obtain ⟨xs, n, _, _, hl, hlen, hf⟩ := DataW.trod_struct Tryz.underlying50 h
  have h5 : cs.length = 5 := hl.trans (by kernel_rfl)
  match cs, h5 with
  | [c0, c1, c2, c3, c4], _ =>
    have hx : ∀ i, i < 5 → ∃ y, xs[i]? = some y := fun i hi => ⟨_, List.getElem?_eq_getElem (by rw [hlen]; exact hi)⟩
    have k1 : Tryz.prog.cellsOf 3 = 1 := by kernel_rfl
    obtain ⟨y0, e0⟩ := hx 0 (by omega)
    obtain ⟨y1, e1⟩ := hx 1 (by omega)
    obtain ⟨y2, e2⟩ := hx 2 (by omega)
    obtain ⟨y3, e3⟩ := hx 3 (by omega)
    obtain ⟨y4, e4⟩ := hx 4 (by omega)
    have f0 := hf 0 _ rfl
    have f1 := hf 1 _ rfl
    have f2 := hf 2 _ rfl
    have f3 := hf 3 _ rfl
    have f4 := hf 4 _ rfl
    rw [e0] at f0
    rw [e1] at f1
    rw [e2] at f2
    rw [e3] at f3
    rw [e4] at f4
    obtain ⟨z0, g0, _⟩ := DataW.trod_int Tryz.underlying3 f0
    obtain ⟨z1, g1, _⟩ := DataW.trod_int Tryz.underlying3 f1
    obtain ⟨z2, g2, _⟩ := DataW.trod_int Tryz.underlying3 f2
    obtain ⟨z3, g3, _⟩ := DataW.trod_int Tryz.underlying3 f3
    obtain ⟨z4, g4, _⟩ := DataW.trod_int Tryz.underlying3 f4
    simp [k1] at g0 g1 g2 g3 g4
    exact ⟨⟨z0, z1, z2, z3, z4⟩, by rw [g0, g1, g2, g3, g4]⟩

theorem exists_list {α : Type} (d : α) (n : Nat) (P : Nat → α → Prop) (h : ∀ i, i < n → ∃ x, P i x) : ∃ l : List α, l.length = n ∧ ∀ i, i < n → P i (l.getD i d) := by
  induction n with
  | zero => exact ⟨[], rfl, fun i hi => by omega⟩
  | succ n ih =>
    obtain ⟨l, hl, hp⟩ := ih fun i hi => h i (by omega)
    obtain ⟨x, hx⟩ := h n (by omega)
    refine ⟨l ++ [x], by simp [hl], fun i hi => ?_⟩
    by_cases e : i = n
    · subst e
      rw [List.getD_eq_getElem?_getD, List.getElem?_append_right (by omega)]
      simpa [hl] using hx
    · rw [List.getD_eq_getElem?_getD, List.getElem?_append_left (by omega), ← List.getD_eq_getElem?_getD]
      exact hp i (by omega)

theorem steps_of_trod {fuel : Nat} {v : Value} {x : DataW H × List MemPlace} (h : DataW.trod enc Tryz.prog W 0 sp held fuel 24 [v] = some x) : ∃ l, Steps (· < W.heap.size) W v l := by
  rcases DataW.trod_slice Tryz.underlying24 h with ⟨hcs, _⟩ | ⟨a, len, cap, elems, rest, n, _, hcs, _, _, _, _, hlen, hel, _⟩
  · obtain rfl : v = .slice none 0 0 := by simpa using hcs
    exact ⟨[], none, 0, 0, 0, rfl, fun h => by simp at h, fun k hk => by simp at hk⟩
  · obtain rfl : v = .slice (some a) len cap := by simpa using hcs
    have k5 : Tryz.prog.cellsOf 50 = 5 := by kernel_rfl
    have each : ∀ i, i < len → ∃ s : Sp, ∀ j, j < 5 → W.cell? ((a.add (i * 5)).add j) = [Value.int .i64 s.code, .int .i64 s.dst, .int .i64 s.a, .int .i64 s.b, .int .i64 s.c][j]? := fun i hi => by
      have he := hel i hi
      rw [k5, List.getElem?_eq_getElem (by omega)] at he
      obtain ⟨cs, hcs, hcs2⟩ := Option.bind_eq_some_iff.1 he
      obtain ⟨s, rfl⟩ := step_of_trod hcs2
      exact ⟨s, (World.cells?_some hcs).2.2⟩
    obtain ⟨l, hl, hp⟩ := exists_list sp0 len _ each
    by_cases h0 : len = 0
    · subst h0
      exact ⟨l, some a, 0, 0, cap, by rw [hl], fun h => by omega, fun k hk => by omega⟩
    · obtain ⟨b, off, spot⟩ := a
      have hc0 := hp 0 (by omega) 0 (by omega)
      have hspot : spot = none := by simpa [Addr.add] using World.cell?_spot hc0
      subst hspot
      have had : ∀ i j, ((⟨b, off, none⟩ : Addr).add (i * 5)).add j = ⟨b, off + i * 5 + j, none⟩ := fun i j => by rw [add_none, add_none]
      refine ⟨l, some ⟨b, off, none⟩, b, off, cap, by rw [hl], fun _ => ⟨rfl, ?_⟩, fun k hk => ?_⟩
      · rw [had] at hc0; exact lt_of_cell hc0
      · have q := fun j hj => hp k (by omega) j hj
        simp only [had] at q
        exact ⟨q 0 (by omega), q 1 (by omega), q 2 (by omega), q 3 (by omega), q 4 (by omega)⟩

set_option maxRecDepth 100000 in
/-- code that was trod -/
theorem net_of_trod {v : Value} {d : DataW H} {p : List MemPlace} {r : Reach} {b0 : Nat} (hv : Value.okWide Tryz.prog W r b0 26 v) (h : DataW.Trod enc Tryz.prog W 0 sp held 26 v d p) :
    ∃ (n : Nt) (vF vI vO vK vN vC : Value), v = .agg #[.int .i64 n.places, vF, vI, vO, vK, vN, vC] ∧ NetV W.heap.size W n vF vI vO vK vN vC ∧ (∀ z ∈ n.first, Fits z) ∧ (∀ z ∈ n.nums, Fits z) := by
  obtain ⟨cs, rfl, hsz⟩ := okWide_struct Tryz.underlying26 hv
  have h7 : cs.size = 7 := hsz.trans (by kernel_rfl)
  obtain ⟨fuel, hf⟩ := h
  obtain ⟨xs, n, _, _, hl, hlen, hf⟩ := DataW.trod_struct Tryz.underlying26 hf
  obtain ⟨cs⟩ := cs
  have h7' : cs.length = 7 := h7
  match cs, h7' with
  | [c0, c1, c2, c3, c4, c5, c6], _ =>
    have hx : ∀ i, i < 7 → ∃ y, xs[i]? = some y := fun i hi => ⟨_, List.getElem?_eq_getElem (by rw [hlen]; exact hi)⟩
    have k0 : Tryz.prog.cellsOf 3 = 1 := by kernel_rfl
    have k1 : Tryz.prog.cellsOf 22 = 1 := by kernel_rfl
    have k2 : Tryz.prog.cellsOf 23 = 1 := by kernel_rfl
    have k3 : Tryz.prog.cellsOf 24 = 1 := by kernel_rfl
    have k4 : Tryz.prog.cellsOf 2 = 1 := by kernel_rfl
    obtain ⟨y0, e0⟩ := hx 0 (by omega)
    obtain ⟨y1, e1⟩ := hx 1 (by omega)
    obtain ⟨y2, e2⟩ := hx 2 (by omega)
    obtain ⟨y3, e3⟩ := hx 3 (by omega)
    obtain ⟨y4, e4⟩ := hx 4 (by omega)
    obtain ⟨y5, e5⟩ := hx 5 (by omega)
    obtain ⟨y6, e6⟩ := hx 6 (by omega)
    have f0 := hf 0 _ rfl
    have f1 := hf 1 _ rfl
    have f2 := hf 2 _ rfl
    have f3 := hf 3 _ rfl
    have f4 := hf 4 _ rfl
    have f5 := hf 5 _ rfl
    have f6 := hf 6 _ rfl
    rw [e0] at f0
    rw [e1] at f1
    rw [e2] at f2
    rw [e3] at f3
    rw [e4] at f4
    rw [e5] at f5
    rw [e6] at f6
    simp [Value.cells, k0, k1, k2, k3] at f0 f1 f2 f3 f4 f5 f6
    obtain ⟨P, g0, _⟩ := DataW.trod_int Tryz.underlying3 f0
    obtain rfl : c0 = .int .i64 P := by simpa using g0
    obtain ⟨l1, i1, w1⟩ := ints_of_trod Tryz.underlying22 Tryz.underlying2 k4 f1
    obtain ⟨l2, i2, _⟩ := ints_of_trod Tryz.underlying23 Tryz.underlying3 k0 f2
    obtain ⟨l3, i3, _⟩ := ints_of_trod Tryz.underlying23 Tryz.underlying3 k0 f3
    obtain ⟨l4, i4, _⟩ := ints_of_trod Tryz.underlying23 Tryz.underlying3 k0 f4
    obtain ⟨l5, i5, w5⟩ := ints_of_trod Tryz.underlying22 Tryz.underlying2 k4 f5
    obtain ⟨l6, i6⟩ := steps_of_trod f6
    exact ⟨⟨P, l1, l2, l3, l4, l5, l6⟩, c1, c2, c3, c4, c5, c6, rfl, ⟨i1, i2, i3, i4, i5, i6⟩, w1, w5⟩

/-- rows of numbers -/
def IRows (A : Nat → Prop) (w : World) (v : Value) (l : List (List Int)) : Prop :=
  ∃ ad b off cap, v = .slice ad l.length cap ∧ (0 < l.length → ad = some ⟨b, off, none⟩ ∧ A b) ∧ ∀ k, k < l.length → ∃ u, w.cell? ⟨b, off + k, none⟩ = some u ∧ Ints A w u (l.getD k [])
theorem IRows.carry {A A' : Nat → Prop} {w w' : World} {v : Value} {l : List (List Int)} (h : IRows A w v l) (k : Keep A A' w w') : IRows A' w' v l := by
  obtain ⟨ad, b, off, cap, rfl, h1, h2⟩ := h
  refine ⟨ad, b, off, cap, rfl, fun hp => ?_, fun j hj => ?_⟩
  · obtain ⟨e, ha⟩ := h1 hp
    obtain ⟨u, hu, _⟩ := h2 0 hp
    exact ⟨e, (k b ha (lt_of_cell hu)).1⟩
  · obtain ⟨e, ha⟩ := h1 (by omega)
    obtain ⟨u, hu, hi⟩ := h2 j hj
    exact ⟨u, by rw [cell_of_block (k b ha (lt_of_cell hu)).2]; exact hu, hi.carry k⟩
end
end Nx
end Go.Proofs.YtgjhfmkilpmfnaaGreatDoor
/- What the laws' held tells of code. -/
namespace Go.Proofs.YtgjhfmkilpmfnaaGreatDoor
open Go.RowKit
namespace Nx

/-- code is short enough to be held -/
def Held (n : Nt) : Prop := n.places ≤ 300 ∧ n.first.length ≤ 300 ∧ n.ins.length ≤ 30 ∧ n.outs.length ≤ 30 ∧ n.keeps.length ≤ 60 ∧ n.nums.length ≤ 60 ∧ n.code.length ≤ 120
theorem Held.small {n : Nt} (h : Held n) : Small n := ⟨by have := h.1; omega, by have := h.2.2.2.2.2.2; omega, by have := h.2.2.2.2.2.1; omega, by have := h.2.2.1; have := h.2.2.2.1; have := h.2.2.2.2.1; omega⟩
theorem Held.few {n : Nt} {V : List Int} (h : Held n) (hV : V.length ≤ 300) : Few n V := ⟨by omega, by have := h.2.2.1; omega, by have := h.2.2.2.1; omega, by have := h.2.2.2.2.1; omega, by have := h.2.2.2.2.2.2; omega⟩

theorem ix22 (ad : Option Addr) (b off n cap k : Nat) (hk : k < n) (ha : 0 < n → ad = some ⟨b, off, none⟩) (w : World) : (Instr.indexAt 22 (.slice ad n cap) (.int .i64 (k : Int))).run Tryz.prog w = .ok (.pointer (some ⟨b, off + k, none⟩)) w := by
  obtain rfl := ha (by omega)
  rw [run_indexAt_slice _ _ _ _ _ _ _ (by kernel_rfl), if_pos ⟨by omega, by omega⟩]
  have e : (sizeOf (Tryz.prog.elem 22)).run Tryz.prog w = .ok 1 w := by kernel_rfl
  rw [e]
  simp [Result.andThen, Addr.add]

end Nx
end Go.Proofs.YtgjhfmkilpmfnaaGreatDoor
/- A map of places to numbers, told by a plain list; the document's NewMachine. -/
namespace Go.Proofs.YtgjhfmkilpmfnaaGreatDoor
open Go.RowKit Go.Maps
namespace Nx

theorem mapLaw : Keyed Tryz.prog 3 := int_keyed Tryz.underlying3
theorem mapZero (w : World) : (zeroValue 2).run Tryz.prog w = .ok (.int .i64 0) w := by kernel_rfl

/-- it fits 64 bits -/
def F64 (x : Int) : Prop := -9223372036854775808 ≤ x ∧ x ≤ 9223372036854775807
theorem F64.wf {x : Int} (h : F64 x) : (Lit.int .i64 x).wf = true := by
  obtain ⟨h1, h2⟩ := h
  have e1 : IntKind.i64.min = -9223372036854775808 := by decide
  have e2 : IntKind.i64.max = 9223372036854775807 := by decide
  simp [Lit.wf, e1, e2]
  omega

/-- block b is a map that has V's number at each place below V's length (a place that is not in it: 0) -/
def MapIs (w : World) (b n : Nat) (V : List Int) : Prop :=
  ∃ D : DataW Unit, w.ownsMap Tryz.prog 3 (plainElem Tryz.prog 2) b n D ∧ IsMap D ∧ ∀ p : Int, 0 ≤ p → p < V.length → D.atKey (.int .i64 p) (.lit (.int .i64 0)) = .lit (.int .i64 (get V p))

theorem MapIs.lt {w : World} {b n : Nat} {V : List Int} (h : MapIs w b n V) : b < w.heap.size := by obtain ⟨D, h, _⟩ := h; exact h.lt
theorem MapIs.keep {w w' : World} {b n : Nat} {V : List Int} (h : MapIs w b n V) (hb : w'.heap[b]? = w.heap[b]?) : MapIs w' b n V := by
  obtain ⟨D, ⟨es, clock, h1, h2⟩, h3⟩ := h
  exact ⟨D, ⟨es, clock, by rw [hb]; exact h1, h2⟩, h3⟩
theorem MapIs.mono {w : World} {b n n' : Nat} {V : List Int} (h : MapIs w b n V) (hn : n ≤ n') : MapIs w b n' V := by
  obtain ⟨D, h1, h3⟩ := h
  exact ⟨D, h1.mono hn, h3⟩
theorem mapIs_made (w : World) (m : Nat) : MapIs (w.alloc (.map #[] 0)) w.heap.size 0 (List.replicate m 0) := by
  refine ⟨.map [], World.ownsMap_made _ _ _ _, ⟨_, rfl⟩, fun p h0 h1 => ?_⟩
  have e : get (List.replicate m 0) p = 0 := by
    rw [get_in _ _ h0, List.getD_eq_getElem?_getD]
    rw [List.getElem?_replicate]
    split <;> rfl
  rw [e]; rfl

theorem MapIs.look {w : World} {b n : Nat} {V : List Int} (h : MapIs w b n V) (p : Int) (h0 : 0 ≤ p) (h1 : p < V.length) (hp : F64 p) :
    (Instr.lookup 57 (.map (some b)) (.int .i64 p) false).run Tryz.prog w = .ok (.int .i64 (get V p)) w ∧ (Lit.int .i64 (get V p)).wf = true := by
  obtain ⟨D, hD, hm, hat⟩ := h
  obtain ⟨c, hrun, hc, hwc⟩ := hD.lookup_int mapLaw Tryz.underlying57 Tryz.underlying2 (mapZero w) (keyOf_int_mk Tryz.underlying3 hp.wf)
  have e := (hat p h0 h1).symm.trans hc
  simp only [DataW.lit.injEq, Lit.int.injEq, true_and] at e
  rw [e]
  exact ⟨hrun, hwc⟩

theorem MapIs.put {w : World} {b n : Nat} {V : List Int} (h : MapIs w b n V) (hn : n < maxLen) (p x : Int) (h0 : 0 ≤ p) (hp : F64 p) (hx : F64 x) :
    ∃ w', (Instr.mapUpdate 57 (.map (some b)) (.int .i64 p) (.int .i64 x)).run Tryz.prog w = .ok () w' ∧ MapIs w' b (n + 1) (put V p x) ∧ w.grownBy w' (some b) := by
  obtain ⟨D, hD, hm, hat⟩ := h
  obtain ⟨w', hrun, hD', hg⟩ := hD.update mapLaw Tryz.underlying57 hn (keyOf_int_mk Tryz.underlying3 hp.wf) (plainElem_int Tryz.underlying2 hx.wf)
  refine ⟨w', hrun, ⟨_, hD', hm.put _ _, fun q q0 q1 => ?_⟩, hg⟩
  rw [put_len] at q1
  rw [get_put]
  by_cases e : p = q
  · subst e
    rw [if_pos ⟨rfl, h0, q1⟩]
    exact atKey_put_same hm (k := .int .i64 p) (by simp [WideAt.IsKeyLit]) _ _
  · rw [if_neg (fun hh => e hh.1), atKey_put_other (by intro hh; injection hh with _ hh; exact e hh.symm)]
    exact hat q q0 q1

theorem wpList_mapPut (w : World) {ops : Array Oper} {rest : List Oper} {o : Oper} {a : Act} {Q : Exit → Act → World → Prop}
    (hg : o.guard = none) (m x v : Operand) (hop : o.op = Op.mapUpdate 57 m x v) (b n : Nat) (V : List Int)
    (hm : a.eval m = .map (some b)) (p y : Int) (hx : a.eval x = .int .i64 p) (hv : a.eval v = .int .i64 y) (hown : MapIs w b n V) (hn : n < maxLen) (h0 : 0 ≤ p) (hp : F64 p) (hy : F64 y)
    (hK : ∀ w', MapIs w' b (n + 1) (put V p y) → w.grownBy w' (some b) → wpList Tryz.prog ops Q rest (a.put o.dst undef) w') :
    wpList Tryz.prog ops Q (o :: rest) a w := by
  refine wpList_plain hg fun K' hK' => ?_
  obtain ⟨w', hrun, r1, r2⟩ := hown.put hn p y h0 hp hy
  unfold Oper.wp
  simp [execOp, hop, hm, hx, hv, hrun, Result.andThen]
  exact hK' _ _ (hK w' r1 r2)

theorem frGrown {B : Nat} {X : List Nat} {a w w' : World} {b : Nat} (h : Fr B X a w) (hg : w.grownBy w' (some b)) (hb : B ≤ b ∨ b ∈ X) (hB : B ≤ w.heap.size) : Fr B X a w' := by
  obtain ⟨g1, g2, g3, g4, g5⟩ := hg
  refine ⟨g1.trans h.os, g2.trans h.tape, g3.trans h.output, Nat.le_trans h.size g4, fun k hk hm => ?_⟩
  rw [g5 k (Nat.lt_of_lt_of_le hk hB) (by intro e; cases e; rcases hb with hb | hb; · omega
                                          · exact hm hb)]
  exact h.block k hk hm

def firstK (F : List Int) : Nat → List Int
  | 0 => List.replicate F.length 0
  | k + 1 => put (firstK F k) k (F.getD k 0)
theorem firstK_len (F : List Int) (k : Nat) : (firstK F k).length = F.length := by
  induction k with
  | zero => simp [firstK]
  | succ k ih => rw [firstK, put_len, ih]
theorem firstK_at (F : List Int) (k : Nat) (j : Nat) : (firstK F k)[j]? = if j < F.length then (if j < k then F[j]? else some 0) else none := by
  induction k with
  | zero => simp only [firstK, List.getElem?_replicate]; split <;> simp
  | succ k ih =>
    rw [firstK, put_in _ _ _ (by omega), List.getElem?_set, ih, firstK_len]
    simp only [Int.toNat_natCast]
    by_cases e : k = j
    · subst e
      by_cases hl : k < F.length
      · simp [hl]
      · simp [hl]
    · by_cases hl : j < F.length
      · by_cases h2 : j < k
        · simp [e, hl, h2, show j < k + 1 by omega]
        · simp [e, hl, h2, show ¬ j < k + 1 by omega]
      · simp [e, hl]
theorem firstK_all (F : List Int) : firstK F F.length = F := by
  apply List.ext_getElem?
  intro j
  rw [firstK_at]
  by_cases h : j < F.length
  · simp [h]
  · simp [h]

end Nx
end Go.Proofs.YtgjhfmkilpmfnaaGreatDoor
/- The document's NewMachine. -/
namespace Go.Proofs.YtgjhfmkilpmfnaaGreatDoor
open Go.RowKit Go.Maps
namespace Nx

/-- the document's machine: in block bm, its map in block g (of at most m entries), its code in blocks below B -/
structure IsR (B : Nat) (w : World) (bm g m : Nat) (n : Nt) (V : List Int) : Prop where
  row : ∃ vF vI vO vK vN vC, w.heap[bm]? = some (.cells (mCells n.places vF vI vO vK vN vC (.map (some g))) 59 (0, 0)) ∧ Ints (· < B) w vI n.ins ∧ Ints (· < B) w vO n.outs ∧ Ints (· < B) w vK n.keeps ∧ Ints (· < B) w vN n.nums ∧ Steps (· < B) w vC n.code ∧ MapIs w g m V
  hb : B ≤ bm
  hg : B ≤ g
  gm : g ≠ bm

set_option maxHeartbeats 1000000 in
theorem newR_any (B : Nat) (n : Nt) (w : World) (vF vI vO vK vN vC : Value) (h : NetV B w n vF vI vO vK vN vC) (hB : B ≤ w.heap.size) (hfl : n.first.length ≤ 100000) (hF : ∀ k, F64 (n.first.getD k 0)) :
    Calls Tryz.prog 9 #[.agg #[.int .i64 n.places, vF, vI, vO, vK, vN, vC]] w fun e w' => ∃ bm g, e = .returned (.pointer (some ⟨bm, 0, none⟩)) ∧ IsR B w' bm g 100000 n n.first ∧ w.heap.size ≤ bm ∧ w.heap.size ≤ g ∧ bm < w'.heap.size ∧ Below w.heap.size w w' := by
  have HV : Hid (NetV B w n vF vI vO vK vN vC) := h
  obtain ⟨adF, bF, offF, capF, rfl, hF1, hF2⟩ := id h.f
  have HF1 : Hid ((0 < n.first.length → adF = some ⟨bF, offF, none⟩ ∧ bF < B) ∧ ∀ k, k < n.first.length → w.cell? ⟨bF, offF + k, none⟩ = some (.int .i64 (n.first.getD k 0))) := ⟨hF1, hF2⟩
  have HF : Hid (∀ k, F64 (n.first.getD k 0)) := hF
  have HB : Hid (B ≤ w.heap.size) := hB
  clear h hF1 hF2 hF hB
  have hmm := @run_makeMap Tryz.prog
  go_enter Tryz.func9, Tryz.ntmps9
  go_wp2
  go_loopw [13] (fun i wr => ∃ k : Nat, k ≤ n.first.length ∧ i = .int .i64 k ∧ Hid (MapIs wr (w.heap.size + 1) k (firstK n.first k)) ∧
      Hid (wr.heap[w.heap.size + 1 + 1]? = some (.cells (mCells n.places (.slice adF n.first.length capF) vI vO vK vN vC (.map (some (w.heap.size + 1)))) 59 (0, 0))) ∧ Hid (Below w.heap.size w wr))
    (fun i _ => n.first.length - (intOf i).toNat)
  case atStart =>
    refine ⟨0, Nat.zero_le _, rfl, ?_, ?_, ?_⟩
    · have h1 := mapIs_made (w.alloc (.cells #[.int .i64 n.places, .slice adF n.first.length capF, vI, vO, vK, vN, vC] 26)) n.first.length
      have h2 := h1.keep (w' := (((w.alloc (.cells #[.int .i64 n.places, .slice adF n.first.length capF, vI, vO, vK, vN, vC] 26)).alloc (.map #[] 0)).alloc (.cells (mCells n.places (.slice adF n.first.length capF) vI vO vK vN vC (.map (some (w.heap.size + 1)))) 59))) (Below.heap_alloc _ _ _ (by simp))
      unfold Hid
      simpa [firstK, mCells] using h2
    · have h3 := heap_alloc_new ((w.alloc (.cells #[.int .i64 n.places, .slice adF n.first.length capF, vI, vO, vK, vN, vC] 26)).alloc (.map #[] 0)) (.cells (mCells n.places (.slice adF n.first.length capF) vI vO vK vN vC (.map (some (w.heap.size + 1)))) 59)
      unfold Hid
      simpa [mCells] using h3
    · exact (((Below.refl _ _).alloc (Nat.le_refl _) _).alloc (by simp) _).alloc (by simp; omega) _
  case round =>
    obtain ⟨k, hk, rfl, HM, HR, HW⟩ := hrel
    by_cases hlt : k < n.first.length
    · have hix := ix22 adF bF offF n.first.length capF k hlt (fun h => (HF1.out.1 h).1)
      have hbl := (HF1.out.1 (by omega)).2
      obtain ⟨x, hx⟩ : ∃ x, x = n.first.getD k 0 := ⟨_, rfl⟩
      have cx : wr.cell? ⟨bF, offF + k, none⟩ = some (.int .i64 x) := by
        rw [cell_of_block (HW.out.block bF (Nat.lt_of_lt_of_le hbl HB.out)), hx]; exact HF1.out.2 k hlt
      have c7 : wr.cell? ⟨w.heap.size + 1 + 1, 7, none⟩ = some (.map (some (w.heap.size + 1))) := by rw [cell_row HR.out]; rfl
      have HX : Hid (x = n.first.getD k 0) := hx
      clear hx hbl
      go_wp2_with (first
        | (at_mapUpdate; refine wpList_mapPut _ rfl _ _ _ rfl (w.heap.size + 1) k (firstK n.first k) rfl k x rfl rfl HM.out (by unfold maxLen; omega) (by omega) ⟨by omega, by omega⟩ (by rw [HX.out]; exact HF.out k) ?_; intro w1 hown1 hg1)
        | go_in)
      go_roundw
      case rel =>
        refine ⟨k + 1, by omega, by go_num, by unfold Hid; rw [firstK, ← HX.out]; exact hown1, ?_, ?_⟩
        · obtain ⟨_, _, _, _, g5⟩ := id hg1
          unfold Hid; rw [g5 _ (lt_of_block HR.out) (by intro e; injection e with e; omega)]; exact HR.out
        · exact HW.out.grown hg1 HW.out.size (fun j hj => by cases hj; omega)
      case measure => simp [intOf]; omega
    · obtain rfl : k = n.first.length := by omega
      go_wp2
      go_ret
      have hk : Keep (· < B) (· < B) w wr := fun b hl _ => ⟨hl, HW.out.block b (Nat.lt_of_lt_of_le hl HB.out)⟩
      have hM := HM.out
      rw [firstK_all] at hM
      exact ⟨w.heap.size + 1 + 1, w.heap.size + 1, rfl, ⟨⟨_, vI, vO, vK, vN, vC, HR.out, HV.out.i.carry hk, HV.out.o.carry hk, HV.out.k.carry hk, HV.out.m.carry hk, HV.out.c.carry hk, hM.mono hfl⟩, by have := HB.out; omega, by have := HB.out; omega, by omega⟩, by omega, by omega, lt_of_block HR.out, HW.out⟩

end Nx
end Go.Proofs.YtgjhfmkilpmfnaaGreatDoor
