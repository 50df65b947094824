/- What the listed variables' readings give the walks: the tables, the marks, Fine, the handle of type error. -/
import Derived.Test.YtpbfmfhjgghldaaDoorRows
import Derived.Test.YtpbfmfhjgghldaaDoorJDraws2
import Derived.ProofKit
import Derived.LaidMore
import Derived.OpenShut
import Derived.ShutString
import Derived.Stop.Joined
import Derived.LaidHandle
import Derived.Lib.LaidTab
namespace Go.Proofs.YtpbfmfhjgghldaaDoor
open Go.ChangeShapes Go.WideShapes Go.ChangeAt Go.RowKit Px

theorem ownKn : ownKnob Tryd.prog.godebug = none := by kernel_rfl
theorem laidOut : laidOutB Tryd.prog = true := by kernel_rfl

def fl0 : DataW Unit → List Value
  | .lit (.string s) => [.string ⟨s.toArray⟩]
  | .lit (.int k n) => [.int k n]
  | _ => []
def flA (f : DataW Unit → List Value) : DataW Unit → List Value
  | .agg ps => ps.flatMap f
  | _ => []
/-- what is read of such a type says its cells -/
def Opens (W : World) (t k : Nat) (f : DataW Unit → List Value) : Prop :=
  ∀ fuel cs d p, DataW.trod (fun _ => ()) Tryd.prog W 0 (fun _ => true) false fuel t cs = some (d, p) → cs = f d ∧ cs.length = k
theorem opens_string {W : World} {t : Nat} (hu : Tryd.prog.underlying t = some .string) : Opens W t 1 fl0 := by
  intro fuel cs d p h
  cases fuel with
  | zero => simp [DataW.trod] at h
  | succ fuel =>
    rcases cs with _ | ⟨c, _ | ⟨c', r⟩⟩
    · simp [DataW.trod, hu] at h
    · cases c with
      | string s =>
        simp only [DataW.trod, hu] at h
        split at h
        · have hb := congrArg Prod.fst (Option.some.inj h)
          simp only at hb
          subst hb
          exact ⟨rfl, rfl⟩
        · cases h
      | _ => simp [DataW.trod, hu] at h
    · simp [DataW.trod, hu] at h
theorem opens_int {W : World} {t : Nat} {k : IntKind} (hu : Tryd.prog.underlying t = some (.int k)) : Opens W t 1 fl0 := by
  intro fuel cs d p h
  cases fuel with
  | zero => simp [DataW.trod] at h
  | succ fuel =>
    rcases cs with _ | ⟨c, _ | ⟨c', r⟩⟩
    · simp [DataW.trod, hu] at h
    · cases c with
      | int k' n =>
        simp only [DataW.trod, hu] at h
        split at h
        · rename_i hk
          have hb := congrArg Prod.fst (Option.some.inj h)
          simp only at hb
          subst hb
          rw [hk.1]
          exact ⟨rfl, rfl⟩
        · cases h
      | _ => simp [DataW.trod, hu] at h
    · simp [DataW.trod, hu] at h
/-- pieces one behind the other -/
theorem chunks {k : Nat} {f : DataW Unit → List Value} : ∀ (ds : List (DataW Unit)) (cs : List Value), cs.length = ds.length * k → (∀ i d, ds[i]? = some d → (cs.drop (i * k)).take k = f d) → cs = ds.flatMap f := by
  intro ds
  induction ds with
  | nil => intro cs hl _; simp at hl; simp [hl]
  | cons d r ih =>
    intro cs hl h
    have h0 := h 0 d rfl
    rw [Nat.zero_mul, List.drop_zero] at h0
    have h1 := ih (cs.drop k) (by rw [List.length_drop, hl, List.length_cons, Nat.add_mul]; omega) (fun i d hi => by
      have := h (i + 1) d (by simpa using hi)
      rw [Nat.add_mul, Nat.one_mul, Nat.add_comm, ← List.drop_drop] at this
      exact this)
    rw [List.flatMap_cons, ← h0, ← h1, List.take_append_drop]
theorem opens_array {W : World} {t e n k : Nat} {f : DataW Unit → List Value} (hu : Tryd.prog.underlying t = some (.array n e)) (hce : Tryd.prog.cellsOf e = k) (hct : Tryd.prog.cellsOf t = n * k) (he : Opens W e k f) : Opens W t (n * k) (flA f) := by
  intro fuel cs d p h
  cases fuel with
  | zero => simp [DataW.trod] at h
  | succ fuel =>
    simp only [DataW.trod, hu, hce, hct] at h
    split at h
    · rename_i hl
      obtain ⟨xs, hm, hx⟩ := Option.map_eq_some_iff.1 h
      have hd := congrArg Prod.fst hx
      simp only at hd
      subst hd
      have hxl : xs.length = n := by simpa using Lib.mapM_length hm
      refine ⟨?_, hl⟩
      show cs = (xs.map (·.1)).flatMap f
      refine chunks (k := k) _ cs (by rw [List.length_map, hxl]; exact hl) (fun i d hi => ?_)
      rw [List.getElem?_map, Option.map_eq_some_iff] at hi
      obtain ⟨b, hb, rfl⟩ := hi
      have hin : i < n := by rw [← hxl]; exact (List.getElem?_eq_some_iff.1 hb).1
      obtain ⟨b', hb', hf⟩ := Lib.mapM_at hm i i (by simp [hin])
      obtain rfl : b = b' := Option.some.inj (hb.symm.trans hb')
      exact (he fuel _ b.1 b.2 hf).1
    · cases h
theorem two_of {α : Type} : ∀ (l : List α), l.length = 2 → ∃ x y, l = [x, y]
  | [x, y], _ => ⟨x, y, rfl⟩
theorem opens_two {W : World} {t a b : Nat} {f g : Field} (hu : Tryd.prog.underlying t = some (.struct #[f, g])) (hf : f.type = a ∧ f.offset = 0) (hg : g.type = b ∧ g.offset = 1) (hct : Tryd.prog.cellsOf t = 2) (hca : Tryd.prog.cellsOf a = 1) (hcb : Tryd.prog.cellsOf b = 1) (ha : Opens W a 1 fl0) (hb : Opens W b 1 fl0) : Opens W t 2 (flA fl0) := by
  intro fuel cs d p h
  cases fuel with
  | zero => simp [DataW.trod] at h
  | succ fuel =>
    simp only [DataW.trod, hu, hct] at h
    split at h
    · rename_i hl
      obtain ⟨xs, hm, hx⟩ := Option.map_eq_some_iff.1 h
      obtain ⟨x, y, rfl⟩ : ∃ x y, cs = [x, y] := two_of cs hl
      have hd := congrArg Prod.fst hx
      simp only at hd
      subst hd
      simp only [List.mapM_cons, List.mapM_nil, Option.bind_eq_bind, Option.bind_eq_some_iff, Option.pure_def, Option.some.injEq, hf.1, hf.2, hg.1, hg.2, hca, hcb] at hm
      obtain ⟨b0, hb0, r0, ⟨b1, hb1, r1, rfl, rfl⟩, rfl⟩ := hm
      have e0 := (ha fuel _ b0.1 b0.2 hb0).1
      have e1 := (hb fuel _ b1.1 b1.2 hb1).1
      refine ⟨?_, rfl⟩
      show [x, y] = fl0 b0.1 ++ (fl0 b1.1 ++ [])
      rw [← e0, ← e1]; rfl
    · cases h
theorem laid_mem {W : World} : ∀ {l : List (String × DataW Unit)} {ps : List MemPlace}, DataW.LaidVars Tryd.prog W l ps → ∀ x ∈ l, ∃ g t cs f p, Tryd.prog.globalNamed x.1 = some g ∧ (Tryd.prog.globals[g]?).map (·.type) = some t ∧ W.var? Tryd.prog x.1 = some cs ∧ DataW.trod (fun _ => ()) Tryd.prog W 0 (fun _ => true) false f t cs.toList = some (x.2, p) := by
  intro l
  induction l with
  | nil => intro ps _ x hx; cases hx
  | cons y r ih =>
    intro ps h x hx
    obtain ⟨g, t, cs, f, p, q, h1, h2, h3, h4, h5, _⟩ := h
    rcases List.mem_cons.1 hx with rfl | hx
    · exact ⟨g, t, cs, f, p, h1, h2, h3, h4⟩
    · exact ih h5 x hx
/-- a listed variable of plain data: its cells -/
theorem tab_of {W : World} {l : List (String × DataW Unit)} {ps : List MemPlace} (hl : DataW.LaidVars Tryd.prog W l ps) {n : String} {d : DataW Unit} (hm : (n, d) ∈ l) {g t k : Nat} {f : DataW Unit → List Value} (hg : Tryd.prog.globalNamed n = some g) (ht : (Tryd.prog.globals[g]?).map (·.type) = some t) (ho : Opens W t k f) : TabAt W g (f d) := by
  obtain ⟨g', t', cs, fu, p, h1, h2, h3, h4⟩ := laid_mem hl _ hm
  obtain rfl := Option.some.inj (hg.symm.trans h1)
  obtain rfl := Option.some.inj (ht.symm.trans h2)
  have e := (ho fu _ _ _ h4).1
  intro i v hv
  rw [World.var?_cell hg h3 i, ← Array.getElem?_toList, e]
  exact hv
theorem big_of {W : World} {l : List (String × DataW Unit)} {ps : List MemPlace} (hl : DataW.LaidVars Tryd.prog W l ps) {n : String} {d : DataW Unit} (hm : (n, d) ∈ l) {g : Nat} (hg : Tryd.prog.globalNamed n = some g) : g < W.heap.size := by
  obtain ⟨g', t', cs, fu, p, h1, h2, h3, h4⟩ := laid_mem hl _ hm
  rw [World.var?, hg, Option.bind_some] at h3
  by_cases hlt : g < W.heap.size
  · exact hlt
  · rw [show W.heap[g]? = none from Array.getElem?_eq_none (by omega)] at h3
    simp at h3
theorem op_str {W : World} : Opens W 9 1 fl0 := opens_string Tryd.underlying9
theorem op_int {W : World} : Opens W 3 1 fl0 := opens_int Tryd.underlying3
theorem op_errno {W : World} : Opens W 60 1 fl0 := opens_int Tryd.underlying60
theorem op_sign {W : World} : Opens W 138 2 (flA fl0) := opens_two Tryd.underlying138 ⟨rfl, rfl⟩ ⟨rfl, rfl⟩ (by kernel_rfl) (by kernel_rfl) (by kernel_rfl) op_str op_int
theorem op_21 {W : World} : Opens W 83 (21 * 1) (flA fl0) := opens_array Tryd.underlying83 (by kernel_rfl) (by kernel_rfl) op_str
theorem op_4 {W : World} : Opens W 85 (4 * 1) (flA fl0) := opens_array Tryd.underlying85 (by kernel_rfl) (by kernel_rfl) op_str
theorem op_3 {W : World} : Opens W 131 (3 * 1) (flA fl0) := opens_array Tryd.underlying131 (by kernel_rfl) (by kernel_rfl) op_str
theorem op_2s {W : World} : Opens W 139 (2 * 2) (flA (flA fl0)) := opens_array Tryd.underlying139 (by kernel_rfl) (by kernel_rfl) op_sign
theorem op_4s {W : World} : Opens W 140 (4 * 2) (flA (flA fl0)) := opens_array Tryd.underlying140 (by kernel_rfl) (by kernel_rfl) op_sign
theorem op_54s {W : World} : Opens W 141 (5 * (4 * 2)) (flA (flA (flA fl0))) := opens_array Tryd.underlying141 (by kernel_rfl) (by kernel_rfl) op_4s
theorem gMarks : Tryd.prog.globalNamed "clepsydra/lex.marks" = some 0 := by kernel_rfl
theorem gWords : Tryd.prog.globalNamed "clepsydra/parse.words" = some 2 := by kernel_rfl
theorem gKinds : Tryd.prog.globalNamed "clepsydra/parse.kinds" = some 1 := by kernel_rfl
theorem gLeads : Tryd.prog.globalNamed "clepsydra/parse.leads" = some 4 := by kernel_rfl
theorem gAhead : Tryd.prog.globalNamed "clepsydra/parse.ahead" = some 5 := by kernel_rfl
theorem gBetween : Tryd.prog.globalNamed "clepsydra/parse.between" = some 6 := by kernel_rfl
theorem gRange : Tryd.prog.globalNamed "strconv.ErrRange" = some 8 := by kernel_rfl
theorem nTypes : Tryd.prog.types.size = 164 := by kernel_rfl
theorem oneRow : ((List.range 164).filter fun t => Tryd.prog.rowNamed t [101, 114, 114, 111, 114]) = [28] := by kernel_rfl
theorem marks_of {W : World} (h : TabAt W 0 (Lx.marks.map markS)) : Marks W := by
  intro i hi
  have hl : i < Lx.marks.length := hi
  refine h i _ ?_
  rw [List.getElem?_map, List.getElem?_eq_getElem hl, List.getD_eq_getElem?_getD, List.getElem?_eq_getElem hl]
  rfl
end Go.Proofs.YtpbfmfhjgghldaaDoor
