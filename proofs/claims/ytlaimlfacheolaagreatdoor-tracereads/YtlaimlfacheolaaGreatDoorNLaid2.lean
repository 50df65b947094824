/- What the listed variables' readings give the walks: Fine. -/
import Derived.Test.YtlaimlfacheolaaGreatDoorNLaid
namespace Go.Proofs.YtlaimlfacheolaaGreatDoor
open Go.ChangeShapes Go.WideShapes Go.ChangeAt Go.RowKit

def TabAt (w : World) (g : Nat) (l : List Value) : Prop := ∀ (i : Nat) (v : Value), l[i]? = some v → w.cell? ⟨g, i, none⟩ = some v
def fl0 : DataW Unit → List Value
  | .lit (.string s) => [.string ⟨s.toArray⟩]
  | .lit (.int k n) => [.int k n]
  | _ => []
def flA (f : DataW Unit → List Value) : DataW Unit → List Value
  | .agg ps => ps.flatMap f
  | _ => []
def Opens (W : World) (t k : Nat) (f : DataW Unit → List Value) : Prop :=
  ∀ fuel cs d p, DataW.trod (fun _ => ()) Tryz.prog W 0 (fun _ => true) false fuel t cs = some (d, p) → cs = f d ∧ cs.length = k
theorem opens_int {W : World} {t : Nat} {k : IntKind} (hu : Tryz.prog.underlying t = some (.int k)) : Opens W t 1 fl0 := by
  intro fuel cs d p h
  cases fuel with
  | zero => simp [DataW.trod] at h
  | succ fuel =>
    rcases cs with _ | ⟨c, _ | ⟨c', r⟩⟩
    · simp [DataW.trod, hu] at h
    · cases c with
      | int k' n =>
        simp only [DataW.trod, hu] at h
        split at h
        · rename_i hk
          have hb := congrArg Prod.fst (Option.some.inj h)
          simp only at hb
          subst hb
          rw [hk.1]
          exact ⟨rfl, rfl⟩
        · cases h
      | _ => simp [DataW.trod, hu] at h
    · simp [DataW.trod, hu] at h
theorem two_of {α : Type} : ∀ (l : List α), l.length = 2 → ∃ x y, l = [x, y]
  | [x, y], _ => ⟨x, y, rfl⟩
theorem opens_two {W : World} {t a b : Nat} {f g : Field} (hu : Tryz.prog.underlying t = some (.struct #[f, g])) (hf : f.type = a ∧ f.offset = 0) (hg : g.type = b ∧ g.offset = 1) (hct : Tryz.prog.cellsOf t = 2) (hca : Tryz.prog.cellsOf a = 1) (hcb : Tryz.prog.cellsOf b = 1) (ha : Opens W a 1 fl0) (hb : Opens W b 1 fl0) : Opens W t 2 (flA fl0) := by
  intro fuel cs d p h
  cases fuel with
  | zero => simp [DataW.trod] at h
  | succ fuel =>
    simp only [DataW.trod, hu, hct] at h
    split at h
    · rename_i hl
      obtain ⟨xs, hm, hx⟩ := Option.map_eq_some_iff.1 h
      obtain ⟨x, y, rfl⟩ : ∃ x y, cs = [x, y] := two_of cs hl
      have hd := congrArg Prod.fst hx
      simp only at hd
      subst hd
      simp only [List.mapM_cons, List.mapM_nil, Option.bind_eq_bind, Option.bind_eq_some_iff, Option.pure_def, Option.some.injEq, hf.1, hf.2, hg.1, hg.2, hca, hcb] at hm
      obtain ⟨b0, hb0, r0, ⟨b1, hb1, r1, rfl, rfl⟩, rfl⟩ := hm
      have e0 := (ha fuel _ b0.1 b0.2 hb0).1
      have e1 := (hb fuel _ b1.1 b1.2 hb1).1
      refine ⟨?_, rfl⟩
      show [x, y] = fl0 b0.1 ++ (fl0 b1.1 ++ [])
      rw [← e0, ← e1]; rfl
    · cases h
theorem laid_mem {W : World} : ∀ {l : List (String × DataW Unit)} {ps : List MemPlace}, DataW.LaidVars Tryz.prog W l ps → ∀ x ∈ l, ∃ g t cs f p, Tryz.prog.globalNamed x.1 = some g ∧ (Tryz.prog.globals[g]?).map (·.type) = some t ∧ W.var? Tryz.prog x.1 = some cs ∧ DataW.trod (fun _ => ()) Tryz.prog W 0 (fun _ => true) false f t cs.toList = some (x.2, p) := by
  intro l
  induction l with
  | nil => intro ps _ x hx; cases hx
  | cons y r ih =>
    intro ps h x hx
    obtain ⟨g, t, cs, f, p, q, h1, h2, h3, h4, h5, _⟩ := h
    rcases List.mem_cons.1 hx with rfl | hx
    · exact ⟨g, t, cs, f, p, h1, h2, h3, h4⟩
    · exact ih h5 x hx
theorem tab_of {W : World} {l : List (String × DataW Unit)} {ps : List MemPlace} (hl : DataW.LaidVars Tryz.prog W l ps) {n : String} {d : DataW Unit} (hm : (n, d) ∈ l) {g t k : Nat} {f : DataW Unit → List Value} (hg : Tryz.prog.globalNamed n = some g) (ht : (Tryz.prog.globals[g]?).map (·.type) = some t) (ho : Opens W t k f) : TabAt W g (f d) := by
  obtain ⟨g', t', cs, fu, p, h1, h2, h3, h4⟩ := laid_mem hl _ hm
  obtain rfl := Option.some.inj (hg.symm.trans h1)
  obtain rfl := Option.some.inj (ht.symm.trans h2)
  have e := (ho fu _ _ _ h4).1
  intro i v hv
  rw [World.var?_cell hg h3 i, ← Array.getElem?_toList, e]
  exact hv
theorem op_int {W : World} : Opens W 3 1 fl0 := opens_int Tryz.underlying3
theorem op_errno {W : World} : Opens W 24 1 fl0 := opens_int Tryz.underlying24
theorem op_fault {W : World} : Opens W 26 2 (flA fl0) := opens_two Tryz.underlying26 ⟨rfl, rfl⟩ ⟨rfl, rfl⟩ (by kernel_rfl) (by kernel_rfl) (by kernel_rfl) op_errno op_int
theorem tFine : (Tryz.prog.globals[0]?).map (·.type) = some 26 := by kernel_rfl
theorem gFine : Tryz.prog.globalNamed "clepsydra/clepsydraref.Fine" = some 0 := by kernel_rfl
theorem fine_laid {W : World} {l : List (String × DataW Unit)} {ps : List MemPlace} (hl : DataW.LaidVars Tryz.prog W l ps) (hm : ("clepsydra/clepsydraref.Fine", Rows.laid_clepsydra_clepsydraref_Fine) ∈ l) : W.cell? ⟨0, 0, none⟩ = some (.int .i64 0) ∧ W.cell? ⟨0, 1, none⟩ = some (.int .i64 (-1)) := by
  have h : TabAt W 0 [.int .i64 0, .int .i64 (-1)] := tab_of hl hm gFine tFine op_fault
  exact ⟨h 0 _ rfl, h 1 _ rfl⟩
end Go.Proofs.YtlaimlfacheolaaGreatDoor
