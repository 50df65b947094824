/- What the listed variables' readings give the walks: the marks, Fine, the handle of type error. -/
import Derived.Test.YthcapeglhebdjaaDoorRows
import Derived.Test.YthcapeglhebdjaaDoorSplits
import Derived.ProofKit
import Derived.LaidMore
import Derived.OpenShut
import Derived.ShutString
import Derived.Stop.Joined
import Derived.LaidHandle
import Derived.Lib.LaidTab
namespace Go.Proofs.YthcapeglhebdjaaDoor
open Go.ChangeShapes Go.WideShapes Go.ChangeAt Go.RowKit

theorem ownKn : ownKnob Tryd.prog.godebug = none := by kernel_rfl
theorem laidOut : laidOutB Tryd.prog = true := by kernel_rfl
theorem gFine : Tryd.prog.globalNamed "clepsydra/clepsydraref.Fine" = some 0 := by kernel_rfl
theorem gMarks : Tryd.prog.globalNamed "clepsydra/lex.marks" = some 1 := by kernel_rfl
theorem gErr : Tryd.prog.globalNamed "errors.errorType" = some 2 := by kernel_rfl
theorem tFine : (Tryd.prog.globals[0]?).map (·.type) = some 25 := by kernel_rfl
theorem tMarks : (Tryd.prog.globals[1]?).map (·.type) = some 68 := by kernel_rfl
theorem c25 : Tryd.prog.cellsOf 25 = 2 := by kernel_rfl
theorem c68 : Tryd.prog.cellsOf 68 = 21 := by kernel_rfl
theorem c9 : Tryd.prog.cellsOf 9 = 1 := by kernel_rfl
theorem c23 : Tryd.prog.cellsOf 23 = 1 := by kernel_rfl
theorem c3 : Tryd.prog.cellsOf 3 = 1 := by kernel_rfl
theorem rtRow : (Tryd.prog.cutTypes.find? (·.1 == "internal/reflectlite.rtype")).map (·.2) = some 88 := by kernel_rfl
theorem nTypes : Tryd.prog.types.size = 126 := by kernel_rfl
theorem oneRow : ((List.range 126).filter fun t => Tryd.prog.rowNamed t [101, 114, 114, 111, 114]) = [30] := by kernel_rfl

/-- an array of strings that reads as known strings holds them -/
theorem strs_of_trod {H : Type} {enc : TypeId × Value → H} {w : World} {base : Nat} {sp : Nat → Bool} {held : Bool} {fuel : Nat} {cs : List Value} {L : List (List UInt8)} {p : List MemPlace}
    (h : DataW.trod enc Tryd.prog w base sp held fuel 68 cs = some (.agg (L.map fun s => .lit (.string s)), p)) : cs = L.map markS := by
  cases fuel with
  | zero => simp [DataW.trod] at h
  | succ fuel =>
    simp only [DataW.trod, Tryd.underlying68, c9, c68, Nat.mul_one] at h
    split at h
    · rename_i hl
      obtain ⟨xs, hm, hx⟩ := Option.map_eq_some_iff.1 h
      have hxs : xs.map (·.1) = L.map fun s => (DataW.lit (.string s) : DataW H) := by
        have := congrArg Prod.fst hx
        simpa using this
      have hxl : xs.length = 21 := by simpa using Lib.mapM_length hm
      have hzl : L.length = 21 := by
        have := congrArg List.length hxs
        simp at this
        omega
      apply List.ext_getElem?
      intro i
      by_cases hi : i < 21
      · obtain ⟨b, hb, hf⟩ := Lib.mapM_at hm i i (by simp [hi])
        obtain ⟨c, hc⟩ : ∃ c, cs[i]? = some c := ⟨cs[i]'(by omega), List.getElem?_eq_getElem (by omega)⟩
        have hcs : (cs.drop i).take 1 = [c] := by
          rw [List.drop_eq_getElem_cons (by omega)]
          have := List.getElem?_eq_some_iff.1 hc
          simp [this.2]
        have h2 : (xs.map (·.1))[i]? = some b.1 := by simp [hb]
        rw [hxs] at h2
        simp only [List.getElem?_map, Option.map_eq_some_iff] at h2
        obtain ⟨s0, hs0, he0⟩ := h2
        cases fuel with
        | zero => simp [DataW.trod] at hf
        | succ fuel =>
          rw [hcs] at hf
          cases c with
          | string s =>
            simp only [DataW.trod, Tryd.underlying9] at hf
            split at hf
            · have hb1 := congrArg Prod.fst (Option.some.inj hf)
              rw [← he0] at hb1
              simp at hb1
              rw [hc, List.getElem?_map, hs0]
              simp only [Option.map_some, markS, ← hb1]
            · cases hf
          | _ => simp [DataW.trod, Tryd.underlying9] at hf
      · rw [List.getElem?_eq_none (by omega), List.getElem?_eq_none (by simp; omega)]
    · cases h
theorem marks_laid {W : World} {cs : Array Value} {fuel : Nat} {p : List MemPlace} (hv : W.var? Tryd.prog "clepsydra/lex.marks" = some cs)
    (hd : DataW.trod (fun _ => ()) Tryd.prog W 0 (fun _ => true) false fuel 68 cs.toList = some (Rows.laid_clepsydra_lex_marks, p)) : Marks W := by
  have e : (Rows.laid_clepsydra_lex_marks : DataW Unit) = .agg (Lx.marks.map fun s => .lit (.string s)) := rfl
  rw [e] at hd
  have h := strs_of_trod hd
  intro i hi
  have hc := World.var?_cell gMarks hv i
  have hl : i < Lx.marks.length := hi
  rw [hc, ← Array.getElem?_toList, h, List.getElem?_map, List.getElem?_eq_getElem hl, List.getD_eq_getElem?_getD, List.getElem?_eq_getElem hl]
  rfl
theorem errType_laid {W : World} (h : handlesMet Tryd.prog [("errors.errorType", Rows.laid_errors_errorType)] W) : ErrType W := by
  obtain ⟨name, u, ty, e1, e2, e3, e4, e5⟩ := h _ (List.mem_singleton.2 rfl)
  have en : name = [101, 114, 114, 111, 114] := (Option.some.inj e1).symm
  subst en
  obtain rfl := Option.some.inj (rtRow.symm.trans e2)
  have hm : ty ∈ (List.range 126).filter fun t => Tryd.prog.rowNamed t [101, 114, 114, 111, 114] := List.mem_filter.2 ⟨List.mem_range.2 (by rw [← nTypes]; exact e3), e4⟩
  rw [oneRow] at hm
  obtain rfl := List.mem_singleton.1 hm
  have hh : typeHandle Tryd.prog 30 = .pointer (some ⟨3, 30, none⟩) := by kernel_rfl
  rw [hh] at e5
  simpa [ErrType] using World.var?_cell gErr e5 0
theorem two_of {α : Type} : ∀ (l : List α), l.length = 2 → ∃ x y, l = [x, y]
  | [x, y], _ => ⟨x, y, rfl⟩
theorem fine_laid {W : World} {cs : Array Value} {fuel : Nat} {p : List MemPlace} (hv : W.var? Tryd.prog "clepsydra/clepsydraref.Fine" = some cs)
    (hd : DataW.trod (fun _ => ()) Tryd.prog W 0 (fun _ => true) false fuel 25 cs.toList = some (Rows.laid_clepsydra_clepsydraref_Fine, p)) : Fine W := by
  have h0 := World.var?_cell gFine hv 0
  have h1 := World.var?_cell gFine hv 1
  cases fuel with
  | zero => simp [DataW.trod] at hd
  | succ fuel =>
    simp only [DataW.trod, Tryd.underlying25] at hd
    split at hd
    · rename_i hl
      rw [c25] at hl
      obtain ⟨xs, hm, hx⟩ := Option.map_eq_some_iff.1 hd
      obtain ⟨l⟩ := cs
      obtain ⟨x, y, rfl⟩ : ∃ x y, l = [x, y] := two_of l hl
      simp only [List.mapM_cons, List.mapM_nil, Option.bind_eq_bind, Option.bind_eq_some_iff, Option.pure_def, Option.some.injEq, c23, c3] at hm
      obtain ⟨b0, hb0, r0, ⟨b1, hb1, r1, rfl, rfl⟩, rfl⟩ := hm
      obtain ⟨n0, e0, f0, _⟩ := DataW.trod_int Tryd.underlying23 hb0
      obtain ⟨n1, e1, f1, _⟩ := DataW.trod_int Tryd.underlying3 hb1
      rw [f0, f1] at hx
      simp [Rows.laid_clepsydra_clepsydraref_Fine] at hx e0 e1
      obtain ⟨⟨rfl, rfl⟩, _⟩ := hx
      subst e0; subst e1
      exact ⟨by simpa using h0, by simpa using h1⟩
    · cases hd
theorem splits_laid {W : World} (h : laidMetH Tryd.prog Rows.lexSplitsRow.laid W) : Marks W ∧ Fine W ∧ ErrType W := by
  have h' : laidMet Tryd.prog [("clepsydra/clepsydraref.Fine", Rows.laid_clepsydra_clepsydraref_Fine), ("clepsydra/lex.marks", Rows.laid_clepsydra_lex_marks)] W ∧ handlesMet Tryd.prog [("errors.errorType", Rows.laid_errors_errorType)] W := h
  obtain ⟨⟨ps, ⟨g0, t0, cs0, f0, p0, q0, hg0, ht0, hv0, hd0, ⟨g1, t1, cs1, f1, p1, q1, hg1, ht1, hv1, hd1, _, _⟩, _⟩, _, _⟩, hE⟩ := h'
  obtain rfl := Option.some.inj (gFine.symm.trans hg0)
  obtain rfl := Option.some.inj (gMarks.symm.trans hg1)
  obtain rfl := Option.some.inj (tFine.symm.trans ht0)
  obtain rfl := Option.some.inj (tMarks.symm.trans ht1)
  exact ⟨marks_laid hv1 hd1, fine_laid hv0 hd0, errType_laid hE⟩
theorem pieces_laid {W : World} (h : laidMetH Tryd.prog Rows.lexPiecesRow.laid W) : Marks W ∧ ErrType W := by
  have h' : laidMet Tryd.prog [("clepsydra/lex.marks", Rows.laid_clepsydra_lex_marks)] W ∧ handlesMet Tryd.prog [("errors.errorType", Rows.laid_errors_errorType)] W := h
  obtain ⟨⟨ps, ⟨g1, t1, cs1, f1, p1, q1, hg1, ht1, hv1, hd1, _, _⟩, _, _⟩, hE⟩ := h'
  obtain rfl := Option.some.inj (gMarks.symm.trans hg1)
  obtain rfl := Option.some.inj (tMarks.symm.trans ht1)
  exact ⟨marks_laid hv1 hd1, errType_laid hE⟩
theorem blanks_laid {W : World} (h : laidMetH Tryd.prog Rows.lexBlanksRow.laid W) : Marks W := by
  have h' : laidMet Tryd.prog [("clepsydra/lex.marks", Rows.laid_clepsydra_lex_marks)] W := h
  obtain ⟨ps, ⟨g1, t1, cs1, f1, p1, q1, hg1, ht1, hv1, hd1, _, _⟩, _, _⟩ := h'
  obtain rfl := Option.some.inj (gMarks.symm.trans hg1)
  obtain rfl := Option.some.inj (tMarks.symm.trans ht1)
  exact marks_laid hv1 hd1
end Go.Proofs.YthcapeglhebdjaaDoor
