/- What the listed variables' readings give ParsePrints: besides ParseReads's, the powers of ten. -/
import Derived.Test.YtlgoclebedjiiaaGreatDoorJLaid
import Derived.Test.YtlgoclebedjiiaaGreatDoorJPrints
namespace Go.Proofs.YtlgoclebedjiiaaGreatDoor
open Go.ChangeShapes Go.WideShapes Go.ChangeAt Go.RowKit Px

theorem tPow : (Tryz.prog.globals[6]?).map (·.type) = some 194 := by kernel_rfl
theorem dPow : (Rows.laid_internal_strconv_uint64pow10 : DataW Unit) = Lib.tabData .u64 Lib.pow10Tab := by kernel_rfl
theorem prints_laid {W : World} (h : laidMetH Tryz.prog Rows.parsePrintsRow.laid W) : Vars W ∧ Lib.TabIs Tryz.prog W "internal/strconv.uint64pow10" .u64 Lib.pow10Tab := by
  refine ⟨reads_laid h, ?_⟩
  have h' : laidMet Tryz.prog [("math/bits.deBruijn32tab", Rows.laid_math_bits_deBruijn32tab), ("math/bits.deBruijn64tab", Rows.laid_math_bits_deBruijn64tab), ("internal/strconv.uint64pow10", Rows.laid_internal_strconv_uint64pow10), ("strconv.ErrRange", Rows.laid_strconv_ErrRange), ("strconv.ErrSyntax", Rows.laid_strconv_ErrSyntax), ("clepsydra/clepsydraref.Fine", Rows.laid_clepsydra_clepsydraref_Fine), ("clepsydra/lex.marks", Rows.laid_clepsydra_lex_marks), ("clepsydra/parse.between", Rows.laid_clepsydra_parse_between), ("clepsydra/parse.ahead", Rows.laid_clepsydra_parse_ahead), ("clepsydra/parse.kinds", Rows.laid_clepsydra_parse_kinds), ("clepsydra/parse.leads", Rows.laid_clepsydra_parse_leads), ("clepsydra/parse.words", Rows.laid_clepsydra_parse_words)] W ∧ handlesMet Tryz.prog [("errors.errorType", Rows.laid_errors_errorType)] W := h
  obtain ⟨⟨ps, hl, _⟩, hh⟩ := h'
  have m0 : ∀ (a : String × DataW Unit) (r : List (String × DataW Unit)), a ∈ a :: r := fun a r => List.mem_cons_self
  obtain ⟨g, t, cs, f, p, h1, h2, h3, h4⟩ := laid_mem hl ("internal/strconv.uint64pow10", Rows.laid_internal_strconv_uint64pow10) (.tail _ (.tail _ (m0 _ _)))
  obtain rfl := Option.some.inj (gPow.symm.trans h1)
  obtain rfl := Option.some.inj (tPow.symm.trans h2)
  rw [show (("internal/strconv.uint64pow10", Rows.laid_internal_strconv_uint64pow10) : String × DataW Unit).2 = Lib.tabData .u64 Lib.pow10Tab from dPow] at h4
  have e := Lib.cells_of_tab Tryz.underlying194 Tryz.underlying152 (by kernel_rfl) (by kernel_rfl) h4
  unfold Lib.TabIs
  rw [show W.var? Tryz.prog "internal/strconv.uint64pow10" = some cs from h3, ← e]
end Go.Proofs.YtlgoclebedjiiaaGreatDoor
