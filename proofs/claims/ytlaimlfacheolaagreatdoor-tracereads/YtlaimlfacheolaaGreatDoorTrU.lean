/- What the listed variables' readings give TraceReads. -/
import Derived.Test.YtlaimlfacheolaaGreatDoorTrT
import Derived.Test.YtlaimlfacheolaaGreatDoorNLaid2
import Derived.Shelf.Vars
import Derived.LaidLaws
namespace Go.Proofs.YtlaimlfacheolaaGreatDoor
open Go Go.ChangeShapes Go.WideShapes Go.ChangeAt Go.RowKit Nx
namespace Tq
theorem tPow : (Tryz.prog.globals[2]?).map (·.type) = some 118 := by kernel_rfl
theorem dPow : (Rows.laid_internal_strconv_uint64pow10 : DataW Unit) = Lib.tabData .u64 Lib.pow10Tab := by kernel_rfl
theorem gSy : Tryz.prog.globalNamed "strconv.ErrSyntax" = some 3 := by kernel_rfl
theorem gRg : Tryz.prog.globalNamed "strconv.ErrRange" = some 4 := by kernel_rfl
theorem tSy : (Tryz.prog.globals[3]?).map (·.type) = some 30 := by kernel_rfl
theorem tRg : (Tryz.prog.globals[4]?).map (·.type) = some 30 := by kernel_rfl
theorem topRow : (((begin Tryz.prog (fun _ _ => 0) default).world.heap[10 - 1]?).bind Obj.row?).isSome = true := by kernel_rfl
theorem trace_laid {W : World} (h : laidMetH Tryz.prog Rows.traceReadsRow.laid W) (hs : W.ShapedOpen Tryz.prog) : TEnv W := by
  have h' : laidMet Tryz.prog [("math/bits.deBruijn32tab", Rows.laid_math_bits_deBruijn32tab), ("math/bits.deBruijn64tab", Rows.laid_math_bits_deBruijn64tab), ("internal/strconv.uint64pow10", Rows.laid_internal_strconv_uint64pow10), ("unicode/utf8.acceptRanges", Rows.laid_unicode_utf8_acceptRanges), ("strconv.ErrRange", Rows.laid_strconv_ErrRange), ("strconv.ErrSyntax", Rows.laid_strconv_ErrSyntax), ("clepsydra/clepsydraref.Fine", Rows.laid_clepsydra_clepsydraref_Fine), ("unicode/utf8.first", Rows.laid_unicode_utf8_first)] W ∧ handlesMet Tryz.prog [("errors.errorType", Rows.laid_errors_errorType)] W := h
  obtain ⟨⟨ps, hl, _⟩, hh⟩ := h'
  have m0 : ∀ (a : String × DataW Unit) (r : List (String × DataW Unit)), a ∈ a :: r := fun a r => List.mem_cons_self
  have hbig : 10 ≤ W.heap.size := by
    obtain ⟨⟨z, t⟩, hz⟩ := Option.isSome_iff_exists.1 topRow
    obtain ⟨cs, hc, _⟩ := hs.1 (10 - 1) z t (of_decide_eq_true (by kernel_rfl)) hz
    have := lt_of_block hc
    omega
  have hml : ∃ m, W.cell? ⟨5, 0, none⟩ = some (.int .i64 m) :=
    cell_of_shapedOpen_int (t := 3) (zero := #[.int .i64 0]) hs (of_decide_eq_true (by kernel_rfl)) (by kernel_rfl) rfl (by kernel_rfl) (by kernel_rfl) Tryz.underlying3
  have hpow : Lib.TabIs Tryz.prog W "internal/strconv.uint64pow10" .u64 Lib.pow10Tab := by
    obtain ⟨g, t, cs, f, p, h1, h2, h3, h4⟩ := laid_mem hl ("internal/strconv.uint64pow10", Rows.laid_internal_strconv_uint64pow10) (.tail _ (.tail _ (m0 _ _)))
    obtain rfl := Option.some.inj (gPow.symm.trans h1)
    obtain rfl := Option.some.inj (tPow.symm.trans h2)
    rw [show (("internal/strconv.uint64pow10", Rows.laid_internal_strconv_uint64pow10) : String × DataW Unit).2 = Lib.tabData .u64 Lib.pow10Tab from dPow] at h4
    have e := Lib.cells_of_tab Tryz.underlying118 Tryz.underlying89 (by kernel_rfl) (by kernel_rfl) h4
    unfold Lib.TabIs
    rw [show W.var? Tryz.prog "internal/strconv.uint64pow10" = some cs from h3, ← e]
  have hrg : ∃ t p, W.cell? ⟨4, 0, none⟩ = some (.iface t p) := by
    obtain ⟨g, t, cs, f, p, h1, h2, h3, h4⟩ := laid_mem hl ("strconv.ErrRange", Rows.laid_strconv_ErrRange) (.tail _ (.tail _ (.tail _ (.tail _ (m0 _ _)))))
    obtain rfl := Option.some.inj (gRg.symm.trans h1)
    obtain rfl := Option.some.inj (tRg.symm.trans h2)
    obtain ⟨f1, u, v, hcs, _⟩ := iface_of_trod Tryz.underlying30 h4
    exact ⟨u, v, by have := World.var?_cell gRg h3 0; rw [show cs = #[.iface u v] from Array.toList_inj.1 hcs] at this; simpa using this⟩
  have hsy : ∃ t p, W.cell? ⟨3, 0, none⟩ = some (.iface t p) := by
    obtain ⟨g, t, cs, f, p, h1, h2, h3, h4⟩ := laid_mem hl ("strconv.ErrSyntax", Rows.laid_strconv_ErrSyntax) (.tail _ (.tail _ (.tail _ (.tail _ (.tail _ (m0 _ _))))))
    obtain rfl := Option.some.inj (gSy.symm.trans h1)
    obtain rfl := Option.some.inj (tSy.symm.trans h2)
    obtain ⟨f1, u, v, hcs, _⟩ := iface_of_trod Tryz.underlying30 h4
    exact ⟨u, v, by have := World.var?_cell gSy h3 0; rw [show cs = #[.iface u v] from Array.toList_inj.1 hcs] at this; simpa using this⟩
  have hF := fine_laid hl (.tail _ (.tail _ (.tail _ (.tail _ (.tail _ (.tail _ (m0 _ _)))))))
  exact ⟨⟨hml, hsy, hrg, hpow, hbig⟩, errType_laid hh List.mem_cons_self, hF.1, hF.2⟩
end Tq
end Go.Proofs.YtlaimlfacheolaaGreatDoor
