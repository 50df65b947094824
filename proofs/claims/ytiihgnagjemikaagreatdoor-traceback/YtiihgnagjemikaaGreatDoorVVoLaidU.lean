/- What the listed variables' readings give keep's walks: the tables, the marks. -/
import Derived.Test.YtiihgnagjemikaaGreatDoorRows
import Derived.Test.YtiihgnagjemikaaGreatDoorVKj0
import Derived.ProofKit
import Derived.LaidMore
import Derived.OpenShut
import Derived.ShutString
import Derived.Stop.Joined
import Derived.LaidHandle
import Derived.Lib.LaidTab
import Derived.Test.YtiihgnagjemikaaGreatDoorVTbF
import Derived.Shelf.Vars
import Derived.LaidLaws
import Derived.Test.YtiihgnagjemikaaGreatDoorVVe
import Derived.ChangeOld
import Derived.DataReads
import Derived.Deep.Slices
namespace Go.Proofs.YtiihgnagjemikaaGreatDoor
open Go.ChangeShapes Go.WideShapes Go.ChangeAt Go.RowKit Px

theorem ownKn : ownKnob Tryz.prog.godebug = none := by kernel_rfl
theorem laidOut : laidOutB Tryz.prog = true := by kernel_rfl

def fl0 : DataW Unit → List Value
  | .lit (.string s) => [.string ⟨s.toArray⟩]
  | .lit (.int k n) => [.int k n]
  | _ => []
def flA (f : DataW Unit → List Value) : DataW Unit → List Value
  | .agg ps => ps.flatMap f
  | _ => []
/-- what is read of such a type says its cells -/
def Opens (W : World) (t k : Nat) (f : DataW Unit → List Value) : Prop :=
  ∀ fuel cs d p, DataW.trod (fun _ => ()) Tryz.prog W 0 (fun _ => true) false fuel t cs = some (d, p) → cs = f d ∧ cs.length = k
theorem opens_string {W : World} {t : Nat} (hu : Tryz.prog.underlying t = some .string) : Opens W t 1 fl0 := by
  intro fuel cs d p h
  cases fuel with
  | zero => simp [DataW.trod] at h
  | succ fuel =>
    rcases cs with _ | ⟨c, _ | ⟨c', r⟩⟩
    · simp [DataW.trod, hu] at h
    · cases c with
      | string s =>
        simp only [DataW.trod, hu] at h
        split at h
        · have hb := congrArg Prod.fst (Option.some.inj h)
          simp only at hb
          subst hb
          exact ⟨rfl, rfl⟩
        · cases h
      | _ => simp [DataW.trod, hu] at h
    · simp [DataW.trod, hu] at h
theorem opens_int {W : World} {t : Nat} {k : IntKind} (hu : Tryz.prog.underlying t = some (.int k)) : Opens W t 1 fl0 := by
  intro fuel cs d p h
  cases fuel with
  | zero => simp [DataW.trod] at h
  | succ fuel =>
    rcases cs with _ | ⟨c, _ | ⟨c', r⟩⟩
    · simp [DataW.trod, hu] at h
    · cases c with
      | int k' n =>
        simp only [DataW.trod, hu] at h
        split at h
        · rename_i hk
          have hb := congrArg Prod.fst (Option.some.inj h)
          simp only at hb
          subst hb
          rw [hk.1]
          exact ⟨rfl, rfl⟩
        · cases h
      | _ => simp [DataW.trod, hu] at h
    · simp [DataW.trod, hu] at h
/-- pieces one behind the other -/
theorem chunks {k : Nat} {f : DataW Unit → List Value} : ∀ (ds : List (DataW Unit)) (cs : List Value), cs.length = ds.length * k → (∀ i d, ds[i]? = some d → (cs.drop (i * k)).take k = f d) → cs = ds.flatMap f := by
  intro ds
  induction ds with
  | nil => intro cs hl _; simp at hl; simp [hl]
  | cons d r ih =>
    intro cs hl h
    have h0 := h 0 d rfl
    rw [Nat.zero_mul, List.drop_zero] at h0
    have h1 := ih (cs.drop k) (by rw [List.length_drop, hl, List.length_cons, Nat.add_mul]; omega) (fun i d hi => by
      have := h (i + 1) d (by simpa using hi)
      rw [Nat.add_mul, Nat.one_mul, Nat.add_comm, ← List.drop_drop] at this
      exact this)
    rw [List.flatMap_cons, ← h0, ← h1, List.take_append_drop]
theorem opens_array {W : World} {t e n k : Nat} {f : DataW Unit → List Value} (hu : Tryz.prog.underlying t = some (.array n e)) (hce : Tryz.prog.cellsOf e = k) (hct : Tryz.prog.cellsOf t = n * k) (he : Opens W e k f) : Opens W t (n * k) (flA f) := by
  intro fuel cs d p h
  cases fuel with
  | zero => simp [DataW.trod] at h
  | succ fuel =>
    simp only [DataW.trod, hu, hce, hct] at h
    split at h
    · rename_i hl
      obtain ⟨xs, hm, hx⟩ := Option.map_eq_some_iff.1 h
      have hd := congrArg Prod.fst hx
      simp only at hd
      subst hd
      have hxl : xs.length = n := by simpa using Lib.mapM_length hm
      refine ⟨?_, hl⟩
      show cs = (xs.map (·.1)).flatMap f
      refine chunks (k := k) _ cs (by rw [List.length_map, hxl]; exact hl) (fun i d hi => ?_)
      rw [List.getElem?_map, Option.map_eq_some_iff] at hi
      obtain ⟨b, hb, rfl⟩ := hi
      have hin : i < n := by rw [← hxl]; exact (List.getElem?_eq_some_iff.1 hb).1
      obtain ⟨b', hb', hf⟩ := Lib.mapM_at hm i i (by simp [hin])
      obtain rfl : b = b' := Option.some.inj (hb.symm.trans hb')
      exact (he fuel _ b.1 b.2 hf).1
    · cases h
theorem two_of {α : Type} : ∀ (l : List α), l.length = 2 → ∃ x y, l = [x, y]
  | [x, y], _ => ⟨x, y, rfl⟩
theorem opens_two {W : World} {t a b : Nat} {f g : Field} (hu : Tryz.prog.underlying t = some (.struct #[f, g])) (hf : f.type = a ∧ f.offset = 0) (hg : g.type = b ∧ g.offset = 1) (hct : Tryz.prog.cellsOf t = 2) (hca : Tryz.prog.cellsOf a = 1) (hcb : Tryz.prog.cellsOf b = 1) (ha : Opens W a 1 fl0) (hb : Opens W b 1 fl0) : Opens W t 2 (flA fl0) := by
  intro fuel cs d p h
  cases fuel with
  | zero => simp [DataW.trod] at h
  | succ fuel =>
    simp only [DataW.trod, hu, hct] at h
    split at h
    · rename_i hl
      obtain ⟨xs, hm, hx⟩ := Option.map_eq_some_iff.1 h
      obtain ⟨x, y, rfl⟩ : ∃ x y, cs = [x, y] := two_of cs hl
      have hd := congrArg Prod.fst hx
      simp only at hd
      subst hd
      simp only [List.mapM_cons, List.mapM_nil, Option.bind_eq_bind, Option.bind_eq_some_iff, Option.pure_def, Option.some.injEq, hf.1, hf.2, hg.1, hg.2, hca, hcb] at hm
      obtain ⟨b0, hb0, r0, ⟨b1, hb1, r1, rfl, rfl⟩, rfl⟩ := hm
      have e0 := (ha fuel _ b0.1 b0.2 hb0).1
      have e1 := (hb fuel _ b1.1 b1.2 hb1).1
      refine ⟨?_, rfl⟩
      show [x, y] = fl0 b0.1 ++ (fl0 b1.1 ++ [])
      rw [← e0, ← e1]; rfl
    · cases h
theorem laid_mem {W : World} : ∀ {l : List (String × DataW Unit)} {ps : List MemPlace}, DataW.LaidVars Tryz.prog W l ps → ∀ x ∈ l, ∃ g t cs f p, Tryz.prog.globalNamed x.1 = some g ∧ (Tryz.prog.globals[g]?).map (·.type) = some t ∧ W.var? Tryz.prog x.1 = some cs ∧ DataW.trod (fun _ => ()) Tryz.prog W 0 (fun _ => true) false f t cs.toList = some (x.2, p) := by
  intro l
  induction l with
  | nil => intro ps _ x hx; cases hx
  | cons y r ih =>
    intro ps h x hx
    obtain ⟨g, t, cs, f, p, q, h1, h2, h3, h4, h5, _⟩ := h
    rcases List.mem_cons.1 hx with rfl | hx
    · exact ⟨g, t, cs, f, p, h1, h2, h3, h4⟩
    · exact ih h5 x hx
/-- a listed variable of plain data: its cells -/
theorem tab_of {W : World} {l : List (String × DataW Unit)} {ps : List MemPlace} (hl : DataW.LaidVars Tryz.prog W l ps) {n : String} {d : DataW Unit} (hm : (n, d) ∈ l) {g t k : Nat} {f : DataW Unit → List Value} (hg : Tryz.prog.globalNamed n = some g) (ht : (Tryz.prog.globals[g]?).map (·.type) = some t) (ho : Opens W t k f) : TabAt W g (f d) := by
  obtain ⟨g', t', cs, fu, p, h1, h2, h3, h4⟩ := laid_mem hl _ hm
  obtain rfl := Option.some.inj (hg.symm.trans h1)
  obtain rfl := Option.some.inj (ht.symm.trans h2)
  have e := (ho fu _ _ _ h4).1
  intro i v hv
  rw [World.var?_cell hg h3 i, ← Array.getElem?_toList, e]
  exact hv
theorem big_of {W : World} {l : List (String × DataW Unit)} {ps : List MemPlace} (hl : DataW.LaidVars Tryz.prog W l ps) {n : String} {d : DataW Unit} (hm : (n, d) ∈ l) {g : Nat} (hg : Tryz.prog.globalNamed n = some g) : g < W.heap.size := by
  obtain ⟨g', t', cs, fu, p, h1, h2, h3, h4⟩ := laid_mem hl _ hm
  rw [World.var?, hg, Option.bind_some] at h3
  by_cases hlt : g < W.heap.size
  · exact hlt
  · rw [show W.heap[g]? = none from Array.getElem?_eq_none (by omega)] at h3
    simp at h3
theorem op_str {W : World} : Opens W 9 1 fl0 := opens_string Tryz.underlying9
theorem op_int {W : World} : Opens W 3 1 fl0 := opens_int Tryz.underlying3
theorem op_sign {W : World} : Opens W 233 2 (flA fl0) := opens_two Tryz.underlying233 ⟨rfl, rfl⟩ ⟨rfl, rfl⟩ (by kernel_rfl) (by kernel_rfl) (by kernel_rfl) op_str op_int
theorem op_21 {W : World} : Opens W 161 (21 * 1) (flA fl0) := opens_array Tryz.underlying161 (by kernel_rfl) (by kernel_rfl) op_str
theorem op_4 {W : World} : Opens W 163 (4 * 1) (flA fl0) := opens_array Tryz.underlying163 (by kernel_rfl) (by kernel_rfl) op_str
theorem op_3 {W : World} : Opens W 226 (3 * 1) (flA fl0) := opens_array Tryz.underlying226 (by kernel_rfl) (by kernel_rfl) op_str
theorem op_2s {W : World} : Opens W 236 (2 * 2) (flA (flA fl0)) := opens_array Tryz.underlying236 (by kernel_rfl) (by kernel_rfl) op_sign
theorem op_4s {W : World} : Opens W 234 (4 * 2) (flA (flA fl0)) := opens_array Tryz.underlying234 (by kernel_rfl) (by kernel_rfl) op_sign
theorem op_54s {W : World} : Opens W 235 (5 * (4 * 2)) (flA (flA (flA fl0))) := opens_array Tryz.underlying235 (by kernel_rfl) (by kernel_rfl) op_4s
theorem gMarks : Tryz.prog.globalNamed "clepsydra/lex.marks" = some 1 := by kernel_rfl
theorem gWords : Tryz.prog.globalNamed "clepsydra/parse.words" = some 6 := by kernel_rfl
theorem gKinds : Tryz.prog.globalNamed "clepsydra/parse.kinds" = some 2 := by kernel_rfl
theorem gLeads : Tryz.prog.globalNamed "clepsydra/parse.leads" = some 9 := by kernel_rfl
theorem gAhead : Tryz.prog.globalNamed "clepsydra/parse.ahead" = some 11 := by kernel_rfl
theorem gBetween : Tryz.prog.globalNamed "clepsydra/parse.between" = some 10 := by kernel_rfl
theorem gRange : Tryz.prog.globalNamed "strconv.ErrRange" = some 5 := by kernel_rfl
theorem marks_of {W : World} (h : TabAt W 1 (Lx.marks.map markS)) : Marks W := by
  intro i hi
  have hl := hi
  refine h i _ ?_
  rw [List.getElem?_map, List.getElem?_eq_getElem hl, List.getD_eq_getElem?_getD, List.getElem?_eq_getElem hl]
  rfl
theorem gBits : Tryz.prog.globalNamed "math/bits.deBruijn64tab" = some 8 := by kernel_rfl
/-- what the listed variables hold -/
theorem vars_laid {W : World} {l : List (String × DataW Unit)} {ps : List MemPlace} (hl : DataW.LaidVars Tryz.prog W l ps)
    (h1 : ("clepsydra/lex.marks", Rows.laid_clepsydra_lex_marks) ∈ l) (h2 : ("clepsydra/parse.between", Rows.laid_clepsydra_parse_between) ∈ l) (h3 : ("clepsydra/parse.ahead", Rows.laid_clepsydra_parse_ahead) ∈ l) (h4 : ("clepsydra/parse.kinds", Rows.laid_clepsydra_parse_kinds) ∈ l) (h5 : ("clepsydra/parse.leads", Rows.laid_clepsydra_parse_leads) ∈ l) (h6 : ("clepsydra/parse.words", Rows.laid_clepsydra_parse_words) ∈ l) (h7 : ("math/bits.deBruijn64tab", Rows.laid_math_bits_deBruijn64tab) ∈ l) : Kx.KEnv0 W :=
  ⟨⟨tab_of hl h6 gWords (by kernel_rfl) op_21, tab_of hl h4 gKinds (by kernel_rfl) op_4, tab_of hl h5 gLeads (by kernel_rfl) op_3, tab_of hl h3 gAhead (by kernel_rfl) op_2s, tab_of hl h2 gBetween (by kernel_rfl) op_54s⟩, marks_of (tab_of hl h1 gMarks (by kernel_rfl) op_21), (by { have _ := h7; first | exact big_of hl h7 gBits | exact big_of hl h3 gAhead | exact big_of hl h2 gBetween | exact big_of hl h5 gLeads | exact big_of hl h4 gKinds | exact big_of hl h6 gWords | exact big_of hl h1 gMarks })⟩
theorem run_laid {W : World} (h' : laidMet Tryz.prog [("math/bits.deBruijn32tab", Rows.laid_math_bits_deBruijn32tab), ("math/bits.deBruijn64tab", Rows.laid_math_bits_deBruijn64tab), ("internal/strconv.uint64pow10", Rows.laid_internal_strconv_uint64pow10), ("strconv.ErrRange", Rows.laid_strconv_ErrRange), ("strconv.ErrSyntax", Rows.laid_strconv_ErrSyntax), ("clepsydra/lex.marks", Rows.laid_clepsydra_lex_marks), ("clepsydra/parse.between", Rows.laid_clepsydra_parse_between), ("clepsydra/parse.ahead", Rows.laid_clepsydra_parse_ahead), ("clepsydra/parse.kinds", Rows.laid_clepsydra_parse_kinds), ("clepsydra/parse.leads", Rows.laid_clepsydra_parse_leads), ("clepsydra/parse.words", Rows.laid_clepsydra_parse_words)] W) : Kx.KEnv0 W := by
  obtain ⟨ps, hl, _⟩ := h'
  have m0 : ∀ (a : String × DataW Unit) (r : List (String × DataW Unit)), a ∈ a :: r := fun a r => List.mem_cons_self
  exact vars_laid hl (.tail _ (.tail _ (.tail _ (.tail _ (.tail _ (m0 _ _)))))) (.tail _ (.tail _ (.tail _ (.tail _ (.tail _ (.tail _ (m0 _ _))))))) (.tail _ (.tail _ (.tail _ (.tail _ (.tail _ (.tail _ (.tail _ (m0 _ _)))))))) (.tail _ (.tail _ (.tail _ (.tail _ (.tail _ (.tail _ (.tail _ (.tail _ (m0 _ _))))))))) (.tail _ (.tail _ (.tail _ (.tail _ (.tail _ (.tail _ (.tail _ (.tail _ (.tail _ (m0 _ _)))))))))) (.tail _ (.tail _ (.tail _ (.tail _ (.tail _ (.tail _ (.tail _ (.tail _ (.tail _ (.tail _ (m0 _ _))))))))))) (.tail _ (m0 _ _))
end Go.Proofs.YtiihgnagjemikaaGreatDoor
/- What the listed variables' readings give TraceBack. -/
namespace Go.Proofs.YtiihgnagjemikaaGreatDoor
open Go Go.ChangeShapes Go.WideShapes Go.ChangeAt Go.RowKit Nx
namespace Tq
theorem tPow : (Tryz.prog.globals[0]?).map (·.type) = some 156 := by kernel_rfl
theorem dPow : (Rows.laid_internal_strconv_uint64pow10 : DataW Unit) = Lib.tabData .u64 Lib.pow10Tab := by kernel_rfl
theorem gSy : Tryz.prog.globalNamed "strconv.ErrSyntax" = some 4 := by kernel_rfl
theorem gRg : Tryz.prog.globalNamed "strconv.ErrRange" = some 5 := by kernel_rfl
theorem tSy : (Tryz.prog.globals[4]?).map (·.type) = some 26 := by kernel_rfl
theorem tRg : (Tryz.prog.globals[5]?).map (·.type) = some 26 := by kernel_rfl
theorem topRow : (((begin Tryz.prog (fun _ _ => 0) default).world.heap[12 - 1]?).bind Obj.row?).isSome = true := by kernel_rfl
theorem back_laid {W : World} (h : laidMetH Tryz.prog Rows.traceBackRow.laid W) (hs : W.ShapedOpen Tryz.prog) : GV W ∧ Kx.KEnv0 W := by
  have hv := run_laid h
  have h' : laidMet Tryz.prog [("math/bits.deBruijn32tab", Rows.laid_math_bits_deBruijn32tab), ("math/bits.deBruijn64tab", Rows.laid_math_bits_deBruijn64tab), ("internal/strconv.uint64pow10", Rows.laid_internal_strconv_uint64pow10), ("strconv.ErrRange", Rows.laid_strconv_ErrRange), ("strconv.ErrSyntax", Rows.laid_strconv_ErrSyntax), ("clepsydra/lex.marks", Rows.laid_clepsydra_lex_marks), ("clepsydra/parse.between", Rows.laid_clepsydra_parse_between), ("clepsydra/parse.ahead", Rows.laid_clepsydra_parse_ahead), ("clepsydra/parse.kinds", Rows.laid_clepsydra_parse_kinds), ("clepsydra/parse.leads", Rows.laid_clepsydra_parse_leads), ("clepsydra/parse.words", Rows.laid_clepsydra_parse_words)] W := h
  obtain ⟨ps, hl, _⟩ := h'
  have m0 : ∀ (a : String × DataW Unit) (r : List (String × DataW Unit)), a ∈ a :: r := fun a r => List.mem_cons_self
  have hml : ∃ m, W.cell? ⟨3, 0, none⟩ = some (.int .i64 m) :=
    cell_of_shapedOpen_int (t := 3) (zero := #[.int .i64 0]) hs (of_decide_eq_true (by kernel_rfl)) (by kernel_rfl) rfl (by kernel_rfl) (by kernel_rfl) Tryz.underlying3
  have hpow : Lib.TabIs Tryz.prog W "internal/strconv.uint64pow10" .u64 Lib.pow10Tab := by
    obtain ⟨g, t, cs, f, p, h1, h2, h3, h4⟩ := laid_mem hl ("internal/strconv.uint64pow10", Rows.laid_internal_strconv_uint64pow10) (.tail _ (.tail _ (m0 _ _)))
    obtain rfl := Option.some.inj (gPow.symm.trans h1)
    obtain rfl := Option.some.inj (tPow.symm.trans h2)
    rw [show (("internal/strconv.uint64pow10", Rows.laid_internal_strconv_uint64pow10) : String × DataW Unit).2 = Lib.tabData .u64 Lib.pow10Tab from dPow] at h4
    have e := Lib.cells_of_tab Tryz.underlying156 Tryz.underlying115 (by kernel_rfl) (by kernel_rfl) h4
    unfold Lib.TabIs
    rw [show W.var? Tryz.prog "internal/strconv.uint64pow10" = some cs from h3, ← e]
  have hrg : ∃ t p, W.cell? ⟨5, 0, none⟩ = some (.iface t p) := by
    obtain ⟨g, t, cs, f, p, h1, h2, h3, h4⟩ := laid_mem hl ("strconv.ErrRange", Rows.laid_strconv_ErrRange) (.tail _ (.tail _ (.tail _ (m0 _ _))))
    obtain rfl := Option.some.inj (gRg.symm.trans h1)
    obtain rfl := Option.some.inj (tRg.symm.trans h2)
    obtain ⟨f1, u, v, hcs, _⟩ := iface_of_trod Tryz.underlying26 h4
    exact ⟨u, v, by have := World.var?_cell gRg h3 0; rw [show cs = #[.iface u v] from Array.toList_inj.1 hcs] at this; simpa using this⟩
  have hsy : ∃ t p, W.cell? ⟨4, 0, none⟩ = some (.iface t p) := by
    obtain ⟨g, t, cs, f, p, h1, h2, h3, h4⟩ := laid_mem hl ("strconv.ErrSyntax", Rows.laid_strconv_ErrSyntax) (.tail _ (.tail _ (.tail _ (.tail _ (m0 _ _)))))
    obtain rfl := Option.some.inj (gSy.symm.trans h1)
    obtain rfl := Option.some.inj (tSy.symm.trans h2)
    obtain ⟨f1, u, v, hcs, _⟩ := iface_of_trod Tryz.underlying26 h4
    exact ⟨u, v, by have := World.var?_cell gSy h3 0; rw [show cs = #[.iface u v] from Array.toList_inj.1 hcs] at this; simpa using this⟩
  exact ⟨⟨hml, hsy, hrg, hpow, hv.big⟩, hv⟩
end Tq
end Go.Proofs.YtiihgnagjemikaaGreatDoor
/- Numbers, and rows of them, that came in, as they lie in memory. -/
namespace Go.Proofs.YtiihgnagjemikaaGreatDoor
open Go Go.RowKit Go.ChangeShapes Go.WideShapes
namespace Kx
theorem n64_of_wf {z : Int} (h : (Lit.int .i64 z).wf = true) : N64 z := by
  rw [show (Lit.int .i64 z).wf = (decide (-9223372036854775808 ≤ z) && decide (z ≤ 9223372036854775807)) from rfl] at h
  simpa [N64] using h
theorem add_none (b off k : Nat) : (⟨b, off, none⟩ : Addr).add k = ⟨b, off + k, none⟩ := by unfold Addr.add; split <;> simp_all
section
variable {H : Type} {enc : TypeId × Value → H} {W : World} {sp : Nat → Bool} {held : Bool}
theorem nums_of_trod {fuel : Nat} {v : Value} {x : DataW H × List MemPlace} (hc : Tryz.prog.cellsOf 2 = 1) (h : DataW.trod enc Tryz.prog W 0 sp held fuel 31 [v] = some x) : ∃ zs, INums W v zs ∧ ∀ z ∈ zs, N64 z := by
  rcases open_ints Tryz.underlying31 Tryz.underlying2 hc h with ⟨hcs, _⟩ | ⟨a, len, cap, zs, hcs, _, hl, hm, hz, _, hcell, hwz⟩
  · obtain rfl : v = .slice none 0 0 := by simpa using hcs
    exact ⟨[], ⟨none, 0, 0, 0, rfl, Nat.le_refl _, by unfold maxLen; omega, fun h => by simp at h, fun k hk => by simp at hk⟩, fun z hz => by cases hz⟩
  · obtain rfl : v = .slice (some a) len cap := by simpa using hcs
    have hlz : len ≤ zs.length := by rw [hz]; split <;> omega
    have hlen : (zs.take len).length = len := by simp; omega
    refine ⟨zs.take len, ?_, fun z hz => n64_of_wf (hwz z (List.mem_of_mem_take hz))⟩
    by_cases h0 : len = 0
    · subst h0
      exact ⟨some a, 0, 0, cap, by rw [hlen], by omega, hm, fun h => by omega, fun k hk => by omega⟩
    · obtain ⟨b, off, spot⟩ := a
      have hc0 := hcell 0 (by omega)
      have hspot : spot = none := by simpa [Addr.add] using World.cell?_spot hc0
      subst hspot
      refine ⟨some ⟨b, off, none⟩, b, off, cap, by rw [hlen], by omega, hm, fun _ => rfl, fun k hk => ?_⟩
      have := hcell k (by omega)
      rw [add_none] at this
      rw [this]
      simp [List.getD_eq_getElem?_getD, show k < len by omega]
theorem choose_rows (m : Nat) (p : Nat → List Int → Prop) (h : ∀ i, i < m → ∃ z, p i z) : ∃ l : List (List Int), l.length = m ∧ ∀ i z, l[i]? = some z → p i z := by
  induction m with
  | zero => exact ⟨[], rfl, fun i z hi => by simp at hi⟩
  | succ m ih =>
    obtain ⟨l, hl, hp⟩ := ih (fun i hi => h i (by omega))
    obtain ⟨z, hz⟩ := h m (by omega)
    refine ⟨l ++ [z], by simp [hl], fun i y hi => ?_⟩
    by_cases e : i < m
    · rw [List.getElem?_append_left (by omega)] at hi; exact hp i y hi
    · have hlt := (List.getElem?_eq_some_iff.1 hi).1
      rw [List.length_append, List.length_singleton] at hlt
      obtain rfl : i = m := by omega
      rw [List.getElem?_append_right (by omega), hl, Nat.sub_self] at hi
      simp at hi
      rw [← hi]; exact hz
theorem rows_of_trod {fuel : Nat} {v : Value} {x : DataW H × List MemPlace} (hc1 : Tryz.prog.cellsOf 31 = 1) (hc2 : Tryz.prog.cellsOf 2 = 1)
    (h : DataW.trod enc Tryz.prog W 0 sp held fuel 22 [v] = some x) : ∃ zss, IRws W v zss ∧ ∀ zs ∈ zss, ∀ z ∈ zs, N64 z := by
  rcases Deep.open_slice1 Tryz.underlying22 hc1 h with ⟨hcs, _⟩ | ⟨a, len, cap, m, n, V, D, Pl, hcs, _, hl, hm, hmm, _, hx⟩
  · obtain rfl : v = .slice none 0 0 := by simpa using hcs
    exact ⟨[], ⟨none, 0, 0, 0, rfl, fun h => by simp at h, fun k zs hk => by simp at hk⟩, fun zs h => by cases h⟩
  · obtain rfl : v = .slice (some a) len cap := by simpa using hcs
    have hlm : len ≤ m := by rw [hmm]; split <;> omega
    obtain ⟨rows, hrl, hr⟩ := choose_rows len (fun i z => INums W (V i) z ∧ ∀ y ∈ z, N64 y) (fun i hi => nums_of_trod hc2 (hx i (by omega)).2)
    refine ⟨rows, ?_, fun zs hz => ?_⟩
    · by_cases h0 : len = 0
      · exact ⟨some a, 0, 0, cap, by rw [hrl], fun h => by omega, fun k zs hk => by have := (List.getElem?_eq_some_iff.1 hk).1; omega⟩
      · obtain ⟨b, off, spot⟩ := a
        have hc0 := (hx 0 (by omega)).1
        have hspot : spot = none := by simpa [Addr.add] using World.cell?_spot hc0
        subst hspot
        refine ⟨some ⟨b, off, none⟩, b, off, cap, by rw [hrl], fun _ => rfl, fun k zs hk => ?_⟩
        have hkl : k < len := by rw [← hrl]; exact (List.getElem?_eq_some_iff.1 hk).1
        have hc := (hx k (by omega)).1
        rw [add_none] at hc
        have hI := (hr k zs hk).1
        obtain ⟨ad, b', o', cap', e, _⟩ := id hI
        rw [e] at hI hc
        exact ⟨ad, cap', hc, hI⟩
    · obtain ⟨i, hi, e⟩ := List.getElem_of_mem hz
      exact (hr i zs (by rw [List.getElem?_eq_getElem hi, e])).2
end
end Kx
end Go.Proofs.YtiihgnagjemikaaGreatDoor
