/- What the listed variables' readings give keep's walks: the tables, the marks. -/
import Derived.Test.YtecbilopliblpaaGreatDoorRows
import Derived.Test.YtecbilopliblpaaGreatDoorQKn0
import Derived.ProofKit
import Derived.LaidMore
import Derived.OpenShut
import Derived.ShutString
import Derived.Stop.Joined
import Derived.LaidHandle
import Derived.Lib.LaidTab
import Derived.Test.YtecbilopliblpaaGreatDoorQCm
import Derived.Test.YtecbilopliblpaaGreatDoorQCs
namespace Go.Proofs.YtecbilopliblpaaGreatDoor
open Go.ChangeShapes Go.WideShapes Go.ChangeAt Go.RowKit Px

theorem ownKn : ownKnob Tryz.prog.godebug = none := by kernel_rfl
theorem laidOut : laidOutB Tryz.prog = true := by kernel_rfl

def fl0 : DataW Unit → List Value
  | .lit (.string s) => [.string ⟨s.toArray⟩]
  | .lit (.int k n) => [.int k n]
  | _ => []
def flA (f : DataW Unit → List Value) : DataW Unit → List Value
  | .agg ps => ps.flatMap f
  | _ => []
/-- what is read of such a type says its cells -/
def Opens (W : World) (t k : Nat) (f : DataW Unit → List Value) : Prop :=
  ∀ fuel cs d p, DataW.trod (fun _ => ()) Tryz.prog W 0 (fun _ => true) false fuel t cs = some (d, p) → cs = f d ∧ cs.length = k
theorem opens_string {W : World} {t : Nat} (hu : Tryz.prog.underlying t = some .string) : Opens W t 1 fl0 := by
  intro fuel cs d p h
  cases fuel with
  | zero => simp [DataW.trod] at h
  | succ fuel =>
    rcases cs with _ | ⟨c, _ | ⟨c', r⟩⟩
    · simp [DataW.trod, hu] at h
    · cases c with
      | string s =>
        simp only [DataW.trod, hu] at h
        split at h
        · have hb := congrArg Prod.fst (Option.some.inj h)
          simp only at hb
          subst hb
          exact ⟨rfl, rfl⟩
        · cases h
      | _ => simp [DataW.trod, hu] at h
    · simp [DataW.trod, hu] at h
theorem opens_int {W : World} {t : Nat} {k : IntKind} (hu : Tryz.prog.underlying t = some (.int k)) : Opens W t 1 fl0 := by
  intro fuel cs d p h
  cases fuel with
  | zero => simp [DataW.trod] at h
  | succ fuel =>
    rcases cs with _ | ⟨c, _ | ⟨c', r⟩⟩
    · simp [DataW.trod, hu] at h
    · cases c with
      | int k' n =>
        simp only [DataW.trod, hu] at h
        split at h
        · rename_i hk
          have hb := congrArg Prod.fst (Option.some.inj h)
          simp only at hb
          subst hb
          rw [hk.1]
          exact ⟨rfl, rfl⟩
        · cases h
      | _ => simp [DataW.trod, hu] at h
    · simp [DataW.trod, hu] at h
/-- pieces one behind the other -/
theorem chunks {k : Nat} {f : DataW Unit → List Value} : ∀ (ds : List (DataW Unit)) (cs : List Value), cs.length = ds.length * k → (∀ i d, ds[i]? = some d → (cs.drop (i * k)).take k = f d) → cs = ds.flatMap f := by
  intro ds
  induction ds with
  | nil => intro cs hl _; simp at hl; simp [hl]
  | cons d r ih =>
    intro cs hl h
    have h0 := h 0 d rfl
    rw [Nat.zero_mul, List.drop_zero] at h0
    have h1 := ih (cs.drop k) (by rw [List.length_drop, hl, List.length_cons, Nat.add_mul]; omega) (fun i d hi => by
      have := h (i + 1) d (by simpa using hi)
      rw [Nat.add_mul, Nat.one_mul, Nat.add_comm, ← List.drop_drop] at this
      exact this)
    rw [List.flatMap_cons, ← h0, ← h1, List.take_append_drop]
theorem opens_array {W : World} {t e n k : Nat} {f : DataW Unit → List Value} (hu : Tryz.prog.underlying t = some (.array n e)) (hce : Tryz.prog.cellsOf e = k) (hct : Tryz.prog.cellsOf t = n * k) (he : Opens W e k f) : Opens W t (n * k) (flA f) := by
  intro fuel cs d p h
  cases fuel with
  | zero => simp [DataW.trod] at h
  | succ fuel =>
    simp only [DataW.trod, hu, hce, hct] at h
    split at h
    · rename_i hl
      obtain ⟨xs, hm, hx⟩ := Option.map_eq_some_iff.1 h
      have hd := congrArg Prod.fst hx
      simp only at hd
      subst hd
      have hxl : xs.length = n := by simpa using Lib.mapM_length hm
      refine ⟨?_, hl⟩
      show cs = (xs.map (·.1)).flatMap f
      refine chunks (k := k) _ cs (by rw [List.length_map, hxl]; exact hl) (fun i d hi => ?_)
      rw [List.getElem?_map, Option.map_eq_some_iff] at hi
      obtain ⟨b, hb, rfl⟩ := hi
      have hin : i < n := by rw [← hxl]; exact (List.getElem?_eq_some_iff.1 hb).1
      obtain ⟨b', hb', hf⟩ := Lib.mapM_at hm i i (by simp [hin])
      obtain rfl : b = b' := Option.some.inj (hb.symm.trans hb')
      exact (he fuel _ b.1 b.2 hf).1
    · cases h
theorem two_of {α : Type} : ∀ (l : List α), l.length = 2 → ∃ x y, l = [x, y]
  | [x, y], _ => ⟨x, y, rfl⟩
theorem opens_two {W : World} {t a b : Nat} {f g : Field} (hu : Tryz.prog.underlying t = some (.struct #[f, g])) (hf : f.type = a ∧ f.offset = 0) (hg : g.type = b ∧ g.offset = 1) (hct : Tryz.prog.cellsOf t = 2) (hca : Tryz.prog.cellsOf a = 1) (hcb : Tryz.prog.cellsOf b = 1) (ha : Opens W a 1 fl0) (hb : Opens W b 1 fl0) : Opens W t 2 (flA fl0) := by
  intro fuel cs d p h
  cases fuel with
  | zero => simp [DataW.trod] at h
  | succ fuel =>
    simp only [DataW.trod, hu, hct] at h
    split at h
    · rename_i hl
      obtain ⟨xs, hm, hx⟩ := Option.map_eq_some_iff.1 h
      obtain ⟨x, y, rfl⟩ : ∃ x y, cs = [x, y] := two_of cs hl
      have hd := congrArg Prod.fst hx
      simp only at hd
      subst hd
      simp only [List.mapM_cons, List.mapM_nil, Option.bind_eq_bind, Option.bind_eq_some_iff, Option.pure_def, Option.some.injEq, hf.1, hf.2, hg.1, hg.2, hca, hcb] at hm
      obtain ⟨b0, hb0, r0, ⟨b1, hb1, r1, rfl, rfl⟩, rfl⟩ := hm
      have e0 := (ha fuel _ b0.1 b0.2 hb0).1
      have e1 := (hb fuel _ b1.1 b1.2 hb1).1
      refine ⟨?_, rfl⟩
      show [x, y] = fl0 b0.1 ++ (fl0 b1.1 ++ [])
      rw [← e0, ← e1]; rfl
    · cases h
theorem laid_mem {W : World} : ∀ {l : List (String × DataW Unit)} {ps : List MemPlace}, DataW.LaidVars Tryz.prog W l ps → ∀ x ∈ l, ∃ g t cs f p, Tryz.prog.globalNamed x.1 = some g ∧ (Tryz.prog.globals[g]?).map (·.type) = some t ∧ W.var? Tryz.prog x.1 = some cs ∧ DataW.trod (fun _ => ()) Tryz.prog W 0 (fun _ => true) false f t cs.toList = some (x.2, p) := by
  intro l
  induction l with
  | nil => intro ps _ x hx; cases hx
  | cons y r ih =>
    intro ps h x hx
    obtain ⟨g, t, cs, f, p, q, h1, h2, h3, h4, h5, _⟩ := h
    rcases List.mem_cons.1 hx with rfl | hx
    · exact ⟨g, t, cs, f, p, h1, h2, h3, h4⟩
    · exact ih h5 x hx
/-- a listed variable of plain data: its cells -/
theorem tab_of {W : World} {l : List (String × DataW Unit)} {ps : List MemPlace} (hl : DataW.LaidVars Tryz.prog W l ps) {n : String} {d : DataW Unit} (hm : (n, d) ∈ l) {g t k : Nat} {f : DataW Unit → List Value} (hg : Tryz.prog.globalNamed n = some g) (ht : (Tryz.prog.globals[g]?).map (·.type) = some t) (ho : Opens W t k f) : TabAt W g (f d) := by
  obtain ⟨g', t', cs, fu, p, h1, h2, h3, h4⟩ := laid_mem hl _ hm
  obtain rfl := Option.some.inj (hg.symm.trans h1)
  obtain rfl := Option.some.inj (ht.symm.trans h2)
  have e := (ho fu _ _ _ h4).1
  intro i v hv
  rw [World.var?_cell hg h3 i, ← Array.getElem?_toList, e]
  exact hv
theorem big_of {W : World} {l : List (String × DataW Unit)} {ps : List MemPlace} (hl : DataW.LaidVars Tryz.prog W l ps) {n : String} {d : DataW Unit} (hm : (n, d) ∈ l) {g : Nat} (hg : Tryz.prog.globalNamed n = some g) : g < W.heap.size := by
  obtain ⟨g', t', cs, fu, p, h1, h2, h3, h4⟩ := laid_mem hl _ hm
  rw [World.var?, hg, Option.bind_some] at h3
  by_cases hlt : g < W.heap.size
  · exact hlt
  · rw [show W.heap[g]? = none from Array.getElem?_eq_none (by omega)] at h3
    simp at h3
theorem op_str {W : World} : Opens W 9 1 fl0 := opens_string Tryz.underlying9
theorem op_int {W : World} : Opens W 3 1 fl0 := opens_int Tryz.underlying3
theorem op_sign {W : World} : Opens W 304 2 (flA fl0) := opens_two Tryz.underlying304 ⟨rfl, rfl⟩ ⟨rfl, rfl⟩ (by kernel_rfl) (by kernel_rfl) (by kernel_rfl) op_str op_int
theorem op_21 {W : World} : Opens W 204 (21 * 1) (flA fl0) := opens_array Tryz.underlying204 (by kernel_rfl) (by kernel_rfl) op_str
theorem op_4 {W : World} : Opens W 206 (4 * 1) (flA fl0) := opens_array Tryz.underlying206 (by kernel_rfl) (by kernel_rfl) op_str
theorem op_3 {W : World} : Opens W 300 (3 * 1) (flA fl0) := opens_array Tryz.underlying300 (by kernel_rfl) (by kernel_rfl) op_str
theorem op_2s {W : World} : Opens W 305 (2 * 2) (flA (flA fl0)) := opens_array Tryz.underlying305 (by kernel_rfl) (by kernel_rfl) op_sign
theorem op_4s {W : World} : Opens W 306 (4 * 2) (flA (flA fl0)) := opens_array Tryz.underlying306 (by kernel_rfl) (by kernel_rfl) op_sign
theorem op_54s {W : World} : Opens W 307 (5 * (4 * 2)) (flA (flA (flA fl0))) := opens_array Tryz.underlying307 (by kernel_rfl) (by kernel_rfl) op_4s
theorem gMarks : Tryz.prog.globalNamed "clepsydra/lex.marks" = some 1 := by kernel_rfl
theorem gWords : Tryz.prog.globalNamed "clepsydra/parse.words" = some 3 := by kernel_rfl
theorem gKinds : Tryz.prog.globalNamed "clepsydra/parse.kinds" = some 2 := by kernel_rfl
theorem gLeads : Tryz.prog.globalNamed "clepsydra/parse.leads" = some 6 := by kernel_rfl
theorem gAhead : Tryz.prog.globalNamed "clepsydra/parse.ahead" = some 7 := by kernel_rfl
theorem gBetween : Tryz.prog.globalNamed "clepsydra/parse.between" = some 8 := by kernel_rfl
theorem gRange : Tryz.prog.globalNamed "strconv.ErrRange" = some 10 := by kernel_rfl
theorem marks_of {W : World} (h : TabAt W 1 (Lx.marks.map markS)) : Marks W := by
  intro i hi
  have hl : i < Lx.marks.length := hi
  refine h i _ ?_
  rw [List.getElem?_map, List.getElem?_eq_getElem hl, List.getD_eq_getElem?_getD, List.getElem?_eq_getElem hl]
  rfl
theorem gBits : Tryz.prog.globalNamed "math/bits.deBruijn64tab" = some 12 := by kernel_rfl
/-- what the listed variables hold -/
theorem vars_laid {W : World} {l : List (String × DataW Unit)} {ps : List MemPlace} (hl : DataW.LaidVars Tryz.prog W l ps)
    (h1 : ("clepsydra/lex.marks", Rows.laid_clepsydra_lex_marks) ∈ l) (h2 : ("clepsydra/parse.between", Rows.laid_clepsydra_parse_between) ∈ l) (h3 : ("clepsydra/parse.ahead", Rows.laid_clepsydra_parse_ahead) ∈ l) (h4 : ("clepsydra/parse.kinds", Rows.laid_clepsydra_parse_kinds) ∈ l) (h5 : ("clepsydra/parse.leads", Rows.laid_clepsydra_parse_leads) ∈ l) (h6 : ("clepsydra/parse.words", Rows.laid_clepsydra_parse_words) ∈ l) (h7 : ("math/bits.deBruijn64tab", Rows.laid_math_bits_deBruijn64tab) ∈ l) : Kx.KEnv0 W :=
  ⟨⟨tab_of hl h6 gWords (by kernel_rfl) op_21, tab_of hl h4 gKinds (by kernel_rfl) op_4, tab_of hl h5 gLeads (by kernel_rfl) op_3, tab_of hl h3 gAhead (by kernel_rfl) op_2s, tab_of hl h2 gBetween (by kernel_rfl) op_54s⟩, marks_of (tab_of hl h1 gMarks (by kernel_rfl) op_21), big_of hl h7 gBits⟩
theorem run_laid {W : World} (h : laidMetH Tryz.prog Rows.runAloneRow.laid W) : Kx.KEnv0 W := by
  have h' : laidMet Tryz.prog [("math/bits.deBruijn32tab", Rows.laid_math_bits_deBruijn32tab), ("math/bits.deBruijn64tab", Rows.laid_math_bits_deBruijn64tab), ("internal/strconv.uint64pow10", Rows.laid_internal_strconv_uint64pow10), ("strconv.ErrRange", Rows.laid_strconv_ErrRange), ("strconv.ErrSyntax", Rows.laid_strconv_ErrSyntax), ("clepsydra/lex.marks", Rows.laid_clepsydra_lex_marks), ("clepsydra/parse.between", Rows.laid_clepsydra_parse_between), ("clepsydra/parse.ahead", Rows.laid_clepsydra_parse_ahead), ("clepsydra/parse.kinds", Rows.laid_clepsydra_parse_kinds), ("clepsydra/parse.leads", Rows.laid_clepsydra_parse_leads), ("clepsydra/parse.words", Rows.laid_clepsydra_parse_words)] W := h
  obtain ⟨ps, hl, _⟩ := h'
  have m0 : ∀ (a : String × DataW Unit) (r : List (String × DataW Unit)), a ∈ a :: r := fun a r => List.mem_cons_self
  exact vars_laid hl (.tail _ (.tail _ (.tail _ (.tail _ (.tail _ (m0 _ _)))))) (.tail _ (.tail _ (.tail _ (.tail _ (.tail _ (.tail _ (m0 _ _))))))) (.tail _ (.tail _ (.tail _ (.tail _ (.tail _ (.tail _ (.tail _ (m0 _ _)))))))) (.tail _ (.tail _ (.tail _ (.tail _ (.tail _ (.tail _ (.tail _ (.tail _ (m0 _ _))))))))) (.tail _ (.tail _ (.tail _ (.tail _ (.tail _ (.tail _ (.tail _ (.tail _ (.tail _ (m0 _ _)))))))))) (.tail _ (.tail _ (.tail _ (.tail _ (.tail _ (.tail _ (.tail _ (.tail _ (.tail _ (.tail _ (m0 _ _))))))))))) (.tail _ (m0 _ _))
end Go.Proofs.YtecbilopliblpaaGreatDoor
/- Plain mathematics of chapter 5: how a chart runs; no program. -/
namespace Go.Proofs.YtecbilopliblpaaGreatDoor
open Go.RowKit
namespace Px

abbrev Env := Str → Int
/-- what an expression comes to -/
def evE (now was : Env) : E → Int
  | .nil => 0
  | .node _ _ a l r => if a.code = 1 then a.num else if a.code = 2 then now a.name else if a.code = 3 then was a.name else if a.code = 4 ∨ a.code = 5 then vOne a.code (evE now was l) else vTwo a.code (evE now was l) (evE now was r)
def updE (n : Env) (s : Str) (x : Int) : Env := fun t => if s = t then x else n t
/-- what is set, one by one -/
def doS (was : Env) : List Asg → Env → Env
  | [], n => n
  | a :: r, n => doS was r (updE n a.name (evE n was a.e))
def noE : E → Bool
  | .nil => true
  | .node _ _ _ _ _ => false
/-- a way is so -/
def isSo (ov : Bool) (now was : Env) (y : Wy) : Bool := (!decide (y.kind = 2) || ov) && (noE y.cond || decide (evE now was y.cond ≠ 0))
/-- the first way of those that are asked that is open, and how often ways were so -/
def opnI (ov : Bool) (now was : Env) (asked : Wy → Bool) (ys : List Wy) : Nat → Nat → List Int → Option Nat × List Int
  | 0, _, cs => (none, cs)
  | f + 1, i, cs => match ys[i]? with
    | none => (none, cs)
    | some y =>
      if asked y && isSo ov now was y then
        if (y.times : Int) ≤ wrap64 (cs.getD i 0 + 1) then (some i, cs.set i (wrap64 (cs.getD i 0 + 1))) else opnI ov now was asked ys f (i + 1) (cs.set i (wrap64 (cs.getD i 0 + 1)))
      else opnI ov now was asked ys f (i + 1) cs
def opnW (ov : Bool) (now was : Env) (asked : Wy → Bool) (ys : List Wy) (cs : List Int) : Option Nat × List Int := opnI ov now was asked ys ys.length 0 cs
def askNS (y : Wy) : Bool := y.now && decide (y.kind = 1)
def askNW (y : Wy) : Bool := y.now && !decide (y.kind = 1)
def askS (y : Wy) : Bool := decide (y.kind = 1)
def askW (y : Wy) : Bool := !decide (y.kind = 1)

/-- what runs of a state: how often its ways were so, and what is inside -/
structure SdF (ρ : Type) where
  so : List Int
  inside : List ρ
/-- what runs of a region: which state is there, which one was, and all of them -/
structure RdF (ρ : Type) where
  there : Option Nat
  was : Option Nat
  sts : List (SdF ρ)
def Rd : Nat → Type
  | 0 => Unit
  | k + 1 => RdF (Rd k)
/-- what is done with a region -/
structure Ops (σ ρ : Type) where
  over : List σ → ρ → Bool
  enter : Env → Bool → List σ → Env → ρ → Option (Env × ρ)
  go : Env → List σ → Env → ρ → Option (Env × ρ)
  leave : Env → List σ → Env → ρ → Option (Env × ρ)
section
variable {σ ρ : Type}
/-- the same with each of some regions, one by one -/
def allI (f : List σ → Env → ρ → Option (Env × ρ)) (rs : List (List σ)) : Nat → Nat → Env → List ρ → Option (Env × List ρ)
  | 0, _, n, ds => some (n, ds)
  | fu + 1, i, n, ds => match rs[i]?, ds[i]? with
    | some r, some d => match f r n d with
      | none => none
      | some p => allI f rs fu (i + 1) p.1 (ds.set i p.2)
    | _, _ => none
def overs (O : Ops σ ρ) : List (List σ) → List ρ → Bool
  | r :: rs, d :: ds => O.over r d && overs O rs ds
  | _, _ => true
def firstI (L : List (StF σ)) : Option Nat := L.findIdx? (·.first)
def overR (L : List (StF σ)) (d : RdF ρ) : Bool := match d.there with
  | none => false
  | some i => match L[i]? with
    | none => false
    | some s => s.last
def leaveR (O : Ops σ ρ) (was : Env) (L : List (StF σ)) (n : Env) (d : RdF ρ) : Option (Env × RdF ρ) := match d.there with
  | none => some (n, d)
  | some i => match L[i]?, d.sts[i]? with
    | some s, some x => match allI (O.leave was) s.regions s.regions.length 0 n x.inside with
      | none => none
      | some p => some (doS was s.leave p.1, ⟨none, some i, d.sts.set i ⟨x.so, p.2⟩⟩)
    | _, _ => none
/-- all of entering but the way that is open then -/
def arriveR (O : Ops σ ρ) (was : Env) (L : List (StF σ)) (i : Nat) (back : Bool) (n : Env) (d : RdF ρ) : Option (Option Nat × Env × RdF ρ) := match L[i]?, d.sts[i]? with
  | some s, some x =>
    let n1 := doS was s.enter n
    let o1 := opnW (overs O s.regions x.inside) n1 was askNS s.ways (List.replicate s.ways.length 0)
    match o1.1 with
    | some j => some (some j, n1, ⟨some i, d.was, d.sts.set i ⟨o1.2, x.inside⟩⟩)
    | none => match allI (O.enter was back) s.regions s.regions.length 0 n1 x.inside with
      | none => none
      | some p =>
        let o2 := opnW (overs O s.regions p.2) p.1 was askNW s.ways o1.2
        some (o2.1, p.1, ⟨some i, d.was, d.sts.set i ⟨o2.2, p.2⟩⟩)
  | _, _ => none
/-- all of going on but the way that is open then -/
def passR (O : Ops σ ρ) (was : Env) (L : List (StF σ)) (n : Env) (d : RdF ρ) : Option (Option Nat × Env × RdF ρ) := match d.there with
  | none => none
  | some i => match L[i]?, d.sts[i]? with
    | some s, some x =>
      let o1 := opnW (overs O s.regions x.inside) n was askS s.ways x.so
      match o1.1 with
      | some j => some (some j, n, ⟨some i, d.was, d.sts.set i ⟨o1.2, x.inside⟩⟩)
      | none =>
        if evE n was s.rests ≠ 0 then some (none, n, ⟨some i, d.was, d.sts.set i ⟨o1.2, x.inside⟩⟩)
        else match allI (O.go was) s.regions s.regions.length 0 (doS was s.during n) x.inside with
          | none => none
          | some p =>
            let o2 := opnW (overs O s.regions p.2) p.1 was askW s.ways o1.2
            some (o2.1, p.1, ⟨some i, d.was, d.sts.set i ⟨o2.2, p.2⟩⟩)
    | _, _ => none
/-- one way is taken, but for the way that is open then -/
def takeR (O : Ops σ ρ) (was : Env) (L : List (StF σ)) (j : Nat) (n : Env) (d : RdF ρ) : Option (Option Nat × Env × RdF ρ) := match d.there with
  | none => none
  | some i => match L[i]? with
    | none => none
    | some s => match s.ways[j]? with
      | none => none
      | some y => match leaveR O was L n d with
        | none => none
        | some p => match fnd (snames L) y.to with
          | none => none
          | some t => arriveR O was L t y.back (doS was y.sets p.1) p.2
def followR (O : Ops σ ρ) (was : Env) (L : List (StF σ)) : Nat → Option Nat → Env → RdF ρ → Option (Env × RdF ρ)
  | _, none, n, d => some (n, d)
  | 0, some _, _, _ => none
  | f + 1, some j, n, d => match takeR O was L j n d with
    | none => none
    | some p => followR O was L f p.1 p.2.1 p.2.2
def enterAt (O : Ops σ ρ) (was : Env) (L : List (StF σ)) (i : Nat) (back : Bool) (n : Env) (d : RdF ρ) : Option (Env × RdF ρ) := match arriveR O was L i back n d with
  | none => none
  | some p => followR O was L (L.length + 2) p.1 p.2.1 p.2.2
def enterR (O : Ops σ ρ) (was : Env) (back : Bool) (L : List (StF σ)) (n : Env) (d : RdF ρ) : Option (Env × RdF ρ) := match back, d.was with
  | true, some i => enterAt O was L i true n d
  | _, _ => match firstI L with
    | none => none
    | some i => enterAt O was L i false n d
def goR (O : Ops σ ρ) (was : Env) (L : List (StF σ)) (n : Env) (d : RdF ρ) : Option (Env × RdF ρ) := match passR O was L n d with
  | none => none
  | some p => followR O was L (L.length + 2) p.1 p.2.1 p.2.2
def OpsF (O : Ops σ ρ) : Ops (StF σ) (RdF ρ) := ⟨overR, enterR O, goR O, leaveR O⟩
end
def OpsK : (k : Nat) → Ops (St k) (Rd k)
  | 0 => ⟨fun _ _ => false, fun _ _ _ n d => some (n, d), fun _ _ n d => some (n, d), fun _ _ n d => some (n, d)⟩
  | k + 1 => OpsF (OpsK k)
/-- a region in which nothing is there -/
def layD : (k : Nat) → List (St k) → Rd k
  | 0 => fun _ => ()
  | k + 1 => fun L => ⟨none, none, List.map (fun s : StF (St k) => ⟨s.ways.map fun _ => 0, s.regions.map (layD k)⟩) L⟩
/-- a chart that runs -/
structure Rn where
  now : Env
  was : Env
  ds : List (Rd 6)
def firstE (vs : List Decl) : Env := vs.foldl (fun n v => updE n v.name v.first) (fun _ => 0)
/-- inputs are what they are told -/
def hearE : List Decl → List Int → Env → Env
  | [], _, n => n
  | v :: r, ins, n => if v.kind = 1 then hearE r ins.tail (updE n v.name (ins.headD 0)) else hearE r ins n
def newC (c : Chart) : Rn := ⟨firstE c.vars, firstE c.vars, c.regions.map (layD 6)⟩
def tickG (was : Env) (L : List (St 6)) (n : Env) (d : Rd 6) : Option (Env × Rd 6) :=
  if (show RdF (Rd 5) from d).there = none then (OpsK 6).enter was false L n d else (OpsK 6).go was L n d
def tellC (p : Nat → Bool) (vs : List Decl) (n : Env) : List Int := (vs.filter fun v => p v.kind).map fun v => n v.name
def tickC (c : Chart) (ins : List Int) (r : Rn) : Option Rn := match allI (tickG r.was) c.regions c.regions.length 0 (hearE c.vars ins r.now) r.ds with
  | none => none
  | some p => some ⟨p.1, p.1, p.2⟩
def outsC (c : Chart) (r : Rn) : List Int := tellC (fun k => decide (k = 2)) c.vars r.now
/-- names of what is there -/
def thereF {σ ρ : Type} (f : List σ → ρ → List Str) (L : List (StF σ)) (d : RdF ρ) : List Str := match d.there with
  | none => []
  | some i => match L[i]?, d.sts[i]? with
    | some s, some x => s.name :: (List.zipWith f s.regions x.inside).flatten
    | _, _ => []
def thereK : (k : Nat) → List (St k) → Rd k → List Str
  | 0 => fun _ _ => []
  | k + 1 => fun L d => thereF (thereK k) L d
def thereC (c : Chart) (r : Rn) : List Str := (List.zipWith (thereK 6) c.regions r.ds).flatten
end Px
end Go.Proofs.YtecbilopliblpaaGreatDoor
/- Two charts that do the same, step by step: plain mathematics. -/
namespace Go.Proofs.YtecbilopliblpaaGreatDoor
open Go.RowKit Px
namespace Px
section
variable {α β : Type}
/-- both come to an end, and to the same, or neither does -/
def Sim2 (P : α → β → Prop) : Option α → Option β → Prop
  | some a, some b => P a b
  | none, none => True
  | _, _ => False
theorem Sim2.out {P : α → β → Prop} {a : Option α} {b : Option β} (h : Sim2 P a b) : (a = none ∧ b = none) ∨ ∃ x y, a = some x ∧ b = some y ∧ P x y := by
  cases a <;> cases b
  · exact .inl ⟨rfl, rfl⟩
  · exact absurd h id
  · exact absurd h id
  · exact .inr ⟨_, _, rfl, rfl, h⟩
/-- one by one -/
def L2r (P : α → β → Prop) (l : List α) (m : List β) : Prop := l.length = m.length ∧ ∀ (i : Nat) (a : α) (b : β), l[i]? = some a → m[i]? = some b → P a b
theorem L2r.or {P : α → β → Prop} {l : List α} {m : List β} (h : L2r P l m) (i : Nat) : (l[i]? = none ∧ m[i]? = none) ∨ ∃ a b, l[i]? = some a ∧ m[i]? = some b ∧ P a b := by
  by_cases hi : i < l.length
  · have hm : i < m.length := by rw [← h.1]; exact hi
    exact .inr ⟨l[i], m[i], List.getElem?_eq_getElem hi, List.getElem?_eq_getElem hm, h.2 i _ _ (List.getElem?_eq_getElem hi) (List.getElem?_eq_getElem hm)⟩
  · exact .inl ⟨List.getElem?_eq_none (by omega), List.getElem?_eq_none (by rw [← h.1]; omega)⟩
theorem L2r.set {P : α → β → Prop} {l : List α} {m : List β} (h : L2r P l m) (i : Nat) {a : α} {b : β} (hp : P a b) : L2r P (l.set i a) (m.set i b) := by
  refine ⟨by rw [List.length_set, List.length_set]; exact h.1, fun j x y hx hy => ?_⟩
  rw [List.getElem?_set] at hx hy
  by_cases e : i = j
  · rw [if_pos e] at hx hy
    split at hx
    · split at hy
      · injection hx with hx
        injection hy with hy
        rw [← hx, ← hy]; exact hp
      · exact absurd hy (by simp)
    · exact absurd hx (by simp)
  · rw [if_neg e] at hx hy
    exact h.2 j x y hx hy
theorem L2r.nil (P : α → β → Prop) : L2r P [] [] := ⟨rfl, fun i a b h => by simp at h⟩
theorem L2r.cons {P : α → β → Prop} {a : α} {b : β} {l : List α} {m : List β} (h : L2r P (a :: l) (b :: m)) : P a b ∧ L2r P l m :=
  ⟨h.2 0 a b rfl rfl, by have := h.1; simpa using this, fun i x y hx hy => h.2 (i + 1) x y (by simpa using hx) (by simpa using hy)⟩
theorem L2r.mk {P : α → β → Prop} {a : α} {b : β} {l : List α} {m : List β} (hp : P a b) (h : L2r P l m) : L2r P (a :: l) (b :: m) :=
  ⟨by simp [h.1], fun i x y hx hy => by
    cases i with
    | zero => simp at hx hy; rw [← hx, ← hy]; exact hp
    | succ i => exact h.2 i x y (by simpa using hx) (by simpa using hy)⟩
end
section
variable {σ ρ σ' ρ' : Type}
/-- what is done with regions that do the same -/
structure SimOps (Z : Env → Env → Prop) (O : Ops σ ρ) (O' : Ops σ' ρ') (G : List σ → List σ' → Prop) (R : ρ → ρ' → Prop) : Prop where
  over : ∀ L L' d d', G L L' → R d d' → O.over L d = O'.over L' d'
  enter : ∀ was was' b L L' n n' d d', G L L' → Z was was' → Z n n' → R d d' → Sim2 (fun p p' => Z p.1 p'.1 ∧ R p.2 p'.2) (O.enter was b L n d) (O'.enter was' b L' n' d')
  go : ∀ was was' L L' n n' d d', G L L' → Z was was' → Z n n' → R d d' → Sim2 (fun p p' => Z p.1 p'.1 ∧ R p.2 p'.2) (O.go was L n d) (O'.go was' L' n' d')
  leave : ∀ was was' L L' n n' d d', G L L' → Z was was' → Z n n' → R d d' → Sim2 (fun p p' => Z p.1 p'.1 ∧ R p.2 p'.2) (O.leave was L n d) (O'.leave was' L' n' d')
def SetsS (Z : Env → Env → Prop) (l l' : List Asg) : Prop := ∀ w w' n n', Z w w' → Z n n' → Z (doS w l n) (doS w' l' n')
def ExS (Z : Env → Env → Prop) (e e' : E) : Prop := ∀ n n' w w', Z n n' → Z w w' → evE n w e = evE n' w' e'
structure WyS (Z : Env → Env → Prop) (y y' : Wy) : Prop where
  kind : y.kind = y'.kind
  now : y.now = y'.now
  times : y.times = y'.times
  back : y.back = y'.back
  no : noE y.cond = noE y'.cond
  cond : ExS Z y.cond y'.cond
  sets : SetsS Z y.sets y'.sets
structure StS (Z : Env → Env → Prop) (G : List σ → List σ' → Prop) (s : StF σ) (s' : StF σ') : Prop where
  first : s.first = s'.first
  last : s.last = s'.last
  enter : SetsS Z s.enter s'.enter
  during : SetsS Z s.during s'.during
  leave : SetsS Z s.leave s'.leave
  rests : ExS Z s.rests s'.rests
  ways : L2r (WyS Z) s.ways s'.ways
  regions : L2r G s.regions s'.regions
structure GS (Z : Env → Env → Prop) (G : List σ → List σ' → Prop) (L : List (StF σ)) (L' : List (StF σ')) : Prop where
  st : L2r (StS Z G) L L'
  to : ∀ (i j : Nat) (s : StF σ) (s' : StF σ') (y y' : Wy), L[i]? = some s → L'[i]? = some s' → s.ways[j]? = some y → s'.ways[j]? = some y' → fnd (snames L) y.to = fnd (snames L') y'.to
structure RS2 (R : ρ → ρ' → Prop) (d : RdF ρ) (d' : RdF ρ') : Prop where
  there : d.there = d'.there
  was : d.was = d'.was
  sts : L2r (fun (x : SdF ρ) (x' : SdF ρ') => x.so = x'.so ∧ L2r R x.inside x'.inside) d.sts d'.sts
variable {Z : Env → Env → Prop} {O : Ops σ ρ} {O' : Ops σ' ρ'} {G : List σ → List σ' → Prop} {R : ρ → ρ' → Prop}
theorem allI_sim {f : List σ → Env → ρ → Option (Env × ρ)} {f' : List σ' → Env → ρ' → Option (Env × ρ')} (hf : ∀ r r' n n' d d', G r r' → Z n n' → R d d' → Sim2 (fun p p' => Z p.1 p'.1 ∧ R p.2 p'.2) (f r n d) (f' r' n' d')) {rs : List (List σ)} {rs' : List (List σ')} (hrs : L2r G rs rs') :
    ∀ (fu i : Nat) (n n' : Env) (ds : List ρ) (ds' : List ρ'), Z n n' → L2r R ds ds' → Sim2 (fun p p' => Z p.1 p'.1 ∧ L2r R p.2 p'.2) (allI f rs fu i n ds) (allI f' rs' fu i n' ds') := by
  intro fu
  induction fu with
  | zero => intro i n n' ds ds' hn hd; exact ⟨hn, hd⟩
  | succ fu ih =>
    intro i n n' ds ds' hn hd
    rw [allI, allI]
    rcases hrs.or i with ⟨h1, h2⟩ | ⟨r, r', h1, h2, hr⟩
    · simp only [h1, h2]; trivial
    · rcases hd.or i with ⟨k1, k2⟩ | ⟨x, x', k1, k2, hx⟩
      · simp only [h1, h2, k1, k2]; trivial
      · simp only [h1, h2, k1, k2]
        rcases (hf r r' n n' x x' hr hn hx).out with ⟨e1, e2⟩ | ⟨p, p', e1, e2, hp⟩
        · simp only [e1, e2]; trivial
        · simp only [e1, e2]
          exact ih (i + 1) p.1 p'.1 _ _ hp.1 (hd.set i hp.2)
theorem allI_sim' {f : List σ → Env → ρ → Option (Env × ρ)} {f' : List σ' → Env → ρ' → Option (Env × ρ')} (hf : ∀ r r' n n' d d', G r r' → Z n n' → R d d' → Sim2 (fun p p' => Z p.1 p'.1 ∧ R p.2 p'.2) (f r n d) (f' r' n' d')) {rs : List (List σ)} {rs' : List (List σ')} (hrs : L2r G rs rs') {n n' : Env} {ds : List ρ} {ds' : List ρ'} (hn : Z n n') (hd : L2r R ds ds') : Sim2 (fun p p' => Z p.1 p'.1 ∧ L2r R p.2 p'.2) (allI f rs rs.length 0 n ds) (allI f' rs' rs'.length 0 n' ds') := by
  rw [← hrs.1]
  exact allI_sim hf hrs _ _ _ _ _ _ hn hd
theorem overs_sim (hO : SimOps Z O O' G R) : ∀ {rs : List (List σ)} {rs' : List (List σ')} {ds : List ρ} {ds' : List ρ'}, L2r G rs rs' → L2r R ds ds' → overs O rs ds = overs O' rs' ds'
  | [], [], _, _, _, _ => by simp [overs]
  | [], _ :: _, _, _, h, _ => by have := h.1; simp at this
  | _ :: _, [], _, _, h, _ => by have := h.1; simp at this
  | _ :: _, _ :: _, [], [], _, _ => by simp [overs]
  | _ :: _, _ :: _, [], _ :: _, _, h => by have := h.1; simp at this
  | _ :: _, _ :: _, _ :: _, [], _, h => by have := h.1; simp at this
  | r :: rs, r' :: rs', d :: ds, d' :: ds', h, k => by
    rw [overs, overs, hO.over r r' d d' h.cons.1 k.cons.1, overs_sim hO h.cons.2 k.cons.2]
theorem isSo_sim {ov : Bool} {n n' w w' : Env} (hn : Z n n') (hw : Z w w') {y y' : Wy} (h : WyS Z y y') : isSo ov n w y = isSo ov n' w' y' := by
  unfold isSo
  rw [h.kind, h.no, h.cond n n' w w' hn hw]
theorem opnI_sim {ov : Bool} {n n' w w' : Env} (hn : Z n n') (hw : Z w w') {asked : Wy → Bool} (ha : ∀ y y' : Wy, WyS Z y y' → asked y = asked y') {ys ys' : List Wy} (h : L2r (WyS Z) ys ys') : ∀ (f i : Nat) (cs : List Int), opnI ov n w asked ys f i cs = opnI ov n' w' asked ys' f i cs := by
  intro f
  induction f with
  | zero => intro i cs; rfl
  | succ f ih =>
    intro i cs
    rw [opnI, opnI]
    rcases h.or i with ⟨h1, h2⟩ | ⟨y, y', h1, h2, hy⟩
    · simp only [h1, h2]
    · simp only [h1, h2]
      rw [ha y y' hy, isSo_sim hn hw hy, hy.times, ih, ih]
theorem opnW_sim {ov : Bool} {n n' w w' : Env} (hn : Z n n') (hw : Z w w') {asked : Wy → Bool} (ha : ∀ y y' : Wy, WyS Z y y' → asked y = asked y') {ys ys' : List Wy} (h : L2r (WyS Z) ys ys') (cs : List Int) : opnW ov n w asked ys cs = opnW ov n' w' asked ys' cs := by
  unfold opnW
  rw [h.1]
  exact opnI_sim hn hw ha h _ _ _
theorem ask1 (y y' : Wy) (h : WyS Z y y') : askNS y = askNS y' := by unfold askNS; rw [h.now, h.kind]
theorem ask2 (y y' : Wy) (h : WyS Z y y') : askNW y = askNW y' := by unfold askNW; rw [h.now, h.kind]
theorem ask3 (y y' : Wy) (h : WyS Z y y') : askS y = askS y' := by unfold askS; rw [h.kind]
theorem ask4 (y y' : Wy) (h : WyS Z y y') : askW y = askW y' := by unfold askW; rw [h.kind]
variable {L : List (StF σ)} {L' : List (StF σ')} {d : RdF ρ} {d' : RdF ρ'} {was was' n n' : Env}
theorem RS2.put (h : RS2 R d d') (i : Nat) {so so' : List Int} {ins : List ρ} {ins' : List ρ'} (hs : so = so') (hi : L2r R ins ins') (t u : Option Nat) : RS2 R ⟨t, u, d.sts.set i ⟨so, ins⟩⟩ ⟨t, u, d'.sts.set i ⟨so', ins'⟩⟩ :=
  ⟨rfl, rfl, h.sts.set i ⟨hs, hi⟩⟩
theorem leaveR_sim (hO : SimOps Z O O' G R) (hG : GS Z G L L') (hw : Z was was') (hn : Z n n') (hd : RS2 R d d') : Sim2 (fun p p' => Z p.1 p'.1 ∧ RS2 R p.2 p'.2) (leaveR O was L n d) (leaveR O' was' L' n' d') := by
  unfold leaveR
  rw [← hd.there]
  cases ht : d.there with
  | none => exact ⟨hn, hd⟩
  | some i =>
    simp only
    rcases hG.st.or i with ⟨h1, h2⟩ | ⟨s, s', h1, h2, hs⟩
    · simp only [h1, h2]; trivial
    · rcases hd.sts.or i with ⟨k1, k2⟩ | ⟨x, x', k1, k2, hx⟩
      · simp only [h1, h2, k1, k2]; trivial
      · simp only [h1, h2, k1, k2]
        rcases (allI_sim' (fun r r' n n' d d' h1 h2 h3 => hO.leave was was' r r' n n' d d' h1 hw h2 h3) hs.regions hn hx.2).out with ⟨e1, e2⟩ | ⟨p, p', e1, e2, hp⟩
        · simp only [e1, e2]; trivial
        · simp only [e1, e2]
          exact ⟨hs.leave _ _ _ _ hw hp.1, hd.put i hx.1 hp.2 none (some i)⟩
theorem arriveR_sim (hO : SimOps Z O O' G R) (hG : GS Z G L L') (hw : Z was was') (hn : Z n n') (hd : RS2 R d d') (i : Nat) (b : Bool) : Sim2 (fun p p' => p.1 = p'.1 ∧ Z p.2.1 p'.2.1 ∧ RS2 R p.2.2 p'.2.2) (arriveR O was L i b n d) (arriveR O' was' L' i b n' d') := by
  unfold arriveR
  rcases hG.st.or i with ⟨h1, h2⟩ | ⟨s, s', h1, h2, hs⟩
  · simp only [h1, h2]; trivial
  · rcases hd.sts.or i with ⟨k1, k2⟩ | ⟨x, x', k1, k2, hx⟩
    · simp only [h1, h2, k1, k2]; trivial
    · simp only [h1, h2, k1, k2]
      have hn1 := hs.enter was was' n n' hw hn
      have ho := opnW_sim (ov := overs O s.regions x.inside) hn1 hw ask1 hs.ways (List.replicate s.ways.length 0)
      rw [← hs.ways.1, ← overs_sim hO hs.regions hx.2, ← ho, ← hd.was]
      cases hc : (opnW (overs O s.regions x.inside) (doS was s.enter n) was askNS s.ways (List.replicate s.ways.length 0)).1 with
      | some j => exact ⟨rfl, hn1, hd.put i rfl hx.2 (some i) d.was⟩
      | none =>
        simp only
        rcases (allI_sim' (fun r r' n n' d d' h1 h2 h3 => hO.enter was was' b r r' n n' d d' h1 hw h2 h3) hs.regions hn1 hx.2).out with ⟨e1, e2⟩ | ⟨p, p', e1, e2, hp⟩
        · simp only [e1, e2]; trivial
        · simp only [e1, e2]
          have ho2 := opnW_sim (ov := overs O s.regions p.2) hp.1 hw ask2 hs.ways (opnW (overs O s.regions x.inside) (doS was s.enter n) was askNS s.ways (List.replicate s.ways.length 0)).2
          rw [← overs_sim hO hs.regions hp.2, ← ho2]
          exact ⟨rfl, hp.1, hd.put i rfl hp.2 (some i) d.was⟩
theorem passR_sim (hO : SimOps Z O O' G R) (hG : GS Z G L L') (hw : Z was was') (hn : Z n n') (hd : RS2 R d d') : Sim2 (fun p p' => p.1 = p'.1 ∧ Z p.2.1 p'.2.1 ∧ RS2 R p.2.2 p'.2.2) (passR O was L n d) (passR O' was' L' n' d') := by
  unfold passR
  rw [← hd.there]
  cases ht : d.there with
  | none => trivial
  | some i =>
    simp only
    rcases hG.st.or i with ⟨h1, h2⟩ | ⟨s, s', h1, h2, hs⟩
    · simp only [h1, h2]; trivial
    · rcases hd.sts.or i with ⟨k1, k2⟩ | ⟨x, x', k1, k2, hx⟩
      · simp only [h1, h2, k1, k2]; trivial
      · simp only [h1, h2, k1, k2]
        have ho := opnW_sim (ov := overs O s.regions x.inside) hn hw ask3 hs.ways x.so
        rw [← overs_sim hO hs.regions hx.2, ← hx.1, ← ho, ← hd.was, ← hs.rests n n' was was' hn hw]
        cases hc : (opnW (overs O s.regions x.inside) n was askS s.ways x.so).1 with
        | some j => exact ⟨rfl, hn, hd.put i rfl hx.2 (some i) d.was⟩
        | none =>
          simp only
          by_cases hr : evE n was s.rests ≠ 0
          · rw [if_pos hr, if_pos hr]
            exact ⟨rfl, hn, hd.put i rfl hx.2 (some i) d.was⟩
          · rw [if_neg hr, if_neg hr]
            rcases (allI_sim' (fun r r' n n' d d' h1 h2 h3 => hO.go was was' r r' n n' d d' h1 hw h2 h3) hs.regions (hs.during was was' n n' hw hn) hx.2).out with ⟨e1, e2⟩ | ⟨p, p', e1, e2, hp⟩
            · simp only [e1, e2]; trivial
            · simp only [e1, e2]
              have ho2 := opnW_sim (ov := overs O s.regions p.2) hp.1 hw ask4 hs.ways (opnW (overs O s.regions x.inside) n was askS s.ways x.so).2
              rw [← overs_sim hO hs.regions hp.2, ← ho2]
              exact ⟨rfl, hp.1, hd.put i rfl hp.2 (some i) d.was⟩
theorem takeR_sim (hO : SimOps Z O O' G R) (hG : GS Z G L L') (hw : Z was was') (hn : Z n n') (hd : RS2 R d d') (j : Nat) : Sim2 (fun p p' => p.1 = p'.1 ∧ Z p.2.1 p'.2.1 ∧ RS2 R p.2.2 p'.2.2) (takeR O was L j n d) (takeR O' was' L' j n' d') := by
  unfold takeR
  rw [← hd.there]
  cases ht : d.there with
  | none => trivial
  | some i =>
    simp only
    rcases hG.st.or i with ⟨h1, h2⟩ | ⟨s, s', h1, h2, hs⟩
    · simp only [h1, h2]; trivial
    · simp only [h1, h2]
      rcases hs.ways.or j with ⟨k1, k2⟩ | ⟨y, y', k1, k2, hy⟩
      · simp only [k1, k2]; trivial
      · simp only [k1, k2]
        rcases (leaveR_sim hO hG hw hn hd).out with ⟨e1, e2⟩ | ⟨p, p', e1, e2, hp⟩
        · simp only [e1, e2]; trivial
        · simp only [e1, e2]
          rw [← hG.to i j s s' y y' h1 h2 k1 k2]
          cases hf : fnd (snames L) y.to with
          | none => trivial
          | some t =>
            simp only
            rw [← hy.back]
            exact arriveR_sim hO hG hw (hy.sets was was' _ _ hw hp.1) hp.2 t y.back
theorem followR_sim (hO : SimOps Z O O' G R) (hG : GS Z G L L') (hw : Z was was') : ∀ (f : Nat) (w : Option Nat) (n n' : Env) (d : RdF ρ) (d' : RdF ρ'), Z n n' → RS2 R d d' → Sim2 (fun p p' => Z p.1 p'.1 ∧ RS2 R p.2 p'.2) (followR O was L f w n d) (followR O' was' L' f w n' d') := by
  intro f
  induction f with
  | zero =>
    intro w n n' d d' hn hd
    cases w with
    | none => exact ⟨hn, hd⟩
    | some j => trivial
  | succ f ih =>
    intro w n n' d d' hn hd
    cases w with
    | none => exact ⟨hn, hd⟩
    | some j =>
      rw [followR, followR]
      rcases (takeR_sim hO hG hw hn hd j).out with ⟨e1, e2⟩ | ⟨p, p', e1, e2, hp⟩
      · simp only [e1, e2]; trivial
      · simp only [e1, e2]
        rw [← hp.1]
        exact ih _ _ _ _ _ hp.2.1 hp.2.2
theorem enterAt_sim (hO : SimOps Z O O' G R) (hG : GS Z G L L') (hw : Z was was') (hn : Z n n') (hd : RS2 R d d') (i : Nat) (b : Bool) : Sim2 (fun p p' => Z p.1 p'.1 ∧ RS2 R p.2 p'.2) (enterAt O was L i b n d) (enterAt O' was' L' i b n' d') := by
  unfold enterAt
  rcases (arriveR_sim hO hG hw hn hd i b).out with ⟨e1, e2⟩ | ⟨p, p', e1, e2, hp⟩
  · simp only [e1, e2]; trivial
  · simp only [e1, e2]
    rw [← hG.st.1, ← hp.1]
    exact followR_sim hO hG hw _ _ _ _ _ _ hp.2.1 hp.2.2
theorem firstI_sim : ∀ {L : List (StF σ)} {L' : List (StF σ')}, L2r (fun s s' => s.first = s'.first) L L' → firstI L = firstI L'
  | [], [], _ => rfl
  | [], _ :: _, h => by have := h.1; simp at this
  | _ :: _, [], h => by have := h.1; simp at this
  | s :: L, s' :: L', h => by
    have h1 := h.cons
    have h2 := firstI_sim h1.2
    unfold firstI at *
    rw [List.findIdx?_cons, List.findIdx?_cons, h1.1, h2]
theorem opsF_sim (hO : SimOps Z O O' G R) : SimOps Z (OpsF O) (OpsF O') (GS Z G) (RS2 R) := by
  refine ⟨fun L L' d d' hG hd => ?_, fun was was' b L L' n n' d d' hG hw hn hd => ?_, fun was was' L L' n n' d d' hG hw hn hd => ?_, fun was was' L L' n n' d d' hG hw hn hd => leaveR_sim hO hG hw hn hd⟩
  · show overR L d = overR L' d'
    unfold overR
    rw [← hd.there]
    cases d.there with
    | none => rfl
    | some i =>
      simp only
      rcases hG.st.or i with ⟨h1, h2⟩ | ⟨s, s', h1, h2, hs⟩
      · simp only [h1, h2]
      · simp only [h1, h2, hs.last]
  · show Sim2 _ (enterR O was b L n d) (enterR O' was' b L' n' d')
    have hf : firstI L = firstI L' := firstI_sim ⟨hG.st.1, fun i s s' h1 h2 => (hG.st.2 i s s' h1 h2).first⟩
    have hrest : Sim2 (fun p p' => Z p.1 p'.1 ∧ RS2 R p.2 p'.2) (match firstI L with | none => none | some i => enterAt O was L i false n d) (match firstI L' with | none => none | some i => enterAt O' was' L' i false n' d') := by
      rw [← hf]
      cases firstI L with
      | none => trivial
      | some i => exact enterAt_sim hO hG hw hn hd i false
    unfold enterR
    rw [← hd.was]
    cases b with
    | false => exact hrest
    | true =>
      cases hwas : d.was with
      | none => exact hrest
      | some i => exact enterAt_sim hO hG hw hn hd i true
  · show Sim2 _ (goR O was L n d) (goR O' was' L' n' d')
    unfold goR
    rcases (passR_sim hO hG hw hn hd).out with ⟨e1, e2⟩ | ⟨p, p', e1, e2, hp⟩
    · simp only [e1, e2]; trivial
    · simp only [e1, e2]
      rw [← hG.st.1, ← hp.1]
      exact followR_sim hO hG hw _ _ _ _ _ _ hp.2.1 hp.2.2
end
end Px
end Go.Proofs.YtecbilopliblpaaGreatDoor
