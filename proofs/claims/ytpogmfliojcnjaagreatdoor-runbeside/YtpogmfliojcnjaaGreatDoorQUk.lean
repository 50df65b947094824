import Derived.Test.YtpogmfliojcnjaaGreatDoorRows
import Derived.Test.YtpogmfliojcnjaaGreatDoorQKn0
import Derived.ProofKit
import Derived.LaidMore
import Derived.OpenShut
import Derived.ShutString
import Derived.Stop.Joined
import Derived.LaidHandle
import Derived.Lib.LaidTab
import Derived.Ground.SlmcProg
import Derived.Ground.SlmpProg
import Derived.Shelf.SlMaps.Clone
import Derived.Shelf.SlMaps.Copy
import Derived.Test.YtpogmfliojcnjaaGreatDoorProg
import Derived.Test.YtpogmfliojcnjaaGreatDoorQCm
import Derived.Test.YtpogmfliojcnjaaGreatDoorQCs
import Derived.Maps.OwnSet
namespace Go.Proofs.YtpogmfliojcnjaaGreatDoor
open Go.ChangeShapes Go.WideShapes Go.ChangeAt Go.RowKit Px
theorem ownKn : ownKnob Tryz.prog.godebug = none := by kernel_rfl
theorem laidOut : laidOutB Tryz.prog = true := by kernel_rfl
def fl0 : DataW Unit → List Value
 | .lit (.string s) => [.string ⟨s.toArray⟩]
 | .lit (.int k n) => [.int k n]
 | _ => []
def flA (f : DataW Unit → List Value) : DataW Unit → List Value
 | .agg ps => ps.flatMap f
 | _ => []
def Opens (W : World) (t k : Nat) (f : DataW Unit → List Value) : Prop :=
 ∀ fuel cs d p, DataW.trod (fun _ => ()) Tryz.prog W 0 (fun _ => true) false fuel t cs = some (d, p) → cs = f d ∧ cs.length = k
theorem opens_string {W : World} {t : Nat} (hu : Tryz.prog.underlying t = some .string) : Opens W t 1 fl0 := by
 intro fuel cs d p h
 cases fuel with
 | zero => simp [DataW.trod] at h
 | succ fuel =>
  rcases cs with _ | ⟨c, _ | ⟨c', r⟩⟩
  ·simp [DataW.trod, hu] at h
  ·cases c with
   | string s =>
    simp only [DataW.trod, hu] at h
    split at h
    ·have hb := congrArg Prod.fst (Option.some.inj h)
     simp only at hb
     subst hb
     exact ⟨rfl, rfl⟩
    ·cases h
   | _ => simp [DataW.trod, hu] at h
  ·simp [DataW.trod, hu] at h
theorem opens_int {W : World} {t : Nat} {k : IntKind} (hu : Tryz.prog.underlying t = some (.int k)) : Opens W t 1 fl0 := by
 intro fuel cs d p h
 cases fuel with
 | zero => simp [DataW.trod] at h
 | succ fuel =>
  rcases cs with _ | ⟨c, _ | ⟨c', r⟩⟩
  ·simp [DataW.trod, hu] at h
  ·cases c with
   | int k' n =>
    simp only [DataW.trod, hu] at h
    split at h
    ·rename_i hk
     have hb := congrArg Prod.fst (Option.some.inj h)
     simp only at hb
     subst hb
     rw [hk.1]
     exact ⟨rfl, rfl⟩
    ·cases h
   | _ => simp [DataW.trod, hu] at h
  ·simp [DataW.trod, hu] at h
theorem chunks {k : Nat} {f : DataW Unit → List Value} : ∀ (ds : List (DataW Unit)) (cs : List Value), cs.length = ds.length * k → (∀ i d, ds[i]? = some d → (cs.drop (i * k)).take k = f d) → cs = ds.flatMap f := by
 intro ds
 induction ds with
 | nil => intro cs hl _; simp at hl; simp [hl]
 | cons d r ih =>
  intro cs hl h
  have h0 := h 0 d rfl
  rw [Nat.zero_mul, List.drop_zero] at h0
  have h1 := ih (cs.drop k) (by rw [List.length_drop, hl, List.length_cons, Nat.add_mul]; omega) (fun i d hi => by
   have := h (i + 1) d (by simpa using hi)
   rw [Nat.add_mul, Nat.one_mul, Nat.add_comm, ← List.drop_drop] at this
   exact this)
  rw [List.flatMap_cons, ← h0, ← h1, List.take_append_drop]
theorem opens_array {W : World} {t e n k : Nat} {f : DataW Unit → List Value} (hu : Tryz.prog.underlying t = some (.array n e)) (hce : Tryz.prog.cellsOf e = k) (hct : Tryz.prog.cellsOf t = n * k) (he : Opens W e k f) : Opens W t (n * k) (flA f) := by
 intro fuel cs d p h
 cases fuel with
 | zero => simp [DataW.trod] at h
 | succ fuel =>
  simp only [DataW.trod, hu, hce, hct] at h
  split at h
  ·rename_i hl
   obtain ⟨xs, hm, hx⟩ := Option.map_eq_some_iff.1 h
   have hd := congrArg Prod.fst hx
   simp only at hd
   subst hd
   have hxl : xs.length = n := by simpa using Lib.mapM_length hm
   refine ⟨?_, hl⟩
   show cs = (xs.map (·.1)).flatMap f
   refine chunks (k := k) _ cs (by rw [List.length_map, hxl]; exact hl) (fun i d hi => ?_)
   rw [List.getElem?_map, Option.map_eq_some_iff] at hi
   obtain ⟨b, hb, rfl⟩ := hi
   have hin : i < n := by rw [← hxl]; exact (List.getElem?_eq_some_iff.1 hb).1
   obtain ⟨b', hb', hf⟩ := Lib.mapM_at hm i i (by simp [hin])
   obtain rfl : b = b' := Option.some.inj (hb.symm.trans hb')
   exact (he fuel _ b.1 b.2 hf).1
  ·cases h
theorem two_of {α : Type} : ∀ (l : List α), l.length = 2 → ∃ x y, l = [x, y]
 | [x, y], _ => ⟨x, y, rfl⟩
theorem opens_two {W : World} {t a b : Nat} {f g : Field} (hu : Tryz.prog.underlying t = some (.struct #[f, g])) (hf : f.type = a ∧ f.offset = 0) (hg : g.type = b ∧ g.offset = 1) (hct : Tryz.prog.cellsOf t = 2) (hca : Tryz.prog.cellsOf a = 1) (hcb : Tryz.prog.cellsOf b = 1) (ha : Opens W a 1 fl0) (hb : Opens W b 1 fl0) : Opens W t 2 (flA fl0) := by
 intro fuel cs d p h
 cases fuel with
 | zero => simp [DataW.trod] at h
 | succ fuel =>
  simp only [DataW.trod, hu, hct] at h
  split at h
  ·rename_i hl
   obtain ⟨xs, hm, hx⟩ := Option.map_eq_some_iff.1 h
   obtain ⟨x, y, rfl⟩ : ∃ x y, cs = [x, y] := two_of cs hl
   have hd := congrArg Prod.fst hx
   simp only at hd
   subst hd
   simp only [List.mapM_cons, List.mapM_nil, Option.bind_eq_bind, Option.bind_eq_some_iff, Option.pure_def, Option.some.injEq, hf.1, hf.2, hg.1, hg.2, hca, hcb] at hm
   obtain ⟨b0, hb0, r0, ⟨b1, hb1, r1, rfl, rfl⟩, rfl⟩ := hm
   have e0 := (ha fuel _ b0.1 b0.2 hb0).1
   have e1 := (hb fuel _ b1.1 b1.2 hb1).1
   refine ⟨?_, rfl⟩
   show [x, y] = fl0 b0.1 ++ (fl0 b1.1 ++ [])
   rw [← e0, ← e1]; rfl
  ·cases h
theorem laid_mem {W : World} : ∀ {l : List (String × DataW Unit)} {ps : List MemPlace}, DataW.LaidVars Tryz.prog W l ps → ∀ x ∈ l, ∃ g t cs f p, Tryz.prog.globalNamed x.1 = some g ∧ (Tryz.prog.globals[g]?).map (·.type) = some t ∧ W.var? Tryz.prog x.1 = some cs ∧ DataW.trod (fun _ => ()) Tryz.prog W 0 (fun _ => true) false f t cs.toList = some (x.2, p) := by
 intro l
 induction l with
 | nil => intro ps _ x hx; cases hx
 | cons y r ih =>
  intro ps h x hx
  obtain ⟨g, t, cs, f, p, q, h1, h2, h3, h4, h5, _⟩ := h
  rcases List.mem_cons.1 hx with rfl | hx
  ·exact ⟨g, t, cs, f, p, h1, h2, h3, h4⟩
  ·exact ih h5 x hx
theorem tab_of {W : World} {l : List (String × DataW Unit)} {ps : List MemPlace} (hl : DataW.LaidVars Tryz.prog W l ps) {n : String} {d : DataW Unit} (hm : (n, d) ∈ l) {g t k : Nat} {f : DataW Unit → List Value} (hg : Tryz.prog.globalNamed n = some g) (ht : (Tryz.prog.globals[g]?).map (·.type) = some t) (ho : Opens W t k f) : TabAt W g (f d) := by
 obtain ⟨g', t', cs, fu, p, h1, h2, h3, h4⟩ := laid_mem hl _ hm
 obtain rfl := Option.some.inj (hg.symm.trans h1)
 obtain rfl := Option.some.inj (ht.symm.trans h2)
 have e := (ho fu _ _ _ h4).1
 intro i v hv
 rw [World.var?_cell hg h3 i, ← Array.getElem?_toList, e]
 exact hv
theorem big_of {W : World} {l : List (String × DataW Unit)} {ps : List MemPlace} (hl : DataW.LaidVars Tryz.prog W l ps) {n : String} {d : DataW Unit} (hm : (n, d) ∈ l) {g : Nat} (hg : Tryz.prog.globalNamed n = some g) : g < W.heap.size := by
 obtain ⟨g', t', cs, fu, p, h1, h2, h3, h4⟩ := laid_mem hl _ hm
 rw [World.var?, hg, Option.bind_some] at h3
 by_cases hlt : g < W.heap.size
 ·exact hlt
 ·rw [show W.heap[g]? = none from Array.getElem?_eq_none (by omega)] at h3
  simp at h3
theorem op_str {W : World} : Opens W 9 1 fl0 := opens_string Tryz.underlying9
theorem op_int {W : World} : Opens W 3 1 fl0 := opens_int Tryz.underlying3
theorem op_sign {W : World} : Opens W 297 2 (flA fl0) := opens_two Tryz.underlying297 ⟨rfl, rfl⟩ ⟨rfl, rfl⟩ (by kernel_rfl) (by kernel_rfl) (by kernel_rfl) op_str op_int
theorem op_21 {W : World} : Opens W 206 (21 * 1) (flA fl0) := opens_array Tryz.underlying206 (by kernel_rfl) (by kernel_rfl) op_str
theorem op_4 {W : World} : Opens W 208 (4 * 1) (flA fl0) := opens_array Tryz.underlying208 (by kernel_rfl) (by kernel_rfl) op_str
theorem op_3 {W : World} : Opens W 293 (3 * 1) (flA fl0) := opens_array Tryz.underlying293 (by kernel_rfl) (by kernel_rfl) op_str
theorem op_2s {W : World} : Opens W 298 (2 * 2) (flA (flA fl0)) := opens_array Tryz.underlying298 (by kernel_rfl) (by kernel_rfl) op_sign
theorem op_4s {W : World} : Opens W 299 (4 * 2) (flA (flA fl0)) := opens_array Tryz.underlying299 (by kernel_rfl) (by kernel_rfl) op_sign
theorem op_54s {W : World} : Opens W 300 (5 * (4 * 2)) (flA (flA (flA fl0))) := opens_array Tryz.underlying300 (by kernel_rfl) (by kernel_rfl) op_4s
theorem gMarks : Tryz.prog.globalNamed "clepsydra/lex.marks" = some 1 := by kernel_rfl
theorem gWords : Tryz.prog.globalNamed "clepsydra/parse.words" = some 4 := by kernel_rfl
theorem gKinds : Tryz.prog.globalNamed "clepsydra/parse.kinds" = some 2 := by kernel_rfl
theorem gLeads : Tryz.prog.globalNamed "clepsydra/parse.leads" = some 6 := by kernel_rfl
theorem gAhead : Tryz.prog.globalNamed "clepsydra/parse.ahead" = some 7 := by kernel_rfl
theorem gBetween : Tryz.prog.globalNamed "clepsydra/parse.between" = some 8 := by kernel_rfl
theorem marks_of {W : World} (h : TabAt W 1 (Lx.marks.map markS)) : Marks W := by
 intro i hi
 have hl : i < Lx.marks.length := hi
 refine h i _ ?_
 rw [List.getElem?_map, List.getElem?_eq_getElem hl, List.getD_eq_getElem?_getD, List.getElem?_eq_getElem hl]
 rfl
theorem gBits : Tryz.prog.globalNamed "math/bits.deBruijn64tab" = some 12 := by kernel_rfl
theorem vars_laid {W : World} {l : List (String × DataW Unit)} {ps : List MemPlace} (hl : DataW.LaidVars Tryz.prog W l ps)
    (h1 : ("clepsydra/lex.marks", Rows.laid_clepsydra_lex_marks) ∈ l) (h2 : ("clepsydra/parse.between", Rows.laid_clepsydra_parse_between) ∈ l) (h3 : ("clepsydra/parse.ahead", Rows.laid_clepsydra_parse_ahead) ∈ l) (h4 : ("clepsydra/parse.kinds", Rows.laid_clepsydra_parse_kinds) ∈ l) (h5 : ("clepsydra/parse.leads", Rows.laid_clepsydra_parse_leads) ∈ l) (h6 : ("clepsydra/parse.words", Rows.laid_clepsydra_parse_words) ∈ l) (h7 : ("math/bits.deBruijn64tab", Rows.laid_math_bits_deBruijn64tab) ∈ l) : Kx.KEnv0 W :=
 ⟨⟨tab_of hl h6 gWords (by kernel_rfl) op_21, tab_of hl h4 gKinds (by kernel_rfl) op_4, tab_of hl h5 gLeads (by kernel_rfl) op_3, tab_of hl h3 gAhead (by kernel_rfl) op_2s, tab_of hl h2 gBetween (by kernel_rfl) op_54s⟩, marks_of (tab_of hl h1 gMarks (by kernel_rfl) op_21), big_of hl h7 gBits⟩
theorem run_laid {W : World} (h : laidMetH Tryz.prog Rows.runBesideRow.laid W) : Kx.KEnv0 W := by
 have h' : laidMet Tryz.prog [("math/bits.deBruijn32tab", Rows.laid_math_bits_deBruijn32tab), ("math/bits.deBruijn64tab", Rows.laid_math_bits_deBruijn64tab), ("internal/strconv.uint64pow10", Rows.laid_internal_strconv_uint64pow10), ("strconv.ErrRange", Rows.laid_strconv_ErrRange), ("strconv.ErrSyntax", Rows.laid_strconv_ErrSyntax), ("clepsydra/lex.marks", Rows.laid_clepsydra_lex_marks), ("clepsydra/parse.between", Rows.laid_clepsydra_parse_between), ("clepsydra/parse.ahead", Rows.laid_clepsydra_parse_ahead), ("clepsydra/parse.kinds", Rows.laid_clepsydra_parse_kinds), ("clepsydra/parse.leads", Rows.laid_clepsydra_parse_leads), ("clepsydra/parse.words", Rows.laid_clepsydra_parse_words)] W := h
 obtain ⟨ps, hl, _⟩ := h'
 have m0 : ∀ (a : String × DataW Unit) (r : List (String × DataW Unit)), a ∈ a :: r := fun a r => List.mem_cons_self
 exact vars_laid hl (.tail _ (.tail _ (.tail _ (.tail _ (.tail _ (m0 _ _)))))) (.tail _ (.tail _ (.tail _ (.tail _ (.tail _ (.tail _ (m0 _ _))))))) (.tail _ (.tail _ (.tail _ (.tail _ (.tail _ (.tail _ (.tail _ (m0 _ _)))))))) (.tail _ (.tail _ (.tail _ (.tail _ (.tail _ (.tail _ (.tail _ (.tail _ (m0 _ _))))))))) (.tail _ (.tail _ (.tail _ (.tail _ (.tail _ (.tail _ (.tail _ (.tail _ (.tail _ (m0 _ _)))))))))) (.tail _ (.tail _ (.tail _ (.tail _ (.tail _ (.tail _ (.tail _ (.tail _ (.tail _ (.tail _ (m0 _ _))))))))))) (.tail _ (m0 _ _))
end Go.Proofs.YtpogmfliojcnjaaGreatDoor
namespace Go.Proofs
open Go.Shelf
def Tryz.cloneE_ren : Go.Shelf.Ren := ⟨fun | 5 => 34 | 7 => 64 | n => n, fun | 23 => 74 | 25 => 9 | 3 => 2 | 4 => 4 | 20 => 20 | n => n, fun | n => n⟩
theorem Tryz.cloneE : Go.Proofs.SlLaysW.n5 Tryz.prog Tryz.cloneE_ren := {
 mixed := by kernel_rfl
 f5 := ⟨Tryz.f34.name, by decide, Tryz.func34.trans (congrArg some (by kernel_rfl))⟩
 f7 := Tryz.func64.trans (congrArg some (by kernel_rfl))
 t4 := Tryz.underlying4
 a4 := Tryz.isAgg4
 z4 := Tryz.sizeOf4
 v4 := Tryz.zeroValue4
 t20 := Tryz.underlying20
 a20 := Tryz.isAgg20
 z20 := Tryz.sizeOf20
 v20 := Tryz.zeroValue20
 t23 := Tryz.underlying74
 a23 := Tryz.isAgg74
 z23 := Tryz.sizeOf74
 v23 := Tryz.zeroValue74 }
def Tryz.copyE_ren : Go.Shelf.Ren := ⟨fun | 5 => 39 | n => n, fun | 23 => 74 | 24 => 74 | 26 => 9 | 27 => 2 | 0 => 0 | 4 => 4 | n => n, fun | n => n⟩
theorem Tryz.copyE : Go.Proofs.SlLaysX.n5 Tryz.prog Tryz.copyE_ren := {
 mixed := by kernel_rfl
 f5 := ⟨Tryz.f39.name, by decide, Tryz.func39.trans (congrArg some (by kernel_rfl))⟩
 t0 := Tryz.underlying0
 a0 := Tryz.isAgg0
 z0 := Tryz.sizeOf0
 v0 := Tryz.zeroValue0
 t4 := Tryz.underlying4
 a4 := Tryz.isAgg4
 z4 := Tryz.sizeOf4
 v4 := Tryz.zeroValue4
 t23 := Tryz.underlying74
 a23 := Tryz.isAgg74
 z23 := Tryz.sizeOf74
 v23 := Tryz.zeroValue74
 t24 := Tryz.underlying74
 a24 := Tryz.isAgg74
 z24 := Tryz.sizeOf74
 v24 := Tryz.zeroValue74
 a26 := Tryz.isAgg9
 z26 := Tryz.sizeOf9
 a27 := Tryz.isAgg2
 z27 := Tryz.sizeOf2 }
end Go.Proofs
namespace Go.Proofs.YtpogmfliojcnjaaGreatDoor
open Go.RowKit
namespace Px
abbrev Env := Str → Int
def evE (now was : Env) : E → Int
 | .nil => 0
 | .node _ _ a l r => if a.code = 1 then a.num else if a.code = 2 then now a.name else if a.code = 3 then was a.name else if a.code = 4 ∨ a.code = 5 then vOne a.code (evE now was l) else vTwo a.code (evE now was l) (evE now was r)
def updE (n : Env) (s : Str) (x : Int) : Env := fun t => if s = t then x else n t
def doS (was : Env) : List Asg → Env → Env
 | [], n => n
 | a :: r, n => doS was r (updE n a.name (evE n was a.e))
def noE : E → Bool
 | .nil => true
 | .node _ _ _ _ _ => false
def isSo (ov : Bool) (now was : Env) (y : Wy) : Bool := (!decide (y.kind = 2) || ov) && (noE y.cond || decide (evE now was y.cond ≠ 0))
def opnI (ov : Bool) (now was : Env) (asked : Wy → Bool) (ys : List Wy) : Nat → Nat → List Int → Option Nat × List Int
 | 0, _, cs => (none, cs)
 | f + 1, i, cs => match ys[i]? with
  | none => (none, cs)
  | some y =>
   if asked y && isSo ov now was y then
    if (y.times : Int) ≤ wrap64 (cs.getD i 0 + 1) then (some i, cs.set i (wrap64 (cs.getD i 0 + 1))) else opnI ov now was asked ys f (i + 1) (cs.set i (wrap64 (cs.getD i 0 + 1)))
   else opnI ov now was asked ys f (i + 1) cs
def opnW (ov : Bool) (now was : Env) (asked : Wy → Bool) (ys : List Wy) (cs : List Int) : Option Nat × List Int := opnI ov now was asked ys ys.length 0 cs
def askNS (y : Wy) : Bool := y.now && decide (y.kind = 1)
def askNW (y : Wy) : Bool := y.now && !decide (y.kind = 1)
def askS (y : Wy) : Bool := decide (y.kind = 1)
def askW (y : Wy) : Bool := !decide (y.kind = 1)
structure SdF (ρ : Type) where
 so : List Int
 inside : List ρ
structure RdF (ρ : Type) where
 there : Option Nat
 was : Option Nat
 sts : List (SdF ρ)
def Rd : Nat → Type
 | 0 => Unit
 | k + 1 => RdF (Rd k)
structure Ops (σ ρ : Type) where
 over : List σ → ρ → Bool
 enter : Env → Bool → List σ → Env → ρ → Option (Env × ρ)
 go : Env → List σ → Env → ρ → Option (Env × ρ)
 leave : Env → List σ → Env → ρ → Option (Env × ρ)
section
variable {σ ρ : Type}
def allI (f : List σ → Env → ρ → Option (Env × ρ)) (rs : List (List σ)) : Nat → Nat → Env → List ρ → Option (Env × List ρ)
 | 0, _, n, ds => some (n, ds)
 | fu + 1, i, n, ds => match rs[i]?, ds[i]? with
  | some r, some d => match f r n d with
   | none => none
   | some p => allI f rs fu (i + 1) p.1 (ds.set i p.2)
  | _, _ => none
def overs (O : Ops σ ρ) : List (List σ) → List ρ → Bool
 | r :: rs, d :: ds => O.over r d && overs O rs ds
 | _, _ => true
def firstI (L : List (StF σ)) : Option Nat := L.findIdx? (·.first)
def overR (L : List (StF σ)) (d : RdF ρ) : Bool := match d.there with
 | none => false
 | some i => match L[i]? with
  | none => false
  | some s => s.last
def leaveR (O : Ops σ ρ) (was : Env) (L : List (StF σ)) (n : Env) (d : RdF ρ) : Option (Env × RdF ρ) := match d.there with
 | none => some (n, d)
 | some i => match L[i]?, d.sts[i]? with
  | some s, some x => match allI (O.leave was) s.regions s.regions.length 0 n x.inside with
   | none => none
   | some p => some (doS was s.leave p.1, ⟨none, some i, d.sts.set i ⟨x.so, p.2⟩⟩)
  | _, _ => none
def arriveR (O : Ops σ ρ) (was : Env) (L : List (StF σ)) (i : Nat) (back : Bool) (n : Env) (d : RdF ρ) : Option (Option Nat × Env × RdF ρ) := match L[i]?, d.sts[i]? with
 | some s, some x =>
  let n1 := doS was s.enter n
  let o1 := opnW (overs O s.regions x.inside) n1 was askNS s.ways (List.replicate s.ways.length 0)
  match o1.1 with
  | some j => some (some j, n1, ⟨some i, d.was, d.sts.set i ⟨o1.2, x.inside⟩⟩)
  | none => match allI (O.enter was back) s.regions s.regions.length 0 n1 x.inside with
   | none => none
   | some p =>
    let o2 := opnW (overs O s.regions p.2) p.1 was askNW s.ways o1.2
    some (o2.1, p.1, ⟨some i, d.was, d.sts.set i ⟨o2.2, p.2⟩⟩)
 | _, _ => none
def passR (O : Ops σ ρ) (was : Env) (L : List (StF σ)) (n : Env) (d : RdF ρ) : Option (Option Nat × Env × RdF ρ) := match d.there with
 | none => none
 | some i => match L[i]?, d.sts[i]? with
  | some s, some x =>
   let o1 := opnW (overs O s.regions x.inside) n was askS s.ways x.so
   match o1.1 with
   | some j => some (some j, n, ⟨some i, d.was, d.sts.set i ⟨o1.2, x.inside⟩⟩)
   | none =>
    if evE n was s.rests ≠ 0 then some (none, n, ⟨some i, d.was, d.sts.set i ⟨o1.2, x.inside⟩⟩)
    else match allI (O.go was) s.regions s.regions.length 0 (doS was s.during n) x.inside with
     | none => none
     | some p =>
      let o2 := opnW (overs O s.regions p.2) p.1 was askW s.ways o1.2
      some (o2.1, p.1, ⟨some i, d.was, d.sts.set i ⟨o2.2, p.2⟩⟩)
  | _, _ => none
def takeR (O : Ops σ ρ) (was : Env) (L : List (StF σ)) (j : Nat) (n : Env) (d : RdF ρ) : Option (Option Nat × Env × RdF ρ) := match d.there with
 | none => none
 | some i => match L[i]? with
  | none => none
  | some s => match s.ways[j]? with
   | none => none
   | some y => match leaveR O was L n d with
    | none => none
    | some p => match fnd (snames L) y.to with
     | none => none
     | some t => arriveR O was L t y.back (doS was y.sets p.1) p.2
def followR (O : Ops σ ρ) (was : Env) (L : List (StF σ)) : Nat → Option Nat → Env → RdF ρ → Option (Env × RdF ρ)
 | _, none, n, d => some (n, d)
 | 0, some _, _, _ => none
 | f + 1, some j, n, d => match takeR O was L j n d with
  | none => none
  | some p => followR O was L f p.1 p.2.1 p.2.2
def enterAt (O : Ops σ ρ) (was : Env) (L : List (StF σ)) (i : Nat) (back : Bool) (n : Env) (d : RdF ρ) : Option (Env × RdF ρ) := match arriveR O was L i back n d with
 | none => none
 | some p => followR O was L (L.length + 2) p.1 p.2.1 p.2.2
def enterR (O : Ops σ ρ) (was : Env) (back : Bool) (L : List (StF σ)) (n : Env) (d : RdF ρ) : Option (Env × RdF ρ) := match back, d.was with
 | true, some i => enterAt O was L i true n d
 | _, _ => match firstI L with
  | none => none
  | some i => enterAt O was L i false n d
def goR (O : Ops σ ρ) (was : Env) (L : List (StF σ)) (n : Env) (d : RdF ρ) : Option (Env × RdF ρ) := match passR O was L n d with
 | none => none
 | some p => followR O was L (L.length + 2) p.1 p.2.1 p.2.2
def OpsF (O : Ops σ ρ) : Ops (StF σ) (RdF ρ) := ⟨overR, enterR O, goR O, leaveR O⟩
end
def OpsK : (k : Nat) → Ops (St k) (Rd k)
 | 0 => ⟨fun _ _ => false, fun _ _ _ n d => some (n, d), fun _ _ n d => some (n, d), fun _ _ n d => some (n, d)⟩
 | k + 1 => OpsF (OpsK k)
def layD : (k : Nat) → List (St k) → Rd k
 | 0 => fun _ => ()
 | k + 1 => fun L => ⟨none, none, List.map (fun s : StF (St k) => ⟨s.ways.map fun _ => 0, s.regions.map (layD k)⟩) L⟩
structure Rn where
 now : Env
 was : Env
 ds : List (Rd 6)
def firstE (vs : List Decl) : Env := vs.foldl (fun n v => updE n v.name v.first) (fun _ => 0)
def hearE : List Decl → List Int → Env → Env
 | [], _, n => n
 | v :: r, ins, n => if v.kind = 1 then hearE r ins.tail (updE n v.name (ins.headD 0)) else hearE r ins n
def newC (c : Chart) : Rn := ⟨firstE c.vars, firstE c.vars, c.regions.map (layD 6)⟩
def tickG (was : Env) (L : List (St 6)) (n : Env) (d : Rd 6) : Option (Env × Rd 6) :=
 if (show RdF (Rd 5) from d).there = none then (OpsK 6).enter was false L n d else (OpsK 6).go was L n d
def tellC (p : Nat → Bool) (vs : List Decl) (n : Env) : List Int := (vs.filter fun v => p v.kind).map fun v => n v.name
def tickC (c : Chart) (ins : List Int) (r : Rn) : Option Rn := match allI (tickG r.was) c.regions c.regions.length 0 (hearE c.vars ins r.now) r.ds with
 | none => none
 | some p => some ⟨p.1, p.1, p.2⟩
def outsC (c : Chart) (r : Rn) : List Int := tellC (fun k => decide (k = 2)) c.vars r.now
def thereF {σ ρ : Type} (f : List σ → ρ → List Str) (L : List (StF σ)) (d : RdF ρ) : List Str := match d.there with
 | none => []
 | some i => match L[i]?, d.sts[i]? with
  | some s, some x => s.name :: (List.zipWith f s.regions x.inside).flatten
  | _, _ => []
def thereK : (k : Nat) → List (St k) → Rd k → List Str
 | 0 => fun _ _ => []
 | k + 1 => fun L d => thereF (thereK k) L d
def thereC (c : Chart) (r : Rn) : List Str := (List.zipWith (thereK 6) c.regions r.ds).flatten
end Px
end Go.Proofs.YtpogmfliojcnjaaGreatDoor
namespace Go.Proofs.YtpogmfliojcnjaaGreatDoor
open Go.RowKit Go.Maps Go.WideMaps Px
def N64 (x : Int) : Prop := -9223372036854775808 ≤ x ∧ x ≤ 9223372036854775807
theorem N64.wf {x : Int} (h : N64 x) : (Lit.int .i64 x).wf = true := by
 have e1 : IntKind.i64.min = -9223372036854775808 := by decide
 have e2 : IntKind.i64.max = 9223372036854775807 := by decide
 unfold N64 at h
 simp [Lit.wf, e1, e2]
 omega
theorem N64.of_wf {x : Int} (h : (Lit.int .i64 x).wf = true) : N64 x := by
 have e1 : IntKind.i64.min = -9223372036854775808 := by decide
 have e2 : IntKind.i64.max = 9223372036854775807 := by decide
 simp [Lit.wf, e1, e2] at h
 exact ⟨h.1, h.2⟩
theorem N64.zero : N64 0 := by unfold N64; omega
theorem yes_n64 (b : Bool) : N64 (yes b) := by unfold N64 yes; split <;> omega
theorem vOne_n64 (c a : Int) : N64 (vOne c a) := by
 unfold vOne
 split
 ·exact wrap64_lo _
 ·split
  ·exact yes_n64 _
  ·exact N64.zero
theorem vTwo_n64 {c a b : Int} (hb : N64 b) : N64 (vTwo c a b) := by
 unfold vTwo
 repeat' split
 all_goals first
  | exact wrap64_lo _
  | exact yes_n64 _
  | exact N64.zero
  | skip
 ·unfold vDiv; split
  ·exact N64.zero
  ·exact wrap64_lo _
 ·unfold vMod; split
  ·exact N64.zero
  ·have := tmod_small a b hb (by assumption)
   unfold N64
   omega
theorem smapZero64 (w : World) : (zeroValue 2).run Tryz.prog w = .ok (.int .i64 0) w := by kernel_rfl
def MapE (w : World) (b m : Nat) (ns : List Str) (f : Px.Env) : Prop :=
 ∃ D : DataW Unit, w.ownsMap Tryz.prog 9 (plainElem Tryz.prog 2) b (Maps.size D) D ∧ Maps.size D ≤ m ∧ (∀ s ∈ ns, Maps.has D (.string s) = true) ∧ (∀ s : Str, Maps.has D (.string s) = true → s ∈ ns) ∧ ∀ (s : Str), D.atKey (.string s) (.lit (.int .i64 0)) = .lit (.int .i64 (f s))
section
variable {w w' : World} {b m : Nat} {ns : List Str} {f g : Px.Env}
theorem MapE.lt (h : MapE w b m ns f) : b < w.heap.size := by obtain ⟨D, h, _⟩ := h; exact h.lt
theorem MapE.keep (h : MapE w b m ns f) (hb : w'.heap[b]? = w.heap[b]?) : MapE w' b m ns f := by
 obtain ⟨D, ⟨es, clock, h1, h2⟩, h3⟩ := h
 exact ⟨D, ⟨es, clock, by rw [hb]; exact h1, h2⟩, h3⟩
theorem MapE.below (h : MapE w b m ns f) (hb : Below w.heap.size w w') : MapE w' b m ns f := h.keep (hb.block b h.lt)
theorem MapE.look (h : MapE w b m ns f) {s : Str} (hs : s.length ≤ maxLen) :
    (Instr.lookup 74 (.map (some b)) (sv s) false).run Tryz.prog w = .ok (.int .i64 (f s)) w ∧ N64 (f s) := by
 obtain ⟨D, h1, _, _, _, h2⟩ := h
 obtain ⟨c, hrun, hat, hwc⟩ := h1.lookup_int smapLaw Tryz.underlying74 Tryz.underlying2 (smapZero64 w) (sKey hs)
 rw [h2 s] at hat
 injection hat with hat
 injection hat with _ hat
 rw [hat]
 exact ⟨hrun, N64.of_wf hwc⟩
theorem mapE_size {D : DataW Unit} {n : Nat} (h : w.ownsMap Tryz.prog 9 (plainElem Tryz.prog 2) b n D) : w.ownsMap Tryz.prog 9 (plainElem Tryz.prog 2) b (Maps.size D) D := by
 obtain ⟨es, clock, h1, h2, h3, rfl⟩ := h
 refine ⟨es, clock, h1, h2, ?_, rfl⟩
 show es.size ≤ ((es.toList.map _).foldr DataW.insert []).length
 rw [length_sorted]; simp
theorem MapE.put (h : MapE w b m ns f) (hm : m ≤ 1000000) {s : Str} (hn : s ∈ ns) (hs : s.length ≤ maxLen) {x : Int} (hx : N64 x) :
    ∃ w', (Instr.mapUpdate 74 (.map (some b)) (sv s) (.int .i64 x)).run Tryz.prog w = .ok () w' ∧ MapE w' b m ns (updE f s x) ∧ w.grownBy w' (some b) := by
 obtain ⟨D, hD, hz, hk, ho, hat⟩ := h
 obtain ⟨w', hrun, hD', hg⟩ := hD.update smapLaw Tryz.underlying74 (by unfold maxLen; omega) (sKey hs) (plainElem_int Tryz.underlying2 hx.wf)
 refine ⟨w', hrun, ⟨_, mapE_size hD', ?_, fun t ht => ?_, fun t ht => ?_, fun t => ?_⟩, hg⟩
 ·rw [Maps.size_put (hD.tidy smapLaw), hk s hn]; exact hz
 ·by_cases e : s = t
  ·subst e; exact Maps.has_put_same hD.isMap (by simp [WideAt.IsKeyLit]) _
  ·rw [Maps.has_put_other (by intro hh; injection hh with hh; exact e hh.symm)]; exact hk t ht
 ·by_cases e : s = t
  ·rw [← e]; exact hn
  ·rw [Maps.has_put_other (by intro hh; injection hh with hh; exact e hh.symm)] at ht; exact ho t ht
 ·by_cases e : s = t
  ·subst e
   rw [atKey_put_same hD.isMap (k := .string s) (by simp [WideAt.IsKeyLit])]
   simp [updE]
  ·rw [atKey_put_other (by intro hh; injection hh with hh; exact e hh.symm), hat t]
   simp [updE, e]
theorem MapE.add (h : MapE w b m ns f) (hm : m < 1000000) {s : Str} (hs : s.length ≤ maxLen) {x : Int} (hx : N64 x) :
    ∃ w', (Instr.mapUpdate 74 (.map (some b)) (sv s) (.int .i64 x)).run Tryz.prog w = .ok () w' ∧ MapE w' b (m + 1) (s :: ns) (updE f s x) ∧ w.grownBy w' (some b) := by
 obtain ⟨D, hD, hz, hk, ho, hat⟩ := h
 obtain ⟨w', hrun, hD', hg⟩ := hD.update smapLaw Tryz.underlying74 (by unfold maxLen; omega) (sKey hs) (plainElem_int Tryz.underlying2 hx.wf)
 refine ⟨w', hrun, ⟨_, mapE_size hD', ?_, fun t ht => ?_, fun t ht => ?_, fun t => ?_⟩, hg⟩
 ·rw [Maps.size_put (hD.tidy smapLaw)]; split <;> omega
 ·by_cases e : s = t
  ·subst e; exact Maps.has_put_same hD.isMap (by simp [WideAt.IsKeyLit]) _
  ·rw [Maps.has_put_other (by intro hh; injection hh with hh; exact e hh.symm)]
   rcases List.mem_cons.1 ht with h | h
   ·exact absurd h.symm e
   ·exact hk t h
 ·by_cases e : s = t
  ·rw [← e]; simp
  ·rw [Maps.has_put_other (by intro hh; injection hh with hh; exact e hh.symm)] at ht; exact List.mem_cons_of_mem _ (ho t ht)
 ·by_cases e : s = t
  ·subst e
   rw [atKey_put_same hD.isMap (k := .string s) (by simp [WideAt.IsKeyLit])]
   simp [updE]
  ·rw [atKey_put_other (by intro hh; injection hh with hh; exact e hh.symm), hat t]
   simp [updE, e]
theorem mapE_made (w : World) : MapE (w.alloc (.map #[] 0)) w.heap.size 0 [] (fun _ => 0) :=
 ⟨.map [], World.ownsMap_made _ _ _ _, Nat.le_refl _, fun _ h => absurd h (by simp), fun _ h => absurd h (by simp [Maps.has]), fun _ => rfl⟩
end
end Go.Proofs.YtpogmfliojcnjaaGreatDoor
namespace Go.Proofs.YtpogmfliojcnjaaGreatDoor
open Go.RowKit Go.Maps Go.WideMaps Px
theorem size_foldPut : ∀ (es : List (Lit × DataW Unit)) (D : DataW Unit), Tidy D → (∀ p ∈ es, WideAt.IsKeyLit p.1 ∧ Maps.has D p.1 = true) → Maps.size (es.foldl (fun D p => D.put p.1 p.2) D) = Maps.size D
 | [], _, _, _ => rfl
 | a :: r, D, hT, hk => by
  rw [List.foldl_cons, size_foldPut r _ (hT.put (hk a (by simp)).1 a.2) (fun p hp => ⟨(hk p (List.mem_cons_of_mem _ hp)).1, ?_⟩), size_put hT, (hk a (by simp)).2, if_pos rfl]
  by_cases e : p.1 = a.1
  ·rw [e]; exact Maps.has_put_same hT.isMap (hk a (by simp)).1 _
  ·rw [Maps.has_put_other e]; exact (hk p (List.mem_cons_of_mem _ hp)).2
section
variable {w : World} {b bd bs m : Nat} {ns : List Str} {f g : Px.Env}
theorem mclone_any (h : MapE w b m ns f) : Calls Tryz.prog 34 #[.map (some b)] w fun e w' => e = .returned (.map (some w.heap.size)) ∧ Hid (MapE w' w.heap.size m ns f ∧ MapE w' b m ns f ∧ Below w.heap.size w w') := by
 obtain ⟨D, hD, h1⟩ := h
 refine (AnyW.maps_Clone_owns Tryz.cloneE 9 (plainElem Tryz.prog 2) b (Maps.size D) D w hD).mono ?_
 rintro e w' ⟨he, h2, h3, h4⟩
 exact ⟨he, ⟨D, h2, h1⟩, ⟨D, h3, h1⟩, h4⟩
theorem keys_string {D : DataW Unit} {n : Nat} (h : w.ownsMap Tryz.prog 9 (plainElem Tryz.prog 2) b n D) : ∃ es, D = .map es ∧ es.Pairwise (fun p q => p.1 ≠ q.1) ∧ ∀ p ∈ es, ∃ s, p.1 = Lit.string s := by
 obtain ⟨es, rfl, hp⟩ := h.tidy smapLaw
 obtain ⟨es', e, _, hk⟩ := h.canonK smapLaw
 injection e with e
 subst e
 refine ⟨es, rfl, hp, fun p hm => ?_⟩
 obtain ⟨v, hv⟩ := hk p hm
 exact (WideMaps.string_law Tryz.underlying9).str hv
theorem mcopy_any (hd : MapE w bd m ns f) (hs : MapE w bs m ns g) (hne : bd ≠ bs) (hm : m ≤ 1000000) : Calls Tryz.prog 39 #[.map (some bd), .map (some bs)] w fun e w' => e = .returned (.tuple #[]) ∧ Hid (MapE w' bd m ns g ∧ MapE w' bs m ns g ∧ w.grownBy w' (some bd)) := by
 obtain ⟨Dd, hD, hz, hk, ho, hat⟩ := hd
 obtain ⟨Ds, hD2, hz2, hk2, ho2, hat2⟩ := hs
 refine (AnyX.maps_Copy Tryz.copyE smapLaw (plainElem Tryz.prog 2) bd bs (Maps.size Dd) (Maps.size Ds) Dd Ds w hD hD2 hne (by unfold maxLen; omega)).mono ?_
 rintro e w' ⟨he, h2, h3, h4⟩
 obtain ⟨es, rfl, hp, hks⟩ := keys_string hD2
 have hkl : ∀ p ∈ es, WideAt.IsKeyLit p.1 := fun p hp => by obtain ⟨s, e⟩ := hks p hp; rw [e]; simp [WideAt.IsKeyLit]
 have hany : ∀ s : Str, Maps.has (.map es : DataW Unit) (.string s) = es.any (fun p => p.1.sameKey (.string s)) := fun s => rfl
 have hin : ∀ p ∈ es, Maps.has Dd p.1 = true := fun p hp => by
  obtain ⟨s, e⟩ := hks p hp
  rw [e]
  refine hk s (ho2 s ?_)
  rw [hany, List.any_eq_true]
  exact ⟨p, hp, by rw [e]; exact WideAt.sameKey_self (by simp [WideAt.IsKeyLit])⟩
 have hsz : Maps.size (Lib.mergeD Dd (.map es)) = Maps.size Dd := size_foldPut es Dd (hD.tidy smapLaw) fun p hp => ⟨hkl p hp, hin p hp⟩
 have hh : ∀ s : Str, Maps.has (Lib.mergeD Dd (.map es)) (.string s) = (Maps.has Dd (.string s) || es.any (fun p => p.1.sameKey (.string s))) := fun s => has_foldPut (.string s) es Dd hD.isMap hkl
 refine ⟨he, ⟨_, mapE_size h2, by rw [hsz]; exact hz, fun s hs => by rw [hh, hk s hs]; rfl, fun s hs => ?_, fun s => ?_⟩, ⟨_, h3, hz2, hk2, ho2, hat2⟩, h4⟩
 ·rw [hh, Bool.or_eq_true] at hs
  rcases hs with hs | hs
  ·exact ho s hs
  ·exact ho2 s hs
 ·have ha := atKey_foldPut (.string s) (.lit (.int .i64 0)) es Dd hD.isMap hkl hp
  refine ha.trans ?_
  have h5 := hat2 s
  have hdef : (DataW.map es : DataW Unit).atKey (.string s) (.lit (.int .i64 0)) = match es.find? (fun p => p.1.sameKey (.string s)) with | some p => p.2 | none => .lit (.int .i64 0) := by
   simp only [DataW.atKey]
   cases es.find? (fun p => p.1.sameKey (.string s)) <;> rfl
  rw [hdef] at h5
  cases hf : es.find? (fun p => p.1.sameKey (.string s)) with
  | some p => rw [hf] at h5; exact h5
  | none =>
   rw [hf] at h5
   simp only at h5 ⊢
   rw [hat s]
   have hno : s ∉ ns := fun hs => by
    have := hk2 s hs
    rw [hany, List.any_eq_true] at this
    obtain ⟨p, hp', hk'⟩ := this
    rw [List.find?_eq_none] at hf
    exact hf p hp' hk'
   have hnd : Maps.has Dd (.string s) = false := by
    cases hx : Maps.has Dd (.string s) with
    | false => rfl
    | true => exact absurd (ho s hx) hno
   have := Maps.atKey_of_not_has hnd (.lit (.int .i64 0))
   rw [hat s] at this
   rw [this]
   exact h5
end
end Go.Proofs.YtpogmfliojcnjaaGreatDoor
