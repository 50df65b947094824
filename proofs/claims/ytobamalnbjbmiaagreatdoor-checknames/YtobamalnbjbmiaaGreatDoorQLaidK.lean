/- Tell, Place and the laws' is, at an error without a place. -/
import Derived.Test.YtobamalnbjbmiaaGreatDoorQPlace
import Derived.Deep.QuietTactic
import Derived.BigQuiet
import Derived.Test.YtobamalnbjbmiaaGreatDoorQCc
import Derived.Test.YtobamalnbjbmiaaGreatDoorQShp
import Derived.Test.YtobamalnbjbmiaaGreatDoorQPparse
import Derived.Test.YtobamalnbjbmiaaGreatDoorRows
import Derived.ProofKit
import Derived.LaidMore
import Derived.OpenShut
import Derived.ShutString
import Derived.Stop.Joined
import Derived.LaidHandle
import Derived.Lib.LaidTab
namespace Go.Proofs.YtobamalnbjbmiaaGreatDoor
open Go.RowKit Go.Extern.Stop Go.Stop Go.Extern

set_option maxRecDepth 100000 in
set_option maxHeartbeats 4000000 in
theorem as_err (e : Nat) (t : Addr) (old : Value) (w : World) (hg : ErrType w) (ht0 : w.cell? t = some old) (hf0 : w.frozen? t = false) :
    Calls Tryz.prog 76 #[.iface 33 (.int .i64 e), .iface 145 (.pointer (some t))] w fun ev w' => ev = .returned (.bool true) ∧ w' = ((((w.alloc (.cells #[.pointer (some t)] 145)).alloc (.cells #[.pointer (some ⟨13, 145, none⟩), .pointer (some ⟨w.heap.size, 0, none⟩), .int .u64 150] 200)).alloc (.cells #[.pointer (some ⟨13, 145, none⟩), .pointer (some ⟨w.heap.size, 0, none⟩), .int .u64 150] 200)).alloc (.cells #[.int .i64 e] 33)).setCell t (.int .i64 e) := by
  have h33 := @run_callFunc_extern Tryz.prog 122 _ (fun args => ReflectliteValue.unpack (args.getD 0 (.tuple #[]))) Tryz.func122 (by kernel_rfl) (by kernel_rfl) (by kernel_rfl) (by kernel_rfl)
  have h34 := @run_callFunc_extern Tryz.prog 123 _ (ReflectliteValue.methodAny (ReflectliteValue.valueError "reflectlite.Value.Type" 0) (fun t _ _ _ => ReflectliteType.toType t)) Tryz.func123 (by kernel_rfl) (by kernel_rfl) (by kernel_rfl) (by kernel_rfl)
  have h35 := @run_callFunc_extern Tryz.prog 124 _ (ReflectliteValue.method (ReflectliteValue.valueError "reflectlite.Value.IsNil" 0) ReflectliteValue.isNil) Tryz.func124 (by kernel_rfl) (by kernel_rfl) (by kernel_rfl) (by kernel_rfl)
  have h55 := @run_callFunc_extern Tryz.prog 272 _ (ReflectliteType.abiMethod fun t => do pure (.int .u8 (← Rtype.kind t))) Tryz.func272 (by kernel_rfl) (by kernel_rfl) (by kernel_rfl) (by kernel_rfl)
  have h68 := @run_callFunc_extern Tryz.prog 284 _ (ReflectliteType.method ReflectliteType.elem) Tryz.func284 (by kernel_rfl) (by kernel_rfl) (by kernel_rfl) (by kernel_rfl)
  have h69 := @run_callFunc_extern Tryz.prog 285 _ (ReflectliteType.relation "Implements" ReflectliteType.implements_) Tryz.func285 (by kernel_rfl) (by kernel_rfl) (by kernel_rfl) (by kernel_rfl)
  have h38 := @run_callFunc_extern Tryz.prog 168 _ ReflectliteType.typeOf Tryz.func168 (by kernel_rfl) (by kernel_rfl) (by kernel_rfl) (by kernel_rfl)
  have h66 := @run_callFunc_extern Tryz.prog 282 _ (ReflectliteType.relation "AssignableTo" ReflectliteType.assignableTo) Tryz.func282 (by kernel_rfl) (by kernel_rfl) (by kernel_rfl) (by kernel_rfl)
  have h39 := @run_callFunc_extern Tryz.prog 169 _ (ReflectliteValue.method (ReflectliteValue.valueError "reflectlite.Value.Elem" 0) ReflectliteValue.elem) Tryz.func169 (by kernel_rfl) (by kernel_rfl) (by kernel_rfl) (by kernel_rfl)
  have h40 := @run_callFunc_extern Tryz.prog 170 _ ReflectliteValue.set Tryz.func170 (by kernel_rfl) (by kernel_rfl) (by kernel_rfl) (by kernel_rfl)
  have k1 := Tryz.valueOf67
  have k2 := Tryz.type67
  have k3 := Tryz.kind67
  have k4 := Tryz.kind23
  have k5 := Tryz.elem67
  have k6 := Tryz.implements23
  have k8 := Tryz.typeOf23
  have k10 := Tryz.assignable23
  have k11 := Tryz.valueOf23
  have m1 := Tryz.methodKind
  have m2 := Tryz.methodElem
  have m3 := Tryz.methodImplements
  have m4 := Tryz.methodAssignableTo
  have hglt : 1 < w.heap.size := lt_of_cell hg
  have htl : t.block < w.heap.size := by
    rcases Nat.lt_or_ge t.block w.heap.size with h | h
    · exact h
    · simp [World.cell?, Array.getElem?_eq_none h] at ht0
  have n8 := Tryz.isNil67 ⟨w.heap.size, 0, none⟩ t ((w.alloc (.cells #[.pointer (some t)] 145)).alloc (.cells #[.pointer (some ⟨13, 145, none⟩), .pointer (some ⟨w.heap.size, 0, none⟩), .int .u64 150] 200)) (by simp)
  have hg2 : ((w.alloc (.cells #[.pointer (some t)] 145)).alloc (.cells #[.pointer (some ⟨13, 145, none⟩), .pointer (some ⟨w.heap.size, 0, none⟩), .int .u64 150] 200)).cell? ⟨1, 0, none⟩ = some (.iface 236 (.agg #[.pointer (some ⟨13, 28, none⟩)])) := by
    rw [World.cell?_alloc_lt _ _ ⟨1, 0, none⟩ (by simp; omega), World.cell?_alloc_lt _ _ ⟨1, 0, none⟩ hglt]; exact hg
  have el := Tryz.elemV67 ⟨w.heap.size, 0, none⟩ t (((w.alloc (.cells #[.pointer (some t)] 145)).alloc (.cells #[.pointer (some ⟨13, 145, none⟩), .pointer (some ⟨w.heap.size, 0, none⟩), .int .u64 150] 200)).alloc (.cells #[.pointer (some ⟨13, 145, none⟩), .pointer (some ⟨w.heap.size, 0, none⟩), .int .u64 150] 200)) (by rw [World.cell?_alloc_lt _ _ ⟨w.heap.size, 0, none⟩ (by simp; omega)]; simp)
  have st := Tryz.set23 t ⟨w.heap.size + 1 + 1 + 1, 0, none⟩ e old ((((w.alloc (.cells #[.pointer (some t)] 145)).alloc (.cells #[.pointer (some ⟨13, 145, none⟩), .pointer (some ⟨w.heap.size, 0, none⟩), .int .u64 150] 200)).alloc (.cells #[.pointer (some ⟨13, 145, none⟩), .pointer (some ⟨w.heap.size, 0, none⟩), .int .u64 150] 200)).alloc (.cells #[.int .i64 e] 33))
    (by rw [World.cell?_alloc_at _ _ _ _ (by simp)]; rfl)
    (by rw [World.cell?_alloc_lt _ _ t (by simp; omega), World.cell?_alloc_lt _ _ t (by simp; omega), World.cell?_alloc_lt _ _ t (by simp; omega), World.cell?_alloc_lt _ _ t htl]; exact ht0)
    (by rw [World.frozen?_alloc_old _ _ t (by simp; omega), World.frozen?_alloc_old _ _ t (by simp; omega), World.frozen?_alloc_old _ _ t (by simp; omega), World.frozen?_alloc_old _ _ t (Nat.ne_of_lt htl)]; exact hf0)
  go_enter Tryz.func76, Tryz.ntmps76
  go_wp2
  refine wp_loop_rounds 1 ?_
  rw [rounds_succ]
  go_wp2
  go_ret
  exact ⟨rfl, rfl⟩

set_option maxRecDepth 100000 in
set_option maxHeartbeats 1000000 in
theorem tell_err (e : Nat) (w : World) (hg : ErrType w) :
    Calls Tryz.prog 44 #[.iface 33 (.int .i64 e)] w fun ev w' => ev = .returned (.int .i64 e) ∧ Below w.heap.size w w' := by
  have hglt : 1 < w.heap.size := lt_of_cell hg
  have hg2 : ErrType (w.alloc (.cells #[.int .i64 0] 33)) := by
    rw [ErrType, World.cell?_alloc_lt _ _ ⟨1, 0, none⟩ hglt]; exact hg
  have has := as_err e ⟨w.heap.size, 0, none⟩ (.int .i64 0) _ hg2 (by simp) (by simp)
  clear hg2
  go_enter Tryz.func44, Tryz.ntmps44
  go_wp2_with (go_at_call 76; refine has.mono ?_; rintro e' w' ⟨rfl, rfl⟩)
  go_ret
  exact ⟨rfl, (((((Below.refl _ _).alloc (Nat.le_refl _) _).alloc (by simp) _).alloc (by simp; omega) _).alloc (by simp; omega) _).alloc (by simp; omega) _⟩

theorem Tryz.isNoAt (e : Int) (x : TypeId) (w : World) : (Instr.typeAssert (.iface 33 (.int .i64 e)) x 87 true).run Tryz.prog w = .ok (.tuple #[.pointer none, .bool false]) w := by kernel_rfl
theorem Tryz.noUnwrap (v : Value) (x : TypeId) (w : World) : (Instr.typeAssert (.iface 33 v) x 95 true).run Tryz.prog w = .ok (.tuple #[.nilIface, .bool false]) w := run_typeAssert_lacksB Tryz.underlying95 (by kernel_rfl) (by kernel_rfl) v x w

set_option maxRecDepth 100000 in
set_option maxHeartbeats 1000000 in
theorem place_err (e : Nat) (w : World) (hg : ErrType w) :
    Calls Tryz.prog 16 #[.iface 33 (.int .i64 e)] w fun ev w' => ev = .returned (.tuple #[.int .i64 e, .int .i64 (-1)]) ∧ Below w.heap.size w w' := by
  have ht := tell_err e w hg
  have hi := Tryz.isNoAt
  have hu := Tryz.noUnwrap
  go_enter Tryz.func16, Tryz.ntmps16
  go_wp2_with (go_at_call 44; refine ht.mono ?_; rintro e' w1 ⟨rfl, hb⟩)
  refine wp_loop_rounds 1 ?_
  rw [rounds_succ]
  go_wp2
  go_ret2
  exact ⟨rfl, hb⟩

set_option maxRecDepth 100000 in
set_option maxHeartbeats 1000000 in
theorem is_err (e : Nat) (w : World) (hg : ErrType w) :
    Calls Tryz.prog 36 #[.iface 33 (.int .i64 e), .agg #[.int .i64 e, .int .i64 (-1)]] w fun ev w' => ev = .returned (.bool true) ∧ Below w.heap.size w w' := by
  have hg2 : ErrType (w.alloc (.cells #[.int .i64 e, .int .i64 (-1)] 74)) := by
    rw [ErrType, World.cell?_alloc_lt _ _ ⟨1, 0, none⟩ (lt_of_cell hg)]; exact hg
  have hp := place_err e _ hg2
  clear hg2
  have hn0 : ∀ w1, Below (w.alloc (.cells #[.int .i64 e, .int .i64 (-1)] 74)).heap.size (w.alloc (.cells #[.int .i64 e, .int .i64 (-1)] 74)) w1 → w1.cell? ⟨w.heap.size, 0, none⟩ = some (.int .i64 e) ∧ w1.cell? ⟨w.heap.size, 1, none⟩ = some (.int .i64 (-1)) := fun w1 hb => by
    rw [hb.cell (p := ⟨w.heap.size, 0, none⟩) (by simp), hb.cell (p := ⟨w.heap.size, 1, none⟩) (by simp)]
    simp
  go_enter Tryz.func36, Tryz.ntmps36
  go_wp2_with (go_at_call 16; refine hp.mono ?_; rintro e' w1 ⟨rfl, hb⟩; obtain ⟨hc0, hc1⟩ := hn0 w1 hb)
  go_ret
  exact ⟨rfl, ((Below.refl _ _).alloc (Nat.le_refl _) _).trans (hb.mono (by simp))⟩
end Go.Proofs.YtobamalnbjbmiaaGreatDoor
/- What a drawn chart is like, for the program's Check; keep's chart. -/
namespace Go.Proofs.YtobamalnbjbmiaaGreatDoor
open Go.RowKit Px

namespace Kx
theorem nmE {e : E} (h : Sh.TE e) : NmOk e := by
  induction e with
  | nil => trivial
  | node b o a l r ihl ihr =>
    obtain ⟨h1, h2, h3, h4, _, h5, h6⟩ := h
    exact ⟨by unfold maxLen; omega, ihl h5, ihr h6⟩
theorem nmS {l : List Asg} (h : Sh.TS l) : NmSets l := fun a ha => ⟨by have := (h a ha).2; unfold maxLen; omega, nmE (h a ha).1⟩
theorem sumGe {α : Type} (f : α → Nat) (hf : ∀ a, 1 ≤ f a) (l : List α) : l.length ≤ Sh.sumW f l := by
  induction l with
  | nil => simp
  | cons a r ih => rw [Sh.sumW, List.length_cons]; have := hf a; omega
theorem nmSt : ∀ (k : Nat) (x : St k), Sh.TSt k x → Sh.wSt k x ≤ 601 → NmSt k x := by
  intro k
  induction k with
  | zero => intro x _ _; trivial
  | succ k ih =>
    intro x h hw
    obtain ⟨h0, h1, h2, h3, h4, h5, h6⟩ := h
    have hw' : Sh.wStF (Sh.wSt k) x ≤ 601 := hw
    unfold Sh.wStF at hw'
    have hl := sumGe Sh.wW (fun y => by unfold Sh.wW; omega) (StF.ways x)
    refine ⟨⟨by unfold maxLen; omega, nmS h1, nmS h2, nmS h3, nmE h4, fun y hy => ⟨by have := (h5 y hy).2.2.2.2; unfold maxLen; omega, nmE (h5 y hy).2.2.1, nmS (h5 y hy).2.2.2.1⟩, by omega⟩, fun r hr y hy => ih y (h6 r hr y hy) ?_⟩
    have a1 : 1 + Sh.sumW (Sh.wSt k) r ≤ Sh.sumW (Sh.wR (Sh.wSt k)) (StF.regions x) := Sh.sumW_mem (Sh.wR (Sh.wSt k)) (StF.regions x) r hr
    have a2 := Sh.sumW_mem (Sh.wSt k) r y hy
    omega
theorem sumLe {α : Type} {f g : α → Nat} (l : List α) (h : ∀ a ∈ l, f a ≤ g a) : sumC f l ≤ Sh.sumW g l := by
  induction l with
  | nil => simp [sumC, Sh.sumW]
  | cons a r ih => rw [sumC, Sh.sumW]; have := h a (by simp); have := ih (fun b hb => h b (by simp [hb])); omega
theorem inLe : ∀ (k : Nat) (x : St k), 1 + cIn k x ≤ Sh.wSt k x := by
  intro k
  induction k with
  | zero => intro x; exact Nat.le_refl _
  | succ k ih =>
    intro x
    show 1 + sumC (sumC fun y => 1 + cIn k y) (StF.regions x) ≤ Sh.wStF (Sh.wSt k) x
    unfold Sh.wStF
    have := sumLe (f := sumC fun y => 1 + cIn k y) (g := Sh.wR (Sh.wSt k)) (StF.regions x) (fun r _ => by
      have := sumLe (f := fun y => 1 + cIn k y) (g := Sh.wSt k) r (fun y _ => ih y)
      unfold Sh.wR; omega)
    omega
theorem nmChart {L : List Lx.Tok} (hL : Wf L) {c : Chart} (h : chart L = .ok c) : NmChart c := by
  obtain ⟨h1, h2, h3⟩ := Sh.chart_w hL h
  have hx : ∀ r ∈ c.regions, ∀ x ∈ r, Sh.wSt 6 x ≤ 601 := fun r hr x hx => by
    have a1 : 1 + Sh.sumW (Sh.wSt 6) r ≤ Sh.sumW (Sh.wR (Sh.wSt 6)) c.regions := Sh.sumW_mem (Sh.wR (Sh.wSt 6)) c.regions r hr
    have a2 := Sh.sumW_mem (Sh.wSt 6) r x hx
    omega
  refine ⟨by omega, fun v hv => by have := (h1 v hv).2; unfold maxLen; omega, fun r hr x hx' => nmSt 6 x (h2 r hr x hx') (hx r hr x hx'), ?_⟩
  have := sumLe (f := cRg 6) (g := Sh.wR (Sh.wSt 6)) c.regions (fun r _ => by
    have := sumLe (f := fun y => 1 + cIn 6 y) (g := Sh.wSt 6) r (fun y _ => inLe 6 y)
    unfold cRg Sh.wR; omega)
  omega
/-- what of the listed variables the laws without the document's answer ask -/
structure KEnv (w : World) : Prop where
  tabs : Tabs w
  marks : Marks w
  err : ErrType w
  big : 13 ≤ w.heap.size
theorem KEnv.up {w W : World} (h : KEnv w) (hb : Below w.heap.size w W) : KEnv W :=
  ⟨h.tabs.keep (fun b hb' => hb.block b (Nat.lt_of_lt_of_le hb' h.big)), h.marks.below (Nat.le_refl _) hb, h.err.below hb, Nat.le_trans h.big hb.size⟩
theorem chartUp {A : Nat → Prop} {c : Chart} {W W' : World} {v : Value} (h : IsChart A W c v) (hb : Below W.heap.size W W') : IsChart A W' c v := by
  have kp : Keep A A W W' := fun b ha hlt => ⟨ha, hb.block b hlt⟩
  obtain ⟨a, n, m, a2, n2, m2, rfl, hv, hr⟩ := h
  exact ⟨a, n, m, a2, n2, m2, rfl, hv.carry kp, hr.carry kp (IsStates.carry kp 6)⟩
theorem resultsQ (tmps : Array Value) (W : World) (e : Nat) (fe : Array Value) (hse : fe.size = 3) (hq : tmps[2]?.getD undef = .pointer (some ⟨e, 0, none⟩)) (he : W.heap[e]? = some (.cells fe 26 (0, 0))) :
    (results Tryz.f20 tmps).run Tryz.prog W = .ok (.tuple #[.agg fe, tmps.getD 3 undef]) W := by
  simp [results, Tryz.results20, hq, asAddr, load25 hse he]
/-- a text draws a chart, or none -/
theorem drawsOr (s : ByteArray) : (∃ l c, Lx.Ok (bs s) l ∧ chart (fin s l) = .ok c) ∨ ¬ ∃ l c, Lx.Ok (bs s) l ∧ chart (fin s l) = .ok c := Classical.em _
end Kx
end Go.Proofs.YtobamalnbjbmiaaGreatDoor
/- What the listed variables' readings give keep's walks: the tables, the marks, the handle of type error. -/
namespace Go.Proofs.YtobamalnbjbmiaaGreatDoor
open Go.ChangeShapes Go.WideShapes Go.ChangeAt Go.RowKit Px

theorem ownKn : ownKnob Tryz.prog.godebug = none := by kernel_rfl
theorem laidOut : laidOutB Tryz.prog = true := by kernel_rfl

def fl0 : DataW Unit → List Value
  | .lit (.string s) => [.string ⟨s.toArray⟩]
  | .lit (.int k n) => [.int k n]
  | _ => []
def flA (f : DataW Unit → List Value) : DataW Unit → List Value
  | .agg ps => ps.flatMap f
  | _ => []
/-- what is read of such a type says its cells -/
def Opens (W : World) (t k : Nat) (f : DataW Unit → List Value) : Prop :=
  ∀ fuel cs d p, DataW.trod (fun _ => ()) Tryz.prog W 0 (fun _ => true) false fuel t cs = some (d, p) → cs = f d ∧ cs.length = k
theorem opens_string {W : World} {t : Nat} (hu : Tryz.prog.underlying t = some .string) : Opens W t 1 fl0 := by
  intro fuel cs d p h
  cases fuel with
  | zero => simp [DataW.trod] at h
  | succ fuel =>
    rcases cs with _ | ⟨c, _ | ⟨c', r⟩⟩
    · simp [DataW.trod, hu] at h
    · cases c with
      | string s =>
        simp only [DataW.trod, hu] at h
        split at h
        · have hb := congrArg Prod.fst (Option.some.inj h)
          simp only at hb
          subst hb
          exact ⟨rfl, rfl⟩
        · cases h
      | _ => simp [DataW.trod, hu] at h
    · simp [DataW.trod, hu] at h
theorem opens_int {W : World} {t : Nat} {k : IntKind} (hu : Tryz.prog.underlying t = some (.int k)) : Opens W t 1 fl0 := by
  intro fuel cs d p h
  cases fuel with
  | zero => simp [DataW.trod] at h
  | succ fuel =>
    rcases cs with _ | ⟨c, _ | ⟨c', r⟩⟩
    · simp [DataW.trod, hu] at h
    · cases c with
      | int k' n =>
        simp only [DataW.trod, hu] at h
        split at h
        · rename_i hk
          have hb := congrArg Prod.fst (Option.some.inj h)
          simp only at hb
          subst hb
          rw [hk.1]
          exact ⟨rfl, rfl⟩
        · cases h
      | _ => simp [DataW.trod, hu] at h
    · simp [DataW.trod, hu] at h
/-- pieces one behind the other -/
theorem chunks {k : Nat} {f : DataW Unit → List Value} : ∀ (ds : List (DataW Unit)) (cs : List Value), cs.length = ds.length * k → (∀ i d, ds[i]? = some d → (cs.drop (i * k)).take k = f d) → cs = ds.flatMap f := by
  intro ds
  induction ds with
  | nil => intro cs hl _; simp at hl; simp [hl]
  | cons d r ih =>
    intro cs hl h
    have h0 := h 0 d rfl
    rw [Nat.zero_mul, List.drop_zero] at h0
    have h1 := ih (cs.drop k) (by rw [List.length_drop, hl, List.length_cons, Nat.add_mul]; omega) (fun i d hi => by
      have := h (i + 1) d (by simpa using hi)
      rw [Nat.add_mul, Nat.one_mul, Nat.add_comm, ← List.drop_drop] at this
      exact this)
    rw [List.flatMap_cons, ← h0, ← h1, List.take_append_drop]
theorem opens_array {W : World} {t e n k : Nat} {f : DataW Unit → List Value} (hu : Tryz.prog.underlying t = some (.array n e)) (hce : Tryz.prog.cellsOf e = k) (hct : Tryz.prog.cellsOf t = n * k) (he : Opens W e k f) : Opens W t (n * k) (flA f) := by
  intro fuel cs d p h
  cases fuel with
  | zero => simp [DataW.trod] at h
  | succ fuel =>
    simp only [DataW.trod, hu, hce, hct] at h
    split at h
    · rename_i hl
      obtain ⟨xs, hm, hx⟩ := Option.map_eq_some_iff.1 h
      have hd := congrArg Prod.fst hx
      simp only at hd
      subst hd
      have hxl : xs.length = n := by simpa using Lib.mapM_length hm
      refine ⟨?_, hl⟩
      show cs = (xs.map (·.1)).flatMap f
      refine chunks (k := k) _ cs (by rw [List.length_map, hxl]; exact hl) (fun i d hi => ?_)
      rw [List.getElem?_map, Option.map_eq_some_iff] at hi
      obtain ⟨b, hb, rfl⟩ := hi
      have hin : i < n := by rw [← hxl]; exact (List.getElem?_eq_some_iff.1 hb).1
      obtain ⟨b', hb', hf⟩ := Lib.mapM_at hm i i (by simp [hin])
      obtain rfl : b = b' := Option.some.inj (hb.symm.trans hb')
      exact (he fuel _ b.1 b.2 hf).1
    · cases h
theorem two_of {α : Type} : ∀ (l : List α), l.length = 2 → ∃ x y, l = [x, y]
  | [x, y], _ => ⟨x, y, rfl⟩
theorem opens_two {W : World} {t a b : Nat} {f g : Field} (hu : Tryz.prog.underlying t = some (.struct #[f, g])) (hf : f.type = a ∧ f.offset = 0) (hg : g.type = b ∧ g.offset = 1) (hct : Tryz.prog.cellsOf t = 2) (hca : Tryz.prog.cellsOf a = 1) (hcb : Tryz.prog.cellsOf b = 1) (ha : Opens W a 1 fl0) (hb : Opens W b 1 fl0) : Opens W t 2 (flA fl0) := by
  intro fuel cs d p h
  cases fuel with
  | zero => simp [DataW.trod] at h
  | succ fuel =>
    simp only [DataW.trod, hu, hct] at h
    split at h
    · rename_i hl
      obtain ⟨xs, hm, hx⟩ := Option.map_eq_some_iff.1 h
      obtain ⟨x, y, rfl⟩ : ∃ x y, cs = [x, y] := two_of cs hl
      have hd := congrArg Prod.fst hx
      simp only at hd
      subst hd
      simp only [List.mapM_cons, List.mapM_nil, Option.bind_eq_bind, Option.bind_eq_some_iff, Option.pure_def, Option.some.injEq, hf.1, hf.2, hg.1, hg.2, hca, hcb] at hm
      obtain ⟨b0, hb0, r0, ⟨b1, hb1, r1, rfl, rfl⟩, rfl⟩ := hm
      have e0 := (ha fuel _ b0.1 b0.2 hb0).1
      have e1 := (hb fuel _ b1.1 b1.2 hb1).1
      refine ⟨?_, rfl⟩
      show [x, y] = fl0 b0.1 ++ (fl0 b1.1 ++ [])
      rw [← e0, ← e1]; rfl
    · cases h
theorem laid_mem {W : World} : ∀ {l : List (String × DataW Unit)} {ps : List MemPlace}, DataW.LaidVars Tryz.prog W l ps → ∀ x ∈ l, ∃ g t cs f p, Tryz.prog.globalNamed x.1 = some g ∧ (Tryz.prog.globals[g]?).map (·.type) = some t ∧ W.var? Tryz.prog x.1 = some cs ∧ DataW.trod (fun _ => ()) Tryz.prog W 0 (fun _ => true) false f t cs.toList = some (x.2, p) := by
  intro l
  induction l with
  | nil => intro ps _ x hx; cases hx
  | cons y r ih =>
    intro ps h x hx
    obtain ⟨g, t, cs, f, p, q, h1, h2, h3, h4, h5, _⟩ := h
    rcases List.mem_cons.1 hx with rfl | hx
    · exact ⟨g, t, cs, f, p, h1, h2, h3, h4⟩
    · exact ih h5 x hx
/-- a listed variable of plain data: its cells -/
theorem tab_of {W : World} {l : List (String × DataW Unit)} {ps : List MemPlace} (hl : DataW.LaidVars Tryz.prog W l ps) {n : String} {d : DataW Unit} (hm : (n, d) ∈ l) {g t k : Nat} {f : DataW Unit → List Value} (hg : Tryz.prog.globalNamed n = some g) (ht : (Tryz.prog.globals[g]?).map (·.type) = some t) (ho : Opens W t k f) : TabAt W g (f d) := by
  obtain ⟨g', t', cs, fu, p, h1, h2, h3, h4⟩ := laid_mem hl _ hm
  obtain rfl := Option.some.inj (hg.symm.trans h1)
  obtain rfl := Option.some.inj (ht.symm.trans h2)
  have e := (ho fu _ _ _ h4).1
  intro i v hv
  rw [World.var?_cell hg h3 i, ← Array.getElem?_toList, e]
  exact hv
theorem big_of {W : World} {l : List (String × DataW Unit)} {ps : List MemPlace} (hl : DataW.LaidVars Tryz.prog W l ps) {n : String} {d : DataW Unit} (hm : (n, d) ∈ l) {g : Nat} (hg : Tryz.prog.globalNamed n = some g) : g < W.heap.size := by
  obtain ⟨g', t', cs, fu, p, h1, h2, h3, h4⟩ := laid_mem hl _ hm
  rw [World.var?, hg, Option.bind_some] at h3
  by_cases hlt : g < W.heap.size
  · exact hlt
  · rw [show W.heap[g]? = none from Array.getElem?_eq_none (by omega)] at h3
    simp at h3
theorem op_str {W : World} : Opens W 9 1 fl0 := opens_string Tryz.underlying9
theorem op_int {W : World} : Opens W 3 1 fl0 := opens_int Tryz.underlying3
theorem op_errno {W : World} : Opens W 33 1 fl0 := opens_int Tryz.underlying33
theorem op_sign {W : World} : Opens W 304 2 (flA fl0) := opens_two Tryz.underlying304 ⟨rfl, rfl⟩ ⟨rfl, rfl⟩ (by kernel_rfl) (by kernel_rfl) (by kernel_rfl) op_str op_int
theorem op_21 {W : World} : Opens W 211 (21 * 1) (flA fl0) := opens_array Tryz.underlying211 (by kernel_rfl) (by kernel_rfl) op_str
theorem op_4 {W : World} : Opens W 213 (4 * 1) (flA fl0) := opens_array Tryz.underlying213 (by kernel_rfl) (by kernel_rfl) op_str
theorem op_3 {W : World} : Opens W 298 (3 * 1) (flA fl0) := opens_array Tryz.underlying298 (by kernel_rfl) (by kernel_rfl) op_str
theorem op_2s {W : World} : Opens W 305 (2 * 2) (flA (flA fl0)) := opens_array Tryz.underlying305 (by kernel_rfl) (by kernel_rfl) op_sign
theorem op_4s {W : World} : Opens W 306 (4 * 2) (flA (flA fl0)) := opens_array Tryz.underlying306 (by kernel_rfl) (by kernel_rfl) op_sign
theorem op_54s {W : World} : Opens W 307 (5 * (4 * 2)) (flA (flA (flA fl0))) := opens_array Tryz.underlying307 (by kernel_rfl) (by kernel_rfl) op_4s
theorem gMarks : Tryz.prog.globalNamed "clepsydra/lex.marks" = some 2 := by kernel_rfl
theorem gErr : Tryz.prog.globalNamed "errors.errorType" = some 1 := by kernel_rfl
theorem gWords : Tryz.prog.globalNamed "clepsydra/parse.words" = some 4 := by kernel_rfl
theorem gKinds : Tryz.prog.globalNamed "clepsydra/parse.kinds" = some 3 := by kernel_rfl
theorem gLeads : Tryz.prog.globalNamed "clepsydra/parse.leads" = some 6 := by kernel_rfl
theorem gAhead : Tryz.prog.globalNamed "clepsydra/parse.ahead" = some 7 := by kernel_rfl
theorem gBetween : Tryz.prog.globalNamed "clepsydra/parse.between" = some 8 := by kernel_rfl
theorem gRange : Tryz.prog.globalNamed "strconv.ErrRange" = some 10 := by kernel_rfl
theorem nTypes : Tryz.prog.types.size = 343 := by kernel_rfl
theorem rtRow : (Tryz.prog.cutTypes.find? (·.1 == "internal/reflectlite.rtype")).map (·.2) = some 236 := by kernel_rfl
theorem oneRow : ((List.range 343).filter fun t => Tryz.prog.rowNamed t [101, 114, 114, 111, 114]) = [28] := by kernel_rfl
theorem errType_laid {W : World} {l : List (String × DataW Unit)} (h : handlesMet Tryz.prog l W) (hm : ("errors.errorType", Rows.laid_errors_errorType) ∈ l) : ErrType W := by
  obtain ⟨name, u, ty, e1, e2, e3, e4, e5⟩ := h _ hm
  have en : name = [101, 114, 114, 111, 114] := (Option.some.inj e1).symm
  subst en
  obtain rfl := Option.some.inj (rtRow.symm.trans e2)
  have hm : ty ∈ (List.range 343).filter fun t => Tryz.prog.rowNamed t [101, 114, 114, 111, 114] := List.mem_filter.2 ⟨List.mem_range.2 (by rw [← nTypes]; exact e3), e4⟩
  rw [oneRow] at hm
  obtain rfl := List.mem_singleton.1 hm
  have hh : typeHandle Tryz.prog 28 = .pointer (some ⟨13, 28, none⟩) := by kernel_rfl
  rw [hh] at e5
  simpa [ErrType] using World.var?_cell gErr e5 0
theorem marks_of {W : World} (h : TabAt W 2 (Lx.marks.map markS)) : Marks W := by
  intro i hi
  have hl : i < Lx.marks.length := hi
  refine h i _ ?_
  rw [List.getElem?_map, List.getElem?_eq_getElem hl, List.getD_eq_getElem?_getD, List.getElem?_eq_getElem hl]
  rfl
theorem gBits : Tryz.prog.globalNamed "math/bits.deBruijn64tab" = some 12 := by kernel_rfl
/-- what the listed variables hold -/
theorem vars_laid {W : World} {l lh : List (String × DataW Unit)} {ps : List MemPlace} (hl : DataW.LaidVars Tryz.prog W l ps) (hh : handlesMet Tryz.prog lh W) (hE : ("errors.errorType", Rows.laid_errors_errorType) ∈ lh)
    (h1 : ("clepsydra/lex.marks", Rows.laid_clepsydra_lex_marks) ∈ l) (h2 : ("clepsydra/parse.between", Rows.laid_clepsydra_parse_between) ∈ l) (h3 : ("clepsydra/parse.ahead", Rows.laid_clepsydra_parse_ahead) ∈ l) (h4 : ("clepsydra/parse.kinds", Rows.laid_clepsydra_parse_kinds) ∈ l) (h5 : ("clepsydra/parse.leads", Rows.laid_clepsydra_parse_leads) ∈ l) (h6 : ("clepsydra/parse.words", Rows.laid_clepsydra_parse_words) ∈ l) (h7 : ("math/bits.deBruijn64tab", Rows.laid_math_bits_deBruijn64tab) ∈ l) : Kx.KEnv W :=
  ⟨⟨tab_of hl h6 gWords (by kernel_rfl) op_21, tab_of hl h4 gKinds (by kernel_rfl) op_4, tab_of hl h5 gLeads (by kernel_rfl) op_3, tab_of hl h3 gAhead (by kernel_rfl) op_2s, tab_of hl h2 gBetween (by kernel_rfl) op_54s⟩, marks_of (tab_of hl h1 gMarks (by kernel_rfl) op_21), errType_laid hh hE, big_of hl h7 gBits⟩
end Go.Proofs.YtobamalnbjbmiaaGreatDoor
