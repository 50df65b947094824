/- errors.As at an *api.At and a target of type *api.Errno: the entries of internal/reflectlite at this program's types. -/
import Derived.Test.YtanlfmhlohcmgaaGreatDoorJRsets
import Derived.LaidEql
import Derived.Stop.Asserts
import Derived.RowKitTokens
import Derived.Deep.QuietTactic
import Derived.BigQuiet
import Derived.Test.YtanlfmhlohcmgaaGreatDoorJTokens
import Derived.Test.YtanlfmhlohcmgaaGreatDoorJPrd
namespace Go.Proofs.YtanlfmhlohcmgaaGreatDoor
open Go.RowKit Go.Extern.Stop Go.Stop Go.Extern

theorem Tryz.valueOf67 (t : Addr) (w : World) : (ReflectliteValue.unpack (.iface 113 (.pointer (some t)))).run Tryz.prog w
    = .ok (.agg #[.pointer (some ⟨13, 113, none⟩), .pointer (some ⟨w.heap.size, 0, none⟩), .int .u64 150]) (w.alloc (.cells #[.pointer (some t)] 113)) := by kernel_rfl
theorem Tryz.type67 (a : Addr) (w : World) : (ReflectliteValue.methodAny (ReflectliteValue.valueError "reflectlite.Value.Type" 0) (fun t _ _ _ => ReflectliteType.toType t) #[.agg #[.pointer (some ⟨13, 113, none⟩), .pointer (some a), .int .u64 150]]).run Tryz.prog w
    = .ok (.iface 162 (.agg #[.pointer (some ⟨13, 113, none⟩)])) w := by kernel_rfl
theorem Tryz.kind67 (w : World) : ((ReflectliteType.abiMethod fun t => (fun a : Nat => Value.int IntKind.u8 (a : Int)) <$> Rtype.kind t) #[.pointer (some ⟨13, 113, none⟩)]).run Tryz.prog w = .ok (.int .u8 22) w := by kernel_rfl
theorem Tryz.kind23 (w : World) : ((ReflectliteType.abiMethod fun t => (fun a : Nat => Value.int IntKind.u8 (a : Int)) <$> Rtype.kind t) #[.pointer (some ⟨13, 26, none⟩)]).run Tryz.prog w = .ok (.int .u8 2) w := by kernel_rfl
theorem Tryz.meth67 (z : Sem Value) (f : TypeId → Addr → Nat → Nat → Sem Value) (a : Addr) (W : World) :
    (ReflectliteValue.method z f #[.agg #[.pointer (some ⟨13, 113, none⟩), .pointer (some a), .int .u64 150]]).run Tryz.prog W = (f 113 a 150 22).run Tryz.prog W := by kernel_rfl
theorem Tryz.isNil67 (a p : Addr) (W : World) (ha : W.cell? a = some (.pointer (some p))) :
    (ReflectliteValue.method (ReflectliteValue.valueError "reflectlite.Value.IsNil" 0) ReflectliteValue.isNil #[.agg #[.pointer (some ⟨13, 113, none⟩), .pointer (some a), .int .u64 150]]).run Tryz.prog W = .ok (.bool false) W := by
  rw [Tryz.meth67]
  simp [ReflectliteValue.isNil, loadVar, isAgg, underlying, Tryz.underlying113, ha, Result.andThen]
theorem Tryz.elem67 (w : World) : (ReflectliteType.method ReflectliteType.elem #[.agg #[.pointer (some ⟨13, 113, none⟩)]]).run Tryz.prog w = .ok (.iface 162 (.agg #[.pointer (some ⟨13, 26, none⟩)])) w := by kernel_rfl
theorem Tryz.implements23 (w : World) : (ReflectliteType.relation "Implements" ReflectliteType.implements_ #[.agg #[.pointer (some ⟨13, 26, none⟩)], .iface 162 (.agg #[.pointer (some ⟨13, 34, none⟩)])]).run Tryz.prog w = .ok (.bool true) w := by kernel_rfl
theorem Tryz.typeOf59 (v : Value) (w : World) : (ReflectliteType.typeOf #[.iface 65 v]).run Tryz.prog w = .ok (.iface 162 (.agg #[.pointer (some ⟨13, 65, none⟩)])) w := by kernel_rfl
theorem Tryz.typeOf23 (v : Value) (w : World) : (ReflectliteType.typeOf #[.iface 26 v]).run Tryz.prog w = .ok (.iface 162 (.agg #[.pointer (some ⟨13, 26, none⟩)])) w := by kernel_rfl
theorem Tryz.assignable59 (w : World) : (ReflectliteType.relation "AssignableTo" ReflectliteType.assignableTo #[.agg #[.pointer (some ⟨13, 65, none⟩)], .iface 162 (.agg #[.pointer (some ⟨13, 26, none⟩)])]).run Tryz.prog w = .ok (.bool false) w := by kernel_rfl
theorem Tryz.assignable23 (w : World) : (ReflectliteType.relation "AssignableTo" ReflectliteType.assignableTo #[.agg #[.pointer (some ⟨13, 26, none⟩)], .iface 162 (.agg #[.pointer (some ⟨13, 26, none⟩)])]).run Tryz.prog w = .ok (.bool true) w := by kernel_rfl
theorem Tryz.valueOf23 (e : Int) (w : World) : (ReflectliteValue.unpack (.iface 26 (.int .i64 e))).run Tryz.prog w
    = .ok (.agg #[.pointer (some ⟨13, 26, none⟩), .pointer (some ⟨w.heap.size, 0, none⟩), .int .u64 130]) (w.alloc (.cells #[.int .i64 e] 26)) := by kernel_rfl
theorem Tryz.elemOf67 (w : World) : (Rtype.elem? 113).run Tryz.prog w = .ok (some 26) w := by kernel_rfl
theorem Tryz.mk23 (p : Addr) (w : World) : (ReflectliteValue.mk 26 p ReflectliteValue.flagAddr).run Tryz.prog w = .ok (.agg #[.pointer (some ⟨13, 26, none⟩), .pointer (some p), .int .u64 386]) w := by kernel_rfl
theorem Tryz.elemV67 (a p : Addr) (W : World) (ha : W.cell? a = some (.pointer (some p))) :
    (ReflectliteValue.method (ReflectliteValue.valueError "reflectlite.Value.Elem" 0) ReflectliteValue.elem #[.agg #[.pointer (some ⟨13, 113, none⟩), .pointer (some a), .int .u64 150]]).run Tryz.prog W
      = .ok (.agg #[.pointer (some ⟨13, 26, none⟩), .pointer (some p), .int .u64 386]) W := by
  rw [Tryz.meth67]
  simp [ReflectliteValue.elem, loadVar, isAgg, underlying, Tryz.underlying113, ha, Result.andThen, Tryz.elemOf67, Tryz.mk23]
theorem Tryz.parts23a (a : Addr) (w : World) : (ReflectliteValue.parts (.agg #[.pointer (some ⟨13, 26, none⟩), .pointer (some a), .int .u64 386])).run Tryz.prog w = .ok (some (26, a, 386)) w := by kernel_rfl
theorem Tryz.parts23 (a : Addr) (w : World) : (ReflectliteValue.parts (.agg #[.pointer (some ⟨13, 26, none⟩), .pointer (some a), .int .u64 130])).run Tryz.prog w = .ok (some (26, a, 130)) w := by kernel_rfl
theorem Tryz.direct23 (w : World) : (Rtype.directlyAssignable 26 26).run Tryz.prog w = .ok true w := by kernel_rfl
theorem Tryz.set23 (ta b : Addr) (e : Int) (old : Value) (W : World) (hb : W.cell? b = some (.int .i64 e)) (ht : W.cell? ta = some old) (hf : W.frozen? ta = false) :
    (ReflectliteValue.set #[.agg #[.pointer (some ⟨13, 26, none⟩), .pointer (some ta), .int .u64 386], .agg #[.pointer (some ⟨13, 26, none⟩), .pointer (some b), .int .u64 130]]).run Tryz.prog W
      = .ok (.tuple #[]) (W.setCell ta (.int .i64 e)) := by
  have g1 : ∀ (h1 : (#[.agg #[.pointer (some ⟨13, 26, none⟩), .pointer (some ta), .int .u64 386], .agg #[.pointer (some ⟨13, 26, none⟩), .pointer (some b), .int .u64 130]] : Array Value).size = 2) (h2 : 1 < 2), Array.getLit (n := 2) (#[.agg #[.pointer (some ⟨13, 26, none⟩), .pointer (some ta), .int .u64 386], .agg #[.pointer (some ⟨13, 26, none⟩), .pointer (some b), .int .u64 130]] : Array Value) 1 h1 h2 = .agg #[.pointer (some ⟨13, 26, none⟩), .pointer (some b), .int .u64 130] := fun _ _ => rfl
  rw [show ReflectliteValue.set #[.agg #[.pointer (some ⟨13, 26, none⟩), .pointer (some ta), .int .u64 386], .agg #[.pointer (some ⟨13, 26, none⟩), .pointer (some b), .int .u64 130]] = ReflectliteValue.parts (.agg #[.pointer (some ⟨13, 26, none⟩), .pointer (some ta), .int .u64 386]) >>= _ from rfl]
  simp only [g1, Sem.run_bind, Tryz.parts23a, Tryz.parts23, Result.andThen]
  simp [ReflectliteValue.flagAddr, loadVar, isAgg, underlying, Tryz.underlying26, hb, Result.andThen, Tryz.direct23, storeVar, Value.cells, storeCells, Addr.add]
  rw [run_store Tryz.prog W ta _ _ (by rfl)]
  simp [ht, hf]
theorem Tryz.noAs (v : Value) (x : TypeId) (w : World) : (Instr.typeAssert (.iface 65 v) x 167 true).run Tryz.prog w = .ok (.tuple #[.nilIface, .bool false]) w := run_typeAssert_lacksB Tryz.underlying167 (by kernel_rfl) (by kernel_rfl) v x w
theorem Tryz.hasUnwrap (v : Value) (x : TypeId) (w : World) : (Instr.typeAssert (.iface 65 v) x 90 true).run Tryz.prog w = .ok (.tuple #[.iface 65 v, .bool true]) w := run_typeAssert_hasB Tryz.underlying90 (by kernel_rfl) v x w
end Go.Proofs.YtanlfmhlohcmgaaGreatDoor
/- errors.As, api.Tell, plain.Place at what Split answers. -/
namespace Go.Proofs.YtanlfmhlohcmgaaGreatDoor
open Go.RowKit Go.Extern.Stop Go.Stop Go.Extern

theorem unwrap_any (g : Nat) (e : Int) (w : World) (h : w.cell? ⟨g, 0, none⟩ = some (.int .i64 e)) :
    Calls Tryz.prog 181 #[.pointer (some ⟨g, 0, none⟩)] w fun e' w' => e' = .returned (.iface 26 (.int .i64 e)) ∧ w' = w := by
  go_enter Tryz.func181, Tryz.ntmps181
  go_wp2
  go_ret
  exact ⟨rfl, rfl⟩

theorem Tryz.methodKind (h : Value) (w : World) : (Go.method 356 162 (.agg #[h]) "Kind").run Tryz.prog w = .ok (176, h) w := by kernel_rfl
theorem Tryz.methodElem (h : Value) (w : World) : (Go.method 356 162 (.agg #[h]) "Elem").run Tryz.prog w = .ok (188, .agg #[h]) w := by kernel_rfl
theorem Tryz.methodImplements (h : Value) (w : World) : (Go.method 356 162 (.agg #[h]) "Implements").run Tryz.prog w = .ok (189, .agg #[h]) w := by kernel_rfl
theorem Tryz.methodAssignableTo (h : Value) (w : World) : (Go.method 356 162 (.agg #[h]) "AssignableTo").run Tryz.prog w = .ok (186, .agg #[h]) w := by kernel_rfl
theorem Tryz.methodUnwrap (a : Addr) (w : World) : (Go.method 356 65 (.pointer (some a)) "Unwrap").run Tryz.prog w = .ok (181, .pointer (some a)) w := by kernel_rfl

/-- the handle of type error, where errors laid it -/
def ErrType (w : World) : Prop := w.cell? ⟨1, 0, none⟩ = some (.iface 162 (.agg #[.pointer (some ⟨13, 34, none⟩)]))

set_option maxRecDepth 100000 in
set_option maxHeartbeats 4000000 in
theorem as_any (g e q : Nat) (t : Addr) (old : Value) (w : World) (hg : ErrType w) (hA : w.heap[g]? = some (.cells #[.int .i64 e, .int .i64 q] 66 (0, 0))) (ht0 : w.cell? t = some old) (hf0 : w.frozen? t = false) :
    Calls Tryz.prog 47 #[.iface 65 (.pointer (some ⟨g, 0, none⟩)), .iface 113 (.pointer (some t))] w fun ev w' => ev = .returned (.bool true) ∧ w' = ((((w.alloc (.cells #[.pointer (some t)] 113)).alloc (.cells #[.pointer (some ⟨13, 113, none⟩), .pointer (some ⟨w.heap.size, 0, none⟩), .int .u64 150] 134)).alloc (.cells #[.pointer (some ⟨13, 113, none⟩), .pointer (some ⟨w.heap.size, 0, none⟩), .int .u64 150] 134)).alloc (.cells #[.int .i64 e] 26)).setCell t (.int .i64 e) := by
  have h33 := @run_callFunc_extern Tryz.prog 74 _ (fun args => ReflectliteValue.unpack (args.getD 0 (.tuple #[]))) Tryz.func74 (by kernel_rfl) (by kernel_rfl) (by kernel_rfl) (by kernel_rfl)
  have h34 := @run_callFunc_extern Tryz.prog 75 _ (ReflectliteValue.methodAny (ReflectliteValue.valueError "reflectlite.Value.Type" 0) (fun t _ _ _ => ReflectliteType.toType t)) Tryz.func75 (by kernel_rfl) (by kernel_rfl) (by kernel_rfl) (by kernel_rfl)
  have h35 := @run_callFunc_extern Tryz.prog 76 _ (ReflectliteValue.method (ReflectliteValue.valueError "reflectlite.Value.IsNil" 0) ReflectliteValue.isNil) Tryz.func76 (by kernel_rfl) (by kernel_rfl) (by kernel_rfl) (by kernel_rfl)
  have h55 := @run_callFunc_extern Tryz.prog 176 _ (ReflectliteType.abiMethod fun t => do pure (.int .u8 (← Rtype.kind t))) Tryz.func176 (by kernel_rfl) (by kernel_rfl) (by kernel_rfl) (by kernel_rfl)
  have h68 := @run_callFunc_extern Tryz.prog 188 _ (ReflectliteType.method ReflectliteType.elem) Tryz.func188 (by kernel_rfl) (by kernel_rfl) (by kernel_rfl) (by kernel_rfl)
  have h69 := @run_callFunc_extern Tryz.prog 189 _ (ReflectliteType.relation "Implements" ReflectliteType.implements_) Tryz.func189 (by kernel_rfl) (by kernel_rfl) (by kernel_rfl) (by kernel_rfl)
  have h38 := @run_callFunc_extern Tryz.prog 97 _ ReflectliteType.typeOf Tryz.func97 (by kernel_rfl) (by kernel_rfl) (by kernel_rfl) (by kernel_rfl)
  have h66 := @run_callFunc_extern Tryz.prog 186 _ (ReflectliteType.relation "AssignableTo" ReflectliteType.assignableTo) Tryz.func186 (by kernel_rfl) (by kernel_rfl) (by kernel_rfl) (by kernel_rfl)
  have h39 := @run_callFunc_extern Tryz.prog 98 _ (ReflectliteValue.method (ReflectliteValue.valueError "reflectlite.Value.Elem" 0) ReflectliteValue.elem) Tryz.func98 (by kernel_rfl) (by kernel_rfl) (by kernel_rfl) (by kernel_rfl)
  have h40 := @run_callFunc_extern Tryz.prog 99 _ ReflectliteValue.set Tryz.func99 (by kernel_rfl) (by kernel_rfl) (by kernel_rfl) (by kernel_rfl)
  have k1 := Tryz.valueOf67
  have k2 := Tryz.type67
  have k3 := Tryz.kind67
  have k4 := Tryz.kind23
  have k5 := Tryz.elem67
  have k6 := Tryz.implements23
  have k7 := Tryz.typeOf59
  have k8 := Tryz.typeOf23
  have k9 := Tryz.assignable59
  have k10 := Tryz.assignable23
  have k11 := Tryz.valueOf23
  have k12 := Tryz.noAs
  have k13 := Tryz.hasUnwrap
  have m1 := Tryz.methodKind
  have m2 := Tryz.methodElem
  have m3 := Tryz.methodImplements
  have m4 := Tryz.methodAssignableTo
  have m5 := Tryz.methodUnwrap
  have hglt : 1 < w.heap.size := lt_of_cell hg
  have hAlt : g < w.heap.size := (Array.getElem?_eq_some_iff.1 hA).1
  have htl : t.block < w.heap.size := by
    rcases Nat.lt_or_ge t.block w.heap.size with h | h
    · exact h
    · simp [World.cell?, Array.getElem?_eq_none h] at ht0
  have hA0 : w.cell? ⟨g, 0, none⟩ = some (.int .i64 e) := by rw [cell_of_row _ _ _ _ _ _ hA]; rfl
  have n8 := Tryz.isNil67 ⟨w.heap.size, 0, none⟩ t ((w.alloc (.cells #[.pointer (some t)] 113)).alloc (.cells #[.pointer (some ⟨13, 113, none⟩), .pointer (some ⟨w.heap.size, 0, none⟩), .int .u64 150] 134)) (by simp)
  have hg2 : ((w.alloc (.cells #[.pointer (some t)] 113)).alloc (.cells #[.pointer (some ⟨13, 113, none⟩), .pointer (some ⟨w.heap.size, 0, none⟩), .int .u64 150] 134)).cell? ⟨1, 0, none⟩ = some (.iface 162 (.agg #[.pointer (some ⟨13, 34, none⟩)])) := by
    rw [World.cell?_alloc_lt _ _ ⟨1, 0, none⟩ (by simp; omega), World.cell?_alloc_lt _ _ ⟨1, 0, none⟩ hglt]; exact hg
  have hu : (((w.alloc (.cells #[.pointer (some t)] 113)).alloc (.cells #[.pointer (some ⟨13, 113, none⟩), .pointer (some ⟨w.heap.size, 0, none⟩), .int .u64 150] 134)).alloc (.cells #[.pointer (some ⟨13, 113, none⟩), .pointer (some ⟨w.heap.size, 0, none⟩), .int .u64 150] 134)).cell? ⟨g, 0, none⟩ = some (.int .i64 e) := by
    rw [World.cell?_alloc_lt _ _ ⟨g, 0, none⟩ (by simp; omega), World.cell?_alloc_lt _ _ ⟨g, 0, none⟩ (by simp; omega), World.cell?_alloc_lt _ _ ⟨g, 0, none⟩ hAlt]; exact hA0
  have el := Tryz.elemV67 ⟨w.heap.size, 0, none⟩ t (((w.alloc (.cells #[.pointer (some t)] 113)).alloc (.cells #[.pointer (some ⟨13, 113, none⟩), .pointer (some ⟨w.heap.size, 0, none⟩), .int .u64 150] 134)).alloc (.cells #[.pointer (some ⟨13, 113, none⟩), .pointer (some ⟨w.heap.size, 0, none⟩), .int .u64 150] 134)) (by rw [World.cell?_alloc_lt _ _ ⟨w.heap.size, 0, none⟩ (by simp; omega)]; simp)
  have st := Tryz.set23 t ⟨w.heap.size + 1 + 1 + 1, 0, none⟩ e old ((((w.alloc (.cells #[.pointer (some t)] 113)).alloc (.cells #[.pointer (some ⟨13, 113, none⟩), .pointer (some ⟨w.heap.size, 0, none⟩), .int .u64 150] 134)).alloc (.cells #[.pointer (some ⟨13, 113, none⟩), .pointer (some ⟨w.heap.size, 0, none⟩), .int .u64 150] 134)).alloc (.cells #[.int .i64 e] 26))
    (by rw [World.cell?_alloc_at _ _ _ _ (by simp)]; rfl)
    (by rw [World.cell?_alloc_lt _ _ t (by simp; omega), World.cell?_alloc_lt _ _ t (by simp; omega), World.cell?_alloc_lt _ _ t (by simp; omega), World.cell?_alloc_lt _ _ t htl]; exact ht0)
    (by rw [World.frozen?_alloc_old _ _ t (by simp; omega), World.frozen?_alloc_old _ _ t (by simp; omega), World.frozen?_alloc_old _ _ t (by simp; omega), World.frozen?_alloc_old _ _ t (Nat.ne_of_lt htl)]; exact hf0)
  go_enter Tryz.func47, Tryz.ntmps47
  go_wp2
  refine wp_loop_rounds 2 ?_
  rw [rounds_succ]
  go_wp2_with (go_at_call 181; refine (unwrap_any g e _ hu).mono ?_; rintro e' w' ⟨rfl, hw⟩; obtain rfl := hw.symm)
  rw [rounds_succ]
  go_wp2
  go_ret
  exact ⟨rfl, rfl⟩

end Go.Proofs.YtanlfmhlohcmgaaGreatDoor
/- api.Tell and plain.Place at what Split answers. -/
namespace Go.Proofs.YtanlfmhlohcmgaaGreatDoor
open Go.RowKit Go.Extern.Stop Go.Stop Go.Extern

theorem tell_nil (w : World) : Calls Tryz.prog 30 #[.nilIface] w fun e w' => e = .returned (.int .i64 0) ∧ w' = w := by
  go_enter Tryz.func30, Tryz.ntmps30
  go_wp2
  go_ret
  exact ⟨rfl, rfl⟩

set_option maxRecDepth 100000 in
set_option maxHeartbeats 1000000 in
theorem tell_at (g e q : Nat) (w : World) (hg : ErrType w) (hA : w.heap[g]? = some (.cells #[.int .i64 e, .int .i64 q] 66 (0, 0))) :
    Calls Tryz.prog 30 #[.iface 65 (.pointer (some ⟨g, 0, none⟩))] w fun ev w' => ev = .returned (.int .i64 e) ∧ Below w.heap.size w w' := by
  have hglt : 1 < w.heap.size := lt_of_cell hg
  have hAlt : g < w.heap.size := (Array.getElem?_eq_some_iff.1 hA).1
  have hg2 : ErrType (w.alloc (.cells #[.int .i64 0] 26)) := by
    rw [ErrType, World.cell?_alloc_lt _ _ ⟨1, 0, none⟩ hglt]; exact hg
  have hA2 : (w.alloc (.cells #[.int .i64 0] 26)).heap[g]? = some (.cells #[.int .i64 e, .int .i64 q] 66 (0, 0)) := by
    rw [Below.heap_alloc _ _ _ hAlt]; exact hA
  have has := as_any g e q ⟨w.heap.size, 0, none⟩ (.int .i64 0) _ hg2 hA2 (by simp) (by simp)
  clear hg2 hA2
  go_enter Tryz.func30, Tryz.ntmps30
  go_wp2_with (go_at_call 47; refine has.mono ?_; rintro e' w' ⟨rfl, rfl⟩)
  go_ret
  exact ⟨rfl, (((((Below.refl _ _).alloc (Nat.le_refl _) _).alloc (by simp) _).alloc (by simp; omega) _).alloc (by simp; omega) _).alloc (by simp; omega) _⟩

set_option maxRecDepth 100000 in
set_option maxHeartbeats 1000000 in
theorem place_nil (w : World) : Calls Tryz.prog 19 #[.nilIface] w fun e w' => e = .returned (.tuple #[.int .i64 0, .int .i64 (-1)]) ∧ w' = w := by
  go_enter Tryz.func19, Tryz.ntmps19
  go_wp2_with (go_at_call 30; refine (tell_nil _).mono ?_; rintro e' w' ⟨rfl, hw⟩; obtain rfl := hw.symm)
  refine wp_loop_rounds 1 ?_
  rw [rounds_succ]
  go_wp2
  go_ret2
  exact ⟨rfl, rfl⟩

theorem Tryz.isAt (v : Value) (x : TypeId) (w : World) : (Instr.typeAssert (.iface 65 v) x 65 true).run Tryz.prog w = .ok (.tuple #[v, .bool true]) w := by kernel_rfl

set_option maxRecDepth 100000 in
set_option maxHeartbeats 1000000 in
theorem place_at (g e q : Nat) (w : World) (hg : ErrType w) (hA : w.heap[g]? = some (.cells #[.int .i64 e, .int .i64 q] 66 (0, 0))) :
    Calls Tryz.prog 19 #[.iface 65 (.pointer (some ⟨g, 0, none⟩))] w fun ev w' => ev = .returned (.tuple #[.int .i64 e, .int .i64 q]) ∧ Below w.heap.size w w' := by
  have hAlt : g < w.heap.size := (Array.getElem?_eq_some_iff.1 hA).1
  have ht := tell_at g e q w hg hA
  have hi := Tryz.isAt
  go_enter Tryz.func19, Tryz.ntmps19
  go_wp2_with (go_at_call 30; refine ht.mono ?_; rintro e' w1 ⟨rfl, hb⟩; have hc1 : w1.cell? ⟨g, 1, none⟩ = some (.int .i64 q) := by (rw [hb.cell (p := ⟨g, 1, none⟩) hAlt, cell_of_row _ _ _ _ _ _ hA]; rfl))
  refine wp_loop_rounds 1 ?_
  rw [rounds_succ]
  go_wp2
  go_quiet (fail)
  go_wp2
  go_ret2
  exact ⟨rfl, hb.trans ⟨rfl, rfl, rfl, Nat.le_refl _, fun _ _ => rfl⟩⟩

set_option maxRecDepth 100000 in
set_option maxHeartbeats 1000000 in
theorem is_nil (w : World) : Calls Tryz.prog 8 #[.nilIface, .agg #[.int .i64 0, .int .i64 (-1)]] w fun e w' => e = .returned (.bool true) ∧ Below w.heap.size w w' := by
  go_enter Tryz.func8, Tryz.ntmps8
  go_wp2_with (go_at_call 19; refine (place_nil _).mono ?_; rintro e' w' ⟨rfl, hw⟩; obtain rfl := hw.symm)
  go_ret
  exact ⟨rfl, (Below.refl _ _).alloc (Nat.le_refl _) _⟩

set_option maxRecDepth 100000 in
set_option maxHeartbeats 1000000 in
theorem is_at (g e q : Nat) (w : World) (hg : ErrType w) (hA : w.heap[g]? = some (.cells #[.int .i64 e, .int .i64 q] 66 (0, 0))) :
    Calls Tryz.prog 8 #[.iface 65 (.pointer (some ⟨g, 0, none⟩)), .agg #[.int .i64 e, .int .i64 q]] w fun ev w' => ev = .returned (.bool true) ∧ Below w.heap.size w w' := by
  have hglt : 1 < w.heap.size := lt_of_cell hg
  have hAlt : g < w.heap.size := (Array.getElem?_eq_some_iff.1 hA).1
  have hg2 : ErrType (w.alloc (.cells #[.int .i64 e, .int .i64 q] 28)) := by
    rw [ErrType, World.cell?_alloc_lt _ _ ⟨1, 0, none⟩ hglt]; exact hg
  have hA2 : (w.alloc (.cells #[.int .i64 e, .int .i64 q] 28)).heap[g]? = some (.cells #[.int .i64 e, .int .i64 q] 66 (0, 0)) := by
    rw [Below.heap_alloc _ _ _ hAlt]; exact hA
  have hp := place_at g e q _ hg2 hA2
  clear hg2 hA2
  have hn0 : ∀ w1, Below (w.alloc (.cells #[.int .i64 e, .int .i64 q] 28)).heap.size (w.alloc (.cells #[.int .i64 e, .int .i64 q] 28)) w1 → w1.cell? ⟨w.heap.size, 0, none⟩ = some (.int .i64 e) ∧ w1.cell? ⟨w.heap.size, 1, none⟩ = some (.int .i64 q) := fun w1 hb => by
    rw [hb.cell (p := ⟨w.heap.size, 0, none⟩) (by simp), hb.cell (p := ⟨w.heap.size, 1, none⟩) (by simp)]
    simp
  go_enter Tryz.func8, Tryz.ntmps8
  go_wp2_with (go_at_call 19; refine hp.mono ?_; rintro e' w1 ⟨rfl, hb⟩; obtain ⟨hc0, hc1⟩ := hn0 w1 hb)
  go_ret
  exact ⟨rfl, ((Below.refl _ _).alloc (Nat.le_refl _) _).trans (hb.mono (by simp))⟩
end Go.Proofs.YtanlfmhlohcmgaaGreatDoor
/- The tokens of a text, once more: what lex.Split and the document's own Tokens lay; what is known of the list. -/
namespace Go.Proofs.YtanlfmhlohcmgaaGreatDoor
open Go.RowKit Px

theorem cells_at (L : List Lx.Tok) : ∀ (i : Nat) (t : Lx.Tok), L[i]? = some t → (cells L)[i * 3]? = some (.int .i64 t.kind) ∧ (cells L)[i * 3 + 1]? = some (.string ⟨t.text.toArray⟩) ∧ (cells L)[i * 3 + 2]? = some (.int .i64 t.place) := by
  induction L with
  | nil => intro i t h; simp at h
  | cons x r ih =>
    intro i t h
    have e : cells (x :: r) = .int .i64 x.kind :: .string ⟨x.text.toArray⟩ :: .int .i64 x.place :: cells r := rfl
    rw [e]
    cases i with
    | zero => simp at h; subst h; simp
    | succ i =>
      have := ih i t (by simpa using h)
      have e1 : (i + 1) * 3 = i * 3 + 1 + 1 + 1 := by omega
      have e2 : (i + 1) * 3 + 1 = i * 3 + 1 + 1 + 1 + 1 := by omega
      have e3 : (i + 1) * 3 + 2 = i * 3 + 2 + 1 + 1 + 1 := by omega
      rw [e2, e3, e1]
      simpa using this
/-- what is owned can be read -/
theorem toks_read {w : World} {B E n : Nat} {v : Value} {L : List Lx.Tok} (hn : n = L.length) (h0 : 0 < n) (h : w.ownsRow B E 3 v n (cells L)) :
    ∃ g cap, v = .slice (some ⟨g, 0, none⟩) n cap ∧ B ≤ g ∧ g < w.heap.size ∧ ∀ i t, L[i]? = some t → w.cell? ⟨g, i * 3, none⟩ = some (.int .i64 t.kind) ∧ w.cell? ⟨g, i * 3 + 1, none⟩ = some (.string ⟨t.text.toArray⟩) ∧ w.cell? ⟨g, i * 3 + 2, none⟩ = some (.int .i64 t.place) := by
  have hc := fun g hg => World.ownsRow.cells h (g := g) hg
  have hl := fun g hg => World.ownsRow.lt h g hg
  rcases h.2 with ⟨_, rfl⟩ | ⟨g, cap, cur, rfl, hg, _⟩
  · omega
  · refine ⟨g, cap, rfl, hg, (hl g rfl).2, fun i t ht => ?_⟩
    obtain ⟨a, b, c⟩ := cells_at L i t ht
    have ad : ∀ j, (⟨g, 0, none⟩ : Addr).add j = ⟨g, j, none⟩ := fun j => by unfold Addr.add; split <;> simp_all
    have h1 := hc g rfl _ _ a
    have h2 := hc g rfl _ _ b
    have h3 := hc g rfl _ _ c
    rw [ad] at h1 h2 h3
    exact ⟨h1, h2, h3⟩
theorem below_drewN {B : Nat} {a w : World} (h : Below B a w) (n : Nat) : Below B a (w.drewN n) := h.trans ⟨rfl, rfl, rfl, Nat.le_refl _, fun _ _ => rfl⟩

def fin (s : ByteArray) (l : List Lx.Tok) : List Lx.Tok := l ++ [⟨4, [], s.size⟩]
theorem fin_len (s : ByteArray) (l : List Lx.Tok) : (fin s l).length = l.length + 1 := by simp [fin]

theorem split_ok (s : ByteArray) (l : List Lx.Tok) (N : Nat) (hN : N = l.length + 1) (w : World) (hs : s.size ≤ 1000000) (hm : Marks w) (hok : Lx.Ok (bs s) l) :
    Calls Tryz.prog 31 #[.string s] w fun e w' => ∃ g cap, e = .returned (.tuple #[.slice (some ⟨g, 0, none⟩) N cap, .nilIface]) ∧ Below w.heap.size w w' ∧ w.heap.size ≤ g ∧ g < w'.heap.size ∧
      ∀ i t, (fin s l)[i]? = some t → w'.cell? ⟨g, i * 3, none⟩ = some (.int .i64 t.kind) ∧ w'.cell? ⟨g, i * 3 + 1, none⟩ = some (.string ⟨t.text.toArray⟩) ∧ w'.cell? ⟨g, i * 3 + 2, none⟩ = some (.int .i64 t.place) := by
  refine (split_any s w hs hm).mono ?_
  rintro e w' ⟨v, err, rfl, hb, ⟨l', hok', rfl, hown⟩ | ⟨e, q, g, hbad, _⟩⟩
  · obtain rfl := Lx.Ok_Ok hok hok'
    rw [← hN] at hown
    obtain ⟨g, cap, rfl, h1, h2, h3⟩ := toks_read (L := fin s l) (by rw [hN, fin_len]) (by omega) hown
    exact ⟨g, cap, rfl, hb, h1, h2, h3⟩
  · exact (Lx.Ok_Bad hok hbad).elim
theorem split_bad (s : ByteArray) (w : World) (hs : s.size ≤ 1000000) (hm : Marks w) (hno : ∀ l, ¬ Lx.Ok (bs s) l) :
    Calls Tryz.prog 31 #[.string s] w fun e w' => ∃ ev q g : Nat, e = .returned (.tuple #[.slice none 0 0, .iface 65 (.pointer (some ⟨g, 0, none⟩))]) ∧ Below w.heap.size w w' ∧ Lx.Bad (bs s) ev q ∧ w'.heap[g]? = some (.cells #[.int .i64 ev, .int .i64 q] 66 (0, 0)) := by
  refine (split_any s w hs hm).mono ?_
  rintro e w' ⟨v, err, rfl, hb, ⟨l', hok', rfl, hown⟩ | ⟨e, q, g, hbad, _, rfl, rfl, _, hh⟩⟩
  · exact (hno l' hok').elim
  · exact ⟨e, q, g, rfl, hb, hbad, hh⟩
theorem tokens_ok (s : ByteArray) (l : List Lx.Tok) (N : Nat) (hN : N = l.length + 1) (w : World) (hs : s.size ≤ 1000000) (hm : Fine w) (hok : Lx.Ok (bs s) l) :
    Calls Tryz.prog 34 #[.string s] w fun e w' => ∃ g cap, e = .returned (.tuple #[.slice (some ⟨g, 0, none⟩) N cap, .agg #[.int .i64 0, .int .i64 (-1)]]) ∧ Below w.heap.size w w' ∧ w.heap.size ≤ g ∧ g < w'.heap.size ∧
      ∀ i t, (fin s l)[i]? = some t → w'.cell? ⟨g, i * 3, none⟩ = some (.int .i64 t.kind) ∧ w'.cell? ⟨g, i * 3 + 1, none⟩ = some (.string ⟨t.text.toArray⟩) ∧ w'.cell? ⟨g, i * 3 + 2, none⟩ = some (.int .i64 t.place) := by
  refine (tokens_any s w hs hm).mono ?_
  rintro e w' ⟨v, f, rfl, hb, ⟨l', hok', rfl, hown⟩ | ⟨e, q, hbad, _⟩⟩
  · obtain rfl := Lx.Ok_Ok hok hok'
    rw [← hN] at hown
    obtain ⟨g, cap, rfl, h1, h2, h3⟩ := toks_read (L := fin s l) (by rw [hN, fin_len]) (by omega) hown
    exact ⟨g, cap, rfl, hb, h1, h2, h3⟩
  · exact (Lx.Ok_Bad hok hbad).elim
theorem tokens_bad (s : ByteArray) (w : World) (hs : s.size ≤ 1000000) (hm : Fine w) (hno : ∀ l, ¬ Lx.Ok (bs s) l) :
    Calls Tryz.prog 34 #[.string s] w fun e w' => ∃ ev q : Nat, e = .returned (.tuple #[.slice none 0 0, .agg #[.int .i64 ev, .int .i64 q]]) ∧ Below w.heap.size w w' ∧ Lx.Bad (bs s) ev q := by
  refine (tokens_any s w hs hm).mono ?_
  rintro e w' ⟨v, f, rfl, hb, ⟨l', hok', rfl, hown⟩ | ⟨e, q, hbad, rfl, rfl⟩⟩
  · exact (hno l' hok').elim
  · exact ⟨e, q, rfl, hb, hbad⟩
theorem ErrType.below {w w' : World} (h : ErrType w) (hb : Below w.heap.size w w') : ErrType w' := by
  rw [ErrType, hb.cell (p := ⟨1, 0, none⟩) (lt_of_cell h)]; exact h
/-- Below, behind a new block -/
theorem below_new {w w1 w2 : World} {o : Obj} (h : Below w.heap.size w w1) (k : Below (w1.alloc o).heap.size (w1.alloc o) w2) : Below w.heap.size w w2 := by
  have := h.size
  exact (h.alloc h.size o).trans (k.mono (by simp; omega))
theorem new_cell {w1 w2 : World} {x y : Value} {t : TypeId} (k : Below (w1.alloc (.cells #[x, y] t)).heap.size (w1.alloc (.cells #[x, y] t)) w2) : w2.cell? ⟨w1.heap.size, 0, none⟩ = some x ∧ w2.cell? ⟨w1.heap.size, 1, none⟩ = some y := by
  rw [k.cell (p := ⟨w1.heap.size, 0, none⟩) (by simp), k.cell (p := ⟨w1.heap.size, 1, none⟩) (by simp)]; simp


theorem mem_wh {p : UInt8 → Bool} : ∀ (u : List UInt8) (c : UInt8), c ∈ u.take (Lx.wh p u) → p c = true
  | [], c, h => by simp at h
  | x :: r, c, h => by
    unfold Lx.wh at h
    rw [List.takeWhile_cons] at h
    split at h
    · next hx =>
      simp only [List.length_cons, List.take_succ_cons, List.mem_cons] at h
      rcases h with rfl | h
      · exact hx
      · exact mem_wh r c h
    · simp at h
theorem rd_two {u : List UInt8} (h : (Lx.rd u).1 = 2) : (∀ c ∈ u.take (Lx.rd u).2, 48 ≤ c.toNat ∧ c.toNat ≤ 57) ∧ u.take (Lx.rd u).2 ≠ [] := by
  cases u with
  | nil => simp [Lx.rd] at h
  | cons c r =>
    have hc : Lx.digit c = true := by
      rw [Lx.rd_cons] at h
      by_cases hc : Lx.digit c = true
      · exact hc
      · rw [if_neg hc] at h
        by_cases hw : Lx.word c = true
        · rw [if_pos hw] at h; simp at h
        · rw [if_neg hw] at h
          by_cases hm : Lx.mk (c :: r) = 0
          · rw [if_pos hm] at h; simp at h
          · rw [if_neg hm] at h; simp at h
    have e : (Lx.rd (c :: r)).2 = Lx.wh Lx.digit (c :: r) := by rw [Lx.rd_cons, if_pos hc]
    rw [e]
    refine ⟨fun d hd => ?_, ?_⟩
    · have := mem_wh _ _ hd; simpa [Lx.digit] using this
    · simp [Lx.wh, hc]
theorem reads_each {l : List Lx.Tok} : ∀ {u : List UInt8} {p : Nat} {u1 : List UInt8} {p1 : Nat}, Lx.Reads u p l u1 p1 → ∀ t ∈ l, t.kind ≤ 3 ∧ t.kind ≠ 0 ∧ (t.kind = 2 → (∀ c ∈ t.text, 48 ≤ c.toNat ∧ c.toNat ≤ 57) ∧ t.text.length ≤ 18 ∧ t.text ≠ []) := by
  induction l with
  | nil => intro _ _ _ _ _ t ht; simp at ht
  | cons x r ih =>
    intro u p u1 p1 h t ht
    obtain ⟨a, b, c, d, e⟩ := h
    rcases List.mem_cons.1 ht with rfl | ht
    · subst b
      refine ⟨Lx.rd_kind _, c, fun h2 => ?_⟩
      have h2' : (Lx.rd (u.drop (Lx.sk false u))).1 = 2 := h2
      refine ⟨(rd_two h2').1, ?_, (rd_two h2').2⟩
      have : (Lx.rd (u.drop (Lx.sk false u))).2 ≤ 18 := Nat.le_of_not_lt fun hl => d ⟨h2', hl⟩
      simp only [List.length_take]; omega
    · exact ih e t ht
theorem fin_get (s : ByteArray) (l : List Lx.Tok) (k : Nat) : (k < l.length ∧ Px.tok (fin s l) k ∈ l) ∨ (k = l.length ∧ Px.tok (fin s l) k = ⟨4, [], s.size⟩) ∨ (l.length < k ∧ (fin s l)[k]? = none) := by
  rcases Nat.lt_trichotomy k l.length with h | h | h
  · refine .inl ⟨h, ?_⟩
    simp [Px.tok, fin, List.getD_eq_getElem?_getD, List.getElem?_append_left h, List.getElem?_eq_getElem h]
  · refine .inr (.inl ⟨h, ?_⟩)
    subst h; simp [Px.tok, fin, List.getD_eq_getElem?_getD]
  · refine .inr (.inr ⟨h, ?_⟩)
    simp [fin]; omega
theorem tok_none {L : List Lx.Tok} {k : Nat} (h : L[k]? = none) : Px.tok L k = ⟨4, [], 0⟩ := by
  simp [Px.tok, List.getD_eq_getElem?_getD, h]
theorem wf_ok {s : ByteArray} {l : List Lx.Tok} (h : Lx.Ok (bs s) l) : Wf (fin s l) := by
  obtain ⟨hn, u, p, hr, _⟩ := h
  have he := reads_each hr
  have hl : Px.tok (fin s l) ((fin s l).length - 1) = ⟨4, [], s.size⟩ := by
    rcases fin_get s l ((fin s l).length - 1) with h | h | h
    · have := fin_len s l; omega
    · exact h.2
    · have := fin_len s l; omega
  refine ⟨by rw [fin_len]; omega, by rw [fin_len]; omega, by rw [kd, hl], by rw [tx, hl], fun k hk => ?_⟩
  rcases fin_get s l k with h | h | h
  · exact (he _ h.2).2.2 hk
  · rw [kd, h.2] at hk; simp at hk
  · rw [kd, tok_none h.2] at hk; simp at hk
theorem e4_ok {s : ByteArray} {l : List Lx.Tok} (h : Lx.Ok (bs s) l) (k : Nat) (hk : kd (fin s l) k = 4) : tx (fin s l) k = [] := by
  obtain ⟨hn, u, p, hr, _⟩ := h
  have he := reads_each hr
  rcases fin_get s l k with h | h | h
  · have := (he _ h.2).1; rw [kd] at hk; omega
  · rw [tx, h.2]
  · rw [tx, tok_none h.2]
end Go.Proofs.YtanlfmhlohcmgaaGreatDoor
