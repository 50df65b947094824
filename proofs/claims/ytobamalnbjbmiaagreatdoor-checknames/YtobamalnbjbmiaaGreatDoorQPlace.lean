/- errors.As at an *api.At and a target of type *api.Errno: the entries of internal/reflectlite at this program's types. -/
import Derived.Test.YtobamalnbjbmiaaGreatDoorQSplit
import Derived.LaidEql
import Derived.Stop.Asserts
import Derived.RowKitTokens
import Derived.Deep.QuietTactic
import Derived.BigQuiet
namespace Go.Proofs.YtobamalnbjbmiaaGreatDoor
open Go.RowKit Go.Extern.Stop Go.Stop Go.Extern

theorem Tryz.valueOf67 (t : Addr) (w : World) : (ReflectliteValue.unpack (.iface 145 (.pointer (some t)))).run Tryz.prog w
    = .ok (.agg #[.pointer (some ⟨13, 145, none⟩), .pointer (some ⟨w.heap.size, 0, none⟩), .int .u64 150]) (w.alloc (.cells #[.pointer (some t)] 145)) := by kernel_rfl
theorem Tryz.type67 (a : Addr) (w : World) : (ReflectliteValue.methodAny (ReflectliteValue.valueError "reflectlite.Value.Type" 0) (fun t _ _ _ => ReflectliteType.toType t) #[.agg #[.pointer (some ⟨13, 145, none⟩), .pointer (some a), .int .u64 150]]).run Tryz.prog w
    = .ok (.iface 236 (.agg #[.pointer (some ⟨13, 145, none⟩)])) w := by kernel_rfl
theorem Tryz.kind67 (w : World) : ((ReflectliteType.abiMethod fun t => (fun a : Nat => Value.int IntKind.u8 (a : Int)) <$> Rtype.kind t) #[.pointer (some ⟨13, 145, none⟩)]).run Tryz.prog w = .ok (.int .u8 22) w := by kernel_rfl
theorem Tryz.kind23 (w : World) : ((ReflectliteType.abiMethod fun t => (fun a : Nat => Value.int IntKind.u8 (a : Int)) <$> Rtype.kind t) #[.pointer (some ⟨13, 33, none⟩)]).run Tryz.prog w = .ok (.int .u8 2) w := by kernel_rfl
theorem Tryz.meth67 (z : Sem Value) (f : TypeId → Addr → Nat → Nat → Sem Value) (a : Addr) (W : World) :
    (ReflectliteValue.method z f #[.agg #[.pointer (some ⟨13, 145, none⟩), .pointer (some a), .int .u64 150]]).run Tryz.prog W = (f 145 a 150 22).run Tryz.prog W := by kernel_rfl
theorem Tryz.isNil67 (a p : Addr) (W : World) (ha : W.cell? a = some (.pointer (some p))) :
    (ReflectliteValue.method (ReflectliteValue.valueError "reflectlite.Value.IsNil" 0) ReflectliteValue.isNil #[.agg #[.pointer (some ⟨13, 145, none⟩), .pointer (some a), .int .u64 150]]).run Tryz.prog W = .ok (.bool false) W := by
  rw [Tryz.meth67]
  simp [ReflectliteValue.isNil, loadVar, isAgg, underlying, Tryz.underlying145, ha, Result.andThen]
theorem Tryz.elem67 (w : World) : (ReflectliteType.method ReflectliteType.elem #[.agg #[.pointer (some ⟨13, 145, none⟩)]]).run Tryz.prog w = .ok (.iface 236 (.agg #[.pointer (some ⟨13, 33, none⟩)])) w := by kernel_rfl
theorem Tryz.implements23 (w : World) : (ReflectliteType.relation "Implements" ReflectliteType.implements_ #[.agg #[.pointer (some ⟨13, 33, none⟩)], .iface 236 (.agg #[.pointer (some ⟨13, 28, none⟩)])]).run Tryz.prog w = .ok (.bool true) w := by kernel_rfl
theorem Tryz.typeOf59 (v : Value) (w : World) : (ReflectliteType.typeOf #[.iface 87 v]).run Tryz.prog w = .ok (.iface 236 (.agg #[.pointer (some ⟨13, 87, none⟩)])) w := by kernel_rfl
theorem Tryz.typeOf23 (v : Value) (w : World) : (ReflectliteType.typeOf #[.iface 33 v]).run Tryz.prog w = .ok (.iface 236 (.agg #[.pointer (some ⟨13, 33, none⟩)])) w := by kernel_rfl
theorem Tryz.assignable59 (w : World) : (ReflectliteType.relation "AssignableTo" ReflectliteType.assignableTo #[.agg #[.pointer (some ⟨13, 87, none⟩)], .iface 236 (.agg #[.pointer (some ⟨13, 33, none⟩)])]).run Tryz.prog w = .ok (.bool false) w := by kernel_rfl
theorem Tryz.assignable23 (w : World) : (ReflectliteType.relation "AssignableTo" ReflectliteType.assignableTo #[.agg #[.pointer (some ⟨13, 33, none⟩)], .iface 236 (.agg #[.pointer (some ⟨13, 33, none⟩)])]).run Tryz.prog w = .ok (.bool true) w := by kernel_rfl
theorem Tryz.valueOf23 (e : Int) (w : World) : (ReflectliteValue.unpack (.iface 33 (.int .i64 e))).run Tryz.prog w
    = .ok (.agg #[.pointer (some ⟨13, 33, none⟩), .pointer (some ⟨w.heap.size, 0, none⟩), .int .u64 130]) (w.alloc (.cells #[.int .i64 e] 33)) := by kernel_rfl
theorem Tryz.elemOf67 (w : World) : (Rtype.elem? 145).run Tryz.prog w = .ok (some 33) w := by kernel_rfl
theorem Tryz.mk23 (p : Addr) (w : World) : (ReflectliteValue.mk 33 p ReflectliteValue.flagAddr).run Tryz.prog w = .ok (.agg #[.pointer (some ⟨13, 33, none⟩), .pointer (some p), .int .u64 386]) w := by kernel_rfl
theorem Tryz.elemV67 (a p : Addr) (W : World) (ha : W.cell? a = some (.pointer (some p))) :
    (ReflectliteValue.method (ReflectliteValue.valueError "reflectlite.Value.Elem" 0) ReflectliteValue.elem #[.agg #[.pointer (some ⟨13, 145, none⟩), .pointer (some a), .int .u64 150]]).run Tryz.prog W
      = .ok (.agg #[.pointer (some ⟨13, 33, none⟩), .pointer (some p), .int .u64 386]) W := by
  rw [Tryz.meth67]
  simp [ReflectliteValue.elem, loadVar, isAgg, underlying, Tryz.underlying145, ha, Result.andThen, Tryz.elemOf67, Tryz.mk23]
theorem Tryz.parts23a (a : Addr) (w : World) : (ReflectliteValue.parts (.agg #[.pointer (some ⟨13, 33, none⟩), .pointer (some a), .int .u64 386])).run Tryz.prog w = .ok (some (33, a, 386)) w := by kernel_rfl
theorem Tryz.parts23 (a : Addr) (w : World) : (ReflectliteValue.parts (.agg #[.pointer (some ⟨13, 33, none⟩), .pointer (some a), .int .u64 130])).run Tryz.prog w = .ok (some (33, a, 130)) w := by kernel_rfl
theorem Tryz.direct23 (w : World) : (Rtype.directlyAssignable 33 33).run Tryz.prog w = .ok true w := by kernel_rfl
theorem Tryz.set23 (ta b : Addr) (e : Int) (old : Value) (W : World) (hb : W.cell? b = some (.int .i64 e)) (ht : W.cell? ta = some old) (hf : W.frozen? ta = false) :
    (ReflectliteValue.set #[.agg #[.pointer (some ⟨13, 33, none⟩), .pointer (some ta), .int .u64 386], .agg #[.pointer (some ⟨13, 33, none⟩), .pointer (some b), .int .u64 130]]).run Tryz.prog W
      = .ok (.tuple #[]) (W.setCell ta (.int .i64 e)) := by
  have g1 : ∀ (h1 : (#[.agg #[.pointer (some ⟨13, 33, none⟩), .pointer (some ta), .int .u64 386], .agg #[.pointer (some ⟨13, 33, none⟩), .pointer (some b), .int .u64 130]] : Array Value).size = 2) (h2 : 1 < 2), Array.getLit (n := 2) (#[.agg #[.pointer (some ⟨13, 33, none⟩), .pointer (some ta), .int .u64 386], .agg #[.pointer (some ⟨13, 33, none⟩), .pointer (some b), .int .u64 130]] : Array Value) 1 h1 h2 = .agg #[.pointer (some ⟨13, 33, none⟩), .pointer (some b), .int .u64 130] := fun _ _ => rfl
  rw [show ReflectliteValue.set #[.agg #[.pointer (some ⟨13, 33, none⟩), .pointer (some ta), .int .u64 386], .agg #[.pointer (some ⟨13, 33, none⟩), .pointer (some b), .int .u64 130]] = ReflectliteValue.parts (.agg #[.pointer (some ⟨13, 33, none⟩), .pointer (some ta), .int .u64 386]) >>= _ from rfl]
  simp only [g1, Sem.run_bind, Tryz.parts23a, Tryz.parts23, Result.andThen]
  simp [ReflectliteValue.flagAddr, loadVar, isAgg, underlying, Tryz.underlying33, hb, Result.andThen, Tryz.direct23, storeVar, Value.cells, storeCells, Addr.add]
  rw [run_store Tryz.prog W ta _ _ (by rfl)]
  simp [ht, hf]
theorem Tryz.noAs (v : Value) (x : TypeId) (w : World) : (Instr.typeAssert (.iface 87 v) x 241 true).run Tryz.prog w = .ok (.tuple #[.nilIface, .bool false]) w := run_typeAssert_lacksB Tryz.underlying241 (by kernel_rfl) (by kernel_rfl) v x w
theorem Tryz.hasUnwrap (v : Value) (x : TypeId) (w : World) : (Instr.typeAssert (.iface 87 v) x 95 true).run Tryz.prog w = .ok (.tuple #[.iface 87 v, .bool true]) w := run_typeAssert_hasB Tryz.underlying95 (by kernel_rfl) v x w
end Go.Proofs.YtobamalnbjbmiaaGreatDoor
/- errors.As, api.Tell, plain.Place at what Split answers. -/
namespace Go.Proofs.YtobamalnbjbmiaaGreatDoor
open Go.RowKit Go.Extern.Stop Go.Stop Go.Extern

theorem unwrap_any (g : Nat) (e : Int) (w : World) (h : w.cell? ⟨g, 0, none⟩ = some (.int .i64 e)) :
    Calls Tryz.prog 277 #[.pointer (some ⟨g, 0, none⟩)] w fun e' w' => e' = .returned (.iface 33 (.int .i64 e)) ∧ w' = w := by
  go_enter Tryz.func277, Tryz.ntmps277
  go_wp2
  go_ret
  exact ⟨rfl, rfl⟩

theorem Tryz.methodKind (h : Value) (w : World) : (Go.method 443 236 (.agg #[h]) "Kind").run Tryz.prog w = .ok (272, h) w := by kernel_rfl
theorem Tryz.methodElem (h : Value) (w : World) : (Go.method 443 236 (.agg #[h]) "Elem").run Tryz.prog w = .ok (284, .agg #[h]) w := by kernel_rfl
theorem Tryz.methodImplements (h : Value) (w : World) : (Go.method 443 236 (.agg #[h]) "Implements").run Tryz.prog w = .ok (285, .agg #[h]) w := by kernel_rfl
theorem Tryz.methodAssignableTo (h : Value) (w : World) : (Go.method 443 236 (.agg #[h]) "AssignableTo").run Tryz.prog w = .ok (282, .agg #[h]) w := by kernel_rfl
theorem Tryz.methodUnwrap (a : Addr) (w : World) : (Go.method 443 87 (.pointer (some a)) "Unwrap").run Tryz.prog w = .ok (277, .pointer (some a)) w := by kernel_rfl

/-- the handle of type error, where errors laid it -/
def ErrType (w : World) : Prop := w.cell? ⟨1, 0, none⟩ = some (.iface 236 (.agg #[.pointer (some ⟨13, 28, none⟩)]))

set_option maxRecDepth 100000 in
set_option maxHeartbeats 4000000 in
theorem as_any (g e q : Nat) (t : Addr) (old : Value) (w : World) (hg : ErrType w) (hA : w.heap[g]? = some (.cells #[.int .i64 e, .int .i64 q] 94 (0, 0))) (ht0 : w.cell? t = some old) (hf0 : w.frozen? t = false) :
    Calls Tryz.prog 76 #[.iface 87 (.pointer (some ⟨g, 0, none⟩)), .iface 145 (.pointer (some t))] w fun ev w' => ev = .returned (.bool true) ∧ w' = ((((w.alloc (.cells #[.pointer (some t)] 145)).alloc (.cells #[.pointer (some ⟨13, 145, none⟩), .pointer (some ⟨w.heap.size, 0, none⟩), .int .u64 150] 200)).alloc (.cells #[.pointer (some ⟨13, 145, none⟩), .pointer (some ⟨w.heap.size, 0, none⟩), .int .u64 150] 200)).alloc (.cells #[.int .i64 e] 33)).setCell t (.int .i64 e) := by
  have h33 := @run_callFunc_extern Tryz.prog 122 _ (fun args => ReflectliteValue.unpack (args.getD 0 (.tuple #[]))) Tryz.func122 (by kernel_rfl) (by kernel_rfl) (by kernel_rfl) (by kernel_rfl)
  have h34 := @run_callFunc_extern Tryz.prog 123 _ (ReflectliteValue.methodAny (ReflectliteValue.valueError "reflectlite.Value.Type" 0) (fun t _ _ _ => ReflectliteType.toType t)) Tryz.func123 (by kernel_rfl) (by kernel_rfl) (by kernel_rfl) (by kernel_rfl)
  have h35 := @run_callFunc_extern Tryz.prog 124 _ (ReflectliteValue.method (ReflectliteValue.valueError "reflectlite.Value.IsNil" 0) ReflectliteValue.isNil) Tryz.func124 (by kernel_rfl) (by kernel_rfl) (by kernel_rfl) (by kernel_rfl)
  have h55 := @run_callFunc_extern Tryz.prog 272 _ (ReflectliteType.abiMethod fun t => do pure (.int .u8 (← Rtype.kind t))) Tryz.func272 (by kernel_rfl) (by kernel_rfl) (by kernel_rfl) (by kernel_rfl)
  have h68 := @run_callFunc_extern Tryz.prog 284 _ (ReflectliteType.method ReflectliteType.elem) Tryz.func284 (by kernel_rfl) (by kernel_rfl) (by kernel_rfl) (by kernel_rfl)
  have h69 := @run_callFunc_extern Tryz.prog 285 _ (ReflectliteType.relation "Implements" ReflectliteType.implements_) Tryz.func285 (by kernel_rfl) (by kernel_rfl) (by kernel_rfl) (by kernel_rfl)
  have h38 := @run_callFunc_extern Tryz.prog 168 _ ReflectliteType.typeOf Tryz.func168 (by kernel_rfl) (by kernel_rfl) (by kernel_rfl) (by kernel_rfl)
  have h66 := @run_callFunc_extern Tryz.prog 282 _ (ReflectliteType.relation "AssignableTo" ReflectliteType.assignableTo) Tryz.func282 (by kernel_rfl) (by kernel_rfl) (by kernel_rfl) (by kernel_rfl)
  have h39 := @run_callFunc_extern Tryz.prog 169 _ (ReflectliteValue.method (ReflectliteValue.valueError "reflectlite.Value.Elem" 0) ReflectliteValue.elem) Tryz.func169 (by kernel_rfl) (by kernel_rfl) (by kernel_rfl) (by kernel_rfl)
  have h40 := @run_callFunc_extern Tryz.prog 170 _ ReflectliteValue.set Tryz.func170 (by kernel_rfl) (by kernel_rfl) (by kernel_rfl) (by kernel_rfl)
  have k1 := Tryz.valueOf67
  have k2 := Tryz.type67
  have k3 := Tryz.kind67
  have k4 := Tryz.kind23
  have k5 := Tryz.elem67
  have k6 := Tryz.implements23
  have k7 := Tryz.typeOf59
  have k8 := Tryz.typeOf23
  have k9 := Tryz.assignable59
  have k10 := Tryz.assignable23
  have k11 := Tryz.valueOf23
  have k12 := Tryz.noAs
  have k13 := Tryz.hasUnwrap
  have m1 := Tryz.methodKind
  have m2 := Tryz.methodElem
  have m3 := Tryz.methodImplements
  have m4 := Tryz.methodAssignableTo
  have m5 := Tryz.methodUnwrap
  have hglt : 1 < w.heap.size := lt_of_cell hg
  have hAlt : g < w.heap.size := (Array.getElem?_eq_some_iff.1 hA).1
  have htl : t.block < w.heap.size := by
    rcases Nat.lt_or_ge t.block w.heap.size with h | h
    · exact h
    · simp [World.cell?, Array.getElem?_eq_none h] at ht0
  have hA0 : w.cell? ⟨g, 0, none⟩ = some (.int .i64 e) := by rw [cell_of_row _ _ _ _ _ _ hA]; rfl
  have n8 := Tryz.isNil67 ⟨w.heap.size, 0, none⟩ t ((w.alloc (.cells #[.pointer (some t)] 145)).alloc (.cells #[.pointer (some ⟨13, 145, none⟩), .pointer (some ⟨w.heap.size, 0, none⟩), .int .u64 150] 200)) (by simp)
  have hg2 : ((w.alloc (.cells #[.pointer (some t)] 145)).alloc (.cells #[.pointer (some ⟨13, 145, none⟩), .pointer (some ⟨w.heap.size, 0, none⟩), .int .u64 150] 200)).cell? ⟨1, 0, none⟩ = some (.iface 236 (.agg #[.pointer (some ⟨13, 28, none⟩)])) := by
    rw [World.cell?_alloc_lt _ _ ⟨1, 0, none⟩ (by simp; omega), World.cell?_alloc_lt _ _ ⟨1, 0, none⟩ hglt]; exact hg
  have hu : (((w.alloc (.cells #[.pointer (some t)] 145)).alloc (.cells #[.pointer (some ⟨13, 145, none⟩), .pointer (some ⟨w.heap.size, 0, none⟩), .int .u64 150] 200)).alloc (.cells #[.pointer (some ⟨13, 145, none⟩), .pointer (some ⟨w.heap.size, 0, none⟩), .int .u64 150] 200)).cell? ⟨g, 0, none⟩ = some (.int .i64 e) := by
    rw [World.cell?_alloc_lt _ _ ⟨g, 0, none⟩ (by simp; omega), World.cell?_alloc_lt _ _ ⟨g, 0, none⟩ (by simp; omega), World.cell?_alloc_lt _ _ ⟨g, 0, none⟩ hAlt]; exact hA0
  have el := Tryz.elemV67 ⟨w.heap.size, 0, none⟩ t (((w.alloc (.cells #[.pointer (some t)] 145)).alloc (.cells #[.pointer (some ⟨13, 145, none⟩), .pointer (some ⟨w.heap.size, 0, none⟩), .int .u64 150] 200)).alloc (.cells #[.pointer (some ⟨13, 145, none⟩), .pointer (some ⟨w.heap.size, 0, none⟩), .int .u64 150] 200)) (by rw [World.cell?_alloc_lt _ _ ⟨w.heap.size, 0, none⟩ (by simp; omega)]; simp)
  have st := Tryz.set23 t ⟨w.heap.size + 1 + 1 + 1, 0, none⟩ e old ((((w.alloc (.cells #[.pointer (some t)] 145)).alloc (.cells #[.pointer (some ⟨13, 145, none⟩), .pointer (some ⟨w.heap.size, 0, none⟩), .int .u64 150] 200)).alloc (.cells #[.pointer (some ⟨13, 145, none⟩), .pointer (some ⟨w.heap.size, 0, none⟩), .int .u64 150] 200)).alloc (.cells #[.int .i64 e] 33))
    (by rw [World.cell?_alloc_at _ _ _ _ (by simp)]; rfl)
    (by rw [World.cell?_alloc_lt _ _ t (by simp; omega), World.cell?_alloc_lt _ _ t (by simp; omega), World.cell?_alloc_lt _ _ t (by simp; omega), World.cell?_alloc_lt _ _ t htl]; exact ht0)
    (by rw [World.frozen?_alloc_old _ _ t (by simp; omega), World.frozen?_alloc_old _ _ t (by simp; omega), World.frozen?_alloc_old _ _ t (by simp; omega), World.frozen?_alloc_old _ _ t (Nat.ne_of_lt htl)]; exact hf0)
  go_enter Tryz.func76, Tryz.ntmps76
  go_wp2
  refine wp_loop_rounds 2 ?_
  rw [rounds_succ]
  go_wp2_with (go_at_call 277; refine (unwrap_any g e _ hu).mono ?_; rintro e' w' ⟨rfl, hw⟩; obtain rfl := hw.symm)
  rw [rounds_succ]
  go_wp2
  go_ret
  exact ⟨rfl, rfl⟩

end Go.Proofs.YtobamalnbjbmiaaGreatDoor
/- api.Tell and plain.Place at what Split answers. -/
namespace Go.Proofs.YtobamalnbjbmiaaGreatDoor
open Go.RowKit Go.Extern.Stop Go.Stop Go.Extern

theorem tell_nil (w : World) : Calls Tryz.prog 44 #[.nilIface] w fun e w' => e = .returned (.int .i64 0) ∧ w' = w := by
  go_enter Tryz.func44, Tryz.ntmps44
  go_wp2
  go_ret
  exact ⟨rfl, rfl⟩

set_option maxRecDepth 100000 in
set_option maxHeartbeats 1000000 in
theorem tell_at (g e q : Nat) (w : World) (hg : ErrType w) (hA : w.heap[g]? = some (.cells #[.int .i64 e, .int .i64 q] 94 (0, 0))) :
    Calls Tryz.prog 44 #[.iface 87 (.pointer (some ⟨g, 0, none⟩))] w fun ev w' => ev = .returned (.int .i64 e) ∧ Below w.heap.size w w' := by
  have hglt : 1 < w.heap.size := lt_of_cell hg
  have hAlt : g < w.heap.size := (Array.getElem?_eq_some_iff.1 hA).1
  have hg2 : ErrType (w.alloc (.cells #[.int .i64 0] 33)) := by
    rw [ErrType, World.cell?_alloc_lt _ _ ⟨1, 0, none⟩ hglt]; exact hg
  have hA2 : (w.alloc (.cells #[.int .i64 0] 33)).heap[g]? = some (.cells #[.int .i64 e, .int .i64 q] 94 (0, 0)) := by
    rw [Below.heap_alloc _ _ _ hAlt]; exact hA
  have has := as_any g e q ⟨w.heap.size, 0, none⟩ (.int .i64 0) _ hg2 hA2 (by simp) (by simp)
  clear hg2 hA2
  go_enter Tryz.func44, Tryz.ntmps44
  go_wp2_with (go_at_call 76; refine has.mono ?_; rintro e' w' ⟨rfl, rfl⟩)
  go_ret
  exact ⟨rfl, (((((Below.refl _ _).alloc (Nat.le_refl _) _).alloc (by simp) _).alloc (by simp; omega) _).alloc (by simp; omega) _).alloc (by simp; omega) _⟩

set_option maxRecDepth 100000 in
set_option maxHeartbeats 1000000 in
theorem place_nil (w : World) : Calls Tryz.prog 16 #[.nilIface] w fun e w' => e = .returned (.tuple #[.int .i64 0, .int .i64 (-1)]) ∧ w' = w := by
  go_enter Tryz.func16, Tryz.ntmps16
  go_wp2_with (go_at_call 44; refine (tell_nil _).mono ?_; rintro e' w' ⟨rfl, hw⟩; obtain rfl := hw.symm)
  refine wp_loop_rounds 1 ?_
  rw [rounds_succ]
  go_wp2
  go_ret2
  exact ⟨rfl, rfl⟩

theorem Tryz.isAt (v : Value) (x : TypeId) (w : World) : (Instr.typeAssert (.iface 87 v) x 87 true).run Tryz.prog w = .ok (.tuple #[v, .bool true]) w := by kernel_rfl

set_option maxRecDepth 100000 in
set_option maxHeartbeats 1000000 in
theorem place_at (g e q : Nat) (w : World) (hg : ErrType w) (hA : w.heap[g]? = some (.cells #[.int .i64 e, .int .i64 q] 94 (0, 0))) :
    Calls Tryz.prog 16 #[.iface 87 (.pointer (some ⟨g, 0, none⟩))] w fun ev w' => ev = .returned (.tuple #[.int .i64 e, .int .i64 q]) ∧ Below w.heap.size w w' := by
  have hAlt : g < w.heap.size := (Array.getElem?_eq_some_iff.1 hA).1
  have ht := tell_at g e q w hg hA
  have hi := Tryz.isAt
  go_enter Tryz.func16, Tryz.ntmps16
  go_wp2_with (go_at_call 44; refine ht.mono ?_; rintro e' w1 ⟨rfl, hb⟩; have hc1 : w1.cell? ⟨g, 1, none⟩ = some (.int .i64 q) := by (rw [hb.cell (p := ⟨g, 1, none⟩) hAlt, cell_of_row _ _ _ _ _ _ hA]; rfl))
  refine wp_loop_rounds 1 ?_
  rw [rounds_succ]
  go_wp2
  go_quiet (fail)
  go_wp2
  go_ret2
  exact ⟨rfl, hb.trans ⟨rfl, rfl, rfl, Nat.le_refl _, fun _ _ => rfl⟩⟩

set_option maxRecDepth 100000 in
set_option maxHeartbeats 1000000 in
theorem is_nil (w : World) : Calls Tryz.prog 36 #[.nilIface, .agg #[.int .i64 0, .int .i64 (-1)]] w fun e w' => e = .returned (.bool true) ∧ Below w.heap.size w w' := by
  go_enter Tryz.func36, Tryz.ntmps36
  go_wp2_with (go_at_call 16; refine (place_nil _).mono ?_; rintro e' w' ⟨rfl, hw⟩; obtain rfl := hw.symm)
  go_ret
  exact ⟨rfl, (Below.refl _ _).alloc (Nat.le_refl _) _⟩

set_option maxRecDepth 100000 in
set_option maxHeartbeats 1000000 in
theorem is_at (g e q : Nat) (w : World) (hg : ErrType w) (hA : w.heap[g]? = some (.cells #[.int .i64 e, .int .i64 q] 94 (0, 0))) :
    Calls Tryz.prog 36 #[.iface 87 (.pointer (some ⟨g, 0, none⟩)), .agg #[.int .i64 e, .int .i64 q]] w fun ev w' => ev = .returned (.bool true) ∧ Below w.heap.size w w' := by
  have hglt : 1 < w.heap.size := lt_of_cell hg
  have hAlt : g < w.heap.size := (Array.getElem?_eq_some_iff.1 hA).1
  have hg2 : ErrType (w.alloc (.cells #[.int .i64 e, .int .i64 q] 74)) := by
    rw [ErrType, World.cell?_alloc_lt _ _ ⟨1, 0, none⟩ hglt]; exact hg
  have hA2 : (w.alloc (.cells #[.int .i64 e, .int .i64 q] 74)).heap[g]? = some (.cells #[.int .i64 e, .int .i64 q] 94 (0, 0)) := by
    rw [Below.heap_alloc _ _ _ hAlt]; exact hA
  have hp := place_at g e q _ hg2 hA2
  clear hg2 hA2
  have hn0 : ∀ w1, Below (w.alloc (.cells #[.int .i64 e, .int .i64 q] 74)).heap.size (w.alloc (.cells #[.int .i64 e, .int .i64 q] 74)) w1 → w1.cell? ⟨w.heap.size, 0, none⟩ = some (.int .i64 e) ∧ w1.cell? ⟨w.heap.size, 1, none⟩ = some (.int .i64 q) := fun w1 hb => by
    rw [hb.cell (p := ⟨w.heap.size, 0, none⟩) (by simp), hb.cell (p := ⟨w.heap.size, 1, none⟩) (by simp)]
    simp
  go_enter Tryz.func36, Tryz.ntmps36
  go_wp2_with (go_at_call 16; refine hp.mono ?_; rintro e' w1 ⟨rfl, hb⟩; obtain ⟨hc0, hc1⟩ := hn0 w1 hb)
  go_ret
  exact ⟨rfl, ((Below.refl _ _).alloc (Nat.le_refl _) _).trans (hb.mono (by simp))⟩
end Go.Proofs.YtobamalnbjbmiaaGreatDoor
