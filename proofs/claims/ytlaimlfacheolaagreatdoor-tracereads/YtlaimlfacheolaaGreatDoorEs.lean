/- errors.As at an *api.At and a target of type *api.Errno: the entries of internal/reflectlite at this program's types. -/
import Derived.Test.YtlaimlfacheolaaGreatDoorNv
import Derived.LaidEql
import Derived.Stop.Asserts
import Derived.RowKitTokens
namespace Go.Proofs.YtlaimlfacheolaaGreatDoor
open Go.RowKit Go.Extern.Stop Go.Stop Go.Extern Nx

theorem Tryz.valueOf67 (t : Addr) (w : World) : (ReflectliteValue.unpack (.iface 83 (.pointer (some t)))).run Tryz.prog w
    = .ok (.agg #[.pointer (some ⟨10, 83, none⟩), .pointer (some ⟨w.heap.size, 0, none⟩), .int .u64 150]) (w.alloc (.cells #[.pointer (some t)] 83)) := by kernel_rfl
theorem Tryz.type67 (a : Addr) (w : World) : (ReflectliteValue.methodAny (ReflectliteValue.valueError "reflectlite.Value.Type" 0) (fun t _ _ _ => ReflectliteType.toType t) #[.agg #[.pointer (some ⟨10, 83, none⟩), .pointer (some a), .int .u64 150]]).run Tryz.prog w
    = .ok (.iface 133 (.agg #[.pointer (some ⟨10, 83, none⟩)])) w := by kernel_rfl
theorem Tryz.kind67 (w : World) : ((ReflectliteType.abiMethod fun t => (fun a : Nat => Value.int IntKind.u8 (a : Int)) <$> Rtype.kind t) #[.pointer (some ⟨10, 83, none⟩)]).run Tryz.prog w = .ok (.int .u8 22) w := by kernel_rfl
theorem Tryz.kind23 (w : World) : ((ReflectliteType.abiMethod fun t => (fun a : Nat => Value.int IntKind.u8 (a : Int)) <$> Rtype.kind t) #[.pointer (some ⟨10, 24, none⟩)]).run Tryz.prog w = .ok (.int .u8 2) w := by kernel_rfl
theorem Tryz.meth67 (z : Sem Value) (f : TypeId → Addr → Nat → Nat → Sem Value) (a : Addr) (W : World) :
    (ReflectliteValue.method z f #[.agg #[.pointer (some ⟨10, 83, none⟩), .pointer (some a), .int .u64 150]]).run Tryz.prog W = (f 83 a 150 22).run Tryz.prog W := by kernel_rfl
theorem Tryz.isNil67 (a p : Addr) (W : World) (ha : W.cell? a = some (.pointer (some p))) :
    (ReflectliteValue.method (ReflectliteValue.valueError "reflectlite.Value.IsNil" 0) ReflectliteValue.isNil #[.agg #[.pointer (some ⟨10, 83, none⟩), .pointer (some a), .int .u64 150]]).run Tryz.prog W = .ok (.bool false) W := by
  rw [Tryz.meth67]
  simp [ReflectliteValue.isNil, loadVar, isAgg, underlying, Tryz.underlying83, ha, Result.andThen]
theorem Tryz.elem67 (w : World) : (ReflectliteType.method ReflectliteType.elem #[.agg #[.pointer (some ⟨10, 83, none⟩)]]).run Tryz.prog w = .ok (.iface 133 (.agg #[.pointer (some ⟨10, 24, none⟩)])) w := by kernel_rfl
theorem Tryz.implements23 (w : World) : (ReflectliteType.relation "Implements" ReflectliteType.implements_ #[.agg #[.pointer (some ⟨10, 24, none⟩)], .iface 133 (.agg #[.pointer (some ⟨10, 30, none⟩)])]).run Tryz.prog w = .ok (.bool true) w := by kernel_rfl
theorem Tryz.typeOf59 (v : Value) (w : World) : (ReflectliteType.typeOf #[.iface 48 v]).run Tryz.prog w = .ok (.iface 133 (.agg #[.pointer (some ⟨10, 48, none⟩)])) w := by kernel_rfl
theorem Tryz.typeOf23 (v : Value) (w : World) : (ReflectliteType.typeOf #[.iface 24 v]).run Tryz.prog w = .ok (.iface 133 (.agg #[.pointer (some ⟨10, 24, none⟩)])) w := by kernel_rfl
theorem Tryz.assignable59 (w : World) : (ReflectliteType.relation "AssignableTo" ReflectliteType.assignableTo #[.agg #[.pointer (some ⟨10, 48, none⟩)], .iface 133 (.agg #[.pointer (some ⟨10, 24, none⟩)])]).run Tryz.prog w = .ok (.bool false) w := by kernel_rfl
theorem Tryz.assignable23 (w : World) : (ReflectliteType.relation "AssignableTo" ReflectliteType.assignableTo #[.agg #[.pointer (some ⟨10, 24, none⟩)], .iface 133 (.agg #[.pointer (some ⟨10, 24, none⟩)])]).run Tryz.prog w = .ok (.bool true) w := by kernel_rfl
theorem Tryz.valueOf23 (e : Int) (w : World) : (ReflectliteValue.unpack (.iface 24 (.int .i64 e))).run Tryz.prog w
    = .ok (.agg #[.pointer (some ⟨10, 24, none⟩), .pointer (some ⟨w.heap.size, 0, none⟩), .int .u64 130]) (w.alloc (.cells #[.int .i64 e] 24)) := by kernel_rfl
theorem Tryz.elemOf67 (w : World) : (Rtype.elem? 83).run Tryz.prog w = .ok (some 24) w := by kernel_rfl
theorem Tryz.mk23 (p : Addr) (w : World) : (ReflectliteValue.mk 24 p ReflectliteValue.flagAddr).run Tryz.prog w = .ok (.agg #[.pointer (some ⟨10, 24, none⟩), .pointer (some p), .int .u64 386]) w := by kernel_rfl
theorem Tryz.elemV67 (a p : Addr) (W : World) (ha : W.cell? a = some (.pointer (some p))) :
    (ReflectliteValue.method (ReflectliteValue.valueError "reflectlite.Value.Elem" 0) ReflectliteValue.elem #[.agg #[.pointer (some ⟨10, 83, none⟩), .pointer (some a), .int .u64 150]]).run Tryz.prog W
      = .ok (.agg #[.pointer (some ⟨10, 24, none⟩), .pointer (some p), .int .u64 386]) W := by
  rw [Tryz.meth67]
  simp [ReflectliteValue.elem, loadVar, isAgg, underlying, Tryz.underlying83, ha, Result.andThen, Tryz.elemOf67, Tryz.mk23]
theorem Tryz.parts23a (a : Addr) (w : World) : (ReflectliteValue.parts (.agg #[.pointer (some ⟨10, 24, none⟩), .pointer (some a), .int .u64 386])).run Tryz.prog w = .ok (some (24, a, 386)) w := by kernel_rfl
theorem Tryz.parts23 (a : Addr) (w : World) : (ReflectliteValue.parts (.agg #[.pointer (some ⟨10, 24, none⟩), .pointer (some a), .int .u64 130])).run Tryz.prog w = .ok (some (24, a, 130)) w := by kernel_rfl
theorem Tryz.direct23 (w : World) : (Rtype.directlyAssignable 24 24).run Tryz.prog w = .ok true w := by kernel_rfl
theorem Tryz.set23 (ta b : Addr) (e : Int) (old : Value) (W : World) (hb : W.cell? b = some (.int .i64 e)) (ht : W.cell? ta = some old) (hf : W.frozen? ta = false) :
    (ReflectliteValue.set #[.agg #[.pointer (some ⟨10, 24, none⟩), .pointer (some ta), .int .u64 386], .agg #[.pointer (some ⟨10, 24, none⟩), .pointer (some b), .int .u64 130]]).run Tryz.prog W
      = .ok (.tuple #[]) (W.setCell ta (.int .i64 e)) := by
  have g1 : ∀ (h1 : (#[.agg #[.pointer (some ⟨10, 24, none⟩), .pointer (some ta), .int .u64 386], .agg #[.pointer (some ⟨10, 24, none⟩), .pointer (some b), .int .u64 130]] : Array Value).size = 2) (h2 : 1 < 2), Array.getLit (n := 2) (#[.agg #[.pointer (some ⟨10, 24, none⟩), .pointer (some ta), .int .u64 386], .agg #[.pointer (some ⟨10, 24, none⟩), .pointer (some b), .int .u64 130]] : Array Value) 1 h1 h2 = .agg #[.pointer (some ⟨10, 24, none⟩), .pointer (some b), .int .u64 130] := fun _ _ => rfl
  rw [show ReflectliteValue.set #[.agg #[.pointer (some ⟨10, 24, none⟩), .pointer (some ta), .int .u64 386], .agg #[.pointer (some ⟨10, 24, none⟩), .pointer (some b), .int .u64 130]] = ReflectliteValue.parts (.agg #[.pointer (some ⟨10, 24, none⟩), .pointer (some ta), .int .u64 386]) >>= _ from rfl]
  simp only [g1, Sem.run_bind, Tryz.parts23a, Tryz.parts23, Result.andThen]
  simp [ReflectliteValue.flagAddr, loadVar, isAgg, underlying, Tryz.underlying24, hb, Result.andThen, Tryz.direct23, storeVar, Value.cells, storeCells, Addr.add]
  rw [run_store Tryz.prog W ta _ _ (by rfl)]
  simp [ht, hf]
theorem Tryz.noAs (v : Value) (x : TypeId) (w : World) : (Instr.typeAssert (.iface 48 v) x 138 true).run Tryz.prog w = .ok (.tuple #[.nilIface, .bool false]) w := run_typeAssert_lacksB Tryz.underlying138 (by kernel_rfl) (by kernel_rfl) v x w
theorem Tryz.hasUnwrap (v : Value) (x : TypeId) (w : World) : (Instr.typeAssert (.iface 48 v) x 72 true).run Tryz.prog w = .ok (.tuple #[.iface 48 v, .bool true]) w := run_typeAssert_hasB Tryz.underlying72 (by kernel_rfl) v x w
end Go.Proofs.YtlaimlfacheolaaGreatDoor
