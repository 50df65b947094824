/- What net's step and whole answer, all ways together. -/
import Derived.Test.YtlaimlfacheolaaGreatDoorNt8
import Derived.Test.YtlaimlfacheolaaGreatDoorNt8b
import Derived.Test.YtlaimlfacheolaaGreatDoorNt9
namespace Go.Proofs.YtlaimlfacheolaaGreatDoor
open Go.RowKit
namespace Nx

/-- code as it lies in memory -/
structure NetV (B : Nat) (w : World) (n : Nt) (vF vI vO vK vN vC : Value) : Prop where
  f : Ints (· < B) w vF n.first
  i : Ints (· < B) w vI n.ins
  o : Ints (· < B) w vO n.outs
  k : Ints (· < B) w vK n.keeps
  m : Ints (· < B) w vN n.nums
  c : Steps (· < B) w vC n.code
theorem NetV.carry {B B' : Nat} {w w' : World} {n : Nt} {vF vI vO vK vN vC : Value} (h : NetV B w n vF vI vO vK vN vC) (k : Keep (· < B) (· < B') w w') : NetV B' w' n vF vI vO vK vN vC :=
  ⟨h.f.carry k, h.i.carry k, h.o.carry k, h.k.carry k, h.m.carry k, h.c.carry k⟩
theorem NetV.below {B B' : Nat} {w w' : World} {n : Nt} {vF vI vO vK vN vC : Value} (h : NetV B w n vF vI vO vK vN vC) (hb : Below B w w') (hB : B ≤ B') : NetV B' w' n vF vI vO vK vN vC :=
  h.carry fun b hl _ => ⟨Nat.lt_of_lt_of_le hl hB, hb.block b hl⟩

end Nx
end Go.Proofs.YtlaimlfacheolaaGreatDoor
