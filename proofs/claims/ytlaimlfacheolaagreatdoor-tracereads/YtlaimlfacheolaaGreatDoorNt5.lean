/- What slices.Clone, net's isTwice, all and Asks answer. -/
import Derived.Test.YtlaimlfacheolaaGreatDoorNt4
import Derived.Test.YtlaimlfacheolaaGreatDoorNm2
import Derived.Test.YtlaimlfacheolaaGreatDoorNsh
import Derived.Lib.OwnBridge
import Derived.Sort.OwnSortedInts
namespace Go.Proofs.YtlaimlfacheolaaGreatDoor
open Go.RowKit Go.Sort
namespace Nx

theorem eq_nil_s (n c : Nat) (w : World) : (binOp BinOp.eql 36 (.slice none n c) (.slice none 0 0)).run Tryz.prog w = .ok (.bool true) w := by kernel_rfl
theorem neq_nil_s (a : Addr) (n c : Nat) (w : World) : (binOp BinOp.eql 36 (.slice (some a) n c) (.slice none 0 0)).run Tryz.prog w = .ok (.bool false) w := by kernel_rfl

end Nx
end Go.Proofs.YtlaimlfacheolaaGreatDoor
