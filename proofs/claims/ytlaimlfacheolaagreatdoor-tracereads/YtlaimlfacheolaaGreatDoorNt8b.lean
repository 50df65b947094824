/- What net's step answers, its tail (one): what it does not ask is 0. -/
import Derived.Test.YtlaimlfacheolaaGreatDoorNt7
namespace Go.Proofs.YtlaimlfacheolaaGreatDoor
open Go.RowKit
namespace Nx

section
variable (dst a b c P : Int) (nums bn : Nat) (w : World)

end
end Nx
end Go.Proofs.YtlaimlfacheolaaGreatDoor
