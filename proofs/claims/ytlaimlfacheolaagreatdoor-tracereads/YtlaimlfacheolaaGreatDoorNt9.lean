/- What net's whole answers: what is wrong with all of code but its steps. -/
import Derived.Test.YtlaimlfacheolaaGreatDoorNt6
namespace Go.Proofs.YtlaimlfacheolaaGreatDoor
open Go.RowKit
namespace Nx

/-- code that is not too much -/
structure Small (n : Nt) : Prop where
  p : n.places ≤ 4000
  c : n.code.length ≤ 4000
  m : n.nums.length ≤ 4000
  s : n.ins.length + n.outs.length + n.keeps.length ≤ 4000

section
variable {A : Nat → Prop} (n : Nt) (bn : Nat) (w : World) (adF adI adO adK adN adC : Option Addr) (capF capI capO capK capN capC : Nat)

end
end Nx
end Go.Proofs.YtlaimlfacheolaaGreatDoor
