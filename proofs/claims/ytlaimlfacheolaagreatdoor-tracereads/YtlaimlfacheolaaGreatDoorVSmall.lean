/-
  What each small function of the program's package value, and of the document's own answer, returns: every function of one, two or three numbers, but for the array's.
-/
import Derived.Test.YtlaimlfacheolaaGreatDoorProg
import Derived.Test.YtlaimlfacheolaaGreatDoorVPlain
import Derived.WalkKit
import Derived.WalkSpells
import Derived.WalkLawsBesides
namespace Go.Proofs.YtlaimlfacheolaaGreatDoor
open Go.RowKit

end Go.Proofs.YtlaimlfacheolaaGreatDoor
