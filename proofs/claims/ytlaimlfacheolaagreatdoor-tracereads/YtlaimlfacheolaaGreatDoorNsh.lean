/- slices.Sort, Clone and Compact at numbers: laid for this program out of the shelf. -/
import Derived.Shelf.Sort.Plain
import Derived.Ground.Names2Prog
import Derived.Shelf.Slices.Clone
import Derived.Shelf.Slices.CompactI
import Derived.Shelf.Slices.Cells
import Derived.Shelf.Slices.In.SortNone
import Derived.Test.YtlaimlfacheolaaGreatDoorProg
namespace Go.Proofs
open Go.Shelf
end Go.Proofs
