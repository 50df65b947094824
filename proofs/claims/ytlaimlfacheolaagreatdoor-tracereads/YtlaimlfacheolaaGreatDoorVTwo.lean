/-
  What the program's Two returns: the array of what is asked of two numbers is laid anew in each call, a code is looked up in it, and what lies there is called.
-/
import Derived.Test.YtlaimlfacheolaaGreatDoorProg
import Derived.Test.YtlaimlfacheolaaGreatDoorVPlain
import Derived.WalkKit
import Derived.WalkSpells
import Derived.WalkLawsBesides
import Derived.Laws.EntriesVeiled
namespace Go.Proofs.YtlaimlfacheolaaGreatDoor
open Go.RowKit

theorem setRow_alloc (w : World) (a b : Array Value) (t : TypeId) : (w.alloc (.cells a t)).setRow w.heap.size b = w.alloc (.cells b t) := by
  unfold World.setRow World.alloc
  congr 1
  apply Array.ext
  · simp
  · intro k h1 h2
    simp only [Array.getElem_modify, Array.getElem_push]
    split
    · rename_i hk; subst hk; simp
    · rename_i hk; have : k < w.heap.size := by simp at h2; omega
      simp [this]

end Go.Proofs.YtlaimlfacheolaaGreatDoor
