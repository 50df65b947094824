/-
  DERIVED. GIVEN WITH THE SEED: THE CARDS: each row of YthieaobjdpfcoaaGreatDoorRows.lean that lists a variable, with what it lists TIED to the program's text (the seventh form; the later family's looks); each row that meets fmt, with fmt's text TOLD by the authors' own Lean function (tested against real Go, not proved from fmt's source: count such statements apart). THE CARD IS WHAT COUNTS. Prove the row's statement (the work); the ties are given (YthieaobjdpfcoaaGreatDoorTie.lean); close each card by the builder's one call (the guide's Derived/Test/ToyasCard.lean, 'card_holds'). Laid BY PROGRAM, IN A SANDBOX (cutbox-door.mjs). By AI agents, Wed Nov 11 2026. No macro, syntax, notation, axiom, sorry.
-/
import Derived.Test.YthieaobjdpfcoaaGreatDoorRows
import GoSem.ClaimSeven
namespace Go.Proofs.YthieaobjdpfcoaaGreatDoor
namespace Rows

/-- THE TIED CARD OF 'clepsydrakeep.ShareSame'. -/
def shareSameCard : Claim7 := { stood := { row := shareSameRow, standIns := [], harness := (true, "1278ae1d00f6cbe8a79214acfe04c160c65c68e814ed4a9cc5049f29f2e822fb"), looks := true }, kinds := [], alts := [], laidByText := true, laidKinds := [.data, .data, .data, .sentinel, .sentinel, .data, .data, .data, .data, .data, .data], laidTests := true, laidLooks := .later }
def ShareSameCardSaid : Prop := Claim7.holds Tryz.pinned (.plain (OpenSpec.ofChange shareSameSpec)) shareSameCard

/-- THE TIED CARD OF 'clepsydrakeep.PruneSame'. -/
def pruneSameCard : Claim7 := { stood := { row := pruneSameRow, standIns := [], harness := (true, "1278ae1d00f6cbe8a79214acfe04c160c65c68e814ed4a9cc5049f29f2e822fb"), looks := true }, kinds := [], alts := [], laidByText := true, laidKinds := [.data, .data, .data, .sentinel, .sentinel, .data, .data, .data, .data, .data, .data], laidTests := true, laidLooks := .later }
def PruneSameCardSaid : Prop := Claim7.holds Tryz.pinned (.plain (OpenSpec.ofChange pruneSameSpec)) pruneSameCard

/-- THE TIED CARD OF 'clepsydrakeep.PackSame'. -/
def packSameCard : Claim7 := { stood := { row := packSameRow, standIns := [], harness := (true, "1278ae1d00f6cbe8a79214acfe04c160c65c68e814ed4a9cc5049f29f2e822fb"), looks := true }, kinds := [], alts := [], laidByText := true, laidKinds := [.data, .data, .data, .sentinel, .sentinel, .data, .data, .data, .data, .data, .data], laidTests := true, laidLooks := .later }
def PackSameCardSaid : Prop := Claim7.holds Tryz.pinned (.plain (OpenSpec.ofChange packSameSpec)) packSameCard

/-- THE SECOND FORM's CARD OF 'clepsydrakeep.ShareSame'. -/
def shareSameUptoCard : Claim7 := { stood := { row := shareSameUptoRow, standIns := [], harness := (true, "1278ae1d00f6cbe8a79214acfe04c160c65c68e814ed4a9cc5049f29f2e822fb"), looks := true }, kinds := [], alts := [], laidByText := true, laidKinds := [.data, .data, .data, .sentinel, .sentinel, .data, .data, .data, .data, .data, .data], laidTests := true, laidLooks := .later }
def ShareSameUptoCardSaid : Prop := Claim7.holds Tryz.pinned (.plain (OpenSpec.upto shareSameSpec)) shareSameUptoCard

/-- THE SECOND FORM's CARD OF 'clepsydrakeep.PruneSame'. -/
def pruneSameUptoCard : Claim7 := { stood := { row := pruneSameUptoRow, standIns := [], harness := (true, "1278ae1d00f6cbe8a79214acfe04c160c65c68e814ed4a9cc5049f29f2e822fb"), looks := true }, kinds := [], alts := [], laidByText := true, laidKinds := [.data, .data, .data, .sentinel, .sentinel, .data, .data, .data, .data, .data, .data], laidTests := true, laidLooks := .later }
def PruneSameUptoCardSaid : Prop := Claim7.holds Tryz.pinned (.plain (OpenSpec.upto pruneSameSpec)) pruneSameUptoCard

/-- THE SECOND FORM's CARD OF 'clepsydrakeep.PackSame'. -/
def packSameUptoCard : Claim7 := { stood := { row := packSameUptoRow, standIns := [], harness := (true, "1278ae1d00f6cbe8a79214acfe04c160c65c68e814ed4a9cc5049f29f2e822fb"), looks := true }, kinds := [], alts := [], laidByText := true, laidKinds := [.data, .data, .data, .sentinel, .sentinel, .data, .data, .data, .data, .data, .data], laidTests := true, laidLooks := .later }
def PackSameUptoCardSaid : Prop := Claim7.holds Tryz.pinned (.plain (OpenSpec.upto packSameSpec)) packSameUptoCard
end Rows
end Go.Proofs.YthieaobjdpfcoaaGreatDoor
