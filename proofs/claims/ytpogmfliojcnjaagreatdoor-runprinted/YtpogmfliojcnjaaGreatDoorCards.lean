/-
  DERIVED. GIVEN WITH THE SEED: THE CARDS: each row of YtpogmfliojcnjaaGreatDoorRows.lean that lists a variable, with what it lists TIED to the program's text (the seventh form; the later family's looks); each row that meets fmt, with fmt's text TOLD by the authors' own Lean function (tested against real Go, not proved from fmt's source: count such statements apart). THE CARD IS WHAT COUNTS. Prove the row's statement (the work); the ties are given (YtpogmfliojcnjaaGreatDoorTie.lean); close each card by the builder's one call (the guide's Derived/Test/ToyasCard.lean, 'card_holds'). Laid BY PROGRAM, IN A SANDBOX (cutbox-door.mjs). By AI agents, Wed Nov 11 2026. No macro, syntax, notation, axiom, sorry.
-/
import Derived.Test.YtpogmfliojcnjaaGreatDoorRows
import GoSem.ClaimSeven
namespace Go.Proofs.YtpogmfliojcnjaaGreatDoor
namespace Rows

/-- THE TIED CARD OF 'clepsydrakeep.RunBeside'. -/
def runBesideCard : Claim7 := { stood := { row := runBesideRow, standIns := [], harness := (true, "5942fe57def1d51063b2be3a557a54b600a132ff86a905f7ff624b47b9d9542b"), looks := true }, kinds := [], alts := [], laidByText := true, laidKinds := [.data, .data, .data, .sentinel, .sentinel, .data, .data, .data, .data, .data, .data], laidTests := true, laidLooks := .later }
def RunBesideCardSaid : Prop := Claim7.holds Tryz.pinned (.plain (OpenSpec.ofChange runBesideSpec)) runBesideCard

/-- THE TIED CARD OF 'clepsydralaw.RunTicks'. -/
def runTicksCard : Claim7 := { stood := { row := runTicksRow, standIns := [], harness := (true, "5942fe57def1d51063b2be3a557a54b600a132ff86a905f7ff624b47b9d9542b"), looks := true }, kinds := [], alts := [], laidByText := true, laidKinds := [.data, .data, .data, .handle, .sentinel, .sentinel, .data, .data, .data, .data, .data, .data, .data], laidTests := true, laidLooks := .later }
def RunTicksCardSaid : Prop := Claim7.holds Tryz.pinned (.plain (OpenSpec.ofChange runTicksSpec)) runTicksCard

/-- THE TIED CARD OF 'clepsydrakeep.RunPrinted'. -/
def runPrintedCard : Claim7 := { stood := { row := runPrintedRow, standIns := [], harness := (true, "5942fe57def1d51063b2be3a557a54b600a132ff86a905f7ff624b47b9d9542b"), looks := true }, kinds := [], alts := [], laidByText := true, laidKinds := [.data, .data, .data, .sentinel, .sentinel, .data, .data, .data, .data, .data, .data], laidTests := true, laidLooks := .later }
def RunPrintedCardSaid : Prop := Claim7.holds Tryz.pinned (.plain (OpenSpec.ofChange runPrintedSpec)) runPrintedCard

/-- THE SECOND FORM's CARD OF 'clepsydrakeep.RunBeside'. -/
def runBesideUptoCard : Claim7 := { stood := { row := runBesideUptoRow, standIns := [], harness := (true, "5942fe57def1d51063b2be3a557a54b600a132ff86a905f7ff624b47b9d9542b"), looks := true }, kinds := [], alts := [], laidByText := true, laidKinds := [.data, .data, .data, .sentinel, .sentinel, .data, .data, .data, .data, .data, .data], laidTests := true, laidLooks := .later }
def RunBesideUptoCardSaid : Prop := Claim7.holds Tryz.pinned (.plain (OpenSpec.upto runBesideSpec)) runBesideUptoCard

/-- THE SECOND FORM's CARD OF 'clepsydralaw.RunTicks'. -/
def runTicksUptoCard : Claim7 := { stood := { row := runTicksUptoRow, standIns := [], harness := (true, "5942fe57def1d51063b2be3a557a54b600a132ff86a905f7ff624b47b9d9542b"), looks := true }, kinds := [], alts := [], laidByText := true, laidKinds := [.data, .data, .data, .handle, .sentinel, .sentinel, .data, .data, .data, .data, .data, .data, .data], laidTests := true, laidLooks := .later }
def RunTicksUptoCardSaid : Prop := Claim7.holds Tryz.pinned (.plain (OpenSpec.upto runTicksSpec)) runTicksUptoCard

/-- THE SECOND FORM's CARD OF 'clepsydrakeep.RunPrinted'. -/
def runPrintedUptoCard : Claim7 := { stood := { row := runPrintedUptoRow, standIns := [], harness := (true, "5942fe57def1d51063b2be3a557a54b600a132ff86a905f7ff624b47b9d9542b"), looks := true }, kinds := [], alts := [], laidByText := true, laidKinds := [.data, .data, .data, .sentinel, .sentinel, .data, .data, .data, .data, .data, .data], laidTests := true, laidLooks := .later }
def RunPrintedUptoCardSaid : Prop := Claim7.holds Tryz.pinned (.plain (OpenSpec.upto runPrintedSpec)) runPrintedUptoCard
end Rows
end Go.Proofs.YtpogmfliojcnjaaGreatDoor
