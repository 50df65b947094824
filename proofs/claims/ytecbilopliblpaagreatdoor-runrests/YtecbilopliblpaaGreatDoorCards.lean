/-
  DERIVED. GIVEN WITH THE SEED: THE CARDS: each row of YtecbilopliblpaaGreatDoorRows.lean that lists a variable, with what it lists TIED to the program's text (the seventh form; the later family's looks); each row that meets fmt, with fmt's text TOLD by the authors' own Lean function (tested against real Go, not proved from fmt's source: count such statements apart). THE CARD IS WHAT COUNTS. Prove the row's statement (the work); the ties are given (YtecbilopliblpaaGreatDoorTie.lean); close each card by the builder's one call (the guide's Derived/Test/ToyasCard.lean, 'card_holds'). Laid BY PROGRAM, IN A SANDBOX (cutbox-door.mjs). By AI agents, Wed Nov 11 2026. No macro, syntax, notation, axiom, sorry.
-/
import Derived.Test.YtecbilopliblpaaGreatDoorRows
import GoSem.ClaimSeven
namespace Go.Proofs.YtecbilopliblpaaGreatDoor
namespace Rows

/-- THE TIED CARD OF 'clepsydrakeep.RunAlone'. -/
def runAloneCard : Claim7 := { stood := { row := runAloneRow, standIns := [], harness := (true, "8b58c7e10a6d1dc73c83d931d1c8763d98fc382859ab592b63226c1c00505f5c"), looks := true }, kinds := [], alts := [], laidByText := true, laidKinds := [.data, .data, .data, .sentinel, .sentinel, .data, .data, .data, .data, .data, .data], laidTests := true, laidLooks := .later }
def RunAloneCardSaid : Prop := Claim7.holds Tryz.pinned (.plain (OpenSpec.ofChange runAloneSpec)) runAloneCard

/-- THE TIED CARD OF 'clepsydrakeep.RunBeside'. -/
def runBesideCard : Claim7 := { stood := { row := runBesideRow, standIns := [], harness := (true, "8b58c7e10a6d1dc73c83d931d1c8763d98fc382859ab592b63226c1c00505f5c"), looks := true }, kinds := [], alts := [], laidByText := true, laidKinds := [.data, .data, .data, .sentinel, .sentinel, .data, .data, .data, .data, .data, .data], laidTests := true, laidLooks := .later }
def RunBesideCardSaid : Prop := Claim7.holds Tryz.pinned (.plain (OpenSpec.ofChange runBesideSpec)) runBesideCard

/-- THE TIED CARD OF 'clepsydrakeep.RunRests'. -/
def runRestsCard : Claim7 := { stood := { row := runRestsRow, standIns := [], harness := (true, "8b58c7e10a6d1dc73c83d931d1c8763d98fc382859ab592b63226c1c00505f5c"), looks := true }, kinds := [], alts := [], laidByText := true, laidKinds := [.data, .data, .data, .sentinel, .sentinel, .data, .data, .data, .data, .data, .data], laidTests := true, laidLooks := .later }
def RunRestsCardSaid : Prop := Claim7.holds Tryz.pinned (.plain (OpenSpec.ofChange runRestsSpec)) runRestsCard

/-- THE TIED CARD OF 'clepsydrakeep.RunCounts'. -/
def runCountsCard : Claim7 := { stood := { row := runCountsRow, standIns := [], harness := (true, "8b58c7e10a6d1dc73c83d931d1c8763d98fc382859ab592b63226c1c00505f5c"), looks := true }, kinds := [], alts := [], laidByText := true, laidKinds := [.data, .data, .data, .sentinel, .sentinel, .data, .data, .data, .data, .data, .data], laidTests := true, laidLooks := .later }
def RunCountsCardSaid : Prop := Claim7.holds Tryz.pinned (.plain (OpenSpec.ofChange runCountsSpec)) runCountsCard

/-- THE TIED CARD OF 'clepsydrakeep.RunOrders'. -/
def runOrdersCard : Claim7 := { stood := { row := runOrdersRow, standIns := [], harness := (true, "8b58c7e10a6d1dc73c83d931d1c8763d98fc382859ab592b63226c1c00505f5c"), looks := true }, kinds := [], alts := [], laidByText := true, laidKinds := [.data, .data, .data, .sentinel, .sentinel, .data, .data, .data, .data, .data, .data], laidTests := true, laidLooks := .later }
def RunOrdersCardSaid : Prop := Claim7.holds Tryz.pinned (.plain (OpenSpec.ofChange runOrdersSpec)) runOrdersCard

/-- THE TIED CARD OF 'clepsydrakeep.RunJoins'. -/
def runJoinsCard : Claim7 := { stood := { row := runJoinsRow, standIns := [], harness := (true, "8b58c7e10a6d1dc73c83d931d1c8763d98fc382859ab592b63226c1c00505f5c"), looks := true }, kinds := [], alts := [], laidByText := true, laidKinds := [.data, .data, .data, .sentinel, .sentinel, .data, .data, .data, .data, .data, .data], laidTests := true, laidLooks := .later }
def RunJoinsCardSaid : Prop := Claim7.holds Tryz.pinned (.plain (OpenSpec.ofChange runJoinsSpec)) runJoinsCard

/-- THE TIED CARD OF 'clepsydralaw.RunTicks'. -/
def runTicksCard : Claim7 := { stood := { row := runTicksRow, standIns := [], harness := (true, "8b58c7e10a6d1dc73c83d931d1c8763d98fc382859ab592b63226c1c00505f5c"), looks := true }, kinds := [], alts := [], laidByText := true, laidKinds := [.data, .data, .data, .handle, .sentinel, .sentinel, .data, .data, .data, .data, .data, .data, .data], laidTests := true, laidLooks := .later }
def RunTicksCardSaid : Prop := Claim7.holds Tryz.pinned (.plain (OpenSpec.ofChange runTicksSpec)) runTicksCard

/-- THE TIED CARD OF 'clepsydrakeep.RunPrinted'. -/
def runPrintedCard : Claim7 := { stood := { row := runPrintedRow, standIns := [], harness := (true, "8b58c7e10a6d1dc73c83d931d1c8763d98fc382859ab592b63226c1c00505f5c"), looks := true }, kinds := [], alts := [], laidByText := true, laidKinds := [.data, .data, .data, .sentinel, .sentinel, .data, .data, .data, .data, .data, .data], laidTests := true, laidLooks := .later }
def RunPrintedCardSaid : Prop := Claim7.holds Tryz.pinned (.plain (OpenSpec.ofChange runPrintedSpec)) runPrintedCard

/-- THE SECOND FORM's CARD OF 'clepsydrakeep.RunAlone'. -/
def runAloneUptoCard : Claim7 := { stood := { row := runAloneUptoRow, standIns := [], harness := (true, "8b58c7e10a6d1dc73c83d931d1c8763d98fc382859ab592b63226c1c00505f5c"), looks := true }, kinds := [], alts := [], laidByText := true, laidKinds := [.data, .data, .data, .sentinel, .sentinel, .data, .data, .data, .data, .data, .data], laidTests := true, laidLooks := .later }
def RunAloneUptoCardSaid : Prop := Claim7.holds Tryz.pinned (.plain (OpenSpec.upto runAloneSpec)) runAloneUptoCard

/-- THE SECOND FORM's CARD OF 'clepsydrakeep.RunBeside'. -/
def runBesideUptoCard : Claim7 := { stood := { row := runBesideUptoRow, standIns := [], harness := (true, "8b58c7e10a6d1dc73c83d931d1c8763d98fc382859ab592b63226c1c00505f5c"), looks := true }, kinds := [], alts := [], laidByText := true, laidKinds := [.data, .data, .data, .sentinel, .sentinel, .data, .data, .data, .data, .data, .data], laidTests := true, laidLooks := .later }
def RunBesideUptoCardSaid : Prop := Claim7.holds Tryz.pinned (.plain (OpenSpec.upto runBesideSpec)) runBesideUptoCard

/-- THE SECOND FORM's CARD OF 'clepsydrakeep.RunRests'. -/
def runRestsUptoCard : Claim7 := { stood := { row := runRestsUptoRow, standIns := [], harness := (true, "8b58c7e10a6d1dc73c83d931d1c8763d98fc382859ab592b63226c1c00505f5c"), looks := true }, kinds := [], alts := [], laidByText := true, laidKinds := [.data, .data, .data, .sentinel, .sentinel, .data, .data, .data, .data, .data, .data], laidTests := true, laidLooks := .later }
def RunRestsUptoCardSaid : Prop := Claim7.holds Tryz.pinned (.plain (OpenSpec.upto runRestsSpec)) runRestsUptoCard

/-- THE SECOND FORM's CARD OF 'clepsydrakeep.RunCounts'. -/
def runCountsUptoCard : Claim7 := { stood := { row := runCountsUptoRow, standIns := [], harness := (true, "8b58c7e10a6d1dc73c83d931d1c8763d98fc382859ab592b63226c1c00505f5c"), looks := true }, kinds := [], alts := [], laidByText := true, laidKinds := [.data, .data, .data, .sentinel, .sentinel, .data, .data, .data, .data, .data, .data], laidTests := true, laidLooks := .later }
def RunCountsUptoCardSaid : Prop := Claim7.holds Tryz.pinned (.plain (OpenSpec.upto runCountsSpec)) runCountsUptoCard

/-- THE SECOND FORM's CARD OF 'clepsydrakeep.RunOrders'. -/
def runOrdersUptoCard : Claim7 := { stood := { row := runOrdersUptoRow, standIns := [], harness := (true, "8b58c7e10a6d1dc73c83d931d1c8763d98fc382859ab592b63226c1c00505f5c"), looks := true }, kinds := [], alts := [], laidByText := true, laidKinds := [.data, .data, .data, .sentinel, .sentinel, .data, .data, .data, .data, .data, .data], laidTests := true, laidLooks := .later }
def RunOrdersUptoCardSaid : Prop := Claim7.holds Tryz.pinned (.plain (OpenSpec.upto runOrdersSpec)) runOrdersUptoCard

/-- THE SECOND FORM's CARD OF 'clepsydrakeep.RunJoins'. -/
def runJoinsUptoCard : Claim7 := { stood := { row := runJoinsUptoRow, standIns := [], harness := (true, "8b58c7e10a6d1dc73c83d931d1c8763d98fc382859ab592b63226c1c00505f5c"), looks := true }, kinds := [], alts := [], laidByText := true, laidKinds := [.data, .data, .data, .sentinel, .sentinel, .data, .data, .data, .data, .data, .data], laidTests := true, laidLooks := .later }
def RunJoinsUptoCardSaid : Prop := Claim7.holds Tryz.pinned (.plain (OpenSpec.upto runJoinsSpec)) runJoinsUptoCard

/-- THE SECOND FORM's CARD OF 'clepsydralaw.RunTicks'. -/
def runTicksUptoCard : Claim7 := { stood := { row := runTicksUptoRow, standIns := [], harness := (true, "8b58c7e10a6d1dc73c83d931d1c8763d98fc382859ab592b63226c1c00505f5c"), looks := true }, kinds := [], alts := [], laidByText := true, laidKinds := [.data, .data, .data, .handle, .sentinel, .sentinel, .data, .data, .data, .data, .data, .data, .data], laidTests := true, laidLooks := .later }
def RunTicksUptoCardSaid : Prop := Claim7.holds Tryz.pinned (.plain (OpenSpec.upto runTicksSpec)) runTicksUptoCard

/-- THE SECOND FORM's CARD OF 'clepsydrakeep.RunPrinted'. -/
def runPrintedUptoCard : Claim7 := { stood := { row := runPrintedUptoRow, standIns := [], harness := (true, "8b58c7e10a6d1dc73c83d931d1c8763d98fc382859ab592b63226c1c00505f5c"), looks := true }, kinds := [], alts := [], laidByText := true, laidKinds := [.data, .data, .data, .sentinel, .sentinel, .data, .data, .data, .data, .data, .data], laidTests := true, laidLooks := .later }
def RunPrintedUptoCardSaid : Prop := Claim7.holds Tryz.pinned (.plain (OpenSpec.upto runPrintedSpec)) runPrintedUptoCard
end Rows
end Go.Proofs.YtecbilopliblpaaGreatDoor
