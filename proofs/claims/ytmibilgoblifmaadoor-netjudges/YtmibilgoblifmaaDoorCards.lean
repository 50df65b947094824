/-
  DERIVED. GIVEN WITH THE SEED: THE CARDS: each row of YtmibilgoblifmaaDoorRows.lean that lists a variable, with what it lists TIED to the program's text (the seventh form; the later family's looks); each row that meets fmt, with fmt's text TOLD by the authors' own Lean function (tested against real Go, not proved from fmt's source: count such statements apart). THE CARD IS WHAT COUNTS. Prove the row's statement (the work); the ties are given (YtmibilgoblifmaaDoorTie.lean); close each card by the builder's one call (the guide's Derived/Test/ToyasCard.lean, 'card_holds'). Laid BY PROGRAM, IN A SANDBOX (cutbox-door.mjs). By AI agents, Wed Nov 11 2026. No macro, syntax, notation, axiom, sorry.
-/
import Derived.Test.YtmibilgoblifmaaDoorRows
import GoSem.ClaimSeven
namespace Go.Proofs.YtmibilgoblifmaaDoor
namespace Rows

/-- THE TIED CARD OF 'clepsydralaw.NetJudges'. -/
def netJudgesCard : Claim7 := { stood := { row := netJudgesRow, standIns := [], harness := (true, "d8d10331cff4e4adc9f1e12ec448085730943a77349c5e8a16573f9a2ce9d66a"), looks := true }, kinds := [], alts := [], laidByText := true, laidKinds := [.handle, .data], laidTests := true, laidLooks := .later }
def NetJudgesCardSaid : Prop := Claim7.holds Tryd.pinned (.plain (OpenSpec.ofChange netJudgesSpec)) netJudgesCard

/-- THE TIED CARD OF 'clepsydrakeep.NetForgets'. -/
def netForgetsCard : Claim7 := { stood := { row := netForgetsRow, standIns := [], harness := (true, "d8d10331cff4e4adc9f1e12ec448085730943a77349c5e8a16573f9a2ce9d66a"), looks := true }, kinds := [], alts := [], laidByText := true, laidKinds := [.handle], laidTests := true, laidLooks := .later }
def NetForgetsCardSaid : Prop := Claim7.holds Tryd.pinned (.plain (OpenSpec.ofChange netForgetsSpec)) netForgetsCard

/-- THE SECOND FORM's CARD OF 'clepsydralaw.NetJudges'. -/
def netJudgesUptoCard : Claim7 := { stood := { row := netJudgesUptoRow, standIns := [], harness := (true, "d8d10331cff4e4adc9f1e12ec448085730943a77349c5e8a16573f9a2ce9d66a"), looks := true }, kinds := [], alts := [], laidByText := true, laidKinds := [.handle, .data], laidTests := true, laidLooks := .later }
def NetJudgesUptoCardSaid : Prop := Claim7.holds Tryd.pinned (.plain (OpenSpec.upto netJudgesSpec)) netJudgesUptoCard

/-- THE SECOND FORM's CARD OF 'clepsydrakeep.NetForgets'. -/
def netForgetsUptoCard : Claim7 := { stood := { row := netForgetsUptoRow, standIns := [], harness := (true, "d8d10331cff4e4adc9f1e12ec448085730943a77349c5e8a16573f9a2ce9d66a"), looks := true }, kinds := [], alts := [], laidByText := true, laidKinds := [.handle], laidTests := true, laidLooks := .later }
def NetForgetsUptoCardSaid : Prop := Claim7.holds Tryd.pinned (.plain (OpenSpec.upto netForgetsSpec)) netForgetsUptoCard
end Rows
end Go.Proofs.YtmibilgoblifmaaDoor
