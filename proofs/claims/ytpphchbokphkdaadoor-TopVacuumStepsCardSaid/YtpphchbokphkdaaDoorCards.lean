/-
  DERIVED. GIVEN WITH THE SEED: THE CARDS: each row of YtpphchbokphkdaaDoorRows.lean that lists a variable, with what it lists TIED to the program's text (the seventh form; the later family's looks); each row that meets fmt, with fmt's text TOLD by the authors' own Lean function (tested against real Go, not proved from fmt's source: count such statements apart). THE CARD IS WHAT COUNTS. Prove the row's statement (the work); the ties are given (YtpphchbokphkdaaDoorTie.lean); close each card by the builder's one call (the guide's Derived/Test/ToyasCard.lean, 'card_holds'). Laid BY PROGRAM, IN A SANDBOX (cutbox-door.mjs). By AI agents, Wed Nov 11 2026. No macro, syntax, notation, axiom, sorry.
-/
import Derived.Test.YtpphchbokphkdaaDoorRows
import GoSem.ClaimSeven
namespace Go.Proofs.YtpphchbokphkdaaDoor
namespace Rows

/-- THE TIED CARD OF 'spiletop.TopVacuumSteps'. -/
def topVacuumStepsCard : Claim7 := { stood := { row := topVacuumStepsRow, standIns := [], harness := (true, "40c22e7c686a4dec9b47a73055924b7621833278e2a7f1674e8171905c00880b"), looks := false }, kinds := [], alts := [], laidByText := true, laidKinds := [.data], laidTests := true, laidLooks := .later }
def TopVacuumStepsCardSaid : Prop := Claim7.holds Tryd.pinned (.plain (OpenSpec.ofChange topVacuumStepsSpec)) topVacuumStepsCard

/-- THE SECOND FORM's CARD OF 'spiletop.TopVacuumSteps'. -/
def topVacuumStepsUptoCard : Claim7 := { stood := { row := topVacuumStepsUptoRow, standIns := [], harness := (true, "40c22e7c686a4dec9b47a73055924b7621833278e2a7f1674e8171905c00880b"), looks := false }, kinds := [], alts := [], laidByText := true, laidKinds := [.data], laidTests := true, laidLooks := .later }
def TopVacuumStepsUptoCardSaid : Prop := Claim7.holds Tryd.pinned (.plain (OpenSpec.upto topVacuumStepsSpec)) topVacuumStepsUptoCard
end Rows
end Go.Proofs.YtpphchbokphkdaaDoor
