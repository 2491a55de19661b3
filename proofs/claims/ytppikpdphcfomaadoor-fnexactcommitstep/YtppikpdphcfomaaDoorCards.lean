/-
  DERIVED. GIVEN WITH THE SEED: THE CARDS: each row of YtppikpdphcfomaaDoorRows.lean that lists a variable, with what it lists TIED to the program's text (the seventh form; the later family's looks); each row that meets fmt, with fmt's text TOLD by the authors' own Lean function (tested against real Go, not proved from fmt's source: count such statements apart). THE CARD IS WHAT COUNTS. Prove the row's statement (the work); the ties are given (YtppikpdphcfomaaDoorTie.lean); close each card by the builder's one call (the guide's Derived/Test/ToyasCard.lean, 'card_holds'). Laid BY PROGRAM, IN A SANDBOX (cutbox-door.mjs). By AI agents, Wed Nov 11 2026. No macro, syntax, notation, axiom, sorry.
-/
import Derived.Test.YtppikpdphcfomaaDoorRows
import GoSem.ClaimSeven
namespace Go.Proofs.YtppikpdphcfomaaDoor
namespace Rows

/-- THE TIED CARD OF 'laws.FnExactCommitStep'. -/
def fnExactCommitStepCard : Claim7 := { stood := { row := fnExactCommitStepRow, standIns := [], harness := (true, "2a0cf0f154be4599fb92fa9ef2d7f75658494692c31660339d3f7dcdae9ad1da"), looks := true }, kinds := [], alts := [], laidByText := true, laidKinds := [.sentinel], laidTests := true, laidLooks := .later }
def FnExactCommitStepCardSaid : Prop := Claim7.holds Tryd.pinned (.plain (OpenSpec.ofChange fnExactCommitStepSpec)) fnExactCommitStepCard

/-- THE SECOND FORM's CARD OF 'laws.FnExactCommitStep'. -/
def fnExactCommitStepUptoCard : Claim7 := { stood := { row := fnExactCommitStepUptoRow, standIns := [], harness := (true, "2a0cf0f154be4599fb92fa9ef2d7f75658494692c31660339d3f7dcdae9ad1da"), looks := true }, kinds := [], alts := [], laidByText := true, laidKinds := [.sentinel], laidTests := true, laidLooks := .later }
def FnExactCommitStepUptoCardSaid : Prop := Claim7.holds Tryd.pinned (.plain (OpenSpec.upto fnExactCommitStepSpec)) fnExactCommitStepUptoCard
end Rows
end Go.Proofs.YtppikpdphcfomaaDoor
