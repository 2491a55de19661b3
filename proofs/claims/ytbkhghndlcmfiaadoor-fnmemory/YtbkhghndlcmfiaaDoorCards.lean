/-
  DERIVED. GIVEN WITH THE SEED: THE CARDS: each row of YtbkhghndlcmfiaaDoorRows.lean that lists a variable, with what it lists TIED to the program's text (the seventh form; the later family's looks); each row that meets fmt, with fmt's text TOLD by the authors' own Lean function (tested against real Go, not proved from fmt's source: count such statements apart). THE CARD IS WHAT COUNTS. Prove the row's statement (the work); the ties are given (YtbkhghndlcmfiaaDoorTie.lean); close each card by the builder's one call (the guide's Derived/Test/ToyasCard.lean, 'card_holds'). Laid BY PROGRAM, IN A SANDBOX (cutbox-door.mjs). By AI agents, Wed Nov 11 2026. No macro, syntax, notation, axiom, sorry.
-/
import Derived.Test.YtbkhghndlcmfiaaDoorRows
import GoSem.ClaimSeven
namespace Go.Proofs.YtbkhghndlcmfiaaDoor
namespace Rows

/-- THE TIED CARD OF 'laws.FnMemory'. -/
def fnMemoryCard : Claim7 := { stood := { row := fnMemoryRow, standIns := [], harness := (true, "2d1b5cc06741caff26de82b6d3ffb55d05cf79fa9a942f796be8b1fe210bcab8"), looks := true }, kinds := [], alts := [], laidByText := true, laidKinds := [.sentinel], laidTests := true, laidLooks := .later }
def FnMemoryCardSaid : Prop := Claim7.holds Tryd.pinned (.plain (OpenSpec.ofChange fnMemorySpec)) fnMemoryCard

/-- THE SECOND FORM's CARD OF 'laws.FnMemory'. -/
def fnMemoryUptoCard : Claim7 := { stood := { row := fnMemoryUptoRow, standIns := [], harness := (true, "2d1b5cc06741caff26de82b6d3ffb55d05cf79fa9a942f796be8b1fe210bcab8"), looks := true }, kinds := [], alts := [], laidByText := true, laidKinds := [.sentinel], laidTests := true, laidLooks := .later }
def FnMemoryUptoCardSaid : Prop := Claim7.holds Tryd.pinned (.plain (OpenSpec.upto fnMemorySpec)) fnMemoryUptoCard
end Rows
end Go.Proofs.YtbkhghndlcmfiaaDoor
