/-
  DERIVED. GIVEN WITH THE SEED: THE CARDS: each row of YtcohdglnobmciaaDoorRows.lean that lists a variable, with what it lists TIED to the program's text (the seventh form; the later family's looks); each row that meets fmt, with fmt's text TOLD by the authors' own Lean function (tested against real Go, not proved from fmt's source: count such statements apart). THE CARD IS WHAT COUNTS. Prove the row's statement (the work); the ties are given (YtcohdglnobmciaaDoorTie.lean); close each card by the builder's one call (the guide's Derived/Test/ToyasCard.lean, 'card_holds'). Laid BY PROGRAM, IN A SANDBOX (cutbox-door.mjs). By AI agents, Wed Nov 11 2026. No macro, syntax, notation, axiom, sorry.
-/
import Derived.Test.YtcohdglnobmciaaDoorRows
import GoSem.ClaimSeven
namespace Go.Proofs.YtcohdglnobmciaaDoor
namespace Rows

/-- THE TIED CARD OF 'laws.FnExactLoadLock'. -/
def fnExactLoadLockCard : Claim7 := { stood := { row := fnExactLoadLockRow, standIns := [], harness := (true, "b49502da9410fcb4a6610f7f266db085b1e9983da04b0ad2dfc23e653651d042"), looks := true }, kinds := [], alts := [], laidByText := true, laidKinds := [.sentinel], laidTests := true, laidLooks := .later }
def FnExactLoadLockCardSaid : Prop := Claim7.holds Tryd.pinned (.plain (OpenSpec.ofChange fnExactLoadLockSpec)) fnExactLoadLockCard

/-- THE TIED CARD OF 'laws.FnExactLoadVal'. -/
def fnExactLoadValCard : Claim7 := { stood := { row := fnExactLoadValRow, standIns := [], harness := (true, "b49502da9410fcb4a6610f7f266db085b1e9983da04b0ad2dfc23e653651d042"), looks := true }, kinds := [], alts := [], laidByText := true, laidKinds := [.sentinel], laidTests := true, laidLooks := .later }
def FnExactLoadValCardSaid : Prop := Claim7.holds Tryd.pinned (.plain (OpenSpec.ofChange fnExactLoadValSpec)) fnExactLoadValCard

/-- THE TIED CARD OF 'laws.FnExactLock'. -/
def fnExactLockCard : Claim7 := { stood := { row := fnExactLockRow, standIns := [], harness := (true, "b49502da9410fcb4a6610f7f266db085b1e9983da04b0ad2dfc23e653651d042"), looks := true }, kinds := [], alts := [], laidByText := true, laidKinds := [.sentinel], laidTests := true, laidLooks := .later }
def FnExactLockCardSaid : Prop := Claim7.holds Tryd.pinned (.plain (OpenSpec.ofChange fnExactLockSpec)) fnExactLockCard

/-- THE TIED CARD OF 'laws.FnExactStore'. -/
def fnExactStoreCard : Claim7 := { stood := { row := fnExactStoreRow, standIns := [], harness := (true, "b49502da9410fcb4a6610f7f266db085b1e9983da04b0ad2dfc23e653651d042"), looks := true }, kinds := [], alts := [], laidByText := true, laidKinds := [.sentinel], laidTests := true, laidLooks := .later }
def FnExactStoreCardSaid : Prop := Claim7.holds Tryd.pinned (.plain (OpenSpec.ofChange fnExactStoreSpec)) fnExactStoreCard

/-- THE TIED CARD OF 'laws.FnExactUnlock'. -/
def fnExactUnlockCard : Claim7 := { stood := { row := fnExactUnlockRow, standIns := [], harness := (true, "b49502da9410fcb4a6610f7f266db085b1e9983da04b0ad2dfc23e653651d042"), looks := true }, kinds := [], alts := [], laidByText := true, laidKinds := [.sentinel], laidTests := true, laidLooks := .later }
def FnExactUnlockCardSaid : Prop := Claim7.holds Tryd.pinned (.plain (OpenSpec.ofChange fnExactUnlockSpec)) fnExactUnlockCard

/-- THE TIED CARD OF 'laws.FnMemory'. -/
def fnMemoryCard : Claim7 := { stood := { row := fnMemoryRow, standIns := [], harness := (true, "b49502da9410fcb4a6610f7f266db085b1e9983da04b0ad2dfc23e653651d042"), looks := true }, kinds := [], alts := [], laidByText := true, laidKinds := [.sentinel], laidTests := true, laidLooks := .later }
def FnMemoryCardSaid : Prop := Claim7.holds Tryd.pinned (.plain (OpenSpec.ofChange fnMemorySpec)) fnMemoryCard

/-- THE SECOND FORM's CARD OF 'laws.FnExactLoadLock'. -/
def fnExactLoadLockUptoCard : Claim7 := { stood := { row := fnExactLoadLockUptoRow, standIns := [], harness := (true, "b49502da9410fcb4a6610f7f266db085b1e9983da04b0ad2dfc23e653651d042"), looks := true }, kinds := [], alts := [], laidByText := true, laidKinds := [.sentinel], laidTests := true, laidLooks := .later }
def FnExactLoadLockUptoCardSaid : Prop := Claim7.holds Tryd.pinned (.plain (OpenSpec.upto fnExactLoadLockSpec)) fnExactLoadLockUptoCard

/-- THE SECOND FORM's CARD OF 'laws.FnExactLoadVal'. -/
def fnExactLoadValUptoCard : Claim7 := { stood := { row := fnExactLoadValUptoRow, standIns := [], harness := (true, "b49502da9410fcb4a6610f7f266db085b1e9983da04b0ad2dfc23e653651d042"), looks := true }, kinds := [], alts := [], laidByText := true, laidKinds := [.sentinel], laidTests := true, laidLooks := .later }
def FnExactLoadValUptoCardSaid : Prop := Claim7.holds Tryd.pinned (.plain (OpenSpec.upto fnExactLoadValSpec)) fnExactLoadValUptoCard

/-- THE SECOND FORM's CARD OF 'laws.FnExactLock'. -/
def fnExactLockUptoCard : Claim7 := { stood := { row := fnExactLockUptoRow, standIns := [], harness := (true, "b49502da9410fcb4a6610f7f266db085b1e9983da04b0ad2dfc23e653651d042"), looks := true }, kinds := [], alts := [], laidByText := true, laidKinds := [.sentinel], laidTests := true, laidLooks := .later }
def FnExactLockUptoCardSaid : Prop := Claim7.holds Tryd.pinned (.plain (OpenSpec.upto fnExactLockSpec)) fnExactLockUptoCard

/-- THE SECOND FORM's CARD OF 'laws.FnExactStore'. -/
def fnExactStoreUptoCard : Claim7 := { stood := { row := fnExactStoreUptoRow, standIns := [], harness := (true, "b49502da9410fcb4a6610f7f266db085b1e9983da04b0ad2dfc23e653651d042"), looks := true }, kinds := [], alts := [], laidByText := true, laidKinds := [.sentinel], laidTests := true, laidLooks := .later }
def FnExactStoreUptoCardSaid : Prop := Claim7.holds Tryd.pinned (.plain (OpenSpec.upto fnExactStoreSpec)) fnExactStoreUptoCard

/-- THE SECOND FORM's CARD OF 'laws.FnExactUnlock'. -/
def fnExactUnlockUptoCard : Claim7 := { stood := { row := fnExactUnlockUptoRow, standIns := [], harness := (true, "b49502da9410fcb4a6610f7f266db085b1e9983da04b0ad2dfc23e653651d042"), looks := true }, kinds := [], alts := [], laidByText := true, laidKinds := [.sentinel], laidTests := true, laidLooks := .later }
def FnExactUnlockUptoCardSaid : Prop := Claim7.holds Tryd.pinned (.plain (OpenSpec.upto fnExactUnlockSpec)) fnExactUnlockUptoCard

/-- THE SECOND FORM's CARD OF 'laws.FnMemory'. -/
def fnMemoryUptoCard : Claim7 := { stood := { row := fnMemoryUptoRow, standIns := [], harness := (true, "b49502da9410fcb4a6610f7f266db085b1e9983da04b0ad2dfc23e653651d042"), looks := true }, kinds := [], alts := [], laidByText := true, laidKinds := [.sentinel], laidTests := true, laidLooks := .later }
def FnMemoryUptoCardSaid : Prop := Claim7.holds Tryd.pinned (.plain (OpenSpec.upto fnMemorySpec)) fnMemoryUptoCard
end Rows
end Go.Proofs.YtcohdglnobmciaaDoor
