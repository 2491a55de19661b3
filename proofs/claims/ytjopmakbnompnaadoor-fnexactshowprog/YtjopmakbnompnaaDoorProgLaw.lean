/- The walks of the laws of chapter 5 over programs, given what both functions answer. -/
import Derived.Test.YtjopmakbnompnaaDoorProgCmp
import Derived.Deep.RegionHeld3
set_option linter.unusedVariables false
namespace Go.Proofs.YtjopmakbnompnaaDoor
open Go.RowKit
namespace Ops
open Bas Flat

theorem undrewP {w w' : World} (h : Below w.drew.heap.size w.drew w') : Below w.heap.size w w' := ⟨h.os, h.tape, h.output, h.size, h.block⟩
end Ops
end Go.Proofs.YtjopmakbnompnaaDoor
