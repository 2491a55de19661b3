/-
  NARROWER THAN 'FOR EVERY INPUT', by the rows' own cells (each row's printed sentence says how): FnExactLoadLock: ifaces, laid · FnExactLoadVal: ifaces, laid · FnExactLock: ifaces, laid · FnExactStore: ifaces, laid · FnExactUnlock: ifaces, laid · FnMemory: ifaces, laid.
  DERIVED. THE GIVEN ROWS OF THIS SEAT. 6 by the template 'for every input the law returns true; each argument reads behind the call as it read before'; 0 by the template 'total and deterministic' (their statements: YtcohdglnobmciaaDoorTotals.lean).
  GIVEN WITH THE SEED: the statements are not yours to turn. If you find one false, say at which input.
  Laid BY PROGRAM, IN A SANDBOX (cutbox-rows.mjs): the forced cells as the released guide's own fill.sh prints them over the translation 84fe55bf13fc5a48… (all of the seat's roots in one cut). By AI agents, Wed Nov 11 2026. No macro, syntax, notation, axiom, sorry.
-/
import Derived.Test.YtcohdglnobmciaaDoorChecked
import GoSem.Claim
import GoSem.ClaimJoined
import GoSem.ClaimMapViews
import Derived.JoinedTies
import Derived.KernelRfl
namespace Go.Proofs.YtcohdglnobmciaaDoor
/- THE CELL 'sum', in the pinned program and in every row, IS THE sha256 OF THE DUMP (.gsa) THAT YtcohdglnobmciaaDoorProg.lean LOADS. Nothing in Lean hashes anything: it is a label: what it is worth is what the hold of that sum in a sandbox is worth. -/
noncomputable def Tryd.pinned : Pinned := { name := "ytcohdglnobmciaadoor", sum := "84fe55bf13fc5a485fbf071e9c64567ceb99bd2105c3bbbd1a998104b68c8f97", checked := Tryd.checked }
namespace Rows
def none {H : Type} : Left H := { results := [], args := [] }

/- WHAT THE LISTED PACKAGE-LEVEL VARIABLES READ AS WHEN THE CALL BEGINS. Each datum BY PROGRAM (the guide's laid-datum.mjs) off the statement by which the dump's own 'gosem.cut.vars' lays the variable. In a bare row this is a premise. The card (YtcohdglnobmciaaDoorCards.lean) ties it to the program's text. -/
def laid_loop_example_g01277_impl_errCannot {H : Type} : DataW H := .iface "*errors.errorString" (.ptr (.agg [.lit (.string [116, 104, 105, 115, 32, 99, 97, 110, 110, 111, 116, 32, 98, 101, 32, 100, 111, 110, 101, 32, 116, 111, 32, 116, 104, 101, 32, 99, 101, 108, 108])]))

/-- 'laws.FnExactLoadLock': WHATEVER THE INPUT: true; the input reads as it did. -/
def fnExactLoadLockSpec : ChangeSpec := { name := "fnExactLoadLock", vars := ["loop.example/g01277/impl.errCannot"], fn := fun _ => fun
  | [d1, d2, g1] => { results := [.lit (.bool true)], args := [d1, d2], vars := [g1] }
  | _ => none }
def fnExactLoadLockRow : OpenClaim := { program := "ytcohdglnobmciaadoor", sum := "84fe55bf13fc5a485fbf071e9c64567ceb99bd2105c3bbbd1a998104b68c8f97", func := "loop.example/g01277/laws.FnExactLoadLock", spec := "fnExactLoadLock", inPlace := ["internal/reflectlite.TypeOf"], unfollowed := true, recurses := true, named := ["loop.example/g01277/impl.errCannot"], ifaces := true, apart := false, laid := [("loop.example/g01277/impl.errCannot", laid_loop_example_g01277_impl_errCannot)] }
def FnExactLoadLockSaid : Prop := fnExactLoadLockRow.holds Tryd.pinned (OpenSpec.ofChange fnExactLoadLockSpec)

/-- ITS FALSE NEIGHBOUR: 'it returns false'. Refute it at one input. -/
def fnExactLoadLockWrong : ChangeSpec := { name := "fnExactLoadLock", vars := ["loop.example/g01277/impl.errCannot"], fn := fun _ => fun
  | [d1, d2, g1] => { results := [.lit (.bool false)], args := [d1, d2], vars := [g1] }
  | _ => none }
def FnExactLoadLockWrongFalsely : Prop := fnExactLoadLockRow.holds Tryd.pinned (OpenSpec.ofChange fnExactLoadLockWrong)

/-- 'laws.FnExactLoadVal': WHATEVER THE INPUT: true; the input reads as it did. -/
def fnExactLoadValSpec : ChangeSpec := { name := "fnExactLoadVal", vars := ["loop.example/g01277/impl.errCannot"], fn := fun _ => fun
  | [d1, d2, g1] => { results := [.lit (.bool true)], args := [d1, d2], vars := [g1] }
  | _ => none }
def fnExactLoadValRow : OpenClaim := { program := "ytcohdglnobmciaadoor", sum := "84fe55bf13fc5a485fbf071e9c64567ceb99bd2105c3bbbd1a998104b68c8f97", func := "loop.example/g01277/laws.FnExactLoadVal", spec := "fnExactLoadVal", inPlace := ["internal/reflectlite.TypeOf"], unfollowed := true, recurses := true, named := ["loop.example/g01277/impl.errCannot"], ifaces := true, apart := false, laid := [("loop.example/g01277/impl.errCannot", laid_loop_example_g01277_impl_errCannot)] }
def FnExactLoadValSaid : Prop := fnExactLoadValRow.holds Tryd.pinned (OpenSpec.ofChange fnExactLoadValSpec)

/-- ITS FALSE NEIGHBOUR: 'it returns false'. Refute it at one input. -/
def fnExactLoadValWrong : ChangeSpec := { name := "fnExactLoadVal", vars := ["loop.example/g01277/impl.errCannot"], fn := fun _ => fun
  | [d1, d2, g1] => { results := [.lit (.bool false)], args := [d1, d2], vars := [g1] }
  | _ => none }
def FnExactLoadValWrongFalsely : Prop := fnExactLoadValRow.holds Tryd.pinned (OpenSpec.ofChange fnExactLoadValWrong)

/-- 'laws.FnExactLock': WHATEVER THE INPUT: true; the input reads as it did. -/
def fnExactLockSpec : ChangeSpec := { name := "fnExactLock", vars := ["loop.example/g01277/impl.errCannot"], fn := fun _ => fun
  | [d1, d2, d3, g1] => { results := [.lit (.bool true)], args := [d1, d2, d3], vars := [g1] }
  | _ => none }
def fnExactLockRow : OpenClaim := { program := "ytcohdglnobmciaadoor", sum := "84fe55bf13fc5a485fbf071e9c64567ceb99bd2105c3bbbd1a998104b68c8f97", func := "loop.example/g01277/laws.FnExactLock", spec := "fnExactLock", inPlace := ["internal/reflectlite.TypeOf"], unfollowed := true, recurses := true, named := ["loop.example/g01277/impl.errCannot"], ifaces := true, apart := false, laid := [("loop.example/g01277/impl.errCannot", laid_loop_example_g01277_impl_errCannot)] }
def FnExactLockSaid : Prop := fnExactLockRow.holds Tryd.pinned (OpenSpec.ofChange fnExactLockSpec)

/-- ITS FALSE NEIGHBOUR: 'it returns false'. Refute it at one input. -/
def fnExactLockWrong : ChangeSpec := { name := "fnExactLock", vars := ["loop.example/g01277/impl.errCannot"], fn := fun _ => fun
  | [d1, d2, d3, g1] => { results := [.lit (.bool false)], args := [d1, d2, d3], vars := [g1] }
  | _ => none }
def FnExactLockWrongFalsely : Prop := fnExactLockRow.holds Tryd.pinned (OpenSpec.ofChange fnExactLockWrong)

/-- 'laws.FnExactStore': WHATEVER THE INPUT: true; the input reads as it did. -/
def fnExactStoreSpec : ChangeSpec := { name := "fnExactStore", vars := ["loop.example/g01277/impl.errCannot"], fn := fun _ => fun
  | [d1, d2, d3, d4, g1] => { results := [.lit (.bool true)], args := [d1, d2, d3, d4], vars := [g1] }
  | _ => none }
def fnExactStoreRow : OpenClaim := { program := "ytcohdglnobmciaadoor", sum := "84fe55bf13fc5a485fbf071e9c64567ceb99bd2105c3bbbd1a998104b68c8f97", func := "loop.example/g01277/laws.FnExactStore", spec := "fnExactStore", inPlace := ["internal/reflectlite.TypeOf"], unfollowed := true, recurses := true, named := ["loop.example/g01277/impl.errCannot"], ifaces := true, apart := false, laid := [("loop.example/g01277/impl.errCannot", laid_loop_example_g01277_impl_errCannot)] }
def FnExactStoreSaid : Prop := fnExactStoreRow.holds Tryd.pinned (OpenSpec.ofChange fnExactStoreSpec)

/-- ITS FALSE NEIGHBOUR: 'it returns false'. Refute it at one input. -/
def fnExactStoreWrong : ChangeSpec := { name := "fnExactStore", vars := ["loop.example/g01277/impl.errCannot"], fn := fun _ => fun
  | [d1, d2, d3, d4, g1] => { results := [.lit (.bool false)], args := [d1, d2, d3, d4], vars := [g1] }
  | _ => none }
def FnExactStoreWrongFalsely : Prop := fnExactStoreRow.holds Tryd.pinned (OpenSpec.ofChange fnExactStoreWrong)

/-- 'laws.FnExactUnlock': WHATEVER THE INPUT: true; the input reads as it did. -/
def fnExactUnlockSpec : ChangeSpec := { name := "fnExactUnlock", vars := ["loop.example/g01277/impl.errCannot"], fn := fun _ => fun
  | [d1, d2, d3, d4, g1] => { results := [.lit (.bool true)], args := [d1, d2, d3, d4], vars := [g1] }
  | _ => none }
def fnExactUnlockRow : OpenClaim := { program := "ytcohdglnobmciaadoor", sum := "84fe55bf13fc5a485fbf071e9c64567ceb99bd2105c3bbbd1a998104b68c8f97", func := "loop.example/g01277/laws.FnExactUnlock", spec := "fnExactUnlock", inPlace := ["internal/reflectlite.TypeOf"], unfollowed := true, recurses := true, named := ["loop.example/g01277/impl.errCannot"], ifaces := true, apart := false, laid := [("loop.example/g01277/impl.errCannot", laid_loop_example_g01277_impl_errCannot)] }
def FnExactUnlockSaid : Prop := fnExactUnlockRow.holds Tryd.pinned (OpenSpec.ofChange fnExactUnlockSpec)

/-- ITS FALSE NEIGHBOUR: 'it returns false'. Refute it at one input. -/
def fnExactUnlockWrong : ChangeSpec := { name := "fnExactUnlock", vars := ["loop.example/g01277/impl.errCannot"], fn := fun _ => fun
  | [d1, d2, d3, d4, g1] => { results := [.lit (.bool false)], args := [d1, d2, d3, d4], vars := [g1] }
  | _ => none }
def FnExactUnlockWrongFalsely : Prop := fnExactUnlockRow.holds Tryd.pinned (OpenSpec.ofChange fnExactUnlockWrong)

/-- 'laws.FnMemory': WHATEVER THE INPUT: true; the input reads as it did. -/
def fnMemorySpec : ChangeSpec := { name := "fnMemory", vars := ["loop.example/g01277/impl.errCannot"], fn := fun _ => fun
  | [d, g1] => { results := [.lit (.bool true)], args := [d], vars := [g1] }
  | _ => none }
def fnMemoryRow : OpenClaim := { program := "ytcohdglnobmciaadoor", sum := "84fe55bf13fc5a485fbf071e9c64567ceb99bd2105c3bbbd1a998104b68c8f97", func := "loop.example/g01277/laws.FnMemory", spec := "fnMemory", inPlace := ["internal/reflectlite.TypeOf"], unfollowed := true, recurses := true, named := ["loop.example/g01277/impl.errCannot"], ifaces := true, apart := false, laid := [("loop.example/g01277/impl.errCannot", laid_loop_example_g01277_impl_errCannot)] }
def FnMemorySaid : Prop := fnMemoryRow.holds Tryd.pinned (OpenSpec.ofChange fnMemorySpec)

/-- ITS FALSE NEIGHBOUR: 'it returns false'. Refute it at one input. -/
def fnMemoryWrong : ChangeSpec := { name := "fnMemory", vars := ["loop.example/g01277/impl.errCannot"], fn := fun _ => fun
  | [d, g1] => { results := [.lit (.bool false)], args := [d], vars := [g1] }
  | _ => none }
def FnMemoryWrongFalsely : Prop := fnMemoryRow.holds Tryd.pinned (OpenSpec.ofChange fnMemoryWrong)

/- THE SECOND FORM. 'bulk': how many values and letters a reading holds, each counted each time it is reached (what is shared counts as often as it is met; a slice's spare places count too). A statement '..UptoSaid' is the law's where the arguments, and the package variables that the reading takes, are together of bulk at most 1048576: NARROWER than '..Said'. Prove '..Said' where nothing that the law and all that it calls make is longer than what came in: it says more and counts as full. Else prove '..UptoSaid'. A law counts once. -/
mutual
def uptoBulk {H : Type} : DataW H → Nat
  | .lit (.string bytes) => bytes.length + 1
  | .lit _ => 1
  | .nil => 1
  | .ptr d => uptoBulk d + 1
  | .slice elems spare => uptoBulkAll elems + uptoBulkAll spare + 1
  | .agg parts => uptoBulkAll parts + 1
  | .iface _ d => uptoBulk d + 1
  | .map entries => uptoBulkEntries entries + 1
  | .held _ => 1
def uptoBulkAll {H : Type} : List (DataW H) → Nat
  | [] => 0
  | d :: r => uptoBulk d + uptoBulkAll r
def uptoBulkEntries {H : Type} : List (Lit × DataW H) → Nat
  | [] => 0
  | x :: r => uptoBulkEntry x + uptoBulkEntries r
def uptoBulkEntry {H : Type} : Lit × DataW H → Nat
  | (.string bytes, d) => bytes.length + uptoBulk d + 1
  | (_, d) => uptoBulk d + 1
 end
def uptoSmall : (H : Type) → List (DataW H) → Bool := fun _ ds => decide (uptoBulkAll ds ≤ 1048576)
def OpenSpec.upto (s : _root_.Go.ChangeSpec) : _root_.Go.OpenSpec := { _root_.Go.OpenSpec.ofChange s with cond := some uptoSmall }

/-- 'laws.FnExactLoadLock', WHERE WHAT IT READS IS OF BULK AT MOST 1048576: true; the input reads as it did. -/
def fnExactLoadLockUptoRow : OpenClaim := { program := "ytcohdglnobmciaadoor", sum := "84fe55bf13fc5a485fbf071e9c64567ceb99bd2105c3bbbd1a998104b68c8f97", func := "loop.example/g01277/laws.FnExactLoadLock", spec := "fnExactLoadLock", inPlace := ["internal/reflectlite.TypeOf"], unfollowed := true, recurses := true, named := ["loop.example/g01277/impl.errCannot"], ifaces := true, apart := false, laid := [("loop.example/g01277/impl.errCannot", laid_loop_example_g01277_impl_errCannot)], narrowed := true }
def FnExactLoadLockUptoSaid : Prop := fnExactLoadLockUptoRow.holds Tryd.pinned (OpenSpec.upto fnExactLoadLockSpec)

/-- 'laws.FnExactLoadVal', WHERE WHAT IT READS IS OF BULK AT MOST 1048576: true; the input reads as it did. -/
def fnExactLoadValUptoRow : OpenClaim := { program := "ytcohdglnobmciaadoor", sum := "84fe55bf13fc5a485fbf071e9c64567ceb99bd2105c3bbbd1a998104b68c8f97", func := "loop.example/g01277/laws.FnExactLoadVal", spec := "fnExactLoadVal", inPlace := ["internal/reflectlite.TypeOf"], unfollowed := true, recurses := true, named := ["loop.example/g01277/impl.errCannot"], ifaces := true, apart := false, laid := [("loop.example/g01277/impl.errCannot", laid_loop_example_g01277_impl_errCannot)], narrowed := true }
def FnExactLoadValUptoSaid : Prop := fnExactLoadValUptoRow.holds Tryd.pinned (OpenSpec.upto fnExactLoadValSpec)

/-- 'laws.FnExactLock', WHERE WHAT IT READS IS OF BULK AT MOST 1048576: true; the input reads as it did. -/
def fnExactLockUptoRow : OpenClaim := { program := "ytcohdglnobmciaadoor", sum := "84fe55bf13fc5a485fbf071e9c64567ceb99bd2105c3bbbd1a998104b68c8f97", func := "loop.example/g01277/laws.FnExactLock", spec := "fnExactLock", inPlace := ["internal/reflectlite.TypeOf"], unfollowed := true, recurses := true, named := ["loop.example/g01277/impl.errCannot"], ifaces := true, apart := false, laid := [("loop.example/g01277/impl.errCannot", laid_loop_example_g01277_impl_errCannot)], narrowed := true }
def FnExactLockUptoSaid : Prop := fnExactLockUptoRow.holds Tryd.pinned (OpenSpec.upto fnExactLockSpec)

/-- 'laws.FnExactStore', WHERE WHAT IT READS IS OF BULK AT MOST 1048576: true; the input reads as it did. -/
def fnExactStoreUptoRow : OpenClaim := { program := "ytcohdglnobmciaadoor", sum := "84fe55bf13fc5a485fbf071e9c64567ceb99bd2105c3bbbd1a998104b68c8f97", func := "loop.example/g01277/laws.FnExactStore", spec := "fnExactStore", inPlace := ["internal/reflectlite.TypeOf"], unfollowed := true, recurses := true, named := ["loop.example/g01277/impl.errCannot"], ifaces := true, apart := false, laid := [("loop.example/g01277/impl.errCannot", laid_loop_example_g01277_impl_errCannot)], narrowed := true }
def FnExactStoreUptoSaid : Prop := fnExactStoreUptoRow.holds Tryd.pinned (OpenSpec.upto fnExactStoreSpec)

/-- 'laws.FnExactUnlock', WHERE WHAT IT READS IS OF BULK AT MOST 1048576: true; the input reads as it did. -/
def fnExactUnlockUptoRow : OpenClaim := { program := "ytcohdglnobmciaadoor", sum := "84fe55bf13fc5a485fbf071e9c64567ceb99bd2105c3bbbd1a998104b68c8f97", func := "loop.example/g01277/laws.FnExactUnlock", spec := "fnExactUnlock", inPlace := ["internal/reflectlite.TypeOf"], unfollowed := true, recurses := true, named := ["loop.example/g01277/impl.errCannot"], ifaces := true, apart := false, laid := [("loop.example/g01277/impl.errCannot", laid_loop_example_g01277_impl_errCannot)], narrowed := true }
def FnExactUnlockUptoSaid : Prop := fnExactUnlockUptoRow.holds Tryd.pinned (OpenSpec.upto fnExactUnlockSpec)

/-- 'laws.FnMemory', WHERE WHAT IT READS IS OF BULK AT MOST 1048576: true; the input reads as it did. -/
def fnMemoryUptoRow : OpenClaim := { program := "ytcohdglnobmciaadoor", sum := "84fe55bf13fc5a485fbf071e9c64567ceb99bd2105c3bbbd1a998104b68c8f97", func := "loop.example/g01277/laws.FnMemory", spec := "fnMemory", inPlace := ["internal/reflectlite.TypeOf"], unfollowed := true, recurses := true, named := ["loop.example/g01277/impl.errCannot"], ifaces := true, apart := false, laid := [("loop.example/g01277/impl.errCannot", laid_loop_example_g01277_impl_errCannot)], narrowed := true }
def FnMemoryUptoSaid : Prop := fnMemoryUptoRow.holds Tryd.pinned (OpenSpec.upto fnMemorySpec)

end Rows
end Go.Proofs.YtcohdglnobmciaaDoor
