/-
  No cell of these rows narrows 'for every input' (looked for: loops, veiled, ifaces, maps, wideKeys, modest, calm, conditions, laid).
  DERIVED. THE GIVEN ROWS OF THIS SEAT. 6 by the template 'for every input the law returns true; each argument reads behind the call as it read before'; 0 by the template 'total and deterministic' (their statements: YtpjcbdanahiapaaTotals.lean).
  GIVEN WITH THE SEED: the statements are not yours to turn. If you find one false, say at which input.
  Laid BY PROGRAM, IN A SANDBOX (cutbox-rows.mjs): the forced cells as the released guide's own fill.sh prints them over the translation 051ba98514b7c67f… (all of the seat's roots in one cut). By AI agents, Wed Nov 11 2026. No macro, syntax, notation, axiom, sorry.
-/
import Derived.Test.YtpjcbdanahiapaaChecked
import GoSem.Claim
import GoSem.ClaimJoined
import GoSem.ClaimMapViews
import Derived.JoinedTies
import Derived.KernelRfl
namespace Go.Proofs.Ytpjcbdanahiapaa
/- THE CELL 'sum', in the pinned program and in every row, IS THE sha256 OF THE DUMP (.gsa) THAT YtpjcbdanahiapaaProg.lean LOADS. Nothing in Lean hashes anything: it is a label: what it is worth is what the hold of that sum in a sandbox is worth. -/
noncomputable def Try.pinned : Pinned := { name := "ytpjcbdanahiapaa", sum := "051ba98514b7c67f655b07c4237ceddcf06e786af9a9fee2234f198584f0a495", checked := Try.checked }
namespace Rows
def none {H : Type} : Left H := { results := [], args := [] }

/-- 'laws.FnProbe': WHATEVER THE INPUT: true; the input reads as it did. -/
def fnProbeSpec : ChangeSpec := { name := "fnProbe", fn := fun _ => fun
  | [d] => { results := [.lit (.bool true)], args := [d] }
  | _ => none }
def fnProbeRow : OpenClaim := { program := "ytpjcbdanahiapaa", sum := "051ba98514b7c67f655b07c4237ceddcf06e786af9a9fee2234f198584f0a495", func := "loop.example/g01277/laws.FnProbe", spec := "fnProbe", unfollowed := true, recurses := true, apart := false }
def FnProbeSaid : Prop := fnProbeRow.holds Try.pinned (OpenSpec.ofChange fnProbeSpec)

/-- ITS FALSE NEIGHBOUR: 'it returns false'. Refute it at one input. -/
def fnProbeWrong : ChangeSpec := { name := "fnProbe", fn := fun _ => fun
  | [d] => { results := [.lit (.bool false)], args := [d] }
  | _ => none }
def FnProbeWrongFalsely : Prop := fnProbeRow.holds Try.pinned (OpenSpec.ofChange fnProbeWrong)

/-- 'laws.FnExactProbeOk': WHATEVER THE INPUT: true; the input reads as it did. -/
def fnExactProbeOkSpec : ChangeSpec := { name := "fnExactProbeOk", fn := fun _ => fun
  | [d] => { results := [.lit (.bool true)], args := [d] }
  | _ => none }
def fnExactProbeOkRow : OpenClaim := { program := "ytpjcbdanahiapaa", sum := "051ba98514b7c67f655b07c4237ceddcf06e786af9a9fee2234f198584f0a495", func := "loop.example/g01277/laws.FnExactProbeOk", spec := "fnExactProbeOk", apart := false }
def FnExactProbeOkSaid : Prop := fnExactProbeOkRow.holds Try.pinned (OpenSpec.ofChange fnExactProbeOkSpec)

/-- ITS FALSE NEIGHBOUR: 'it returns false'. Refute it at one input. -/
def fnExactProbeOkWrong : ChangeSpec := { name := "fnExactProbeOk", fn := fun _ => fun
  | [d] => { results := [.lit (.bool false)], args := [d] }
  | _ => none }
def FnExactProbeOkWrongFalsely : Prop := fnExactProbeOkRow.holds Try.pinned (OpenSpec.ofChange fnExactProbeOkWrong)

/-- 'laws.FnExactProbeNew': WHATEVER THE INPUT: true; the input reads as it did. -/
def fnExactProbeNewSpec : ChangeSpec := { name := "fnExactProbeNew", fn := fun _ => fun
  | [d] => { results := [.lit (.bool true)], args := [d] }
  | _ => none }
def fnExactProbeNewRow : OpenClaim := { program := "ytpjcbdanahiapaa", sum := "051ba98514b7c67f655b07c4237ceddcf06e786af9a9fee2234f198584f0a495", func := "loop.example/g01277/laws.FnExactProbeNew", spec := "fnExactProbeNew", apart := false }
def FnExactProbeNewSaid : Prop := fnExactProbeNewRow.holds Try.pinned (OpenSpec.ofChange fnExactProbeNewSpec)

/-- ITS FALSE NEIGHBOUR: 'it returns false'. Refute it at one input. -/
def fnExactProbeNewWrong : ChangeSpec := { name := "fnExactProbeNew", fn := fun _ => fun
  | [d] => { results := [.lit (.bool false)], args := [d] }
  | _ => none }
def FnExactProbeNewWrongFalsely : Prop := fnExactProbeNewRow.holds Try.pinned (OpenSpec.ofChange fnExactProbeNewWrong)

/-- 'laws.FnExactProbeStep': WHATEVER THE INPUT: true; the input reads as it did. -/
def fnExactProbeStepSpec : ChangeSpec := { name := "fnExactProbeStep", fn := fun _ => fun
  | [d1, d2, d3] => { results := [.lit (.bool true)], args := [d1, d2, d3] }
  | _ => none }
def fnExactProbeStepRow : OpenClaim := { program := "ytpjcbdanahiapaa", sum := "051ba98514b7c67f655b07c4237ceddcf06e786af9a9fee2234f198584f0a495", func := "loop.example/g01277/laws.FnExactProbeStep", spec := "fnExactProbeStep", unfollowed := true, recurses := true, apart := false }
def FnExactProbeStepSaid : Prop := fnExactProbeStepRow.holds Try.pinned (OpenSpec.ofChange fnExactProbeStepSpec)

/-- ITS FALSE NEIGHBOUR: 'it returns false'. Refute it at one input. -/
def fnExactProbeStepWrong : ChangeSpec := { name := "fnExactProbeStep", fn := fun _ => fun
  | [d1, d2, d3] => { results := [.lit (.bool false)], args := [d1, d2, d3] }
  | _ => none }
def FnExactProbeStepWrongFalsely : Prop := fnExactProbeStepRow.holds Try.pinned (OpenSpec.ofChange fnExactProbeStepWrong)

/-- 'laws.FnSerial': WHATEVER THE INPUT: true; the input reads as it did. -/
def fnSerialSpec : ChangeSpec := { name := "fnSerial", fn := fun _ => fun
  | [d] => { results := [.lit (.bool true)], args := [d] }
  | _ => none }
def fnSerialRow : OpenClaim := { program := "ytpjcbdanahiapaa", sum := "051ba98514b7c67f655b07c4237ceddcf06e786af9a9fee2234f198584f0a495", func := "loop.example/g01277/laws.FnSerial", spec := "fnSerial", unfollowed := true, recurses := true, apart := false }
def FnSerialSaid : Prop := fnSerialRow.holds Try.pinned (OpenSpec.ofChange fnSerialSpec)

/-- ITS FALSE NEIGHBOUR: 'it returns false'. Refute it at one input. -/
def fnSerialWrong : ChangeSpec := { name := "fnSerial", fn := fun _ => fun
  | [d] => { results := [.lit (.bool false)], args := [d] }
  | _ => none }
def FnSerialWrongFalsely : Prop := fnSerialRow.holds Try.pinned (OpenSpec.ofChange fnSerialWrong)

/-- 'laws.FnExactSerial': WHATEVER THE INPUT: true; the input reads as it did. -/
def fnExactSerialSpec : ChangeSpec := { name := "fnExactSerial", fn := fun _ => fun
  | [d1, d2, d3] => { results := [.lit (.bool true)], args := [d1, d2, d3] }
  | _ => none }
def fnExactSerialRow : OpenClaim := { program := "ytpjcbdanahiapaa", sum := "051ba98514b7c67f655b07c4237ceddcf06e786af9a9fee2234f198584f0a495", func := "loop.example/g01277/laws.FnExactSerial", spec := "fnExactSerial", unfollowed := true, recurses := true, apart := false }
def FnExactSerialSaid : Prop := fnExactSerialRow.holds Try.pinned (OpenSpec.ofChange fnExactSerialSpec)

/-- ITS FALSE NEIGHBOUR: 'it returns false'. Refute it at one input. -/
def fnExactSerialWrong : ChangeSpec := { name := "fnExactSerial", fn := fun _ => fun
  | [d1, d2, d3] => { results := [.lit (.bool false)], args := [d1, d2, d3] }
  | _ => none }
def FnExactSerialWrongFalsely : Prop := fnExactSerialRow.holds Try.pinned (OpenSpec.ofChange fnExactSerialWrong)

/- THE SECOND FORM. 'bulk': how many values and letters a reading holds, each counted each time it is reached (what is shared counts as often as it is met; a slice's spare places count too). A statement '..UptoSaid' is the law's where the arguments, and the package variables that the reading takes, are together of bulk at most 1048576: NARROWER than '..Said'. Prove '..Said' where nothing that the law and all that it calls make is longer than what came in: it says more and counts as full. Else prove '..UptoSaid'. A law counts once. -/
mutual
def uptoBulk {H : Type} : DataW H → Nat
  | .lit (.string bytes) => bytes.length + 1
  | .lit _ => 1
  | .nil => 1
  | .ptr d => uptoBulk d + 1
  | .slice elems spare => uptoBulkAll elems + uptoBulkAll spare + 1
  | .agg parts => uptoBulkAll parts + 1
  | .iface _ d => uptoBulk d + 1
  | .map entries => uptoBulkEntries entries + 1
  | .held _ => 1
def uptoBulkAll {H : Type} : List (DataW H) → Nat
  | [] => 0
  | d :: r => uptoBulk d + uptoBulkAll r
def uptoBulkEntries {H : Type} : List (Lit × DataW H) → Nat
  | [] => 0
  | x :: r => uptoBulkEntry x + uptoBulkEntries r
def uptoBulkEntry {H : Type} : Lit × DataW H → Nat
  | (.string bytes, d) => bytes.length + uptoBulk d + 1
  | (_, d) => uptoBulk d + 1
 end
def uptoSmall : (H : Type) → List (DataW H) → Bool := fun _ ds => decide (uptoBulkAll ds ≤ 1048576)
def OpenSpec.upto (s : _root_.Go.ChangeSpec) : _root_.Go.OpenSpec := { _root_.Go.OpenSpec.ofChange s with cond := some uptoSmall }

/-- 'laws.FnProbe', WHERE WHAT IT READS IS OF BULK AT MOST 1048576: true; the input reads as it did. -/
def fnProbeUptoRow : OpenClaim := { program := "ytpjcbdanahiapaa", sum := "051ba98514b7c67f655b07c4237ceddcf06e786af9a9fee2234f198584f0a495", func := "loop.example/g01277/laws.FnProbe", spec := "fnProbe", unfollowed := true, recurses := true, apart := false, narrowed := true }
def FnProbeUptoSaid : Prop := fnProbeUptoRow.holds Try.pinned (OpenSpec.upto fnProbeSpec)

/-- 'laws.FnExactProbeOk', WHERE WHAT IT READS IS OF BULK AT MOST 1048576: true; the input reads as it did. -/
def fnExactProbeOkUptoRow : OpenClaim := { program := "ytpjcbdanahiapaa", sum := "051ba98514b7c67f655b07c4237ceddcf06e786af9a9fee2234f198584f0a495", func := "loop.example/g01277/laws.FnExactProbeOk", spec := "fnExactProbeOk", apart := false, narrowed := true }
def FnExactProbeOkUptoSaid : Prop := fnExactProbeOkUptoRow.holds Try.pinned (OpenSpec.upto fnExactProbeOkSpec)

/-- 'laws.FnExactProbeNew', WHERE WHAT IT READS IS OF BULK AT MOST 1048576: true; the input reads as it did. -/
def fnExactProbeNewUptoRow : OpenClaim := { program := "ytpjcbdanahiapaa", sum := "051ba98514b7c67f655b07c4237ceddcf06e786af9a9fee2234f198584f0a495", func := "loop.example/g01277/laws.FnExactProbeNew", spec := "fnExactProbeNew", apart := false, narrowed := true }
def FnExactProbeNewUptoSaid : Prop := fnExactProbeNewUptoRow.holds Try.pinned (OpenSpec.upto fnExactProbeNewSpec)

/-- 'laws.FnExactProbeStep', WHERE WHAT IT READS IS OF BULK AT MOST 1048576: true; the input reads as it did. -/
def fnExactProbeStepUptoRow : OpenClaim := { program := "ytpjcbdanahiapaa", sum := "051ba98514b7c67f655b07c4237ceddcf06e786af9a9fee2234f198584f0a495", func := "loop.example/g01277/laws.FnExactProbeStep", spec := "fnExactProbeStep", unfollowed := true, recurses := true, apart := false, narrowed := true }
def FnExactProbeStepUptoSaid : Prop := fnExactProbeStepUptoRow.holds Try.pinned (OpenSpec.upto fnExactProbeStepSpec)

/-- 'laws.FnSerial', WHERE WHAT IT READS IS OF BULK AT MOST 1048576: true; the input reads as it did. -/
def fnSerialUptoRow : OpenClaim := { program := "ytpjcbdanahiapaa", sum := "051ba98514b7c67f655b07c4237ceddcf06e786af9a9fee2234f198584f0a495", func := "loop.example/g01277/laws.FnSerial", spec := "fnSerial", unfollowed := true, recurses := true, apart := false, narrowed := true }
def FnSerialUptoSaid : Prop := fnSerialUptoRow.holds Try.pinned (OpenSpec.upto fnSerialSpec)

/-- 'laws.FnExactSerial', WHERE WHAT IT READS IS OF BULK AT MOST 1048576: true; the input reads as it did. -/
def fnExactSerialUptoRow : OpenClaim := { program := "ytpjcbdanahiapaa", sum := "051ba98514b7c67f655b07c4237ceddcf06e786af9a9fee2234f198584f0a495", func := "loop.example/g01277/laws.FnExactSerial", spec := "fnExactSerial", unfollowed := true, recurses := true, apart := false, narrowed := true }
def FnExactSerialUptoSaid : Prop := fnExactSerialUptoRow.holds Try.pinned (OpenSpec.upto fnExactSerialSpec)

end Rows
end Go.Proofs.Ytpjcbdanahiapaa
