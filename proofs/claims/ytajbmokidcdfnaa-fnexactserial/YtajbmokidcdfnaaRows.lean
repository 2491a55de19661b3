/-
  No cell of these rows narrows 'for every input' (looked for: loops, veiled, ifaces, maps, wideKeys, modest, calm, conditions, laid).
  DERIVED. THE GIVEN ROWS OF THIS SEAT. 6 by the template 'for every input the law returns true; each argument reads behind the call as it read before'; 0 by the template 'total and deterministic' (their statements: YtajbmokidcdfnaaTotals.lean).
  GIVEN WITH THE SEED: the statements are not yours to turn. If you find one false, say at which input.
  Laid BY PROGRAM, IN A SANDBOX (cutbox-rows.mjs): the forced cells as the released guide's own fill.sh prints them over the translation f462543fd12de89e… (all of the seat's roots in one cut). By AI agents, Wed Nov 11 2026. No macro, syntax, notation, axiom, sorry.
-/
import Derived.Test.YtajbmokidcdfnaaChecked
import GoSem.Claim
import GoSem.ClaimJoined
import GoSem.ClaimMapViews
import Derived.JoinedTies
import Derived.KernelRfl
namespace Go.Proofs.Ytajbmokidcdfnaa
/- THE CELL 'sum', in the pinned program and in every row, IS THE sha256 OF THE DUMP (.gsa) THAT YtajbmokidcdfnaaProg.lean LOADS. Nothing in Lean hashes anything: it is a label: what it is worth is what the hold of that sum in a sandbox is worth. -/
noncomputable def Try.pinned : Pinned := { name := "ytajbmokidcdfnaa", sum := "f462543fd12de89ec6d3cce643bc0179c8a0446d3194790aed6592c85c965583", checked := Try.checked }
namespace Rows
def none {H : Type} : Left H := { results := [], args := [] }

/-- 'laws.FnExactCommitOk': WHATEVER THE INPUT: true; the input reads as it did. -/
def fnExactCommitOkSpec : ChangeSpec := { name := "fnExactCommitOk", fn := fun _ => fun
  | [d] => { results := [.lit (.bool true)], args := [d] }
  | _ => none }
def fnExactCommitOkRow : OpenClaim := { program := "ytajbmokidcdfnaa", sum := "f462543fd12de89ec6d3cce643bc0179c8a0446d3194790aed6592c85c965583", func := "loop.example/g01277/laws.FnExactCommitOk", spec := "fnExactCommitOk", apart := false }
def FnExactCommitOkSaid : Prop := fnExactCommitOkRow.holds Try.pinned (OpenSpec.ofChange fnExactCommitOkSpec)

/-- ITS FALSE NEIGHBOUR: 'it returns false'. Refute it at one input. -/
def fnExactCommitOkWrong : ChangeSpec := { name := "fnExactCommitOk", fn := fun _ => fun
  | [d] => { results := [.lit (.bool false)], args := [d] }
  | _ => none }
def FnExactCommitOkWrongFalsely : Prop := fnExactCommitOkRow.holds Try.pinned (OpenSpec.ofChange fnExactCommitOkWrong)

/-- 'laws.FnExactCommitNew': WHATEVER THE INPUT: true; the input reads as it did. -/
def fnExactCommitNewSpec : ChangeSpec := { name := "fnExactCommitNew", fn := fun _ => fun
  | [d1, d2, d3, d4] => { results := [.lit (.bool true)], args := [d1, d2, d3, d4] }
  | _ => none }
def fnExactCommitNewRow : OpenClaim := { program := "ytajbmokidcdfnaa", sum := "f462543fd12de89ec6d3cce643bc0179c8a0446d3194790aed6592c85c965583", func := "loop.example/g01277/laws.FnExactCommitNew", spec := "fnExactCommitNew", unfollowed := true, recurses := true, apart := false }
def FnExactCommitNewSaid : Prop := fnExactCommitNewRow.holds Try.pinned (OpenSpec.ofChange fnExactCommitNewSpec)

/-- ITS FALSE NEIGHBOUR: 'it returns false'. Refute it at one input. -/
def fnExactCommitNewWrong : ChangeSpec := { name := "fnExactCommitNew", fn := fun _ => fun
  | [d1, d2, d3, d4] => { results := [.lit (.bool false)], args := [d1, d2, d3, d4] }
  | _ => none }
def FnExactCommitNewWrongFalsely : Prop := fnExactCommitNewRow.holds Try.pinned (OpenSpec.ofChange fnExactCommitNewWrong)

/-- 'laws.FnExactCommitBreak': WHATEVER THE INPUT: true; the input reads as it did. -/
def fnExactCommitBreakSpec : ChangeSpec := { name := "fnExactCommitBreak", fn := fun _ => fun
  | [d] => { results := [.lit (.bool true)], args := [d] }
  | _ => none }
def fnExactCommitBreakRow : OpenClaim := { program := "ytajbmokidcdfnaa", sum := "f462543fd12de89ec6d3cce643bc0179c8a0446d3194790aed6592c85c965583", func := "loop.example/g01277/laws.FnExactCommitBreak", spec := "fnExactCommitBreak", apart := false }
def FnExactCommitBreakSaid : Prop := fnExactCommitBreakRow.holds Try.pinned (OpenSpec.ofChange fnExactCommitBreakSpec)

/-- ITS FALSE NEIGHBOUR: 'it returns false'. Refute it at one input. -/
def fnExactCommitBreakWrong : ChangeSpec := { name := "fnExactCommitBreak", fn := fun _ => fun
  | [d] => { results := [.lit (.bool false)], args := [d] }
  | _ => none }
def FnExactCommitBreakWrongFalsely : Prop := fnExactCommitBreakRow.holds Try.pinned (OpenSpec.ofChange fnExactCommitBreakWrong)

/-- 'laws.FnExactCommitLeft': WHATEVER THE INPUT: true; the input reads as it did. -/
def fnExactCommitLeftSpec : ChangeSpec := { name := "fnExactCommitLeft", fn := fun _ => fun
  | [d] => { results := [.lit (.bool true)], args := [d] }
  | _ => none }
def fnExactCommitLeftRow : OpenClaim := { program := "ytajbmokidcdfnaa", sum := "f462543fd12de89ec6d3cce643bc0179c8a0446d3194790aed6592c85c965583", func := "loop.example/g01277/laws.FnExactCommitLeft", spec := "fnExactCommitLeft", apart := false }
def FnExactCommitLeftSaid : Prop := fnExactCommitLeftRow.holds Try.pinned (OpenSpec.ofChange fnExactCommitLeftSpec)

/-- ITS FALSE NEIGHBOUR: 'it returns false'. Refute it at one input. -/
def fnExactCommitLeftWrong : ChangeSpec := { name := "fnExactCommitLeft", fn := fun _ => fun
  | [d] => { results := [.lit (.bool false)], args := [d] }
  | _ => none }
def FnExactCommitLeftWrongFalsely : Prop := fnExactCommitLeftRow.holds Try.pinned (OpenSpec.ofChange fnExactCommitLeftWrong)

/-- 'laws.FnSerial': WHATEVER THE INPUT: true; the input reads as it did. -/
def fnSerialSpec : ChangeSpec := { name := "fnSerial", fn := fun _ => fun
  | [d] => { results := [.lit (.bool true)], args := [d] }
  | _ => none }
def fnSerialRow : OpenClaim := { program := "ytajbmokidcdfnaa", sum := "f462543fd12de89ec6d3cce643bc0179c8a0446d3194790aed6592c85c965583", func := "loop.example/g01277/laws.FnSerial", spec := "fnSerial", unfollowed := true, recurses := true, apart := false }
def FnSerialSaid : Prop := fnSerialRow.holds Try.pinned (OpenSpec.ofChange fnSerialSpec)

/-- ITS FALSE NEIGHBOUR: 'it returns false'. Refute it at one input. -/
def fnSerialWrong : ChangeSpec := { name := "fnSerial", fn := fun _ => fun
  | [d] => { results := [.lit (.bool false)], args := [d] }
  | _ => none }
def FnSerialWrongFalsely : Prop := fnSerialRow.holds Try.pinned (OpenSpec.ofChange fnSerialWrong)

/-- 'laws.FnExactSerial': WHATEVER THE INPUT: true; the input reads as it did. -/
def fnExactSerialSpec : ChangeSpec := { name := "fnExactSerial", fn := fun _ => fun
  | [d1, d2, d3] => { results := [.lit (.bool true)], args := [d1, d2, d3] }
  | _ => none }
def fnExactSerialRow : OpenClaim := { program := "ytajbmokidcdfnaa", sum := "f462543fd12de89ec6d3cce643bc0179c8a0446d3194790aed6592c85c965583", func := "loop.example/g01277/laws.FnExactSerial", spec := "fnExactSerial", unfollowed := true, recurses := true, apart := false }
def FnExactSerialSaid : Prop := fnExactSerialRow.holds Try.pinned (OpenSpec.ofChange fnExactSerialSpec)

/-- ITS FALSE NEIGHBOUR: 'it returns false'. Refute it at one input. -/
def fnExactSerialWrong : ChangeSpec := { name := "fnExactSerial", fn := fun _ => fun
  | [d1, d2, d3] => { results := [.lit (.bool false)], args := [d1, d2, d3] }
  | _ => none }
def FnExactSerialWrongFalsely : Prop := fnExactSerialRow.holds Try.pinned (OpenSpec.ofChange fnExactSerialWrong)

/- THE SECOND FORM. 'bulk': how many values and letters a reading holds, each counted each time it is reached (what is shared counts as often as it is met; a slice's spare places count too). A statement '..UptoSaid' is the law's where the arguments, and the package variables that the reading takes, are together of bulk at most 1048576: NARROWER than '..Said'. Prove '..Said' where nothing that the law and all that it calls make is longer than what came in: it says more and counts as full. Else prove '..UptoSaid'. A law counts once. -/
mutual
def uptoBulk {H : Type} : DataW H → Nat
  | .lit (.string bytes) => bytes.length + 1
  | .lit _ => 1
  | .nil => 1
  | .ptr d => uptoBulk d + 1
  | .slice elems spare => uptoBulkAll elems + uptoBulkAll spare + 1
  | .agg parts => uptoBulkAll parts + 1
  | .iface _ d => uptoBulk d + 1
  | .map entries => uptoBulkEntries entries + 1
  | .held _ => 1
def uptoBulkAll {H : Type} : List (DataW H) → Nat
  | [] => 0
  | d :: r => uptoBulk d + uptoBulkAll r
def uptoBulkEntries {H : Type} : List (Lit × DataW H) → Nat
  | [] => 0
  | x :: r => uptoBulkEntry x + uptoBulkEntries r
def uptoBulkEntry {H : Type} : Lit × DataW H → Nat
  | (.string bytes, d) => bytes.length + uptoBulk d + 1
  | (_, d) => uptoBulk d + 1
 end
def uptoSmall : (H : Type) → List (DataW H) → Bool := fun _ ds => decide (uptoBulkAll ds ≤ 1048576)
def OpenSpec.upto (s : _root_.Go.ChangeSpec) : _root_.Go.OpenSpec := { _root_.Go.OpenSpec.ofChange s with cond := some uptoSmall }

/-- 'laws.FnExactCommitOk', WHERE WHAT IT READS IS OF BULK AT MOST 1048576: true; the input reads as it did. -/
def fnExactCommitOkUptoRow : OpenClaim := { program := "ytajbmokidcdfnaa", sum := "f462543fd12de89ec6d3cce643bc0179c8a0446d3194790aed6592c85c965583", func := "loop.example/g01277/laws.FnExactCommitOk", spec := "fnExactCommitOk", apart := false, narrowed := true }
def FnExactCommitOkUptoSaid : Prop := fnExactCommitOkUptoRow.holds Try.pinned (OpenSpec.upto fnExactCommitOkSpec)

/-- 'laws.FnExactCommitNew', WHERE WHAT IT READS IS OF BULK AT MOST 1048576: true; the input reads as it did. -/
def fnExactCommitNewUptoRow : OpenClaim := { program := "ytajbmokidcdfnaa", sum := "f462543fd12de89ec6d3cce643bc0179c8a0446d3194790aed6592c85c965583", func := "loop.example/g01277/laws.FnExactCommitNew", spec := "fnExactCommitNew", unfollowed := true, recurses := true, apart := false, narrowed := true }
def FnExactCommitNewUptoSaid : Prop := fnExactCommitNewUptoRow.holds Try.pinned (OpenSpec.upto fnExactCommitNewSpec)

/-- 'laws.FnExactCommitBreak', WHERE WHAT IT READS IS OF BULK AT MOST 1048576: true; the input reads as it did. -/
def fnExactCommitBreakUptoRow : OpenClaim := { program := "ytajbmokidcdfnaa", sum := "f462543fd12de89ec6d3cce643bc0179c8a0446d3194790aed6592c85c965583", func := "loop.example/g01277/laws.FnExactCommitBreak", spec := "fnExactCommitBreak", apart := false, narrowed := true }
def FnExactCommitBreakUptoSaid : Prop := fnExactCommitBreakUptoRow.holds Try.pinned (OpenSpec.upto fnExactCommitBreakSpec)

/-- 'laws.FnExactCommitLeft', WHERE WHAT IT READS IS OF BULK AT MOST 1048576: true; the input reads as it did. -/
def fnExactCommitLeftUptoRow : OpenClaim := { program := "ytajbmokidcdfnaa", sum := "f462543fd12de89ec6d3cce643bc0179c8a0446d3194790aed6592c85c965583", func := "loop.example/g01277/laws.FnExactCommitLeft", spec := "fnExactCommitLeft", apart := false, narrowed := true }
def FnExactCommitLeftUptoSaid : Prop := fnExactCommitLeftUptoRow.holds Try.pinned (OpenSpec.upto fnExactCommitLeftSpec)

/-- 'laws.FnSerial', WHERE WHAT IT READS IS OF BULK AT MOST 1048576: true; the input reads as it did. -/
def fnSerialUptoRow : OpenClaim := { program := "ytajbmokidcdfnaa", sum := "f462543fd12de89ec6d3cce643bc0179c8a0446d3194790aed6592c85c965583", func := "loop.example/g01277/laws.FnSerial", spec := "fnSerial", unfollowed := true, recurses := true, apart := false, narrowed := true }
def FnSerialUptoSaid : Prop := fnSerialUptoRow.holds Try.pinned (OpenSpec.upto fnSerialSpec)

/-- 'laws.FnExactSerial', WHERE WHAT IT READS IS OF BULK AT MOST 1048576: true; the input reads as it did. -/
def fnExactSerialUptoRow : OpenClaim := { program := "ytajbmokidcdfnaa", sum := "f462543fd12de89ec6d3cce643bc0179c8a0446d3194790aed6592c85c965583", func := "loop.example/g01277/laws.FnExactSerial", spec := "fnExactSerial", unfollowed := true, recurses := true, apart := false, narrowed := true }
def FnExactSerialUptoSaid : Prop := fnExactSerialUptoRow.holds Try.pinned (OpenSpec.upto fnExactSerialSpec)

end Rows
end Go.Proofs.Ytajbmokidcdfnaa
