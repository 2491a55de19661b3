/- The law of ReadCode, out of what both functions answer. -/
import Derived.Test.YtjopmakbnompnaaDoorSourceLaw2
import Derived.Test.YtjopmakbnompnaaDoorImplCode
set_option linter.unusedVariables false
namespace Go.Proofs.YtjopmakbnompnaaDoor
open Go.RowKit
namespace Ops
open Bas Flat
theorem ba_txt (s : ByteArray) : (⟨s.data.toList.toArray⟩ : ByteArray) = s := by cases s; simp
theorem ba_len (s : ByteArray) : s.data.toList.length = s.size := by show _ = s.data.size; simp

theorem lawReadCode (s : ByteArray) (w : World) (hs : s.size ≤ maxLen) (hT : WTab w) (ht : Dec.Tab w) (he : ReadDec.Errs w) : Calls Tryd.prog 6 #[.string s] w fun e w' => e = .returned (.bool true) ∧ Below w.heap.size w w' :=
  walkReadCode s w hs
    (fun h W => by have := readCodeC s.data.toList (by rw [ba_len]; exact h) W; rw [ba_txt] at this; exact this)
    (fun h W hb => by have := readCodeI s.data.toList (by rw [ba_len]; exact h) W ⟨hT.on hb, ht.on hb, he.on hb⟩; rw [ba_txt] at this; exact this)
end Ops
end Go.Proofs.YtjopmakbnompnaaDoor
