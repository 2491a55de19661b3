/- The laws of chapter 6, out of what both functions answer: ShowOp, ReadOp, ShowCode, ReadCode, ShowProg. -/
import Derived.Test.YtjopmakbnompnaaDoorSourceLaw
import Derived.Test.YtjopmakbnompnaaDoorSourceLaw2
import Derived.Test.YtjopmakbnompnaaDoorImplProg
set_option linter.unusedVariables false
namespace Go.Proofs.YtjopmakbnompnaaDoor
open Go.RowKit
namespace Ops
open Bas Flat
theorem ba_txt (s : ByteArray) : (⟨s.data.toList.toArray⟩ : ByteArray) = s := by cases s; simp
theorem ba_len (s : ByteArray) : s.data.toList.length = s.size := by show _ = s.data.size; simp

theorem lawShowOp (k a b c : Int) (w : World) (hT : WTab w) (ht : Dec.Tab w) : Calls Tryd.prog 3 #[opV k a b c] w fun e w' => e = .returned (.bool true) ∧ Below w.heap.size w w' :=
  walkShowOp k a b c w (showOp ⟨k, a, b, c⟩) (fun W => showOpC ⟨k, a, b, c⟩ W) (fun W hb => showOpI ⟨k, a, b, c⟩ W (hT.on hb) (ht.on hb))
theorem lawReadOp (s : ByteArray) (w : World) (hs : s.size ≤ maxLen) (hT : WTab w) (ht : Dec.Tab w) (he : ReadDec.Errs w) : Calls Tryd.prog 4 #[.string s] w fun e w' => e = .returned (.bool true) ∧ Below w.heap.size w w' :=
  walkReadOp s w hs
    (fun h W => by have := readOpC s.data.toList (by rw [ba_len]; exact h) W; rw [ba_txt] at this; exact this)
    (fun h W hb => by have := readOpI s.data.toList (by rw [ba_len]; exact h) W ⟨hT.on hb, ht.on hb, he.on hb⟩; rw [ba_txt] at this; exact this)
theorem lawShowCode (v : Value) (xs : List O4) (w : World) (hv : Sees4 w.heap.size w v xs) (hT : WTab w) (ht : Dec.Tab w) : Calls Tryd.prog 5 #[v] w fun e w' => e = .returned (.bool true) ∧ Below w.heap.size w w' :=
  walkShowCode v xs w hv (showCode xs) (fun u W h hl => showCodeC u xs _ W h (Nat.le_refl _) hl) (fun u W hb h hl => showCodeI u xs _ W h (Nat.le_refl _) hl (hT.on hb) (ht.on hb))
theorem lawReadCode (s : ByteArray) (w : World) (hs : s.size ≤ maxLen) (hT : WTab w) (ht : Dec.Tab w) (he : ReadDec.Errs w) : Calls Tryd.prog 6 #[.string s] w fun e w' => e = .returned (.bool true) ∧ Below w.heap.size w w' :=
  walkReadCode s w hs
    (fun h W => by have := readCodeC s.data.toList (by rw [ba_len]; exact h) W; rw [ba_txt] at this; exact this)
    (fun h W hb => by have := readCodeI s.data.toList (by rw [ba_len]; exact h) W ⟨hT.on hb, ht.on hb, he.on hb⟩; rw [ba_txt] at this; exact this)
theorem lawShowProg (vc vk : Value) (xs : List O4) (kss : List (List O4)) (w : World) (hv : SeesP w.heap.size w vc vk xs kss) (hT : WTab w) (ht : Dec.Tab w) : Calls Tryd.prog 7 #[.agg #[vc, vk]] w fun e w' => e = .returned (.bool true) ∧ Below w.heap.size w w' :=
  walkShowProg vc vk xs kss w hv (showProg xs kss) (fun u u' W h hf => showProgC u u' xs kss _ W h (Nat.le_refl _) hf) (fun u u' W hb h hf => showProgI u u' xs kss _ W h (Nat.le_refl _) hf (hT.on hb) (ht.on hb))
end Ops
end Go.Proofs.YtjopmakbnompnaaDoor
