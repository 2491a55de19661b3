/- Rows of strings in memory. -/
import Derived.Test.YtjopmakbnompnaaDoorFlat
set_option linter.unusedVariables false
namespace Go.Proofs.YtjopmakbnompnaaDoor
open Go.RowKit
namespace Strs
open Bas Flat

def strEl : El (List UInt8) where
  sz := 1
  cells l := [.string ⟨l.toArray⟩]
  len _ := rfl
  one l v hv := by simp at hv; rw [hv]; rfl
  pos := by decide
theorem rowStr : Row Tryd.prog strEl 54 9 (.string ByteArray.empty) [] 16 := ⟨Tryd.underlying54, by kernel_rfl, rfl, by decide⟩
abbrev OwnsS (B : Nat) (w : World) (v : Value) (xs : List (List UInt8)) : Prop := Owns strEl 9 B w v xs
abbrev SeesS (B : Nat) (w : World) (v : Value) (xs : List (List UInt8)) : Prop := Sees strEl B w v xs
theorem atS {w : World} {b o : Nat} {l : List UInt8} (h : At strEl w b o l) : w.cell? ⟨b, o, none⟩ = some (.string ⟨l.toArray⟩) := h 0 _ rfl
/-- the string at place k -/
theorem seeS {w : World} {b off : Nat} {xs : List (List UInt8)} (hc : ∀ j (h : j < xs.length), At strEl w b (off + j * strEl.sz) xs[j]) (k : Nat) (hk : k < xs.length) : w.cell? ⟨b, off + k, none⟩ = some (.string ⟨xs[k].toArray⟩) := by
  have := atS (hc k hk)
  change w.cell? ⟨b, off + k * 1, none⟩ = _ at this
  rw [Nat.mul_one] at this; exact this
theorem seesOneS (W : World) (s : List UInt8) (t : TypeId) : SeesS (W.heap.size + 1) (W.alloc (.cells #[.string ⟨s.toArray⟩] t)) (.slice (some ⟨W.heap.size, 0, none⟩) 1 1) [s] :=
  ⟨_, 1, rfl, by simp, by unfold maxLen; omega, fun _ => ⟨W.heap.size, 0, rfl, by omega, fun j hj => by
    have hj0 : j = 0 := by simpa using hj
    subst hj0
    intro i u hu
    have hb : Blk (W.alloc (.cells #[.string ⟨s.toArray⟩] t)) W.heap.size #[.string ⟨s.toArray⟩] t := Blk.new W _ _
    simp only [Nat.zero_mul, Nat.zero_add]
    rw [hb.cell]
    change [Value.string ⟨s.toArray⟩][i]? = some u at hu
    simpa using hu⟩⟩
theorem grown_allocS {W W' : World} {o : Obj} {row : Option Nat} (h : (W.alloc o).grownBy W' row) : W.grownBy W' row :=
  ⟨h.os, h.tape, h.output, Nat.le_trans (by simp) h.size, fun k hk hne => (h.block k (by simp; omega) hne).trans (Below.heap_alloc W o k hk)⟩
/-- append(v, s) -/
theorem pushS (v : Value) (xs : List (List UInt8)) (B : Nat) (w : World) (h : OwnsS B w v xs) (hB : B ≤ w.heap.size) (hlen : xs.length ≤ 4000000) (s : List UInt8) :
    ∃ v' w', (Builtin.append_ #[54, 54] 54 #[v, .slice (some ⟨w.heap.size, 0, none⟩) 1 1]).run Tryd.prog (w.alloc (.cells #[.string ⟨s.toArray⟩] 9)) = .ok v' w' ∧ OwnsS B w' v' (xs ++ [s]) ∧ w.grownBy w' v.ownBlock ∧ (∀ k, v'.ownBlock = some k → v.ownBlock = some k ∨ w.heap.size ≤ k) := by
  obtain ⟨v', w', hr, hO, hG, hl⟩ := app rowStr v _ 54 xs [s] _ B (w.alloc (.cells #[.string ⟨s.toArray⟩] 9)) (h.on (alloc_below w _) (Nat.le_refl _)) (by simp; omega) (seesOneS w s _) (by simp; omega)
  refine ⟨v', w', hr, hO, grown_allocS hG, fun k hk => ?_⟩
  rcases hl k hk with h | h
  · exact .inl h
  · simp at h; exact .inr (by omega)
/-- a piece of a string -/
theorem piece (s : ByteArray) (i j : Nat) : s.extract i j = ⟨((s.data.toList.drop i).take (j - i)).toArray⟩ := by
  have : (s.extract i j).data = ((s.data.toList.drop i).take (j - i)).toArray := by
    rw [ByteArray.data_extract]
    apply Array.ext'
    simp
  cases h : s.extract i j
  rw [h] at this
  simp only at this
  rw [this]
end Strs
end Go.Proofs.YtjopmakbnompnaaDoor
