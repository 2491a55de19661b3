/- append of numbers, with what it says of where the answer lies. -/
import Derived.Test.YtppikpdphcfomaaIntCopy
import Derived.Test.YtppikpdphcfomaaFlat
set_option linter.unusedVariables false
namespace Go.Proofs.Ytppikpdphcfomaa
open Go.RowKit
namespace Ints
open Bas

def intEl : Flat.El Int where
  sz := 1
  cells x := [.int .i64 x]
  len _ := rfl
  one x v hv := by simp at hv; rw [hv]; rfl
  pos := by decide
theorem rowInt : Flat.Row Try.prog intEl 24 3 (.int .i64 0) 0 8 := ⟨Try.underlying24, by kernel_rfl, rfl, by decide⟩
theorem fv_iv (zs : List Int) : Flat.fv intEl zs = iv zs := by
  unfold Flat.fv iv
  induction zs with
  | nil => rfl
  | cons x r ih => rw [List.flatMap_cons, ih]; rfl
theorem owns_iff {B : Nat} {w : World} {v : Value} {zs : List Int} : Flat.Owns intEl 3 B w v zs ↔ Owns B w v zs := by
  unfold Flat.Owns Owns
  rw [fv_iv]; rfl
theorem flat_sees {B : Nat} {w : World} {v : Value} {zs : List Int} (h : Sees B w v zs) : Flat.Sees intEl B w v zs := by
  obtain ⟨a, cap, rfl, h1, h2, h3⟩ := h
  refine ⟨a, cap, rfl, h1, h2, fun hne => ?_⟩
  obtain ⟨b, off, rfl, hb, hc⟩ := h3 hne
  refine ⟨b, off, rfl, hb, fun j hj i u hu => ?_⟩
  change [Value.int .i64 zs[j]][i]? = some u at hu
  rcases i with _ | i
  · change w.cell? ⟨b, off + j * 1 + 0, none⟩ = _
    rw [Nat.mul_one, Nat.add_zero, hc j hj]; simpa using hu
  · simp at hu
/-- append(u, v...) -/
theorem appJ (u v : Value) (ty : TypeId) (xs zs : List Int) (B b0 : Nat) (w : World) (hu : Owns b0 w u xs) (h0 : b0 ≤ w.heap.size) (hv : Sees B w v zs) (hlen : xs.length + zs.length ≤ 4194304) :
    ∃ v' w', (Builtin.append_ #[24, 24] ty #[u, v]).run Try.prog w = .ok v' w' ∧ Owns b0 w' v' (xs ++ zs) ∧ w.grownBy w' u.ownBlock ∧ (∀ k, v'.ownBlock = some k → u.ownBlock = some k ∨ w.heap.size ≤ k) := by
  obtain ⟨v', w', hr, hO, hG, hk⟩ := Flat.app rowInt u v ty xs zs B b0 w (owns_iff.2 hu) h0 (flat_sees hv) hlen
  exact ⟨v', w', hr, owns_iff.1 hO, hG, hk⟩
theorem owns_lit (w : World) {B : Nat} (hB : B ≤ w.heap.size) : Owns B (w.alloc (.cells #[] 3)) (.slice (some ⟨w.heap.size, 0, none⟩) 0 0) [] := World.ownsRow_lit w #[] 0 hB (by simp [maxLen]) rfl
end Ints
end Go.Proofs.Ytppikpdphcfomaa
