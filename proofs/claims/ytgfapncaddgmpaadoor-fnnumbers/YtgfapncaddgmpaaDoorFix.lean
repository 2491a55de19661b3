/- Plain mathematics: a number in so many bytes, the highest first. -/
import Derived.Test.YtgfapncaddgmpaaDoorNum
namespace Go.Proofs.YtgfapncaddgmpaaDoor.Num

/-- byte j of n in w bytes -/
def fb (n w j : Nat) : UInt8 := UInt8.ofNat (n / 256 ^ (w - 1 - j))
def fixedTo (n w k : Nat) : List UInt8 := (List.range k).map (fb n w)
theorem fixedTo_zero (n w : Nat) : fixedTo n w 0 = [] := rfl
theorem fixedTo_length (n w k : Nat) : (fixedTo n w k).length = k := by simp [fixedTo]
theorem fixedTo_succ (n w k : Nat) : fixedTo n w (k + 1) = fixedTo n w k ++ [fb n w k] := by simp [fixedTo, List.range_succ]
theorem fixedTo_front (n w : Nat) : fixedTo n (w + 1) (w + 1) = fb n 1 0 :: [] ∧ w = 0 ∨ fixedTo n (w + 1) (w + 1) = UInt8.ofNat (n / 256 ^ w) :: fixedTo n w w := by
  right
  unfold fixedTo
  rw [List.range_succ_eq_map, List.map_cons, List.map_map]
  congr 1
  apply List.map_congr_left
  intro j _
  simp only [Function.comp, fb]
  congr 3
  omega
theorem fixedTo_cons (n w : Nat) : fixedTo n (w + 1) (w + 1) = UInt8.ofNat (n / 256 ^ w) :: fixedTo n w w := by
  rcases fixedTo_front n w with ⟨h, rfl⟩ | h
  · rw [h]; rfl
  · exact h

theorem pow_eq (m : Nat) : 2 ^ (8 * m) = 256 ^ m := by rw [Nat.pow_mul]
theorem shr_eq (n w k : Nat) (h : k < w) : (n : Int) / 2 ^ (8 * ((w : Int) - 1 - k)).toNat = ((n / 256 ^ (w - 1 - k) : Nat) : Int) := by
  have e : (8 * ((w : Int) - 1 - k)).toNat = 8 * (w - 1 - k) := by omega
  rw [e, ← pow_eq]
  simp
theorem fits_eq (n w : Nat) : (n : Int) / 2 ^ (8 * (w : Int)).toNat = ((n / 256 ^ w : Nat) : Int) := by
  have e : (8 * (w : Int)).toNat = 8 * w := by omega
  rw [e, ← pow_eq]
  simp
theorem fb_val (n w j : Nat) : ((fb n w j).toNat : Int) = ((n / 256 ^ (w - 1 - j) : Nat) : Int) % 256 := by
  unfold fb; simp
theorem step_val (n i : Nat) : n / 256 ^ (i + 1) = n / 256 ^ i / 256 := by rw [Nat.pow_succ, Nat.div_div_eq_div_mul]
end Go.Proofs.YtgfapncaddgmpaaDoor.Num
