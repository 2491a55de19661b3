/- Plain mathematics: a number in bytes of seven bits, the lowest first. -/
import Derived.Test.YtgfapncaddgmpaaDoorNum
namespace Go.Proofs.YtgfapncaddgmpaaDoor.Num

/-- the first k bytes, each with 128 added -/
def varTo (n k : Nat) : List UInt8 := (List.range k).map fun j => UInt8.ofNat (128 + n / 128 ^ j % 128)
theorem varTo_zero (n : Nat) : varTo n 0 = [] := rfl
theorem varTo_length (n k : Nat) : (varTo n k).length = k := by simp [varTo]
theorem varTo_succ (n k : Nat) : varTo n (k + 1) = varTo n k ++ [UInt8.ofNat (128 + n / 128 ^ k % 128)] := by simp [varTo, List.range_succ]
theorem vstep (n i : Nat) : n / 128 ^ (i + 1) = n / 128 ^ i / 128 := by rw [Nat.pow_succ, Nat.div_div_eq_div_mul]

/-- the number whole, with fuel -/
def vb : Nat → Nat → List UInt8
  | 0, n => [UInt8.ofNat n]
  | f + 1, n => if n < 128 then [UInt8.ofNat n] else UInt8.ofNat (128 + n % 128) :: vb f (n / 128)

theorem vb_at (f : Nat) : ∀ n k, k ≤ f → (∀ j, j < k → 128 ≤ n / 128 ^ j) → n / 128 ^ k < 128 → vb f n = varTo n k ++ [UInt8.ofNat (n / 128 ^ k)] := by
  induction f with
  | zero => intro n k hk _ _; obtain rfl : k = 0 := by omega
            simp [vb, varTo]
  | succ f ih =>
    intro n k hk h1 h2
    cases k with
    | zero => simp at h2; simp [vb, varTo, h2]
    | succ k =>
      have h0 : 128 ≤ n := by simpa using h1 0 (by omega)
      have e : ∀ j, n / 128 / 128 ^ j = n / 128 ^ (j + 1) := by intro j; rw [Nat.pow_succ, Nat.mul_comm, Nat.div_div_eq_div_mul]
      have := ih (n / 128) k (by omega) (fun j hj => by rw [e]; exact h1 (j + 1) (by omega)) (by rw [e]; exact h2)
      rw [vb, if_neg (by omega), this, e]
      unfold varTo
      rw [List.range_succ_eq_map, List.map_cons, List.map_map]
      simp only [Nat.pow_zero, Nat.div_one, List.cons_append]
      congr 3
      funext j
      simp only [Function.comp]
      rw [e]

theorem var_stop (n k : Nat) (h : n ≤ 562949953421311) (hk : k = 0 ∨ 128 ≤ n / 128 ^ (k - 1)) : k ≤ 6 := by
  rcases Nat.lt_or_ge k 7 with h7 | h7
  · omega
  · exfalso
    have h1 : 128 ≤ n / 128 ^ (k - 1) := by omega
    have h2 : n / 128 ^ (k - 1) ≤ n / 128 ^ 6 := Nat.div_le_div_left (Nat.pow_le_pow_right (by omega) (by omega)) (by decide)
    have h3 : n / 128 ^ 6 < 128 := by
      have : (128 : Nat) ^ 6 = 4398046511104 := by decide
      rw [this]; omega
    omega
end Go.Proofs.YtgfapncaddgmpaaDoor.Num
