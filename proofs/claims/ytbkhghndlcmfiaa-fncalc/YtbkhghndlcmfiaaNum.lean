/- Plain mathematics of numbers and bytes: what a list of bytes says as a number, the highest first. No program stands in it. -/
namespace Go.Proofs.Ytbkhghndlcmfiaa.Num

/-- the number of a list of bytes, the highest first -/
def be : List UInt8 → Nat → Nat
  | [], n => n
  | c :: r, n => be r (n * 256 + c.toNat)

theorem be_snoc (l : List UInt8) (c : UInt8) (n : Nat) : be (l ++ [c]) n = be l n * 256 + c.toNat := by
  induction l generalizing n with
  | nil => rfl
  | cons d r ih => exact ih _

theorem be_lt (l : List UInt8) : be l 0 < 256 ^ l.length := by
  suffices h : ∀ n, be l n < (n + 1) * 256 ^ l.length by simpa using h 0
  induction l with
  | nil => intro n; simp [be]
  | cons c r ih =>
    intro n
    have h1 := ih (n * 256 + c.toNat)
    have h2 : c.toNat < 256 := c.toNat_lt
    have h3 : (n * 256 + c.toNat + 1) * 256 ^ r.length ≤ ((n + 1) * 256) * 256 ^ r.length := Nat.mul_le_mul_right _ (by omega)
    have h4 : ((n + 1) * 256) * 256 ^ r.length = (n + 1) * 256 ^ (c :: r).length := by
      rw [List.length_cons, Nat.pow_succ, Nat.mul_assoc, Nat.mul_comm 256]
    calc be (c :: r) n = be r (n * 256 + c.toNat) := rfl
      _ < (n * 256 + c.toNat + 1) * 256 ^ r.length := h1
      _ ≤ ((n + 1) * 256) * 256 ^ r.length := h3
      _ = _ := h4

theorem take_snoc (s : ByteArray) (k : Nat) (h : k < s.size) : s.data.toList.take (k + 1) = s.data.toList.take k ++ [s[k]] := by
  rw [List.take_succ_eq_append_getElem (by simpa using h)]; rfl

/-- the first k bytes as a number -/
def beTo (s : ByteArray) (k : Nat) : Nat := be (s.data.toList.take k) 0

theorem beTo_zero (s : ByteArray) : beTo s 0 = 0 := by simp [beTo, be]

theorem beTo_succ (s : ByteArray) (k : Nat) (h : k < s.size) : beTo s (k + 1) = beTo s k * 256 + s[k].toNat := by
  unfold beTo; rw [take_snoc s k h, be_snoc]

theorem beTo_lt (s : ByteArray) (k : Nat) : beTo s k < 256 ^ k := by
  unfold beTo
  refine Nat.lt_of_lt_of_le (be_lt _) ?_
  exact Nat.pow_le_pow_right (by omega) (List.length_take_le _ _)

theorem beTo_small (s : ByteArray) (k : Nat) (h : k ≤ 6) : beTo s k ≤ 281474976710655 := by
  have h1 := beTo_lt s k
  have h2 : 256 ^ k ≤ 256 ^ 6 := Nat.pow_le_pow_right (by omega) h
  have h3 : (256 : Nat) ^ 6 = 281474976710656 := by decide
  omega

end Go.Proofs.Ytbkhghndlcmfiaa.Num
