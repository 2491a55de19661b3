/- Plain mathematics of the sum: eight halvings are two steps of a table of sixteen. No program stands in it. -/
import Derived.Test.YtjbnjedefcpjnaaDoorNum
namespace Go.Proofs.YtjbnjedefcpjnaaDoor.CrcM
open Num

/-- one halving -/
def half (c : Nat) : Nat := if c % 2 = 1 then (c / 2) ^^^ 2197175160 else c / 2
/-- four of them -/
def four (c : Nat) : Nat := half (half (half (half c)))
/-- halvings, n of them -/
def halves : Nat → Nat → Nat
  | 0, c => c
  | n + 1, c => half (halves n c)
theorem halves_eight (c : Nat) : halves 8 c = four (four c) := rfl

/-- the table -/
def tab : List Nat := [0, 274646895, 549293790, 820201905, 1098587580, 1361435347, 1640403810, 1905808397, 2197175160, 2460548119, 2722870694, 2987750089, 3280807620, 3553878443, 3811616794, 4084100981]
def row (i : Nat) : Nat := tab.getD i 0

theorem half_xor (a b : Nat) : half (a ^^^ b) = half a ^^^ half b := by
  have h1 : (a ^^^ b) / 2 = a / 2 ^^^ b / 2 := by
    have := Nat.shiftRight_xor_distrib (a := a) (b := b) (i := 1)
    simpa [Nat.shiftRight_succ] using this
  have h2 : (a ^^^ b) % 2 = (a % 2 + b % 2) % 2 := by
    have h := @Nat.xor_mod_two_eq_one a b
    omega
  unfold half
  rw [h1, h2]
  have ha : a % 2 = 0 ∨ a % 2 = 1 := by omega
  have hb : b % 2 = 0 ∨ b % 2 = 1 := by omega
  rcases ha with ha | ha <;> rcases hb with hb | hb <;> simp only [ha, hb] <;> simp
  · rw [Nat.xor_assoc]
  · rw [Nat.xor_assoc, Nat.xor_assoc, Nat.xor_comm (b / 2) 2197175160]
  · have : ∀ x y p : Nat, x ^^^ y = x ^^^ p ^^^ (y ^^^ p) := fun x y p => by
      rw [Nat.xor_comm y p, Nat.xor_assoc, ← Nat.xor_assoc p p y, Nat.xor_self, Nat.zero_xor]
    exact this _ _ _

theorem four_xor (a b : Nat) : four (a ^^^ b) = four a ^^^ four b := by simp only [four, half_xor]

theorem half_even (q : Nat) : half (2 * q) = q := by unfold half; rw [if_neg (by omega)]; omega
theorem four_high (q : Nat) : four (16 * q) = q := by
  unfold four
  rw [show 16 * q = 2 * (8 * q) by omega, half_even, show 8 * q = 2 * (4 * q) by omega, half_even, show 4 * q = 2 * (2 * q) by omega, half_even, half_even]
theorem four_low : ∀ r : Fin 16, four r.val = row r.val := by decide
theorem parts (c : Nat) : (16 * (c / 16)) ^^^ (c % 16) = c := by
  apply Nat.eq_of_testBit_eq
  intro i
  have h := Nat.testBit_two_pow_mul_add (c / 16) (b := c % 16) (i := 4) (by omega) i
  have h0 := Nat.testBit_two_pow_mul_add (c / 16) (b := 0) (i := 4) (by omega) i
  rw [show 2 ^ 4 * (c / 16) + c % 16 = c by omega] at h
  rw [show 2 ^ 4 * (c / 16) + 0 = 16 * (c / 16) by omega] at h0
  rw [Nat.testBit_xor, h, h0]
  by_cases hi : i < 4
  · simp [hi]
  · have : (c % 16).testBit i = false := Nat.testBit_lt_two_pow (Nat.lt_of_lt_of_le (show c % 16 < 2 ^ 4 by omega) (Nat.pow_le_pow_right (by omega) (by omega)))
    simp [hi, this]

/-- four halvings at once -/
theorem four_eq (c : Nat) : four c = c / 16 ^^^ row (c % 16) := by
  have h := four_xor (16 * (c / 16)) (c % 16)
  rw [parts, four_high, four_low ⟨c % 16, by omega⟩] at h
  exact h

theorem half_lt (c : Nat) (h : c < 4294967296) : half c < 4294967296 := by
  unfold half
  split
  · exact Nat.xor_lt_two_pow (n := 32) (by omega) (by omega)
  · omega
theorem halves_lt (n c : Nat) (h : c < 4294967296) : halves n c < 4294967296 := by
  induction n with
  | zero => exact h
  | succ n ih => exact half_lt _ ih
theorem four_lt (c : Nat) (h : c < 4294967296) : four c < 4294967296 := half_lt _ (half_lt _ (half_lt _ (half_lt _ h)))
theorem row_lt (i : Nat) (h : i < 16) : row i < 4294967296 := (by decide : ∀ r : Fin 16, row r.val < 4294967296) ⟨i, h⟩

/-- one byte more -/
def byte (c : Nat) (b : UInt8) : Nat := four (four (c ^^^ b.toNat))
theorem xor_lt (c : Nat) (b : UInt8) (h : c < 4294967296) : c ^^^ b.toNat < 4294967296 :=
  Nat.xor_lt_two_pow (n := 32) h (Nat.lt_of_lt_of_le b.toNat_lt (by decide))
theorem byte_lt (c : Nat) (b : UInt8) (h : c < 4294967296) : byte c b < 4294967296 := four_lt _ (four_lt _ (xor_lt c b h))

/-- the sum's state behind the first k bytes -/
def upTo (s : ByteArray) (k : Nat) : Nat := (s.data.toList.take k).foldl byte 4294967295
theorem upTo_zero (s : ByteArray) : upTo s 0 = 4294967295 := by simp [upTo]
theorem upTo_succ (s : ByteArray) (k : Nat) (h : k < s.size) : upTo s (k + 1) = byte (upTo s k) s[k] := by
  unfold upTo; rw [take_snoc s k h, List.foldl_append]; rfl
theorem upTo_lt (s : ByteArray) (k : Nat) : upTo s k < 4294967296 := by
  unfold upTo
  suffices h : ∀ (l : List UInt8) c, c < 4294967296 → l.foldl byte c < 4294967296 from h _ _ (by decide)
  intro l
  induction l with
  | nil => intro c h; exact h
  | cons b r ih => intro c h; exact ih _ (byte_lt c b h)

end Go.Proofs.YtjbnjedefcpjnaaDoor.CrcM
