/- Plain mathematics of the draws: what the cursor's bytes are, as functions of the code. -/
import Derived.Laws.Bits128
import Derived.IntWalk
namespace Go.Proofs.Ytppikpdphcfomaa.Num
open Go.RowKit
theorem i64_and255 (n : Int) : bits .and .i64 n 255 = n % 256 := by
  have h : (BitVec.ofInt 64 255).toNat = 2 ^ 8 - 1 := by decide
  have key : (BitVec.ofInt 64 n &&& BitVec.ofInt 64 255).toNat = (n % ((2 ^ 64 : Nat) : Int)).toNat % 2 ^ 8 := by
    rw [BitVec.toNat_and, BitVec.toNat_ofInt, h, Nat.and_two_pow_sub_one_eq_mod]
  show IntKind.i64.wrap ((BitVec.ofInt 64 n &&& BitVec.ofInt 64 255).toNat : Nat) = n % 256
  rw [key, IntKind.wrap_i64]
  omega
theorem i64_and30 (n : Int) : bits .and .i64 n 1073741823 = n % 1073741824 := by
  have h : (BitVec.ofInt 64 1073741823).toNat = 2 ^ 30 - 1 := by decide
  have key : (BitVec.ofInt 64 n &&& BitVec.ofInt 64 1073741823).toNat = (n % ((2 ^ 64 : Nat) : Int)).toNat % 2 ^ 30 := by
    rw [BitVec.toNat_and, BitVec.toNat_ofInt, h, Nat.and_two_pow_sub_one_eq_mod]
  show IntKind.i64.wrap ((BitVec.ofInt 64 n &&& BitVec.ofInt 64 1073741823).toNat : Nat) = n % 1073741824
  rw [key, IntKind.wrap_i64]
  omega

/-! ### The cursor: how many bytes of the code are used up, and the number that is mixed -/
/-- the next number -/
def hNext (h : Int) : Int := wrap64 (wrap64 (h * 6364136223846793005) + 1442695040888963407)
/-- the byte that a number gives -/
def mix (h : Int) : Int := bits .xor .i64 (h / 8589934592) (h / 35184372088832) % 256
theorem mix_range (h : Int) : 0 ≤ mix h ∧ mix h ≤ 255 := by unfold mix; omega
/-- the state: how many bytes are used up, the number -/
abbrev St := Nat × Int
def bx (l : List UInt8) (s : St) : Int := if s.1 < l.length then (mix (hNext s.2) + ((l.getD s.1 0).toNat : Int)) % 256 else mix (hNext s.2)
def bst (l : List UInt8) (s : St) : St := (if s.1 < l.length then s.1 + 1 else s.1, hNext s.2)
theorem bx_range (l : List UInt8) (s : St) : 0 ≤ bx l s ∧ bx l s ≤ 255 := by
  unfold bx; have := mix_range (hNext s.2); split <;> omega
theorem bst_le (l : List UInt8) (s : St) (h : s.1 ≤ l.length) : (bst l s).1 ≤ l.length := by unfold bst; simp only; split <;> omega

/-- a number below n -/
def below (l : List UInt8) (s : St) (n : Int) : Int :=
  if n ≤ 0 then 0 else if n ≤ 256 then bx l s % n else (bx l s * 16777216 + bx l (bst l s) * 65536 + bx l (bst l (bst l s)) * 256 + bx l (bst l (bst l (bst l s)))) % n
def belowSt (l : List UInt8) (s : St) (n : Int) : St :=
  if n ≤ 0 then s else if n ≤ 256 then bst l s else bst l (bst l (bst l (bst l s)))
theorem below_range (l : List UInt8) (s : St) (n : Int) (h : 0 < n) : 0 ≤ below l s n ∧ below l s n < n := by
  unfold below
  rw [if_neg (by omega)]
  split
  · exact ⟨Int.emod_nonneg _ (by omega), Int.emod_lt_of_pos _ h⟩
  · exact ⟨Int.emod_nonneg _ (by omega), Int.emod_lt_of_pos _ h⟩
theorem belowSt_le (l : List UInt8) (s : St) (n : Int) (h : s.1 ≤ l.length) : (belowSt l s n).1 ≤ l.length := by
  unfold belowSt
  split
  · exact h
  · split
    · exact bst_le l s h
    · exact bst_le _ _ (bst_le _ _ (bst_le _ _ (bst_le l s h)))

/-- the first number of a cursor -/
def h0To (l : List UInt8) : Nat → Int
  | 0 => 10101 + (l.length : Int)
  | k + 1 => (h0To l k * 131 + ((l.getD k 0).toNat : Int) + 7) % 1073741824
theorem h0To_range (l : List UInt8) (h : l.length ≤ 1048576) (k : Nat) : 0 ≤ h0To l k ∧ h0To l k ≤ 1073741823 := by
  cases k with
  | zero => simp [h0To]; omega
  | succ k => rw [h0To]; omega
def st0 (l : List UInt8) : St := (0, h0To l (min l.length 4000))

/-- the numbers at limits -/
def nums : List Int := [-1, 0, 127, 128, 255, 256, 16383, 16384, 65535, 65536, 562949953421311, 562949953421312, 999999999, 1000000000, -999999999, 9223372036854775807, -9223372036854775808]
theorem nums_range (j : Nat) : -9223372036854775808 ≤ nums.getD j 0 ∧ nums.getD j 0 ≤ 9223372036854775807 := by
  rcases Nat.lt_or_ge j 17 with h | h
  · have : ∀ k : Fin 17, -9223372036854775808 ≤ nums.getD k.val 0 ∧ nums.getD k.val 0 ≤ 9223372036854775807 := by decide
    exact this ⟨j, h⟩
  · have e : nums.getD j 0 = 0 := by
      have hl : nums.length ≤ j := h
      simp [List.getD, List.getElem?_eq_none hl]
    rw [e]; decide
def num (l : List UInt8) (s : St) : Int :=
  if below l s 8 = 0 then nums.getD (below l (belowSt l s 8) 17).toNat 0
  else if below l s 8 = 1 then below l (belowSt l s 8) 1000000000 * below l (belowSt l (belowSt l s 8) 1000000000) 1000000000
  else if below l s 8 = 2 then -(below l (belowSt l s 8) 100000)
  else below l (belowSt l s 8) 70000
def numSt (l : List UInt8) (s : St) : St :=
  if below l s 8 = 0 then belowSt l (belowSt l s 8) 17
  else if below l s 8 = 1 then belowSt l (belowSt l (belowSt l s 8) 1000000000) 1000000000
  else if below l s 8 = 2 then belowSt l (belowSt l s 8) 100000
  else belowSt l (belowSt l s 8) 70000
theorem mul_bound (a b : Int) (ha : 0 ≤ a ∧ a < 1000000000) (hb : 0 ≤ b ∧ b < 1000000000) : 0 ≤ a * b ∧ a * b ≤ 1000000000000000000 := by
  obtain ⟨x, rfl⟩ := Int.eq_ofNat_of_zero_le ha.1
  obtain ⟨y, rfl⟩ := Int.eq_ofNat_of_zero_le hb.1
  have h : x * y ≤ 1000000000 * 1000000000 := Nat.mul_le_mul (by omega) (by omega)
  have e : ((x : Int) * (y : Int)) = ((x * y : Nat) : Int) := by simp
  rw [e]; omega
theorem num_range (l : List UInt8) (s : St) : -9223372036854775808 ≤ num l s ∧ num l s ≤ 9223372036854775807 := by
  unfold num
  split
  · exact nums_range _
  · split
    · have := mul_bound _ _ (below_range l (belowSt l s 8) 1000000000 (by omega)) (below_range l (belowSt l (belowSt l s 8) 1000000000) 1000000000 (by omega))
      omega
    · split
      · have := below_range l (belowSt l s 8) 100000 (by omega); omega
      · have := below_range l (belowSt l s 8) 70000 (by omega); omega

/-- a byte by its style -/
def styled (style b : Int) : Int := if style = 1 then b % 2 else if style = 2 then 97 + b % 4 else b
theorem styled_range (style b : Int) (h : 0 ≤ b ∧ b ≤ 255) : 0 ≤ styled style b ∧ styled style b ≤ 255 := by
  unfold styled; split
  · omega
  · split <;> omega
/-- the first k bytes of a text, and the cursor behind them -/
def tx (l : List UInt8) (s : St) (style : Int) : Nat → List UInt8 × St
  | 0 => ([], s)
  | k + 1 => ((tx l s style k).1 ++ [UInt8.ofNat (styled style (bx l (tx l s style k).2)).toNat], bst l (tx l s style k).2)
theorem tx_length (l : List UInt8) (s : St) (style : Int) (k : Nat) : (tx l s style k).1.length = k := by
  induction k with
  | zero => rfl
  | succ k ih => simp [tx, ih]
def text (l : List UInt8) (s : St) (most : Nat) : List UInt8 := (tx l (belowSt l (belowSt l s 4) ((most : Int) + 1)) (below l s 4) (below l (belowSt l s 4) ((most : Int) + 1)).toNat).1
def textSt (l : List UInt8) (s : St) (most : Nat) : St := (tx l (belowSt l (belowSt l s 4) ((most : Int) + 1)) (below l s 4) (below l (belowSt l s 4) ((most : Int) + 1)).toNat).2
theorem text_length (l : List UInt8) (s : St) (most : Nat) : (text l s most).length ≤ most := by
  unfold text
  rw [tx_length]
  have := below_range l (belowSt l s 4) ((most : Int) + 1) (by omega)
  omega

/-! ### a text spoilt at one place -/
def spK (l : List UInt8) (s : St) (p : ByteArray) : Nat := (below l s (p.size : Int)).toNat
def spD (l : List UInt8) (s : St) (p : ByteArray) : Int := below l (belowSt l s (p.size : Int)) 4
def spS (l : List UInt8) (s : St) (p : ByteArray) : St := belowSt l (belowSt l s (p.size : Int)) 4
def spoil (l : List UInt8) (s : St) (p : ByteArray) : ByteArray :=
  if p.size = 0 then ⟨(text l s 3).toArray⟩
  else if spD l s p = 0 then p.extract 0 (spK l s p) ++ p.extract (spK l s p + 1) p.size
  else if spD l s p = 1 then p.extract 0 (spK l s p) ++ ⟨#[UInt8.ofNat (bx l (spS l s p)).toNat]⟩ ++ p.extract (spK l s p) p.size
  else if spD l s p = 2 then p.extract 0 (spK l s p)
  else p.extract 0 (spK l s p) ++ ⟨#[UInt8.ofNat (bits .xor .i64 ((p.data.toList.getD (spK l s p) 0).toNat : Int) (1 + below l (spS l s p) 255) % 256).toNat]⟩ ++ p.extract (spK l s p + 1) p.size
def spoilSt (l : List UInt8) (s : St) (p : ByteArray) : St :=
  if p.size = 0 then textSt l s 3
  else if spD l s p = 0 then spS l s p
  else if spD l s p = 1 then bst l (spS l s p)
  else if spD l s p = 2 then spS l s p
  else belowSt l (spS l s p) 255
theorem spK_lt (l : List UInt8) (s : St) (p : ByteArray) (h : p.size ≠ 0) : spK l s p < p.size := by
  unfold spK
  have := below_range l s (p.size : Int) (by omega)
  omega
theorem spoil_size (l : List UInt8) (s : St) (p : ByteArray) : (spoil l s p).size ≤ p.size + 3 := by
  unfold spoil
  split
  · have := text_length l s 3
    show (text l s 3).toArray.size ≤ _
    simp; omega
  · have e1 : ∀ q : UInt8, (ByteArray.mk #[q]).size = 1 := fun _ => rfl
    split
    · simp [ByteArray.size_append, ByteArray.size_extract]; omega
    · split
      · simp [ByteArray.size_append, ByteArray.size_extract, e1]; omega
      · split
        · simp [ByteArray.size_extract]; omega
        · simp [ByteArray.size_append, ByteArray.size_extract, e1]; omega
end Go.Proofs.Ytppikpdphcfomaa.Num
