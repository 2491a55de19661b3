/- Plain mathematics: bytes as two digits each. -/
import Derived.Test.YtgfapncaddgmpaaDoorLevL
namespace Go.Proofs.YtgfapncaddgmpaaDoor.Num
def digits : ByteArray := ⟨#[48, 49, 50, 51, 52, 53, 54, 55, 56, 57, 97, 98, 99, 100, 101, 102]⟩
def hexd (k : Nat) : UInt8 := ([48, 49, 50, 51, 52, 53, 54, 55, 56, 57, 97, 98, 99, 100, 101, 102] : List UInt8).getD k 0
theorem hexd_fin : ∀ k : Fin 16, (digits.data[k.val]?) = some (hexd k.val) := by decide
theorem hexd_at (k : Nat) (h : k < 16) : digits.data[k]? = some (hexd k) := hexd_fin ⟨k, h⟩
theorem hexd_arr (k : Nat) (h : k < 16) (h' : k < (ByteArray.mk #[48, 49, 50, 51, 52, 53, 54, 55, 56, 57, 97, 98, 99, 100, 101, 102]).size) :
    (ByteArray.mk #[48, 49, 50, 51, 52, 53, 54, 55, 56, 57, 97, 98, 99, 100, 101, 102])[k] = hexd k := by
  have h1 := hexd_at k h
  have h2 : k < digits.data.size := h'
  rw [Array.getElem?_eq_getElem h2] at h1
  exact Option.some.inj h1
def hexL (l : List UInt8) : List UInt8 := l.flatMap fun c => [hexd (c.toNat / 16), hexd (c.toNat % 16)]
theorem hexL_snoc (l : List UInt8) (c : UInt8) : hexL (l ++ [c]) = hexL l ++ [hexd (c.toNat / 16), hexd (c.toNat % 16)] := by simp [hexL]
theorem hexL_length (l : List UInt8) : (hexL l).length = 2 * l.length := by
  induction l with
  | nil => rfl
  | cons c r ih => simp [hexL] at *; omega
theorem hex_pre_succ (s : ByteArray) (k : Nat) (h : k < s.size) : hexL (pre s (k + 1)) = hexL (pre s k) ++ [hexd (s[k].toNat / 16), hexd (s[k].toNat % 16)] := by rw [pre_succ s k h, hexL_snoc]
theorem hex_pre_length (s : ByteArray) (k : Nat) (h : k ≤ s.size) : (hexL (pre s k)).length = 2 * k := by rw [hexL_length, pre_length s k h]
theorem pre_all (s : ByteArray) : pre s s.size = s.data.toList := by unfold pre; rw [List.take_of_length_le]; simp
end Go.Proofs.YtgfapncaddgmpaaDoor.Num
