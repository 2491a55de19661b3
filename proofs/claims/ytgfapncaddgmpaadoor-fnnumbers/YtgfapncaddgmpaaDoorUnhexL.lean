/- Plain mathematics: digits read as bytes. -/
import Derived.Test.YtgfapncaddgmpaaDoorHexL
import Derived.Lib.Bytealg
namespace Go.Proofs.YtgfapncaddgmpaaDoor.Num

theorem ib_at (l : List UInt8) (c : UInt8) : ∀ k, k < l.length → (∀ j, j < k → l.getD j 0 ≠ c) → l.getD k 0 = c → Lib.indexByte l c = (k : Int) := by
  induction l with
  | nil => intro k h; simp at h
  | cons b r ih =>
    intro k h1 h2 h3
    cases k with
    | zero => simp at h3; simp [Lib.indexByte, h3]
    | succ k =>
      have hb : b ≠ c := by simpa using h2 0 (by omega)
      have := ih k (by simpa using h1) (fun j hj => by simpa using h2 (j + 1) (by omega)) (by simpa using h3)
      have hne : ¬ ((k : Int) = -1) := by omega
      simp [Lib.indexByte, hb, this, hne]
theorem ib_none (l : List UInt8) (c : UInt8) : (∀ j, j < l.length → l.getD j 0 ≠ c) → Lib.indexByte l c = -1 := by
  induction l with
  | nil => intro _; rfl
  | cons b r ih =>
    intro h
    have hb : b ≠ c := by simpa using h 0 (by simp)
    have := ih (fun j hj => by simpa using h (j + 1) (by simpa using hj))
    simp [Lib.indexByte, hb, this]
theorem ib_range (l : List UInt8) (c : UInt8) : -1 ≤ Lib.indexByte l c ∧ Lib.indexByte l c < l.length := by
  induction l with
  | nil => simp [Lib.indexByte]
  | cons b r ih =>
    simp only [Lib.indexByte, List.length_cons]
    split
    · omega
    · split
      · omega
      · rename_i h _; simp at *; omega

/-- the digit's number, -1 where it is none -/
def hv (c : UInt8) : Int := Lib.indexByte digits.data.toList c
theorem hv_range (c : UInt8) : -1 ≤ hv c ∧ hv c ≤ 15 := by
  have := ib_range digits.data.toList c
  have e : digits.data.toList.length = 16 := rfl
  unfold hv; omega
theorem dig_get (k : Nat) : digits.data.toList.getD k 0 = hexd k := rfl
theorem hv_at (c : UInt8) (k : Nat) (hk : k < 16) (h : ∀ j, j < k → hexd j ≠ c) (e : hexd k = c) : hv c = (k : Int) := ib_at _ c k hk (fun j hj => by rw [dig_get]; exact h j hj) (by rw [dig_get]; exact e)
theorem hv_none (c : UInt8) (h : ∀ j, j < 16 → hexd j ≠ c) : hv c = -1 := ib_none _ c (fun j hj => by rw [dig_get]; exact h j hj)

def gb (s : ByteArray) (j : Nat) : UInt8 := s.data.toList.getD j 0
theorem gb_eq (s : ByteArray) (j : Nat) (h : j < s.size) : s[j] = gb s j := by
  unfold gb
  have h2 : j < s.data.toList.length := by simpa using h
  rw [List.getD, List.getElem?_eq_getElem h2]
  rfl
/-- the first 2 k bytes are digits -/
def AllDig (s : ByteArray) (k : Nat) : Prop := ∀ j, j < 2 * k → 0 ≤ hv (gb s j)
def unhTo (s : ByteArray) (k : Nat) : List UInt8 := (List.range k).map fun j => UInt8.ofNat (16 * hv (gb s (2 * j)) + hv (gb s (2 * j + 1))).toNat
theorem unhTo_length (s : ByteArray) (k : Nat) : (unhTo s k).length = k := by simp [unhTo]
theorem unhTo_zero (s : ByteArray) : unhTo s 0 = [] := rfl
theorem unhTo_succ (s : ByteArray) (k : Nat) : unhTo s (k + 1) = unhTo s k ++ [UInt8.ofNat (16 * hv (gb s (2 * k)) + hv (gb s (2 * k + 1))).toNat] := by simp [unhTo, List.range_succ]
theorem AllDig.zero (s : ByteArray) : AllDig s 0 := fun j hj => by omega
theorem AllDig.succ {s : ByteArray} {k : Nat} (h : AllDig s k) (a : 0 ≤ hv (gb s (2 * k))) (b : 0 ≤ hv (gb s (2 * k + 1))) : AllDig s (k + 1) := fun j hj => by
  rcases Nat.lt_or_ge j (2 * k) with h1 | h1
  · exact h j h1
  · by_cases e : j = 2 * k
    · rw [e]; exact a
    · rw [show j = 2 * k + 1 by omega]; exact b
/-- what Unhex tells -/
def UhRes (s : ByteArray) (t : ByteArray) (b : Bool) : Prop :=
  (b = true ∧ s.size % 2 = 0 ∧ AllDig s (s.size / 2) ∧ t = ⟨(unhTo s (s.size / 2)).toArray⟩) ∨ (b = false ∧ t = ByteArray.empty ∧ (s.size % 2 = 1 ∨ ¬ AllDig s (s.size / 2)))
theorem UhRes.unique {s t t' : ByteArray} {b b' : Bool} (h : UhRes s t b) (h' : UhRes s t' b') : t = t' ∧ b = b' := by
  rcases h with ⟨rfl, h1, h2, rfl⟩ | ⟨rfl, rfl, h1⟩ <;> rcases h' with ⟨rfl, g1, g2, rfl⟩ | ⟨rfl, rfl, g1⟩
  · exact ⟨rfl, rfl⟩
  · rcases g1 with g1 | g1
    · omega
    · exact absurd h2 g1
  · rcases h1 with h1 | h1
    · omega
    · exact absurd g2 h1
  · exact ⟨rfl, rfl⟩
theorem uh_byte (x y : Int) (hx : 0 ≤ x ∧ x ≤ 15) (hy : 0 ≤ y ∧ y ≤ 15) : ((UInt8.ofNat (16 * x + y).toNat).toNat : Int) = 16 * x + y := by
  simp; omega
theorem AllDig.no {s : ByteArray} {k j : Nat} (h : hv (gb s j) < 0) (hj : j < 2 * k) : ¬ AllDig s k := fun g => by have := g j hj; omega
end Go.Proofs.YtgfapncaddgmpaaDoor.Num
