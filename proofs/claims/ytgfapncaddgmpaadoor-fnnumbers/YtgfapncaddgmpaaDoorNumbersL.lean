/- Plain mathematics: what is made of a number is read as it, whatever stands behind. -/
import Derived.Test.YtgfapncaddgmpaaDoorFix
import Derived.Test.YtgfapncaddgmpaaDoorLevL
import Derived.Test.YtgfapncaddgmpaaDoorUnhexL
import Derived.Test.YtgfapncaddgmpaaDoorDecL
namespace Go.Proofs.YtgfapncaddgmpaaDoor.Num

/-- the Var of any number: empty where it is out of range -/
def varB (n : Int) : List UInt8 := if 0 ≤ n ∧ n ≤ 562949953421311 then vb 7 n.toNat else []
/-- the Fixed of any number in seven bytes -/
def fixB (n : Int) : List UInt8 := if 0 ≤ n ∧ n < 72057594037927936 then fixedTo n.toNat 7 7 else []

theorem vb_ne (f n : Nat) : vb f n ≠ [] := by cases f <;> simp [vb]; split <;> simp
theorem lev_vb (f : Nat) : ∀ n, n < 128 ^ (f + 1) → lev (vb f n) = n := by
  induction f with
  | zero => intro n h; simp at h; simp [vb, lev]; omega
  | succ f ih =>
    intro n h
    rw [vb]
    split
    · rename_i h1; simp [lev]; omega
    · rename_i h1
      have h2 : n / 128 < 128 ^ (f + 1) := by rw [Nat.pow_succ] at h; omega
      rw [lev, ih _ h2]
      have h3 : (UInt8.ofNat (128 + n % 128)).toNat = 128 + n % 128 := by simp; omega
      rw [h3]; omega
theorem vb_len (f : Nat) : ∀ n k, 1 ≤ k → n < 128 ^ k → (vb f n).length ≤ k := by
  induction f with
  | zero => intro n k hk _; simp [vb]; exact hk
  | succ f ih =>
    intro n k hk h
    rw [vb]
    split
    · simp; exact hk
    · rename_i h1
      obtain ⟨m, rfl⟩ : ∃ m, k = m + 1 := ⟨k - 1, by omega⟩
      have hm : 1 ≤ m := by
        rcases Nat.eq_zero_or_pos m with h3 | h3
        · subst h3; simp at h; omega
        · exact h3
      have := ih (n / 128) m hm (by rw [Nat.pow_succ] at h; omega)
      simp; omega
theorem not_isV_take (A t : List UInt8) (hA : isV A) (j : Nat) (hj : j < A.length) : ¬ isV ((A ++ t).take j) := by
  intro hv
  rw [List.take_append_of_le_length (by omega)] at hv
  obtain ⟨k, e, g1, _, _⟩ := (isV_iff A).1 hA
  obtain ⟨m, e', _, g2', _⟩ := (isV_iff _).1 hv
  have hl : (A.take j).length = j := by simp; omega
  have hm : m < k := by omega
  have hg : (A.take j).getD m 0 = A.getD m 0 := by
    have : m < j := by omega
    simp [List.getD, this]
  rw [hg] at g2'
  have := g1 m hm
  omega
theorem pre_mk (L : List UInt8) (j : Nat) : pre ⟨L.toArray⟩ j = L.take j := by simp [pre]
theorem size_mk (L : List UInt8) : (ByteArray.mk L.toArray).size = L.length := by show L.toArray.size = _; simp
theorem res_vb (n : Nat) (h : n ≤ 562949953421311) (t : List UInt8) : Res ⟨(vb 7 n ++ t).toArray⟩ n (vb 7 n).length := by
  have h8 : (128 : Nat) ^ (7 + 1) = 72057594037927936 := by decide
  have h7 : (128 : Nat) ^ 7 = 562949953421312 := by decide
  have hv := isV_vb 7 n (by omega)
  have hl := vb_len 7 n 7 (by omega) (by omega)
  have hp : 1 ≤ (vb 7 n).length := by
    have := vb_ne 7 n
    rcases Nat.eq_zero_or_pos (vb 7 n).length with h0 | h0
    · exact absurd (List.eq_nil_of_length_eq_zero h0) this
    · exact h0
  have e : pre ⟨(vb 7 n ++ t).toArray⟩ (vb 7 n).length = vb 7 n := by rw [pre_mk, List.take_left]
  refine .inr ⟨hp, hl, by rw [size_mk, List.length_append]; omega, by rw [e]; exact hv, by rw [e, lev_vb 7 n (by omega)], fun j h1 h2 => ?_⟩
  rw [pre_mk]
  exact not_isV_take _ _ hv j h2

theorem be_fixed (n : Nat) : ∀ w a, be (fixedTo n w w) a = a * 256 ^ w + n % 256 ^ w := by
  intro w
  induction w with
  | zero => intro a; simp [fixedTo, be]; omega
  | succ w ih =>
    intro a
    rw [fixedTo_cons, be, ih]
    have h1 : (UInt8.ofNat (n / 256 ^ w)).toNat = n / 256 ^ w % 256 := by simp
    rw [h1, Nat.pow_succ]
    have h2 : n % (256 ^ w * 256) = n % 256 ^ w + 256 ^ w * (n / 256 ^ w % 256) := Nat.mod_mul
    rw [h2, Nat.add_mul, Nat.mul_assoc, Nat.mul_comm 256 (256 ^ w), Nat.mul_comm (n / 256 ^ w % 256)]
    omega
theorem beTo_fixed (n : Nat) (h : n < 72057594037927936) (t : List UInt8) : beTo ⟨(fixedTo n 7 7 ++ t).toArray⟩ 7 = n := by
  unfold beTo
  have e : (fixedTo n 7 7 ++ t).take 7 = fixedTo n 7 7 := by
    have := List.take_left (l₁ := fixedTo n 7 7) (l₂ := t)
    rw [fixedTo_length] at this; exact this
  show be (((fixedTo n 7 7 ++ t).toArray.toList).take 7) 0 = n
  rw [List.toList_toArray, e, be_fixed]
  have h7 : (256 : Nat) ^ 7 = 72057594037927936 := by decide
  rw [h7]; omega

theorem rd_itoa_in (n : Int) (h0 : -999999999 ≤ n) (h1 : n ≤ 999999999) : RdRes (Lib.itoa n) n true := .inl ⟨rfl, h0, h1, rfl⟩
theorem rd_itoa_out (n : Int) (h : -9223372036854775808 ≤ n ∧ n ≤ 9223372036854775807) (h' : n < -999999999 ∨ 999999999 < n) : RdRes (Lib.itoa n) 0 false := by
  refine .inr ⟨rfl, rfl, fun m a b e => ?_⟩
  have := itoa_inj m n (by omega) h e
  omega

theorem hv_hexd : ∀ q : Fin 16, hv (hexd q.val) = (q.val : Int) := by decide
theorem hex_get (t : List UInt8) : ∀ j, j < t.length → (hexL t).getD (2 * j) 0 = hexd ((t.getD j 0).toNat / 16) ∧ (hexL t).getD (2 * j + 1) 0 = hexd ((t.getD j 0).toNat % 16) := by
  induction t with
  | nil => intro j h; simp at h
  | cons c r ih =>
    intro j h
    have e : hexL (c :: r) = hexd (c.toNat / 16) :: hexd (c.toNat % 16) :: hexL r := by simp [hexL]
    rw [e]
    cases j with
    | zero => simp
    | succ j =>
      obtain ⟨a, b⟩ := ih j (by simpa using h)
      have e1 : 2 * (j + 1) = 2 * j + 1 + 1 := by omega
      rw [e1]
      simp only [List.getD_cons_succ]
      exact ⟨a, b⟩
theorem uh_hex (t : List UInt8) : UhRes ⟨(hexL t).toArray⟩ ⟨t.toArray⟩ true := by
  have hs : (ByteArray.mk (hexL t).toArray).size = 2 * t.length := by rw [size_mk, hexL_length]
  have hg : ∀ j, gb ⟨(hexL t).toArray⟩ j = (hexL t).getD j 0 := fun j => by simp [gb]
  have hlo : ∀ j, j < t.length → hv (gb ⟨(hexL t).toArray⟩ (2 * j)) = (((t.getD j 0).toNat / 16 : Nat) : Int) ∧ hv (gb ⟨(hexL t).toArray⟩ (2 * j + 1)) = (((t.getD j 0).toNat % 16 : Nat) : Int) := by
    intro j hj
    obtain ⟨a, b⟩ := hex_get t j hj
    have hc : (t.getD j 0).toNat < 256 := (t.getD j 0).toNat_lt
    rw [hg, hg, a, b]
    exact ⟨hv_hexd ⟨(t.getD j 0).toNat / 16, by omega⟩, hv_hexd ⟨(t.getD j 0).toNat % 16, by omega⟩⟩
  have hd : (ByteArray.mk (hexL t).toArray).size / 2 = t.length := by omega
  refine .inl ⟨rfl, by omega, ?_, ?_⟩
  · rw [hd]
    intro j hj
    obtain ⟨a, b⟩ := hlo (j / 2) (by omega)
    by_cases h2 : j % 2 = 0
    · rw [show j = 2 * (j / 2) by omega, a]; omega
    · rw [show j = 2 * (j / 2) + 1 by omega, b]; omega
  · rw [hd]
    congr 2
    unfold unhTo
    apply List.ext_getElem
    · simp
    · intro j h1 h2
      simp only [List.getElem_map, List.getElem_range]
      obtain ⟨a, b⟩ := hlo j h1
      have e : t.getD j 0 = t[j] := by simp [List.getD, h1]
      rw [a, b, e]
      have h3 : (16 * ((t[j].toNat / 16 : Nat) : Int) + ((t[j].toNat % 16 : Nat) : Int)).toNat = t[j].toNat := by omega
      rw [h3]; simp
end Go.Proofs.YtgfapncaddgmpaaDoor.Num
