/- Plain mathematics: which lists of bytes are the text of a number in bytes of seven bits, and of which. -/
import Derived.Test.YtgfapncaddgmpaaDoorVarL
namespace Go.Proofs.YtgfapncaddgmpaaDoor.Num

/-- the number of a list of bytes of seven bits, the lowest first -/
def lev : List UInt8 → Nat
  | [] => 0
  | c :: r => c.toNat % 128 + 128 * lev r
/-- it is the text of a number -/
def isV : List UInt8 → Prop
  | [] => False
  | c :: r => (r = [] ∧ c.toNat < 128) ∨ (r ≠ [] ∧ 128 ≤ c.toNat ∧ isV r ∧ r ≠ [0])

theorem lev_lt (l : List UInt8) : lev l < 128 ^ l.length := by
  induction l with
  | nil => simp [lev]
  | cons c r ih => rw [lev, List.length_cons, Nat.pow_succ]; have := Nat.mod_lt c.toNat (show 0 < 128 by omega); omega

theorem lev_small (l : List UInt8) (h : l.length ≤ 7) : lev l ≤ 562949953421311 := by
  have h1 := lev_lt l
  have h2 : 128 ^ l.length ≤ 128 ^ 7 := Nat.pow_le_pow_right (by omega) h
  have h3 : (128 : Nat) ^ 7 = 562949953421312 := by decide
  omega

theorem isV_pos (l : List UInt8) (h : isV l) (h0 : l ≠ [0]) : 1 ≤ lev l := by
  induction l with
  | nil => exact absurd h (by simp [isV])
  | cons c r ih =>
    rw [lev]
    rcases h with ⟨rfl, h1⟩ | ⟨_, h2, h3, h4⟩
    · have : c.toNat ≠ 0 := by
        intro e
        apply h0
        have : c = 0 := by apply UInt8.toNat_inj.1; simpa using e
        rw [this]
      omega
    · have := ih h3 h4; omega

theorem vb_lev (f : Nat) : ∀ l, isV l → l.length ≤ f + 1 → vb f (lev l) = l := by
  induction f with
  | zero =>
    intro l h hl
    match l, h, hl with
    | [c], h, _ =>
      rcases h with ⟨_, h1⟩ | ⟨h2, _⟩
      · simp only [lev, vb]
        have : c.toNat % 128 + 128 * 0 = c.toNat := by omega
        rw [this]; simp
      · exact absurd rfl h2
    | c :: d :: r, _, hl => simp at hl
  | succ f ih =>
    intro l h hl
    match l, h, hl with
    | c :: r, h, hl =>
      rcases h with ⟨rfl, h1⟩ | ⟨_, h2, h3, h4⟩
      · have e : lev [c] = c.toNat := by simp [lev]; omega
        rw [e, vb, if_pos h1]; simp
      · have hp := isV_pos r h3 h4
        have h5 : ¬ lev (c :: r) < 128 := by rw [lev]; omega
        rw [vb, if_neg h5]
        have h6 : lev (c :: r) / 128 = lev r := by rw [lev]; omega
        have h7 : 128 + lev (c :: r) % 128 = c.toNat := by rw [lev]; have := c.toNat_lt; omega
        rw [h6, h7, ih r h3 (by simpa using hl)]; simp

theorem isV_vb (f : Nat) : ∀ n, n < 128 ^ (f + 1) → isV (vb f n) := by
  induction f with
  | zero => intro n h; simp at h; exact .inl ⟨rfl, by simp; omega⟩
  | succ f ih =>
    intro n h
    rw [vb]
    split
    · rename_i h1; exact .inl ⟨rfl, by simp; omega⟩
    · rename_i h1
      have h2 : n / 128 < 128 ^ (f + 1) := by rw [Nat.pow_succ] at h; omega
      refine .inr ⟨?_, by simp; omega, ih _ h2, ?_⟩
      · cases f <;> simp [vb]; split <;> simp
      · intro e
        cases f with
        | zero => simp [vb] at e h2; have := congrArg UInt8.toNat e; simp at this; omega
        | succ f =>
          rw [vb] at e
          split at e
          · simp at e; have := congrArg UInt8.toNat e; simp at this; omega
          · cases f <;> simp [vb] at e
            split at e <;> simp at e

theorem isV_iff (l : List UInt8) : isV l ↔ ∃ k, l.length = k + 1 ∧ (∀ j, j < k → 128 ≤ (l.getD j 0).toNat) ∧ (l.getD k 0).toNat < 128 ∧ (k = 0 ∨ (l.getD k 0).toNat ≠ 0) := by
  induction l with
  | nil => simp [isV]
  | cons c r ih =>
    constructor
    · rintro (⟨rfl, h⟩ | ⟨_, h2, h3, h4⟩)
      · exact ⟨0, rfl, fun j hj => by omega, by simpa using h, .inl rfl⟩
      · obtain ⟨k, e, g1, g2, g3⟩ := ih.1 h3
        refine ⟨k + 1, by simp [e], fun j hj => ?_, by simpa using g2, .inr ?_⟩
        · cases j with
          | zero => simpa using h2
          | succ j => simpa using g1 j (by omega)
        · rcases g3 with rfl | g3
          · intro e0
            apply h4
            match r, e with
            | [d], _ =>
              simp at e0
              have : d = 0 := by apply UInt8.toNat_inj.1; simpa using e0
              rw [this]
          · simpa using g3
    · rintro ⟨k, e, g1, g2, g3⟩
      cases k with
      | zero =>
        simp at e; subst e
        exact .inl ⟨rfl, by simpa using g2⟩
      | succ k =>
        have hr : r.length = k + 1 := by simpa using e
        refine .inr ⟨by intro e0; simp [e0] at hr, by simpa using g1 0 (by omega), ih.2 ⟨k, hr, fun j hj => by simpa using g1 (j + 1) (by omega), by simpa using g2, ?_⟩, ?_⟩
        · right; rcases g3 with g3 | g3
          · omega
          · simpa using g3
        · intro e0
          subst e0
          obtain rfl : k = 0 := by simpa using hr.symm
          rcases g3 with g3 | g3
          · omega
          · simp at g3

/-- the first k bytes -/
def pre (s : ByteArray) (k : Nat) : List UInt8 := s.data.toList.take k
theorem pre_length (s : ByteArray) (k : Nat) (h : k ≤ s.size) : (pre s k).length = k := by
  simp [pre]; omega
theorem pre_succ (s : ByteArray) (k : Nat) (h : k < s.size) : pre s (k + 1) = pre s k ++ [s[k]] := take_snoc s k h
theorem lev_snoc (l : List UInt8) (c : UInt8) : lev (l ++ [c]) = lev l + c.toNat % 128 * 128 ^ l.length := by
  induction l with
  | nil => simp [lev]
  | cons d r ih => rw [List.cons_append, lev, ih, lev, List.length_cons, Nat.pow_succ]; rw [Nat.mul_add, Nat.mul_comm (128 ^ r.length) 128, ← Nat.mul_assoc, ← Nat.mul_assoc, Nat.mul_comm 128 (c.toNat % 128)]; omega
theorem lev_pre_succ (s : ByteArray) (k : Nat) (h : k < s.size) : lev (pre s (k + 1)) = lev (pre s k) + s[k].toNat % 128 * 128 ^ k := by
  rw [pre_succ s k h, lev_snoc, pre_length s k (by omega)]
theorem pre_get (s : ByteArray) (k j : Nat) (h : k ≤ s.size) (hj : j < k) : (pre s k).getD j 0 = s[j] := by
  have h2 : j < s.data.toList.length := by simpa using (by omega : j < s.size)
  simp [pre, List.getD, hj, List.getElem?_eq_getElem h2]
  rfl

/-- what reading tells: a number and how many bytes -/
def Res (s : ByteArray) (n k : Nat) : Prop :=
  (k = 0 ∧ n = 0 ∧ ∀ j, 1 ≤ j → j ≤ 7 → j ≤ s.size → ¬ isV (pre s j)) ∨
  (1 ≤ k ∧ k ≤ 7 ∧ k ≤ s.size ∧ isV (pre s k) ∧ n = lev (pre s k) ∧ ∀ j, 1 ≤ j → j < k → ¬ isV (pre s j))
theorem Res.unique {s : ByteArray} {n k n' k' : Nat} (h : Res s n k) (h' : Res s n' k') : n = n' ∧ k = k' := by
  rcases h with ⟨rfl, rfl, a⟩ | ⟨a1, a2, a3, a4, rfl, a5⟩ <;> rcases h' with ⟨rfl, rfl, b⟩ | ⟨b1, b2, b3, b4, rfl, b5⟩
  · exact ⟨rfl, rfl⟩
  · exact absurd b4 (a _ b1 b2 b3)
  · exact absurd a4 (b _ a1 a2 a3)
  · have : k = k' := by
      rcases Nat.lt_trichotomy k k' with h | h | h
      · exact absurd a4 (b5 _ a1 h)
      · exact h
      · exact absurd b4 (a5 _ b1 h)
    subst this; exact ⟨rfl, rfl⟩

/-- all of the first k bytes have 128 added -/
def High (s : ByteArray) (k : Nat) : Prop := ∀ j, j < k → (h : j < s.size) → 128 ≤ s[j].toNat
theorem High.no {s : ByteArray} {k : Nat} (h : High s k) : ∀ j, 1 ≤ j → j ≤ k → j ≤ s.size → ¬ isV (pre s j) := by
  intro j h1 h2 h3 hv
  obtain ⟨m, e, _, g2, _⟩ := (isV_iff _).1 hv
  rw [pre_length s j h3] at e
  rw [pre_get s j m h3 (by omega)] at g2
  have := h m (by omega) (by omega)
  omega
theorem High.yes {s : ByteArray} {k : Nat} (h : High s k) (hk : k < s.size) (h1 : s[k].toNat < 128) (h2 : k = 0 ∨ s[k].toNat ≠ 0) : isV (pre s (k + 1)) := by
  refine (isV_iff _).2 ⟨k, pre_length s _ (by omega), fun j hj => ?_, ?_, ?_⟩
  · rw [pre_get s _ j (by omega) (by omega)]; exact h j hj (by omega)
  · rw [pre_get s _ k (by omega) (by omega)]; exact h1
  · rw [pre_get s _ k (by omega) (by omega)]; exact h2
theorem High.zero {s : ByteArray} {k : Nat} (hk : k < s.size) (h1 : s[k].toNat < 128) (h2 : k ≠ 0 → s[k].toNat = 0) (h0 : k ≠ 0) : ∀ j, k + 1 ≤ j → j ≤ s.size → ¬ isV (pre s j) := by
  intro j h3 h4 hv
  obtain ⟨m, e, g1, g2, g3⟩ := (isV_iff _).1 hv
  rw [pre_length s j h4] at e
  by_cases hm : m = k
  · subst hm
    rw [pre_get s j m h4 (by omega)] at g3
    rcases g3 with g3 | g3
    · exact h0 g3
    · exact g3 (h2 h0)
  · have := g1 k (by omega)
    rw [pre_get s j k h4 (by omega)] at this
    omega

theorem shl_eq (c k : Nat) : ((c % 128 : Nat) : Int) * 2 ^ (7 * (k : Int)).toNat = ((c % 128 * 128 ^ k : Nat) : Int) := by
  have e : (7 * (k : Int)).toNat = 7 * k := by omega
  have e2 : 2 ^ (7 * k) = 128 ^ k := by rw [Nat.pow_mul]
  rw [e, ← e2]; simp

/-- from place i to place k -/
def mid (s : ByteArray) (k i : Nat) : List UInt8 := (pre s k).drop i
theorem mid_full (s : ByteArray) (k : Nat) : mid s k 0 = pre s k := by simp [mid]
theorem mid_end (s : ByteArray) (k : Nat) (h : k ≤ s.size) : mid s k k = [] := by
  unfold mid; rw [List.drop_of_length_le (by rw [pre_length s k h]; omega)]
theorem mid_step (s : ByteArray) (k i : Nat) (h : k ≤ s.size) (hi : i < k) : mid s k i = s[i] :: mid s k (i + 1) := by
  unfold mid
  have hl : i < (pre s k).length := by rw [pre_length s k h]; exact hi
  rw [List.drop_eq_getElem_cons hl]
  congr 1
  have := pre_get s k i h hi
  rw [← this]; simp [List.getD, hl]
theorem lev_mid (s : ByteArray) (k i : Nat) (h : k ≤ s.size) (hi : i < k) : lev (mid s k i) = lev (mid s k (i + 1)) * 128 + s[i].toNat % 128 := by
  rw [mid_step s k i h hi, lev]; omega
theorem lev_mid_small (s : ByteArray) (k i : Nat) (hk : k ≤ 7) (hi : 1 ≤ i) : lev (mid s k i) ≤ 4398046511103 := by
  have h1 := lev_lt (mid s k i)
  have h0 : (mid s k i).length ≤ 6 := by simp [mid, pre]; omega
  have h2 : 128 ^ (mid s k i).length ≤ 128 ^ 6 := Nat.pow_le_pow_right (by omega) h0
  have h3 : (128 : Nat) ^ 6 = 4398046511104 := by decide
  omega
theorem pre_str (s : ByteArray) (k : Nat) (_h : k ≤ s.size) : s.extract 0 k = ⟨(pre s k).toArray⟩ := by
  apply ByteArray.ext
  rw [ByteArray.data_extract]
  apply Array.toList_inj.1
  simp [pre]
end Go.Proofs.YtgfapncaddgmpaaDoor.Num
