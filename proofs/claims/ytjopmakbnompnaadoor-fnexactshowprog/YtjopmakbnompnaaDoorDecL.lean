/- Plain mathematics: numbers in decimal digits, and texts read as such numbers. -/
import Derived.Lib.ItoaMem
import Derived.Lib.ItoaLen
import Derived.Lib.AtoiAll
namespace Go.Proofs.YtjopmakbnompnaaDoor.Num

/-- the k lowest digits, the highest of them first -/
def decTo (n : Nat) : Nat → List UInt8
  | 0 => []
  | k + 1 => UInt8.ofNat (48 + n / 10 ^ k % 10) :: decTo n k
theorem decTo_low (n : Nat) : ∀ k, decTo n (k + 1) = decTo (n / 10) k ++ [UInt8.ofNat (48 + n % 10)]
  | 0 => by simp [decTo]
  | k + 1 => by
    have h := decTo_low n k
    rw [decTo, h, decTo]
    have e : n / 10 ^ (k + 1) = n / 10 / 10 ^ k := by rw [Nat.pow_succ, Nat.mul_comm, Nat.div_div_eq_div_mul]
    rw [e]; rfl
theorem decTo_length (n k : Nat) : (decTo n k).length = k := by induction k with
  | zero => rfl
  | succ k ih => simp [decTo, ih]
theorem dstep (n i : Nat) : n / 10 ^ (i + 1) = n / 10 ^ i / 10 := by rw [Nat.pow_succ, Nat.div_div_eq_div_mul]

theorem decTo_all : ∀ k n, n ≠ 0 → (∀ j, j < k → n / 10 ^ j ≠ 0) → n / 10 ^ k = 0 → decTo n k = Lib.decDigits n
  | 0, n, h0, _, h2 => by simp at h2; exact absurd h2 h0
  | k + 1, n, h0, h1, h2 => by
    rw [decTo_low, Lib.decDigits]
    have e : ∀ j, n / 10 / 10 ^ j = n / 10 ^ (j + 1) := by intro j; rw [Nat.pow_succ, Nat.mul_comm, Nat.div_div_eq_div_mul]
    by_cases h : n < 10
    · rw [dif_pos h]
      have hk : k = 0 := by
        rcases Nat.eq_zero_or_pos k with h3 | h3
        · exact h3
        · exfalso
          apply h1 1 (by omega)
          simp; exact h
      subst hk
      have : n % 10 = n := by omega
      simp [decTo, this]
    · rw [dif_neg h]
      have := decTo_all k (n / 10) (by omega) (fun j hj => by rw [e]; exact h1 (j + 1) (by omega)) (by rw [e]; exact h2)
      rw [this]

theorem dk_lt (n k : Nat) (hn : n ≤ 9223372036854775808) (h : n / 10 ^ k ≠ 0) : k < 20 := by
  rcases Nat.lt_or_ge k 20 with h1 | h1
  · exact h1
  · exfalso
    apply h
    have h2 : (10 : Nat) ^ 20 ≤ 10 ^ k := Nat.pow_le_pow_right (by omega) h1
    have h3 : (10 : Nat) ^ 20 = 100000000000000000000 := by decide
    exact Nat.div_eq_of_lt (by omega)

/-! ### a text's digits, added up -/
def isDig (c : UInt8) : Bool := 48 ≤ c.toNat && c.toNat ≤ 57
/-- the number of all digits in a list, and how many they are -/
def dsum : List UInt8 → Nat → Nat
  | [], n => n
  | c :: r, n => dsum r (if isDig c then n * 10 + (c.toNat - 48) else n)
def dcnt : List UInt8 → Nat
  | [] => 0
  | c :: r => (if isDig c then 1 else 0) + dcnt r
theorem dsum_append (a b : List UInt8) (n : Nat) : dsum (a ++ b) n = dsum b (dsum a n) := by
  induction a generalizing n with
  | nil => rfl
  | cons c r ih => exact ih _
theorem dcnt_append (a b : List UInt8) : dcnt (a ++ b) = dcnt a + dcnt b := by
  induction a with
  | nil => simp [dcnt]
  | cons c r ih => rw [List.cons_append, dcnt, dcnt, ih]; omega
theorem dcnt_le (l : List UInt8) : dcnt l ≤ l.length := by
  induction l with
  | nil => simp [dcnt]
  | cons c r ih => rw [dcnt, List.length_cons]; split <;> omega
theorem dsum_lt (l : List UInt8) : ∀ n, dsum l n < (n + 1) * 10 ^ dcnt l := by
  induction l with
  | nil => intro n; simp [dsum, dcnt]
  | cons c r ih =>
    intro n
    have h := ih (if isDig c then n * 10 + (c.toNat - 48) else n)
    rw [dsum, dcnt]
    by_cases hd : isDig c = true
    · rw [if_pos hd] at h
      rw [if_pos hd, if_pos hd, Nat.add_comm 1, Nat.pow_succ]
      have h2 : c.toNat - 48 ≤ 9 := by simp [isDig] at hd; omega
      calc dsum r (n * 10 + (c.toNat - 48)) < (n * 10 + (c.toNat - 48) + 1) * 10 ^ dcnt r := h
        _ ≤ ((n + 1) * 10) * 10 ^ dcnt r := Nat.mul_le_mul_right _ (by omega)
        _ = (n + 1) * (10 ^ dcnt r * 10) := by rw [Nat.mul_assoc, Nat.mul_comm 10]
    · rw [if_neg hd] at h
      rw [if_neg hd, if_neg hd, Nat.zero_add]; exact h
theorem dig_isDig (d : Nat) (h : d < 10) : isDig (UInt8.ofNat (48 + d)) = true ∧ (UInt8.ofNat (48 + d)).toNat = 48 + d := by
  have : (UInt8.ofNat (48 + d)).toNat = 48 + d := by simp; omega
  refine ⟨?_, this⟩
  unfold isDig
  rw [this]
  simp; omega
theorem dsum_one (c : UInt8) (n : Nat) (h : isDig c = true) : dsum [c] n = n * 10 + (c.toNat - 48) := by simp [dsum, h]
theorem dcnt_one (c : UInt8) (h : isDig c = true) : dcnt [c] = 1 := by simp [dcnt, h]

theorem decDigits_ind {P : Nat → Prop} (h1 : ∀ n, n < 10 → P n) (h2 : ∀ n, 10 ≤ n → P (n / 10) → P n) : ∀ n, P n := by
  intro n
  induction n using Nat.strongRecOn with
  | ind n ih =>
    by_cases h : n < 10
    · exact h1 n h
    · exact h2 n (by omega) (ih (n / 10) (by omega))

theorem dsum_dec : ∀ n, dsum (Lib.decDigits n) 0 = n := by
  apply decDigits_ind
  · intro n h
    rw [Lib.decDigits, dif_pos h]
    obtain ⟨a, b⟩ := dig_isDig n h
    rw [dsum_one _ _ a, b]; omega
  · intro n h ih
    rw [Lib.decDigits, dif_neg (by omega), dsum_append, ih]
    obtain ⟨a, b⟩ := dig_isDig (n % 10) (by omega)
    rw [dsum_one _ _ a, b]; omega
theorem dcnt_dec : ∀ n, dcnt (Lib.decDigits n) = (Lib.decDigits n).length := by
  apply decDigits_ind
  · intro n h
    rw [Lib.decDigits, dif_pos h]
    rw [dcnt_one _ (dig_isDig n h).1]; rfl
  · intro n h ih
    rw [Lib.decDigits, dif_neg (by omega), dcnt_append, ih]
    rw [dcnt_one _ (dig_isDig (n % 10) (by omega)).1, List.length_append]; rfl
theorem dec_len : ∀ n k, 1 ≤ k → n < 10 ^ k → (Lib.decDigits n).length ≤ k := by
  intro n
  induction n using Nat.strongRecOn with
  | ind n ih =>
    intro k hk h
    rw [Lib.decDigits]
    by_cases h10 : n < 10
    · rw [dif_pos h10]; simp; exact hk
    · rw [dif_neg h10]
      obtain ⟨m, rfl⟩ : ∃ m, k = m + 1 := ⟨k - 1, by omega⟩
      rw [Nat.pow_succ] at h
      have hm : 1 ≤ m := by
        rcases Nat.eq_zero_or_pos m with h3 | h3
        · subst h3; simp at h; omega
        · exact h3
      have := ih (n / 10) (by omega) m hm (by omega)
      simp; omega
theorem dec_ne : ∀ n, Lib.decDigits n ≠ [] := by
  intro n; rw [Lib.decDigits]; split <;> simp
theorem dec_all : ∀ n, ∀ c ∈ Lib.decDigits n, isDig c = true := by
  apply decDigits_ind
  · intro n h c hc
    rw [Lib.decDigits, dif_pos h] at hc
    rw [List.mem_singleton.1 hc]; exact (dig_isDig n h).1
  · intro n h ih c hc
    rw [Lib.decDigits, dif_neg (by omega)] at hc
    rcases List.mem_append.1 hc with h1 | h1
    · exact ih c h1
    · rw [List.mem_singleton.1 h1]; exact (dig_isDig (n % 10) (by omega)).1

/-! ### Atoi reads back what Itoa makes -/
theorem pu_dig (l : List UInt8) : ∀ acc, (∀ c ∈ l, isDig c = true) → dsum l acc < 18446744073709551616 → Lib.parseUint10 acc l = .ok (dsum l acc) := by
  induction l with
  | nil => intro acc _ _; rfl
  | cons c r ih =>
    intro acc h1 h2
    have hc : isDig c = true := h1 c (by simp)
    have hc' : 48 ≤ c.toNat ∧ c.toNat ≤ 57 := by simpa [isDig] using hc
    have hs : dsum (c :: r) acc = dsum r (acc * 10 + (c.toNat - 48)) := by rw [dsum, if_pos hc]
    have hmono : ∀ (l : List UInt8) (a : Nat), a ≤ dsum l a := by
      intro l
      induction l with
      | nil => intro a; exact Nat.le_refl _
      | cons d q ihq =>
        intro a
        rw [dsum]
        refine Nat.le_trans ?_ (ihq _)
        split <;> omega
    have hle := hmono r (acc * 10 + (c.toNat - 48))
    rw [hs] at h2
    have hr := ih (acc * 10 + (c.toNat - 48)) (fun d hd => h1 d (by simp [hd])) h2
    rw [hs]
    unfold Lib.parseUint10
    rw [if_pos hc', if_neg (by omega), if_neg (by omega)]
    exact hr

theorem dec_head (n : Nat) : ∃ c r, Lib.decDigits n = c :: r ∧ isDig c = true := by
  cases h : Lib.decDigits n with
  | nil => exact absurd h (dec_ne n)
  | cons c r => exact ⟨c, r, rfl, dec_all n c (by rw [h]; simp)⟩
theorem isDig_not {c : UInt8} (h : isDig c = true) : c.toNat ≠ 43 ∧ c.toNat ≠ 45 := by simp [isDig] at h; omega
theorem mag_dec (n : Nat) (h : n < 18446744073709551616) : Lib.parseMag (Lib.decDigits n) = .ok n := by
  unfold Lib.parseMag
  rw [if_neg (dec_ne n), pu_dig _ 0 (dec_all n) (by rw [dsum_dec]; exact h), dsum_dec]
theorem atoi_itoa (m : Int) (h0 : -9223372036854775808 ≤ m) (h1 : m ≤ 9223372036854775807) : Lib.atoiAll (Lib.itoa m) = .ok m := by
  by_cases hm : m < 0
  · obtain ⟨u, rfl⟩ : ∃ u : Nat, m = -(u : Int) := ⟨m.natAbs, by omega⟩
    rw [Lib.itoa_neg u (by omega)]
    have e := mag_dec u (by omega)
    have e45 : (45 : UInt8).toNat = 45 := rfl
    have hu : ¬ (9223372036854775808 < u) := by omega
    simp [Lib.atoiAll, e45, e, hu]
  · obtain ⟨u, rfl⟩ := Int.eq_ofNat_of_zero_le (show 0 ≤ m by omega)
    rw [Lib.itoa_nonneg u]
    obtain ⟨c, r, hcr, hc⟩ := dec_head u
    have e := mag_dec u (by omega)
    rw [hcr] at e ⊢
    have hne := isDig_not hc
    have hu : ¬ (9223372036854775808 ≤ u) := by omega
    simp [Lib.atoiAll, hne.1, hne.2, e, hu]
theorem itoa_inj (a b : Int) (ha : -9223372036854775808 ≤ a ∧ a ≤ 9223372036854775807) (hb : -9223372036854775808 ≤ b ∧ b ≤ 9223372036854775807) (h : Lib.itoa a = Lib.itoa b) : a = b := by
  have h1 := atoi_itoa a ha.1 ha.2
  have h2 := atoi_itoa b hb.1 hb.2
  rw [h] at h1
  rw [h1] at h2
  injection h2

/-- what ReadDec tells -/
def RdRes (l : List UInt8) (n : Int) (b : Bool) : Prop :=
  (b = true ∧ -999999999 ≤ n ∧ n ≤ 999999999 ∧ Lib.itoa n = l) ∨ (b = false ∧ n = 0 ∧ ∀ m, -999999999 ≤ m → m ≤ 999999999 → Lib.itoa m ≠ l)
theorem RdRes.unique {l : List UInt8} {n n' : Int} {b b' : Bool} (h : RdRes l n b) (h' : RdRes l n' b') : n = n' ∧ b = b' := by
  rcases h with ⟨rfl, a1, a2, a3⟩ | ⟨rfl, rfl, a⟩ <;> rcases h' with ⟨rfl, b1, b2, b3⟩ | ⟨rfl, rfl, b⟩
  · exact ⟨itoa_inj n n' (by omega) (by omega) (a3.trans b3.symm), rfl⟩
  · exact absurd a3 (b n a1 a2)
  · exact absurd b3 (a n' b1 b2)
  · exact ⟨rfl, rfl⟩
theorem rd_err {l : List UInt8} (h : ∀ v, Lib.atoiAll l ≠ .ok v) : RdRes l 0 false := by
  refine .inr ⟨rfl, rfl, fun m h1 h2 e => ?_⟩
  exact h m (by rw [← e]; exact atoi_itoa m (by omega) (by omega))
theorem rd_out {l : List UInt8} {v : Int} (h : Lib.atoiAll l = .ok v) (hv : v < -999999999 ∨ 999999999 < v) : RdRes l 0 false := by
  refine .inr ⟨rfl, rfl, fun m h1 h2 e => ?_⟩
  have := atoi_itoa m (by omega) (by omega)
  rw [e, h] at this
  injection this with this
  omega
theorem rd_ne {l : List UInt8} {v : Int} (h : Lib.atoiAll l = .ok v) (hv : Lib.itoa v ≠ l) : RdRes l 0 false := by
  refine .inr ⟨rfl, rfl, fun m h1 h2 e => ?_⟩
  have := atoi_itoa m (by omega) (by omega)
  rw [e, h] at this
  injection this with this
  exact hv (by rw [this]; exact e)

/-! ### what spec.ReadDec makes of a text: the digits of its first eleven bytes, the sign by its first byte -/
def specNum (l : List UInt8) : Int := if l.head? = some 45 then -(dsum (l.take 11) 0 : Int) else dsum (l.take 11) 0
theorem spec_yes {l : List UInt8} (hk : dcnt (l.take 11) ≤ 9) (h : Lib.itoa (specNum l) = l) : RdRes l (specNum l) true := by
  have h1 := dsum_lt (l.take 11) 0
  have h2 : 10 ^ dcnt (l.take 11) ≤ 10 ^ 9 := Nat.pow_le_pow_right (by omega) hk
  have h3 : (10 : Nat) ^ 9 = 1000000000 := by decide
  refine .inl ⟨rfl, ?_, ?_, h⟩ <;> (unfold specNum; split <;> omega)
theorem spec_of (m : Int) (h0 : -999999999 ≤ m) (h1 : m ≤ 999999999) : specNum (Lib.itoa m) = m ∧ dcnt ((Lib.itoa m).take 11) ≤ 9 ∧ (Lib.itoa m).length ≤ 10 := by
  by_cases hm : m < 0
  · obtain ⟨u, rfl⟩ : ∃ u : Nat, m = -(u : Int) := ⟨m.natAbs, by omega⟩
    have hl := dec_len u 9 (by omega) (by omega)
    rw [Lib.itoa_neg u (by omega)]
    have e : (45 :: Lib.decDigits u).take 11 = 45 :: Lib.decDigits u := List.take_of_length_le (by simp; omega)
    have d45 : isDig 45 = false := by decide
    refine ⟨?_, ?_, by simp; omega⟩
    · unfold specNum
      rw [e, if_pos (by simp), dsum, d45, if_neg (by simp), dsum_dec]
    · rw [e, dcnt, d45, if_neg (by simp), dcnt_dec]; omega
  · obtain ⟨u, rfl⟩ := Int.eq_ofNat_of_zero_le (show 0 ≤ m by omega)
    have hl := dec_len u 9 (by omega) (by omega)
    rw [Lib.itoa_nonneg u]
    have e : (Lib.decDigits u).take 11 = Lib.decDigits u := List.take_of_length_le (by omega)
    obtain ⟨c, r, hcr, hc⟩ := dec_head u
    have hne := isDig_not hc
    refine ⟨?_, by rw [e, dcnt_dec]; omega, by omega⟩
    unfold specNum
    rw [e, dsum_dec, if_neg]
    rw [hcr]; intro h; simp at h; rw [h] at hne; exact hne.2 rfl
theorem spec_no {l : List UInt8} (h : 9 < dcnt (l.take 11) ∨ 10 < l.length ∨ Lib.itoa (specNum l) ≠ l) : RdRes l 0 false := by
  refine .inr ⟨rfl, rfl, fun m h0 h1 e => ?_⟩
  subst e
  obtain ⟨a, b, c⟩ := spec_of m h0 h1
  rcases h with h | h | h
  · omega
  · omega
  · exact h (by rw [a])
end Go.Proofs.YtjopmakbnompnaaDoor.Num
