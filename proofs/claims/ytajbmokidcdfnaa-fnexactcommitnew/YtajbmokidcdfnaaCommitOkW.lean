/- CommitOk, as written and as specified. -/
import Derived.Test.YtajbmokidcdfnaaCommitL
import Derived.Test.YtajbmokidcdfnaaLogImpl
import Derived.BigQuiet
set_option linter.unusedVariables false
set_option linter.unusedSimpArgs false
namespace Go.Proofs.Ytajbmokidcdfnaa
open Go.RowKit
namespace Commits
open Bas Flat Logs

theorem ret_rises {zs : List Int} {b : Bool} (h : rises zs = b) : Ending.returned (.bool b) = .returned (.bool (rises zs)) := by rw [h]
theorem open_ints' {B : Nat} {w : World} {a : Option Addr} {n cap : Nat} {zs : List Int} (h : Ints.Sees B w (.slice a n cap) zs) (hn : 0 < zs.length) : ∃ b off, a = some ⟨b, off, none⟩ ∧ b < B ∧ ∀ j (h : j < zs.length), w.cell? ⟨b, off + j, none⟩ = some (.int .i64 zs[j]) := by
  obtain ⟨a', cap', e, -, -, h3⟩ := h
  simp only [Value.slice.injEq] at e
  obtain ⟨rfl, -, -⟩ := e
  exact h3 (fun h => by simp [h] at hn)
theorem bdN {B : Nat} {a w : World} (h : Below B a w) (n : Nat) : Below B a (w.drewN n) := h.trans ⟨rfl, rfl, rfl, Nat.le_refl _, fun _ _ => rfl⟩
set_option maxRecDepth 100000 in
set_option maxHeartbeats 3200000 in
theorem specRising (v : Value) (zs : List Int) (B : Nat) (w : World) (hv : Ints.Sees B w v zs) (hB : B ≤ w.heap.size) :
    Calls Try.prog 52 #[v] w fun e w' => e = .returned (.bool (rises zs)) ∧ Below w.heap.size w w' := by
  obtain ⟨a, cap, rfl⟩ := hv.form
  have hm : (zs.length : Int) ≤ 9223372036854775807 := by obtain ⟨a', cap', e, h1, h2, h3⟩ := hv; unfold maxLen at h2; omega
  obtain ⟨n, hn⟩ : ∃ n, zs.length = n := ⟨_, rfl⟩
  obtain ⟨g, hg⟩ : ∃ g, w.heap.size = g := ⟨_, rfl⟩
  rw [hg] at hB ⊢
  rw [hn] at hm hv ⊢
  have b0 : Below g w w := Below.refl _ _
  go_enter Try.func52, Try.ntmps52
  go_wp2
  go_loopw [3] (fun i wr => ∃ k : Nat, k ≤ n ∧ i = .int .i64 k ∧ (∀ j, j < k → good zs j = true) ∧ Below g w wr) (fun i _ => n - (intOf i).toNat)
  case atStart => exact ⟨0, by omega, rfl, fun j h => by omega, b0⟩
  case round =>
    obtain ⟨k, hk, rfl, hall, hb⟩ := hrel
    clear b0
    by_cases hlt : k < n
    · obtain ⟨b, off, rfl, hbB, hc⟩ := open_ints' (hv.on hb hB) (by omega)
      have hkl : k < zs.length := by omega
      have a0 := hc k hkl
      obtain ⟨z, hz⟩ : ∃ z, zs[k] = z := ⟨_, rfl⟩
      rw [hz] at a0
      have HZ : Hid (zs[k] = z) := hz
      have HA : Hid (∀ j, j < k → good zs j = true) := hall
      have cC := fun W => Ops.cellC z W
      obtain ⟨p, hp⟩ : ∃ p, Ops.inn 0 7 z = p := ⟨_, rfl⟩
      rw [hp] at cC
      have HP : Hid (Ops.inn 0 7 z = p) := hp
      have i1 : (k : Int) < n := by omega
      have i0 : (0 : Int) ≤ k := by omega
      rcases Nat.eq_zero_or_pos k with h0 | h0
      · have HK : Hid (k = 0) := h0
        have i2 : decide ((0 : Int) < (k : Int)) = false := decide_eq_false (by omega)
        have i2' : decide (0 < k) = false := decide_eq_false (by omega)
        have i2'' : (k == 0) = true := by simp [h0]
        clear hz hc hall hp h0
        cases p
        · have HF : Hid (rises zs = false) := rises_one (j := k) hkl (good_cell hkl (by rw [HZ.out]; exact HP.out))
          go_wp2_with fail
          go_quiet ((go_at_call 103; exact Calls.quiet_of_same ((cC _).mono fun e w' h => ⟨h.1, h.2.symm⟩)))
          go_wp2
          go_ret
          exact ⟨ret_rises HF.out, bdN hb _⟩
        go_wp2_with fail
        go_quiet ((go_at_call 103; exact Calls.quiet_of_same ((cC _).mono fun e w' h => ⟨h.1, h.2.symm⟩)))
        go_wp2
        go_roundw
        case rel => exact ⟨k + 1, by omega, by go_num, fun j hjk => by
          rcases Nat.lt_succ_iff_lt_or_eq.1 hjk with h | h
          · exact HA.out j h
          · subst h
            have hk0 := HK.out
            subst hk0
            exact good_zero hkl (by rw [HZ.out]; exact HP.out), bdN hb _⟩
        case measure => simp [intOf]; omega
      · obtain ⟨m, rfl⟩ : ∃ m, k = m + 1 := ⟨k - 1, by omega⟩
        have hml : m < zs.length := by omega
        have a1 := hc m hml
        obtain ⟨y, hy⟩ : ∃ y, zs[m] = y := ⟨_, rfl⟩
        rw [hy] at a1
        have HY : Hid (zs[m] = y) := hy
        have HK1 : Hid (m + 1 < zs.length) := hkl
        have hge : ∀ (hzy : z ≤ y), rises zs = false := fun hzy => rises_one (j := m + 1) hkl (good_le hkl (by rw [HZ.out, HY.out]; exact hzy))
        have hgt : ∀ (hzy : ¬ z ≤ y), p = true → good zs (m + 1) = true := fun hzy hpt => good_lt hkl (by rw [HZ.out, HP.out, hpt]) (by rw [HZ.out, HY.out]; omega)
        have hgf : p = false → rises zs = false := fun hpf => rises_one (j := m + 1) hkl (good_cell hkl (by rw [HZ.out, HP.out, hpf]))
        have HGE := (show Hid _ from hge); have HGT := (show Hid _ from hgt); have HGF := (show Hid _ from hgf)
        obtain ⟨k', hk'⟩ : ∃ k', m + 1 = k' := ⟨_, rfl⟩
        have e1 : (k' : Int) - 1 = (m : Int) := by omega
        have HK2 : Hid (m + 1 = k') := hk'
        rw [hk'] at a0 i1 i0 hlt HA HGT hk ⊢
        have i2 : (0 : Int) < (k' : Int) := by omega
        have i2' : 0 < k' := by omega
        have i4 : (m : Int) < n := by omega
        have i5 : (0 : Int) ≤ m := by omega
        clear hz hc hall hp hy h0 hge hgt hgf hk'
        cases p
        · have HF : Hid (rises zs = false) := HGF.out rfl
          go_wp2_with fail
          go_quiet ((go_at_call 103; exact Calls.quiet_of_same ((cC _).mono fun e w' h => ⟨h.1, h.2.symm⟩)))
          go_wp2
          go_ret
          exact ⟨ret_rises HF.out, bdN hb _⟩
        by_cases hzy : z ≤ y
        · have HF : Hid (rises zs = false) := HGE.out hzy
          go_wp2_with fail
          go_quiet ((go_at_call 103; exact Calls.quiet_of_same ((cC _).mono fun e w' h => ⟨h.1, h.2.symm⟩)))
          go_wp2
          go_ret
          exact ⟨ret_rises HF.out, bdN hb _⟩
        have HF : Hid (good zs k' = true) := HGT.out hzy rfl
        go_wp2_with fail
        go_quiet ((go_at_call 103; exact Calls.quiet_of_same ((cC _).mono fun e w' h => ⟨h.1, h.2.symm⟩)))
        go_wp2
        go_roundw
        case rel => exact ⟨k' + 1, by omega, by go_num, fun j hjk => by
          rcases Nat.lt_succ_iff_lt_or_eq.1 hjk with h | h
          · exact HA.out j h
          · subst h; exact HF.out, bdN hb _⟩
        case measure => simp [intOf]; omega
    · obtain rfl : k = n := by omega
      have HT : Hid (rises zs = true) := rises_mk fun j hj => hall j (by omega)
      clear hall
      go_wp2
      go_ret
      exact ⟨ret_rises HT.out, hb⟩

/-- the least that the next cell may be -/
def least (zs : List Int) (k : Nat) : Int := if k = 0 then 0 else zs.getD (k - 1) 0 + 1
theorem least_next {zs : List Int} {k : Nat} (h : k < zs.length) : least zs (k + 1) = zs[k] + 1 := by
  unfold least
  rw [if_neg (by omega), show zs.getD (k + 1 - 1) 0 = zs[k] by simp [List.getD, h]]
theorem good_least {zs : List Int} {k : Nat} (h : k < zs.length) (h0 : Ops.inn 0 7 zs[k] = true) : good zs k = decide (least zs k ≤ zs[k]) := by
  cases k with
  | zero =>
    rw [good_zero h h0]
    unfold Ops.inn at h0
    simp at h0
    simp [least]
    omega
  | succ m =>
    rw [least_next (by omega)]
    by_cases hl : zs[m] < zs[m + 1]
    · rw [good_lt h h0 hl, decide_eq_true (by omega)]
    · rw [good_le h (by omega), decide_eq_false (by omega)]
theorem least_near {zs : List Int} {k : Nat} (h : ∀ j, j < k → good zs j = true) (hk : k ≤ zs.length) : 0 ≤ least zs k ∧ least zs k ≤ 8 := by
  cases k with
  | zero => simp [least]
  | succ m =>
    rw [least_next (by omega)]
    have := good_out (by omega) (h m (by omega))
    unfold Ops.inn at this
    simp at this
    omega
set_option maxRecDepth 100000 in
set_option maxHeartbeats 1600000 in
theorem implRise (v : Value) (zs : List Int) (B : Nat) (w : World) (hv : Ints.Sees B w v zs) :
    Calls Try.prog 57 #[v] w fun e w' => e = .returned (.bool (rises zs)) ∧ w = w' := by
  obtain ⟨a, cap, rfl, h1, h2, h3⟩ := hv
  have hm : (zs.length : Int) ≤ 9223372036854775807 := by unfold maxLen at h2; omega
  obtain ⟨n, hn⟩ : ∃ n, zs.length = n := ⟨_, rfl⟩
  rw [hn] at hm ⊢
  clear h1 h2
  go_enter Try.func57, Try.ntmps57
  go_wp2
  go_loop [3, 8] (fun l i => ∃ k : Nat, k ≤ n ∧ i = .int .i64 k ∧ l = .int .i64 (least zs k) ∧ (∀ j, j < k → good zs j = true)) (fun _ i => n - (intOf i).toNat)
  case atStart => exact ⟨0, by omega, rfl, rfl, fun j h => by omega⟩
  case round =>
    obtain ⟨k, hk, rfl, rfl, hall⟩ := hrel
    by_cases hlt : k < n
    · obtain ⟨b, off, rfl, hbB, hc⟩ := h3 (fun h => by simp [h] at hn; omega)
      have hkl : k < zs.length := by omega
      have a0 := hc k hkl
      have hnear := least_near hall (by omega)
      have hnext := least_next hkl
      have hgl := good_least hkl
      obtain ⟨z, hz⟩ : ∃ z, zs[k] = z := ⟨_, rfl⟩
      obtain ⟨l, hl⟩ : ∃ l, least zs k = l := ⟨_, rfl⟩
      rw [hz] at a0 hnext hgl
      rw [hl] at hnear hgl
      rw [hl]
      have HN : Hid (least zs (k + 1) = z + 1) := hnext
      have HG : Hid (Ops.inn 0 7 z = true → good zs k = decide (l ≤ z)) := hgl
      have HZ : Hid (zs[k] = z) := hz
      have HA : Hid (∀ j, j < k → good zs j = true) := hall
      have cC := isCellC z w
      obtain ⟨p, hp⟩ : ∃ p, Ops.inn 0 7 z = p := ⟨_, rfl⟩
      rw [hp] at cC
      have HP : Hid (Ops.inn 0 7 z = p) := hp
      have i1 : (k : Int) < n := by omega
      clear hz hc h3 hall hp hl hnext hgl
      cases p
      · have HF : Hid (rises zs = false) := rises_one (j := k) hkl (good_cell hkl (by rw [HZ.out]; exact HP.out))
        go_wp2_with (go_at_call 104; refine cC.mono ?_; rintro e w1 ⟨rfl, rfl⟩)
        go_ret
        exact ⟨ret_rises HF.out, rfl⟩
      have hz7 : 0 ≤ z ∧ z ≤ 7 := by have := HP.out; unfold Ops.inn at this; simp at this; omega
      obtain ⟨hz0, hz7⟩ := hz7
      by_cases hzl : z < l
      · have HF : Hid (rises zs = false) := rises_one (j := k) hkl (by rw [HG.out HP.out]; exact decide_eq_false (by omega))
        go_wp2_with (go_at_call 104; refine cC.mono ?_; rintro e w1 ⟨rfl, rfl⟩)
        go_ret
        exact ⟨ret_rises HF.out, rfl⟩
      go_wp2_with (go_at_call 104; refine cC.mono ?_; rintro e w1 ⟨rfl, rfl⟩)
      go_round
      case rel => exact ⟨k + 1, by omega, by go_num, by rw [HN.out], fun j hjk => by
        rcases Nat.lt_succ_iff_lt_or_eq.1 hjk with h | h
        · exact HA.out j h
        · subst h; rw [HG.out HP.out]; exact decide_eq_true (by omega)⟩
      case measure => simp [intOf]; omega
    · obtain rfl : k = n := by omega
      have HT : Hid (rises zs = true) := rises_mk fun j hj => hall j (by omega)
      have i1 : ¬ (k : Int) < k := by omega
      clear hall h3
      go_wp2
      go_ret
      exact ⟨ret_rises HT.out, rfl⟩
theorem clockC (x : Int) (w : World) : Calls Try.prog 55 #[.int .i64 x] w fun e w' => e = .returned (.bool (Ops.inn 0 1000000 x)) ∧ w = w' := by
  unfold Ops.inn
  by_cases h1 : 0 ≤ x
  · have h1' : decide (0 ≤ x) = true := decide_eq_true h1
    go_enter Try.func55, Try.ntmps55
    go_wp2
    go_ret
    exact ⟨by simp [h1], rfl⟩
  · have h1' : decide (0 ≤ x) = false := decide_eq_false h1
    go_enter Try.func55, Try.ntmps55
    go_wp2
    go_ret
    exact ⟨by simp, rfl⟩
theorem ownerC (x : Int) (w : World) : Calls Try.prog 54 #[.int .i64 x] w fun e w' => e = .returned (.bool (Ops.inn 1 99 x)) ∧ w = w' := by
  unfold Ops.inn
  by_cases h1 : 1 ≤ x
  · have h1' : decide (1 ≤ x) = true := decide_eq_true h1
    go_enter Try.func54, Try.ntmps54
    go_wp2
    go_ret
    exact ⟨by simp [h1], rfl⟩
  · have h1' : decide (1 ≤ x) = false := decide_eq_false h1
    go_enter Try.func54, Try.ntmps54
    go_wp2
    go_ret
    exact ⟨by simp, rfl⟩
end Commits
end Go.Proofs.Ytajbmokidcdfnaa
