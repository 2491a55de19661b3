/- What an op makes of registers; right registers. -/
import Derived.Test.YtppikpdphcfomaaOpL
import Derived.Test.YtppikpdphcfomaaIntCopy
namespace Go.Proofs.Ytppikpdphcfomaa
open Go.RowKit
namespace Ops
open Bas

/-- registers are right -/
def regsOk (zs : List Int) : Bool := decide (zs.length = 4) && zs.all (inn 0 65535)
theorem regsOk_mk {zs : List Int} (h : zs.length = 4) (ha : ∀ j (h : j < zs.length), inn 0 65535 zs[j] = true) : regsOk zs = true := by
  unfold regsOk
  rw [Bool.and_eq_true]
  refine ⟨decide_eq_true h, List.all_eq_true.2 fun x hx => ?_⟩
  obtain ⟨j, hj, rfl⟩ := List.mem_iff_getElem.1 hx
  exact ha j hj
theorem regsOk_len {zs : List Int} (h : ¬ zs.length = 4) : regsOk zs = false := by unfold regsOk; rw [decide_eq_false h]; rfl
theorem regsOk_at {zs : List Int} {j : Nat} (hj : j < zs.length) (h : inn 0 65535 zs[j] = false) : regsOk zs = false := by
  unfold regsOk
  rw [Bool.and_eq_false_iff]
  exact .inr (List.all_eq_false.2 ⟨zs[j], List.getElem_mem hj, by simp [h]⟩)
theorem regsOk_out {zs : List Int} (h : regsOk zs = true) : zs.length = 4 ∧ ∀ j (h : j < zs.length), 0 ≤ zs[j] ∧ zs[j] ≤ 65535 := by
  unfold regsOk at h
  rw [Bool.and_eq_true] at h
  obtain ⟨h1, h2⟩ := h
  refine ⟨of_decide_eq_true h1, fun j hj => ?_⟩
  have := List.all_eq_true.1 h2 _ (List.getElem_mem hj)
  unfold inn at this
  simpa using this
theorem ret_regs {zs : List Int} {b : Bool} (h : regsOk zs = b) : Ending.returned (.bool b) = .returned (.bool (regsOk zs)) := by rw [h]

/-- what is reckoned of an op's fields and registers -/
def reck (k b c : Int) (zs : List Int) : Int :=
  if k = 1 then b
  else if k = 2 then (zs.getD b.toNat 0 + zs.getD c.toNat 0) % 65536
  else if k = 3 then (zs.getD b.toNat 0 - zs.getD c.toNat 0 + 65536) % 65536
  else if zs.getD b.toNat 0 < zs.getD c.toNat 0 then 1 else 0
/-- it is reckoned -/
def calcMay (k a b c : Int) (zs : List Int) : Bool := opOk k a b c && regsOk zs && decide (k ≤ 4)
def calcTo (k a b c : Int) (zs : List Int) : List Int := if calcMay k a b c zs = true then zs.set a.toNat (reck k b c zs) else zs
theorem calcTo_length (k a b c : Int) (zs : List Int) : (calcTo k a b c zs).length = zs.length := by unfold calcTo; split <;> simp
theorem calcTo_no {k a b c : Int} {zs : List Int} (h : calcMay k a b c zs = false) : calcTo k a b c zs = zs := by unfold calcTo; rw [h]; rfl
theorem calcTo_yes {k a b c : Int} {zs : List Int} (h : calcMay k a b c zs = true) : calcTo k a b c zs = zs.set a.toNat (reck k b c zs) := by unfold calcTo; rw [if_pos h]

set_option maxRecDepth 100000 in
theorem isValueC (x : Int) (w : World) : Calls Try.prog 76 #[.int .i64 x] w fun e w' => e = .returned (.bool (inn 0 65535 x)) ∧ w = w' := by
  unfold inn
  by_cases h1 : 0 ≤ x
  · have h1' : decide (0 ≤ x) = true := decide_eq_true h1
    go_enter Try.func76, Try.ntmps76
    go_wp2
    go_ret
    exact ⟨by simp [h1], rfl⟩
  · have h1' : decide (0 ≤ x) = false := decide_eq_false h1
    go_enter Try.func76, Try.ntmps76
    go_wp2
    go_ret
    exact ⟨by simp, rfl⟩

set_option maxRecDepth 100000 in
set_option maxHeartbeats 800000 in
theorem regsImpl (v : Value) (zs : List Int) (B : Nat) (w : World) (hv : Ints.Sees B w v zs) : Calls Try.prog 160 #[v] w fun e w' => e = .returned (.bool (regsOk zs)) ∧ w = w' := by
  obtain ⟨a, cap, rfl, h1, h2, h3⟩ := hv
  have hm : (zs.length : Int) ≤ 9223372036854775807 := by unfold maxLen at h2; omega
  by_cases h4 : zs.length = 4
  · rw [h4]
    clear hm h1 h2
    obtain ⟨b, off, rfl, -, hc⟩ := h3 (fun h => by simp [h] at h4)
    clear h3
    go_enter Try.func160, Try.ntmps160
    go_wp2
    go_loop [10] (fun i => ∃ k : Nat, k ≤ 4 ∧ i = .int .i64 k ∧ (∀ j (h : j < zs.length), j < k → inn 0 65535 zs[j] = true)) (fun i => 4 - (intOf i).toNat)
    case atStart => exact ⟨0, by omega, rfl, fun j _ h => by omega⟩
    case round =>
      obtain ⟨k, hk, rfl, hall⟩ := hrel
      by_cases hlt : k < 4
      · have a0 := hc k (by omega)
        obtain ⟨x, hx⟩ : ∃ x, zs[k] = x := ⟨_, rfl⟩
        rw [hx] at a0
        have HX : Hid (zs[k] = x) := hx
        have HA : Hid (∀ j (h : j < zs.length), j < k → inn 0 65535 zs[j] = true) := hall
        have cV := isValueC x w
        obtain ⟨q, hq⟩ : ∃ q, inn 0 65535 x = q := ⟨_, rfl⟩
        rw [hq] at cV
        have HQ : Hid (inn 0 65535 x = q) := hq
        clear hx hc hall hq
        cases q
        · go_wp2_with fail
          refine cV.mono ?_
          rintro e w1 ⟨rfl, rfl⟩
          go_wp2
          go_ret
          exact ⟨ret_regs (regsOk_at (j := k) (by omega) (by rw [HX.out]; exact HQ.out)), rfl⟩
        · go_wp2_with fail
          refine cV.mono ?_
          rintro e w1 ⟨rfl, rfl⟩
          go_wp2
          go_round
          case rel => exact ⟨k + 1, by omega, by go_num, fun j hj hjk => by
            rcases Nat.lt_succ_iff_lt_or_eq.1 hjk with h | h
            · exact HA.out j hj h
            · subst h; rw [HX.out]; exact HQ.out⟩
          case measure => simp [intOf]; omega
      · obtain rfl : k = 4 := by omega
        have HT : Hid (regsOk zs = true) := regsOk_mk h4 fun j hj => hall j hj (by omega)
        clear hall hc
        go_wp2
        go_ret
        exact ⟨ret_regs HT.out, rfl⟩
  · have HF : Hid (regsOk zs = false) := regsOk_len h4
    obtain ⟨n, hn⟩ : ∃ n, zs.length = n := ⟨_, rfl⟩
    rw [hn] at hm h4 ⊢
    have h4' : ((n : Int) != 4) = true := by simp; omega
    clear h3 hn h1 h2 h4
    go_enter Try.func160, Try.ntmps160
    go_wp2
    go_ret
    exact ⟨ret_regs HF.out, rfl⟩

set_option maxRecDepth 100000 in
set_option maxHeartbeats 800000 in
theorem regsSpec (v : Value) (zs : List Int) (B : Nat) (w : World) (hv : Ints.Sees B w v zs) : Calls Try.prog 129 #[v] w fun e w' => e = .returned (.bool (regsOk zs)) ∧ w = w' := by
  obtain ⟨a, cap, rfl, h1, h2, h3⟩ := hv
  have hm : (zs.length : Int) ≤ 9223372036854775807 := by unfold maxLen at h2; omega
  by_cases h4 : zs.length = 4
  · rw [h4]
    clear hm h1 h2
    obtain ⟨b, off, rfl, -, hc⟩ := h3 (fun h => by simp [h] at h4)
    clear h3
    go_enter Try.func129, Try.ntmps129
    go_wp2
    go_loop [3] (fun i => ∃ k : Nat, k ≤ 4 ∧ i = .int .i64 k ∧ (∀ j (h : j < zs.length), j < k → inn 0 65535 zs[j] = true)) (fun i => 4 - (intOf i).toNat)
    case atStart => exact ⟨0, by omega, rfl, fun j _ h => by omega⟩
    case round =>
      obtain ⟨k, hk, rfl, hall⟩ := hrel
      by_cases hlt : k < 4
      · have a0 := hc k (by omega)
        obtain ⟨x, hx⟩ : ∃ x, zs[k] = x := ⟨_, rfl⟩
        rw [hx] at a0
        have HX : Hid (zs[k] = x) := hx
        have HA : Hid (∀ j (h : j < zs.length), j < k → inn 0 65535 zs[j] = true) := hall
        have cV := valC x w
        obtain ⟨q, hq⟩ : ∃ q, inn 0 65535 x = q := ⟨_, rfl⟩
        rw [hq] at cV
        have HQ : Hid (inn 0 65535 x = q) := hq
        clear hx hc hall hq
        cases q
        · go_wp2_with fail
          refine cV.mono ?_
          rintro e w1 ⟨rfl, rfl⟩
          go_wp2
          go_ret
          exact ⟨ret_regs (regsOk_at (j := k) (by omega) (by rw [HX.out]; exact HQ.out)), rfl⟩
        · go_wp2_with fail
          refine cV.mono ?_
          rintro e w1 ⟨rfl, rfl⟩
          go_wp2
          go_round
          case rel => exact ⟨k + 1, by omega, by go_num, fun j hj hjk => by
            rcases Nat.lt_succ_iff_lt_or_eq.1 hjk with h | h
            · exact HA.out j hj h
            · subst h; rw [HX.out]; exact HQ.out⟩
          case measure => simp [intOf]; omega
      · obtain rfl : k = 4 := by omega
        have HT : Hid (regsOk zs = true) := regsOk_mk h4 fun j hj => hall j hj (by omega)
        clear hall hc
        go_wp2
        go_ret
        exact ⟨ret_regs HT.out, rfl⟩
  · have HF : Hid (regsOk zs = false) := regsOk_len h4
    obtain ⟨n, hn⟩ : ∃ n, zs.length = n := ⟨_, rfl⟩
    rw [hn] at hm h4 ⊢
    have h4' : ((n : Int) != 4) = true := by simp; omega
    clear h3 hn h1 h2 h4
    go_enter Try.func129, Try.ntmps129
    go_wp2
    go_ret
    exact ⟨ret_regs HF.out, rfl⟩
end Ops
end Go.Proofs.Ytppikpdphcfomaa
