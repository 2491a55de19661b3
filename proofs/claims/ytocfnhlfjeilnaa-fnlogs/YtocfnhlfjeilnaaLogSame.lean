/- Rows that are the same; a number among numbers; a byte of a code. -/
import Derived.Test.YtocfnhlfjeilnaaLogPush
import Derived.Test.YtocfnhlfjeilnaaArgs
import Derived.Test.YtocfnhlfjeilnaaDrawNew
import Derived.Deep.RegionHeld3
set_option linter.unusedVariables false
set_option linter.unusedSimpArgs false
namespace Go.Proofs.Ytocfnhlfjeilnaa
open Go.RowKit
namespace Logs
open Bas Flat

set_option maxRecDepth 100000 in
theorem eqRr (x : R2) (W : World) : (Op.equalIn 10000 90 (.agg #[.int .i64 x.c, .int .i64 x.v]) (.agg #[.int .i64 x.c, .int .i64 x.v])).run Try.prog W = .ok true W := by
  have hu : Try.prog.underlying 90 = some (.struct (Try.prog.fieldsOf 90)) := by kernel_rfl
  have hp : Try.prog.stoodInHeld 90 = false := by kernel_rfl
  rw [run_equalIn_agg (d := 9999) (ht := hu) (hp := hp)]
  have h1 := hu.symm.trans Try.underlying90
  simp only [Option.some.injEq, TypeDesc.struct.injEq] at h1
  rw [h1]
  obtain ⟨x0, x1⟩ := x
  simp [Op.eqFields, go_sem]

set_option maxRecDepth 100000 in
set_option maxHeartbeats 1600000 in
theorem sameRowsC (v v' : Value) (xs : List R2) (B : Nat) (w : World) (hv : Sees2 B w v xs) (hv' : Sees2 B w v' xs) (hB : B ≤ w.heap.size) :
    Calls Try.prog 18 #[v, v'] w fun e w' => e = .returned (.bool true) ∧ Below w.heap.size w w' := by
  obtain ⟨a, cap, rfl⟩ := hv.form
  obtain ⟨a', cap', rfl⟩ := hv'.form
  have hr := hv.room
  obtain ⟨n, hn⟩ : ∃ n, xs.length = n := ⟨_, rfl⟩
  have hm : (n : Int) ≤ 9223372036854775807 := by unfold maxLen at hr; omega
  have HN := (show Hid _ from hn)
  rw [hn] at hv hv' ⊢
  obtain ⟨g, hg⟩ : ∃ g, w.heap.size = g := ⟨_, rfl⟩
  have b0 : Below g w w := Below.refl _ _
  rw [hg] at hB ⊢
  clear hr hn
  go_enter Try.func18, Try.ntmps18
  go_wp2
  go_loopw [5] (fun i wr => ∃ k : Nat, k ≤ n ∧ i = .int .i64 k ∧ Below g w wr) (fun i _ => n - (intOf i).toNat)
  case atStart => exact ⟨0, Nat.zero_le _, rfl, b0⟩
  case round =>
    obtain ⟨k, hk, rfl, hb⟩ := hrel
    clear b0
    by_cases hlt : k < n
    · obtain ⟨b, off, rfl, hbB, hc⟩ := (hv.on hb hB).open (by rw [HN.out]; omega)
      obtain ⟨b', off', rfl, hbB', hc'⟩ := (hv'.on hb hB).open (by rw [HN.out]; omega)
      have hkx : k < xs.length := by rw [HN.out]; exact hlt
      obtain ⟨a0, a1⟩ := at2 (hc k hkx)
      obtain ⟨d0, d1⟩ := at2 (hc' k hkx)
      obtain ⟨x, hx⟩ : ∃ x, xs[k] = x := ⟨_, rfl⟩
      rw [hx] at a0 a1 d0 d1
      change wr.cell? ⟨b, off + k * 2, none⟩ = _ at a0
      change wr.cell? ⟨b, off + k * 2 + 1, none⟩ = _ at a1
      change wr.cell? ⟨b', off' + k * 2, none⟩ = _ at d0
      change wr.cell? ⟨b', off' + k * 2 + 1, none⟩ = _ at d1
      have i1 : (k : Int) < n := by omega
      have i0 : (0 : Int) ≤ k := by omega
      have hE := fun W => eqRr x W
      clear hc hc' hx
      go_wp2
      go_region
      all_goals
        go_wp2
        go_roundw
        case rel => exact ⟨k + 1, by omega, by go_num, hb.drew⟩
        case measure => simp [intOf]; omega
    · obtain rfl : k = n := by omega
      have i1 : ¬ (k : Int) < k := by omega
      go_wp2
      go_ret
      exact ⟨rfl, hb⟩

theorem ret_has {a b : Bool} (h : b = a) : Ending.returned (.bool a) = .returned (.bool b) := by rw [h]
set_option maxRecDepth 100000 in
set_option maxHeartbeats 1600000 in
theorem hasC (v : Value) (zs : List Int) (x : Int) (B : Nat) (w : World) (hv : Ints.Sees B w v zs) :
    Calls Try.prog 21 #[v, .int .i64 x] w fun e w' => e = .returned (.bool (decide (x ∈ zs))) ∧ w = w' := by
  obtain ⟨a, cap, rfl, h1, h2, h3⟩ := hv
  obtain ⟨n, hn⟩ : ∃ n, zs.length = n := ⟨_, rfl⟩
  have hm : (n : Int) ≤ 9223372036854775807 := by unfold maxLen at h2; omega
  have HN := (show Hid _ from hn)
  rw [hn]
  have HS : Hid (∀ j (h : j < zs.length), j < 0 → zs[j] ≠ x) := fun j h hj => by omega
  clear h1 h2 hn
  go_enter Try.func21, Try.ntmps21
  go_wp2
  go_loop [5] (fun i => ∃ k : Nat, k ≤ n ∧ i = .int .i64 k ∧ ∀ j (h : j < zs.length), j < k → zs[j] ≠ x) (fun i => n - (intOf i).toNat)
  case atStart => exact ⟨0, Nat.zero_le _, rfl, HS.out⟩
  case round =>
    obtain ⟨k, hk, rfl, hall⟩ := hrel
    clear HS
    by_cases hlt : k < n
    · have hkz : k < zs.length := by rw [HN.out]; exact hlt
      obtain ⟨b, off, rfl, hbB, hc⟩ := h3 (fun h => by rw [h] at hkz; simp at hkz)
      have a0 := hc k hkz
      have i1 : (k : Int) < n := by omega
      have i0 : (0 : Int) ≤ k := by omega
      have HA := (show Hid _ from hall)
      obtain ⟨z, hz⟩ : ∃ z, zs[k] = z := ⟨_, rfl⟩
      have HZ := (show Hid _ from hz)
      rw [hz] at a0
      clear hc hz hall h3
      by_cases he : z = x
      · have h9 : (z == x) = true := by simpa using he
        have HT : Hid (decide (x ∈ zs) = true) := by show _ = _; rw [decide_eq_true_iff, ← he, ← HZ.out]; exact List.getElem_mem hkz
        clear he
        go_wp2
        go_ret
        exact ⟨ret_has HT.out, rfl⟩
      · have h9 : (z == x) = false := by simpa using he
        have HE : Hid (z ≠ x) := he
        clear he
        go_wp2
        go_round
        case rel => exact ⟨k + 1, by omega, by go_num, fun j hj hjk => by
          rcases Nat.lt_succ_iff_lt_or_eq.1 hjk with h | h
          · exact HA.out j hj h
          · subst h; rw [HZ.out]; exact HE.out⟩
        case measure => simp [intOf]; omega
    · obtain rfl : k = n := by omega
      have HT : Hid (decide (x ∈ zs) = false) := by
        show _ = _
        rw [decide_eq_false_iff_not]
        intro hm
        obtain ⟨j, hj, e⟩ := List.mem_iff_getElem.1 hm
        exact hall j hj (by rw [← HN.out]; exact hj) e
      have i1 : ¬ (k : Int) < k := by omega
      clear hall h3
      go_wp2
      go_ret
      exact ⟨ret_has HT.out, rfl⟩

set_option maxRecDepth 100000 in
theorem atC (B : Nat) (v : Value) (l : List UInt8) (w : World) (h : Draw.Code B w v l) (hl : l.length ≤ 1048576) :
    Calls Try.prog 22 #[v, .int .i64 0] w fun e w' => ∃ m : Int, e = .returned (.int .i64 m) ∧ 0 ≤ m ∧ m ≤ 255 ∧ w = w' := by
  obtain ⟨a, cap, rfl, h1, h2⟩ := h
  cases l with
  | nil =>
    go_enter Try.func22, Try.ntmps22
    go_wp2
    go_ret
    exact ⟨0, rfl, by omega, by omega, rfl⟩
  | cons x r =>
    obtain ⟨b, off, rfl, hb, hc⟩ := h2 (by simp)
    have a0 := hc 0 (by simp)
    have hx : x.toNat < 256 := x.toNat_lt
    obtain ⟨n, hn⟩ : ∃ n, (x :: r).length = n := ⟨_, rfl⟩
    have hn0 : 0 < n := by rw [← hn]; simp
    change w.cell? ⟨b, off + 0, none⟩ = some (.int .u8 (x.toNat : Int)) at a0
    rw [Nat.add_zero] at a0
    rw [hn] at hl ⊢
    have i1 : (0 : Int) < n := by omega
    obtain ⟨y, hy⟩ : ∃ y, x.toNat = y := ⟨_, rfl⟩
    rw [hy] at a0 hx
    clear hc h2 hn hy
    go_enter Try.func22, Try.ntmps22
    go_wp2
    go_ret
    exact ⟨(y : Int), by first | rfl | (congr 2; simp [IntKind.wrap, IntKind.signed, IntKind.bits, wrap64]; omega), by omega, by omega, rfl⟩
end Logs
end Go.Proofs.Ytocfnhlfjeilnaa
