/- Several texts of one proof, in build order: ThSame, KidLaw, FlatArg, ProgArg. -/
import Derived.Deep.Slices
import Derived.Lib.SmallJoins
import Derived.Test.YtppkohkcffnghaaKB1
import Derived.Test.YtppkohkcffnghaaKB5
import Derived.Test.YtppkohkcffnghaaKB6
import Derived.Test.YtppkohkcffnghaaKB14
/- Rows of numbers held against each other; what SameThings answers, the program's and the specification's. -/
set_option linter.unusedVariables false
set_option linter.unusedSimpArgs false
namespace Go.Proofs.Ytppkohkcffnghaa
open Go.RowKit
namespace Ints
theorem ne_len {zs ys : List Int} (h : ¬ zs.length = ys.length) : decide (zs = ys) = false := decide_eq_false fun e => h (by rw [e])
theorem ne_at {zs ys : List Int} {j : Nat} (h1 : j < zs.length) (h2 : j < ys.length) (h : ¬ zs[j] = ys[j]) : decide (zs = ys) = false := decide_eq_false fun e => h (by subst e; rfl)
theorem eq_all {zs ys : List Int} (h : zs.length = ys.length) (ha : ∀ j (h1 : j < zs.length) (h2 : j < ys.length), zs[j] = ys[j]) : decide (zs = ys) = true := decide_eq_true (List.ext_getElem h ha)
theorem ret_eq {zs ys : List Int} {b : Bool} (h : decide (zs = ys) = b) : Ending.returned (.bool b) = .returned (.bool (decide (zs = ys))) := by rw [h]

set_option maxRecDepth 100000 in
set_option maxHeartbeats 1600000 in
theorem equalC (v v' : Value) (zs ys : List Int) (B : Nat) (w : World) (hv : Ints.Sees B w v zs) (hv' : Ints.Sees B w v' ys) (hB : B ≤ w.heap.size) :
    Calls Try.prog 74 #[v, v'] w fun e w' => e = .returned (.bool (decide (zs = ys))) ∧ Below w.heap.size w w' := by
  obtain ⟨a, cap, rfl, h1, h2, h3⟩ := hv
  obtain ⟨a', cap', rfl, h1', h2', h3'⟩ := hv'
  obtain ⟨n, hn⟩ : ∃ n, zs.length = n := ⟨_, rfl⟩
  obtain ⟨m, hm'⟩ : ∃ n, ys.length = n := ⟨_, rfl⟩
  have hm : (n : Int) ≤ 9223372036854775807 := by unfold maxLen at h2; omega
  have hm2 : (m : Int) ≤ 9223372036854775807 := by unfold maxLen at h2'; omega
  rw [hn, hm']
  obtain ⟨g, hg⟩ : ∃ g, w.heap.size = g := ⟨_, rfl⟩
  rw [hg] at hB ⊢
  clear h1 h2 h1' h2'
  by_cases hl : n = m
  · subst hl
    have HN : Hid (zs.length = n) := hn
    have HM : Hid (ys.length = n) := hm'
    go_enter Try.func74, Try.ntmps74
    go_wp2
    go_loopw [13] (fun i wr => ∃ k : Nat, k ≤ n ∧ i = .int .i64 k ∧ Below g w wr ∧ ∀ j (h1 : j < zs.length) (h2 : j < ys.length), j < k → zs[j] = ys[j]) (fun i _ => n - (intOf i).toNat)
    case atStart => exact ⟨0, Nat.zero_le _, rfl, Below.refl _ _, fun j _ _ h => by omega⟩
    case round =>
      obtain ⟨k, hk, rfl, hb, hall⟩ := hrel
      by_cases hlt : k < n
      · obtain ⟨b, off, rfl, hbB, hc⟩ := h3 (fun h => by simp [h] at hn; omega)
        obtain ⟨b', off', rfl, hbB', hc'⟩ := h3' (fun h => by simp [h] at hm'; omega)
        have a0 := (hb.cell (p := ⟨b, off + k, none⟩) (by show b < g; omega)).trans (hc k (by omega))
        have a0' := (hb.cell (p := ⟨b', off' + k, none⟩) (by show b' < g; omega)).trans (hc' k (by omega))
        obtain ⟨x, hx⟩ : ∃ x, zs[k] = x := ⟨_, rfl⟩
        obtain ⟨y, hy⟩ : ∃ y, ys[k] = y := ⟨_, rfl⟩
        have HA : Hid (∀ j (h1 : j < zs.length) (h2 : j < ys.length), j < k → zs[j] = ys[j]) := hall
        by_cases hxy : x = y
        · have HK : Hid (zs[k] = ys[k]) := by show _ = _; rw [hx, hy, hxy]
          subst hxy
          rw [hx] at a0
          rw [hy] at a0'
          clear hx hy hc h3 hc' h3' hall
          go_wp2_with fail
          go_region
          all_goals
            go_wp2
            go_roundw
            case rel => exact ⟨k + 1, by omega, by go_num, by first | exact hb.drew | exact hb.drew.drew | exact hb, fun j p1 p2 hj => by
              rcases Nat.lt_succ_iff_lt_or_eq.1 hj with h | h
              · exact HA.out j p1 p2 h
              · subst h; exact HK.out⟩
            case measure => simp [intOf]; omega
        · have HF : Hid (decide (zs = ys) = false) := ne_at (j := k) (by omega) (by omega) (by rw [hx, hy]; exact hxy)
          have hxy' : (x != y) = true := by simp [hxy]
          rw [hx] at a0
          rw [hy] at a0'
          clear hx hy hc h3 hc' h3' hall hxy
          go_wp2_with fail
          go_region
          all_goals
            go_wp2
            go_ret
            exact ⟨ret_eq HF.out, by first | exact hb.drew | exact hb.drew.drew | exact hb⟩
      · obtain rfl : k = n := by omega
        have HT : Hid (decide (zs = ys) = true) := eq_all (by rw [HN.out, HM.out]) fun j p1 p2 => hall j p1 p2 (by omega)
        clear hall
        go_wp2
        go_ret
        exact ⟨ret_eq HT.out, hb⟩
  · have HF : Hid (decide (zs = ys) = false) := ne_len (by omega)
    have hl' : ((n : Int) != (m : Int)) = true := by simp; omega
    clear hl h3 h3'
    go_enter Try.func74, Try.ntmps74
    go_wp2
    go_ret
    exact ⟨ret_eq HF.out, Below.refl _ _⟩

set_option maxRecDepth 100000 in
set_option maxHeartbeats 1600000 in
theorem l7IntsC (v v' : Value) (zs ys : List Int) (B : Nat) (w : World) (hv : Ints.Sees B w v zs) (hv' : Ints.Sees B w v' ys) (hB : B ≤ w.heap.size) :
    Calls Try.prog 65 #[v, v'] w fun e w' => e = .returned (.bool (decide (zs = ys))) ∧ Below w.heap.size w w' := by
  obtain ⟨a, cap, rfl, h1, h2, h3⟩ := hv
  obtain ⟨a', cap', rfl, h1', h2', h3'⟩ := hv'
  obtain ⟨n, hn⟩ : ∃ n, zs.length = n := ⟨_, rfl⟩
  obtain ⟨m, hm'⟩ : ∃ n, ys.length = n := ⟨_, rfl⟩
  have hm : (n : Int) ≤ 9223372036854775807 := by unfold maxLen at h2; omega
  have hm2 : (m : Int) ≤ 9223372036854775807 := by unfold maxLen at h2'; omega
  rw [hn, hm']
  obtain ⟨g, hg⟩ : ∃ g, w.heap.size = g := ⟨_, rfl⟩
  rw [hg] at hB ⊢
  clear h1 h2 h1' h2'
  by_cases hl : n = m
  · subst hl
    have HN : Hid (zs.length = n) := hn
    have HM : Hid (ys.length = n) := hm'
    go_enter Try.func65, Try.ntmps65
    go_wp2
    go_loopw [5] (fun i wr => ∃ k : Nat, k ≤ n ∧ i = .int .i64 k ∧ Below g w wr ∧ ∀ j (h1 : j < zs.length) (h2 : j < ys.length), j < k → zs[j] = ys[j]) (fun i _ => n - (intOf i).toNat)
    case atStart => exact ⟨0, Nat.zero_le _, rfl, Below.refl _ _, fun j _ _ h => by omega⟩
    case round =>
      obtain ⟨k, hk, rfl, hb, hall⟩ := hrel
      by_cases hlt : k < n
      · obtain ⟨b, off, rfl, hbB, hc⟩ := h3 (fun h => by simp [h] at hn; omega)
        obtain ⟨b', off', rfl, hbB', hc'⟩ := h3' (fun h => by simp [h] at hm'; omega)
        have a0 := (hb.cell (p := ⟨b, off + k, none⟩) (by show b < g; omega)).trans (hc k (by omega))
        have a0' := (hb.cell (p := ⟨b', off' + k, none⟩) (by show b' < g; omega)).trans (hc' k (by omega))
        obtain ⟨x, hx⟩ : ∃ x, zs[k] = x := ⟨_, rfl⟩
        obtain ⟨y, hy⟩ : ∃ y, ys[k] = y := ⟨_, rfl⟩
        have HA : Hid (∀ j (h1 : j < zs.length) (h2 : j < ys.length), j < k → zs[j] = ys[j]) := hall
        by_cases hxy : x = y
        · have HK : Hid (zs[k] = ys[k]) := by show _ = _; rw [hx, hy, hxy]
          subst hxy
          rw [hx] at a0
          rw [hy] at a0'
          clear hx hy hc h3 hc' h3' hall
          go_wp2_with fail
          go_region
          all_goals
            go_wp2
            go_roundw
            case rel => exact ⟨k + 1, by omega, by go_num, by first | exact hb.drew | exact hb.drew.drew | exact hb, fun j p1 p2 hj => by
              rcases Nat.lt_succ_iff_lt_or_eq.1 hj with h | h
              · exact HA.out j p1 p2 h
              · subst h; exact HK.out⟩
            case measure => simp [intOf]; omega
        · have HF : Hid (decide (zs = ys) = false) := ne_at (j := k) (by omega) (by omega) (by rw [hx, hy]; exact hxy)
          have hxy' : (x != y) = true := by simp [hxy]
          rw [hx] at a0
          rw [hy] at a0'
          clear hx hy hc h3 hc' h3' hall hxy
          go_wp2_with fail
          go_region
          all_goals
            go_wp2
            go_ret
            exact ⟨ret_eq HF.out, by first | exact hb.drew | exact hb.drew.drew | exact hb⟩
      · obtain rfl : k = n := by omega
        have HT : Hid (decide (zs = ys) = true) := eq_all (by rw [HN.out, HM.out]) fun j p1 p2 => hall j p1 p2 (by omega)
        clear hall
        go_wp2
        go_ret
        exact ⟨ret_eq HT.out, hb⟩
  · have HF : Hid (decide (zs = ys) = false) := ne_len (by omega)
    have hl' : ((n : Int) != (m : Int)) = true := by simp; omega
    clear hl h3 h3'
    go_enter Try.func65, Try.ntmps65
    go_wp2
    go_ret
    exact ⟨ret_eq HF.out, Below.refl _ _⟩

set_option maxRecDepth 100000 in
set_option maxHeartbeats 1600000 in
theorem sameC (v v' : Value) (zs ys : List Int) (B : Nat) (w : World) (hv : Ints.Sees B w v zs) (hv' : Ints.Sees B w v' ys) (hB : B ≤ w.heap.size) :
    Calls Try.prog 13 #[v, v'] w fun e w' => e = .returned (.bool (decide (zs = ys))) ∧ Below w.heap.size w w' := by
  obtain ⟨a, cap, rfl, h1, h2, h3⟩ := hv
  obtain ⟨a', cap', rfl, h1', h2', h3'⟩ := hv'
  obtain ⟨n, hn⟩ : ∃ n, zs.length = n := ⟨_, rfl⟩
  obtain ⟨m, hm'⟩ : ∃ n, ys.length = n := ⟨_, rfl⟩
  have hm : (n : Int) ≤ 9223372036854775807 := by unfold maxLen at h2; omega
  have hm2 : (m : Int) ≤ 9223372036854775807 := by unfold maxLen at h2'; omega
  rw [hn, hm']
  obtain ⟨g, hg⟩ : ∃ g, w.heap.size = g := ⟨_, rfl⟩
  rw [hg] at hB ⊢
  clear h1 h2 h1' h2'
  by_cases hl : n = m
  · subst hl
    have HN : Hid (zs.length = n) := hn
    have HM : Hid (ys.length = n) := hm'
    go_enter Try.func13, Try.ntmps13
    go_wp2
    go_loopw [5] (fun i wr => ∃ k : Nat, k ≤ n ∧ i = .int .i64 k ∧ Below g w wr ∧ ∀ j (h1 : j < zs.length) (h2 : j < ys.length), j < k → zs[j] = ys[j]) (fun i _ => n - (intOf i).toNat)
    case atStart => exact ⟨0, Nat.zero_le _, rfl, Below.refl _ _, fun j _ _ h => by omega⟩
    case round =>
      obtain ⟨k, hk, rfl, hb, hall⟩ := hrel
      by_cases hlt : k < n
      · obtain ⟨b, off, rfl, hbB, hc⟩ := h3 (fun h => by simp [h] at hn; omega)
        obtain ⟨b', off', rfl, hbB', hc'⟩ := h3' (fun h => by simp [h] at hm'; omega)
        have a0 := (hb.cell (p := ⟨b, off + k, none⟩) (by show b < g; omega)).trans (hc k (by omega))
        have a0' := (hb.cell (p := ⟨b', off' + k, none⟩) (by show b' < g; omega)).trans (hc' k (by omega))
        obtain ⟨x, hx⟩ : ∃ x, zs[k] = x := ⟨_, rfl⟩
        obtain ⟨y, hy⟩ : ∃ y, ys[k] = y := ⟨_, rfl⟩
        have HA : Hid (∀ j (h1 : j < zs.length) (h2 : j < ys.length), j < k → zs[j] = ys[j]) := hall
        by_cases hxy : x = y
        · have HK : Hid (zs[k] = ys[k]) := by show _ = _; rw [hx, hy, hxy]
          subst hxy
          rw [hx] at a0
          rw [hy] at a0'
          clear hx hy hc h3 hc' h3' hall
          go_wp2_with fail
          go_region
          all_goals
            go_wp2
            go_roundw
            case rel => exact ⟨k + 1, by omega, by go_num, by first | exact hb.drew | exact hb.drew.drew | exact hb, fun j p1 p2 hj => by
              rcases Nat.lt_succ_iff_lt_or_eq.1 hj with h | h
              · exact HA.out j p1 p2 h
              · subst h; exact HK.out⟩
            case measure => simp [intOf]; omega
        · have HF : Hid (decide (zs = ys) = false) := ne_at (j := k) (by omega) (by omega) (by rw [hx, hy]; exact hxy)
          have hxy' : (x != y) = true := by simp [hxy]
          rw [hx] at a0
          rw [hy] at a0'
          clear hx hy hc h3 hc' h3' hall hxy
          go_wp2_with fail
          go_region
          all_goals
            go_wp2
            go_ret
            exact ⟨ret_eq HF.out, by first | exact hb.drew | exact hb.drew.drew | exact hb⟩
      · obtain rfl : k = n := by omega
        have HT : Hid (decide (zs = ys) = true) := eq_all (by rw [HN.out, HM.out]) fun j p1 p2 => hall j p1 p2 (by omega)
        clear hall
        go_wp2
        go_ret
        exact ⟨ret_eq HT.out, hb⟩
  · have HF : Hid (decide (zs = ys) = false) := ne_len (by omega)
    have hl' : ((n : Int) != (m : Int)) = true := by simp; omega
    clear hl h3 h3'
    go_enter Try.func13, Try.ntmps13
    go_wp2
    go_ret
    exact ⟨ret_eq HF.out, Below.refl _ _⟩

set_option maxRecDepth 100000 in
set_option maxHeartbeats 1600000 in
theorem eqlC (v v' : Value) (zs ys : List Int) (B : Nat) (w : World) (hv : Ints.Sees B w v zs) (hv' : Ints.Sees B w v' ys) (hB : B ≤ w.heap.size) :
    Calls Try.prog 31 #[v, v'] w fun e w' => e = .returned (.bool (decide (zs = ys))) ∧ Below w.heap.size w w' := by
  obtain ⟨a, cap, rfl, h1, h2, h3⟩ := hv
  obtain ⟨a', cap', rfl, h1', h2', h3'⟩ := hv'
  obtain ⟨n, hn⟩ : ∃ n, zs.length = n := ⟨_, rfl⟩
  obtain ⟨m, hm'⟩ : ∃ n, ys.length = n := ⟨_, rfl⟩
  have hm : (n : Int) ≤ 9223372036854775807 := by unfold maxLen at h2; omega
  have hm2 : (m : Int) ≤ 9223372036854775807 := by unfold maxLen at h2'; omega
  rw [hn, hm']
  obtain ⟨g, hg⟩ : ∃ g, w.heap.size = g := ⟨_, rfl⟩
  rw [hg] at hB ⊢
  clear h1 h2 h1' h2'
  by_cases hl : n = m
  · subst hl
    have HN : Hid (zs.length = n) := hn
    have HM : Hid (ys.length = n) := hm'
    go_enter Try.func31, Try.ntmps31
    go_wp2
    go_loopw [5] (fun i wr => ∃ k : Nat, k ≤ n ∧ i = .int .i64 k ∧ Below g w wr ∧ ∀ j (h1 : j < zs.length) (h2 : j < ys.length), j < k → zs[j] = ys[j]) (fun i _ => n - (intOf i).toNat)
    case atStart => exact ⟨0, Nat.zero_le _, rfl, Below.refl _ _, fun j _ _ h => by omega⟩
    case round =>
      obtain ⟨k, hk, rfl, hb, hall⟩ := hrel
      by_cases hlt : k < n
      · obtain ⟨b, off, rfl, hbB, hc⟩ := h3 (fun h => by simp [h] at hn; omega)
        obtain ⟨b', off', rfl, hbB', hc'⟩ := h3' (fun h => by simp [h] at hm'; omega)
        have a0 := (hb.cell (p := ⟨b, off + k, none⟩) (by show b < g; omega)).trans (hc k (by omega))
        have a0' := (hb.cell (p := ⟨b', off' + k, none⟩) (by show b' < g; omega)).trans (hc' k (by omega))
        obtain ⟨x, hx⟩ : ∃ x, zs[k] = x := ⟨_, rfl⟩
        obtain ⟨y, hy⟩ : ∃ y, ys[k] = y := ⟨_, rfl⟩
        have HA : Hid (∀ j (h1 : j < zs.length) (h2 : j < ys.length), j < k → zs[j] = ys[j]) := hall
        by_cases hxy : x = y
        · have HK : Hid (zs[k] = ys[k]) := by show _ = _; rw [hx, hy, hxy]
          subst hxy
          rw [hx] at a0
          rw [hy] at a0'
          clear hx hy hc h3 hc' h3' hall
          go_wp2_with fail
          go_region
          all_goals
            go_wp2
            go_roundw
            case rel => exact ⟨k + 1, by omega, by go_num, by first | exact hb.drew | exact hb.drew.drew | exact hb, fun j p1 p2 hj => by
              rcases Nat.lt_succ_iff_lt_or_eq.1 hj with h | h
              · exact HA.out j p1 p2 h
              · subst h; exact HK.out⟩
            case measure => simp [intOf]; omega
        · have HF : Hid (decide (zs = ys) = false) := ne_at (j := k) (by omega) (by omega) (by rw [hx, hy]; exact hxy)
          have hxy' : (x != y) = true := by simp [hxy]
          rw [hx] at a0
          rw [hy] at a0'
          clear hx hy hc h3 hc' h3' hall hxy
          go_wp2_with fail
          go_region
          all_goals
            go_wp2
            go_ret
            exact ⟨ret_eq HF.out, by first | exact hb.drew | exact hb.drew.drew | exact hb⟩
      · obtain rfl : k = n := by omega
        have HT : Hid (decide (zs = ys) = true) := eq_all (by rw [HN.out, HM.out]) fun j p1 p2 => hall j p1 p2 (by omega)
        clear hall
        go_wp2
        go_ret
        exact ⟨ret_eq HT.out, hb⟩
  · have HF : Hid (decide (zs = ys) = false) := ne_len (by omega)
    have hl' : ((n : Int) != (m : Int)) = true := by simp; omega
    clear hl h3 h3'
    go_enter Try.func31, Try.ntmps31
    go_wp2
    go_ret
    exact ⟨ret_eq HF.out, Below.refl _ _⟩
end Ints
namespace Ops
open Bas

/-- SameThings -/
def sameTh (a b : Th) : Bool := decide (a.c = b.c) && decide (a.m = b.m) && decide (a.n = b.n)
theorem sameTh_self (t : Th) : sameTh t t = true := by simp [sameTh]

set_option maxRecDepth 100000 in
set_option maxHeartbeats 1600000 in
theorem implSame (vc vm vc' vm' : Value) (s t : Th) (B : Nat) (w : World) (hv : SeeT B w vc vm s) (hv' : SeeT B w vc' vm' t) (hB : B ≤ w.heap.size) :
    Calls Try.prog 24 #[.agg #[vc, vm, .int .i64 s.n], .agg #[vc', vm', .int .i64 t.n]] w fun e w' => e = .returned (.bool (sameTh s t)) ∧ Below w.heap.size w w' := by
  obtain ⟨q, hq⟩ : ∃ q, w.heap.size = q := ⟨_, rfl⟩
  have X0 := Blk.new w #[vc, vm, .int .i64 s.n] 37
  have b0 := alloc_below w (.cells #[vc, vm, .int .i64 s.n] 37)
  obtain ⟨w0, hw0⟩ : ∃ w0, w.alloc (.cells #[vc, vm, .int .i64 s.n] 37) = w0 := ⟨_, rfl⟩
  have hz0 : w0.heap.size = q + 1 := by rw [← hw0, ← hq]; simp
  rw [hw0] at X0 b0
  rw [hq] at X0 b0 hB ⊢
  obtain ⟨q1, hq1⟩ : ∃ q, w0.heap.size = q := ⟨_, rfl⟩
  have l01 : q < q1 := by omega
  clear hz0
  have Y1 := Blk.new w0 #[vc', vm', .int .i64 t.n] 37
  have b1 := alloc_below w0 (.cells #[vc', vm', .int .i64 t.n] 37)
  obtain ⟨w1, hw1⟩ : ∃ w1, w0.alloc (.cells #[vc', vm', .int .i64 t.n] 37) = w1 := ⟨_, rfl⟩
  rw [hw1] at Y1 b1
  rw [hq1] at Y1 b1
  have X1 := X0.on b1 (by omega)
  have bb : Below q w w1 := b0.trans (b1.mono (by omega))
  have z1 : q < w1.heap.size := X1.lt
  have x0 := X1.cell 0; have x1 := X1.cell 1; have x2 := X1.cell 2
  have y0 := Y1.cell 0; have y1 := Y1.cell 1; have y2 := Y1.cell 2
  have sv := hv.on bb hB
  have sv' := hv'.on bb hB
  have cA := Ints.equalC vc vc' s.c t.c B w1 sv.c sv'.c (by omega)
  obtain ⟨bA, hA⟩ : ∃ b, decide (s.c = t.c) = b := ⟨_, rfl⟩
  rw [hA] at cA
  obtain ⟨bM, hM⟩ : ∃ b, decide (s.m = t.m) = b := ⟨_, rfl⟩
  have cM : ∀ w2, Below w1.heap.size w1 w2 → Calls Try.prog 74 #[vm, vm'] w2 fun e w' => e = .returned (.bool bM) ∧ Below w2.heap.size w2 w' := fun w2 b2 => by
    have := Ints.equalC vm vm' s.m t.m B w2 (sv.m.on b2 (by omega)) (sv'.m.on b2 (by omega)) (by have := b2.size; omega)
    rw [hM] at this; exact this
  have X2 : ∀ w2, Below w1.heap.size w1 w2 → Blk w2 q #[vc, vm, .int .i64 s.n] 37 := fun w2 b2 => X1.on b2 X1.lt
  have Y2 : ∀ w2, Below w1.heap.size w1 w2 → Blk w2 q1 #[vc', vm', .int .i64 t.n] 37 := fun w2 b2 => Y1.on b2 Y1.lt
  have HS : Hid (sameTh s t = (bA && bM && decide (s.n = t.n))) := by show _ = _; unfold sameTh; rw [hA, hM]
  obtain ⟨sn, hsn⟩ : ∃ x, s.n = x := ⟨_, rfl⟩
  obtain ⟨tn, htn⟩ : ∃ x, t.n = x := ⟨_, rfl⟩
  rw [hsn] at x2 X2 HS hw0 ⊢
  rw [htn] at y2 Y2 HS hw1 ⊢
  clear hA hM X0 X1 Y1 sv sv' hv hv' b0 b1 hsn htn
  cases bA with
  | false =>
    go_enter Try.func24, Try.ntmps24
    go_wp2_with (go_at_call_of 74 vc; refine cA.mono ?_; rintro e w2 ⟨rfl, b2⟩)
    go_ret
    exact ⟨by rw [HS.out]; rfl, bb.trans (b2.mono (by omega))⟩
  | true =>
    cases bM with
    | false =>
      go_enter Try.func24, Try.ntmps24
      go_wp2_with (go_at_call_of 74 vc; refine cA.mono ?_; rintro e w2 ⟨rfl, b2⟩; have x1 := (X2 _ b2).cell 1; have y1 := (Y2 _ b2).cell 1)
      refine (cM _ b2).mono ?_
      rintro e w3 ⟨rfl, b3⟩
      go_wp2
      go_ret
      have z2 := b2.size
      exact ⟨by rw [HS.out]; rfl, (bb.trans (b2.mono (by omega))).trans (b3.mono (by omega))⟩
    | true =>
      go_enter Try.func24, Try.ntmps24
      go_wp2_with (go_at_call_of 74 vc; refine cA.mono ?_; rintro e w2 ⟨rfl, b2⟩; have x1 := (X2 _ b2).cell 1; have y1 := (Y2 _ b2).cell 1)
      refine (cM _ b2).mono ?_
      rintro e w3 ⟨rfl, b3⟩
      have z2 := b2.size
      have x2 := (X2 _ (b2.trans (b3.mono z2))).cell 2
      have y2 := (Y2 _ (b2.trans (b3.mono z2))).cell 2
      go_wp2
      go_ret
      refine ⟨?_, (bb.trans (b2.mono (by omega))).trans (b3.mono (by omega))⟩
      rw [HS.out]
      congr 2

set_option maxRecDepth 100000 in
set_option maxHeartbeats 1600000 in
theorem specSame (vc vm vc' vm' : Value) (s t : Th) (B : Nat) (w : World) (hv : SeeT B w vc vm s) (hv' : SeeT B w vc' vm' t) (hB : B ≤ w.heap.size) :
    Calls Try.prog 17 #[.agg #[vc, vm, .int .i64 s.n], .agg #[vc', vm', .int .i64 t.n]] w fun e w' => e = .returned (.bool (sameTh s t)) ∧ Below w.heap.size w w' := by
  obtain ⟨q, hq⟩ : ∃ q, w.heap.size = q := ⟨_, rfl⟩
  have X0 := Blk.new w #[vc, vm, .int .i64 s.n] 37
  have b0 := alloc_below w (.cells #[vc, vm, .int .i64 s.n] 37)
  obtain ⟨w0, hw0⟩ : ∃ w0, w.alloc (.cells #[vc, vm, .int .i64 s.n] 37) = w0 := ⟨_, rfl⟩
  have hz0 : w0.heap.size = q + 1 := by rw [← hw0, ← hq]; simp
  rw [hw0] at X0 b0
  rw [hq] at X0 b0 hB ⊢
  obtain ⟨q1, hq1⟩ : ∃ q, w0.heap.size = q := ⟨_, rfl⟩
  have l01 : q < q1 := by omega
  clear hz0
  have Y1 := Blk.new w0 #[vc', vm', .int .i64 t.n] 37
  have b1 := alloc_below w0 (.cells #[vc', vm', .int .i64 t.n] 37)
  obtain ⟨w1, hw1⟩ : ∃ w1, w0.alloc (.cells #[vc', vm', .int .i64 t.n] 37) = w1 := ⟨_, rfl⟩
  rw [hw1] at Y1 b1
  rw [hq1] at Y1 b1
  have X1 := X0.on b1 (by omega)
  have bb : Below q w w1 := b0.trans (b1.mono (by omega))
  have z1 : q < w1.heap.size := X1.lt
  have x0 := X1.cell 0; have x1 := X1.cell 1; have x2 := X1.cell 2
  have y0 := Y1.cell 0; have y1 := Y1.cell 1; have y2 := Y1.cell 2
  have sv := hv.on bb hB
  have sv' := hv'.on bb hB
  have cA := Ints.l7IntsC vc vc' s.c t.c B w1 sv.c sv'.c (by omega)
  obtain ⟨bA, hA⟩ : ∃ b, decide (s.c = t.c) = b := ⟨_, rfl⟩
  rw [hA] at cA
  obtain ⟨bM, hM⟩ : ∃ b, decide (s.m = t.m) = b := ⟨_, rfl⟩
  have cM : ∀ w2, Below w1.heap.size w1 w2 → Calls Try.prog 65 #[vm, vm'] w2 fun e w' => e = .returned (.bool bM) ∧ Below w2.heap.size w2 w' := fun w2 b2 => by
    have := Ints.l7IntsC vm vm' s.m t.m B w2 (sv.m.on b2 (by omega)) (sv'.m.on b2 (by omega)) (by have := b2.size; omega)
    rw [hM] at this; exact this
  have X2 : ∀ w2, Below w1.heap.size w1 w2 → Blk w2 q #[vc, vm, .int .i64 s.n] 37 := fun w2 b2 => X1.on b2 X1.lt
  have Y2 : ∀ w2, Below w1.heap.size w1 w2 → Blk w2 q1 #[vc', vm', .int .i64 t.n] 37 := fun w2 b2 => Y1.on b2 Y1.lt
  have HS : Hid (sameTh s t = (bA && bM && decide (s.n = t.n))) := by show _ = _; unfold sameTh; rw [hA, hM]
  obtain ⟨sn, hsn⟩ : ∃ x, s.n = x := ⟨_, rfl⟩
  obtain ⟨tn, htn⟩ : ∃ x, t.n = x := ⟨_, rfl⟩
  rw [hsn] at x2 X2 HS hw0 ⊢
  rw [htn] at y2 Y2 HS hw1 ⊢
  clear hA hM X0 X1 Y1 sv sv' hv hv' b0 b1 hsn htn
  cases bA with
  | false =>
    go_enter Try.func17, Try.ntmps17
    go_wp2_with (go_at_call_of 65 vc; refine cA.mono ?_; rintro e w2 ⟨rfl, b2⟩)
    go_ret
    exact ⟨by rw [HS.out]; rfl, bb.trans (b2.mono (by omega))⟩
  | true =>
    cases bM with
    | false =>
      go_enter Try.func17, Try.ntmps17
      go_wp2_with (go_at_call_of 65 vc; refine cA.mono ?_; rintro e w2 ⟨rfl, b2⟩; have x1 := (X2 _ b2).cell 1; have y1 := (Y2 _ b2).cell 1)
      refine (cM _ b2).mono ?_
      rintro e w3 ⟨rfl, b3⟩
      go_wp2
      go_ret
      have z2 := b2.size
      exact ⟨by rw [HS.out]; rfl, (bb.trans (b2.mono (by omega))).trans (b3.mono (by omega))⟩
    | true =>
      go_enter Try.func17, Try.ntmps17
      go_wp2_with (go_at_call_of 65 vc; refine cA.mono ?_; rintro e w2 ⟨rfl, b2⟩; have x1 := (X2 _ b2).cell 1; have y1 := (Y2 _ b2).cell 1)
      refine (cM _ b2).mono ?_
      rintro e w3 ⟨rfl, b3⟩
      have z2 := b2.size
      have x2 := (X2 _ (b2.trans (b3.mono z2))).cell 2
      have y2 := (Y2 _ (b2.trans (b3.mono z2))).cell 2
      go_wp2
      go_ret
      refine ⟨?_, (bb.trans (b2.mono (by omega))).trans (b3.mono (by omega))⟩
      rw [HS.out]
      congr 2
end Ops
end Go.Proofs.Ytppkohkcffnghaa
/- The walk of FnExactSerialKid. -/
set_option linter.unusedVariables false
set_option linter.unusedSimpArgs false
namespace Go.Proofs.Ytppkohkcffnghaa
open Go.RowKit
namespace Ops
open Bas Flat

/-- rows of ops and rows of numbers that were made one behind the other lie apart -/
theorem dj4 {B B' : Nat} {W W' : World} {a b : Value} {xs : List O4} {ys : List Int} (ha : Owns4 B W a xs) (hb : Ints.Owns B' W' b ys) (h : W.heap.size ≤ B') : Dj a b := fun k h1 h2 => by
  have := (Flat.Owns.at ha k h1).2
  have := (hb.at k h2).1
  omega
theorem dj4' {B B' : Nat} {W W' : World} {a b : Value} {xs : List O4} {ys : List Int} (ha : Ints.Owns B W a ys) (hb : Owns4 B' W' b xs) (h : W.heap.size ≤ B') : Dj a b := fun k h1 h2 => by
  have := (ha.at k h1).2
  have := (Flat.Owns.at hb k h2).1
  omega
theorem djI {B B' : Nat} {W W' : World} {a b : Value} {xs ys : List Int} (ha : Ints.Owns B W a xs) (hb : Ints.Owns B' W' b ys) (h : W.heap.size ≤ B') : Dj a b := fun k h1 h2 => by
  have := (ha.at k h1).2
  have := (hb.at k h2).1
  omega
/-- a row stays when another one's block grows -/
theorem stayI {B : Nat} {W W' : World} {a b : Value} {zs : List Int} (ha : Ints.Owns B W a zs) (hg : W.grownBy W' b.ownBlock) (h : Dj a b) : Ints.Owns B W' a zs :=
  ha.grown hg (fun k hk e => h k hk e.symm)
set_option maxRecDepth 100000 in
set_option maxHeartbeats 6400000 in
theorem lawSerialKid (v0 : Value) (xs : List O4) (v1 : Value) (zs : List Int) (v2 : Value) (cs : List Int) (w : World) (h0 : Sees4 w.heap.size w v0 xs) (h1 : Ints.Sees w.heap.size w v1 zs) (h2 : Ints.Sees w.heap.size w v2 cs) :
    Calls Try.prog 8 #[v0, v1, v2] w fun e w' => e = .returned (.bool true) ∧ Below w.heap.size w w' := by
  obtain ⟨g, hg⟩ : ∃ g, w.heap.size = g := ⟨_, rfl⟩
  rw [hg] at h0 h1 h2 ⊢
  have m0 := h0.room
  obtain ⟨r0, c0, rfl⟩ := h0.form
  obtain ⟨r1, c1, rfl⟩ := h1.form
  obtain ⟨r2, c2, rfl⟩ := h2.form
  have k1 : zs.length ≤ maxLen := by obtain ⟨a, cap, -, q1, q2, -⟩ := h1; omega
  have k2 : cs.length ≤ maxLen := by obtain ⟨a, cap, -, q1, q2, -⟩ := h2; omega
  obtain ⟨n, hn⟩ : ∃ n, xs.length = n := ⟨_, rfl⟩
  obtain ⟨nz, hnz⟩ : ∃ n, zs.length = n := ⟨_, rfl⟩
  obtain ⟨nc, hnc⟩ : ∃ n, cs.length = n := ⟨_, rfl⟩
  rw [hn] at h0 m0 ⊢
  rw [hnz] at h1 k1 ⊢
  rw [hnc] at h2 k2 ⊢
  have i1 : (nz : Int) ≤ 9223372036854775807 := by unfold maxLen at k1; omega
  have i2 : (nc : Int) ≤ 9223372036854775807 := by unfold maxLen at k2; omega
  by_cases j1 : (1048576 : Int) < nz
  · go_enter Try.func8, Try.ntmps8
    go_wp2
    go_ret
    exact ⟨rfl, Below.refl _ _⟩
  by_cases j2 : (1048576 : Int) < nc
  · go_enter Try.func8, Try.ntmps8
    go_wp2
    go_ret
    exact ⟨rfl, Below.refl _ _⟩
  have cSz := szOpsC r0 n c0 1048576 w (by omega) (by omega) m0
  by_cases j0 : (n : Int) ≤ 1048576
  · rw [if_pos j0] at cSz
    have HN : Hid (xs.length = n) := hn
    have HZ : Hid (zs.length = nz) := hnz
    have HC : Hid (cs.length = nc) := hnc
    have ln : xs.length ≤ 1048576 := by omega
    have lz : zs.length ≤ 1048576 := by omega
    have lc : cs.length ≤ 1048576 := by omega
    have LN := (show Hid _ from ln)
    have LZ := (show Hid _ from lz)
    have LC := (show Hid _ from lc)
    have j0' : ¬ (1048576 - (n : Int) < 0) := by omega
    clear hn hnz hnc ln lz lc m0 k1 k2
    go_enter Try.func8, Try.ntmps8
    go_wp2_with fail
    refine cSz.mono ?_
    rintro e w' ⟨rfl, rfl⟩
    go_wp2_with fail
    refine (toOpsC _ xs g w h0 (by omega) LN.out).mono ?_
    rintro e W1 ⟨y0, rfl, Y0, b1⟩
    rw [hg] at b1
    have bb1 := b1
    go_wp2_with fail
    refine (Ints.toIntsC _ zs g W1 (h1.on bb1 (Nat.le_refl _)) (by have := bb1.size; omega) LZ.out).mono ?_
    rintro e W2 ⟨y1, rfl, Y1, b2⟩
    have bb2 := bb1.trans (b2.mono (by have := bb1.size; omega))
    go_wp2_with fail
    refine (Ints.toIntsC _ cs g W2 (h2.on bb2 (Nat.le_refl _)) (by have := bb2.size; omega) LC.out).mono ?_
    rintro e W3 ⟨y2, rfl, Y2, b3⟩
    have bb3 := bb2.trans (b3.mono (by have := bb2.size; omega))
    have s1 := b1.size; have s2 := b2.size; have s3 := b3.size
    go_wp2_with fail
    refine (kidSpecC y0 y1 y2 xs zs cs W3.heap.size W3 (((Y0.sees.on (b2.trans (b3.mono s2)) (Nat.le_refl _)).up (by omega))) ((Y1.sees.on b3 (Nat.le_refl _)).up s3) Y2.sees (Nat.le_refl _) LN.out).mono ?_
    rintro e W4 ⟨out, rr, cc, wr, wc, rfl, hT, Or, Oc, hD, b4⟩
    have bb4 := bb3.trans (b4.mono (by omega))
    have s4 := b4.size
    clear Y0 Y1 Y2 cSz
    go_wp2_with fail
    refine (toOpsC _ xs g W4 (h0.on bb4 (Nat.le_refl _)) (by omega) LN.out).mono ?_
    rintro e W5 ⟨x0, rfl, X0, b5⟩
    have bb5 := bb4.trans (b5.mono (by omega)); have s5 := b5.size
    have Or5 := Or.on b5 (Nat.le_refl _); have Oc5 := Oc.on b5 (Nat.le_refl _)
    go_wp2_with fail
    refine (Ints.toIntsC _ zs g W5 (h1.on bb5 (Nat.le_refl _)) (by omega) LZ.out).mono ?_
    rintro e W6 ⟨x1, rfl, X1, b6⟩
    have bb6 := bb5.trans (b6.mono (by omega)); have s6 := b6.size
    go_wp2_with fail
    refine (Ints.toIntsC _ cs g W6 (h2.on bb6 (Nat.le_refl _)) (by omega) LC.out).mono ?_
    rintro e W7 ⟨x2, rfl, X2, b7⟩
    have bb7 := bb6.trans (b7.mono (by omega)); have s7 := b7.size
    have q57 := b6.trans (b7.mono s6)
    have X0a := X0.on q57 (Nat.le_refl _); have X1a := X1.on b7 (Nat.le_refl _)
    have Or7 := Or5.on q57 (Nat.le_refl _); have Oc7 := Oc5.on q57 (Nat.le_refl _)
    go_wp2_with fail
    refine (kidImplC x0 x1 x2 xs zs cs W7.heap.size W7 X0a.sees X1a.sees X2.sees (Nat.le_refl _) LN.out).mono ?_
    rintro e W8 ⟨out', rr', cc', gr, gc, rfl, hT', Gr, Gc, hD', b8⟩
    obtain ⟨eO, eR, eC⟩ := hT'.unique hT
    subst eO eR eC
    have bb8 := bb7.trans (b8.mono (by omega)); have s8 := b8.size
    have X0b := X0a.on b8 (Nat.le_refl _); have X1b := X1a.on b8 (Nat.le_refl _); have X2b := X2.on b8 (Nat.le_refl _); have Or8 := Or7.on b8 (Nat.le_refl _); have Oc8 := Oc7.on b8 (Nat.le_refl _)
    have d1 : Dj wr x0 := dj4' Or X0 (Nat.le_refl _); have d2 : Dj wc x0 := dj4' Oc X0 (Nat.le_refl _)
    have d3 : Dj wr x1 := djI Or X1 (by omega); have d4 : Dj wc x1 := djI Oc X1 (by omega)
    have d5 : Dj wr x2 := djI Or X2 (by omega); have d6 : Dj wc x2 := djI Oc X2 (by omega)
    have d7 : Dj x0 x1 := dj4 X0 X1 (by omega); have d8 : Dj x0 x2 := dj4 X0 X2 (by omega); have d9 : Dj x1 x2 := djI X1 X2 (by omega)
    have e1 : Dj x0 gr := dj4 X0 Gr (by omega); have e2 : Dj x0 gc := dj4 X0 Gc (by omega)
    have e3 : Dj x1 gr := djI X1 Gr (by omega); have e4 : Dj x1 gc := djI X1 Gc (by omega)
    have e5 : Dj x2 gr := djI X2 Gr (by omega); have e6 : Dj x2 gc := djI X2 Gc (by omega)
    have f1 : Dj wr gr := djI Or Gr (by omega); have f2 : Dj wr gc := djI Or Gc (by omega); have f3 : Dj wc gr := djI Oc Gr (by omega); have f4 : Dj wc gc := djI Oc Gc (by omega)
    have hl : rr'.length ≤ 1048576 ∧ cc'.length ≤ 1048576 := by
      rcases hT with ⟨-, ⟨q, -, -, hqr, hqc, hqt⟩, -, hrk⟩ | ⟨-, -, ha, hb⟩
      · have := (regsOk_out hrk).1; have := (cellsOk_out (th_parts hqt).1).1; rw [hqc]; omega
      · rw [ha, hb]; simp
    have HT := (show Hid _ from hT)
    clear hT hT' hD Or Oc Or5 Oc5 Or7 Oc7 X0 X1 X2 X0a X1a
    go_wp2_with fail
    refine (Ints.eqIntsC gr wr rr' W8.heap.size W8 Gr.sees Or8.sees (Nat.le_refl _)).mono ?_
    rintro e W9 ⟨rfl, b9⟩
    have bb9 := bb8.trans (b9.mono (by omega)); have s9 := b9.size
    have Gr9 := Gr.on b9 (Nat.le_refl _); have Gc9 := Gc.on b9 (Nat.le_refl _); have Or9 := Or8.on b9 (Nat.le_refl _); have Oc9 := Oc8.on b9 (Nat.le_refl _); have X09 := X0b.on b9 (Nat.le_refl _); have X19 := X1b.on b9 (Nat.le_refl _); have X29 := X2b.on b9 (Nat.le_refl _)
    clear Gr Gc Or8 Oc8 X0b X1b X2b
    go_wp2_with fail
    refine (Ints.eqIntsC gc wc cc' W9.heap.size W9 Gc9.sees Oc9.sees (Nat.le_refl _)).mono ?_
    rintro e Wa ⟨rfl, ba⟩
    have bba := bb9.trans (ba.mono (by omega)); have sa := ba.size
    have Gra := Gr9.on ba (Nat.le_refl _); have Gca := Gc9.on ba (Nat.le_refl _); have Ora := Or9.on ba (Nat.le_refl _); have Oca := Oc9.on ba (Nat.le_refl _); have X0a := X09.on ba (Nat.le_refl _); have X1a := X19.on ba (Nat.le_refl _); have X2a := X29.on ba (Nat.le_refl _)
    clear Gr9 Gc9 Or9 Oc9 X09 X19 X29
    go_wp2_with fail
    refine (toOpsC _ xs g Wa (h0.on bba (Nat.le_refl _)) (by omega) LN.out).mono ?_
    rintro e Wb ⟨u0, rfl, U0, bb_⟩
    have bbb := bba.trans (bb_.mono (by omega)); have sb := bb_.size
    have Grb := Gra.on bb_ (Nat.le_refl _); have Gcb := Gca.on bb_ (Nat.le_refl _); have Orb := Ora.on bb_ (Nat.le_refl _); have Ocb := Oca.on bb_ (Nat.le_refl _); have X0b := X0a.on bb_ (Nat.le_refl _); have X1b := X1a.on bb_ (Nat.le_refl _); have X2b := X2a.on bb_ (Nat.le_refl _)
    clear Gra Gca Ora Oca X0a X1a X2a
    go_wp2_with fail
    refine (eqOpsC x0 u0 xs Wb.heap.size Wb X0b.sees U0.sees (Nat.le_refl _)).mono ?_
    rintro e Wc ⟨rfl, bc⟩
    have bbc := bbb.trans (bc.mono (by omega)); have sc := bc.size
    have Grc := Grb.on bc (Nat.le_refl _); have Gcc := Gcb.on bc (Nat.le_refl _); have Orc := Orb.on bc (Nat.le_refl _); have Occ := Ocb.on bc (Nat.le_refl _); have X0c := X0b.on bc (Nat.le_refl _); have X1c := X1b.on bc (Nat.le_refl _); have X2c := X2b.on bc (Nat.le_refl _)
    clear Grb Gcb Orb Ocb X0b X1b X2b
    go_wp2_with fail
    refine (Ints.toIntsC _ zs g Wc (h1.on bbc (Nat.le_refl _)) (by omega) LZ.out).mono ?_
    rintro e Wd ⟨u1, rfl, U1, bd⟩
    have bbd := bbc.trans (bd.mono (by omega)); have sd := bd.size
    have Grd := Grc.on bd (Nat.le_refl _); have Gcd := Gcc.on bd (Nat.le_refl _); have Ord := Orc.on bd (Nat.le_refl _); have Ocd := Occ.on bd (Nat.le_refl _); have X0d := X0c.on bd (Nat.le_refl _); have X1d := X1c.on bd (Nat.le_refl _); have X2d := X2c.on bd (Nat.le_refl _)
    clear Grc Gcc Orc Occ X0c X1c X2c
    go_wp2_with fail
    refine (Ints.eqIntsC x1 u1 zs Wd.heap.size Wd X1d.sees U1.sees (Nat.le_refl _)).mono ?_
    rintro e We ⟨rfl, be⟩
    have bbe := bbd.trans (be.mono (by omega)); have se := be.size
    have Gre := Grd.on be (Nat.le_refl _); have Gce := Gcd.on be (Nat.le_refl _); have Ore := Ord.on be (Nat.le_refl _); have Oce := Ocd.on be (Nat.le_refl _); have X0e := X0d.on be (Nat.le_refl _); have X1e := X1d.on be (Nat.le_refl _); have X2e := X2d.on be (Nat.le_refl _)
    clear Grd Gcd Ord Ocd X0d X1d X2d
    go_wp2_with fail
    refine (Ints.toIntsC _ cs g We (h2.on bbe (Nat.le_refl _)) (by omega) LC.out).mono ?_
    rintro e Wf ⟨u2, rfl, U2, bf⟩
    have bbf := bbe.trans (bf.mono (by omega)); have sf := bf.size
    have Grf := Gre.on bf (Nat.le_refl _); have Gcf := Gce.on bf (Nat.le_refl _); have Orf := Ore.on bf (Nat.le_refl _); have Ocf := Oce.on bf (Nat.le_refl _); have X0f := X0e.on bf (Nat.le_refl _); have X1f := X1e.on bf (Nat.le_refl _); have X2f := X2e.on bf (Nat.le_refl _)
    clear Gre Gce Ore Oce X0e X1e X2e
    go_wp2_with fail
    refine (Ints.eqIntsC x2 u2 cs Wf.heap.size Wf X2f.sees U2.sees (Nat.le_refl _)).mono ?_
    rintro e Wg ⟨rfl, bg⟩
    have bbg := bbf.trans (bg.mono (by omega)); have sg := bg.size
    have Grg := Grf.on bg (Nat.le_refl _); have Gcg := Gcf.on bg (Nat.le_refl _); have Org := Orf.on bg (Nat.le_refl _); have Ocg := Ocf.on bg (Nat.le_refl _); have X0g := X0f.on bg (Nat.le_refl _); have X1g := X1f.on bg (Nat.le_refl _); have X2g := X2f.on bg (Nat.le_refl _)
    clear Grf Gcf Orf Ocf X0f X1f X2f
    clear U0 U1 U2
    go_wp2_with fail
    refine (markOpsC x0 xs 1 _ Wg X0g (by omega) (by omega) LN.out).mono ?_
    rintro e Wh ⟨rfl, M0, G0⟩
    have low0 : ∀ k, x0.ownBlock = some k → g ≤ k := fun k hk => by have := (Flat.Owns.at M0 k hk).1; omega
    have bbh := bbg.grown G0 (by omega) low0; have sh := G0.size
    have Grh := stayI Grg G0 (Dj.symm e1); have Gch := stayI Gcg G0 (Dj.symm e2); have Orh := stayI Org G0 d1; have Och := stayI Ocg G0 d2; have X1h := stayI X1g G0 (Dj.symm d7); have X2h := stayI X2g G0 (Dj.symm d8)
    clear Grg Gcg Org Ocg X0g X1g X2g M0
    rw [HN.out]
    go_wp2_with fail
    refine (Ints.markIntsK x1 zs (1 + 4 * (n : Int)) (by omega) (by omega) _ Wh X1h LZ.out).mono ?_
    rintro e Wi ⟨rfl, M1, G1⟩
    have low1 : ∀ k, x1.ownBlock = some k → g ≤ k := fun k hk => by have := (M1.at k hk).1; omega
    have bbi := bbh.grown G1 (by omega) low1; have si := G1.size
    have Gri := stayI Grh G1 (Dj.symm e3); have Gci := stayI Gch G1 (Dj.symm e4); have Ori := stayI Orh G1 d3; have Oci := stayI Och G1 d4; have X2i := stayI X2h G1 (Dj.symm d9)
    clear Grh Gch Orh Och X1h X2h M1
    rw [HZ.out]
    go_wp2_with fail
    refine (Ints.markIntsK x2 cs (1 + 4 * (n : Int) + (nz : Int)) (by omega) (by omega) _ Wi X2i LC.out).mono ?_
    rintro e Wj ⟨rfl, M2, G2⟩
    have low2 : ∀ k, x2.ownBlock = some k → g ≤ k := fun k hk => by have := (M2.at k hk).1; omega
    have bbj := bbi.grown G2 (by omega) low2; have sj := G2.size
    have Grj := stayI Gri G2 (Dj.symm e5); have Gcj := stayI Gci G2 (Dj.symm e6); have Orj := stayI Ori G2 d5; have Ocj := stayI Oci G2 d6
    clear Gri Gci Ori Oci X2i M2
    rw [HC.out]
    have kk : ¬ (1 + 4 * (n : Int) + (nz : Int) + (nc : Int) < 0) := by omega
    go_wp2_with fail
    refine (Ints.eqIntsC gr wr rr' Wj.heap.size Wj Grj.sees Orj.sees (Nat.le_refl _)).mono ?_
    rintro e Wk ⟨rfl, bk_⟩
    have bbk := bbj.trans (bk_.mono (by omega)); have sk := bk_.size
    have Grk := Grj.on bk_ (Nat.le_refl _); have Gck := Gcj.on bk_ (Nat.le_refl _); have Ork := Orj.on bk_ (Nat.le_refl _); have Ock := Ocj.on bk_ (Nat.le_refl _)
    clear Grj Gcj Orj Ocj
    go_wp2_with fail
    refine (Ints.eqIntsC gc wc cc' Wk.heap.size Wk Gck.sees Ock.sees (Nat.le_refl _)).mono ?_
    rintro e Wl ⟨rfl, bl_⟩
    have bbl := bbk.trans (bl_.mono (by omega)); have sl := bl_.size
    have Grl := Grk.on bl_ (Nat.le_refl _); have Gcl := Gck.on bl_ (Nat.le_refl _); have Orl := Ork.on bl_ (Nat.le_refl _); have Ocl := Ock.on bl_ (Nat.le_refl _)
    clear Grk Gck Ork Ock
    go_wp2_with fail
    refine (Ints.markIntsK gr rr' 1 (by omega) (by omega) _ Wl Grl hl.1).mono ?_
    rintro e Wm ⟨rfl, N1, G3⟩
    have low3 : ∀ k, gr.ownBlock = some k → g ≤ k := fun k hk => by have := (N1.at k hk).1; omega
    have bbm := bbl.grown G3 (by omega) low3; have sm := G3.size
    have Gcm := stayI Gcl G3 (Dj.symm hD'); have Orm := stayI Orl G3 f1; have Ocm := stayI Ocl G3 f3
    clear Gcl Orl Ocl Grl
    obtain ⟨nr, hnr⟩ : ∃ x, rr'.length = x := ⟨_, rfl⟩
    obtain ⟨nd, hnd⟩ : ∃ x, cc'.length = x := ⟨_, rfl⟩
    rw [hnr] at N1 ⊢
    go_wp2_with fail
    refine (Ints.markIntsK gc cc' (1 + (nr : Int)) (by omega) (by omega) _ Wm Gcm hl.2).mono ?_
    rintro e Wn ⟨rfl, N2, G4⟩
    have low4 : ∀ k, gc.ownBlock = some k → g ≤ k := fun k hk => by have := (N2.at k hk).1; omega
    have bbn := bbm.grown G4 (by omega) low4; have sn := G4.size
    have N1n := stayI N1 G4 hD'; have Orn := stayI Orm G4 f2; have Ocn := stayI Ocm G4 f4
    clear N1 Gcm Orm Ocm
    rw [hnd] at N2 ⊢
    go_wp2_with fail
    refine (Ints.heldIntsK gr nr 1 (by omega) (by omega) _ Wn N1n.sees (by omega)).mono ?_
    rintro e Wn' ⟨rfl, rfl⟩
    have p1 : ¬ (1 + (nr : Int) < 0) := by omega
    go_wp2_with fail
    refine (Ints.heldIntsK gc nd (1 + (nr : Int)) (by omega) (by omega) _ Wn N2.sees (by omega)).mono ?_
    rintro e Wn' ⟨rfl, rfl⟩
    have p2 : ¬ (1 + (nr : Int) + (nd : Int) < 0) := by omega
    go_wp2_with fail
    refine (toOpsC _ xs g Wn (h0.on bbn (Nat.le_refl _)) (by omega) LN.out).mono ?_
    rintro e Wo ⟨t0, rfl, T0, bo⟩
    have bbo := bbn.trans (bo.mono (by omega)); have so := bo.size
    have A1 := N1n.on bo (Nat.le_refl _); have A2 := N2.on bo (Nat.le_refl _); have Oro := Orn.on bo (Nat.le_refl _); have Oco := Ocn.on bo (Nat.le_refl _)
    clear N1n N2 Orn Ocn
    go_wp2_with fail
    refine (Ints.toIntsC _ zs g Wo (h1.on bbo (Nat.le_refl _)) (by omega) LZ.out).mono ?_
    rintro e Wp ⟨t1, rfl, T1, bp⟩
    have bbp := bbo.trans (bp.mono (by omega)); have sp := bp.size
    go_wp2_with fail
    refine (Ints.toIntsC _ cs g Wp (h2.on bbp (Nat.le_refl _)) (by omega) LC.out).mono ?_
    rintro e Wq ⟨t2, rfl, T2, bq⟩
    have bbq := bbp.trans (bq.mono (by omega)); have sq := bq.size
    have qoq := bp.trans (bq.mono sp)
    have A1q := A1.on qoq (Nat.le_refl _); have A2q := A2.on qoq (Nat.le_refl _); have Orq := Oro.on qoq (Nat.le_refl _); have Ocq := Oco.on qoq (Nat.le_refl _)
    clear A1 A2 Oro Oco
    go_wp2_with fail
    refine (kidImplC t0 t1 t2 xs zs cs Wq.heap.size Wq ((T0.on qoq (Nat.le_refl _)).sees) ((T1.on bq (Nat.le_refl _)).sees) T2.sees (Nat.le_refl _) LN.out).mono ?_
    rintro e Wr ⟨out3, rr3, cc3, hr_, hc_, rfl, hT3, Hr, Hc, -, br⟩
    obtain ⟨eO, eR, eC⟩ := hT3.unique HT.out
    subst eO eR eC
    have bbr := bbq.trans (br.mono (by omega)); have sr := br.size
    have A1r := A1q.on br (Nat.le_refl _); have A2r := A2q.on br (Nat.le_refl _); have Orr := Orq.on br (Nat.le_refl _); have Ocr := Ocq.on br (Nat.le_refl _)
    clear A1q A2q Orq Ocq T0 T1 T2 hT3 HT
    go_wp2_with fail
    refine (Ints.eqIntsC hr_ wr rr3 Wr.heap.size Wr Hr.sees Orr.sees (Nat.le_refl _)).mono ?_
    rintro e Ws ⟨rfl, bs⟩
    have bbs := bbr.trans (bs.mono (by omega)); have ss := bs.size
    have A1s := A1r.on bs (Nat.le_refl _); have A2s := A2r.on bs (Nat.le_refl _); have Hcs := Hc.on bs (Nat.le_refl _); have Ocs := Ocr.on bs (Nat.le_refl _)
    go_wp2_with fail
    refine (Ints.eqIntsC hc_ wc cc3 Ws.heap.size Ws Hcs.sees Ocs.sees (Nat.le_refl _)).mono ?_
    rintro e Wt ⟨rfl, bt⟩
    have bbt := bbs.trans (bt.mono (by omega)); have st := bt.size
    have A1t := A1s.on bt (Nat.le_refl _); have A2t := A2s.on bt (Nat.le_refl _)
    go_wp2_with fail
    refine (Ints.heldIntsK gr nr 1 (by omega) (by omega) _ Wt A1t.sees (by omega)).mono ?_
    rintro e Wt' ⟨rfl, rfl⟩
    go_wp2_with fail
    refine (Ints.heldIntsK gc nd (1 + (nr : Int)) (by omega) (by omega) _ Wt A2t.sees (by omega)).mono ?_
    rintro e Wt' ⟨rfl, rfl⟩
    go_wp2
    go_ret
    exact ⟨rfl, bbt⟩
  · rw [if_neg j0] at cSz
    go_enter Try.func8, Try.ntmps8
    go_wp2_with fail
    refine cSz.mono ?_
    rintro e w' ⟨rfl, rfl⟩
    go_wp2
    go_ret
    exact ⟨rfl, Below.refl _ _⟩
end Ops
end Go.Proofs.Ytppkohkcffnghaa
/- What the frames tell of slices that came in: rows of elements, whatever each of them reads as. -/
set_option linter.unusedVariables false
namespace Go.Proofs.Ytppkohkcffnghaa
open Go.RowKit Go.ChangeShapes Go.WideShapes Go.Deep
namespace Flat
section
variable {H : Type} {enc : TypeId × Value → H} {W : World} {α : Type} {E : El α}
/-- what is read as a value of type e is an element of which Q holds -/
def Reads (enc : TypeId × Value → H) (W : World) (e : TypeId) (E : El α) (Q : α → Prop) : Prop :=
  ∀ fuel cs x, DataW.trod enc Try.prog W 0 (fun _ => true) true fuel e cs = some x → cs.length = E.sz → ∃ a, cs = E.cells a ∧ Q a
theorem rows_of {T e : TypeId} {Q : α → Prop} (z : α) (ht : Try.prog.underlying T = some (.slice e)) (hc : Try.prog.cellsOf e = E.sz) (hr : Reads enc W e E Q)
    {fuel : Nat} {cs : List Value} {x : DataW H × List MemPlace} (h : DataW.trod enc Try.prog W 0 (fun _ => true) true fuel T cs = some x) :
    ∃ v xs, cs = [v] ∧ Sees E W.heap.size W v xs ∧ ∀ y ∈ xs, Q y := by
  rcases open_slice ht h with ⟨rfl, rfl⟩ | ⟨a, len, cap, m, n, D, Pl, rfl, hb, hl, hm, hmm, rfl, hx⟩
  · exact ⟨_, [], rfl, Sees.nil E _ _, fun y hy => by cases hy⟩
  have hmm' : m = cap := by simpa using hmm
  have each : ∀ i, i < len → ∃ y : α, (∀ j u, (E.cells y)[j]? = some u → W.cell? (a.add (i * E.sz + j)) = some u) ∧ Q y := by
    intro i hi
    obtain ⟨cs', h1, h2⟩ := hx i (by omega)
    rw [hc] at h1
    obtain ⟨_, hlen, hcell⟩ := World.cells?_some h1
    obtain ⟨y, rfl, hq⟩ := hr _ _ _ h2 hlen
    refine ⟨y, fun j u hu => ?_, hq⟩
    have hj : j < E.sz := by have := (List.getElem?_eq_some_iff.1 hu).1; rw [E.len] at this; exact this
    have := hcell j hj
    rw [add_add] at this
    rw [this, hu]
  obtain ⟨f, hf⟩ := @choose_lt _ ⟨z⟩ _ _ each
  have hln : ((List.range len).map f).length = len := by simp
  refine ⟨_, (List.range len).map f, rfl, ⟨some a, cap, by rw [hln], by rw [hln]; exact hl, hm, fun hne => ?_⟩, fun y hy => ?_⟩
  · have hpos : 0 < len := by
      rcases Nat.eq_zero_or_pos len with h0 | h0
      · subst h0; simp at hne
      · exact h0
    obtain ⟨b, off, spot⟩ := a
    have hp := E.pos
    obtain ⟨u, hu⟩ : ∃ u, (E.cells (f 0))[0]? = some u := ⟨(E.cells (f 0))[0]'(by rw [E.len]; exact hp), List.getElem?_eq_getElem _⟩
    have h0 := (hf 0 hpos).1 0 u hu
    have hspot : spot = none := by simpa [Addr.add] using World.cell?_spot h0
    subst hspot
    have hb : b < W.heap.size := by
      have := World.block_lt_of_cell? _ _ h0
      simpa [Addr.add] using this
    refine ⟨b, off, rfl, hb, fun j hj i u hu => ?_⟩
    have hj' : j < len := by simpa using hj
    have ha : ∀ i, (⟨b, off, none⟩ : Addr).add i = ⟨b, off + i, none⟩ := fun i => by unfold Addr.add; split <;> simp_all
    have hg : ((List.range len).map f)[j] = f j := by simp
    rw [hg] at hu
    have := (hf j hj').1 i u hu
    rw [ha] at this
    rw [Nat.add_assoc]; exact this
  · obtain ⟨j, hj, rfl⟩ := List.mem_map.1 hy
    exact (hf j (by simpa using hj)).2
end
end Flat
end Go.Proofs.Ytppkohkcffnghaa
/- What the frames tell of codes and programs that came in. -/
set_option linter.unusedVariables false
namespace Go.Proofs.Ytppkohkcffnghaa
open Go.RowKit Go.ChangeShapes Go.WideShapes Go.Deep
namespace Ops
open Flat
theorem cellsLOp : Try.prog.cellsOf 113 = 4 := by kernel_rfl
theorem cellsLInt : Try.prog.cellsOf 3 = 1 := by kernel_rfl
theorem cellsLKid : Try.prog.cellsOf 129 = 1 := by kernel_rfl
theorem cellsLProg : Try.prog.cellsOf 61 = 2 := by kernel_rfl
theorem cellsLOps : Try.prog.cellsOf 58 = 1 := by kernel_rfl

section
variable {H : Type} {enc : TypeId × Value → H} {W : World}
set_option maxRecDepth 100000 in
theorem readsOp : Reads enc W 113 opEl (fun _ => True) := by
  intro fuel cs x h hl
  obtain ⟨xs, k, hk, hxy, _, hxl, hf⟩ := DataW.trod_struct Try.underlying113 h
  change cs.length = 4 at hl
  match xs, hxl, cs, hl with
  | [y0, y1, y2, y3], _, [v0, v1, v2, v3], _ =>
    have g0 := hf 0 _ rfl
    have g1 := hf 1 _ rfl
    have g2 := hf 2 _ rfl
    have g3 := hf 3 _ rfl
    simp [cellsLInt] at g0 g1 g2 g3
    obtain ⟨n0, e0, -, -⟩ := DataW.trod_int Try.underlying3 g0
    obtain ⟨n1, e1, -, -⟩ := DataW.trod_int Try.underlying3 g1
    obtain ⟨n2, e2, -, -⟩ := DataW.trod_int Try.underlying3 g2
    obtain ⟨n3, e3, -, -⟩ := DataW.trod_int Try.underlying3 g3
    simp only [List.cons.injEq, and_true] at e0 e1 e2 e3
    subst e0 e1 e2 e3
    exact ⟨⟨n0, n1, n2, n3⟩, rfl, trivial⟩
theorem codes_of {fuel : Nat} {cs : List Value} {x : DataW H × List MemPlace} (h : DataW.trod enc Try.prog W 0 (fun _ => true) true fuel 58 cs = some x) : ∃ v xs, cs = [v] ∧ Sees4 W.heap.size W v xs := by
  obtain ⟨v, xs, e, hs, -⟩ := rows_of (E := opEl) z4 Try.underlying58 cellsLOp readsOp h
  exact ⟨v, xs, e, hs⟩
set_option maxRecDepth 100000 in
theorem readsKid : Reads enc W 129 slEl (fun s => ∃ xs, Sees4 W.heap.size W s.val xs) := by
  intro fuel cs x h hl
  obtain ⟨xs, k, hk, hxy, _, hxl, hf⟩ := DataW.trod_struct Try.underlying129 h
  change cs.length = 1 at hl
  match xs, hxl, cs, hl with
  | [y0], _, [v0], _ =>
    have g0 := hf 0 _ rfl
    simp [cellsLOps] at g0
    obtain ⟨v, ys, e, hs⟩ := codes_of g0
    simp only [List.cons.injEq, and_true] at e
    subst e
    obtain ⟨a, cap, rfl⟩ := hs.form
    exact ⟨⟨a, ys.length, cap⟩, rfl, ys, hs⟩
theorem kids_of {fuel : Nat} {cs : List Value} {x : DataW H × List MemPlace} (h : DataW.trod enc Try.prog W 0 (fun _ => true) true fuel 59 cs = some x) : ∃ v kss, cs = [v] ∧ SeesK W.heap.size W v kss := by
  obtain ⟨v, ss, e, hs, hq⟩ := rows_of (E := slEl) z3 Try.underlying59 cellsLKid readsKid h
  obtain ⟨f, hf⟩ := @choose_lt (List O4) ⟨[]⟩ ss.length (fun j xs => ∃ h : j < ss.length, Sees4 W.heap.size W ss[j].val xs) (fun j hj => by
    obtain ⟨xs, hx⟩ := hq ss[j] (List.getElem_mem hj)
    exact ⟨xs, hj, hx⟩)
  refine ⟨v, (List.range ss.length).map f, e, ss, hs, by simp, fun j hj hj' => ?_⟩
  obtain ⟨_, hx⟩ := hf j hj
  have hg : ((List.range ss.length).map f)[j] = f j := by simp
  rw [hg]; exact hx
set_option maxRecDepth 100000 in
theorem openCode {r : Reach} {b0 : Nat} {v : Value} {d : DataW H} {p : List MemPlace} (hv : Value.okWide Try.prog W r b0 58 v) (h : DataW.Trod enc Try.prog W 0 (fun _ => true) true 58 v d p) :
    ∃ v1 xs, v = v1 ∧ Sees4 W.heap.size W v1 xs := by
  obtain ⟨a, len, cap, rfl⟩ := okWide_slice Try.underlying58 hv
  obtain ⟨fuel, hf⟩ := h
  obtain ⟨v1, xs, e, hs⟩ := codes_of hf
  simp [Value.cells] at e
  exact ⟨v1, xs, e, hs⟩
set_option maxRecDepth 100000 in
theorem openProg {r : Reach} {b0 : Nat} {v : Value} {d : DataW H} {p : List MemPlace} (hv : Value.okWide Try.prog W r b0 61 v) (h : DataW.Trod enc Try.prog W 0 (fun _ => true) true 61 v d p) :
    ∃ vc vk xs kss, v = .agg #[vc, vk] ∧ SeesP W.heap.size W vc vk xs kss := by
  obtain ⟨v0, v1, y0, y1, n, rfl, -, -, h0, h1⟩ := Joins.open_agg2 Try.underlying61 (by kernel_rfl) cellsLProg hv h
  obtain ⟨vc, xs, e0, hs0⟩ := codes_of h0
  obtain ⟨vk, kss, e1, hs1⟩ := kids_of h1
  simp only [List.cons.injEq, and_true] at e0 e1
  subst e0 e1
  exact ⟨_, _, xs, kss, rfl, hs0, hs1⟩
end
end Ops
end Go.Proofs.Ytppkohkcffnghaa
