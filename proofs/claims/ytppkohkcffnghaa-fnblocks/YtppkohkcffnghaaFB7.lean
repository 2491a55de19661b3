/- Several texts of one proof, in build order: ThSame, IntSame, Args, BlocksFn. -/
import Derived.Test.YtppkohkcffnghaaKB1
import Derived.Test.YtppkohkcffnghaaKB2
import Derived.Test.YtppkohkcffnghaaKB5
import Derived.Test.YtppkohkcffnghaaFB1
import Derived.Test.YtppkohkcffnghaaFB5
import Derived.Test.YtppkohkcffnghaaFB6
/- Rows of numbers held against each other; what SameThings answers, the program's and the specification's. -/
set_option linter.unusedVariables false
set_option linter.unusedSimpArgs false
namespace Go.Proofs.Ytppkohkcffnghaa
open Go.RowKit
namespace Ints
theorem ne_len {zs ys : List Int} (h : ¬ zs.length = ys.length) : decide (zs = ys) = false := decide_eq_false fun e => h (by rw [e])
theorem ne_at {zs ys : List Int} {j : Nat} (h1 : j < zs.length) (h2 : j < ys.length) (h : ¬ zs[j] = ys[j]) : decide (zs = ys) = false := decide_eq_false fun e => h (by subst e; rfl)
theorem eq_all {zs ys : List Int} (h : zs.length = ys.length) (ha : ∀ j (h1 : j < zs.length) (h2 : j < ys.length), zs[j] = ys[j]) : decide (zs = ys) = true := decide_eq_true (List.ext_getElem h ha)
theorem ret_eq {zs ys : List Int} {b : Bool} (h : decide (zs = ys) = b) : Ending.returned (.bool b) = .returned (.bool (decide (zs = ys))) := by rw [h]

set_option maxRecDepth 100000 in
set_option maxHeartbeats 1600000 in
theorem equalC (v v' : Value) (zs ys : List Int) (B : Nat) (w : World) (hv : Ints.Sees B w v zs) (hv' : Ints.Sees B w v' ys) (hB : B ≤ w.heap.size) :
    Calls Try.prog 74 #[v, v'] w fun e w' => e = .returned (.bool (decide (zs = ys))) ∧ Below w.heap.size w w' := by
  obtain ⟨a, cap, rfl, h1, h2, h3⟩ := hv
  obtain ⟨a', cap', rfl, h1', h2', h3'⟩ := hv'
  obtain ⟨n, hn⟩ : ∃ n, zs.length = n := ⟨_, rfl⟩
  obtain ⟨m, hm'⟩ : ∃ n, ys.length = n := ⟨_, rfl⟩
  have hm : (n : Int) ≤ 9223372036854775807 := by unfold maxLen at h2; omega
  have hm2 : (m : Int) ≤ 9223372036854775807 := by unfold maxLen at h2'; omega
  rw [hn, hm']
  obtain ⟨g, hg⟩ : ∃ g, w.heap.size = g := ⟨_, rfl⟩
  rw [hg] at hB ⊢
  clear h1 h2 h1' h2'
  by_cases hl : n = m
  · subst hl
    have HN : Hid (zs.length = n) := hn
    have HM : Hid (ys.length = n) := hm'
    go_enter Try.func74, Try.ntmps74
    go_wp2
    go_loopw [13] (fun i wr => ∃ k : Nat, k ≤ n ∧ i = .int .i64 k ∧ Below g w wr ∧ ∀ j (h1 : j < zs.length) (h2 : j < ys.length), j < k → zs[j] = ys[j]) (fun i _ => n - (intOf i).toNat)
    case atStart => exact ⟨0, Nat.zero_le _, rfl, Below.refl _ _, fun j _ _ h => by omega⟩
    case round =>
      obtain ⟨k, hk, rfl, hb, hall⟩ := hrel
      by_cases hlt : k < n
      · obtain ⟨b, off, rfl, hbB, hc⟩ := h3 (fun h => by simp [h] at hn; omega)
        obtain ⟨b', off', rfl, hbB', hc'⟩ := h3' (fun h => by simp [h] at hm'; omega)
        have a0 := (hb.cell (p := ⟨b, off + k, none⟩) (by show b < g; omega)).trans (hc k (by omega))
        have a0' := (hb.cell (p := ⟨b', off' + k, none⟩) (by show b' < g; omega)).trans (hc' k (by omega))
        obtain ⟨x, hx⟩ : ∃ x, zs[k] = x := ⟨_, rfl⟩
        obtain ⟨y, hy⟩ : ∃ y, ys[k] = y := ⟨_, rfl⟩
        have HA : Hid (∀ j (h1 : j < zs.length) (h2 : j < ys.length), j < k → zs[j] = ys[j]) := hall
        by_cases hxy : x = y
        · have HK : Hid (zs[k] = ys[k]) := by show _ = _; rw [hx, hy, hxy]
          subst hxy
          rw [hx] at a0
          rw [hy] at a0'
          clear hx hy hc h3 hc' h3' hall
          go_wp2_with fail
          go_region
          all_goals
            go_wp2
            go_roundw
            case rel => exact ⟨k + 1, by omega, by go_num, by first | exact hb.drew | exact hb.drew.drew | exact hb, fun j p1 p2 hj => by
              rcases Nat.lt_succ_iff_lt_or_eq.1 hj with h | h
              · exact HA.out j p1 p2 h
              · subst h; exact HK.out⟩
            case measure => simp [intOf]; omega
        · have HF : Hid (decide (zs = ys) = false) := ne_at (j := k) (by omega) (by omega) (by rw [hx, hy]; exact hxy)
          have hxy' : (x != y) = true := by simp [hxy]
          rw [hx] at a0
          rw [hy] at a0'
          clear hx hy hc h3 hc' h3' hall hxy
          go_wp2_with fail
          go_region
          all_goals
            go_wp2
            go_ret
            exact ⟨ret_eq HF.out, by first | exact hb.drew | exact hb.drew.drew | exact hb⟩
      · obtain rfl : k = n := by omega
        have HT : Hid (decide (zs = ys) = true) := eq_all (by rw [HN.out, HM.out]) fun j p1 p2 => hall j p1 p2 (by omega)
        clear hall
        go_wp2
        go_ret
        exact ⟨ret_eq HT.out, hb⟩
  · have HF : Hid (decide (zs = ys) = false) := ne_len (by omega)
    have hl' : ((n : Int) != (m : Int)) = true := by simp; omega
    clear hl h3 h3'
    go_enter Try.func74, Try.ntmps74
    go_wp2
    go_ret
    exact ⟨ret_eq HF.out, Below.refl _ _⟩

set_option maxRecDepth 100000 in
set_option maxHeartbeats 1600000 in
theorem l7IntsC (v v' : Value) (zs ys : List Int) (B : Nat) (w : World) (hv : Ints.Sees B w v zs) (hv' : Ints.Sees B w v' ys) (hB : B ≤ w.heap.size) :
    Calls Try.prog 65 #[v, v'] w fun e w' => e = .returned (.bool (decide (zs = ys))) ∧ Below w.heap.size w w' := by
  obtain ⟨a, cap, rfl, h1, h2, h3⟩ := hv
  obtain ⟨a', cap', rfl, h1', h2', h3'⟩ := hv'
  obtain ⟨n, hn⟩ : ∃ n, zs.length = n := ⟨_, rfl⟩
  obtain ⟨m, hm'⟩ : ∃ n, ys.length = n := ⟨_, rfl⟩
  have hm : (n : Int) ≤ 9223372036854775807 := by unfold maxLen at h2; omega
  have hm2 : (m : Int) ≤ 9223372036854775807 := by unfold maxLen at h2'; omega
  rw [hn, hm']
  obtain ⟨g, hg⟩ : ∃ g, w.heap.size = g := ⟨_, rfl⟩
  rw [hg] at hB ⊢
  clear h1 h2 h1' h2'
  by_cases hl : n = m
  · subst hl
    have HN : Hid (zs.length = n) := hn
    have HM : Hid (ys.length = n) := hm'
    go_enter Try.func65, Try.ntmps65
    go_wp2
    go_loopw [5] (fun i wr => ∃ k : Nat, k ≤ n ∧ i = .int .i64 k ∧ Below g w wr ∧ ∀ j (h1 : j < zs.length) (h2 : j < ys.length), j < k → zs[j] = ys[j]) (fun i _ => n - (intOf i).toNat)
    case atStart => exact ⟨0, Nat.zero_le _, rfl, Below.refl _ _, fun j _ _ h => by omega⟩
    case round =>
      obtain ⟨k, hk, rfl, hb, hall⟩ := hrel
      by_cases hlt : k < n
      · obtain ⟨b, off, rfl, hbB, hc⟩ := h3 (fun h => by simp [h] at hn; omega)
        obtain ⟨b', off', rfl, hbB', hc'⟩ := h3' (fun h => by simp [h] at hm'; omega)
        have a0 := (hb.cell (p := ⟨b, off + k, none⟩) (by show b < g; omega)).trans (hc k (by omega))
        have a0' := (hb.cell (p := ⟨b', off' + k, none⟩) (by show b' < g; omega)).trans (hc' k (by omega))
        obtain ⟨x, hx⟩ : ∃ x, zs[k] = x := ⟨_, rfl⟩
        obtain ⟨y, hy⟩ : ∃ y, ys[k] = y := ⟨_, rfl⟩
        have HA : Hid (∀ j (h1 : j < zs.length) (h2 : j < ys.length), j < k → zs[j] = ys[j]) := hall
        by_cases hxy : x = y
        · have HK : Hid (zs[k] = ys[k]) := by show _ = _; rw [hx, hy, hxy]
          subst hxy
          rw [hx] at a0
          rw [hy] at a0'
          clear hx hy hc h3 hc' h3' hall
          go_wp2_with fail
          go_region
          all_goals
            go_wp2
            go_roundw
            case rel => exact ⟨k + 1, by omega, by go_num, by first | exact hb.drew | exact hb.drew.drew | exact hb, fun j p1 p2 hj => by
              rcases Nat.lt_succ_iff_lt_or_eq.1 hj with h | h
              · exact HA.out j p1 p2 h
              · subst h; exact HK.out⟩
            case measure => simp [intOf]; omega
        · have HF : Hid (decide (zs = ys) = false) := ne_at (j := k) (by omega) (by omega) (by rw [hx, hy]; exact hxy)
          have hxy' : (x != y) = true := by simp [hxy]
          rw [hx] at a0
          rw [hy] at a0'
          clear hx hy hc h3 hc' h3' hall hxy
          go_wp2_with fail
          go_region
          all_goals
            go_wp2
            go_ret
            exact ⟨ret_eq HF.out, by first | exact hb.drew | exact hb.drew.drew | exact hb⟩
      · obtain rfl : k = n := by omega
        have HT : Hid (decide (zs = ys) = true) := eq_all (by rw [HN.out, HM.out]) fun j p1 p2 => hall j p1 p2 (by omega)
        clear hall
        go_wp2
        go_ret
        exact ⟨ret_eq HT.out, hb⟩
  · have HF : Hid (decide (zs = ys) = false) := ne_len (by omega)
    have hl' : ((n : Int) != (m : Int)) = true := by simp; omega
    clear hl h3 h3'
    go_enter Try.func65, Try.ntmps65
    go_wp2
    go_ret
    exact ⟨ret_eq HF.out, Below.refl _ _⟩

set_option maxRecDepth 100000 in
set_option maxHeartbeats 1600000 in
theorem sameC (v v' : Value) (zs ys : List Int) (B : Nat) (w : World) (hv : Ints.Sees B w v zs) (hv' : Ints.Sees B w v' ys) (hB : B ≤ w.heap.size) :
    Calls Try.prog 13 #[v, v'] w fun e w' => e = .returned (.bool (decide (zs = ys))) ∧ Below w.heap.size w w' := by
  obtain ⟨a, cap, rfl, h1, h2, h3⟩ := hv
  obtain ⟨a', cap', rfl, h1', h2', h3'⟩ := hv'
  obtain ⟨n, hn⟩ : ∃ n, zs.length = n := ⟨_, rfl⟩
  obtain ⟨m, hm'⟩ : ∃ n, ys.length = n := ⟨_, rfl⟩
  have hm : (n : Int) ≤ 9223372036854775807 := by unfold maxLen at h2; omega
  have hm2 : (m : Int) ≤ 9223372036854775807 := by unfold maxLen at h2'; omega
  rw [hn, hm']
  obtain ⟨g, hg⟩ : ∃ g, w.heap.size = g := ⟨_, rfl⟩
  rw [hg] at hB ⊢
  clear h1 h2 h1' h2'
  by_cases hl : n = m
  · subst hl
    have HN : Hid (zs.length = n) := hn
    have HM : Hid (ys.length = n) := hm'
    go_enter Try.func13, Try.ntmps13
    go_wp2
    go_loopw [5] (fun i wr => ∃ k : Nat, k ≤ n ∧ i = .int .i64 k ∧ Below g w wr ∧ ∀ j (h1 : j < zs.length) (h2 : j < ys.length), j < k → zs[j] = ys[j]) (fun i _ => n - (intOf i).toNat)
    case atStart => exact ⟨0, Nat.zero_le _, rfl, Below.refl _ _, fun j _ _ h => by omega⟩
    case round =>
      obtain ⟨k, hk, rfl, hb, hall⟩ := hrel
      by_cases hlt : k < n
      · obtain ⟨b, off, rfl, hbB, hc⟩ := h3 (fun h => by simp [h] at hn; omega)
        obtain ⟨b', off', rfl, hbB', hc'⟩ := h3' (fun h => by simp [h] at hm'; omega)
        have a0 := (hb.cell (p := ⟨b, off + k, none⟩) (by show b < g; omega)).trans (hc k (by omega))
        have a0' := (hb.cell (p := ⟨b', off' + k, none⟩) (by show b' < g; omega)).trans (hc' k (by omega))
        obtain ⟨x, hx⟩ : ∃ x, zs[k] = x := ⟨_, rfl⟩
        obtain ⟨y, hy⟩ : ∃ y, ys[k] = y := ⟨_, rfl⟩
        have HA : Hid (∀ j (h1 : j < zs.length) (h2 : j < ys.length), j < k → zs[j] = ys[j]) := hall
        by_cases hxy : x = y
        · have HK : Hid (zs[k] = ys[k]) := by show _ = _; rw [hx, hy, hxy]
          subst hxy
          rw [hx] at a0
          rw [hy] at a0'
          clear hx hy hc h3 hc' h3' hall
          go_wp2_with fail
          go_region
          all_goals
            go_wp2
            go_roundw
            case rel => exact ⟨k + 1, by omega, by go_num, by first | exact hb.drew | exact hb.drew.drew | exact hb, fun j p1 p2 hj => by
              rcases Nat.lt_succ_iff_lt_or_eq.1 hj with h | h
              · exact HA.out j p1 p2 h
              · subst h; exact HK.out⟩
            case measure => simp [intOf]; omega
        · have HF : Hid (decide (zs = ys) = false) := ne_at (j := k) (by omega) (by omega) (by rw [hx, hy]; exact hxy)
          have hxy' : (x != y) = true := by simp [hxy]
          rw [hx] at a0
          rw [hy] at a0'
          clear hx hy hc h3 hc' h3' hall hxy
          go_wp2_with fail
          go_region
          all_goals
            go_wp2
            go_ret
            exact ⟨ret_eq HF.out, by first | exact hb.drew | exact hb.drew.drew | exact hb⟩
      · obtain rfl : k = n := by omega
        have HT : Hid (decide (zs = ys) = true) := eq_all (by rw [HN.out, HM.out]) fun j p1 p2 => hall j p1 p2 (by omega)
        clear hall
        go_wp2
        go_ret
        exact ⟨ret_eq HT.out, hb⟩
  · have HF : Hid (decide (zs = ys) = false) := ne_len (by omega)
    have hl' : ((n : Int) != (m : Int)) = true := by simp; omega
    clear hl h3 h3'
    go_enter Try.func13, Try.ntmps13
    go_wp2
    go_ret
    exact ⟨ret_eq HF.out, Below.refl _ _⟩

set_option maxRecDepth 100000 in
set_option maxHeartbeats 1600000 in
theorem eqlC (v v' : Value) (zs ys : List Int) (B : Nat) (w : World) (hv : Ints.Sees B w v zs) (hv' : Ints.Sees B w v' ys) (hB : B ≤ w.heap.size) :
    Calls Try.prog 31 #[v, v'] w fun e w' => e = .returned (.bool (decide (zs = ys))) ∧ Below w.heap.size w w' := by
  obtain ⟨a, cap, rfl, h1, h2, h3⟩ := hv
  obtain ⟨a', cap', rfl, h1', h2', h3'⟩ := hv'
  obtain ⟨n, hn⟩ : ∃ n, zs.length = n := ⟨_, rfl⟩
  obtain ⟨m, hm'⟩ : ∃ n, ys.length = n := ⟨_, rfl⟩
  have hm : (n : Int) ≤ 9223372036854775807 := by unfold maxLen at h2; omega
  have hm2 : (m : Int) ≤ 9223372036854775807 := by unfold maxLen at h2'; omega
  rw [hn, hm']
  obtain ⟨g, hg⟩ : ∃ g, w.heap.size = g := ⟨_, rfl⟩
  rw [hg] at hB ⊢
  clear h1 h2 h1' h2'
  by_cases hl : n = m
  · subst hl
    have HN : Hid (zs.length = n) := hn
    have HM : Hid (ys.length = n) := hm'
    go_enter Try.func31, Try.ntmps31
    go_wp2
    go_loopw [5] (fun i wr => ∃ k : Nat, k ≤ n ∧ i = .int .i64 k ∧ Below g w wr ∧ ∀ j (h1 : j < zs.length) (h2 : j < ys.length), j < k → zs[j] = ys[j]) (fun i _ => n - (intOf i).toNat)
    case atStart => exact ⟨0, Nat.zero_le _, rfl, Below.refl _ _, fun j _ _ h => by omega⟩
    case round =>
      obtain ⟨k, hk, rfl, hb, hall⟩ := hrel
      by_cases hlt : k < n
      · obtain ⟨b, off, rfl, hbB, hc⟩ := h3 (fun h => by simp [h] at hn; omega)
        obtain ⟨b', off', rfl, hbB', hc'⟩ := h3' (fun h => by simp [h] at hm'; omega)
        have a0 := (hb.cell (p := ⟨b, off + k, none⟩) (by show b < g; omega)).trans (hc k (by omega))
        have a0' := (hb.cell (p := ⟨b', off' + k, none⟩) (by show b' < g; omega)).trans (hc' k (by omega))
        obtain ⟨x, hx⟩ : ∃ x, zs[k] = x := ⟨_, rfl⟩
        obtain ⟨y, hy⟩ : ∃ y, ys[k] = y := ⟨_, rfl⟩
        have HA : Hid (∀ j (h1 : j < zs.length) (h2 : j < ys.length), j < k → zs[j] = ys[j]) := hall
        by_cases hxy : x = y
        · have HK : Hid (zs[k] = ys[k]) := by show _ = _; rw [hx, hy, hxy]
          subst hxy
          rw [hx] at a0
          rw [hy] at a0'
          clear hx hy hc h3 hc' h3' hall
          go_wp2_with fail
          go_region
          all_goals
            go_wp2
            go_roundw
            case rel => exact ⟨k + 1, by omega, by go_num, by first | exact hb.drew | exact hb.drew.drew | exact hb, fun j p1 p2 hj => by
              rcases Nat.lt_succ_iff_lt_or_eq.1 hj with h | h
              · exact HA.out j p1 p2 h
              · subst h; exact HK.out⟩
            case measure => simp [intOf]; omega
        · have HF : Hid (decide (zs = ys) = false) := ne_at (j := k) (by omega) (by omega) (by rw [hx, hy]; exact hxy)
          have hxy' : (x != y) = true := by simp [hxy]
          rw [hx] at a0
          rw [hy] at a0'
          clear hx hy hc h3 hc' h3' hall hxy
          go_wp2_with fail
          go_region
          all_goals
            go_wp2
            go_ret
            exact ⟨ret_eq HF.out, by first | exact hb.drew | exact hb.drew.drew | exact hb⟩
      · obtain rfl : k = n := by omega
        have HT : Hid (decide (zs = ys) = true) := eq_all (by rw [HN.out, HM.out]) fun j p1 p2 => hall j p1 p2 (by omega)
        clear hall
        go_wp2
        go_ret
        exact ⟨ret_eq HT.out, hb⟩
  · have HF : Hid (decide (zs = ys) = false) := ne_len (by omega)
    have hl' : ((n : Int) != (m : Int)) = true := by simp; omega
    clear hl h3 h3'
    go_enter Try.func31, Try.ntmps31
    go_wp2
    go_ret
    exact ⟨ret_eq HF.out, Below.refl _ _⟩
end Ints
namespace Ops
open Bas

/-- SameThings -/
def sameTh (a b : Th) : Bool := decide (a.c = b.c) && decide (a.m = b.m) && decide (a.n = b.n)
theorem sameTh_self (t : Th) : sameTh t t = true := by simp [sameTh]

set_option maxRecDepth 100000 in
set_option maxHeartbeats 1600000 in
theorem implSame (vc vm vc' vm' : Value) (s t : Th) (B : Nat) (w : World) (hv : SeeT B w vc vm s) (hv' : SeeT B w vc' vm' t) (hB : B ≤ w.heap.size) :
    Calls Try.prog 24 #[.agg #[vc, vm, .int .i64 s.n], .agg #[vc', vm', .int .i64 t.n]] w fun e w' => e = .returned (.bool (sameTh s t)) ∧ Below w.heap.size w w' := by
  obtain ⟨q, hq⟩ : ∃ q, w.heap.size = q := ⟨_, rfl⟩
  have X0 := Blk.new w #[vc, vm, .int .i64 s.n] 37
  have b0 := alloc_below w (.cells #[vc, vm, .int .i64 s.n] 37)
  obtain ⟨w0, hw0⟩ : ∃ w0, w.alloc (.cells #[vc, vm, .int .i64 s.n] 37) = w0 := ⟨_, rfl⟩
  have hz0 : w0.heap.size = q + 1 := by rw [← hw0, ← hq]; simp
  rw [hw0] at X0 b0
  rw [hq] at X0 b0 hB ⊢
  obtain ⟨q1, hq1⟩ : ∃ q, w0.heap.size = q := ⟨_, rfl⟩
  have l01 : q < q1 := by omega
  clear hz0
  have Y1 := Blk.new w0 #[vc', vm', .int .i64 t.n] 37
  have b1 := alloc_below w0 (.cells #[vc', vm', .int .i64 t.n] 37)
  obtain ⟨w1, hw1⟩ : ∃ w1, w0.alloc (.cells #[vc', vm', .int .i64 t.n] 37) = w1 := ⟨_, rfl⟩
  rw [hw1] at Y1 b1
  rw [hq1] at Y1 b1
  have X1 := X0.on b1 (by omega)
  have bb : Below q w w1 := b0.trans (b1.mono (by omega))
  have z1 : q < w1.heap.size := X1.lt
  have x0 := X1.cell 0; have x1 := X1.cell 1; have x2 := X1.cell 2
  have y0 := Y1.cell 0; have y1 := Y1.cell 1; have y2 := Y1.cell 2
  have sv := hv.on bb hB
  have sv' := hv'.on bb hB
  have cA := Ints.equalC vc vc' s.c t.c B w1 sv.c sv'.c (by omega)
  obtain ⟨bA, hA⟩ : ∃ b, decide (s.c = t.c) = b := ⟨_, rfl⟩
  rw [hA] at cA
  obtain ⟨bM, hM⟩ : ∃ b, decide (s.m = t.m) = b := ⟨_, rfl⟩
  have cM : ∀ w2, Below w1.heap.size w1 w2 → Calls Try.prog 74 #[vm, vm'] w2 fun e w' => e = .returned (.bool bM) ∧ Below w2.heap.size w2 w' := fun w2 b2 => by
    have := Ints.equalC vm vm' s.m t.m B w2 (sv.m.on b2 (by omega)) (sv'.m.on b2 (by omega)) (by have := b2.size; omega)
    rw [hM] at this; exact this
  have X2 : ∀ w2, Below w1.heap.size w1 w2 → Blk w2 q #[vc, vm, .int .i64 s.n] 37 := fun w2 b2 => X1.on b2 X1.lt
  have Y2 : ∀ w2, Below w1.heap.size w1 w2 → Blk w2 q1 #[vc', vm', .int .i64 t.n] 37 := fun w2 b2 => Y1.on b2 Y1.lt
  have HS : Hid (sameTh s t = (bA && bM && decide (s.n = t.n))) := by show _ = _; unfold sameTh; rw [hA, hM]
  obtain ⟨sn, hsn⟩ : ∃ x, s.n = x := ⟨_, rfl⟩
  obtain ⟨tn, htn⟩ : ∃ x, t.n = x := ⟨_, rfl⟩
  rw [hsn] at x2 X2 HS hw0 ⊢
  rw [htn] at y2 Y2 HS hw1 ⊢
  clear hA hM X0 X1 Y1 sv sv' hv hv' b0 b1 hsn htn
  cases bA with
  | false =>
    go_enter Try.func24, Try.ntmps24
    go_wp2_with (go_at_call_of 74 vc; refine cA.mono ?_; rintro e w2 ⟨rfl, b2⟩)
    go_ret
    exact ⟨by rw [HS.out]; rfl, bb.trans (b2.mono (by omega))⟩
  | true =>
    cases bM with
    | false =>
      go_enter Try.func24, Try.ntmps24
      go_wp2_with (go_at_call_of 74 vc; refine cA.mono ?_; rintro e w2 ⟨rfl, b2⟩; have x1 := (X2 _ b2).cell 1; have y1 := (Y2 _ b2).cell 1)
      refine (cM _ b2).mono ?_
      rintro e w3 ⟨rfl, b3⟩
      go_wp2
      go_ret
      have z2 := b2.size
      exact ⟨by rw [HS.out]; rfl, (bb.trans (b2.mono (by omega))).trans (b3.mono (by omega))⟩
    | true =>
      go_enter Try.func24, Try.ntmps24
      go_wp2_with (go_at_call_of 74 vc; refine cA.mono ?_; rintro e w2 ⟨rfl, b2⟩; have x1 := (X2 _ b2).cell 1; have y1 := (Y2 _ b2).cell 1)
      refine (cM _ b2).mono ?_
      rintro e w3 ⟨rfl, b3⟩
      have z2 := b2.size
      have x2 := (X2 _ (b2.trans (b3.mono z2))).cell 2
      have y2 := (Y2 _ (b2.trans (b3.mono z2))).cell 2
      go_wp2
      go_ret
      refine ⟨?_, (bb.trans (b2.mono (by omega))).trans (b3.mono (by omega))⟩
      rw [HS.out]
      congr 2

set_option maxRecDepth 100000 in
set_option maxHeartbeats 1600000 in
theorem specSame (vc vm vc' vm' : Value) (s t : Th) (B : Nat) (w : World) (hv : SeeT B w vc vm s) (hv' : SeeT B w vc' vm' t) (hB : B ≤ w.heap.size) :
    Calls Try.prog 17 #[.agg #[vc, vm, .int .i64 s.n], .agg #[vc', vm', .int .i64 t.n]] w fun e w' => e = .returned (.bool (sameTh s t)) ∧ Below w.heap.size w w' := by
  obtain ⟨q, hq⟩ : ∃ q, w.heap.size = q := ⟨_, rfl⟩
  have X0 := Blk.new w #[vc, vm, .int .i64 s.n] 37
  have b0 := alloc_below w (.cells #[vc, vm, .int .i64 s.n] 37)
  obtain ⟨w0, hw0⟩ : ∃ w0, w.alloc (.cells #[vc, vm, .int .i64 s.n] 37) = w0 := ⟨_, rfl⟩
  have hz0 : w0.heap.size = q + 1 := by rw [← hw0, ← hq]; simp
  rw [hw0] at X0 b0
  rw [hq] at X0 b0 hB ⊢
  obtain ⟨q1, hq1⟩ : ∃ q, w0.heap.size = q := ⟨_, rfl⟩
  have l01 : q < q1 := by omega
  clear hz0
  have Y1 := Blk.new w0 #[vc', vm', .int .i64 t.n] 37
  have b1 := alloc_below w0 (.cells #[vc', vm', .int .i64 t.n] 37)
  obtain ⟨w1, hw1⟩ : ∃ w1, w0.alloc (.cells #[vc', vm', .int .i64 t.n] 37) = w1 := ⟨_, rfl⟩
  rw [hw1] at Y1 b1
  rw [hq1] at Y1 b1
  have X1 := X0.on b1 (by omega)
  have bb : Below q w w1 := b0.trans (b1.mono (by omega))
  have z1 : q < w1.heap.size := X1.lt
  have x0 := X1.cell 0; have x1 := X1.cell 1; have x2 := X1.cell 2
  have y0 := Y1.cell 0; have y1 := Y1.cell 1; have y2 := Y1.cell 2
  have sv := hv.on bb hB
  have sv' := hv'.on bb hB
  have cA := Ints.l7IntsC vc vc' s.c t.c B w1 sv.c sv'.c (by omega)
  obtain ⟨bA, hA⟩ : ∃ b, decide (s.c = t.c) = b := ⟨_, rfl⟩
  rw [hA] at cA
  obtain ⟨bM, hM⟩ : ∃ b, decide (s.m = t.m) = b := ⟨_, rfl⟩
  have cM : ∀ w2, Below w1.heap.size w1 w2 → Calls Try.prog 65 #[vm, vm'] w2 fun e w' => e = .returned (.bool bM) ∧ Below w2.heap.size w2 w' := fun w2 b2 => by
    have := Ints.l7IntsC vm vm' s.m t.m B w2 (sv.m.on b2 (by omega)) (sv'.m.on b2 (by omega)) (by have := b2.size; omega)
    rw [hM] at this; exact this
  have X2 : ∀ w2, Below w1.heap.size w1 w2 → Blk w2 q #[vc, vm, .int .i64 s.n] 37 := fun w2 b2 => X1.on b2 X1.lt
  have Y2 : ∀ w2, Below w1.heap.size w1 w2 → Blk w2 q1 #[vc', vm', .int .i64 t.n] 37 := fun w2 b2 => Y1.on b2 Y1.lt
  have HS : Hid (sameTh s t = (bA && bM && decide (s.n = t.n))) := by show _ = _; unfold sameTh; rw [hA, hM]
  obtain ⟨sn, hsn⟩ : ∃ x, s.n = x := ⟨_, rfl⟩
  obtain ⟨tn, htn⟩ : ∃ x, t.n = x := ⟨_, rfl⟩
  rw [hsn] at x2 X2 HS hw0 ⊢
  rw [htn] at y2 Y2 HS hw1 ⊢
  clear hA hM X0 X1 Y1 sv sv' hv hv' b0 b1 hsn htn
  cases bA with
  | false =>
    go_enter Try.func17, Try.ntmps17
    go_wp2_with (go_at_call_of 65 vc; refine cA.mono ?_; rintro e w2 ⟨rfl, b2⟩)
    go_ret
    exact ⟨by rw [HS.out]; rfl, bb.trans (b2.mono (by omega))⟩
  | true =>
    cases bM with
    | false =>
      go_enter Try.func17, Try.ntmps17
      go_wp2_with (go_at_call_of 65 vc; refine cA.mono ?_; rintro e w2 ⟨rfl, b2⟩; have x1 := (X2 _ b2).cell 1; have y1 := (Y2 _ b2).cell 1)
      refine (cM _ b2).mono ?_
      rintro e w3 ⟨rfl, b3⟩
      go_wp2
      go_ret
      have z2 := b2.size
      exact ⟨by rw [HS.out]; rfl, (bb.trans (b2.mono (by omega))).trans (b3.mono (by omega))⟩
    | true =>
      go_enter Try.func17, Try.ntmps17
      go_wp2_with (go_at_call_of 65 vc; refine cA.mono ?_; rintro e w2 ⟨rfl, b2⟩; have x1 := (X2 _ b2).cell 1; have y1 := (Y2 _ b2).cell 1)
      refine (cM _ b2).mono ?_
      rintro e w3 ⟨rfl, b3⟩
      have z2 := b2.size
      have x2 := (X2 _ (b2.trans (b3.mono z2))).cell 2
      have y2 := (Y2 _ (b2.trans (b3.mono z2))).cell 2
      go_wp2
      go_ret
      refine ⟨?_, (bb.trans (b2.mono (by omega))).trans (b3.mono (by omega))⟩
      rw [HS.out]
      congr 2
end Ops
end Go.Proofs.Ytppkohkcffnghaa
/- The laws' own sameInts, of such as are equal; whether a code is great. -/
namespace Go.Proofs.Ytppkohkcffnghaa
open Go.RowKit
namespace Ints
set_option maxRecDepth 100000 in
set_option maxHeartbeats 800000 in
theorem sameIntsC (v v' : Value) (zs : List Int) (B : Nat) (w : World) (hv : Ints.Sees B w v zs) (hv' : Ints.Sees B w v' zs) (hB : B ≤ w.heap.size) :
    Calls Try.prog 13 #[v, v'] w fun e w' => e = .returned (.bool true) ∧ Below w.heap.size w w' := by
  obtain ⟨a, cap, rfl, h1, h2, h3⟩ := hv
  obtain ⟨a', cap', rfl, h1', h2', h3'⟩ := hv'
  obtain ⟨n, hn⟩ : ∃ n, zs.length = n := ⟨_, rfl⟩
  have hm : (n : Int) ≤ 9223372036854775807 := by unfold maxLen at h2; omega
  rw [hn]
  obtain ⟨g, hg⟩ : ∃ g, w.heap.size = g := ⟨_, rfl⟩
  rw [hg] at hB ⊢
  clear h1 h2 h1' h2'
  go_enter Try.func13, Try.ntmps13
  go_wp2
  go_loopw [5] (fun i wr => ∃ k : Nat, k ≤ n ∧ i = .int .i64 k ∧ Below g w wr) (fun i _ => n - (intOf i).toNat)
  case atStart => exact ⟨0, Nat.zero_le _, rfl, Below.refl _ _⟩
  case round =>
    obtain ⟨k, hk, rfl, hb⟩ := hrel
    by_cases hlt : k < n
    · obtain ⟨b, off, rfl, hbB, hc⟩ := h3 (fun h => by simp [h] at hn; omega)
      obtain ⟨b', off', rfl, hbB', hc'⟩ := h3' (fun h => by simp [h] at hn; omega)
      have a0 := (hb.cell (p := ⟨b, off + k, none⟩) (by show b < g; omega)).trans (hc k (by omega))
      have a0' := (hb.cell (p := ⟨b', off' + k, none⟩) (by show b' < g; omega)).trans (hc' k (by omega))
      obtain ⟨x, hx⟩ : ∃ x, zs[k] = x := ⟨_, rfl⟩
      rw [hx] at a0 a0'
      clear hx hc h3 hc' h3'
      go_wp2_with fail
      go_region
      all_goals
        go_wp2
        go_roundw
        case rel => exact ⟨k + 1, by omega, by go_num, by first | exact hb.drew | exact hb.drew.drew | exact hb⟩
        case measure => simp [intOf]; omega
    · obtain rfl : k = n := by omega
      go_wp2
      go_ret
      exact ⟨rfl, hb⟩
theorem bigC (a : Option Addr) (len cap : Nat) (w : World) : Calls Try.prog 9 #[.slice a len cap] w fun e w' => e = .returned (.bool (decide ((1048576 : Int) < (len : Int)))) ∧ w = w' := by
  go_enter Try.func9, Try.ntmps9
  go_wp2
  go_ret
  exact ⟨rfl, rfl⟩
end Ints
end Go.Proofs.Ytppkohkcffnghaa
/- What the frames tell of a slice of integers that came in, and what a code of bytes is by it. -/
namespace Go.Proofs.Ytppkohkcffnghaa
open Go.RowKit
namespace Args
/-- a slice of integers that came in: nil, or a row of 'cap' cells that hold the numbers -/
def IsRow (k : IntKind) (w : World) (a : Option Addr) (len cap : Nat) (zs : List Int) : Prop :=
  (a = none ∧ len = 0 ∧ cap = 0 ∧ zs = []) ∨
  ∃ x, a = some x ∧ len ≤ cap ∧ cap ≤ maxLen ∧ zs.length = cap ∧ (∀ i, i < zs.length → w.cell? (x.add i) = some (.int k (zs.getD i 0))) ∧ ∀ n ∈ zs, (Lit.int k n).wf = true

theorem code {w : World} {a : Option Addr} {len cap : Nat} {zs : List Int} (h : IsRow .u8 w a len cap zs) : ∃ l : List UInt8, l.length = len ∧ Draw.Code w.heap.size w (.slice a len cap) l := by
  rcases h with ⟨rfl, rfl, rfl, rfl⟩ | ⟨x, rfl, hl, hm, hz, hcell, hwf⟩
  · exact ⟨[], rfl, none, 0, rfl, Nat.zero_le _, fun h => absurd rfl h⟩
  · refine ⟨(zs.take len).map fun n => UInt8.ofNat n.toNat, by simp; omega, some x, cap, by simp; omega, by simp; omega, fun hne => ?_⟩
    have hpos : 0 < len := by
      rcases Nat.eq_zero_or_pos len with h0 | h0
      · subst h0; simp at hne
      · exact h0
    obtain ⟨b, off, spot⟩ := x
    have h0 := hcell 0 (by omega)
    have hspot : spot = none := by simpa [Addr.add] using World.cell?_spot h0
    subst hspot
    have hb : b < w.heap.size := by
      rcases Nat.lt_or_ge b w.heap.size with h1 | h1
      · exact h1
      · exfalso
        simp [Addr.add, World.cell?, Array.getElem?_eq_none h1] at h0
    refine ⟨b, off, rfl, hb, fun j hj => ?_⟩
    have hj2 : j < min len zs.length := by simpa using hj
    have hj' : j < len := by omega
    have hc := hcell j (by omega)
    have ha : (⟨b, off, none⟩ : Addr).add j = ⟨b, off + j, none⟩ := by unfold Addr.add; split <;> simp_all
    rw [ha] at hc
    have hjz : j < zs.length := by omega
    have hg : zs.getD j 0 = zs[j] := by simp [List.getD, hjz]
    rw [hg] at hc
    have hw := hwf zs[j] (List.getElem_mem hjz)
    have hbd := bounds_u8 hw
    rw [hc]
    congr 2
    simp
    omega
end Args
end Go.Proofs.Ytppkohkcffnghaa
/- The walk of FnBlocks. -/
set_option linter.unusedVariables false
set_option linter.unusedSimpArgs false
namespace Go.Proofs.Ytppkohkcffnghaa
open Go.RowKit
namespace Ops
open Bas Flat

/-- code put behind a beginning, and something behind it: two appends -/
theorem wrapRun (vl : Value) (xs : List O4) (B : Nat) (w : World) (hx : Sees4 B w vl xs) (hB : B ≤ w.heap.size) (hl : xs.length ≤ 21) (z : List O4) (cz : Array Value) (hz : cz.toList = fv opEl z) (hzl : z.length ≤ 2) (n : Nat) (hn : z.length = n) (q : Nat) (hq : w.heap.size = q) :
    ∃ u1 w1 u2 w2, (Builtin.append_ #[24, 24] 24 #[.slice (some ⟨q, 0, none⟩) 1 1, vl]).run Try.prog (w.alloc (.cells #[.int .i64 8, .int .i64 2, .int .i64 0, .int .i64 0] 30)) = .ok u1 w1 ∧
      (∀ q1, w1.heap.size = q1 → (Builtin.append_ #[24, 24] 24 #[u1, .slice (some ⟨q1, 0, none⟩) n n]).run Try.prog (w1.alloc (.cells cz 30)) = .ok u2 w2) ∧
      Owns4 w.heap.size w2 u2 (wrapC o8 xs z) ∧ Below w.heap.size w w2 := by
  subst hq hn
  have hO0 : Owns4 w.heap.size (w.alloc (.cells #[.int .i64 8, .int .i64 2, .int .i64 0, .int .i64 0] 30)) (.slice (some ⟨w.heap.size, 0, none⟩) 1 1) [o8] :=
    World.ownsRow_lit w #[.int .i64 8, .int .i64 2, .int .i64 0, .int .i64 0] 1 (Nat.le_refl _) (by unfold maxLen; omega) rfl
  have b0 := alloc_below w (.cells #[.int .i64 8, .int .i64 2, .int .i64 0, .int .i64 0] 30)
  obtain ⟨u1, w1, hr1, hO1, hG1, -⟩ := app rowOp _ vl 24 [o8] xs B w.heap.size _ hO0 b0.size (hx.on b0 hB) (by simp; omega)
  have b1 : Below w.heap.size w w1 := b0.grown hG1 b0.size (fun k hk => (hO0.at k hk).1)
  have b2 := alloc_below w1 (.cells cz 30)
  have hS : Owns4 w1.heap.size (w1.alloc (.cells cz 30)) (.slice (some ⟨w1.heap.size, 0, none⟩) z.length z.length) z := by
    have := World.ownsRow_lit (base := w1.heap.size) (e := 30) (size := 4) w1 cz z.length (Nat.le_refl _) (by unfold maxLen; omega) (by rw [← Array.length_toList, hz, fv_length]; rfl)
    rw [hz] at this; exact this
  have hO2 := hO1.on b2 (Nat.le_refl _)
  obtain ⟨u2, w2, hr2, hO3, hG2, -⟩ := app rowOp u1 _ 24 ([o8] ++ xs) z _ w.heap.size _ hO2 (Nat.le_trans b1.size b2.size) hS.sees (by simp; omega)
  refine ⟨u1, w1, u2, w2, hr1, fun q1 h1 => by subst h1; exact hr2, ?_, (b1.trans (b2.mono b1.size)).grown hG2 (Nat.le_trans b1.size b2.size) (fun k hk => (hO2.at k hk).1)⟩
  have e : [o8] ++ xs ++ z = wrapC o8 xs z := by simp [wrapC]
  rw [e] at hO3; exact hO3
theorem kidTold_of {xs : List O4} {zs cs : List Int} {q : Rn} {out : Int} {r c : List Int} (h : KidTold xs zs cs out r c) (h1 : kidOk xs = true) (h2 : regsOk zs = true) (h3 : cellsOk cs = true) (he : Ends xs ⟨cs, zeros 8, 0⟩ noF ⟨0, zs, ⟨cs, zeros 8, 0⟩, []⟩ q) : out = q.out ∧ r = q.r ∧ c = q.t.c := by
  rcases h with ⟨-, ⟨q', h', rfl, rfl, rfl, -⟩, -⟩ | ⟨hf, -⟩
  · rw [h'.unique he]; exact ⟨rfl, rfl, rfl⟩
  · rw [h1, h2, h3] at hf; cases hf
theorem kidTold_yes {xs : List O4} {zs cs : List Int} {out : Int} {r c : List Int} (h : KidTold xs zs cs out r c) (h1 : kidOk xs = true) (h2 : regsOk zs = true) (h3 : cellsOk cs = true) :
    (∃ q, Ends xs ⟨cs, zeros 8, 0⟩ noF ⟨0, zs, ⟨cs, zeros 8, 0⟩, []⟩ q ∧ out = q.out ∧ r = q.r ∧ c = q.t.c ∧ thOk q.t = true) ∧ (out = 1 ∨ out = 2) ∧ regsOk r = true := by
  rcases h with ⟨-, h⟩ | ⟨hf, -⟩
  · exact h
  · rw [h1, h2, h3] at hf; cases hf
theorem blocksBig (a : Option Addr) (len cap : Nat) (w : World) (h : 1048576 < len) : Calls Try.prog 3 #[.slice a len cap] w fun e w' => e = .returned (.bool true) ∧ Below w.heap.size w w' := by
  have h' : (1048576 : Int) < len := by omega
  have cB := Ints.bigC a len cap w
  rw [decide_eq_true h'] at cB
  go_enter Try.func3, Try.ntmps3
  go_wp2_with fail
  refine cB.mono ?_
  rintro e w1 ⟨rfl, rfl⟩
  go_wp2
  go_ret
  exact ⟨rfl, Below.refl _ _⟩
set_option maxRecDepth 100000 in
set_option maxHeartbeats 6400000 in
theorem blocksFn (l : List UInt8) (a : Option Addr) (cap : Nat) (w : World) (hC : Draw.Code w.heap.size w (.slice a l.length cap) l) (hl : l.length ≤ 1048576) :
    Calls Try.prog 3 #[.slice a l.length cap] w fun e w' => e = .returned (.bool true) ∧ Below w.heap.size w w' := by
  have h' : ¬ (1048576 : Int) < l.length := by omega
  have cB := Ints.bigC a l.length cap w
  rw [decide_eq_false h'] at cB
  have cD := drawSerialKidC w.heap.size (.slice a l.length cap) l w hC (Nat.le_refl _) hl
  go_enter Try.func3, Try.ntmps3
  go_wp2_with fail
  refine cB.mono ?_
  rintro e w0 ⟨rfl, rfl⟩
  go_wp2_with fail
  refine cD.mono ?_
  rintro e w1 ⟨vl, vr, vc, xs, zs, cs, rfl, sl, hx, sr, sc, hz4, hc8, hzk, hck, b1⟩
  clear cB cD hC
  obtain ⟨al, kl, rfl⟩ := sl.form
  obtain ⟨ar, kr, rfl⟩ := sr.form
  obtain ⟨ac, kc, rfl⟩ := sc.form
  go_wp2_with fail
  refine (kidSpec _ xs w1.heap.size w1 sl (Nat.le_refl _) (by omega)).mono ?_
  rintro e w2 ⟨rfl, b2⟩
  have bb2 := b1.trans (b2.mono b1.size)
  obtain ⟨bK, hK⟩ : ∃ b, kidOk xs = b := ⟨_, rfl⟩
  rw [hK]
  cases bK with
  | false =>
    go_wp2
    go_ret
    exact ⟨rfl, bb2⟩
  | true =>
    by_cases h4 : zs.length = 4
    · by_cases h21 : xs.length ≤ 21
      · have HZ : Hid (regsOk zs = true) := hzk h4
        have HK : Hid (kidOk xs = true) := hK
        have n21 : ¬ (21 : Int) < (xs.length : Int) := by omega
        obtain ⟨q, hq⟩ : ∃ q, w2.heap.size = q := ⟨_, rfl⟩
        have s1 := b1.size
        have s2 := b2.size
        have sl2 := (sl.on b2 (Nat.le_refl _)).up s2
        have sr2 := (sr.on b2 (Nat.le_refl _)).up s2
        have sc2 := (sc.on b2 (Nat.le_refl _)).up s2
        obtain ⟨u1, W1, u2, W2, hr1, hr2, OI, bI⟩ := wrapRun _ xs w2.heap.size w2 sl2 (Nat.le_refl _) h21 [o10, o9] #[.int .i64 10, .int .i64 0, .int .i64 0, .int .i64 0, .int .i64 9, .int .i64 0, .int .i64 0, .int .i64 0] rfl (by simp) 2 rfl q hq
        obtain ⟨q1, hq1⟩ : ∃ q, W1.heap.size = q := ⟨_, rfl⟩
        have hr2 := hr2 q1 hq1
        have bb3 := bb2.trans (bI.mono bb2.size)
        have s3 := bI.size
        have sr3 := (sr2.on bI (Nat.le_refl _)).up s3
        have sc3 := (sc2.on bI (Nat.le_refl _)).up s3
        have cK1 := kidImplC u2 _ _ (wrapC o8 xs [o10, o9]) zs cs W2.heap.size W2 OI.sees sr3 sc3 (Nat.le_refl _) (by rw [wrap_length]; simp; omega)
        clear hzk
        rw [h4] at sr sr2 sr3 cK1 ⊢
        clear h4
        go_wp2_with (at_builtin; first | (refine wpList_app _ rfl _ _ 24 rfl _ _ _ _ rfl rfl hr1 ?_; clear hr1) | (refine wpList_app _ rfl _ _ 24 rfl _ _ _ _ rfl rfl hr2 ?_; clear hr2))
        refine cK1.mono ?_
        rintro e W3 ⟨out, r1, c1, g1, g2, rfl, hT, O1, O2, hD, b3⟩
        have bb4 := bb3.trans (b3.mono (by omega))
        have s4 := b3.size
        by_cases h8 : cs.length = 8
        · have HC : Hid (cellsOk cs = true) := hck h8
          have hts := zeros_ok HC.out
          obtain ⟨hkq, hfq, -⟩ := kid_dry HK.out
          -- the code alone
          have hKI := kid_wrap (x := o8) (z := [o10, o9]) HK.out rfl (.inl rfl) h21
          have hKJ := kid_wrap (x := o8) (z := [o9]) HK.out rfl (.inr rfl) h21
          have HT1 := (show Hid _ from hT)
          have HD1 := (show Hid _ from hD)
          have sl4 := (sl2.on (bI.trans (b3.mono s3)) (Nat.le_refl _)).up (Nat.le_trans s3 s4)
          have sr4 := (sr3.on b3 (Nat.le_refl _)).up s4
          have sc4 := (sc3.on b3 (Nat.le_refl _)).up s4
          have HKI := (show Hid _ from hKI)
          have HKJ := (show Hid _ from hKJ)
          clear hT hD hKI hKJ sl sr sc sl2 sr2 sc2 sr3 sc3 cK1 hck
          rw [h8] at sc4 ⊢
          -- what is wanted
          have u0 := Ints.owns_lit W3 (B := W3.heap.size) (Nat.le_refl _)
          have a5 := alloc_below W3 (.cells #[] 3)
          obtain ⟨q5, hq5⟩ : ∃ q, W3.heap.size = q := ⟨_, rfl⟩
          obtain ⟨v6, w6, hr6, O6, G6, -⟩ := Ints.appJ (.slice (some ⟨W3.heap.size, 0, none⟩) 0 0) (.slice ar 4 kr) 25 [] zs W3.heap.size W3.heap.size _ u0 a5.size (sr4.on a5 (Nat.le_refl _)) (by simp; omega)
          rw [List.nil_append] at O6
          have b6 : Below W3.heap.size W3 w6 := a5.grown G6 a5.size (fun k hk => (u0.at k hk).1)
          rw [hq5] at hr6 O6 b6
          have hzl : zs.length = 4 := (regsOk_out HZ.out).1
          obtain ⟨a6, k6, rfl⟩ := O6.form
          rw [hzl] at O6 hr6
          obtain ⟨p6, rfl⟩ : ∃ g, a6 = some ⟨g, 0, none⟩ := by
            have hO := O6
            unfold Ints.Owns at hO
            rcases hO.2 with ⟨e, -⟩ | ⟨g, cap, cur, e, -⟩
            · cases e
            · injection e with e _ _; exact ⟨g, e⟩
          have O6' : w6.ownsRow q5 3 1 (.slice (some ⟨p6, 0, none⟩) 4 k6) 4 (Ints.iv zs) := by
            have := O6; unfold Ints.Owns at this; rw [hzl] at this; exact this
          have O7' := Ints.owns_set O6' 2 0
          have G7 := (O6'.stored 2 (.int .i64 0)).2
          have f6 := O6'.frozenAt 2
          have x6 := Ints.owns_at O6' 2 (by omega)
          have hp6 : q5 ≤ p6 ∧ p6 < w6.heap.size := O6.at p6 rfl
          have O7 : Ints.Owns q5 (w6.setCell ⟨p6, 2, none⟩ (.int .i64 0)) (.slice (some ⟨p6, 0, none⟩) 4 k6) (wr zs 2 0) := by
            unfold Ints.Owns
            have e : wr zs 2 0 = zs.set 2 0 := rfl
            rw [e, List.length_set, hzl]; exact O7'
          have b7 : Below q5 W3 (w6.setCell ⟨p6, 2, none⟩ (.int .i64 0)) := b6.setCell (p := ⟨p6, 2, none⟩) hp6.1 _
          obtain ⟨w7, hw7⟩ : ∃ W, w6.setCell ⟨p6, 2, none⟩ (.int .i64 0) = W := ⟨_, rfl⟩
          rw [hw7] at O7 b7
          have s7 := b7.size
          have P1 := O1.on b7 (by omega)
          have P2 := O2.on b7 (by omega)
          have sl7 := (sl4.on b7 (by omega)).up s7
          have sr7 := (sr4.on b7 (by omega)).up s7
          have sc7 := (sc4.on b7 (by omega)).up s7
          have bb7 := bb4.trans (b7.mono (by omega))
          -- what the block left
          obtain ⟨qq, hqq⟩ := ends_total (xs := xs) hkq noF_ok HZ.out hts
          have hM := kidTold_of HT1.out HKI.out HZ.out HC.out (block_gives HK.out h21 HZ.out hts hqq)
          obtain ⟨rfl, rfl, h1c⟩ := hM
          have h1c : c1 = cs := h1c
          rw [h1c] at P2 O2
          clear h1c
          have HQ := (show Hid _ from hqq)
          simp only at P1 P2 O1 O2
          clear hqq HT1
          go_wp2_with (at_builtin; refine wpList_app _ rfl _ _ 25 rfl _ _ _ _ rfl rfl hr6 ?_)
          clear hr6
          refine (Ints.sameIntsC _ _ _ w7.heap.size w7 P1.sees O7.sees (Nat.le_refl _)).mono ?_
          rintro e w8 ⟨rfl, b8⟩
          have s8 := b8.size
          have bb8 := bb7.trans (b8.mono (by omega))
          have P8 := P2.on b8 (Nat.le_refl _)
          have sl8 := (sl7.on b8 (Nat.le_refl _)).up s8
          have sr8 := (sr7.on b8 (Nat.le_refl _)).up s8
          have sc8 := (sc7.on b8 (Nat.le_refl _)).up s8
          clear P1 P2 O7 O7' O6 O6' G7 f6 x6 sl7 sr7 sc7 sl4 sr4 sc4 O1 O2 u0 G6 a5 b6
          go_wp2_with fail
          refine (Ints.sameIntsC _ _ _ w8.heap.size w8 P8.sees sc8 (Nat.le_refl _)).mono ?_
          rintro e w9 ⟨rfl, b9⟩
          have s9 := b9.size
          have bb9 := bb8.trans (b9.mono (by omega))
          have sl9 := (sl8.on b9 (Nat.le_refl _)).up s9
          have sr9 := (sr8.on b9 (Nat.le_refl _)).up s9
          have sc9 := (sc8.on b9 (Nat.le_refl _)).up s9
          clear P8 sl8 sr8 sc8
          go_wp2_with fail
          refine (kidImplC _ _ _ xs zs cs w9.heap.size w9 sl9 sr9 sc9 (Nat.le_refl _) (by omega)).mono ?_
          rintro e wa ⟨o2, x2, y2, g3, g4, rfl, hT2, O3, O4_, -, ba⟩
          have sa := ba.size
          have bba := bb9.trans (ba.mono (by omega))
          have sla := (sl9.on ba (Nat.le_refl _)).up sa
          have sra := (sr9.on ba (Nat.le_refl _)).up sa
          have sca := (sc9.on ba (Nat.le_refl _)).up sa
          clear sl9 sr9 sc9
          obtain ⟨qa, hqa⟩ : ∃ q, wa.heap.size = q := ⟨_, rfl⟩
          obtain ⟨u3, W5, u4, W6, hr3, hr4, OJ, bJ⟩ := wrapRun _ xs wa.heap.size wa sla (Nat.le_refl _) h21 [o9] #[.int .i64 9, .int .i64 0, .int .i64 0, .int .i64 0] rfl (by simp) 1 rfl qa hqa
          obtain ⟨qb, hqb⟩ : ∃ q, W5.heap.size = q := ⟨_, rfl⟩
          have hr4 := hr4 qb hqb
          have sJ := bJ.size
          have bbb := bba.trans (bJ.mono (by omega))
          have srb := (sra.on bJ (Nat.le_refl _)).up sJ
          have scb := (sca.on bJ (Nat.le_refl _)).up sJ
          have cK2 := kidImplC u4 _ _ (wrapC o8 xs [o9]) zs cs W6.heap.size W6 OJ.sees srb scb (Nat.le_refl _) (by rw [wrap_length]; simp; omega)
          have O4b := O4_.on bJ (Nat.le_refl _)
          obtain ⟨h2a, h2b, h2c⟩ := kidTold_of hT2 HK.out HZ.out HC.out HQ.out
          obtain ⟨-, ho2, hx2⟩ := kidTold_yes hT2 HK.out HZ.out HC.out
          obtain ⟨r', hEJ, hor⟩ := block_ends HK.out h21 HZ.out hts HQ.out
          have HEJ := (show Hid _ from hEJ)
          have hx4 := (regsOk_out hx2).1
          have HOR : Hid (o2 = 1 ∨ (o2 = 2 ∧ y2 = cs)) := by
            rcases hor with h | ⟨h, h'⟩
            · exact .inl (h2a.trans h)
            · exact .inr ⟨h2a.trans h, by rw [h2c, h']⟩
          have HY : Hid (y2 = qq.t.c) := h2c
          obtain ⟨a3, k3, rfl⟩ := O3.form
          rw [hx4]
          clear sra sca sla hT2 h2a h2b h2c hEJ hor ho2 hx2 O3 hx4
          go_wp2_with (at_builtin; first | (refine wpList_app _ rfl _ _ 24 rfl _ _ _ _ rfl rfl hr3 ?_; clear hr3) | (refine wpList_app _ rfl _ _ 24 rfl _ _ _ _ rfl rfl hr4 ?_; clear hr4))
          refine cK2.mono ?_
          rintro e wc_ ⟨o3, x3, y3, g5, g6, rfl, hT3, O5, O6, -, bc⟩
          have sc_ := bc.size
          have bbc := bbb.trans (bc.mono (by omega))
          obtain ⟨h3a, h3b, h3c⟩ := kidTold_of hT3 HKJ.out HZ.out HC.out HEJ.out
          simp only at h3a h3b h3c
          have O4c := O4b.on bc (Nat.le_refl _)
          have scc := (scb.on bc (Nat.le_refl _)).up sc_
          subst h3a
          have hyy : y3 = y2 := by rw [h3c, HY.out]
          subst hyy
          clear hT3 h3b h3c O5 O4b scb srb cK2 HY
          go_wp2_with fail
          refine (Ints.sameIntsC _ _ _ wc_.heap.size wc_ O6.sees O4c.sees (Nat.le_refl _)).mono ?_
          rintro e wd ⟨rfl, bd⟩
          have sd := bd.size
          have bbd := bbc.trans (bd.mono (by omega))
          rcases HOR.out with h1 | ⟨h2, hy⟩
          · subst h1
            go_wp2
            go_ret
            exact ⟨rfl, bbd⟩
          · subst h2
            subst hy
            have O4d := O4c.on bd (Nat.le_refl _)
            have scd := (scc.on bd (Nat.le_refl _)).up sd
            go_wp2_with fail
            refine (Ints.sameIntsC _ _ _ wd.heap.size wd O4d.sees scd (Nat.le_refl _)).mono ?_
            rintro e we ⟨rfl, be⟩
            go_wp2
            go_ret
            exact ⟨rfl, bbd.trans (be.mono (by omega))⟩
        · have hcf : cellsOk cs = false := by unfold cellsOk; rw [decide_eq_false h8]; rfl
          have h0 : out = 0 := by
            rcases hT with ⟨hf, -⟩ | ⟨-, h, -⟩
            · rw [hcf] at hf; simp at hf
            · exact h
          subst h0
          have n8 : ((cs.length : Int) != 8) = true := by simp; omega
          clear hT hD
          go_wp2
          go_ret
          exact ⟨rfl, bb4⟩
      · have n21 : (21 : Int) < (xs.length : Int) := by omega
        rw [h4]
        go_wp2
        go_ret
        exact ⟨rfl, bb2⟩
    · have n4 : ((zs.length : Int) != 4) = true := by simp; omega
      go_wp2
      go_ret
      exact ⟨rfl, bb2⟩
theorem walkBlocks (a : Option Addr) (len cap : Nat) (zs : List Int) (w : World) (h : Args.IsRow .u8 w a len cap zs) :
    Calls Try.prog 3 #[.slice a len cap] w fun e w' => e = .returned (.bool true) ∧ Below w.heap.size w w' := by
  by_cases hb : 1048576 < len
  · exact blocksBig a len cap w hb
  · obtain ⟨l, hl, hC⟩ := Args.code h
    subst hl
    exact blocksFn l a cap w hC (by omega)
end Ops
end Go.Proofs.Ytppkohkcffnghaa
