/- Rows of numbers held against each other; what SameThings answers, the program's and the specification's. -/
import Derived.Test.YtppkohkcffnghaaThRow
set_option linter.unusedVariables false
set_option linter.unusedSimpArgs false
namespace Go.Proofs.Ytppkohkcffnghaa
open Go.RowKit
namespace Ints
theorem ne_len {zs ys : List Int} (h : ¬ zs.length = ys.length) : decide (zs = ys) = false := decide_eq_false fun e => h (by rw [e])
theorem ne_at {zs ys : List Int} {j : Nat} (h1 : j < zs.length) (h2 : j < ys.length) (h : ¬ zs[j] = ys[j]) : decide (zs = ys) = false := decide_eq_false fun e => h (by subst e; rfl)
theorem eq_all {zs ys : List Int} (h : zs.length = ys.length) (ha : ∀ j (h1 : j < zs.length) (h2 : j < ys.length), zs[j] = ys[j]) : decide (zs = ys) = true := decide_eq_true (List.ext_getElem h ha)
theorem ret_eq {zs ys : List Int} {b : Bool} (h : decide (zs = ys) = b) : Ending.returned (.bool b) = .returned (.bool (decide (zs = ys))) := by rw [h]

set_option maxRecDepth 100000 in
set_option maxHeartbeats 1600000 in
theorem equalC (v v' : Value) (zs ys : List Int) (B : Nat) (w : World) (hv : Ints.Sees B w v zs) (hv' : Ints.Sees B w v' ys) (hB : B ≤ w.heap.size) :
    Calls Try.prog 74 #[v, v'] w fun e w' => e = .returned (.bool (decide (zs = ys))) ∧ Below w.heap.size w w' := by
  obtain ⟨a, cap, rfl, h1, h2, h3⟩ := hv
  obtain ⟨a', cap', rfl, h1', h2', h3'⟩ := hv'
  obtain ⟨n, hn⟩ : ∃ n, zs.length = n := ⟨_, rfl⟩
  obtain ⟨m, hm'⟩ : ∃ n, ys.length = n := ⟨_, rfl⟩
  have hm : (n : Int) ≤ 9223372036854775807 := by unfold maxLen at h2; omega
  have hm2 : (m : Int) ≤ 9223372036854775807 := by unfold maxLen at h2'; omega
  rw [hn, hm']
  obtain ⟨g, hg⟩ : ∃ g, w.heap.size = g := ⟨_, rfl⟩
  rw [hg] at hB ⊢
  clear h1 h2 h1' h2'
  by_cases hl : n = m
  · subst hl
    have HN : Hid (zs.length = n) := hn
    have HM : Hid (ys.length = n) := hm'
    go_enter Try.func74, Try.ntmps74
    go_wp2
    go_loopw [13] (fun i wr => ∃ k : Nat, k ≤ n ∧ i = .int .i64 k ∧ Below g w wr ∧ ∀ j (h1 : j < zs.length) (h2 : j < ys.length), j < k → zs[j] = ys[j]) (fun i _ => n - (intOf i).toNat)
    case atStart => exact ⟨0, Nat.zero_le _, rfl, Below.refl _ _, fun j _ _ h => by omega⟩
    case round =>
      obtain ⟨k, hk, rfl, hb, hall⟩ := hrel
      by_cases hlt : k < n
      · obtain ⟨b, off, rfl, hbB, hc⟩ := h3 (fun h => by simp [h] at hn; omega)
        obtain ⟨b', off', rfl, hbB', hc'⟩ := h3' (fun h => by simp [h] at hm'; omega)
        have a0 := (hb.cell (p := ⟨b, off + k, none⟩) (by show b < g; omega)).trans (hc k (by omega))
        have a0' := (hb.cell (p := ⟨b', off' + k, none⟩) (by show b' < g; omega)).trans (hc' k (by omega))
        obtain ⟨x, hx⟩ : ∃ x, zs[k] = x := ⟨_, rfl⟩
        obtain ⟨y, hy⟩ : ∃ y, ys[k] = y := ⟨_, rfl⟩
        have HA : Hid (∀ j (h1 : j < zs.length) (h2 : j < ys.length), j < k → zs[j] = ys[j]) := hall
        by_cases hxy : x = y
        · have HK : Hid (zs[k] = ys[k]) := by show _ = _; rw [hx, hy, hxy]
          subst hxy
          rw [hx] at a0
          rw [hy] at a0'
          clear hx hy hc h3 hc' h3' hall
          go_wp2_with fail
          go_region
          all_goals
            go_wp2
            go_roundw
            case rel => exact ⟨k + 1, by omega, by go_num, by first | exact hb.drew | exact hb.drew.drew | exact hb, fun j p1 p2 hj => by
              rcases Nat.lt_succ_iff_lt_or_eq.1 hj with h | h
              · exact HA.out j p1 p2 h
              · subst h; exact HK.out⟩
            case measure => simp [intOf]; omega
        · have HF : Hid (decide (zs = ys) = false) := ne_at (j := k) (by omega) (by omega) (by rw [hx, hy]; exact hxy)
          have hxy' : (x != y) = true := by simp [hxy]
          rw [hx] at a0
          rw [hy] at a0'
          clear hx hy hc h3 hc' h3' hall hxy
          go_wp2_with fail
          go_region
          all_goals
            go_wp2
            go_ret
            exact ⟨ret_eq HF.out, by first | exact hb.drew | exact hb.drew.drew | exact hb⟩
      · obtain rfl : k = n := by omega
        have HT : Hid (decide (zs = ys) = true) := eq_all (by rw [HN.out, HM.out]) fun j p1 p2 => hall j p1 p2 (by omega)
        clear hall
        go_wp2
        go_ret
        exact ⟨ret_eq HT.out, hb⟩
  · have HF : Hid (decide (zs = ys) = false) := ne_len (by omega)
    have hl' : ((n : Int) != (m : Int)) = true := by simp; omega
    clear hl h3 h3'
    go_enter Try.func74, Try.ntmps74
    go_wp2
    go_ret
    exact ⟨ret_eq HF.out, Below.refl _ _⟩

set_option maxRecDepth 100000 in
set_option maxHeartbeats 1600000 in
theorem l7IntsC (v v' : Value) (zs ys : List Int) (B : Nat) (w : World) (hv : Ints.Sees B w v zs) (hv' : Ints.Sees B w v' ys) (hB : B ≤ w.heap.size) :
    Calls Try.prog 65 #[v, v'] w fun e w' => e = .returned (.bool (decide (zs = ys))) ∧ Below w.heap.size w w' := by
  obtain ⟨a, cap, rfl, h1, h2, h3⟩ := hv
  obtain ⟨a', cap', rfl, h1', h2', h3'⟩ := hv'
  obtain ⟨n, hn⟩ : ∃ n, zs.length = n := ⟨_, rfl⟩
  obtain ⟨m, hm'⟩ : ∃ n, ys.length = n := ⟨_, rfl⟩
  have hm : (n : Int) ≤ 9223372036854775807 := by unfold maxLen at h2; omega
  have hm2 : (m : Int) ≤ 9223372036854775807 := by unfold maxLen at h2'; omega
  rw [hn, hm']
  obtain ⟨g, hg⟩ : ∃ g, w.heap.size = g := ⟨_, rfl⟩
  rw [hg] at hB ⊢
  clear h1 h2 h1' h2'
  by_cases hl : n = m
  · subst hl
    have HN : Hid (zs.length = n) := hn
    have HM : Hid (ys.length = n) := hm'
    go_enter Try.func65, Try.ntmps65
    go_wp2
    go_loopw [5] (fun i wr => ∃ k : Nat, k ≤ n ∧ i = .int .i64 k ∧ Below g w wr ∧ ∀ j (h1 : j < zs.length) (h2 : j < ys.length), j < k → zs[j] = ys[j]) (fun i _ => n - (intOf i).toNat)
    case atStart => exact ⟨0, Nat.zero_le _, rfl, Below.refl _ _, fun j _ _ h => by omega⟩
    case round =>
      obtain ⟨k, hk, rfl, hb, hall⟩ := hrel
      by_cases hlt : k < n
      · obtain ⟨b, off, rfl, hbB, hc⟩ := h3 (fun h => by simp [h] at hn; omega)
        obtain ⟨b', off', rfl, hbB', hc'⟩ := h3' (fun h => by simp [h] at hm'; omega)
        have a0 := (hb.cell (p := ⟨b, off + k, none⟩) (by show b < g; omega)).trans (hc k (by omega))
        have a0' := (hb.cell (p := ⟨b', off' + k, none⟩) (by show b' < g; omega)).trans (hc' k (by omega))
        obtain ⟨x, hx⟩ : ∃ x, zs[k] = x := ⟨_, rfl⟩
        obtain ⟨y, hy⟩ : ∃ y, ys[k] = y := ⟨_, rfl⟩
        have HA : Hid (∀ j (h1 : j < zs.length) (h2 : j < ys.length), j < k → zs[j] = ys[j]) := hall
        by_cases hxy : x = y
        · have HK : Hid (zs[k] = ys[k]) := by show _ = _; rw [hx, hy, hxy]
          subst hxy
          rw [hx] at a0
          rw [hy] at a0'
          clear hx hy hc h3 hc' h3' hall
          go_wp2_with fail
          go_region
          all_goals
            go_wp2
            go_roundw
            case rel => exact ⟨k + 1, by omega, by go_num, by first | exact hb.drew | exact hb.drew.drew | exact hb, fun j p1 p2 hj => by
              rcases Nat.lt_succ_iff_lt_or_eq.1 hj with h | h
              · exact HA.out j p1 p2 h
              · subst h; exact HK.out⟩
            case measure => simp [intOf]; omega
        · have HF : Hid (decide (zs = ys) = false) := ne_at (j := k) (by omega) (by omega) (by rw [hx, hy]; exact hxy)
          have hxy' : (x != y) = true := by simp [hxy]
          rw [hx] at a0
          rw [hy] at a0'
          clear hx hy hc h3 hc' h3' hall hxy
          go_wp2_with fail
          go_region
          all_goals
            go_wp2
            go_ret
            exact ⟨ret_eq HF.out, by first | exact hb.drew | exact hb.drew.drew | exact hb⟩
      · obtain rfl : k = n := by omega
        have HT : Hid (decide (zs = ys) = true) := eq_all (by rw [HN.out, HM.out]) fun j p1 p2 => hall j p1 p2 (by omega)
        clear hall
        go_wp2
        go_ret
        exact ⟨ret_eq HT.out, hb⟩
  · have HF : Hid (decide (zs = ys) = false) := ne_len (by omega)
    have hl' : ((n : Int) != (m : Int)) = true := by simp; omega
    clear hl h3 h3'
    go_enter Try.func65, Try.ntmps65
    go_wp2
    go_ret
    exact ⟨ret_eq HF.out, Below.refl _ _⟩

set_option maxRecDepth 100000 in
set_option maxHeartbeats 1600000 in
theorem sameC (v v' : Value) (zs ys : List Int) (B : Nat) (w : World) (hv : Ints.Sees B w v zs) (hv' : Ints.Sees B w v' ys) (hB : B ≤ w.heap.size) :
    Calls Try.prog 13 #[v, v'] w fun e w' => e = .returned (.bool (decide (zs = ys))) ∧ Below w.heap.size w w' := by
  obtain ⟨a, cap, rfl, h1, h2, h3⟩ := hv
  obtain ⟨a', cap', rfl, h1', h2', h3'⟩ := hv'
  obtain ⟨n, hn⟩ : ∃ n, zs.length = n := ⟨_, rfl⟩
  obtain ⟨m, hm'⟩ : ∃ n, ys.length = n := ⟨_, rfl⟩
  have hm : (n : Int) ≤ 9223372036854775807 := by unfold maxLen at h2; omega
  have hm2 : (m : Int) ≤ 9223372036854775807 := by unfold maxLen at h2'; omega
  rw [hn, hm']
  obtain ⟨g, hg⟩ : ∃ g, w.heap.size = g := ⟨_, rfl⟩
  rw [hg] at hB ⊢
  clear h1 h2 h1' h2'
  by_cases hl : n = m
  · subst hl
    have HN : Hid (zs.length = n) := hn
    have HM : Hid (ys.length = n) := hm'
    go_enter Try.func13, Try.ntmps13
    go_wp2
    go_loopw [5] (fun i wr => ∃ k : Nat, k ≤ n ∧ i = .int .i64 k ∧ Below g w wr ∧ ∀ j (h1 : j < zs.length) (h2 : j < ys.length), j < k → zs[j] = ys[j]) (fun i _ => n - (intOf i).toNat)
    case atStart => exact ⟨0, Nat.zero_le _, rfl, Below.refl _ _, fun j _ _ h => by omega⟩
    case round =>
      obtain ⟨k, hk, rfl, hb, hall⟩ := hrel
      by_cases hlt : k < n
      · obtain ⟨b, off, rfl, hbB, hc⟩ := h3 (fun h => by simp [h] at hn; omega)
        obtain ⟨b', off', rfl, hbB', hc'⟩ := h3' (fun h => by simp [h] at hm'; omega)
        have a0 := (hb.cell (p := ⟨b, off + k, none⟩) (by show b < g; omega)).trans (hc k (by omega))
        have a0' := (hb.cell (p := ⟨b', off' + k, none⟩) (by show b' < g; omega)).trans (hc' k (by omega))
        obtain ⟨x, hx⟩ : ∃ x, zs[k] = x := ⟨_, rfl⟩
        obtain ⟨y, hy⟩ : ∃ y, ys[k] = y := ⟨_, rfl⟩
        have HA : Hid (∀ j (h1 : j < zs.length) (h2 : j < ys.length), j < k → zs[j] = ys[j]) := hall
        by_cases hxy : x = y
        · have HK : Hid (zs[k] = ys[k]) := by show _ = _; rw [hx, hy, hxy]
          subst hxy
          rw [hx] at a0
          rw [hy] at a0'
          clear hx hy hc h3 hc' h3' hall
          go_wp2_with fail
          go_region
          all_goals
            go_wp2
            go_roundw
            case rel => exact ⟨k + 1, by omega, by go_num, by first | exact hb.drew | exact hb.drew.drew | exact hb, fun j p1 p2 hj => by
              rcases Nat.lt_succ_iff_lt_or_eq.1 hj with h | h
              · exact HA.out j p1 p2 h
              · subst h; exact HK.out⟩
            case measure => simp [intOf]; omega
        · have HF : Hid (decide (zs = ys) = false) := ne_at (j := k) (by omega) (by omega) (by rw [hx, hy]; exact hxy)
          have hxy' : (x != y) = true := by simp [hxy]
          rw [hx] at a0
          rw [hy] at a0'
          clear hx hy hc h3 hc' h3' hall hxy
          go_wp2_with fail
          go_region
          all_goals
            go_wp2
            go_ret
            exact ⟨ret_eq HF.out, by first | exact hb.drew | exact hb.drew.drew | exact hb⟩
      · obtain rfl : k = n := by omega
        have HT : Hid (decide (zs = ys) = true) := eq_all (by rw [HN.out, HM.out]) fun j p1 p2 => hall j p1 p2 (by omega)
        clear hall
        go_wp2
        go_ret
        exact ⟨ret_eq HT.out, hb⟩
  · have HF : Hid (decide (zs = ys) = false) := ne_len (by omega)
    have hl' : ((n : Int) != (m : Int)) = true := by simp; omega
    clear hl h3 h3'
    go_enter Try.func13, Try.ntmps13
    go_wp2
    go_ret
    exact ⟨ret_eq HF.out, Below.refl _ _⟩

set_option maxRecDepth 100000 in
set_option maxHeartbeats 1600000 in
theorem eqlC (v v' : Value) (zs ys : List Int) (B : Nat) (w : World) (hv : Ints.Sees B w v zs) (hv' : Ints.Sees B w v' ys) (hB : B ≤ w.heap.size) :
    Calls Try.prog 31 #[v, v'] w fun e w' => e = .returned (.bool (decide (zs = ys))) ∧ Below w.heap.size w w' := by
  obtain ⟨a, cap, rfl, h1, h2, h3⟩ := hv
  obtain ⟨a', cap', rfl, h1', h2', h3'⟩ := hv'
  obtain ⟨n, hn⟩ : ∃ n, zs.length = n := ⟨_, rfl⟩
  obtain ⟨m, hm'⟩ : ∃ n, ys.length = n := ⟨_, rfl⟩
  have hm : (n : Int) ≤ 9223372036854775807 := by unfold maxLen at h2; omega
  have hm2 : (m : Int) ≤ 9223372036854775807 := by unfold maxLen at h2'; omega
  rw [hn, hm']
  obtain ⟨g, hg⟩ : ∃ g, w.heap.size = g := ⟨_, rfl⟩
  rw [hg] at hB ⊢
  clear h1 h2 h1' h2'
  by_cases hl : n = m
  · subst hl
    have HN : Hid (zs.length = n) := hn
    have HM : Hid (ys.length = n) := hm'
    go_enter Try.func31, Try.ntmps31
    go_wp2
    go_loopw [5] (fun i wr => ∃ k : Nat, k ≤ n ∧ i = .int .i64 k ∧ Below g w wr ∧ ∀ j (h1 : j < zs.length) (h2 : j < ys.length), j < k → zs[j] = ys[j]) (fun i _ => n - (intOf i).toNat)
    case atStart => exact ⟨0, Nat.zero_le _, rfl, Below.refl _ _, fun j _ _ h => by omega⟩
    case round =>
      obtain ⟨k, hk, rfl, hb, hall⟩ := hrel
      by_cases hlt : k < n
      · obtain ⟨b, off, rfl, hbB, hc⟩ := h3 (fun h => by simp [h] at hn; omega)
        obtain ⟨b', off', rfl, hbB', hc'⟩ := h3' (fun h => by simp [h] at hm'; omega)
        have a0 := (hb.cell (p := ⟨b, off + k, none⟩) (by show b < g; omega)).trans (hc k (by omega))
        have a0' := (hb.cell (p := ⟨b', off' + k, none⟩) (by show b' < g; omega)).trans (hc' k (by omega))
        obtain ⟨x, hx⟩ : ∃ x, zs[k] = x := ⟨_, rfl⟩
        obtain ⟨y, hy⟩ : ∃ y, ys[k] = y := ⟨_, rfl⟩
        have HA : Hid (∀ j (h1 : j < zs.length) (h2 : j < ys.length), j < k → zs[j] = ys[j]) := hall
        by_cases hxy : x = y
        · have HK : Hid (zs[k] = ys[k]) := by show _ = _; rw [hx, hy, hxy]
          subst hxy
          rw [hx] at a0
          rw [hy] at a0'
          clear hx hy hc h3 hc' h3' hall
          go_wp2_with fail
          go_region
          all_goals
            go_wp2
            go_roundw
            case rel => exact ⟨k + 1, by omega, by go_num, by first | exact hb.drew | exact hb.drew.drew | exact hb, fun j p1 p2 hj => by
              rcases Nat.lt_succ_iff_lt_or_eq.1 hj with h | h
              · exact HA.out j p1 p2 h
              · subst h; exact HK.out⟩
            case measure => simp [intOf]; omega
        · have HF : Hid (decide (zs = ys) = false) := ne_at (j := k) (by omega) (by omega) (by rw [hx, hy]; exact hxy)
          have hxy' : (x != y) = true := by simp [hxy]
          rw [hx] at a0
          rw [hy] at a0'
          clear hx hy hc h3 hc' h3' hall hxy
          go_wp2_with fail
          go_region
          all_goals
            go_wp2
            go_ret
            exact ⟨ret_eq HF.out, by first | exact hb.drew | exact hb.drew.drew | exact hb⟩
      · obtain rfl : k = n := by omega
        have HT : Hid (decide (zs = ys) = true) := eq_all (by rw [HN.out, HM.out]) fun j p1 p2 => hall j p1 p2 (by omega)
        clear hall
        go_wp2
        go_ret
        exact ⟨ret_eq HT.out, hb⟩
  · have HF : Hid (decide (zs = ys) = false) := ne_len (by omega)
    have hl' : ((n : Int) != (m : Int)) = true := by simp; omega
    clear hl h3 h3'
    go_enter Try.func31, Try.ntmps31
    go_wp2
    go_ret
    exact ⟨ret_eq HF.out, Below.refl _ _⟩
end Ints
namespace Ops
open Bas

/-- SameThings -/
def sameTh (a b : Th) : Bool := decide (a.c = b.c) && decide (a.m = b.m) && decide (a.n = b.n)
theorem sameTh_self (t : Th) : sameTh t t = true := by simp [sameTh]

set_option maxRecDepth 100000 in
set_option maxHeartbeats 1600000 in
theorem implSame (vc vm vc' vm' : Value) (s t : Th) (B : Nat) (w : World) (hv : SeeT B w vc vm s) (hv' : SeeT B w vc' vm' t) (hB : B ≤ w.heap.size) :
    Calls Try.prog 24 #[.agg #[vc, vm, .int .i64 s.n], .agg #[vc', vm', .int .i64 t.n]] w fun e w' => e = .returned (.bool (sameTh s t)) ∧ Below w.heap.size w w' := by
  obtain ⟨q, hq⟩ : ∃ q, w.heap.size = q := ⟨_, rfl⟩
  have X0 := Blk.new w #[vc, vm, .int .i64 s.n] 37
  have b0 := alloc_below w (.cells #[vc, vm, .int .i64 s.n] 37)
  obtain ⟨w0, hw0⟩ : ∃ w0, w.alloc (.cells #[vc, vm, .int .i64 s.n] 37) = w0 := ⟨_, rfl⟩
  have hz0 : w0.heap.size = q + 1 := by rw [← hw0, ← hq]; simp
  rw [hw0] at X0 b0
  rw [hq] at X0 b0 hB ⊢
  obtain ⟨q1, hq1⟩ : ∃ q, w0.heap.size = q := ⟨_, rfl⟩
  have l01 : q < q1 := by omega
  clear hz0
  have Y1 := Blk.new w0 #[vc', vm', .int .i64 t.n] 37
  have b1 := alloc_below w0 (.cells #[vc', vm', .int .i64 t.n] 37)
  obtain ⟨w1, hw1⟩ : ∃ w1, w0.alloc (.cells #[vc', vm', .int .i64 t.n] 37) = w1 := ⟨_, rfl⟩
  rw [hw1] at Y1 b1
  rw [hq1] at Y1 b1
  have X1 := X0.on b1 (by omega)
  have bb : Below q w w1 := b0.trans (b1.mono (by omega))
  have z1 : q < w1.heap.size := X1.lt
  have x0 := X1.cell 0; have x1 := X1.cell 1; have x2 := X1.cell 2
  have y0 := Y1.cell 0; have y1 := Y1.cell 1; have y2 := Y1.cell 2
  have sv := hv.on bb hB
  have sv' := hv'.on bb hB
  have cA := Ints.equalC vc vc' s.c t.c B w1 sv.c sv'.c (by omega)
  obtain ⟨bA, hA⟩ : ∃ b, decide (s.c = t.c) = b := ⟨_, rfl⟩
  rw [hA] at cA
  obtain ⟨bM, hM⟩ : ∃ b, decide (s.m = t.m) = b := ⟨_, rfl⟩
  have cM : ∀ w2, Below w1.heap.size w1 w2 → Calls Try.prog 74 #[vm, vm'] w2 fun e w' => e = .returned (.bool bM) ∧ Below w2.heap.size w2 w' := fun w2 b2 => by
    have := Ints.equalC vm vm' s.m t.m B w2 (sv.m.on b2 (by omega)) (sv'.m.on b2 (by omega)) (by have := b2.size; omega)
    rw [hM] at this; exact this
  have X2 : ∀ w2, Below w1.heap.size w1 w2 → Blk w2 q #[vc, vm, .int .i64 s.n] 37 := fun w2 b2 => X1.on b2 X1.lt
  have Y2 : ∀ w2, Below w1.heap.size w1 w2 → Blk w2 q1 #[vc', vm', .int .i64 t.n] 37 := fun w2 b2 => Y1.on b2 Y1.lt
  have HS : Hid (sameTh s t = (bA && bM && decide (s.n = t.n))) := by show _ = _; unfold sameTh; rw [hA, hM]
  obtain ⟨sn, hsn⟩ : ∃ x, s.n = x := ⟨_, rfl⟩
  obtain ⟨tn, htn⟩ : ∃ x, t.n = x := ⟨_, rfl⟩
  rw [hsn] at x2 X2 HS hw0 ⊢
  rw [htn] at y2 Y2 HS hw1 ⊢
  clear hA hM X0 X1 Y1 sv sv' hv hv' b0 b1 hsn htn
  cases bA with
  | false =>
    go_enter Try.func24, Try.ntmps24
    go_wp2_with (go_at_call_of 74 vc; refine cA.mono ?_; rintro e w2 ⟨rfl, b2⟩)
    go_ret
    exact ⟨by rw [HS.out]; rfl, bb.trans (b2.mono (by omega))⟩
  | true =>
    cases bM with
    | false =>
      go_enter Try.func24, Try.ntmps24
      go_wp2_with (go_at_call_of 74 vc; refine cA.mono ?_; rintro e w2 ⟨rfl, b2⟩; have x1 := (X2 _ b2).cell 1; have y1 := (Y2 _ b2).cell 1)
      refine (cM _ b2).mono ?_
      rintro e w3 ⟨rfl, b3⟩
      go_wp2
      go_ret
      have z2 := b2.size
      exact ⟨by rw [HS.out]; rfl, (bb.trans (b2.mono (by omega))).trans (b3.mono (by omega))⟩
    | true =>
      go_enter Try.func24, Try.ntmps24
      go_wp2_with (go_at_call_of 74 vc; refine cA.mono ?_; rintro e w2 ⟨rfl, b2⟩; have x1 := (X2 _ b2).cell 1; have y1 := (Y2 _ b2).cell 1)
      refine (cM _ b2).mono ?_
      rintro e w3 ⟨rfl, b3⟩
      have z2 := b2.size
      have x2 := (X2 _ (b2.trans (b3.mono z2))).cell 2
      have y2 := (Y2 _ (b2.trans (b3.mono z2))).cell 2
      go_wp2
      go_ret
      refine ⟨?_, (bb.trans (b2.mono (by omega))).trans (b3.mono (by omega))⟩
      rw [HS.out]
      congr 2

set_option maxRecDepth 100000 in
set_option maxHeartbeats 1600000 in
theorem specSame (vc vm vc' vm' : Value) (s t : Th) (B : Nat) (w : World) (hv : SeeT B w vc vm s) (hv' : SeeT B w vc' vm' t) (hB : B ≤ w.heap.size) :
    Calls Try.prog 17 #[.agg #[vc, vm, .int .i64 s.n], .agg #[vc', vm', .int .i64 t.n]] w fun e w' => e = .returned (.bool (sameTh s t)) ∧ Below w.heap.size w w' := by
  obtain ⟨q, hq⟩ : ∃ q, w.heap.size = q := ⟨_, rfl⟩
  have X0 := Blk.new w #[vc, vm, .int .i64 s.n] 37
  have b0 := alloc_below w (.cells #[vc, vm, .int .i64 s.n] 37)
  obtain ⟨w0, hw0⟩ : ∃ w0, w.alloc (.cells #[vc, vm, .int .i64 s.n] 37) = w0 := ⟨_, rfl⟩
  have hz0 : w0.heap.size = q + 1 := by rw [← hw0, ← hq]; simp
  rw [hw0] at X0 b0
  rw [hq] at X0 b0 hB ⊢
  obtain ⟨q1, hq1⟩ : ∃ q, w0.heap.size = q := ⟨_, rfl⟩
  have l01 : q < q1 := by omega
  clear hz0
  have Y1 := Blk.new w0 #[vc', vm', .int .i64 t.n] 37
  have b1 := alloc_below w0 (.cells #[vc', vm', .int .i64 t.n] 37)
  obtain ⟨w1, hw1⟩ : ∃ w1, w0.alloc (.cells #[vc', vm', .int .i64 t.n] 37) = w1 := ⟨_, rfl⟩
  rw [hw1] at Y1 b1
  rw [hq1] at Y1 b1
  have X1 := X0.on b1 (by omega)
  have bb : Below q w w1 := b0.trans (b1.mono (by omega))
  have z1 : q < w1.heap.size := X1.lt
  have x0 := X1.cell 0; have x1 := X1.cell 1; have x2 := X1.cell 2
  have y0 := Y1.cell 0; have y1 := Y1.cell 1; have y2 := Y1.cell 2
  have sv := hv.on bb hB
  have sv' := hv'.on bb hB
  have cA := Ints.l7IntsC vc vc' s.c t.c B w1 sv.c sv'.c (by omega)
  obtain ⟨bA, hA⟩ : ∃ b, decide (s.c = t.c) = b := ⟨_, rfl⟩
  rw [hA] at cA
  obtain ⟨bM, hM⟩ : ∃ b, decide (s.m = t.m) = b := ⟨_, rfl⟩
  have cM : ∀ w2, Below w1.heap.size w1 w2 → Calls Try.prog 65 #[vm, vm'] w2 fun e w' => e = .returned (.bool bM) ∧ Below w2.heap.size w2 w' := fun w2 b2 => by
    have := Ints.l7IntsC vm vm' s.m t.m B w2 (sv.m.on b2 (by omega)) (sv'.m.on b2 (by omega)) (by have := b2.size; omega)
    rw [hM] at this; exact this
  have X2 : ∀ w2, Below w1.heap.size w1 w2 → Blk w2 q #[vc, vm, .int .i64 s.n] 37 := fun w2 b2 => X1.on b2 X1.lt
  have Y2 : ∀ w2, Below w1.heap.size w1 w2 → Blk w2 q1 #[vc', vm', .int .i64 t.n] 37 := fun w2 b2 => Y1.on b2 Y1.lt
  have HS : Hid (sameTh s t = (bA && bM && decide (s.n = t.n))) := by show _ = _; unfold sameTh; rw [hA, hM]
  obtain ⟨sn, hsn⟩ : ∃ x, s.n = x := ⟨_, rfl⟩
  obtain ⟨tn, htn⟩ : ∃ x, t.n = x := ⟨_, rfl⟩
  rw [hsn] at x2 X2 HS hw0 ⊢
  rw [htn] at y2 Y2 HS hw1 ⊢
  clear hA hM X0 X1 Y1 sv sv' hv hv' b0 b1 hsn htn
  cases bA with
  | false =>
    go_enter Try.func17, Try.ntmps17
    go_wp2_with (go_at_call_of 65 vc; refine cA.mono ?_; rintro e w2 ⟨rfl, b2⟩)
    go_ret
    exact ⟨by rw [HS.out]; rfl, bb.trans (b2.mono (by omega))⟩
  | true =>
    cases bM with
    | false =>
      go_enter Try.func17, Try.ntmps17
      go_wp2_with (go_at_call_of 65 vc; refine cA.mono ?_; rintro e w2 ⟨rfl, b2⟩; have x1 := (X2 _ b2).cell 1; have y1 := (Y2 _ b2).cell 1)
      refine (cM _ b2).mono ?_
      rintro e w3 ⟨rfl, b3⟩
      go_wp2
      go_ret
      have z2 := b2.size
      exact ⟨by rw [HS.out]; rfl, (bb.trans (b2.mono (by omega))).trans (b3.mono (by omega))⟩
    | true =>
      go_enter Try.func17, Try.ntmps17
      go_wp2_with (go_at_call_of 65 vc; refine cA.mono ?_; rintro e w2 ⟨rfl, b2⟩; have x1 := (X2 _ b2).cell 1; have y1 := (Y2 _ b2).cell 1)
      refine (cM _ b2).mono ?_
      rintro e w3 ⟨rfl, b3⟩
      have z2 := b2.size
      have x2 := (X2 _ (b2.trans (b3.mono z2))).cell 2
      have y2 := (Y2 _ (b2.trans (b3.mono z2))).cell 2
      go_wp2
      go_ret
      refine ⟨?_, (bb.trans (b2.mono (by omega))).trans (b3.mono (by omega))⟩
      rw [HS.out]
      congr 2
end Ops
end Go.Proofs.Ytppkohkcffnghaa
