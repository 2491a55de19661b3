/- Several texts of one proof, in build order: ThSame, ThLaw, ThVals, ThOk, ThLaw2, IntMark, RunLaw, RunLaw2, SerialInv, SegL, TotalL. -/
import Derived.Deep.RegionHeld3
import Derived.Test.YtajbmokidcdfnaaSB2
import Derived.Test.YtajbmokidcdfnaaSB3
/- Rows of numbers held against each other; what SameThings answers, the program's and the specification's. -/
set_option linter.unusedVariables false
set_option linter.unusedSimpArgs false
namespace Go.Proofs.Ytajbmokidcdfnaa
open Go.RowKit
namespace Ints
theorem ne_len {zs ys : List Int} (h : ¬ zs.length = ys.length) : decide (zs = ys) = false := decide_eq_false fun e => h (by rw [e])
theorem ne_at {zs ys : List Int} {j : Nat} (h1 : j < zs.length) (h2 : j < ys.length) (h : ¬ zs[j] = ys[j]) : decide (zs = ys) = false := decide_eq_false fun e => h (by subst e; rfl)
theorem eq_all {zs ys : List Int} (h : zs.length = ys.length) (ha : ∀ j (h1 : j < zs.length) (h2 : j < ys.length), zs[j] = ys[j]) : decide (zs = ys) = true := decide_eq_true (List.ext_getElem h ha)
theorem ret_eq {zs ys : List Int} {b : Bool} (h : decide (zs = ys) = b) : Ending.returned (.bool b) = .returned (.bool (decide (zs = ys))) := by rw [h]

set_option maxRecDepth 100000 in
set_option maxHeartbeats 1600000 in
theorem l7IntsC (v v' : Value) (zs ys : List Int) (B : Nat) (w : World) (hv : Ints.Sees B w v zs) (hv' : Ints.Sees B w v' ys) (hB : B ≤ w.heap.size) :
    Calls Try.prog 82 #[v, v'] w fun e w' => e = .returned (.bool (decide (zs = ys))) ∧ Below w.heap.size w w' := by
  obtain ⟨a, cap, rfl, h1, h2, h3⟩ := hv
  obtain ⟨a', cap', rfl, h1', h2', h3'⟩ := hv'
  obtain ⟨n, hn⟩ : ∃ n, zs.length = n := ⟨_, rfl⟩
  obtain ⟨m, hm'⟩ : ∃ n, ys.length = n := ⟨_, rfl⟩
  have hm : (n : Int) ≤ 9223372036854775807 := by unfold maxLen at h2; omega
  have hm2 : (m : Int) ≤ 9223372036854775807 := by unfold maxLen at h2'; omega
  rw [hn, hm']
  obtain ⟨g, hg⟩ : ∃ g, w.heap.size = g := ⟨_, rfl⟩
  rw [hg] at hB ⊢
  clear h1 h2 h1' h2'
  by_cases hl : n = m
  · subst hl
    have HN : Hid (zs.length = n) := hn
    have HM : Hid (ys.length = n) := hm'
    go_enter Try.func82, Try.ntmps82
    go_wp2
    go_loopw [5] (fun i wr => ∃ k : Nat, k ≤ n ∧ i = .int .i64 k ∧ Below g w wr ∧ ∀ j (h1 : j < zs.length) (h2 : j < ys.length), j < k → zs[j] = ys[j]) (fun i _ => n - (intOf i).toNat)
    case atStart => exact ⟨0, Nat.zero_le _, rfl, Below.refl _ _, fun j _ _ h => by omega⟩
    case round =>
      obtain ⟨k, hk, rfl, hb, hall⟩ := hrel
      by_cases hlt : k < n
      · obtain ⟨b, off, rfl, hbB, hc⟩ := h3 (fun h => by simp [h] at hn; omega)
        obtain ⟨b', off', rfl, hbB', hc'⟩ := h3' (fun h => by simp [h] at hm'; omega)
        have a0 := (hb.cell (p := ⟨b, off + k, none⟩) (by show b < g; omega)).trans (hc k (by omega))
        have a0' := (hb.cell (p := ⟨b', off' + k, none⟩) (by show b' < g; omega)).trans (hc' k (by omega))
        obtain ⟨x, hx⟩ : ∃ x, zs[k] = x := ⟨_, rfl⟩
        obtain ⟨y, hy⟩ : ∃ y, ys[k] = y := ⟨_, rfl⟩
        have HA : Hid (∀ j (h1 : j < zs.length) (h2 : j < ys.length), j < k → zs[j] = ys[j]) := hall
        by_cases hxy : x = y
        · have HK : Hid (zs[k] = ys[k]) := by show _ = _; rw [hx, hy, hxy]
          subst hxy
          rw [hx] at a0
          rw [hy] at a0'
          clear hx hy hc h3 hc' h3' hall
          go_wp2_with fail
          go_region
          all_goals
            go_wp2
            go_roundw
            case rel => exact ⟨k + 1, by omega, by go_num, by first | exact hb.drew | exact hb.drew.drew | exact hb, fun j p1 p2 hj => by
              rcases Nat.lt_succ_iff_lt_or_eq.1 hj with h | h
              · exact HA.out j p1 p2 h
              · subst h; exact HK.out⟩
            case measure => simp [intOf]; omega
        · have HF : Hid (decide (zs = ys) = false) := ne_at (j := k) (by omega) (by omega) (by rw [hx, hy]; exact hxy)
          have hxy' : (x != y) = true := by simp [hxy]
          rw [hx] at a0
          rw [hy] at a0'
          clear hx hy hc h3 hc' h3' hall hxy
          go_wp2_with fail
          go_region
          all_goals
            go_wp2
            go_ret
            exact ⟨ret_eq HF.out, by first | exact hb.drew | exact hb.drew.drew | exact hb⟩
      · obtain rfl : k = n := by omega
        have HT : Hid (decide (zs = ys) = true) := eq_all (by rw [HN.out, HM.out]) fun j p1 p2 => hall j p1 p2 (by omega)
        clear hall
        go_wp2
        go_ret
        exact ⟨ret_eq HT.out, hb⟩
  · have HF : Hid (decide (zs = ys) = false) := ne_len (by omega)
    have hl' : ((n : Int) != (m : Int)) = true := by simp; omega
    clear hl h3 h3'
    go_enter Try.func82, Try.ntmps82
    go_wp2
    go_ret
    exact ⟨ret_eq HF.out, Below.refl _ _⟩

set_option maxRecDepth 100000 in
set_option maxHeartbeats 1600000 in
theorem sameC (v v' : Value) (zs ys : List Int) (B : Nat) (w : World) (hv : Ints.Sees B w v zs) (hv' : Ints.Sees B w v' ys) (hB : B ≤ w.heap.size) :
    Calls Try.prog 32 #[v, v'] w fun e w' => e = .returned (.bool (decide (zs = ys))) ∧ Below w.heap.size w w' := by
  obtain ⟨a, cap, rfl, h1, h2, h3⟩ := hv
  obtain ⟨a', cap', rfl, h1', h2', h3'⟩ := hv'
  obtain ⟨n, hn⟩ : ∃ n, zs.length = n := ⟨_, rfl⟩
  obtain ⟨m, hm'⟩ : ∃ n, ys.length = n := ⟨_, rfl⟩
  have hm : (n : Int) ≤ 9223372036854775807 := by unfold maxLen at h2; omega
  have hm2 : (m : Int) ≤ 9223372036854775807 := by unfold maxLen at h2'; omega
  rw [hn, hm']
  obtain ⟨g, hg⟩ : ∃ g, w.heap.size = g := ⟨_, rfl⟩
  rw [hg] at hB ⊢
  clear h1 h2 h1' h2'
  by_cases hl : n = m
  · subst hl
    have HN : Hid (zs.length = n) := hn
    have HM : Hid (ys.length = n) := hm'
    go_enter Try.func32, Try.ntmps32
    go_wp2
    go_loopw [5] (fun i wr => ∃ k : Nat, k ≤ n ∧ i = .int .i64 k ∧ Below g w wr ∧ ∀ j (h1 : j < zs.length) (h2 : j < ys.length), j < k → zs[j] = ys[j]) (fun i _ => n - (intOf i).toNat)
    case atStart => exact ⟨0, Nat.zero_le _, rfl, Below.refl _ _, fun j _ _ h => by omega⟩
    case round =>
      obtain ⟨k, hk, rfl, hb, hall⟩ := hrel
      by_cases hlt : k < n
      · obtain ⟨b, off, rfl, hbB, hc⟩ := h3 (fun h => by simp [h] at hn; omega)
        obtain ⟨b', off', rfl, hbB', hc'⟩ := h3' (fun h => by simp [h] at hm'; omega)
        have a0 := (hb.cell (p := ⟨b, off + k, none⟩) (by show b < g; omega)).trans (hc k (by omega))
        have a0' := (hb.cell (p := ⟨b', off' + k, none⟩) (by show b' < g; omega)).trans (hc' k (by omega))
        obtain ⟨x, hx⟩ : ∃ x, zs[k] = x := ⟨_, rfl⟩
        obtain ⟨y, hy⟩ : ∃ y, ys[k] = y := ⟨_, rfl⟩
        have HA : Hid (∀ j (h1 : j < zs.length) (h2 : j < ys.length), j < k → zs[j] = ys[j]) := hall
        by_cases hxy : x = y
        · have HK : Hid (zs[k] = ys[k]) := by show _ = _; rw [hx, hy, hxy]
          subst hxy
          rw [hx] at a0
          rw [hy] at a0'
          clear hx hy hc h3 hc' h3' hall
          go_wp2_with fail
          go_region
          all_goals
            go_wp2
            go_roundw
            case rel => exact ⟨k + 1, by omega, by go_num, by first | exact hb.drew | exact hb.drew.drew | exact hb, fun j p1 p2 hj => by
              rcases Nat.lt_succ_iff_lt_or_eq.1 hj with h | h
              · exact HA.out j p1 p2 h
              · subst h; exact HK.out⟩
            case measure => simp [intOf]; omega
        · have HF : Hid (decide (zs = ys) = false) := ne_at (j := k) (by omega) (by omega) (by rw [hx, hy]; exact hxy)
          have hxy' : (x != y) = true := by simp [hxy]
          rw [hx] at a0
          rw [hy] at a0'
          clear hx hy hc h3 hc' h3' hall hxy
          go_wp2_with fail
          go_region
          all_goals
            go_wp2
            go_ret
            exact ⟨ret_eq HF.out, by first | exact hb.drew | exact hb.drew.drew | exact hb⟩
      · obtain rfl : k = n := by omega
        have HT : Hid (decide (zs = ys) = true) := eq_all (by rw [HN.out, HM.out]) fun j p1 p2 => hall j p1 p2 (by omega)
        clear hall
        go_wp2
        go_ret
        exact ⟨ret_eq HT.out, hb⟩
  · have HF : Hid (decide (zs = ys) = false) := ne_len (by omega)
    have hl' : ((n : Int) != (m : Int)) = true := by simp; omega
    clear hl h3 h3'
    go_enter Try.func32, Try.ntmps32
    go_wp2
    go_ret
    exact ⟨ret_eq HF.out, Below.refl _ _⟩

set_option maxRecDepth 100000 in
set_option maxHeartbeats 1600000 in
theorem eqlC (v v' : Value) (zs ys : List Int) (B : Nat) (w : World) (hv : Ints.Sees B w v zs) (hv' : Ints.Sees B w v' ys) (hB : B ≤ w.heap.size) :
    Calls Try.prog 42 #[v, v'] w fun e w' => e = .returned (.bool (decide (zs = ys))) ∧ Below w.heap.size w w' := by
  obtain ⟨a, cap, rfl, h1, h2, h3⟩ := hv
  obtain ⟨a', cap', rfl, h1', h2', h3'⟩ := hv'
  obtain ⟨n, hn⟩ : ∃ n, zs.length = n := ⟨_, rfl⟩
  obtain ⟨m, hm'⟩ : ∃ n, ys.length = n := ⟨_, rfl⟩
  have hm : (n : Int) ≤ 9223372036854775807 := by unfold maxLen at h2; omega
  have hm2 : (m : Int) ≤ 9223372036854775807 := by unfold maxLen at h2'; omega
  rw [hn, hm']
  obtain ⟨g, hg⟩ : ∃ g, w.heap.size = g := ⟨_, rfl⟩
  rw [hg] at hB ⊢
  clear h1 h2 h1' h2'
  by_cases hl : n = m
  · subst hl
    have HN : Hid (zs.length = n) := hn
    have HM : Hid (ys.length = n) := hm'
    go_enter Try.func42, Try.ntmps42
    go_wp2
    go_loopw [5] (fun i wr => ∃ k : Nat, k ≤ n ∧ i = .int .i64 k ∧ Below g w wr ∧ ∀ j (h1 : j < zs.length) (h2 : j < ys.length), j < k → zs[j] = ys[j]) (fun i _ => n - (intOf i).toNat)
    case atStart => exact ⟨0, Nat.zero_le _, rfl, Below.refl _ _, fun j _ _ h => by omega⟩
    case round =>
      obtain ⟨k, hk, rfl, hb, hall⟩ := hrel
      by_cases hlt : k < n
      · obtain ⟨b, off, rfl, hbB, hc⟩ := h3 (fun h => by simp [h] at hn; omega)
        obtain ⟨b', off', rfl, hbB', hc'⟩ := h3' (fun h => by simp [h] at hm'; omega)
        have a0 := (hb.cell (p := ⟨b, off + k, none⟩) (by show b < g; omega)).trans (hc k (by omega))
        have a0' := (hb.cell (p := ⟨b', off' + k, none⟩) (by show b' < g; omega)).trans (hc' k (by omega))
        obtain ⟨x, hx⟩ : ∃ x, zs[k] = x := ⟨_, rfl⟩
        obtain ⟨y, hy⟩ : ∃ y, ys[k] = y := ⟨_, rfl⟩
        have HA : Hid (∀ j (h1 : j < zs.length) (h2 : j < ys.length), j < k → zs[j] = ys[j]) := hall
        by_cases hxy : x = y
        · have HK : Hid (zs[k] = ys[k]) := by show _ = _; rw [hx, hy, hxy]
          subst hxy
          rw [hx] at a0
          rw [hy] at a0'
          clear hx hy hc h3 hc' h3' hall
          go_wp2_with fail
          go_region
          all_goals
            go_wp2
            go_roundw
            case rel => exact ⟨k + 1, by omega, by go_num, by first | exact hb.drew | exact hb.drew.drew | exact hb, fun j p1 p2 hj => by
              rcases Nat.lt_succ_iff_lt_or_eq.1 hj with h | h
              · exact HA.out j p1 p2 h
              · subst h; exact HK.out⟩
            case measure => simp [intOf]; omega
        · have HF : Hid (decide (zs = ys) = false) := ne_at (j := k) (by omega) (by omega) (by rw [hx, hy]; exact hxy)
          have hxy' : (x != y) = true := by simp [hxy]
          rw [hx] at a0
          rw [hy] at a0'
          clear hx hy hc h3 hc' h3' hall hxy
          go_wp2_with fail
          go_region
          all_goals
            go_wp2
            go_ret
            exact ⟨ret_eq HF.out, by first | exact hb.drew | exact hb.drew.drew | exact hb⟩
      · obtain rfl : k = n := by omega
        have HT : Hid (decide (zs = ys) = true) := eq_all (by rw [HN.out, HM.out]) fun j p1 p2 => hall j p1 p2 (by omega)
        clear hall
        go_wp2
        go_ret
        exact ⟨ret_eq HT.out, hb⟩
  · have HF : Hid (decide (zs = ys) = false) := ne_len (by omega)
    have hl' : ((n : Int) != (m : Int)) = true := by simp; omega
    clear hl h3 h3'
    go_enter Try.func42, Try.ntmps42
    go_wp2
    go_ret
    exact ⟨ret_eq HF.out, Below.refl _ _⟩
end Ints
namespace Ops
open Bas

/-- SameThings -/
def sameTh (a b : Th) : Bool := decide (a.c = b.c) && decide (a.m = b.m) && decide (a.n = b.n)
theorem sameTh_self (t : Th) : sameTh t t = true := by simp [sameTh]

set_option maxRecDepth 100000 in
set_option maxHeartbeats 1600000 in
theorem specSame (vc vm vc' vm' : Value) (s t : Th) (B : Nat) (w : World) (hv : SeeT B w vc vm s) (hv' : SeeT B w vc' vm' t) (hB : B ≤ w.heap.size) :
    Calls Try.prog 30 #[.agg #[vc, vm, .int .i64 s.n], .agg #[vc', vm', .int .i64 t.n]] w fun e w' => e = .returned (.bool (sameTh s t)) ∧ Below w.heap.size w w' := by
  obtain ⟨q, hq⟩ : ∃ q, w.heap.size = q := ⟨_, rfl⟩
  have X0 := Blk.new w #[vc, vm, .int .i64 s.n] 49
  have b0 := alloc_below w (.cells #[vc, vm, .int .i64 s.n] 49)
  obtain ⟨w0, hw0⟩ : ∃ w0, w.alloc (.cells #[vc, vm, .int .i64 s.n] 49) = w0 := ⟨_, rfl⟩
  have hz0 : w0.heap.size = q + 1 := by rw [← hw0, ← hq]; simp
  rw [hw0] at X0 b0
  rw [hq] at X0 b0 hB ⊢
  obtain ⟨q1, hq1⟩ : ∃ q, w0.heap.size = q := ⟨_, rfl⟩
  have l01 : q < q1 := by omega
  clear hz0
  have Y1 := Blk.new w0 #[vc', vm', .int .i64 t.n] 49
  have b1 := alloc_below w0 (.cells #[vc', vm', .int .i64 t.n] 49)
  obtain ⟨w1, hw1⟩ : ∃ w1, w0.alloc (.cells #[vc', vm', .int .i64 t.n] 49) = w1 := ⟨_, rfl⟩
  rw [hw1] at Y1 b1
  rw [hq1] at Y1 b1
  have X1 := X0.on b1 (by omega)
  have bb : Below q w w1 := b0.trans (b1.mono (by omega))
  have z1 : q < w1.heap.size := X1.lt
  have x0 := X1.cell 0; have x1 := X1.cell 1; have x2 := X1.cell 2
  have y0 := Y1.cell 0; have y1 := Y1.cell 1; have y2 := Y1.cell 2
  have sv := hv.on bb hB
  have sv' := hv'.on bb hB
  have cA := Ints.l7IntsC vc vc' s.c t.c B w1 sv.c sv'.c (by omega)
  obtain ⟨bA, hA⟩ : ∃ b, decide (s.c = t.c) = b := ⟨_, rfl⟩
  rw [hA] at cA
  obtain ⟨bM, hM⟩ : ∃ b, decide (s.m = t.m) = b := ⟨_, rfl⟩
  have cM : ∀ w2, Below w1.heap.size w1 w2 → Calls Try.prog 82 #[vm, vm'] w2 fun e w' => e = .returned (.bool bM) ∧ Below w2.heap.size w2 w' := fun w2 b2 => by
    have := Ints.l7IntsC vm vm' s.m t.m B w2 (sv.m.on b2 (by omega)) (sv'.m.on b2 (by omega)) (by have := b2.size; omega)
    rw [hM] at this; exact this
  have X2 : ∀ w2, Below w1.heap.size w1 w2 → Blk w2 q #[vc, vm, .int .i64 s.n] 49 := fun w2 b2 => X1.on b2 X1.lt
  have Y2 : ∀ w2, Below w1.heap.size w1 w2 → Blk w2 q1 #[vc', vm', .int .i64 t.n] 49 := fun w2 b2 => Y1.on b2 Y1.lt
  have HS : Hid (sameTh s t = (bA && bM && decide (s.n = t.n))) := by show _ = _; unfold sameTh; rw [hA, hM]
  obtain ⟨sn, hsn⟩ : ∃ x, s.n = x := ⟨_, rfl⟩
  obtain ⟨tn, htn⟩ : ∃ x, t.n = x := ⟨_, rfl⟩
  rw [hsn] at x2 X2 HS hw0 ⊢
  rw [htn] at y2 Y2 HS hw1 ⊢
  clear hA hM X0 X1 Y1 sv sv' hv hv' b0 b1 hsn htn
  cases bA with
  | false =>
    go_enter Try.func30, Try.ntmps30
    go_wp2_with (go_at_call_of 82 vc; refine cA.mono ?_; rintro e w2 ⟨rfl, b2⟩)
    go_ret
    exact ⟨by rw [HS.out]; rfl, bb.trans (b2.mono (by omega))⟩
  | true =>
    cases bM with
    | false =>
      go_enter Try.func30, Try.ntmps30
      go_wp2_with (go_at_call_of 82 vc; refine cA.mono ?_; rintro e w2 ⟨rfl, b2⟩; have x1 := (X2 _ b2).cell 1; have y1 := (Y2 _ b2).cell 1)
      refine (cM _ b2).mono ?_
      rintro e w3 ⟨rfl, b3⟩
      go_wp2
      go_ret
      have z2 := b2.size
      exact ⟨by rw [HS.out]; rfl, (bb.trans (b2.mono (by omega))).trans (b3.mono (by omega))⟩
    | true =>
      go_enter Try.func30, Try.ntmps30
      go_wp2_with (go_at_call_of 82 vc; refine cA.mono ?_; rintro e w2 ⟨rfl, b2⟩; have x1 := (X2 _ b2).cell 1; have y1 := (Y2 _ b2).cell 1)
      refine (cM _ b2).mono ?_
      rintro e w3 ⟨rfl, b3⟩
      have z2 := b2.size
      have x2 := (X2 _ (b2.trans (b3.mono z2))).cell 2
      have y2 := (Y2 _ (b2.trans (b3.mono z2))).cell 2
      go_wp2
      go_ret
      refine ⟨?_, (bb.trans (b2.mono (by omega))).trans (b3.mono (by omega))⟩
      rw [HS.out]
      congr 2
end Ops
end Go.Proofs.Ytajbmokidcdfnaa
/- The laws' own copies, comparisons and sizes of things. -/
set_option linter.unusedVariables false
set_option linter.unusedSimpArgs false
namespace Go.Proofs.Ytajbmokidcdfnaa
open Go.RowKit
namespace Ops
open Bas

/-- things that are not too great -/
def FitT (t : Th) : Prop := t.c.length ≤ 1048576 ∧ t.m.length ≤ 1048576

set_option maxRecDepth 100000 in
set_option maxHeartbeats 1600000 in
theorem toThC (vc vm : Value) (t : Th) (B : Nat) (w : World) (hv : SeeT B w vc vm t) (hB : B ≤ w.heap.size) (hf : FitT t) :
    Calls Try.prog 39 #[.agg #[vc, vm, .int .i64 t.n]] w fun e w' => ∃ vc' vm', e = .returned (.agg #[vc', vm', .int .i64 t.n]) ∧ OwnT w.heap.size w' vc' vm' t ∧ Below w.heap.size w w' := by
  obtain ⟨q, hq⟩ : ∃ q, w.heap.size = q := ⟨_, rfl⟩
  have X0 := Blk.new w #[vc, vm, .int .i64 t.n] 71
  have b0 := alloc_below w (.cells #[vc, vm, .int .i64 t.n] 71)
  obtain ⟨w0, hw0⟩ : ∃ w0, w.alloc (.cells #[vc, vm, .int .i64 t.n] 71) = w0 := ⟨_, rfl⟩
  have hz0 : w0.heap.size = q + 1 := by rw [← hw0, ← hq]; simp
  rw [hw0] at X0 b0
  rw [hq] at X0 b0 hB ⊢
  obtain ⟨q1, hq1⟩ : ∃ q, w0.heap.size = q := ⟨_, rfl⟩
  have l01 : q < q1 := by omega
  clear hz0
  have R1 := Blk.new w0 #[.slice none 0 0, .slice none 0 0, .int .i64 0] 49
  have b1 := alloc_below w0 (.cells #[.slice none 0 0, .slice none 0 0, .int .i64 0] 49)
  obtain ⟨w1, hw1⟩ : ∃ w1, w0.alloc (.cells #[.slice none 0 0, .slice none 0 0, .int .i64 0] 49) = w1 := ⟨_, rfl⟩
  have hz1 : w1.heap.size = q1 + 1 := by rw [← hw1, ← hq1]; simp
  rw [hw1] at R1 b1
  rw [hq1] at R1 b1
  obtain ⟨q2, hq2⟩ : ∃ q, w1.heap.size = q := ⟨_, rfl⟩
  have l12 : q1 < q2 := by omega
  clear hz1
  have R2 := Blk.new w1 #[.slice none 0 0, .slice none 0 0, .int .i64 0] 49
  have b2 := alloc_below w1 (.cells #[.slice none 0 0, .slice none 0 0, .int .i64 0] 49)
  obtain ⟨w2, hw2⟩ : ∃ w2, w1.alloc (.cells #[.slice none 0 0, .slice none 0 0, .int .i64 0] 49) = w2 := ⟨_, rfl⟩
  rw [hw2] at R2 b2
  rw [hq2] at R2 b2
  have X2 := (X0.on b1 (by omega)).on b2 (by omega)
  have R12 := R1.on b2 (by omega)
  have bb : Below q w w2 := (b0.trans (b1.mono (by omega))).trans (b2.mono (by omega))
  have z2 : q2 < w2.heap.size := R2.lt
  have x0 := X2.cell 0
  have sv := hv.on bb hB
  have cA := Ints.toIntsC vc t.c B w2 sv.c (by omega) hf.1
  obtain ⟨tn, htn⟩ : ∃ x, t.n = x := ⟨_, rfl⟩
  rw [htn] at X2 hw0 ⊢
  clear X0 R1 b0 b1 b2 htn
  go_enter Try.func39, Try.ntmps39
  go_wp2_with fail
  refine cA.mono ?_
  rintro e w3 ⟨v3, rfl, O3, b3⟩
  obtain ⟨a3, k3, rfl⟩ := O3.form
  have X3 := X2.on b3 X2.lt
  have R3 := R2.on b3 R2.lt
  have S3 := R12.on b3 R12.lt
  have bb3 := bb.trans (b3.mono (by omega))
  have z3 := b3.size
  have r30 := R3.cell 0
  have f30 := R3.froz 0
  have X4 := X3.other (show q ≠ q2 by omega) 0 (.slice a3 t.c.length k3)
  have S4 := S3.other (show q1 ≠ q2 by omega) 0 (.slice a3 t.c.length k3)
  have R4 := R3.set 0 (.slice a3 t.c.length k3)
  have O4_ := own_other O3 (q := q2) (by omega) 0 (.slice a3 t.c.length k3)
  have b4 := bb3.setCell (p := ⟨q2, 0, none⟩) (show q ≤ q2 by omega) (.slice a3 t.c.length k3)
  obtain ⟨w4, hw4⟩ : ∃ W, w3.setCell ⟨q2, 0, none⟩ (.slice a3 t.c.length k3) = W := ⟨_, rfl⟩
  rw [hw4] at X4 S4 R4 O4_ b4
  have z4 : w3.heap.size = w4.heap.size := by rw [← hw4]; simp [World.setCell]
  have x1 := X4.cell 1
  have cM := Ints.toIntsC vm t.m B w4 ((hv.on b4 hB).m) (by omega) hf.2
  clear cA x0 X2 R2 R12 X3 R3 S3 O3
  go_wp2_with fail
  refine cM.mono ?_
  rintro e w5 ⟨v5, rfl, O5, b5⟩
  obtain ⟨a5, k5, rfl⟩ := O5.form
  have X5 := X4.on b5 X4.lt
  have R5 := R4.on b5 R4.lt
  have S5 := S4.on b5 S4.lt
  have P5 := O4_.on b5 (Nat.le_refl _)
  have bb5 := b4.trans (b5.mono (by have := b4.size; omega))
  have hd : Dj (.slice a3 t.c.length k3) (.slice a5 t.m.length k5) := dj_new (B' := 0) O4_ O5
  have z5 := b5.size
  have r50 := R5.cell 0; have r51 := R5.cell 1; have r52 := R5.cell 2
  have f50 := R5.froz 0; have f51 := R5.froz 1; have f52 := R5.froz 2
  have x52 := X5.cell 2
  have s50 := S5.cell 0; have s51 := S5.cell 1; have s52 := S5.cell 2
  have g50 := S5.froz 0; have g51 := S5.froz 1; have g52 := S5.froz 2
  have Oa : Ints.Owns q _ (.slice a3 t.c.length k3) t.c := (own_other (own_other (own_other (own_other (own_other P5 (q := q2) (by omega) 1 (.slice a5 t.m.length k5)) (q := q2) (by omega) 2 (.int .i64 tn)) (q := q1) (by omega) 0 (.slice a3 t.c.length k3)) (q := q1) (by omega) 1 (.slice a5 t.m.length k5)) (q := q1) (by omega) 2 (.int .i64 tn)).mono (show q ≤ w2.heap.size by omega)
  have Ob : Ints.Owns q _ (.slice a5 t.m.length k5) t.m := (own_other (own_other (own_other (own_other (own_other O5 (q := q2) (by omega) 1 (.slice a5 t.m.length k5)) (q := q2) (by omega) 2 (.int .i64 tn)) (q := q1) (by omega) 0 (.slice a3 t.c.length k3)) (q := q1) (by omega) 1 (.slice a5 t.m.length k5)) (q := q1) (by omega) 2 (.int .i64 tn)).mono (show q ≤ w4.heap.size by omega)
  have bF := ((((bb5.setCell (p := ⟨q2, 1, none⟩) (show q ≤ q2 by omega) (.slice a5 t.m.length k5)).setCell (p := ⟨q2, 2, none⟩) (show q ≤ q2 by omega) (.int .i64 tn)).setCell (p := ⟨q1, 0, none⟩) (show q ≤ q1 by omega) (.slice a3 t.c.length k3)).setCell (p := ⟨q1, 1, none⟩) (show q ≤ q1 by omega) (.slice a5 t.m.length k5)).setCell (p := ⟨q1, 2, none⟩) (show q ≤ q1 by omega) (.int .i64 tn)
  have R6 := (R5.set 1 (.slice a5 t.m.length k5)).set 2 (.int .i64 tn)
  have S6 := (((((S5.other (show q1 ≠ q2 by omega) 1 (.slice a5 t.m.length k5)).other (show q1 ≠ q2 by omega) 2 (.int .i64 tn)).set 0 (.slice a3 t.c.length k3)).set 1 (.slice a5 t.m.length k5)).set 2 (.int .i64 tn))
  clear x1 cM X4 S4 R4 O4_ hw4
  go_wp2
  refine bodyPost_ret (v := .agg #[.slice a3 t.c.length k3, .slice a5 t.m.length k5, .int .i64 tn]) (by simp [results, Try.results39, go_sem, s50, s51, s52]) rfl ?_
  exact ⟨_, _, rfl, ⟨Oa, Ob, hd⟩, bF⟩
end Ops
end Go.Proofs.Ytajbmokidcdfnaa
/- Right values: what l3Vals and rightValues answer. -/
set_option linter.unusedVariables false
namespace Go.Proofs.Ytajbmokidcdfnaa
open Go.RowKit
namespace Ths
def valOk (z : Int) : Bool := decide (0 ≤ z ∧ z ≤ 65535)
def valsOk (zs : List Int) : Bool := decide (zs.length = 8) && zs.all valOk
theorem valsOk_mk {zs : List Int} (h : zs.length = 8) (ha : ∀ j (h : j < zs.length), valOk zs[j] = true) : valsOk zs = true := by
  unfold valsOk
  rw [Bool.and_eq_true]
  refine ⟨decide_eq_true h, List.all_eq_true.2 fun x hx => ?_⟩
  obtain ⟨j, hj, rfl⟩ := List.mem_iff_getElem.1 hx
  exact ha j hj
theorem valsOk_len {zs : List Int} (h : ¬ zs.length = 8) : valsOk zs = false := by unfold valsOk; rw [decide_eq_false h]; rfl
theorem valsOk_one {zs : List Int} {j : Nat} (hj : j < zs.length) (h : valOk zs[j] = false) : valsOk zs = false := by
  unfold valsOk
  rw [Bool.and_eq_false_iff]
  exact .inr (List.all_eq_false.2 ⟨zs[j], List.getElem_mem hj, by simp [h]⟩)
theorem valsOk_out {zs : List Int} (h : valsOk zs = true) : zs.length = 8 := by
  unfold valsOk at h
  rw [Bool.and_eq_true] at h
  exact of_decide_eq_true h.1
theorem ret_vals {zs : List Int} {b : Bool} (h : valsOk zs = b) : Ending.returned (.bool b) = .returned (.bool (valsOk zs)) := by rw [h]

set_option maxRecDepth 100000 in
set_option maxHeartbeats 800000 in
theorem specVals (v : Value) (zs : List Int) (B : Nat) (w : World) (hv : Ints.Sees B w v zs) :
    Calls Try.prog 89 #[v] w fun e w' => e = .returned (.bool (valsOk zs)) ∧ w = w' := by
  obtain ⟨a, cap, rfl, h1, h2, h3⟩ := hv
  have hm : (zs.length : Int) ≤ 9223372036854775807 := by unfold maxLen at h2; omega
  by_cases h8 : zs.length = 8
  · rw [h8]
    clear hm h1 h2
    go_enter Try.func89, Try.ntmps89
    go_wp2
    go_loop [3] (fun i => ∃ k : Nat, k ≤ 8 ∧ i = .int .i64 k ∧ (∀ j (h : j < zs.length), j < k → valOk zs[j] = true)) (fun i => 8 - (intOf i).toNat)
    case atStart => exact ⟨0, by omega, rfl, fun j _ h => by omega⟩
    case round =>
      obtain ⟨k, hk, rfl, hall⟩ := hrel
      by_cases hlt : k < 8
      · obtain ⟨b, off, rfl, hbB, hc⟩ := h3 (fun h => by simp [h] at h8)
        have a0 := hc k (by omega)
        obtain ⟨z, hz⟩ : ∃ z, zs[k] = z := ⟨_, rfl⟩
        rw [hz] at a0
        have HZ : Hid (zs[k] = z) := hz
        have HA : Hid (∀ j (h : j < zs.length), j < k → valOk zs[j] = true) := hall
        clear hz hc h3 hall
        by_cases q : 0 ≤ z ∧ z ≤ 65535
        · obtain ⟨q0, q1⟩ := q
          go_wp2
          go_round
          case rel => exact ⟨k + 1, by omega, by go_num, fun j hj hjk => by
            rcases Nat.lt_succ_iff_lt_or_eq.1 hjk with h | h
            · exact HA.out j hj h
            · subst h; rw [HZ.out]; exact decide_eq_true ⟨q0, q1⟩⟩
          case measure => simp [intOf]; omega
        · have HF : Hid (valsOk zs = false) := valsOk_one (j := k) (by omega) (by rw [HZ.out]; exact decide_eq_false q)
          rcases (show z < 0 ∨ (0 ≤ z ∧ 65535 < z) by omega) with q0 | ⟨q0, q1⟩
          all_goals
            try have q2 : decide (z ≤ 65535) = false := by (simp; omega)
            clear q
            go_wp2
            go_ret
            exact ⟨ret_vals HF.out, rfl⟩
      · obtain rfl : k = 8 := by omega
        have HT : Hid (valsOk zs = true) := valsOk_mk h8 fun j hj => hall j hj (by omega)
        clear hall h3
        go_wp2
        go_ret
        exact ⟨ret_vals HT.out, rfl⟩
  · have HF : Hid (valsOk zs = false) := valsOk_len h8
    obtain ⟨n, hn⟩ : ∃ n, zs.length = n := ⟨_, rfl⟩
    rw [hn] at hm h8 ⊢
    have h8' : ((n : Int) != 8) = true := by simp; omega
    clear h3 hn h1 h2 h8
    go_enter Try.func89, Try.ntmps89
    go_wp2
    go_ret
    exact ⟨ret_vals HF.out, rfl⟩

set_option maxRecDepth 100000 in
set_option maxHeartbeats 800000 in
theorem implVals (v : Value) (zs : List Int) (B : Nat) (w : World) (hv : Ints.Sees B w v zs) :
    Calls Try.prog 114 #[v] w fun e w' => e = .returned (.bool (valsOk zs)) ∧ w = w' := by
  obtain ⟨a, cap, rfl, h1, h2, h3⟩ := hv
  have hm : (zs.length : Int) ≤ 9223372036854775807 := by unfold maxLen at h2; omega
  by_cases h8 : zs.length = 8
  · rw [h8]
    clear hm h1 h2
    go_enter Try.func114, Try.ntmps114
    go_wp2
    go_loop [10] (fun i => ∃ k : Nat, k ≤ 8 ∧ i = .int .i64 k ∧ (∀ j (h : j < zs.length), j < k → valOk zs[j] = true)) (fun i => 8 - (intOf i).toNat)
    case atStart => exact ⟨0, by omega, rfl, fun j _ h => by omega⟩
    case round =>
      obtain ⟨k, hk, rfl, hall⟩ := hrel
      by_cases hlt : k < 8
      · obtain ⟨b, off, rfl, hbB, hc⟩ := h3 (fun h => by simp [h] at h8)
        have a0 := hc k (by omega)
        obtain ⟨z, hz⟩ : ∃ z, zs[k] = z := ⟨_, rfl⟩
        rw [hz] at a0
        have HZ : Hid (zs[k] = z) := hz
        have HA : Hid (∀ j (h : j < zs.length), j < k → valOk zs[j] = true) := hall
        clear hz hc h3 hall
        by_cases q : 0 ≤ z ∧ z ≤ 65535
        · obtain ⟨q0, q1⟩ := q
          go_wp2
          go_round
          case rel => exact ⟨k + 1, by omega, by go_num, fun j hj hjk => by
            rcases Nat.lt_succ_iff_lt_or_eq.1 hjk with h | h
            · exact HA.out j hj h
            · subst h; rw [HZ.out]; exact decide_eq_true ⟨q0, q1⟩⟩
          case measure => simp [intOf]; omega
        · have HF : Hid (valsOk zs = false) := valsOk_one (j := k) (by omega) (by rw [HZ.out]; exact decide_eq_false q)
          rcases (show z < 0 ∨ (0 ≤ z ∧ 65535 < z) by omega) with q0 | ⟨q0, q1⟩
          all_goals
            try have q2 : decide (z ≤ 65535) = false := by (simp; omega)
            clear q
            go_wp2
            go_ret
            exact ⟨ret_vals HF.out, rfl⟩
      · obtain rfl : k = 8 := by omega
        have HT : Hid (valsOk zs = true) := valsOk_mk h8 fun j hj => hall j hj (by omega)
        clear hall h3
        go_wp2
        go_ret
        exact ⟨ret_vals HT.out, rfl⟩
  · have HF : Hid (valsOk zs = false) := valsOk_len h8
    obtain ⟨n, hn⟩ : ∃ n, zs.length = n := ⟨_, rfl⟩
    rw [hn] at hm h8 ⊢
    have h8' : ((n : Int) != 8) = true := by simp; omega
    clear h3 hn h1 h2 h8
    go_enter Try.func114, Try.ntmps114
    go_wp2
    go_ret
    exact ⟨ret_vals HF.out, rfl⟩


theorem vals_cells (zs : List Int) : valsOk zs = Ops.cellsOk zs := by
  unfold valsOk Ops.cellsOk
  congr 2
  funext z
  unfold valOk Ops.inn
  rw [Bool.eq_iff_iff]
  simp
theorem specCells (v : Value) (zs : List Int) (B : Nat) (w : World) (hv : Ints.Sees B w v zs) : Calls Try.prog 89 #[v] w fun e w' => e = .returned (.bool (Ops.cellsOk zs)) ∧ w = w' := by
  rw [← vals_cells]; exact specVals v zs B w hv
theorem implCells (v : Value) (zs : List Int) (B : Nat) (w : World) (hv : Ints.Sees B w v zs) : Calls Try.prog 114 #[v] w fun e w' => e = .returned (.bool (Ops.cellsOk zs)) ∧ w = w' := by
  rw [← vals_cells]; exact implVals v zs B w hv
end Ths
end Go.Proofs.Ytajbmokidcdfnaa
/- What ThingsOk answers, the program's and the specification's. -/
set_option linter.unusedVariables false
set_option linter.unusedSimpArgs false
namespace Go.Proofs.Ytajbmokidcdfnaa
open Go.RowKit
namespace Ops
open Bas

theorem th_no1 {t : Th} (h : cellsOk t.c = false) : thOk t = false := by unfold thOk; rw [h]; rfl
theorem th_no2 {t : Th} (h : ¬ t.m.length = 8) : thOk t = false := by unfold thOk mapOk; rw [decide_eq_false h]; simp
theorem th_no3 {t : Th} (h : inn 0 65535 t.n = false) : thOk t = false := by unfold thOk; rw [h]; simp
theorem th_no4 {t : Th} {j : Nat} (hj : j < t.m.length) (h : ¬ (0 ≤ t.m[j] ∧ t.m[j] ≤ 65536)) : thOk t = false := by
  unfold thOk
  have : mapOk t.m = false := by
    unfold mapOk
    rw [Bool.and_eq_false_iff]
    refine .inr (List.all_eq_false.2 ⟨t.m[j], List.getElem_mem hj, ?_⟩)
    unfold inn
    simp
    omega
  rw [this]; simp
theorem th_yes {t : Th} (h1 : cellsOk t.c = true) (h2 : t.m.length = 8) (h3 : inn 0 65535 t.n = true) (h4 : ∀ j (h : j < t.m.length), 0 ≤ t.m[j] ∧ t.m[j] ≤ 65536) : thOk t = true := by
  unfold thOk mapOk
  rw [h1, h3, decide_eq_true h2]
  have : t.m.all (inn 0 65536) = true := List.all_eq_true.2 fun x hx => by
    obtain ⟨j, hj, rfl⟩ := List.mem_iff_getElem.1 hx
    have := h4 j hj
    unfold inn
    simp
    omega
  rw [this]; rfl
theorem ret_th {t : Th} {b : Bool} (h : thOk t = b) : Ending.returned (.bool b) = .returned (.bool (thOk t)) := by rw [h]

set_option maxRecDepth 100000 in
set_option maxHeartbeats 1600000 in
theorem implThOk (vc vm : Value) (t : Th) (B : Nat) (w : World) (hv : SeeT B w vc vm t) (hB : B ≤ w.heap.size) :
    Calls Try.prog 79 #[.agg #[vc, vm, .int .i64 t.n]] w fun e w' => e = .returned (.bool (thOk t)) ∧ Below w.heap.size w w' := by
  have b0 := alloc_below w (.cells #[vc, vm, .int .i64 t.n] 49)
  have X0 := Blk.new w #[vc, vm, .int .i64 t.n] 49
  have hv0 := hv.on b0 hB
  obtain ⟨q, hq⟩ : ∃ q, w.heap.size = q := ⟨_, rfl⟩
  rw [hq] at X0 b0 ⊢
  obtain ⟨w0, hw0⟩ : ∃ w0, w.alloc (.cells #[vc, vm, .int .i64 t.n] 49) = w0 := ⟨_, rfl⟩
  rw [hw0] at X0 b0 hv0
  have x0 := X0.cell 0; have x1 := X0.cell 1; have x2 := X0.cell 2
  have cC := Ths.implCells vc t.c B w0 hv0.c
  obtain ⟨bC, hbC⟩ : ∃ b, cellsOk t.c = b := ⟨_, rfl⟩
  rw [hbC] at cC
  have HC := (show Hid _ from hbC)
  obtain ⟨ac, cc, rfl⟩ := hv0.c.form
  obtain ⟨am, cm, rfl⟩ := hv0.m.form
  have hm0 := hv0.m
  clear hbC hv hv0
  cases bC with
  | false =>
    have HF : Hid (thOk t = false) := th_no1 HC.out
    go_enter Try.func79, Try.ntmps79
    go_wp2_with (go_at_call 114; refine cC.mono ?_; rintro e w1 ⟨rfl, rfl⟩)
    go_ret
    exact ⟨ret_th HF.out, b0⟩
  | true =>
    obtain ⟨am', capm, hsl, h1, h2, h3⟩ := hm0
    simp only [Value.slice.injEq, true_and] at hsl
    obtain ⟨rfl, rfl⟩ := hsl
    have hmx : (t.m.length : Int) ≤ 9223372036854775807 := by unfold maxLen at h2; omega
    by_cases h8 : t.m.length = 8
    · have H8 : Hid (t.m.length = 8) := h8
      rw [h8] at x1 hw0 ⊢
      obtain ⟨bN, hN⟩ : ∃ b, inn 0 65535 t.n = b := ⟨_, rfl⟩
      have HN := (show Hid _ from hN)
      cases bN with
      | false =>
        have HF : Hid (thOk t = false) := th_no3 HN.out
        clear h1 h2 h3 hmx h8
        go_enter Try.func79, Try.ntmps79
        go_wp2_with (first | (go_at_call 114; refine cC.mono ?_; rintro e w1 ⟨rfl, rfl⟩) | (go_at_call 105; refine (isValueC _ _).mono ?_; rintro e w1 ⟨rfl, rfl⟩; rw [hN]))
        go_ret
        exact ⟨ret_th HF.out, b0⟩
      | true =>
        obtain ⟨b, off, hab, -, hc⟩ := h3 (fun h => by rw [h] at h8; simp at h8)
        subst hab
        clear h1 h2 h3 hmx h8
        go_enter Try.func79, Try.ntmps79
        go_wp2_with (first | (go_at_call 114; refine cC.mono ?_; rintro e w1 ⟨rfl, rfl⟩) | (go_at_call 105; refine (isValueC _ _).mono ?_; rintro e w1 ⟨rfl, rfl⟩; rw [hN]))
        clear hN
        go_loop [24] (fun i => ∃ k : Nat, k ≤ 8 ∧ i = .int .i64 k ∧ (∀ j (h : j < t.m.length), j < k → 0 ≤ t.m[j] ∧ t.m[j] ≤ 65536)) (fun i => 8 - (intOf i).toNat)
        case atStart => exact ⟨0, by omega, rfl, fun j _ h => by omega⟩
        case round =>
          obtain ⟨k, hk, rfl, hall⟩ := hrel
          by_cases hlt : k < 8
          · have a0 := hc k (by rw [H8.out]; exact hlt)
            obtain ⟨x, hx⟩ : ∃ x, t.m[k]'(by rw [H8.out]; exact hlt) = x := ⟨_, rfl⟩
            rw [hx] at a0
            have HX : Hid (t.m[k]'(by rw [H8.out]; exact hlt) = x) := hx
            have HA : Hid (∀ j (h : j < t.m.length), j < k → 0 ≤ t.m[j] ∧ t.m[j] ≤ 65536) := hall
            have i1 : (k : Int) < 8 := by omega
            clear hx hc hall
            by_cases q0 : 0 ≤ x
            · by_cases q1 : x ≤ 65536
              · have q2 : decide (x ≤ 65536) = true := decide_eq_true q1
                go_wp2
                go_round
                case rel => exact ⟨k + 1, by omega, by go_num, fun j hj hjk => by
                  rcases Nat.lt_succ_iff_lt_or_eq.1 hjk with h | h
                  · exact HA.out j hj h
                  · subst h; rw [HX.out]; exact ⟨q0, q1⟩⟩
                case measure => simp [intOf]; omega
              · have HF : Hid (thOk t = false) := th_no4 (j := k) (by rw [H8.out]; exact hlt) (fun h => q1 (by have := h.2; rw [HX.out] at this; exact this))
                have q2 : decide (x ≤ 65536) = false := decide_eq_false q1
                have q3 : 65536 < x := by omega
                go_wp2
                go_ret
                exact ⟨ret_th HF.out, b0⟩
            · have HF : Hid (thOk t = false) := th_no4 (j := k) (by rw [H8.out]; exact hlt) (fun h => q0 (by have := h.1; rw [HX.out] at this; exact this))
              have q2 : decide (0 ≤ x) = false := decide_eq_false q0
              have q3 : x < 0 := by omega
              go_wp2
              go_ret
              exact ⟨ret_th HF.out, b0⟩
          · obtain rfl : k = 8 := by omega
            have HT : Hid (thOk t = true) := th_yes HC.out H8.out HN.out fun j hj => hall j hj (by have := H8.out; omega)
            clear hall hc
            go_wp2
            go_ret
            exact ⟨ret_th HT.out, b0⟩
    · have HF : Hid (thOk t = false) := th_no2 h8
      obtain ⟨n, hn⟩ : ∃ n, t.m.length = n := ⟨_, rfl⟩
      rw [hn] at hmx h8 x1 hw0 ⊢
      have h8' : ((n : Int) != 8) = true := by simp; omega
      clear h3 hn h1 h2 h8
      go_enter Try.func79, Try.ntmps79
      go_wp2_with (go_at_call 114; refine cC.mono ?_; rintro e w1 ⟨rfl, rfl⟩)
      go_ret
      exact ⟨ret_th HF.out, b0⟩

set_option maxRecDepth 100000 in
set_option maxHeartbeats 1600000 in
theorem specThOk (vc vm : Value) (t : Th) (B : Nat) (w : World) (hv : SeeT B w vc vm t) (hB : B ≤ w.heap.size) :
    Calls Try.prog 33 #[.agg #[vc, vm, .int .i64 t.n]] w fun e w' => e = .returned (.bool (thOk t)) ∧ Below w.heap.size w w' := by
  have b0 := alloc_below w (.cells #[vc, vm, .int .i64 t.n] 49)
  have X0 := Blk.new w #[vc, vm, .int .i64 t.n] 49
  have hv0 := hv.on b0 hB
  obtain ⟨q, hq⟩ : ∃ q, w.heap.size = q := ⟨_, rfl⟩
  rw [hq] at X0 b0 ⊢
  obtain ⟨w0, hw0⟩ : ∃ w0, w.alloc (.cells #[vc, vm, .int .i64 t.n] 49) = w0 := ⟨_, rfl⟩
  rw [hw0] at X0 b0 hv0
  have x0 := X0.cell 0; have x1 := X0.cell 1; have x2 := X0.cell 2
  have cC := Ths.specCells vc t.c B w0 hv0.c
  obtain ⟨bC, hbC⟩ : ∃ b, cellsOk t.c = b := ⟨_, rfl⟩
  rw [hbC] at cC
  have HC := (show Hid _ from hbC)
  obtain ⟨ac, cc, rfl⟩ := hv0.c.form
  obtain ⟨am, cm, rfl⟩ := hv0.m.form
  have hm0 := hv0.m
  clear hbC hv hv0
  cases bC with
  | false =>
    have HF : Hid (thOk t = false) := th_no1 HC.out
    go_enter Try.func33, Try.ntmps33
    go_wp2_with (go_at_call 89; refine cC.mono ?_; rintro e w1 ⟨rfl, rfl⟩)
    go_ret
    exact ⟨ret_th HF.out, b0⟩
  | true =>
    obtain ⟨am', capm, hsl, h1, h2, h3⟩ := hm0
    simp only [Value.slice.injEq, true_and] at hsl
    obtain ⟨rfl, rfl⟩ := hsl
    have hmx : (t.m.length : Int) ≤ 9223372036854775807 := by unfold maxLen at h2; omega
    by_cases h8 : t.m.length = 8
    · have H8 : Hid (t.m.length = 8) := h8
      rw [h8] at x1 hw0 ⊢
      obtain ⟨bN, hN⟩ : ∃ b, inn 0 65535 t.n = b := ⟨_, rfl⟩
      have HN := (show Hid _ from hN)
      cases bN with
      | false =>
        have HF : Hid (thOk t = false) := th_no3 HN.out
        clear h1 h2 h3 hmx h8
        go_enter Try.func33, Try.ntmps33
        go_wp2_with (first | (go_at_call 89; refine cC.mono ?_; rintro e w1 ⟨rfl, rfl⟩) | (go_at_call 90; refine (valC _ _).mono ?_; rintro e w1 ⟨rfl, rfl⟩; rw [hN]))
        go_ret
        exact ⟨ret_th HF.out, b0⟩
      | true =>
        obtain ⟨b, off, hab, -, hc⟩ := h3 (fun h => by rw [h] at h8; simp at h8)
        subst hab
        clear h1 h2 h3 hmx h8
        go_enter Try.func33, Try.ntmps33
        go_wp2_with (first | (go_at_call 89; refine cC.mono ?_; rintro e w1 ⟨rfl, rfl⟩) | (go_at_call 90; refine (valC _ _).mono ?_; rintro e w1 ⟨rfl, rfl⟩; rw [hN]))
        clear hN
        go_loop [3] (fun i => ∃ k : Nat, k ≤ 8 ∧ i = .int .i64 k ∧ (∀ j (h : j < t.m.length), j < k → 0 ≤ t.m[j] ∧ t.m[j] ≤ 65536)) (fun i => 8 - (intOf i).toNat)
        case atStart => exact ⟨0, by omega, rfl, fun j _ h => by omega⟩
        case round =>
          obtain ⟨k, hk, rfl, hall⟩ := hrel
          by_cases hlt : k < 8
          · have a0 := hc k (by rw [H8.out]; exact hlt)
            obtain ⟨x, hx⟩ : ∃ x, t.m[k]'(by rw [H8.out]; exact hlt) = x := ⟨_, rfl⟩
            rw [hx] at a0
            have HX : Hid (t.m[k]'(by rw [H8.out]; exact hlt) = x) := hx
            have HA : Hid (∀ j (h : j < t.m.length), j < k → 0 ≤ t.m[j] ∧ t.m[j] ≤ 65536) := hall
            have i1 : (k : Int) < 8 := by omega
            clear hx hc hall
            by_cases q0 : 0 ≤ x
            · by_cases q1 : x ≤ 65536
              · have q2 : decide (x ≤ 65536) = true := decide_eq_true q1
                go_wp2
                go_round
                case rel => exact ⟨k + 1, by omega, by go_num, fun j hj hjk => by
                  rcases Nat.lt_succ_iff_lt_or_eq.1 hjk with h | h
                  · exact HA.out j hj h
                  · subst h; rw [HX.out]; exact ⟨q0, q1⟩⟩
                case measure => simp [intOf]; omega
              · have HF : Hid (thOk t = false) := th_no4 (j := k) (by rw [H8.out]; exact hlt) (fun h => q1 (by have := h.2; rw [HX.out] at this; exact this))
                have q2 : decide (x ≤ 65536) = false := decide_eq_false q1
                have q3 : 65536 < x := by omega
                go_wp2
                go_ret
                exact ⟨ret_th HF.out, b0⟩
            · have HF : Hid (thOk t = false) := th_no4 (j := k) (by rw [H8.out]; exact hlt) (fun h => q0 (by have := h.1; rw [HX.out] at this; exact this))
              have q2 : decide (0 ≤ x) = false := decide_eq_false q0
              have q3 : x < 0 := by omega
              go_wp2
              go_ret
              exact ⟨ret_th HF.out, b0⟩
          · obtain rfl : k = 8 := by omega
            have HT : Hid (thOk t = true) := th_yes HC.out H8.out HN.out fun j hj => hall j hj (by have := H8.out; omega)
            clear hall hc
            go_wp2
            go_ret
            exact ⟨ret_th HT.out, b0⟩
    · have HF : Hid (thOk t = false) := th_no2 h8
      obtain ⟨n, hn⟩ : ∃ n, t.m.length = n := ⟨_, rfl⟩
      rw [hn] at hmx h8 x1 hw0 ⊢
      have h8' : ((n : Int) != 8) = true := by simp; omega
      clear h3 hn h1 h2 h8
      go_enter Try.func33, Try.ntmps33
      go_wp2_with (go_at_call 89; refine cC.mono ?_; rintro e w1 ⟨rfl, rfl⟩)
      go_ret
      exact ⟨ret_th HF.out, b0⟩
end Ops
end Go.Proofs.Ytajbmokidcdfnaa
/- The laws' comparisons and sizes of things; the walks of FnExactThingsOk and FnExactSameThings. -/
set_option linter.unusedVariables false
set_option linter.unusedSimpArgs false
namespace Go.Proofs.Ytajbmokidcdfnaa
open Go.RowKit
namespace Ops
open Bas

set_option maxRecDepth 100000 in
set_option maxHeartbeats 1600000 in
theorem eqThC (vc vm vc' vm' : Value) (t : Th) (B : Nat) (w : World) (hv : SeeT B w vc vm t) (hv' : SeeT B w vc' vm' t) (hB : B ≤ w.heap.size) :
    Calls Try.prog 43 #[.agg #[vc, vm, .int .i64 t.n], .agg #[vc', vm', .int .i64 t.n]] w fun e w' => e = .returned (.bool true) ∧ Below w.heap.size w w' := by
  obtain ⟨q, hq⟩ : ∃ q, w.heap.size = q := ⟨_, rfl⟩
  have X0 := Blk.new w #[vc, vm, .int .i64 t.n] 49
  have b0 := alloc_below w (.cells #[vc, vm, .int .i64 t.n] 49)
  obtain ⟨w0, hw0⟩ : ∃ w0, w.alloc (.cells #[vc, vm, .int .i64 t.n] 49) = w0 := ⟨_, rfl⟩
  have hz0 : w0.heap.size = q + 1 := by rw [← hw0, ← hq]; simp
  rw [hw0] at X0 b0
  rw [hq] at X0 b0 hB ⊢
  obtain ⟨q1, hq1⟩ : ∃ q, w0.heap.size = q := ⟨_, rfl⟩
  have l01 : q < q1 := by omega
  clear hz0
  have Y1 := Blk.new w0 #[vc', vm', .int .i64 t.n] 49
  have b1 := alloc_below w0 (.cells #[vc', vm', .int .i64 t.n] 49)
  obtain ⟨w1, hw1⟩ : ∃ w1, w0.alloc (.cells #[vc', vm', .int .i64 t.n] 49) = w1 := ⟨_, rfl⟩
  rw [hw1] at Y1 b1
  rw [hq1] at Y1 b1
  have X1 := X0.on b1 (by omega)
  have bb : Below q w w1 := b0.trans (b1.mono (by omega))
  have z1 : q < w1.heap.size := X1.lt
  have x0 := X1.cell 0
  have y0 := Y1.cell 0
  have sv := hv.on bb hB
  have sv' := hv'.on bb hB
  have cA := Ints.eqIntsC vc vc' t.c B w1 sv.c sv'.c (by omega)
  have cM : ∀ w2, Below w1.heap.size w1 w2 → Calls Try.prog 42 #[vm, vm'] w2 fun e w' => e = .returned (.bool true) ∧ Below w2.heap.size w2 w' := fun w2 b2 =>
    Ints.eqIntsC vm vm' t.m B w2 (sv.m.on b2 (by omega)) (sv'.m.on b2 (by omega)) (by have := b2.size; omega)
  have X2 : ∀ w2, Below w1.heap.size w1 w2 → Blk w2 q #[vc, vm, .int .i64 t.n] 49 := fun w2 b2 => X1.on b2 X1.lt
  have Y2 : ∀ w2, Below w1.heap.size w1 w2 → Blk w2 q1 #[vc', vm', .int .i64 t.n] 49 := fun w2 b2 => Y1.on b2 Y1.lt
  obtain ⟨tn, htn⟩ : ∃ x, t.n = x := ⟨_, rfl⟩
  rw [htn] at X2 Y2 hw0 hw1 ⊢
  clear X0 X1 Y1 sv sv' hv hv' b0 b1 htn
  go_enter Try.func43, Try.ntmps43
  go_wp2_with fail
  refine cA.mono ?_
  rintro e w2 ⟨rfl, b2⟩
  have x1 := (X2 _ b2).cell 1
  have y1 := (Y2 _ b2).cell 1
  clear x0 y0 cA
  go_wp2_with fail
  refine (cM _ b2).mono ?_
  rintro e w3 ⟨rfl, b3⟩
  have z2 := b2.size
  have x2 := (X2 _ (b2.trans (b3.mono z2))).cell 2
  have y2 := (Y2 _ (b2.trans (b3.mono z2))).cell 2
  go_wp2
  go_ret
  exact ⟨rfl, (bb.trans (b2.mono (by omega))).trans (b3.mono (by omega))⟩

theorem szIntsC (a : Option Addr) (n cap : Nat) (left : Int) (w : World) (h0 : 0 ≤ left) (h1 : left ≤ 1048576) (hm : n ≤ maxLen) :
    Calls Try.prog 49 #[.slice a n cap, .int .i64 left] w fun e w' => e = .returned (.int .i64 (if (n : Int) ≤ left then left - n else -1)) ∧ w = w' := by
  have hm' : (n : Int) ≤ 9223372036854775807 := by unfold maxLen at hm; omega
  clear hm
  by_cases h : (n : Int) ≤ left
  · rw [if_pos h]
    go_enter Try.func49, Try.ntmps49
    go_wp2
    go_ret
    exact ⟨by go_num, rfl⟩
  · rw [if_neg h]
    have h' : left - (n : Int) < 0 := by omega
    go_enter Try.func49, Try.ntmps49
    go_wp2
    go_ret
    exact ⟨rfl, rfl⟩
theorem sees_room {B : Nat} {w : World} {v : Value} {zs : List Int} (h : Ints.Sees B w v zs) : zs.length ≤ maxLen := by obtain ⟨a, cap, -, h1, h2, -⟩ := h; omega
set_option maxRecDepth 100000 in
set_option maxHeartbeats 1600000 in
theorem szThC (vc vm : Value) (t : Th) (left : Int) (B : Nat) (w : World) (hv : SeeT B w vc vm t) (hB : B ≤ w.heap.size) (h0 : 0 ≤ left) (h1 : left ≤ 1048576) :
    Calls Try.prog 35 #[.agg #[vc, vm, .int .i64 t.n], .int .i64 left] w fun e w' => ∃ r, e = .returned (.int .i64 r) ∧ Left left r (FitT t) ∧ Below w.heap.size w w' := by
  have m1 := sees_room hv.c
  have m2 := sees_room hv.m
  obtain ⟨ac, cc, rfl⟩ := hv.c.form
  obtain ⟨am, cm, rfl⟩ := hv.m.form
  obtain ⟨nc, hnc⟩ : ∃ n, t.c.length = n := ⟨_, rfl⟩
  obtain ⟨nm, hnm⟩ : ∃ n, t.m.length = n := ⟨_, rfl⟩
  have HF : Hid (nc ≤ 1048576 → nm ≤ 1048576 → FitT t) := fun a b => ⟨by omega, by omega⟩
  rw [hnc] at m1 ⊢
  rw [hnm] at m2 ⊢
  obtain ⟨q, hq⟩ : ∃ q, w.heap.size = q := ⟨_, rfl⟩
  obtain ⟨tn, htn⟩ : ∃ x, t.n = x := ⟨_, rfl⟩
  rw [htn]
  have X0 := Blk.new w #[.slice ac nc cc, .slice am nm cm, .int .i64 tn] 71
  have b0 := alloc_below w (.cells #[.slice ac nc cc, .slice am nm cm, .int .i64 tn] 71)
  obtain ⟨w0, hw0⟩ : ∃ w0, w.alloc (.cells #[.slice ac nc cc, .slice am nm cm, .int .i64 tn] 71) = w0 := ⟨_, rfl⟩
  rw [hw0] at X0 b0
  rw [hq] at X0 b0 ⊢
  have x0 := X0.cell 0; have x1 := X0.cell 1
  have c1 := szIntsC ac nc cc left w0 h0 h1 m1
  clear hnc hnm htn hv
  by_cases g1 : (nc : Int) ≤ left
  · rw [if_pos g1] at c1
    have c2 := szIntsC am nm cm (left - nc) w0 (by omega) (by omega) m2
    by_cases g2 : (nm : Int) ≤ left - nc
    · rw [if_pos g2] at c2
      go_enter Try.func35, Try.ntmps35
      go_wp2_with fail
      refine c1.mono ?_
      rintro e w1 ⟨rfl, rfl⟩
      go_wp2_with fail
      refine c2.mono ?_
      rintro e w1 ⟨rfl, rfl⟩
      go_wp2
      go_ret
      exact ⟨_, rfl, .inr ⟨by omega, by omega, HF.out (by omega) (by omega)⟩, b0⟩
    · rw [if_neg g2] at c2
      go_enter Try.func35, Try.ntmps35
      go_wp2_with fail
      refine c1.mono ?_
      rintro e w1 ⟨rfl, rfl⟩
      go_wp2_with fail
      refine c2.mono ?_
      rintro e w1 ⟨rfl, rfl⟩
      go_wp2
      go_ret
      exact ⟨_, rfl, .inl (by decide), b0⟩
  · rw [if_neg g1] at c1
    go_enter Try.func35, Try.ntmps35
    go_wp2_with fail
    refine c1.mono ?_
    rintro e w1 ⟨rfl, rfl⟩
    go_wp2
    go_ret
    exact ⟨_, rfl, .inl (by decide), b0⟩

theorem undrewT {w w' : World} (h : Below w.drew.heap.size w.drew w') : Below w.heap.size w w' := ⟨h.os, h.tape, h.output, h.size, h.block⟩
theorem SeeT.drew {B : Nat} {W : World} {vc vm : Value} {t : Th} (h : SeeT B W vc vm t) : SeeT B W.drew vc vm t := ⟨h.c, h.m⟩
end Ops
end Go.Proofs.Ytajbmokidcdfnaa
/- Marks on rows of numbers, from any number on. -/
set_option linter.unusedVariables false
set_option linter.unusedSimpArgs false
namespace Go.Proofs.Ytajbmokidcdfnaa
open Go.RowKit
namespace Ints
open Bas (grownBy_trans)
def markK (k0 : Int) (i : Nat) : Int := k0 + (i : Int)
def markedK (zs : List Int) (k0 : Int) (k : Nat) : List Int := (List.range k).map (markK k0) ++ zs.drop k
def marksK (k0 : Int) (n : Nat) : List Int := (List.range n).map (markK k0)
theorem markedK_zero (zs : List Int) (k0 : Int) : markedK zs k0 0 = zs := by simp [markedK]
theorem markedK_full (zs : List Int) (k0 : Int) : markedK zs k0 zs.length = marksK k0 zs.length := by simp [markedK, marksK]
theorem markedK_length (zs : List Int) (k0 : Int) (k : Nat) (h : k ≤ zs.length) : (markedK zs k0 k).length = zs.length := by simp [markedK]; omega
theorem markedK_set (zs : List Int) (k0 : Int) (k : Nat) (h : k < zs.length) : (markedK zs k0 k).set k (markK k0 k) = markedK zs k0 (k + 1) := by
  unfold markedK
  have hl : ((List.range k).map (markK k0)).length = k := by simp
  rw [List.drop_eq_getElem_cons h, List.set_append_right _ _ (by omega), hl, Nat.sub_self, List.set_cons_zero, List.range_succ, List.map_append, List.append_assoc]
  rfl
theorem marksK_get (k0 : Int) (n k : Nat) (h : k < (marksK k0 n).length) : (marksK k0 n)[k] = markK k0 k := by simp [marksK]
theorem marksK_length (k0 : Int) (n : Nat) : (marksK k0 n).length = n := by simp [marksK]

set_option maxRecDepth 100000 in
set_option maxHeartbeats 800000 in
theorem markIntsK (v : Value) (zs : List Int) (k0 : Int) (h0 : 0 ≤ k0) (h1' : k0 ≤ 4000000000000000000) (B : Nat) (w : World) (hv : Owns B w v zs) (hlen : zs.length ≤ 1048576) :
    Calls Try.prog 45 #[v, .int .i64 k0] w fun e w' => e = .returned (.int .i64 (k0 + (zs.length : Int))) ∧ Owns B w' v (marksK k0 zs.length) ∧ w.grownBy w' v.ownBlock := by
  obtain ⟨n, hn⟩ : ∃ n, zs.length = n := ⟨_, rfl⟩
  obtain ⟨hv1, hv2⟩ := id hv
  rcases hv2 with ⟨rfl, h0⟩ | ⟨g, cap, cur, rfl, hBg, hg, hle, hm, -, -⟩
  · obtain rfl : zs = [] := List.eq_nil_of_length_eq_zero h0
    clear hn hv1 h0
    go_enter Try.func45, Try.ntmps45
    go_wp2
    go_loop [1, 5] (fun q i => q = .int .i64 k0 ∧ i = .int .i64 0) (fun _ _ => 0)
    case atStart => exact ⟨rfl, rfl⟩
    case round =>
      obtain ⟨rfl, rfl⟩ := hrel
      go_wp2
      go_ret
      exact ⟨rfl, hv, ⟨rfl, rfl, rfl, Nat.le_refl _, fun _ _ _ => rfl⟩⟩
  · unfold Owns at hv
    rw [hn] at hv hlen hle ⊢
    clear hv1 hg hm
    go_enter Try.func45, Try.ntmps45
    go_wp2
    go_loopw [1, 5] (fun q i wr => ∃ k : Nat, k ≤ n ∧ q = .int .i64 (k0 + (k : Int)) ∧ i = .int .i64 k ∧ wr.ownsRow B 3 1 (.slice (some ⟨g, 0, none⟩) n cap) n (iv (markedK zs k0 k)) ∧ w.grownBy wr (some g)) (fun _ i _ => n - (intOf i).toNat)
    case atStart => exact ⟨0, Nat.zero_le _, by simp, rfl, by rw [markedK_zero]; exact hv, ⟨rfl, rfl, rfl, Nat.le_refl _, fun _ _ _ => rfl⟩⟩
    case round =>
      obtain ⟨k, hk, rfl, rfl, hR, hgr⟩ := hrel
      by_cases hlt : k < n
      · have hpl : (markedK zs k0 k).length = n := by rw [markedK_length zs k0 k (by omega)]; exact hn
        have HP : Hid ((markedK zs k0 k).set k (markK k0 k) = markedK zs k0 (k + 1)) := markedK_set zs k0 k (by omega)
        have c0 := owns_at hR k (by omega)
        have hfz := fun j => hR.frozenAt j
        go_wp2
        have hR3 := owns_set hR k (markK k0 k)
        rw [HP.out] at hR3
        unfold markK at hR3
        have t1 := (hR.stored k (.int .i64 (k0 + (k : Int)))).2
        go_roundw
        case rel => exact ⟨k + 1, by omega, by go_num, by go_num, hR3, grownBy_trans hgr t1⟩
        case measure => simp [intOf]; omega
      · obtain rfl : k = n := by omega
        go_wp2
        go_ret
        rw [← hn, markedK_full, hn] at hR
        refine ⟨rfl, ?_, hgr⟩
        unfold Owns
        rw [marksK_length]
        exact hR

set_option maxRecDepth 100000 in
set_option maxHeartbeats 800000 in
theorem heldIntsK (v : Value) (n : Nat) (k0 : Int) (h0 : 0 ≤ k0) (h1' : k0 ≤ 1000000000) (B : Nat) (w : World) (hv : Sees B w v (marksK k0 n)) (hlen : n ≤ 1048576) :
    Calls Try.prog 67 #[v, .int .i64 k0] w fun e w' => e = .returned (.int .i64 (k0 + (n : Int))) ∧ w = w' := by
  obtain ⟨a, cap, rfl, h1, h2, h3⟩ := hv
  rw [marksK_length]
  clear h1 h2
  go_enter Try.func67, Try.ntmps67
  go_wp2
  go_loop [1, 5] (fun q i => ∃ k : Nat, k ≤ n ∧ q = .int .i64 (k0 + (k : Int)) ∧ i = .int .i64 k) (fun _ i => n - (intOf i).toNat)
  case atStart => exact ⟨0, Nat.zero_le _, by simp, rfl⟩
  case round =>
    obtain ⟨k, hk, rfl, rfl⟩ := hrel
    by_cases hlt : k < n
    · obtain ⟨b, off, rfl, hbB, hc⟩ := h3 (fun h => by have := congrArg List.length h; rw [marksK_length] at this; simp at this; omega)
      have a0 := hc k (by rw [marksK_length]; omega)
      simp only [marksK_get, markK] at a0
      clear hc h3
      go_wp2
      go_round
      case rel => exact ⟨k + 1, by omega, by go_num, by go_num⟩
      case measure => simp [intOf]; omega
    · obtain rfl : k = n := by omega
      go_wp2
      go_ret
      exact ⟨rfl, rfl⟩
end Ints
end Go.Proofs.Ytajbmokidcdfnaa
/- The laws' marks on things and on runs; comparisons of runs. -/
set_option linter.unusedVariables false
set_option linter.unusedSimpArgs false
namespace Go.Proofs.Ytajbmokidcdfnaa
open Go.RowKit
namespace Ops
open Bas

/-- from w to w' no old block has changed but those of which S holds -/
structure Chg (S : Nat → Prop) (w w' : World) : Prop where
  os : w'.os = w.os
  tape : w'.tape = w.tape
  output : w'.output = w.output
  size : w.heap.size ≤ w'.heap.size
  block : ∀ i, i < w.heap.size → ¬ S i → w'.heap[i]? = w.heap[i]?
section
variable {S S' : Nat → Prop} {w w' w'' : World}
theorem Chg.trans (h : Chg S w w') (h' : Chg S w' w'') : Chg S w w'' :=
  ⟨h'.os.trans h.os, h'.tape.trans h.tape, h'.output.trans h.output, Nat.le_trans h.size h'.size, fun i hi hn => (h'.block i (Nat.lt_of_lt_of_le hi h.size) hn).trans (h.block i hi hn)⟩
theorem Chg.mono (h : Chg S w w') (hs : ∀ i, S i → S' i) : Chg S' w w' := ⟨h.os, h.tape, h.output, h.size, fun i hi hn => h.block i hi (fun hx => hn (hs i hx))⟩
theorem Chg.of (h : Below w.heap.size w w') : Chg S w w' := ⟨h.os, h.tape, h.output, h.size, fun i hi _ => h.block i hi⟩
theorem Chg.grown {v : Value} (h : w.grownBy w' v.ownBlock) (hs : ∀ k, v.ownBlock = some k → S k) : Chg S w w' :=
  ⟨h.os, h.tape, h.output, h.size, fun i hi hn => h.block i hi (fun e => hn (hs i e.symm))⟩
theorem Chg.below {B : Nat} (h : Chg S w w') (hB : B ≤ w.heap.size) (hs : ∀ i, S i → B ≤ i) : Below B w w' :=
  ⟨h.os, h.tape, h.output, h.size, fun i hi => h.block i (by omega) (fun hx => by have := hs i hx; omega)⟩
theorem Chg.owns {B : Nat} {v : Value} {zs : List Int} (h : Chg S w w') (ho : Ints.Owns B w v zs) (hs : ∀ k, v.ownBlock = some k → ¬ S k) : Ints.Owns B w' v zs :=
  ho.keep (fun k hk => h.block k (ho.at k hk).2 (hs k hk))
end
/-- the blocks of two rows -/
def Two (a b : Value) (i : Nat) : Prop := a.ownBlock = some i ∨ b.ownBlock = some i
/-- the blocks of three rows -/
def Three (a b c : Value) (i : Nat) : Prop := a.ownBlock = some i ∨ b.ownBlock = some i ∨ c.ownBlock = some i

set_option maxRecDepth 100000 in
set_option maxHeartbeats 1600000 in
theorem markThC (vc vm : Value) (t : Th) (k : Int) (hk0 : 0 ≤ k) (hk1 : k ≤ 3000000000000000000) (B : Nat) (w : World) (hv : OwnT B w vc vm t) (hf : FitT t) :
    Calls Try.prog 46 #[.agg #[vc, vm, .int .i64 t.n], .int .i64 k] w fun e w' => e = .returned (.int .i64 (k + (t.c.length : Int) + (t.m.length : Int))) ∧ Ints.Owns B w' vc (Ints.marksK k t.c.length) ∧ Ints.Owns B w' vm (Ints.marksK (k + (t.c.length : Int)) t.m.length) ∧ Chg (Two vc vm) w w' := by
  obtain ⟨q, hq⟩ : ∃ q, w.heap.size = q := ⟨_, rfl⟩
  obtain ⟨tn, htn⟩ : ∃ x, t.n = x := ⟨_, rfl⟩
  rw [htn]
  have X0 := Blk.new w #[vc, vm, .int .i64 tn] 49
  have b0 := alloc_below w (.cells #[vc, vm, .int .i64 tn] 49)
  obtain ⟨w0, hw0⟩ : ∃ w0, w.alloc (.cells #[vc, vm, .int .i64 tn] 49) = w0 := ⟨_, rfl⟩
  rw [hw0] at X0 b0
  have oc := hv.c.on b0 (Nat.le_refl _)
  have om := hv.m.on b0 (Nat.le_refl _)
  have hqc : ∀ k, vc.ownBlock = some k → k < w.heap.size := fun k hk => (hv.c.at k hk).2
  have hqm : ∀ k, vm.ownBlock = some k → k < w.heap.size := fun k hk => (hv.m.at k hk).2
  rw [hq] at X0
  have x0 := X0.cell 0; have x1 := X0.cell 1
  have c1 := Ints.markIntsK vc t.c k hk0 (by omega) B w0 oc hf.1
  obtain ⟨nc, hnc⟩ : ∃ n, t.c.length = n := ⟨_, rfl⟩
  have hfc : nc ≤ 1048576 := by have := hf.1; omega
  rw [hnc] at c1 ⊢
  have HD := (show Hid _ from hv.d)
  clear htn hv
  go_enter Try.func46, Try.ntmps46
  go_wp2_with fail
  refine c1.mono ?_
  rintro e w1 ⟨rfl, M1, G1⟩
  have X1 : Blk w1 q #[vc, vm, .int .i64 tn] 49 := X0.grown G1 (fun e => by have := hqc q e.symm; omega)
  have om1 := om.grown G1 (fun k hk e => HD.out k e.symm hk)
  have x1' := X1.cell 1
  clear x0 x1 c1
  go_wp2_with fail
  refine (Ints.markIntsK vm t.m (k + (nc : Int)) (by omega) (by omega) B w1 om1 hf.2).mono ?_
  rintro e w2 ⟨rfl, M2, G2⟩
  have M1' := M1.grown G2 (fun k hk e => HD.out k hk e.symm)
  have hC : Chg (Two vc vm) w w2 := ((Chg.of b0).trans (Chg.grown G1 (fun k hk => .inl hk))).trans (Chg.grown G2 (fun k hk => .inr hk))
  go_wp2
  go_ret
  exact ⟨rfl, M1', M2, hC⟩
set_option maxRecDepth 100000 in
set_option maxHeartbeats 1600000 in
theorem heldThC (vc vm : Value) (nc nm : Nat) (n : Int) (k : Int) (hk0 : 0 ≤ k) (hk1 : k ≤ 500000000) (B : Nat) (w : World) (hc : Ints.Sees B w vc (Ints.marksK k nc)) (hm : Ints.Sees B w vm (Ints.marksK (k + (nc : Int)) nm)) (hB : B ≤ w.heap.size) (h1 : nc ≤ 1048576) (h2 : nm ≤ 1048576) :
    Calls Try.prog 102 #[.agg #[vc, vm, .int .i64 n], .int .i64 k] w fun e w' => e = .returned (.int .i64 (k + (nc : Int) + (nm : Int))) ∧ Below w.heap.size w w' := by
  obtain ⟨q, hq⟩ : ∃ q, w.heap.size = q := ⟨_, rfl⟩
  have X0 := Blk.new w #[vc, vm, .int .i64 n] 49
  have b0 := alloc_below w (.cells #[vc, vm, .int .i64 n] 49)
  obtain ⟨w0, hw0⟩ : ∃ w0, w.alloc (.cells #[vc, vm, .int .i64 n] 49) = w0 := ⟨_, rfl⟩
  rw [hw0] at X0 b0
  have c1 := Ints.heldIntsK vc nc k hk0 (by omega) B w0 (hc.on b0 hB) h1
  have c2 := Ints.heldIntsK vm nm (k + (nc : Int)) (by omega) (by omega) B w0 (hm.on b0 hB) h2
  rw [hq] at X0 b0 ⊢
  have x0 := X0.cell 0; have x1 := X0.cell 1
  have p1 : ¬ (k + (nc : Int) < 0) := by omega
  have p2 : ¬ (k + (nc : Int) + (nm : Int) < 0) := by omega
  go_enter Try.func102, Try.ntmps102
  go_wp2_with fail
  refine c1.mono ?_
  rintro e w1 ⟨rfl, rfl⟩
  go_wp2_with fail
  refine c2.mono ?_
  rintro e w1 ⟨rfl, rfl⟩
  go_wp2
  go_ret
  exact ⟨rfl, b0⟩
end Ops
end Go.Proofs.Ytajbmokidcdfnaa
/- The laws' comparisons and marks of runs. -/
set_option linter.unusedVariables false
set_option linter.unusedSimpArgs false
namespace Go.Proofs.Ytajbmokidcdfnaa
open Go.RowKit
namespace Ops
open Bas

set_option maxRecDepth 100000 in
set_option maxHeartbeats 3200000 in
theorem eqRunC (o : Int) (vr vc vm vr' vc' vm' : Value) (r : List Int) (t : Th) (B : Nat) (w : World) (hr : Ints.Sees B w vr r) (hr' : Ints.Sees B w vr' r) (hv : SeeT B w vc vm t) (hv' : SeeT B w vc' vm' t) (hB : B ≤ w.heap.size) :
    Calls Try.prog 40 #[.agg #[.int .i64 o, vr, vc, vm, .int .i64 t.n], .agg #[.int .i64 o, vr', vc', vm', .int .i64 t.n]] w fun e w' => e = .returned (.bool true) ∧ Below w.heap.size w w' := by
  obtain ⟨q, hq⟩ : ∃ q, w.heap.size = q := ⟨_, rfl⟩
  have X0 := Blk.new w #[.int .i64 o, vr, vc, vm, .int .i64 t.n] 57
  have b0 := alloc_below w (.cells #[.int .i64 o, vr, vc, vm, .int .i64 t.n] 57)
  obtain ⟨w0, hw0⟩ : ∃ w0, w.alloc (.cells #[.int .i64 o, vr, vc, vm, .int .i64 t.n] 57) = w0 := ⟨_, rfl⟩
  have hz0 : w0.heap.size = q + 1 := by rw [← hw0, ← hq]; simp
  rw [hw0] at X0 b0
  rw [hq] at X0 b0 hB ⊢
  obtain ⟨q1, hq1⟩ : ∃ q, w0.heap.size = q := ⟨_, rfl⟩
  have l01 : q < q1 := by omega
  clear hz0
  have Y1 := Blk.new w0 #[.int .i64 o, vr', vc', vm', .int .i64 t.n] 57
  have b1 := alloc_below w0 (.cells #[.int .i64 o, vr', vc', vm', .int .i64 t.n] 57)
  obtain ⟨w1, hw1⟩ : ∃ w1, w0.alloc (.cells #[.int .i64 o, vr', vc', vm', .int .i64 t.n] 57) = w1 := ⟨_, rfl⟩
  rw [hw1] at Y1 b1
  rw [hq1] at Y1 b1
  have X1 := X0.on b1 (by omega)
  have bb : Below q w w1 := b0.trans (b1.mono (by omega))
  have z1 : q < w1.heap.size := X1.lt
  have x0 := X1.cell 0; have x1 := X1.cell 1
  have y0 := Y1.cell 0; have y1 := Y1.cell 1
  have cA := Ints.eqIntsC vr vr' r B w1 (hr.on bb hB) (hr'.on bb hB) (by omega)
  have cM : ∀ w2, Below w1.heap.size w1 w2 → Calls Try.prog 43 #[.agg #[vc, vm, .int .i64 t.n], .agg #[vc', vm', .int .i64 t.n]] w2 fun e w' => e = .returned (.bool true) ∧ Below w2.heap.size w2 w' := fun w2 b2 =>
    eqThC vc vm vc' vm' t B w2 ((hv.on bb hB).on b2 (by omega)) ((hv'.on bb hB).on b2 (by omega)) (by have := b2.size; omega)
  have X2 : ∀ w2, Below w1.heap.size w1 w2 → Blk w2 q #[.int .i64 o, vr, vc, vm, .int .i64 t.n] 57 := fun w2 b2 => X1.on b2 X1.lt
  have Y2 : ∀ w2, Below w1.heap.size w1 w2 → Blk w2 q1 #[.int .i64 o, vr', vc', vm', .int .i64 t.n] 57 := fun w2 b2 => Y1.on b2 Y1.lt
  obtain ⟨tn, htn⟩ : ∃ x, t.n = x := ⟨_, rfl⟩
  rw [htn] at X2 Y2 hw0 hw1 cM ⊢
  clear X0 X1 Y1 hv hv' b0 b1 htn
  go_enter Try.func40, Try.ntmps40
  go_wp2_with fail
  refine cA.mono ?_
  rintro e w2 ⟨rfl, b2⟩
  have k2 := (X2 _ b2).cell 2; have k3 := (X2 _ b2).cell 3; have k4 := (X2 _ b2).cell 4
  have j2 := (Y2 _ b2).cell 2; have j3 := (Y2 _ b2).cell 3; have j4 := (Y2 _ b2).cell 4
  clear x0 x1 y0 y1 cA
  go_wp2_with fail
  refine (cM _ b2).mono ?_
  rintro e w3 ⟨rfl, b3⟩
  have z2 := b2.size
  go_wp2
  go_ret
  exact ⟨rfl, (bb.trans (b2.mono (by omega))).trans (b3.mono (by omega))⟩
set_option maxRecDepth 100000 in
set_option maxHeartbeats 3200000 in
theorem markRunC (o : Int) (vr vc vm : Value) (r : List Int) (t : Th) (k : Int) (hk0 : 0 ≤ k) (hk1 : k ≤ 400000000) (B : Nat) (w : World) (hr : Ints.Owns B w vr r) (hv : OwnT B w vc vm t) (h1 : Dj vr vc) (h2 : Dj vr vm) (hl : r.length ≤ 1048576) (hf : FitT t) :
    Calls Try.prog 47 #[.agg #[.int .i64 o, vr, vc, vm, .int .i64 t.n], .int .i64 k] w fun e w' => e = .returned (.int .i64 (k + (r.length : Int) + (t.c.length : Int) + (t.m.length : Int))) ∧ Ints.Owns B w' vr (Ints.marksK k r.length) ∧
      Ints.Owns B w' vc (Ints.marksK (k + (r.length : Int)) t.c.length) ∧ Ints.Owns B w' vm (Ints.marksK (k + (r.length : Int) + (t.c.length : Int)) t.m.length) ∧ Chg (Three vr vc vm) w w' := by
  obtain ⟨q, hq⟩ : ∃ q, w.heap.size = q := ⟨_, rfl⟩
  obtain ⟨tn, htn⟩ : ∃ x, t.n = x := ⟨_, rfl⟩
  have X0 := Blk.new w #[.int .i64 o, vr, vc, vm, .int .i64 tn] 57
  have b0 := alloc_below w (.cells #[.int .i64 o, vr, vc, vm, .int .i64 tn] 57)
  obtain ⟨w0, hw0⟩ : ∃ w0, w.alloc (.cells #[.int .i64 o, vr, vc, vm, .int .i64 tn] 57) = w0 := ⟨_, rfl⟩
  rw [hw0] at X0 b0
  have or_ := hr.on b0 (Nat.le_refl _)
  have ot := hv.on b0
  have hqr : ∀ k, vr.ownBlock = some k → k < w.heap.size := fun k hk => (hr.at k hk).2
  rw [hq] at X0
  have x1 := X0.cell 1
  have c1 := Ints.markIntsK vr r k hk0 (by omega) B w0 or_ hl
  obtain ⟨nr, hnr⟩ : ∃ n, r.length = n := ⟨_, rfl⟩
  have hfr : nr ≤ 1048576 := by omega
  rw [hnr] at c1 ⊢
  have H1 := (show Hid _ from h1)
  have H2 := (show Hid _ from h2)
  have cT : ∀ w1, OwnT B w1 vc vm t → Calls Try.prog 46 #[.agg #[vc, vm, .int .i64 tn], .int .i64 (k + (nr : Int))] w1 fun e w' => e = .returned (.int .i64 (k + (nr : Int) + (t.c.length : Int) + (t.m.length : Int))) ∧ Ints.Owns B w' vc (Ints.marksK (k + (nr : Int)) t.c.length) ∧ Ints.Owns B w' vm (Ints.marksK (k + (nr : Int) + (t.c.length : Int)) t.m.length) ∧ Chg (Two vc vm) w1 w' := fun w1 h => by
    have := markThC vc vm t (k + (nr : Int)) (by omega) (by omega) B w1 h hf
    rw [htn] at this; exact this
  rw [htn]
  clear htn hv hr hnr h1 h2
  go_enter Try.func47, Try.ntmps47
  go_wp2_with fail
  refine c1.mono ?_
  rintro e w1 ⟨rfl, M1, G1⟩
  have X1 : Blk w1 q #[.int .i64 o, vr, vc, vm, .int .i64 tn] 57 := X0.grown G1 (fun e => by have := hqr q e.symm; omega)
  have oc1 := ot.c.grown G1 (fun k hk e => H1.out k e.symm hk)
  have om1 := ot.m.grown G1 (fun k hk e => H2.out k e.symm hk)
  have y2 := X1.cell 2; have y3 := X1.cell 3; have y4 := X1.cell 4
  clear x1 c1
  go_wp2_with fail
  refine (cT w1 ⟨oc1, om1, ot.d⟩).mono ?_
  rintro e w2 ⟨rfl, M2, M3, C2⟩
  have M1' := C2.owns M1 (fun k hk hx => by rcases hx with hx | hx <;> first | exact H1.out k hk hx | exact H2.out k hk hx)
  have hC : Chg (Three vr vc vm) w w2 := ((Chg.of b0).trans (Chg.grown G1 (fun k hk => .inl hk))).trans (C2.mono (fun i hi => .inr hi))
  go_wp2
  go_ret
  exact ⟨rfl, M1', M2, M3, hC⟩
set_option maxRecDepth 100000 in
set_option maxHeartbeats 3200000 in
theorem heldRunC (o : Int) (vr vc vm : Value) (n : Int) (nr nc nm : Nat) (k : Int) (hk0 : 0 ≤ k) (hk1 : k ≤ 400000000) (B : Nat) (w : World) (hr : Ints.Sees B w vr (Ints.marksK k nr)) (hc : Ints.Sees B w vc (Ints.marksK (k + (nr : Int)) nc)) (hm : Ints.Sees B w vm (Ints.marksK (k + (nr : Int) + (nc : Int)) nm)) (hB : B ≤ w.heap.size) (h1 : nr ≤ 1048576) (h2 : nc ≤ 1048576) (h3 : nm ≤ 1048576) :
    Calls Try.prog 48 #[.agg #[.int .i64 o, vr, vc, vm, .int .i64 n], .int .i64 k] w fun e w' => e = .returned (.int .i64 (k + (nr : Int) + (nc : Int) + (nm : Int))) ∧ Below w.heap.size w w' := by
  obtain ⟨q, hq⟩ : ∃ q, w.heap.size = q := ⟨_, rfl⟩
  have X0 := Blk.new w #[.int .i64 o, vr, vc, vm, .int .i64 n] 57
  have b0 := alloc_below w (.cells #[.int .i64 o, vr, vc, vm, .int .i64 n] 57)
  obtain ⟨w0, hw0⟩ : ∃ w0, w.alloc (.cells #[.int .i64 o, vr, vc, vm, .int .i64 n] 57) = w0 := ⟨_, rfl⟩
  rw [hw0] at X0 b0
  have c1 := Ints.heldIntsK vr nr k hk0 (by omega) B w0 (hr.on b0 hB) h1
  have c2 := heldThC vc vm nc nm n (k + (nr : Int)) (by omega) (by omega) B w0 (hc.on b0 hB) (hm.on b0 hB) (Nat.le_trans hB b0.size) h2 h3
  have s0 := b0.size
  rw [hq] at X0 b0 s0 ⊢
  have x1 := X0.cell 1; have x2 := X0.cell 2; have x3 := X0.cell 3; have x4 := X0.cell 4
  have p1 : ¬ (k + (nr : Int) < 0) := by omega
  have p2 : ¬ (k + (nr : Int) + (nc : Int) + (nm : Int) < 0) := by omega
  go_enter Try.func48, Try.ntmps48
  go_wp2_with fail
  refine c1.mono ?_
  rintro e w1 ⟨rfl, rfl⟩
  go_wp2_with fail
  refine c2.mono ?_
  rintro e w1 ⟨rfl, b1⟩
  go_wp2
  go_ret
  exact ⟨rfl, b0.trans (b1.mono s0)⟩
end Ops
end Go.Proofs.Ytajbmokidcdfnaa
/- What stays true of the machine, step by step, in right code. -/
set_option linter.unusedVariables false
set_option linter.unusedSimpArgs false
namespace Go.Proofs.Ytajbmokidcdfnaa
namespace Ops

theorem code_four {xs : List O4} (h : codeOk xs = true) : xs.length ≤ 24 ∧ xs.all okOp = true ∧ closedGo xs 0 = true ∧ skipsGo xs xs 0 = true := by
  rw [codeOk_split] at h
  simp only [Bool.and_eq_true, decide_eq_true_eq] at h
  exact ⟨h.1, h.2.1, h.2.2.1, h.2.2.2.1⟩
theorem code_at {xs : List O4} (h : codeOk xs = true) {i : Nat} (hi : i < xs.length) : okOp xs[i] = true := List.all_eq_true.1 (code_four h).2.1 _ (List.getElem_mem hi)
theorem skips_at {xs : List O4} (h : skipsGo xs xs 0 = true) : ∀ k, k ≤ xs.length → skipsGo xs (xs.drop k) k = true
  | 0, _ => by rw [List.drop_zero]; exact h
  | k + 1, hk => by
    have := skips_at h k (by omega)
    rw [skipsGo_step (by omega), Bool.and_eq_true] at this
    exact this.2
theorem skip_right {xs : List O4} (h : codeOk xs = true) {i : Nat} (hi : i < xs.length) (h7 : xs[i].k = 7) : skipOk xs i = true := by
  have := skips_at (code_four h).2.2.2 i (by omega)
  rw [skipsGo_step hi, Bool.and_eq_true] at this
  have h1 := this.1
  rw [h7] at h1
  simpa using h1
/-- a skip goes on in the block in which it stands -/
theorem skip_stack {xs : List O4} (h : codeOk xs = true) {i : Nat} (hi : i < xs.length) (h7 : xs[i].k = 7) : i + 1 + xs[i].b.toNat ≤ xs.length ∧ 0 ≤ xs[i].b ∧ stAt xs (i + 1 + xs[i].b.toNat) = stAt xs i := by
  have hs := skip_right h hi h7
  have hg : xs.getD i z4 = xs[i] := by simp [List.getD, hi]
  have hb : 0 ≤ xs[i].b := by
    have := code_at h hi
    unfold okOp opOk at this
    rw [h7] at this
    simp only [spans, Int.reduceEq, if_true, if_false, reduceIte, Bool.and_eq_true, or_self, or_false, false_or] at this
    have h2 := this.1.2
    unfold inn at h2
    simp at h2
    omega
  unfold skipOk at hs
  rw [hg, Bool.and_eq_true, decide_eq_true_eq] at hs
  have hl : i + 1 + xs[i].b.toNat ≤ xs.length := by omega
  refine ⟨hl, hb, ?_⟩
  have hst := stAt_succ hi
  rw [step0 (by omega) (by omega)] at hst
  obtain ⟨h1, -⟩ := closed_at (code_four h).2.2.1 i (by omega)
  obtain ⟨-, h2⟩ := st_sorted xs i
  match hS : stAt xs i, h1 with
  | b :: r, _ =>
    have hbl : b < ((i + 1 : Nat) : Int) := by have := h2 b (by rw [hS]; simp); omega
    rw [hS] at hst
    exact (skip_walk (code_four h).2.2.1 (b := b) (r := r) xs[i].b.toNat (i + 1) [] 0 hst rfl hl hbl).1 hs.2
/-- behind the end of a block the stack is what it was ahead of it; and the end of an open block is still to come -/
theorem block_end {xs : List O4} (h : codeOk xs = true) {b : Nat} (hb : b < xs.length) (h8 : xs[b].k = 8) : ∃ e : Nat, endOf xs b = (e : Int) ∧ e < xs.length ∧ stAt xs (e + 1) = stAt xs b ∧ ∀ k (rest : List Int), stAt xs k = (b : Int) :: rest → k ≤ e := by
  obtain ⟨e, he, h1, h2, -⟩ := shapes8 h hb h8
  have hg : xs.getD b z4 = xs[b] := by simp [List.getD, hb]
  have hgo : endGo (xs.drop (b + 1)) 1 (b + 1) = (e : Int) := by
    have h0 : endOf xs b = endGo (xs.drop b) 0 b := by
      unfold endOf
      rw [Int.toNat_natCast, if_pos ⟨by omega, by omega, by rw [hg]; exact h8⟩]
    rw [h0, endGo_step hb, delta8 h8, if_neg (by omega)] at he
    exact he
  have hst := stAt_succ hb
  rw [step8 h8] at hst
  have hs := end_stack (r := stAt xs b) (xs.length - (b + 1)) (b + 1) [(b : Int)] 1 e (by omega) hst rfl (by omega) hgo
  refine ⟨e, he, h2, hs, fun k rest hk => ?_⟩
  rcases Nat.lt_or_ge e k with hlt | hge
  · exfalso
    have hn : (b : Int) ∉ stAt xs (e + 1) := by
      rw [hs]
      intro hm
      have := (st_sorted xs b).2 _ hm
      omega
    have := gone (xs := xs) (b := (b : Int)) (k - (e + 1)) (e + 1) (by omega) hn
    rw [show e + 1 + (k - (e + 1)) = k by omega, hk] at this
    simp at this
  · exact hge

/-- what holds of the machine wherever it is -/
structure CfOk (xs : List O4) (s : Cf) : Prop where
  pc : s.pc ≤ xs.length
  r : regsOk s.r = true
  t : thOk s.t = true
  k : ∀ m ∈ s.k, regsOk m.r = true ∧ thOk m.t = true ∧ m.pc < xs.length ∧ (xs.getD m.pc z4).k = 8
  st : stAt xs s.pc = s.k.map (fun m => (m.pc : Int)) ++ [-1]
theorem CfOk.start {xs : List O4} {r : List Int} {t : Th} (hr : regsOk r = true) (ht : thOk t = true) : CfOk xs ⟨0, r, t, []⟩ :=
  { pc := Nat.zero_le _, r := hr, t := ht, k := fun m hm => by simp at hm, st := rfl }
def ForkOk (F : List Int → Th → List Int × Th) : Prop := ∀ r t, regsOk r = true → thOk t = true → regsOk (F r t).1 = true ∧ thOk (F r t).2 = true
section
variable {xs : List O4} {t0 : Th} {F : List Int → Th → List Int × Th} {s : Cf}
theorem xs_at {xs : List O4} {i : Nat} (hi : i < xs.length) : xs.getD i z4 = xs[i] := by simp [List.getD, hi]
theorem step_begin (h : CfOk xs s) (hp : s.pc < xs.length) (h8 : xs[s.pc].k = 8) : step xs t0 F s = .inl ⟨s.pc + 1, s.r, s.t, ⟨s.pc, s.r, s.t⟩ :: s.k⟩ ∧ CfOk xs ⟨s.pc + 1, s.r, s.t, ⟨s.pc, s.r, s.t⟩ :: s.k⟩ := by
  have hg := xs_at hp
  refine ⟨by unfold step; rw [hg, if_pos h8], { pc := hp, r := h.r, t := h.t, k := fun m hm => ?_, st := ?_ }⟩
  · rcases List.mem_cons.1 hm with rfl | hm
    · exact ⟨h.r, h.t, hp, by rw [hg]; exact h8⟩
    · exact h.k m hm
  · show stAt xs (s.pc + 1) = _
    rw [stAt_succ hp, step8 h8, h.st]; rfl
theorem step_end (hc : codeOk xs = true) (h : CfOk xs s) (hp : s.pc < xs.length) (h9 : xs[s.pc].k = 9) : ∃ m k, s.k = m :: k ∧ step xs t0 F s = .inl ⟨s.pc + 1, wr s.r (xs.getD m.pc z4).a 1, s.t, k⟩ ∧ CfOk xs ⟨s.pc + 1, wr s.r (xs.getD m.pc z4).a 1, s.t, k⟩ := by
  have hg := xs_at hp
  have hst := stAt_succ hp
  rw [step9 h9, h.st] at hst
  have h1 := (closed_at (code_four hc).2.2.1 (s.pc + 1) (by omega)).1
  match hk : s.k with
  | [] => rw [hk] at hst; rw [hst] at h1; simp at h1
  | m :: k =>
    refine ⟨m, k, rfl, by unfold step; rw [hg, if_neg (by omega), if_pos h9, hk], { pc := hp, r := regs_wr h.r _ (by omega), t := h.t, k := fun q hq => h.k q (by rw [hk]; simp [hq]), st := ?_ }⟩
    show stAt xs (s.pc + 1) = _
    rw [hst, hk]; rfl
theorem step_give (h : CfOk xs s) (hp : s.pc < xs.length) (h10 : xs[s.pc].k = 10) (hk : s.k = []) : step xs t0 F s = .inr ⟨2, s.r, t0⟩ := by
  unfold step
  rw [xs_at hp, if_neg (by omega), if_neg (by omega), if_pos h10, hk]
theorem step_abort (hc : codeOk xs = true) (h : CfOk xs s) (hp : s.pc < xs.length) (h10 : xs[s.pc].k = 10) {m : Mk} {k : List Mk} (hk : s.k = m :: k) :
    ∃ e : Nat, endOf xs m.pc = (e : Int) ∧ s.pc ≤ e ∧ e < xs.length ∧ step xs t0 F s = .inl ⟨e + 1, wr m.r (xs.getD m.pc z4).a 0, m.t, k⟩ ∧ CfOk xs ⟨e + 1, wr m.r (xs.getD m.pc z4).a 0, m.t, k⟩ := by
  obtain ⟨a1, a2, a3, a4⟩ := h.k m (by rw [hk]; simp)
  rw [xs_at a3] at a4
  obtain ⟨e, e1, e2, e3, e4⟩ := block_end hc a3 a4
  have hst := h.st
  rw [hk, List.map_cons, List.cons_append] at hst
  have hrest := stack_below s.pc [] hst
  refine ⟨e, e1, e4 _ _ hst, e2, by unfold step; rw [xs_at hp, if_neg (by omega), if_neg (by omega), if_pos h10, hk]; simp only [e1, Int.toNat_natCast], { pc := e2, r := regs_wr a1 _ (by omega), t := a2, k := fun q hq => h.k q (by rw [hk]; simp [hq]), st := ?_ }⟩
  show stAt xs (e + 1) = _
  rw [e3, ← hrest]
theorem step_fork (hF : ForkOk F) (h : CfOk xs s) (hp : s.pc < xs.length) (h11 : xs[s.pc].k = 11) : step xs t0 F s = .inl ⟨s.pc + 1, (F s.r s.t).1, (F s.r s.t).2, s.k⟩ ∧ CfOk xs ⟨s.pc + 1, (F s.r s.t).1, (F s.r s.t).2, s.k⟩ := by
  obtain ⟨f1, f2⟩ := hF s.r s.t h.r h.t
  refine ⟨by unfold step; rw [xs_at hp, if_neg (by omega), if_neg (by omega), if_neg (by omega), if_pos h11], { pc := hp, r := f1, t := f2, k := h.k, st := ?_ }⟩
  show stAt xs (s.pc + 1) = _
  rw [stAt_succ hp, step0 (by omega) (by omega)]; exact h.st
theorem step_plain (hc : codeOk xs = true) (h : CfOk xs s) (hp : s.pc < xs.length) (h8 : ¬ xs[s.pc].k = 8) (h9 : ¬ xs[s.pc].k = 9) (h10 : ¬ xs[s.pc].k = 10) (h11 : ¬ xs[s.pc].k = 11) :
    step xs t0 F s = .inl ⟨nextPc xs[s.pc] s.r s.pc, plainR xs[s.pc] s.r s.t, plainT xs[s.pc] s.r s.t, s.k⟩ ∧ CfOk xs ⟨nextPc xs[s.pc] s.r s.pc, plainR xs[s.pc] s.r s.t, plainT xs[s.pc] s.r s.t, s.k⟩ ∧ s.pc < nextPc xs[s.pc] s.r s.pc := by
  have ho := code_at hc hp
  have key : nextPc xs[s.pc] s.r s.pc ≤ xs.length ∧ stAt xs (nextPc xs[s.pc] s.r s.pc) = stAt xs s.pc ∧ s.pc < nextPc xs[s.pc] s.r s.pc := by
    unfold nextPc
    split
    · rename_i h7
      obtain ⟨a, b, c⟩ := skip_stack hc hp h7.1
      exact ⟨a, c, by omega⟩
    · exact ⟨hp, by rw [stAt_succ hp, step0 h8 h9], by omega⟩
  refine ⟨by unfold step; rw [xs_at hp, if_neg h8, if_neg h9, if_neg h10, if_neg h11], { pc := key.1, r := plainR_ok ho h.r h.t, t := plainT_ok h.r h.t, k := h.k, st := ?_ }, key.2.2⟩
  show stAt xs (nextPc xs[s.pc] s.r s.pc) = _
  rw [key.2.1]; exact h.st
end
end Ops
end Go.Proofs.Ytajbmokidcdfnaa
/- Pieces of right code: from one place to another in one block; how a block's body leads to its end or to a place that gives up. -/
set_option linter.unusedVariables false
set_option linter.unusedSimpArgs false
namespace Go.Proofs.Ytajbmokidcdfnaa
namespace Ops

/-- between the beginning of a block and its end the block stays open -/
theorem inside {xs : List O4} {r : List Int} : ∀ (n k : Nat) (ex : List Int) (d : Int) (e : Nat), k + n = xs.length → stAt xs k = ex ++ r → (ex.length : Int) = d → 1 ≤ d → endGo (xs.drop k) d k = (e : Int) → ∀ j, k ≤ j → j ≤ e → ∃ ex', ex' ≠ [] ∧ stAt xs j = ex' ++ r
  | 0, k, ex, d, e, hk, hs, hd, h1, he => by
    rw [List.drop_of_length_le (by omega)] at he
    simp [endGo] at he
  | n + 1, k, ex, d, e, hk, hs, hd, h1, he => by
    intro j hkj hje
    have hlt : k < xs.length := by omega
    have hst := stAt_succ hlt
    have hex : ex ≠ [] := fun h => by rw [h] at hd; simp at hd; omega
    rcases Nat.eq_or_lt_of_le hkj with rfl | hlt2
    · exact ⟨ex, hex, hs⟩
    rw [endGo_step hlt] at he
    by_cases h8 : xs[k].k = 8
    · rw [delta8 h8, if_neg (by omega)] at he
      rw [step8 h8, hs] at hst
      exact inside n (k + 1) ((k : Int) :: ex) (d + 1) e (by omega) hst (by simp; omega) (by omega) he j (by omega) hje
    · by_cases h9 : xs[k].k = 9
      · rw [delta9 h9] at he
        rw [step9 h9, hs] at hst
        rcases ex with _ | ⟨x, ex⟩
        · simp at hd; omega
        · rw [List.cons_append, List.tail_cons] at hst
          by_cases hz : d + -1 = 0
          · rw [if_pos hz] at he
            omega
          · rw [if_neg hz] at he
            exact inside n (k + 1) ex (d + -1) e (by omega) hst (by simp at hd; omega) (by omega) he j (by omega) hje
      · rw [delta0 h8 h9, Int.add_zero, if_neg (by omega)] at he
        rw [step0 h8 h9, hs] at hst
        exact inside n (k + 1) ex d e (by omega) hst hd h1 he j (by omega) hje

/-- a piece of code, in one block -/
structure Seg (xs : List O4) (fr to : Nat) : Prop where
  le : fr ≤ to
  len : to ≤ xs.length
  cap : ∀ k, k ≤ xs.length → stAt xs k = stAt xs fr → k ≤ to
  noEnd : ∀ k (h : k < xs.length), k < to → stAt xs k = stAt xs fr → ¬ xs[k].k = 9
theorem Seg.whole {xs : List O4} (hc : codeOk xs = true) : Seg xs 0 xs.length :=
  { le := Nat.zero_le _, len := Nat.le_refl _, cap := fun k h _ => h, noEnd := fun k h _ hs h9 => by
      have hst := stAt_succ h
      have h0 : stAt xs 0 = [-1] := rfl
      rw [step9 h9, hs, h0, List.tail_cons] at hst
      have := (closed_at (code_four hc).2.2.1 (k + 1) (by omega)).1
      rw [hst] at this
      simp at this }
/-- the body of a block -/
theorem Seg.body {xs : List O4} (hc : codeOk xs = true) {b : Nat} (hb : b < xs.length) (h8 : xs[b].k = 8) : ∃ e : Nat, endOf xs b = (e : Int) ∧ Seg xs (b + 1) e ∧ (∃ h : e < xs.length, xs[e].k = 9) ∧ stAt xs (e + 1) = stAt xs b := by
  obtain ⟨e, he, h1, h2, h3, -⟩ := shapes8 hc hb h8
  obtain ⟨e', he', -, hs, hcap⟩ := block_end hc hb h8
  have hee : e' = e := by omega
  subst hee
  have hg := xs_at hb
  have hgo : endGo (xs.drop (b + 1)) 1 (b + 1) = (e' : Int) := by
    have h0 : endOf xs b = endGo (xs.drop b) 0 b := by
      unfold endOf
      rw [Int.toNat_natCast, if_pos ⟨by omega, by omega, by rw [hg]; exact h8⟩]
    rw [h0, endGo_step hb, delta8 h8, if_neg (by omega)] at he
    exact he
  have hst := stAt_succ hb
  rw [step8 h8] at hst
  have hin := inside (r := stAt xs b) (xs.length - (b + 1)) (b + 1) [(b : Int)] 1 e' (by omega) hst rfl (by omega) hgo
  refine ⟨e', he, { le := h1, len := by omega, cap := fun k _ hk => hcap k (stAt xs b) (hk.trans hst), noEnd := fun k hk hke hks h9 => ?_ }, ⟨h2, h3 h2⟩, hs⟩
  have hst2 := stAt_succ hk
  rw [step9 h9, hks, hst, List.tail_cons] at hst2
  by_cases hkb : b + 1 ≤ k + 1
  · obtain ⟨ex, hex, h⟩ := hin (k + 1) hkb hke
    rw [hst2] at h
    have := congrArg List.length h
    rw [List.length_append] at this
    have : 0 < ex.length := List.length_pos_iff.2 hex
    omega
  · have hk2 : k < b := by omega
    have := (st_sorted xs k).2 (b : Int) (by rw [hks, hst]; simp)
    omega
/-- how a piece of code ends: at its end, or at a place that gives up -/
def SegEnds (xs : List O4) (t0 : Th) (F : List Int → Th → List Int × Th) (s : Cf) (to : Nat) (b : Bool) (r : List Int) (t : Th) : Prop :=
  (b = true ∧ Leads xs t0 F s ⟨to, r, t, s.k⟩ ∧ CfOk xs ⟨to, r, t, s.k⟩) ∨
  (b = false ∧ ∃ (p : Nat) (hp : p < xs.length), xs[p].k = 10 ∧ Leads xs t0 F s ⟨p, r, t, s.k⟩ ∧ CfOk xs ⟨p, r, t, s.k⟩)
section
variable {xs : List O4} {t0 : Th} {F : List Int → Th → List Int × Th} {s s' : Cf} {to : Nat} {b : Bool} {r : List Int} {t : Th}
theorem SegEnds.done (hl : Leads xs t0 F s ⟨to, r, t, s.k⟩) (ok : CfOk xs ⟨to, r, t, s.k⟩) : SegEnds xs t0 F s to true r t := .inl ⟨rfl, hl, ok⟩
theorem SegEnds.gave {p : Nat} (hp : p < xs.length) (h10 : xs[p].k = 10) (hl : Leads xs t0 F s ⟨p, r, t, s.k⟩) (ok : CfOk xs ⟨p, r, t, s.k⟩) : SegEnds xs t0 F s to false r t := .inr ⟨rfl, p, hp, h10, hl, ok⟩
theorem SegEnds.ok (h : SegEnds xs t0 F s to b r t) : regsOk r = true ∧ thOk t = true := by
  rcases h with ⟨-, -, ok⟩ | ⟨-, p, hp, -, -, ok⟩ <;> exact ⟨ok.r, ok.t⟩
theorem SegEnds.from (h : SegEnds xs t0 F s' to b r t) (hl : Leads xs t0 F s s') (hk : s'.k = s.k) : SegEnds xs t0 F s to b r t := by
  rcases h with ⟨rfl, h1, ok⟩ | ⟨rfl, p, hp, h10, h1, ok⟩
  · rw [hk] at h1 ok; exact .done (hl.trans h1) ok
  · rw [hk] at h1 ok; exact .gave hp h10 (hl.trans h1) ok
/-- a whole block: the body's end, and where the machine goes on behind it -/
theorem block_over (hc : codeOk xs = true) (hs : CfOk xs s) (hp : s.pc < xs.length) (h8 : xs[s.pc].k = 8) {e : Nat} (he : endOf xs s.pc = (e : Int)) (hbd : SegEnds xs t0 F ⟨s.pc + 1, s.r, s.t, ⟨s.pc, s.r, s.t⟩ :: s.k⟩ e b r t)
    (h9 : ∃ h : e < xs.length, xs[e].k = 9) :
    Leads xs t0 F s ⟨e + 1, wr (if b then r else s.r) (xs[s.pc]).a (if b then 1 else 0), if b then t else s.t, s.k⟩ ∧ CfOk xs ⟨e + 1, wr (if b then r else s.r) (xs[s.pc]).a (if b then 1 else 0), if b then t else s.t, s.k⟩ := by
  have l1 : Leads xs t0 F s ⟨s.pc + 1, s.r, s.t, ⟨s.pc, s.r, s.t⟩ :: s.k⟩ := Leads.step hp (step_begin hs hp h8).1
  have hg := xs_at hp
  rcases hbd with ⟨rfl, hl, ok⟩ | ⟨rfl, pb, hp2, h10, hl, ok⟩
  ·
    obtain ⟨h9a, h9b⟩ := h9
    obtain ⟨m, k, hmk, hst, hok⟩ := step_end (t0 := t0) (F := F) hc ok h9a h9b
    simp only [List.cons.injEq] at hmk
    obtain ⟨rfl, rfl⟩ := hmk
    simp only [if_true]
    rw [hg] at hst hok
    exact ⟨(l1.trans hl).trans (Leads.step h9a hst), hok⟩
  ·
    obtain ⟨e', h1, h2, h3, hst, hok⟩ := step_abort (t0 := t0) (F := F) hc ok hp2 h10 (m := ⟨s.pc, s.r, s.t⟩) (k := s.k) rfl
    have hee : e' = e := by have h1 : endOf xs s.pc = (e' : Int) := h1; omega
    subst hee
    simp only [Bool.false_eq_true, if_false]
    rw [hg] at hst hok
    exact ⟨(l1.trans hl).trans (Leads.step hp2 hst), hok⟩
/-- a whole program -/
theorem SegEnds.ends (h : SegEnds xs t0 F ⟨0, s.r, s.t, []⟩ xs.length b r t) : Ends xs t0 F ⟨0, s.r, s.t, []⟩ (if b then ⟨1, r, t⟩ else ⟨2, r, t0⟩) := by
  rcases h with ⟨rfl, hl, ok⟩ | ⟨rfl, p, hp, h10, hl, ok⟩
  · exact hl _ (Ends.over (Nat.le_refl _))
  · exact hl _ (Ends.halt hp (step_give ok hp h10 rfl))
end
end Ops
end Go.Proofs.Ytajbmokidcdfnaa
/- Right code comes to an end. -/
set_option linter.unusedVariables false
namespace Go.Proofs.Ytajbmokidcdfnaa
namespace Ops

theorem Ends.total {xs : List O4} {t0 : Th} {F : List Int → Th → List Int × Th} (hc : codeOk xs = true) (hF : ForkOk F) : ∀ (n : Nat) (s : Cf), xs.length - s.pc ≤ n → CfOk xs s → ∃ q, Ends xs t0 F s q := by
  intro n
  induction n with
  | zero => intro s hn hs; exact ⟨_, Ends.over (by omega)⟩
  | succ n ih =>
    intro s hn hs
    by_cases hp : s.pc < xs.length
    · have go : ∀ s', step xs t0 F s = .inl s' → CfOk xs s' → s.pc < s'.pc → ∃ q, Ends xs t0 F s q := fun s' e ok hlt => by
        obtain ⟨q, hq⟩ := ih s' (by omega) ok
        exact ⟨q, Leads.step hp e q hq⟩
      by_cases h8 : xs[s.pc].k = 8
      · obtain ⟨e, ok⟩ := step_begin (t0 := t0) (F := F) hs hp h8
        exact go _ e ok (Nat.lt_succ_self _)
      by_cases h9 : xs[s.pc].k = 9
      · obtain ⟨m, k, -, e, ok⟩ := step_end (t0 := t0) (F := F) hc hs hp h9
        exact go _ e ok (Nat.lt_succ_self _)
      by_cases h10 : xs[s.pc].k = 10
      · match hk : s.k with
        | [] => exact ⟨_, Ends.halt hp (step_give hs hp h10 hk)⟩
        | m :: k =>
          obtain ⟨e, c1, c2, c3, c4, c5⟩ := step_abort (t0 := t0) (F := F) hc hs hp h10 hk
          exact go _ c4 c5 (Nat.lt_succ_of_le c2)
      by_cases h11 : xs[s.pc].k = 11
      · obtain ⟨e, ok⟩ := step_fork (t0 := t0) hF hs hp h11
        exact go _ e ok (Nat.lt_succ_self _)
      · obtain ⟨e, ok, hlt⟩ := step_plain (t0 := t0) (F := F) hc hs hp h8 h9 h10 h11
        exact go _ e ok hlt
    · exact ⟨_, Ends.over (by omega)⟩
theorem fuel_enough {xs : List O4} {t0 : Th} {F : List Int → Th → List Int × Th} (hc : codeOk xs = true) (hF : ForkOk F) : ∀ (n : Nat) (s : Cf), xs.length - s.pc ≤ n → CfOk xs s → ∃ q, runF xs t0 F (n + 1) s = some q := by
  intro n
  induction n with
  | zero => intro s hn hs; exact ⟨_, by unfold runF; rw [if_neg (by omega)]⟩
  | succ n ih =>
    intro s hn hs
    by_cases hp : s.pc < xs.length
    · have go : ∀ s', step xs t0 F s = .inl s' → CfOk xs s' → s.pc < s'.pc → ∃ q, runF xs t0 F (n + 1 + 1) s = some q := fun s' e ok hlt => by
        obtain ⟨q, hq⟩ := ih s' (by omega) ok
        exact ⟨q, by rw [runF, if_pos hp, e]; exact hq⟩
      by_cases h8 : xs[s.pc].k = 8
      · obtain ⟨e, ok⟩ := step_begin (t0 := t0) (F := F) hs hp h8
        exact go _ e ok (Nat.lt_succ_self _)
      by_cases h9 : xs[s.pc].k = 9
      · obtain ⟨m, k, -, e, ok⟩ := step_end (t0 := t0) (F := F) hc hs hp h9
        exact go _ e ok (Nat.lt_succ_self _)
      by_cases h10 : xs[s.pc].k = 10
      · match hk : s.k with
        | [] => exact ⟨_, by rw [runF, if_pos hp, step_give hs hp h10 hk]⟩
        | m :: k =>
          obtain ⟨e, c1, c2, c3, c4, c5⟩ := step_abort (t0 := t0) (F := F) hc hs hp h10 hk
          exact go _ c4 c5 (Nat.lt_succ_of_le c2)
      by_cases h11 : xs[s.pc].k = 11
      · obtain ⟨e, ok⟩ := step_fork (t0 := t0) hF hs hp h11
        exact go _ e ok (Nat.lt_succ_self _)
      · obtain ⟨e, ok, hlt⟩ := step_plain (t0 := t0) (F := F) hc hs hp h8 h9 h10 h11
        exact go _ e ok hlt
    · exact ⟨_, by unfold runF; rw [if_neg hp]⟩
theorem run_eq {xs : List O4} {F : List Int → Th → List Int × Th} (hc : codeOk xs = true) (hF : ForkOk F) {r : List Int} {t : Th} (hr : regsOk r = true) (ht : thOk t = true) {q : Rn} (h : Ends xs t F ⟨0, r, t, []⟩ q) : run xs F r t = q := by
  obtain ⟨q', hq'⟩ := fuel_enough (t0 := t) hc hF xs.length ⟨0, r, t, []⟩ (by show xs.length - 0 ≤ xs.length; omega) (CfOk.start hr ht)
  unfold run
  rw [hq']
  exact Ends.unique ⟨_, hq'⟩ h
theorem noF_ok : ForkOk noF := fun r t a b => ⟨a, b⟩
/-- .. from its beginning -/
theorem ends_total {xs : List O4} {F : List Int → Th → List Int × Th} (hc : codeOk xs = true) (hF : ForkOk F) {r : List Int} {t : Th} (hr : regsOk r = true) (ht : thOk t = true) : ∃ q, Ends xs t F ⟨0, r, t, []⟩ q :=
  Ends.total hc hF xs.length _ (by show xs.length - 0 ≤ xs.length; omega) (CfOk.start hr ht)
end Ops
end Go.Proofs.Ytajbmokidcdfnaa
