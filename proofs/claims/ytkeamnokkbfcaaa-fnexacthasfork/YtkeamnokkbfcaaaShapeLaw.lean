/- The walks of the laws of chapter 5 over one code, given what both functions answer. -/
import Derived.Test.YtkeamnokkbfcaaaOpRow
set_option linter.unusedVariables false
namespace Go.Proofs.Ytkeamnokkbfcaaa
open Go.RowKit
namespace Ops
open Bas Flat

set_option maxRecDepth 100000 in
set_option maxHeartbeats 1600000 in
theorem walkDepthAt (v : Value) (xs : List O4) (i : Int) (w : World) (hv : Sees4 w.heap.size w v xs) (r : Int)
    (cS : ∀ (u : Value) (W : World), Sees4 W.heap.size W u xs → xs.length ≤ 1048576 → Calls Try.prog 11 #[u, .int .i64 i] W fun e w' => e = .returned (.int .i64 r) ∧ Below W.heap.size W w')
    (cI : ∀ (u : Value) (W : World), Sees4 W.heap.size W u xs → xs.length ≤ 1048576 → Calls Try.prog 13 #[u, .int .i64 i] W fun e w' => e = .returned (.int .i64 r) ∧ Below W.heap.size W w') :
    Calls Try.prog 3 #[v, .int .i64 i] w fun e w' => e = .returned (.bool true) ∧ Below w.heap.size w w' := by
  have hroom := hv.room
  obtain ⟨a, cap, rfl⟩ := hv.form
  obtain ⟨n, hn⟩ : ∃ n, xs.length = n := ⟨_, rfl⟩
  rw [hn] at hv hroom ⊢
  have c0 := szOpsC a n cap 1048576 w (by omega) (by omega) hroom
  have HS := (show Hid _ from cS)
  have HI := (show Hid _ from cI)
  clear cS cI
  by_cases hle : (n : Int) ≤ 1048576
  · rw [if_pos hle] at c0
    go_enter Try.func3, Try.ntmps3
    go_wp2_with fail
    refine c0.mono ?_
    rintro e w1 ⟨rfl, rfl⟩
    go_wp2_with fail
    refine (toOpsC _ xs _ w hv (Nat.le_refl _) (by omega)).mono ?_
    rintro e w2 ⟨v2, rfl, O2, b2⟩
    obtain ⟨a2, cap2, rfl⟩ := O2.form
    rw [hn] at O2 ⊢
    go_wp2_with fail
    refine (HS.out _ w2 O2.sees (by omega)).mono ?_
    rintro e w3 ⟨rfl, b3⟩
    have bb3 := b2.trans (b3.mono b2.size)
    have hv3 := hv.on bb3 (Nat.le_refl _)
    go_wp2_with fail
    refine (toOpsC _ xs _ w3 hv3 bb3.size (by omega)).mono ?_
    rintro e w4 ⟨v4, rfl, O4', b4⟩
    obtain ⟨a4, cap4, rfl⟩ := O4'.form
    rw [hn] at O4' ⊢
    have bb4 := bb3.trans (b4.mono bb3.size)
    go_wp2_with fail
    refine (HI.out _ w4 O4'.sees (by omega)).mono ?_
    rintro e w5 ⟨rfl, b5⟩
    have bb5 := bb4.trans (b5.mono bb4.size)
    have hv5 := hv.on bb5 (Nat.le_refl _)
    have O5 := O4'.on b5 (Nat.le_refl _)
    go_wp2_with fail
    refine (toOpsC _ xs _ w5 hv5 bb5.size (by omega)).mono ?_
    rintro e w6 ⟨v6, rfl, O6, b6⟩
    obtain ⟨a6, cap6, rfl⟩ := O6.form
    rw [hn] at O6 ⊢
    have bb6 := bb5.trans (b6.mono bb5.size)
    have O5 := O5.on b6 (Nat.le_refl _)
    go_wp2_with fail
    refine (eqOpsC _ _ xs w6.heap.size w6 O5.sees O6.sees (Nat.le_refl _)).mono ?_
    rintro e w7 ⟨rfl, b7⟩
    go_wp2
    go_ret
    exact ⟨rfl, bb6.trans (b7.mono bb6.size)⟩
  · rw [if_neg hle] at c0
    go_enter Try.func3, Try.ntmps3
    go_wp2_with fail
    refine c0.mono ?_
    rintro e w1 ⟨rfl, rfl⟩
    go_wp2
    go_ret
    exact ⟨rfl, Below.refl _ _⟩

set_option maxRecDepth 100000 in
set_option maxHeartbeats 1600000 in
theorem walkEndOf (v : Value) (xs : List O4) (i : Int) (w : World) (hv : Sees4 w.heap.size w v xs) (r : Int)
    (cS : ∀ (u : Value) (W : World), Sees4 W.heap.size W u xs → xs.length ≤ 1048576 → Calls Try.prog 15 #[u, .int .i64 i] W fun e w' => e = .returned (.int .i64 r) ∧ Below W.heap.size W w')
    (cI : ∀ (u : Value) (W : World), Sees4 W.heap.size W u xs → xs.length ≤ 1048576 → Calls Try.prog 16 #[u, .int .i64 i] W fun e w' => e = .returned (.int .i64 r) ∧ Below W.heap.size W w') :
    Calls Try.prog 4 #[v, .int .i64 i] w fun e w' => e = .returned (.bool true) ∧ Below w.heap.size w w' := by
  have hroom := hv.room
  obtain ⟨a, cap, rfl⟩ := hv.form
  obtain ⟨n, hn⟩ : ∃ n, xs.length = n := ⟨_, rfl⟩
  rw [hn] at hv hroom ⊢
  have c0 := szOpsC a n cap 1048576 w (by omega) (by omega) hroom
  have HS := (show Hid _ from cS)
  have HI := (show Hid _ from cI)
  clear cS cI
  by_cases hle : (n : Int) ≤ 1048576
  · rw [if_pos hle] at c0
    go_enter Try.func4, Try.ntmps4
    go_wp2_with fail
    refine c0.mono ?_
    rintro e w1 ⟨rfl, rfl⟩
    go_wp2_with fail
    refine (toOpsC _ xs _ w hv (Nat.le_refl _) (by omega)).mono ?_
    rintro e w2 ⟨v2, rfl, O2, b2⟩
    obtain ⟨a2, cap2, rfl⟩ := O2.form
    rw [hn] at O2 ⊢
    go_wp2_with fail
    refine (HS.out _ w2 O2.sees (by omega)).mono ?_
    rintro e w3 ⟨rfl, b3⟩
    have bb3 := b2.trans (b3.mono b2.size)
    have hv3 := hv.on bb3 (Nat.le_refl _)
    go_wp2_with fail
    refine (toOpsC _ xs _ w3 hv3 bb3.size (by omega)).mono ?_
    rintro e w4 ⟨v4, rfl, O4', b4⟩
    obtain ⟨a4, cap4, rfl⟩ := O4'.form
    rw [hn] at O4' ⊢
    have bb4 := bb3.trans (b4.mono bb3.size)
    go_wp2_with fail
    refine (HI.out _ w4 O4'.sees (by omega)).mono ?_
    rintro e w5 ⟨rfl, b5⟩
    have bb5 := bb4.trans (b5.mono bb4.size)
    have hv5 := hv.on bb5 (Nat.le_refl _)
    have O5 := O4'.on b5 (Nat.le_refl _)
    go_wp2_with fail
    refine (toOpsC _ xs _ w5 hv5 bb5.size (by omega)).mono ?_
    rintro e w6 ⟨v6, rfl, O6, b6⟩
    obtain ⟨a6, cap6, rfl⟩ := O6.form
    rw [hn] at O6 ⊢
    have bb6 := bb5.trans (b6.mono bb5.size)
    have O5 := O5.on b6 (Nat.le_refl _)
    go_wp2_with fail
    refine (eqOpsC _ _ xs w6.heap.size w6 O5.sees O6.sees (Nat.le_refl _)).mono ?_
    rintro e w7 ⟨rfl, b7⟩
    go_wp2
    go_ret
    exact ⟨rfl, bb6.trans (b7.mono bb6.size)⟩
  · rw [if_neg hle] at c0
    go_enter Try.func4, Try.ntmps4
    go_wp2_with fail
    refine c0.mono ?_
    rintro e w1 ⟨rfl, rfl⟩
    go_wp2
    go_ret
    exact ⟨rfl, Below.refl _ _⟩

set_option maxRecDepth 100000 in
set_option maxHeartbeats 1600000 in
theorem walkCodeOk (v : Value) (xs : List O4) (w : World) (hv : Sees4 w.heap.size w v xs) (r : Bool)
    (cS : ∀ (u : Value) (W : World), Sees4 W.heap.size W u xs → xs.length ≤ 1048576 → Calls Try.prog 17 #[u] W fun e w' => e = .returned (.bool r) ∧ Below W.heap.size W w')
    (cI : ∀ (u : Value) (W : World), Sees4 W.heap.size W u xs → xs.length ≤ 1048576 → Calls Try.prog 18 #[u] W fun e w' => e = .returned (.bool r) ∧ Below W.heap.size W w') :
    Calls Try.prog 5 #[v] w fun e w' => e = .returned (.bool true) ∧ Below w.heap.size w w' := by
  have hroom := hv.room
  obtain ⟨a, cap, rfl⟩ := hv.form
  obtain ⟨n, hn⟩ : ∃ n, xs.length = n := ⟨_, rfl⟩
  rw [hn] at hv hroom ⊢
  have c0 := szOpsC a n cap 1048576 w (by omega) (by omega) hroom
  have HS := (show Hid _ from cS)
  have HI := (show Hid _ from cI)
  clear cS cI
  by_cases hle : (n : Int) ≤ 1048576
  · rw [if_pos hle] at c0
    go_enter Try.func5, Try.ntmps5
    go_wp2_with fail
    refine c0.mono ?_
    rintro e w1 ⟨rfl, rfl⟩
    go_wp2_with fail
    refine (toOpsC _ xs _ w hv (Nat.le_refl _) (by omega)).mono ?_
    rintro e w2 ⟨v2, rfl, O2, b2⟩
    obtain ⟨a2, cap2, rfl⟩ := O2.form
    rw [hn] at O2 ⊢
    go_wp2_with fail
    refine (HS.out _ w2 O2.sees (by omega)).mono ?_
    rintro e w3 ⟨rfl, b3⟩
    have bb3 := b2.trans (b3.mono b2.size)
    have hv3 := hv.on bb3 (Nat.le_refl _)
    go_wp2_with fail
    refine (toOpsC _ xs _ w3 hv3 bb3.size (by omega)).mono ?_
    rintro e w4 ⟨v4, rfl, O4', b4⟩
    obtain ⟨a4, cap4, rfl⟩ := O4'.form
    rw [hn] at O4' ⊢
    have bb4 := bb3.trans (b4.mono bb3.size)
    go_wp2_with fail
    refine (HI.out _ w4 O4'.sees (by omega)).mono ?_
    rintro e w5 ⟨rfl, b5⟩
    have bb5 := bb4.trans (b5.mono bb4.size)
    have hv5 := hv.on bb5 (Nat.le_refl _)
    have O5 := O4'.on b5 (Nat.le_refl _)
    go_wp2_with fail
    refine (toOpsC _ xs _ w5 hv5 bb5.size (by omega)).mono ?_
    rintro e w6 ⟨v6, rfl, O6, b6⟩
    obtain ⟨a6, cap6, rfl⟩ := O6.form
    rw [hn] at O6 ⊢
    have bb6 := bb5.trans (b6.mono bb5.size)
    have O5 := O5.on b6 (Nat.le_refl _)
    go_wp2_with fail
    refine (eqOpsC _ _ xs w6.heap.size w6 O5.sees O6.sees (Nat.le_refl _)).mono ?_
    rintro e w7 ⟨rfl, b7⟩
    go_wp2
    go_ret
    exact ⟨rfl, bb6.trans (b7.mono bb6.size)⟩
  · rw [if_neg hle] at c0
    go_enter Try.func5, Try.ntmps5
    go_wp2_with fail
    refine c0.mono ?_
    rintro e w1 ⟨rfl, rfl⟩
    go_wp2
    go_ret
    exact ⟨rfl, Below.refl _ _⟩

set_option maxRecDepth 100000 in
set_option maxHeartbeats 1600000 in
theorem walkKidOk (v : Value) (xs : List O4) (w : World) (hv : Sees4 w.heap.size w v xs) (r : Bool)
    (cS : ∀ (u : Value) (W : World), Sees4 W.heap.size W u xs → xs.length ≤ 1048576 → Calls Try.prog 19 #[u] W fun e w' => e = .returned (.bool r) ∧ Below W.heap.size W w')
    (cI : ∀ (u : Value) (W : World), Sees4 W.heap.size W u xs → xs.length ≤ 1048576 → Calls Try.prog 20 #[u] W fun e w' => e = .returned (.bool r) ∧ Below W.heap.size W w') :
    Calls Try.prog 6 #[v] w fun e w' => e = .returned (.bool true) ∧ Below w.heap.size w w' := by
  have hroom := hv.room
  obtain ⟨a, cap, rfl⟩ := hv.form
  obtain ⟨n, hn⟩ : ∃ n, xs.length = n := ⟨_, rfl⟩
  rw [hn] at hv hroom ⊢
  have c0 := szOpsC a n cap 1048576 w (by omega) (by omega) hroom
  have HS := (show Hid _ from cS)
  have HI := (show Hid _ from cI)
  clear cS cI
  by_cases hle : (n : Int) ≤ 1048576
  · rw [if_pos hle] at c0
    go_enter Try.func6, Try.ntmps6
    go_wp2_with fail
    refine c0.mono ?_
    rintro e w1 ⟨rfl, rfl⟩
    go_wp2_with fail
    refine (toOpsC _ xs _ w hv (Nat.le_refl _) (by omega)).mono ?_
    rintro e w2 ⟨v2, rfl, O2, b2⟩
    obtain ⟨a2, cap2, rfl⟩ := O2.form
    rw [hn] at O2 ⊢
    go_wp2_with fail
    refine (HS.out _ w2 O2.sees (by omega)).mono ?_
    rintro e w3 ⟨rfl, b3⟩
    have bb3 := b2.trans (b3.mono b2.size)
    have hv3 := hv.on bb3 (Nat.le_refl _)
    go_wp2_with fail
    refine (toOpsC _ xs _ w3 hv3 bb3.size (by omega)).mono ?_
    rintro e w4 ⟨v4, rfl, O4', b4⟩
    obtain ⟨a4, cap4, rfl⟩ := O4'.form
    rw [hn] at O4' ⊢
    have bb4 := bb3.trans (b4.mono bb3.size)
    go_wp2_with fail
    refine (HI.out _ w4 O4'.sees (by omega)).mono ?_
    rintro e w5 ⟨rfl, b5⟩
    have bb5 := bb4.trans (b5.mono bb4.size)
    have hv5 := hv.on bb5 (Nat.le_refl _)
    have O5 := O4'.on b5 (Nat.le_refl _)
    go_wp2_with fail
    refine (toOpsC _ xs _ w5 hv5 bb5.size (by omega)).mono ?_
    rintro e w6 ⟨v6, rfl, O6, b6⟩
    obtain ⟨a6, cap6, rfl⟩ := O6.form
    rw [hn] at O6 ⊢
    have bb6 := bb5.trans (b6.mono bb5.size)
    have O5 := O5.on b6 (Nat.le_refl _)
    go_wp2_with fail
    refine (eqOpsC _ _ xs w6.heap.size w6 O5.sees O6.sees (Nat.le_refl _)).mono ?_
    rintro e w7 ⟨rfl, b7⟩
    go_wp2
    go_ret
    exact ⟨rfl, bb6.trans (b7.mono bb6.size)⟩
  · rw [if_neg hle] at c0
    go_enter Try.func6, Try.ntmps6
    go_wp2_with fail
    refine c0.mono ?_
    rintro e w1 ⟨rfl, rfl⟩
    go_wp2
    go_ret
    exact ⟨rfl, Below.refl _ _⟩

set_option maxRecDepth 100000 in
set_option maxHeartbeats 1600000 in
theorem walkHasFork (v : Value) (xs : List O4) (w : World) (hv : Sees4 w.heap.size w v xs) (r : Bool)
    (cS : ∀ (u : Value) (W : World), Sees4 W.heap.size W u xs → xs.length ≤ 1048576 → Calls Try.prog 26 #[u] W fun e w' => e = .returned (.bool r) ∧ Below W.heap.size W w')
    (cI : ∀ (u : Value) (W : World), Sees4 W.heap.size W u xs → xs.length ≤ 1048576 → Calls Try.prog 27 #[u] W fun e w' => e = .returned (.bool r) ∧ Below W.heap.size W w') :
    Calls Try.prog 8 #[v] w fun e w' => e = .returned (.bool true) ∧ Below w.heap.size w w' := by
  have hroom := hv.room
  obtain ⟨a, cap, rfl⟩ := hv.form
  obtain ⟨n, hn⟩ : ∃ n, xs.length = n := ⟨_, rfl⟩
  rw [hn] at hv hroom ⊢
  have c0 := szOpsC a n cap 1048576 w (by omega) (by omega) hroom
  have HS := (show Hid _ from cS)
  have HI := (show Hid _ from cI)
  clear cS cI
  by_cases hle : (n : Int) ≤ 1048576
  · rw [if_pos hle] at c0
    go_enter Try.func8, Try.ntmps8
    go_wp2_with fail
    refine c0.mono ?_
    rintro e w1 ⟨rfl, rfl⟩
    go_wp2_with fail
    refine (toOpsC _ xs _ w hv (Nat.le_refl _) (by omega)).mono ?_
    rintro e w2 ⟨v2, rfl, O2, b2⟩
    obtain ⟨a2, cap2, rfl⟩ := O2.form
    rw [hn] at O2 ⊢
    go_wp2_with fail
    refine (HS.out _ w2 O2.sees (by omega)).mono ?_
    rintro e w3 ⟨rfl, b3⟩
    have bb3 := b2.trans (b3.mono b2.size)
    have hv3 := hv.on bb3 (Nat.le_refl _)
    go_wp2_with fail
    refine (toOpsC _ xs _ w3 hv3 bb3.size (by omega)).mono ?_
    rintro e w4 ⟨v4, rfl, O4', b4⟩
    obtain ⟨a4, cap4, rfl⟩ := O4'.form
    rw [hn] at O4' ⊢
    have bb4 := bb3.trans (b4.mono bb3.size)
    go_wp2_with fail
    refine (HI.out _ w4 O4'.sees (by omega)).mono ?_
    rintro e w5 ⟨rfl, b5⟩
    have bb5 := bb4.trans (b5.mono bb4.size)
    have hv5 := hv.on bb5 (Nat.le_refl _)
    have O5 := O4'.on b5 (Nat.le_refl _)
    go_wp2_with fail
    refine (toOpsC _ xs _ w5 hv5 bb5.size (by omega)).mono ?_
    rintro e w6 ⟨v6, rfl, O6, b6⟩
    obtain ⟨a6, cap6, rfl⟩ := O6.form
    rw [hn] at O6 ⊢
    have bb6 := bb5.trans (b6.mono bb5.size)
    have O5 := O5.on b6 (Nat.le_refl _)
    go_wp2_with fail
    refine (eqOpsC _ _ xs w6.heap.size w6 O5.sees O6.sees (Nat.le_refl _)).mono ?_
    rintro e w7 ⟨rfl, b7⟩
    go_wp2
    go_ret
    exact ⟨rfl, bb6.trans (b7.mono bb6.size)⟩
  · rw [if_neg hle] at c0
    go_enter Try.func8, Try.ntmps8
    go_wp2_with fail
    refine c0.mono ?_
    rintro e w1 ⟨rfl, rfl⟩
    go_wp2
    go_ret
    exact ⟨rfl, Below.refl _ _⟩

end Ops
end Go.Proofs.Ytkeamnokkbfcaaa
