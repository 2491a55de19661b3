/- Several texts of one proof, in build order: OpSpec, CalcSpec, CalcFns, OpImpl, CalcImpl, DoCalc, Do5, Do6, Do12, Do13, Do14, Do15, Do16. -/
import Derived.Maps.OwnSet
import Derived.Deep.QuietTactic
import Derived.BigQuiet
import Derived.Deep.RegionHeld3
import Derived.Test.YtppkohkcffnghaaKB1
import Derived.Test.YtppkohkcffnghaaKB2
/- The specification's OpOk. -/
namespace Go.Proofs.Ytppkohkcffnghaa
open Go.RowKit
namespace Ops

set_option maxRecDepth 100000 in
set_option maxHeartbeats 1600000 in
theorem spec1 (a b c : Int) (w : World) : Calls Try.prog 90 #[opV 1 a b c] w fun e w' => e = .returned (.bool (opOk 1 a b c)) ∧ Below w.heap.size w w' := by
  show Calls _ _ #[.agg #[.int .i64 1, .int .i64 a, .int .i64 b, .int .i64 c]] _ _
  have e0 : opOk 1 a b c = (inn 0 3 a && inn 0 65535 b && (c == 0)) := by simp only [← inn_zero]; rfl
  rw [e0]
  clear e0
  obtain ⟨p0, h0⟩ : ∃ p, (inn 0 3 a) = p := ⟨_, rfl⟩
  obtain ⟨p1, h1⟩ : ∃ p, (inn 0 65535 b) = p := ⟨_, rfl⟩
  rw [h0, h1]
  cases p0 <;> cases p1
  all_goals
    go_enter Try.func90, Try.ntmps90
    go_wp2_with (first | (go_at_call 107; refine (regC a _).mono ?_; rintro e w1 ⟨rfl, rfl⟩; rw [h0]) | (go_at_call 70; refine (valC b _).mono ?_; rintro e w1 ⟨rfl, rfl⟩; rw [h1]))
    go_ret
    exact ⟨by simp, (Below.refl _ _).alloc (Nat.le_refl _) _⟩

set_option maxRecDepth 100000 in
set_option maxHeartbeats 1600000 in
theorem spec2 (a b c : Int) (w : World) : Calls Try.prog 90 #[opV 2 a b c] w fun e w' => e = .returned (.bool (opOk 2 a b c)) ∧ Below w.heap.size w w' := by
  show Calls _ _ #[.agg #[.int .i64 2, .int .i64 a, .int .i64 b, .int .i64 c]] _ _
  have e0 : opOk 2 a b c = (inn 0 3 a && inn 0 3 b && inn 0 3 c) := by rfl
  rw [e0]
  clear e0
  obtain ⟨p0, h0⟩ : ∃ p, (inn 0 3 a) = p := ⟨_, rfl⟩
  obtain ⟨p1, h1⟩ : ∃ p, (inn 0 3 b) = p := ⟨_, rfl⟩
  rw [h0, h1]
  cases p0 <;> cases p1
  all_goals
    go_enter Try.func90, Try.ntmps90
    go_wp2_with (first | (go_at_call 107; refine (regC a _).mono ?_; rintro e w1 ⟨rfl, rfl⟩; rw [h0]) | (go_at_call 107; refine (regC b _).mono ?_; rintro e w1 ⟨rfl, rfl⟩; rw [h1]) | (go_at_call 107; refine (regC c _).mono ?_; rintro e w1 ⟨rfl, rfl⟩))
    go_ret
    exact ⟨by simp, (Below.refl _ _).alloc (Nat.le_refl _) _⟩

set_option maxRecDepth 100000 in
set_option maxHeartbeats 1600000 in
theorem spec3 (a b c : Int) (w : World) : Calls Try.prog 90 #[opV 3 a b c] w fun e w' => e = .returned (.bool (opOk 3 a b c)) ∧ Below w.heap.size w w' := by
  show Calls _ _ #[.agg #[.int .i64 3, .int .i64 a, .int .i64 b, .int .i64 c]] _ _
  have e0 : opOk 3 a b c = (inn 0 3 a && inn 0 3 b && inn 0 3 c) := by rfl
  rw [e0]
  clear e0
  obtain ⟨p0, h0⟩ : ∃ p, (inn 0 3 a) = p := ⟨_, rfl⟩
  obtain ⟨p1, h1⟩ : ∃ p, (inn 0 3 b) = p := ⟨_, rfl⟩
  rw [h0, h1]
  cases p0 <;> cases p1
  all_goals
    go_enter Try.func90, Try.ntmps90
    go_wp2_with (first | (go_at_call 107; refine (regC a _).mono ?_; rintro e w1 ⟨rfl, rfl⟩; rw [h0]) | (go_at_call 107; refine (regC b _).mono ?_; rintro e w1 ⟨rfl, rfl⟩; rw [h1]) | (go_at_call 107; refine (regC c _).mono ?_; rintro e w1 ⟨rfl, rfl⟩))
    go_ret
    exact ⟨by simp, (Below.refl _ _).alloc (Nat.le_refl _) _⟩

set_option maxRecDepth 100000 in
set_option maxHeartbeats 1600000 in
theorem spec4 (a b c : Int) (w : World) : Calls Try.prog 90 #[opV 4 a b c] w fun e w' => e = .returned (.bool (opOk 4 a b c)) ∧ Below w.heap.size w w' := by
  show Calls _ _ #[.agg #[.int .i64 4, .int .i64 a, .int .i64 b, .int .i64 c]] _ _
  have e0 : opOk 4 a b c = (inn 0 3 a && inn 0 3 b && inn 0 3 c) := by rfl
  rw [e0]
  clear e0
  obtain ⟨p0, h0⟩ : ∃ p, (inn 0 3 a) = p := ⟨_, rfl⟩
  obtain ⟨p1, h1⟩ : ∃ p, (inn 0 3 b) = p := ⟨_, rfl⟩
  rw [h0, h1]
  cases p0 <;> cases p1
  all_goals
    go_enter Try.func90, Try.ntmps90
    go_wp2_with (first | (go_at_call 107; refine (regC a _).mono ?_; rintro e w1 ⟨rfl, rfl⟩; rw [h0]) | (go_at_call 107; refine (regC b _).mono ?_; rintro e w1 ⟨rfl, rfl⟩; rw [h1]) | (go_at_call 107; refine (regC c _).mono ?_; rintro e w1 ⟨rfl, rfl⟩))
    go_ret
    exact ⟨by simp, (Below.refl _ _).alloc (Nat.le_refl _) _⟩

set_option maxRecDepth 100000 in
set_option maxHeartbeats 1600000 in
theorem spec5 (a b c : Int) (w : World) : Calls Try.prog 90 #[opV 5 a b c] w fun e w' => e = .returned (.bool (opOk 5 a b c)) ∧ Below w.heap.size w w' := by
  show Calls _ _ #[.agg #[.int .i64 5, .int .i64 a, .int .i64 b, .int .i64 c]] _ _
  have e0 : opOk 5 a b c = (inn 0 3 a && inn 0 7 b && (c == 0)) := by simp only [← inn_zero]; rfl
  rw [e0]
  clear e0
  obtain ⟨p0, h0⟩ : ∃ p, (inn 0 3 a) = p := ⟨_, rfl⟩
  obtain ⟨p1, h1⟩ : ∃ p, (inn 0 7 b) = p := ⟨_, rfl⟩
  rw [h0, h1]
  cases p0 <;> cases p1
  all_goals
    go_enter Try.func90, Try.ntmps90
    go_wp2_with (first | (go_at_call 107; refine (regC a _).mono ?_; rintro e w1 ⟨rfl, rfl⟩; rw [h0]) | (go_at_call 108; refine (cellC b _).mono ?_; rintro e w1 ⟨rfl, rfl⟩; rw [h1]))
    go_ret
    exact ⟨by simp, (Below.refl _ _).alloc (Nat.le_refl _) _⟩

set_option maxRecDepth 100000 in
set_option maxHeartbeats 1600000 in
theorem spec6 (a b c : Int) (w : World) : Calls Try.prog 90 #[opV 6 a b c] w fun e w' => e = .returned (.bool (opOk 6 a b c)) ∧ Below w.heap.size w w' := by
  show Calls _ _ #[.agg #[.int .i64 6, .int .i64 a, .int .i64 b, .int .i64 c]] _ _
  have e0 : opOk 6 a b c = (inn 0 7 a && inn 0 3 b && (c == 0)) := by simp only [← inn_zero]; rfl
  rw [e0]
  clear e0
  obtain ⟨p0, h0⟩ : ∃ p, (inn 0 7 a) = p := ⟨_, rfl⟩
  obtain ⟨p1, h1⟩ : ∃ p, (inn 0 3 b) = p := ⟨_, rfl⟩
  rw [h0, h1]
  cases p0 <;> cases p1
  all_goals
    go_enter Try.func90, Try.ntmps90
    go_wp2_with (first | (go_at_call 108; refine (cellC a _).mono ?_; rintro e w1 ⟨rfl, rfl⟩; rw [h0]) | (go_at_call 107; refine (regC b _).mono ?_; rintro e w1 ⟨rfl, rfl⟩; rw [h1]))
    go_ret
    exact ⟨by simp, (Below.refl _ _).alloc (Nat.le_refl _) _⟩

set_option maxRecDepth 100000 in
set_option maxHeartbeats 1600000 in
theorem spec7 (a b c : Int) (w : World) : Calls Try.prog 90 #[opV 7 a b c] w fun e w' => e = .returned (.bool (opOk 7 a b c)) ∧ Below w.heap.size w w' := by
  show Calls _ _ #[.agg #[.int .i64 7, .int .i64 a, .int .i64 b, .int .i64 c]] _ _
  have e0 : opOk 7 a b c = (inn 0 3 a && inn 1 20 b && (c == 0)) := by simp only [← inn_zero]; rfl
  rw [e0]
  clear e0
  obtain ⟨p0, h0⟩ : ∃ p, (inn 0 3 a) = p := ⟨_, rfl⟩
  obtain ⟨p1, h1⟩ : ∃ p, (inn 1 20 b) = p := ⟨_, rfl⟩
  rw [h0, h1]
  cases p0 <;> cases p1
  all_goals
    go_enter Try.func90, Try.ntmps90
    go_wp2_with (first | (go_at_call 107; refine (regC a _).mono ?_; rintro e w1 ⟨rfl, rfl⟩; rw [h0]) | (go_at_call 71; refine (innC b 1 20 _).mono ?_; rintro e w1 ⟨rfl, rfl⟩; rw [h1]))
    go_ret
    exact ⟨by simp, (Below.refl _ _).alloc (Nat.le_refl _) _⟩

set_option maxRecDepth 100000 in
set_option maxHeartbeats 1600000 in
theorem spec8 (a b c : Int) (w : World) : Calls Try.prog 90 #[opV 8 a b c] w fun e w' => e = .returned (.bool (opOk 8 a b c)) ∧ Below w.heap.size w w' := by
  show Calls _ _ #[.agg #[.int .i64 8, .int .i64 a, .int .i64 b, .int .i64 c]] _ _
  have e0 : opOk 8 a b c = (inn 0 3 a && (b == 0) && (c == 0)) := by simp only [← inn_zero]; rfl
  rw [e0]
  clear e0
  obtain ⟨p0, h0⟩ : ∃ p, (inn 0 3 a) = p := ⟨_, rfl⟩
  obtain ⟨p1, h1⟩ : ∃ p, ((b == 0)) = p := ⟨_, rfl⟩
  rw [h0, h1]
  cases p0 <;> cases p1
  all_goals
    go_enter Try.func90, Try.ntmps90
    go_wp2_with (first | (go_at_call 107; refine (regC a _).mono ?_; rintro e w1 ⟨rfl, rfl⟩; rw [h0]))
    go_ret
    exact ⟨by simp, (Below.refl _ _).alloc (Nat.le_refl _) _⟩

set_option maxRecDepth 100000 in
set_option maxHeartbeats 1600000 in
theorem spec9 (a b c : Int) (w : World) : Calls Try.prog 90 #[opV 9 a b c] w fun e w' => e = .returned (.bool (opOk 9 a b c)) ∧ Below w.heap.size w w' := by
  show Calls _ _ #[.agg #[.int .i64 9, .int .i64 a, .int .i64 b, .int .i64 c]] _ _
  have e0 : opOk 9 a b c = ((a == 0) && (b == 0) && (c == 0)) := by simp only [← inn_zero]; rfl
  rw [e0]
  clear e0
  obtain ⟨p0, h0⟩ : ∃ p, ((a == 0)) = p := ⟨_, rfl⟩
  obtain ⟨p1, h1⟩ : ∃ p, ((b == 0)) = p := ⟨_, rfl⟩
  rw [h0, h1]
  cases p0 <;> cases p1
  all_goals
    go_enter Try.func90, Try.ntmps90
    go_wp2_with fail
    go_ret
    exact ⟨by simp, (Below.refl _ _).alloc (Nat.le_refl _) _⟩

set_option maxRecDepth 100000 in
set_option maxHeartbeats 1600000 in
theorem spec10 (a b c : Int) (w : World) : Calls Try.prog 90 #[opV 10 a b c] w fun e w' => e = .returned (.bool (opOk 10 a b c)) ∧ Below w.heap.size w w' := by
  show Calls _ _ #[.agg #[.int .i64 10, .int .i64 a, .int .i64 b, .int .i64 c]] _ _
  have e0 : opOk 10 a b c = ((a == 0) && (b == 0) && (c == 0)) := by simp only [← inn_zero]; rfl
  rw [e0]
  clear e0
  obtain ⟨p0, h0⟩ : ∃ p, ((a == 0)) = p := ⟨_, rfl⟩
  obtain ⟨p1, h1⟩ : ∃ p, ((b == 0)) = p := ⟨_, rfl⟩
  rw [h0, h1]
  cases p0 <;> cases p1
  all_goals
    go_enter Try.func90, Try.ntmps90
    go_wp2_with fail
    go_ret
    exact ⟨by simp, (Below.refl _ _).alloc (Nat.le_refl _) _⟩

set_option maxRecDepth 100000 in
set_option maxHeartbeats 1600000 in
theorem spec11 (a b c : Int) (w : World) : Calls Try.prog 90 #[opV 11 a b c] w fun e w' => e = .returned (.bool (opOk 11 a b c)) ∧ Below w.heap.size w w' := by
  show Calls _ _ #[.agg #[.int .i64 11, .int .i64 a, .int .i64 b, .int .i64 c]] _ _
  have e0 : opOk 11 a b c = ((a == 0) && (b == 0) && (c == 0)) := by simp only [← inn_zero]; rfl
  rw [e0]
  clear e0
  obtain ⟨p0, h0⟩ : ∃ p, ((a == 0)) = p := ⟨_, rfl⟩
  obtain ⟨p1, h1⟩ : ∃ p, ((b == 0)) = p := ⟨_, rfl⟩
  rw [h0, h1]
  cases p0 <;> cases p1
  all_goals
    go_enter Try.func90, Try.ntmps90
    go_wp2_with fail
    go_ret
    exact ⟨by simp, (Below.refl _ _).alloc (Nat.le_refl _) _⟩

set_option maxRecDepth 100000 in
set_option maxHeartbeats 1600000 in
theorem spec12 (a b c : Int) (w : World) : Calls Try.prog 90 #[opV 12 a b c] w fun e w' => e = .returned (.bool (opOk 12 a b c)) ∧ Below w.heap.size w w' := by
  show Calls _ _ #[.agg #[.int .i64 12, .int .i64 a, .int .i64 b, .int .i64 c]] _ _
  have e0 : opOk 12 a b c = (inn 0 7 a && inn 0 3 b && inn 0 3 c) := by rfl
  rw [e0]
  clear e0
  obtain ⟨p0, h0⟩ : ∃ p, (inn 0 7 a) = p := ⟨_, rfl⟩
  obtain ⟨p1, h1⟩ : ∃ p, (inn 0 3 b) = p := ⟨_, rfl⟩
  rw [h0, h1]
  cases p0 <;> cases p1
  all_goals
    go_enter Try.func90, Try.ntmps90
    go_wp2_with (first | (go_at_call 71; refine (innC a 0 7 _).mono ?_; rintro e w1 ⟨rfl, rfl⟩; rw [h0]) | (go_at_call 107; refine (regC b _).mono ?_; rintro e w1 ⟨rfl, rfl⟩; rw [h1]) | (go_at_call 107; refine (regC c _).mono ?_; rintro e w1 ⟨rfl, rfl⟩))
    go_ret
    exact ⟨by simp, (Below.refl _ _).alloc (Nat.le_refl _) _⟩

set_option maxRecDepth 100000 in
set_option maxHeartbeats 1600000 in
theorem spec13 (a b c : Int) (w : World) : Calls Try.prog 90 #[opV 13 a b c] w fun e w' => e = .returned (.bool (opOk 13 a b c)) ∧ Below w.heap.size w w' := by
  show Calls _ _ #[.agg #[.int .i64 13, .int .i64 a, .int .i64 b, .int .i64 c]] _ _
  have e0 : opOk 13 a b c = (inn 0 3 a && inn 0 7 b && (c == 0)) := by simp only [← inn_zero]; rfl
  rw [e0]
  clear e0
  obtain ⟨p0, h0⟩ : ∃ p, (inn 0 3 a) = p := ⟨_, rfl⟩
  obtain ⟨p1, h1⟩ : ∃ p, (inn 0 7 b) = p := ⟨_, rfl⟩
  rw [h0, h1]
  cases p0 <;> cases p1
  all_goals
    go_enter Try.func90, Try.ntmps90
    go_wp2_with (first | (go_at_call 107; refine (regC a _).mono ?_; rintro e w1 ⟨rfl, rfl⟩; rw [h0]) | (go_at_call 71; refine (innC b 0 7 _).mono ?_; rintro e w1 ⟨rfl, rfl⟩; rw [h1]))
    go_ret
    exact ⟨by simp, (Below.refl _ _).alloc (Nat.le_refl _) _⟩

set_option maxRecDepth 100000 in
set_option maxHeartbeats 1600000 in
theorem spec14 (a b c : Int) (w : World) : Calls Try.prog 90 #[opV 14 a b c] w fun e w' => e = .returned (.bool (opOk 14 a b c)) ∧ Below w.heap.size w w' := by
  show Calls _ _ #[.agg #[.int .i64 14, .int .i64 a, .int .i64 b, .int .i64 c]] _ _
  have e0 : opOk 14 a b c = (inn 0 7 a && inn 0 3 b && (c == 0)) := by simp only [← inn_zero]; rfl
  rw [e0]
  clear e0
  obtain ⟨p0, h0⟩ : ∃ p, (inn 0 7 a) = p := ⟨_, rfl⟩
  obtain ⟨p1, h1⟩ : ∃ p, (inn 0 3 b) = p := ⟨_, rfl⟩
  rw [h0, h1]
  cases p0 <;> cases p1
  all_goals
    go_enter Try.func90, Try.ntmps90
    go_wp2_with (first | (go_at_call 71; refine (innC a 0 7 _).mono ?_; rintro e w1 ⟨rfl, rfl⟩; rw [h0]) | (go_at_call 107; refine (regC b _).mono ?_; rintro e w1 ⟨rfl, rfl⟩; rw [h1]))
    go_ret
    exact ⟨by simp, (Below.refl _ _).alloc (Nat.le_refl _) _⟩

set_option maxRecDepth 100000 in
set_option maxHeartbeats 1600000 in
theorem spec15 (a b c : Int) (w : World) : Calls Try.prog 90 #[opV 15 a b c] w fun e w' => e = .returned (.bool (opOk 15 a b c)) ∧ Below w.heap.size w w' := by
  show Calls _ _ #[.agg #[.int .i64 15, .int .i64 a, .int .i64 b, .int .i64 c]] _ _
  have e0 : opOk 15 a b c = (inn 0 3 a && (b == 0) && (c == 0)) := by simp only [← inn_zero]; rfl
  rw [e0]
  clear e0
  obtain ⟨p0, h0⟩ : ∃ p, (inn 0 3 a) = p := ⟨_, rfl⟩
  obtain ⟨p1, h1⟩ : ∃ p, ((b == 0)) = p := ⟨_, rfl⟩
  rw [h0, h1]
  cases p0 <;> cases p1
  all_goals
    go_enter Try.func90, Try.ntmps90
    go_wp2_with (first | (go_at_call 107; refine (regC a _).mono ?_; rintro e w1 ⟨rfl, rfl⟩; rw [h0]))
    go_ret
    exact ⟨by simp, (Below.refl _ _).alloc (Nat.le_refl _) _⟩

set_option maxRecDepth 100000 in
set_option maxHeartbeats 1600000 in
theorem spec16 (a b c : Int) (w : World) : Calls Try.prog 90 #[opV 16 a b c] w fun e w' => e = .returned (.bool (opOk 16 a b c)) ∧ Below w.heap.size w w' := by
  show Calls _ _ #[.agg #[.int .i64 16, .int .i64 a, .int .i64 b, .int .i64 c]] _ _
  have e0 : opOk 16 a b c = (inn 0 3 a && (b == 0) && (c == 0)) := by simp only [← inn_zero]; rfl
  rw [e0]
  clear e0
  obtain ⟨p0, h0⟩ : ∃ p, (inn 0 3 a) = p := ⟨_, rfl⟩
  obtain ⟨p1, h1⟩ : ∃ p, ((b == 0)) = p := ⟨_, rfl⟩
  rw [h0, h1]
  cases p0 <;> cases p1
  all_goals
    go_enter Try.func90, Try.ntmps90
    go_wp2_with (first | (go_at_call 107; refine (regC a _).mono ?_; rintro e w1 ⟨rfl, rfl⟩; rw [h0]))
    go_ret
    exact ⟨by simp, (Below.refl _ _).alloc (Nat.le_refl _) _⟩

set_option maxRecDepth 100000 in
set_option maxHeartbeats 1600000 in
theorem specNone (k a b c : Int) (w : World) (h : k < 1 ∨ 16 < k) : Calls Try.prog 90 #[opV k a b c] w fun e w' => e = .returned (.bool (opOk k a b c)) ∧ Below w.heap.size w w' := by
  show Calls _ _ #[.agg #[.int .i64 k, .int .i64 a, .int .i64 b, .int .i64 c]] _ _
  have e0 : opOk k a b c = false := by unfold opOk; rw [spans_none h]
  rw [e0]
  clear e0
  have d1 : (k == 1) = false := by simp; omega
  have d2 : (k == 2) = false := by simp; omega
  have d3 : (k == 3) = false := by simp; omega
  have d4 : (k == 4) = false := by simp; omega
  have d5 : (k == 5) = false := by simp; omega
  have d6 : (k == 6) = false := by simp; omega
  have d7 : (k == 7) = false := by simp; omega
  have d8 : (k == 8) = false := by simp; omega
  have d9 : (k == 9) = false := by simp; omega
  have d10 : (k == 10) = false := by simp; omega
  have d11 : (k == 11) = false := by simp; omega
  have d12 : (k == 12) = false := by simp; omega
  have d13 : (k == 13) = false := by simp; omega
  have d14 : (k == 14) = false := by simp; omega
  have d15 : (k == 15) = false := by simp; omega
  have d16 : (k == 16) = false := by simp; omega
  clear h
  go_enter Try.func90, Try.ntmps90
  go_wp2
  go_ret
  exact ⟨rfl, (Below.refl _ _).alloc (Nat.le_refl _) _⟩

theorem specC (k a b c : Int) (w : World) : Calls Try.prog 90 #[opV k a b c] w fun e w' => e = .returned (.bool (opOk k a b c)) ∧ Below w.heap.size w w' := by
  rcases kinds k with rfl | rfl | rfl | rfl | rfl | rfl | rfl | rfl | rfl | rfl | rfl | rfl | rfl | rfl | rfl | rfl | h
  · exact spec1 a b c w
  · exact spec2 a b c w
  · exact spec3 a b c w
  · exact spec4 a b c w
  · exact spec5 a b c w
  · exact spec6 a b c w
  · exact spec7 a b c w
  · exact spec8 a b c w
  · exact spec9 a b c w
  · exact spec10 a b c w
  · exact spec11 a b c w
  · exact spec12 a b c w
  · exact spec13 a b c w
  · exact spec14 a b c w
  · exact spec15 a b c w
  · exact spec16 a b c w
  · exact specNone k a b c w h
end Ops
end Go.Proofs.Ytppkohkcffnghaa
/- The specification's Calc. -/
namespace Go.Proofs.Ytppkohkcffnghaa
open Go.RowKit
namespace Ops
open Bas

theorem may_kind {k a b c : Int} (h : opOk k a b c = true) (hk : k ≤ 4) : k = 1 ∨ k = 2 ∨ k = 3 ∨ k = 4 := by
  by_cases h1 : k < 1
  · unfold opOk at h; rw [spans_none (.inl h1)] at h; cases h
  · omega
theorem inn_out {lo hi x : Int} (h : inn lo hi x = true) : lo ≤ x ∧ x ≤ hi := by unfold inn at h; simpa using h
theorem ok_set {a b c : Int} (h : opOk 1 a b c = true) : (0 ≤ a ∧ a ≤ 3) ∧ (0 ≤ b ∧ b ≤ 65535) ∧ c = 0 := by
  have h' : (inn 0 3 a && inn 0 65535 b && inn 0 0 c) = true := h
  rw [Bool.and_eq_true, Bool.and_eq_true] at h'
  have := inn_out h'.2
  exact ⟨inn_out h'.1.1, inn_out h'.1.2, by omega⟩
theorem ok_regs {k a b c : Int} (hk : k = 2 ∨ k = 3 ∨ k = 4) (h : opOk k a b c = true) : (0 ≤ a ∧ a ≤ 3) ∧ (0 ≤ b ∧ b ≤ 3) ∧ (0 ≤ c ∧ c ≤ 3) := by
  have h' : (inn 0 3 a && inn 0 3 b && inn 0 3 c) = true := by rcases hk with rfl | rfl | rfl <;> exact h
  rw [Bool.and_eq_true, Bool.and_eq_true] at h'
  exact ⟨inn_out h'.1.1, inn_out h'.1.2, inn_out h'.2⟩
theorem may_ff {k a b c : Int} {zs : List Int} (h : opOk k a b c = false) : calcMay k a b c zs = false := by unfold calcMay; rw [h]; rfl
theorem may_tf {k a b c : Int} {zs : List Int} (h : opOk k a b c = true) (h2 : regsOk zs = false) : calcMay k a b c zs = false := by unfold calcMay; rw [h, h2]; rfl
theorem may_ttf {k a b c : Int} {zs : List Int} (h3 : ¬ k ≤ 4) : calcMay k a b c zs = false := by unfold calcMay; rw [decide_eq_false h3, Bool.and_false]
theorem may_ttt {k a b c : Int} {zs : List Int} (h : opOk k a b c = true) (h2 : regsOk zs = true) (h3 : k ≤ 4) : calcMay k a b c zs = true := by unfold calcMay; rw [h, h2, decide_eq_true h3]; rfl

/-- what both answer -/
def Calcs (f : FuncId) : Prop := ∀ (k a b c : Int) (v : Value) (zs : List Int) (B : Nat) (w : World), Ints.Sees B w v zs → B ≤ w.heap.size → zs.length ≤ 1048576 →
  Calls Try.prog f #[opV k a b c, v] w fun e w' => ∃ v', e = .returned (.tuple #[v', .bool (calcMay k a b c zs)]) ∧ Ints.Owns w.heap.size w' v' (calcTo k a b c zs) ∧ Below w.heap.size w w'
theorem calc_no {k a b c : Int} {zs : List Int} {B : Nat} {w w0 : World} {v : Value} (h : calcMay k a b c zs = false) (O : Ints.Owns B w v zs) (bel : Below B w0 w) :
    ∃ v', Ending.returned (.tuple #[v, .bool false]) = .returned (.tuple #[v', .bool (calcMay k a b c zs)]) ∧ Ints.Owns B w v' (calcTo k a b c zs) ∧ Below B w0 w := by
  rw [h, calcTo_no h]; exact ⟨v, rfl, O, bel⟩
theorem calc_yes {k a b c : Int} {zs : List Int} {B : Nat} {w w0 : World} {v : Value} {x : Int} {j : Nat} (h : calcMay k a b c zs = true) (ha : a = (j : Int)) (hx : reck k b c zs = x) (O : Ints.Owns B w v (zs.set j x)) (bel : Below B w0 w) :
    ∃ v', Ending.returned (.tuple #[v, .bool true]) = .returned (.tuple #[v', .bool (calcMay k a b c zs)]) ∧ Ints.Owns B w v' (calcTo k a b c zs) ∧ Below B w0 w := by
  rw [h, calcTo_yes h, hx, ha]; exact ⟨v, rfl, O, bel⟩
theorem set_len (zs : List Int) (j : Nat) (x : Int) (n : Nat) (h : zs.length = n) : (zs.set j x).length = n := by simp [h]
/-- a register's number as a place -/
theorem place {a : Int} (h : 0 ≤ a ∧ a ≤ 3) : ∃ j : Nat, a = (j : Int) ∧ j < 4 := ⟨a.toNat, by omega, by omega⟩
theorem getD_at {zs : List Int} {j : Nat} (hj : j < zs.length) : zs.getD ((j : Int)).toNat 0 = zs[j] := by simp [List.getD, hj]

theorem owns_form {B : Nat} {w : World} {v : Value} {zs : List Int} (h : Ints.Owns B w v zs) (hn : 0 < zs.length) : ∃ g cap, v = .slice (some ⟨g, 0, none⟩) zs.length cap ∧ B ≤ g ∧ g < w.heap.size := World.ownsRow.form h hn
theorem owns_low {B n e size g cap : Nat} {w : World} {xs : List Value} (h : w.ownsRow B e size (.slice (some ⟨g, 0, none⟩) n cap) n xs) : B ≤ g ∧ g < w.heap.size := by
  rcases h.2 with ⟨h', _⟩ | ⟨g', cap', cur, h', hb, hg, _⟩
  · cases h'
  · cases h'; exact ⟨hb, (Array.getElem?_eq_some_iff.1 hg).1⟩
theorem sees_out {B n cap : Nat} {w : World} {r : Option Addr} {zs : List Int} (h : Ints.Sees B w (.slice r n cap) zs) (hn : zs.length = 4) : True ∧ True ∧ True ∧ ∃ b off, r = some ⟨b, off, none⟩ ∧ b < B ∧ ∀ j (h : j < zs.length), w.cell? ⟨b, off + j, none⟩ = some (.int .i64 zs[j]) := by
  obtain ⟨a, c, e, -, -, h3⟩ := h
  cases e
  exact ⟨trivial, trivial, trivial, h3 (fun h => by simp [h] at hn)⟩

set_option maxRecDepth 100000 in
set_option maxHeartbeats 4000000 in
theorem calcSpecC : Calcs 100 := by
  intro k a b c v zs B w hv hB hlen
  obtain ⟨r, cap, rfl⟩ := hv.form
  have O0 := Blk.new w #[.int .i64 k, .int .i64 a, .int .i64 b, .int .i64 c] 30
  have b0 := alloc_below w (.cells #[.int .i64 k, .int .i64 a, .int .i64 b, .int .i64 c] 30)
  have hv0 := hv.on b0 hB
  have hs0 := O0.lt
  show Calls _ _ #[.agg #[.int .i64 k, .int .i64 a, .int .i64 b, .int .i64 c], _] _ _
  obtain ⟨n, hn⟩ : ∃ n, zs.length = n := ⟨_, rfl⟩
  obtain ⟨W0, hW0⟩ : ∃ W0, w.alloc (.cells #[.int .i64 k, .int .i64 a, .int .i64 b, .int .i64 c] 30) = W0 := ⟨_, rfl⟩
  rw [hW0] at O0 b0 hv0 hs0
  obtain ⟨v1, w1, hr, P1, b1⟩ := Ints.appLit _ 25 zs B W0 hv0 (by omega) hlen
  obtain ⟨g1, cap1, rfl⟩ := P1.form
  have O1 := O0.on b1 hs0
  have hv1 := hv0.on b1 (by omega)
  have bb := b0.trans (b1.mono b0.size)
  have P1 := P1.mono (show w.heap.size + 1 ≤ W0.heap.size from hs0)
  have cS := specC k a b c w1
  rw [hn] at hr hv1 P1 ⊢
  have eV : opV k a b c = .agg #[.int .i64 k, .int .i64 a, .int .i64 b, .int .i64 c] := rfl
  rw [eV] at cS
  have c0 := O1.cell 0; have c1 := O1.cell 1; have c2 := O1.cell 2; have c3 := O1.cell 3
  clear O0 hv0 eV
  go_enter Try.func100, Try.ntmps100
  go_wp2_with (at_builtin; refine wpList_app _ rfl _ _ 25 rfl _ _ _ _ rfl rfl hr ?_)
  refine cS.mono ?_
  rintro e w2 ⟨rfl, b2⟩
  have O2 := O1.on b2 O1.lt
  have hv2 := hv1.on b2 (by have := bb.size; omega)
  have P2 : Ints.Owns (w.heap.size + 1) w2 (.slice g1 n cap1) zs := P1.on b2 (Nat.le_refl _)
  have bb2 := bb.trans (b2.mono bb.size)
  clear cS O1 hv1 P1 b1 b2 bb c0 c1 c2 c3 hr hW0
  obtain ⟨p, hp⟩ : ∃ p, opOk k a b c = p := ⟨_, rfl⟩
  rw [hp]
  have HP : Hid (opOk k a b c = p) := hp
  clear hp
  cases p
  · go_wp2
    go_ret2
    exact calc_no (may_ff HP.out) (P2.mono (Nat.le_succ _)) bb2
  have cR := regsSpec _ zs _ w2 (hn ▸ hv2)
  rw [hn] at cR
  go_wp2_with fail
  refine cR.mono ?_
  rintro e w3 ⟨rfl, rfl⟩
  clear cR
  obtain ⟨q, hq⟩ : ∃ q, regsOk zs = q := ⟨_, rfl⟩
  rw [hq]
  have HQ : Hid (regsOk zs = q) := hq
  clear hq
  cases q
  · go_wp2
    go_ret2
    exact calc_no (may_tf HP.out HQ.out) (P2.mono (Nat.le_succ _)) bb2
  have c0 := O2.cell 0; have c1 := O2.cell 1; have c2 := O2.cell 2; have c3 := O2.cell 3
  by_cases hk : k ≤ 4
  · have HY : Hid (calcMay k a b c zs = true) := may_ttt HP.out HQ.out hk
    have hK := may_kind HP.out hk
    have hk' : decide (4 < k) = false := decide_eq_false (by omega)
    obtain ⟨h4, hval⟩ := regsOk_out HQ.out
    obtain rfl : n = 4 := by omega
    obtain ⟨g, rfl⟩ : ∃ g, g1 = some ⟨g, 0, none⟩ := by
      obtain ⟨g, cp, e, -, -⟩ := owns_form P2 (by omega)
      simp only [Value.slice.injEq] at e
      exact ⟨g, e.1⟩
    have Q2 : w2.ownsRow (w.heap.size + 1) 3 1 (.slice (some ⟨g, 0, none⟩) 4 cap1) 4 (Ints.iv zs) := h4 ▸ P2
    have hg' := (owns_low Q2).1
    have hg : w.heap.size ≤ g := by omega
    have z1 : ∀ (j : Nat) (u : Value), (w2.setCell ⟨g, j, none⟩ u).cell? ⟨w.heap.size, 1, none⟩ = some (.int .i64 a) := fun j u => ((Below.refl (w.heap.size + 1) w2).setCell hg' u).cell (p := ⟨w.heap.size, 1, none⟩) (Nat.lt_succ_self _) |>.trans c1
    have hfz := fun j => Q2.frozenAt j
    obtain ⟨-, -, -, hsee⟩ := sees_out hv2 h4
    obtain ⟨rb, ro, rfl, hrb, hcell⟩ := hsee
    clear hk P2 hv2 hv
    rcases hK with rfl | hK
    · obtain ⟨ha, -, -⟩ := ok_set HP.out
      obtain ⟨j, rfl, hj⟩ := place ha
      have i0 := Ints.owns_at Q2 j (by omega)
      clear hcell
      go_wp2
      go_ret2
      refine calc_yes HY.out rfl (show reck 1 b c zs = b from rfl) ?_ (bb2.setCell hg _)
      have := Ints.owns_set Q2 j b
      exact Ints.Owns.mono (by unfold Ints.Owns; rw [set_len zs j b 4 h4]; exact this) (Nat.le_succ _)
    · obtain ⟨ha, hb, hc⟩ := ok_regs hK HP.out
      obtain ⟨j, rfl, hj⟩ := place ha
      obtain ⟨jb, rfl, hjb⟩ := place hb
      obtain ⟨jc, rfl, hjc⟩ := place hc
      have i0 := Ints.owns_at Q2 j (by omega)
      have x0 := hcell jb (by omega)
      have y0 := hcell jc (by omega)
      obtain ⟨x1, x2⟩ := hval jb (by omega)
      obtain ⟨y1, y2⟩ := hval jc (by omega)
      have HX : Hid (zs.getD ((jb : Int)).toNat 0 = zs[jb]) := getD_at (by omega)
      have HY' : Hid (zs.getD ((jc : Int)).toNat 0 = zs[jc]) := getD_at (by omega)
      obtain ⟨x, hx⟩ : ∃ x, zs[jb] = x := ⟨_, rfl⟩
      obtain ⟨y, hy⟩ : ∃ y, zs[jc] = y := ⟨_, rfl⟩
      rw [hx] at x0 x1 x2 HX
      rw [hy] at y0 y1 y2 HY'
      have hown := fun z => Ints.owns_set Q2 j z
      clear hx hy hval hcell ha hb hc
      rcases hK with rfl | rfl | rfl
      · have HR : Hid (reck 2 (jb : Int) (jc : Int) zs = (x + y) % 65536) := by show reck _ _ _ _ = _; unfold reck; rw [HX.out, HY'.out]; rfl
        go_wp2
        go_ret2
        refine calc_yes HY.out rfl HR.out ?_ (bb2.setCell hg _)
        have := hown ((x + y) % 65536)
        exact Ints.Owns.mono (by unfold Ints.Owns; rw [set_len zs j _ 4 h4]; exact this) (Nat.le_succ _)
      · have HR : Hid (reck 3 (jb : Int) (jc : Int) zs = (x - y) % 65536) := by show reck _ _ _ _ = _; unfold reck; rw [HX.out, HY'.out]; simp
        go_wp2
        go_ret2
        refine calc_yes HY.out rfl HR.out ?_ (bb2.setCell hg _)
        have := hown ((x - y) % 65536)
        exact Ints.Owns.mono (by unfold Ints.Owns; rw [set_len zs j _ 4 h4]; exact this) (Nat.le_succ _)
      · by_cases hxy : x < y
        · have HR : Hid (reck 4 (jb : Int) (jc : Int) zs = 1) := by show reck _ _ _ _ = _; unfold reck; rw [HX.out, HY'.out]; simp [hxy]
          go_wp2
          go_ret2
          refine calc_yes HY.out rfl HR.out ?_ ((bb2.setCell hg _).setCell hg _)
          have := Ints.owns_set (hown 0) j 1
          rw [List.set_set] at this
          exact Ints.Owns.mono (by unfold Ints.Owns; rw [set_len zs j _ 4 h4]; exact this) (Nat.le_succ _)
        · have HR : Hid (reck 4 (jb : Int) (jc : Int) zs = 0) := by show reck _ _ _ _ = _; unfold reck; rw [HX.out, HY'.out]; simp [hxy]
          go_wp2
          go_ret2
          refine calc_yes HY.out rfl HR.out ?_ (bb2.setCell hg _)
          have := hown 0
          exact Ints.Owns.mono (by unfold Ints.Owns; rw [set_len zs j _ 4 h4]; exact this) (Nat.le_succ _)
  · have HK : Hid (¬ k ≤ 4) := hk
    have hk' : decide (4 < k) = true := decide_eq_true (by omega)
    clear hk
    go_wp2
    go_ret2
    exact calc_no (may_ttf (by have := HK.out; omega)) (P2.mono (Nat.le_succ _)) bb2
end Ops
end Go.Proofs.Ytppkohkcffnghaa
/- The table of reckonings and its functions. -/
set_option linter.unusedVariables false
namespace Go.Proofs.Ytppkohkcffnghaa
open Go.RowKit Go.Maps
namespace Ops
open Bas

theorem below_drewN {B : Nat} {a w : World} (h : Below B a w) : ∀ n, Below B a (w.drewN n)
  | 0 => h
  | n + 1 => by unfold World.drewN; exact (below_drewN h n).drew
/-- one where it is less, else nought -/
def lt01 (x y : Int) : Int := if x < y then 1 else 0
theorem lawInt : Keyed Try.prog 3 := int_keyed Try.underlying3
theorem zeroFn (w : World) : (zeroValue 163).run Try.prog w = .ok .nilFunc w := by kernel_rfl

/-- how a function of the table reads: by its number -/
def fnElem : Value → Option (DataW Unit × List MemPlace)
  | .func (.func n) a b => if a = #[] ∧ b = #[] then some (.lit (.int .i64 n), []) else none
  | .nilFunc => some (.lit (.bool false), [])
  | _ => none
theorem fnElem_mk (n : Nat) : fnElem (.func (.func n) #[] #[]) = some (.lit (.int .i64 n), []) := by simp [fnElem]
theorem fnElem_inv {v : Value} {n : Nat} {ps : List MemPlace} (h : fnElem v = some (.lit (.int .i64 n), ps)) : v = .func (.func n) #[] #[] := by
  unfold fnElem at h
  split at h
  · split at h
    · rename_i hc
      obtain ⟨rfl, rfl⟩ := hc
      simp at h
      rw [Int.natCast_inj.1 h.1]
    · cases h
  · simp at h
  · cases h

theorem wf1 : (Lit.int .i64 1).wf = true := by decide
theorem wf2 : (Lit.int .i64 2).wf = true := by decide
theorem wf3 : (Lit.int .i64 3).wf = true := by decide
theorem wf4 : (Lit.int .i64 4).wf = true := by decide

/-- what the table tells of a kind -/
def lookV (k : Int) : Value :=
  if k = 1 then .tuple #[.func (.func 130) #[] #[], .bool true]
  else if k = 2 then .tuple #[.func (.func 131) #[] #[], .bool true]
  else if k = 3 then .tuple #[.func (.func 132) #[] #[], .bool true]
  else if k = 4 then .tuple #[.func (.func 133) #[] #[], .bool true]
  else .tuple #[.nilFunc, .bool false]
def fnV (k : Int) : Value :=
  if k = 1 then .func (.func 130) #[] #[]
  else if k = 2 then .func (.func 131) #[] #[]
  else if k = 3 then .func (.func 132) #[] #[]
  else if k = 4 then .func (.func 133) #[] #[]
  else .nilFunc
def isFn (k : Int) : Bool := decide (1 ≤ k) && decide (k ≤ 4)
theorem lookV_eq (k : Int) : lookV k = .tuple #[fnV k, .bool (isFn k)] := by
  unfold lookV fnV isFn
  by_cases h1 : k = 1
  · subst h1; rfl
  by_cases h2 : k = 2
  · subst h2; rfl
  by_cases h3 : k = 3
  · subst h3; rfl
  by_cases h4 : k = 4
  · subst h4; rfl
  have e : (decide (1 ≤ k) && decide (k ≤ 4)) = false := by
    rw [Bool.and_eq_false_iff, decide_eq_false_iff_not, decide_eq_false_iff_not]; omega
  simp only [h1, h2, h3, h4, if_false, e]

def tab : DataW Unit := ((((DataW.map []).put (.int .i64 1) (.lit (.int .i64 (130 : Nat)))).put (.int .i64 2) (.lit (.int .i64 (131 : Nat)))).put (.int .i64 3) (.lit (.int .i64 (132 : Nat)))).put (.int .i64 4) (.lit (.int .i64 (133 : Nat)))
theorem tab_eq : tab = .map [(.int .i64 1, .lit (.int .i64 (130 : Nat))), (.int .i64 2, .lit (.int .i64 (131 : Nat))), (.int .i64 3, .lit (.int .i64 (132 : Nat))), (.int .i64 4, .lit (.int .i64 (133 : Nat)))] := by
  unfold tab; rfl

theorem look_tab {w : World} {b n : Nat} (h : w.ownsMap Try.prog 3 fnElem b n tab) (k : Int) (hk : (Lit.int .i64 k).wf = true) :
    (Instr.lookup 165 (.map (some b)) (.int .i64 k) true).run Try.prog w = .ok (lookV k) w := by
  obtain ⟨v, ps, hr, hv⟩ := h.look_ok lawInt Try.underlying165 (zeroFn w) (zd := .lit (.bool false)) (zp := []) rfl (keyOf_int_mk Try.underlying3 hk)
  rw [hr]
  rw [tab_eq] at hv ⊢
  unfold lookV
  by_cases h1 : k = 1
  · subst h1; rw [if_pos rfl, fnElem_inv hv]; rfl
  by_cases h2 : k = 2
  · subst h2; rw [if_neg (by decide), if_pos rfl, fnElem_inv hv]; rfl
  by_cases h3 : k = 3
  · subst h3; rw [if_neg (by decide), if_neg (by decide), if_pos rfl, fnElem_inv hv]; rfl
  by_cases h4 : k = 4
  · subst h4; rw [if_neg (by decide), if_neg (by decide), if_neg (by decide), if_pos rfl, fnElem_inv hv]; rfl
  rw [if_neg h1, if_neg h2, if_neg h3, if_neg h4]
  have e1 : ¬ (1 : Int) = k := fun h => h1 h.symm
  have e2 : ¬ (2 : Int) = k := fun h => h2 h.symm
  have e3 : ¬ (3 : Int) = k := fun h => h3 h.symm
  have e4 : ¬ (4 : Int) = k := fun h => h4 h.symm
  have hh : Maps.has (DataW.map [(.int .i64 1, (.lit (.int .i64 (130 : Nat)) : DataW Unit)), (.int .i64 2, .lit (.int .i64 (131 : Nat))), (.int .i64 3, .lit (.int .i64 (132 : Nat))), (.int .i64 4, .lit (.int .i64 (133 : Nat)))]) (.int .i64 k) = false := by
    simp [Maps.has, Lit.sameKey, e1, e2, e3, e4]
  have ha : (DataW.map [(.int .i64 1, (.lit (.int .i64 (130 : Nat)) : DataW Unit)), (.int .i64 2, .lit (.int .i64 (131 : Nat))), (.int .i64 3, .lit (.int .i64 (132 : Nat))), (.int .i64 4, .lit (.int .i64 (133 : Nat)))]).atKey (.int .i64 k) (.lit (.bool false)) = .lit (.bool false) := by
    simp [DataW.atKey, Lit.sameKey, e1, e2, e3, e4]
  rw [ha] at hv
  have hv' : v = .nilFunc := by
    unfold fnElem at hv
    split at hv
    · split at hv <;> simp at hv
    · rfl
    · cases hv
  rw [hh, hv']

set_option maxRecDepth 100000 in
set_option maxHeartbeats 1600000 in
theorem tableC (w : World) : Calls Try.prog 129 #[] w fun e w' => ∃ b, e = .returned (.map (some b)) ∧ (∀ k : Int, (Lit.int .i64 k).wf = true → (Instr.lookup 165 (.map (some b)) (.int .i64 k) true).run Try.prog w' = .ok (.tuple #[fnV k, .bool (isFn k)]) w') ∧ Below w.heap.size w w' := by
  have o0 := World.ownsMap_made w Try.prog 3 fnElem
  have b0 := alloc_below w (.map #[] 0)
  obtain ⟨w1, r1, o1, g1⟩ := o0.update lawInt Try.underlying165 (by unfold maxLen; omega) (keyOf_int_mk Try.underlying3 wf1) (fnElem_mk 130)
  obtain ⟨w2, r2, o2, g2⟩ := o1.update lawInt Try.underlying165 (by unfold maxLen; omega) (keyOf_int_mk Try.underlying3 wf2) (fnElem_mk 131)
  obtain ⟨w3, r3, o3, g3⟩ := o2.update lawInt Try.underlying165 (by unfold maxLen; omega) (keyOf_int_mk Try.underlying3 wf3) (fnElem_mk 132)
  obtain ⟨w4, r4, o4, g4⟩ := o3.update lawInt Try.underlying165 (by unfold maxLen; omega) (keyOf_int_mk Try.underlying3 wf4) (fnElem_mk 133)
  have hg := grownBy_trans (grownBy_trans (grownBy_trans g1 g2) g3) g4
  have bel := b0.grown hg (by simp) (fun k hk => by cases hk; exact Nat.le_refl _)
  have HL : Hid (∀ k : Int, (Lit.int .i64 k).wf = true → (Instr.lookup 165 (.map (some w.heap.size)) (.int .i64 k) true).run Try.prog w4 = .ok (.tuple #[fnV k, .bool (isFn k)]) w4) := fun k hk => lookV_eq k ▸ look_tab o4 k hk
  clear o0 o1 o2 o3 o4 g1 g2 g3 g4 hg b0
  have hmm := @run_makeMap Try.prog
  go_enter Try.func129, Try.ntmps129
  go_wp2
  go_ret
  exact ⟨_, rfl, HL.out, bel⟩

theorem u16_mod (n : Int) : wrap64 (IntKind.u16.wrap n) = n % 65536 := by
  have e : IntKind.u16.wrap n = n % 65536 := by simp [IntKind.wrap, IntKind.signed, IntKind.bits]
  rw [e]; unfold wrap64; omega
set_option maxRecDepth 100000 in
theorem wrappedC (n : Int) (w : World) : Calls Try.prog 127 #[.int .i64 n] w fun e w' => e = .returned (.int .i64 (n % 65536)) ∧ w = w' := by
  go_enter Try.func127, Try.ntmps127
  go_wp2
  go_ret
  exact ⟨congrArg (fun z => Ending.returned (.int .i64 z)) (u16_mod n), rfl⟩

set_option maxRecDepth 100000 in
theorem lessNumC (x y : Int) (w : World) : Calls Try.prog 134 #[.int .i64 x, .int .i64 y] w fun e w' => e = .returned (.int .i64 (lt01 x y)) ∧ w = w' := by
  unfold lt01
  by_cases h : x < y
  · rw [if_pos h]
    go_enter Try.func134, Try.ntmps134
    go_wp2
    go_ret
    exact ⟨rfl, rfl⟩
  · rw [if_neg h]
    go_enter Try.func134, Try.ntmps134
    go_wp2
    go_ret
    exact ⟨rfl, rfl⟩

set_option maxRecDepth 100000 in
theorem clo1C (k a b c : Int) (v : Value) (w : World) : Calls Try.prog 130 #[opV k a b c, v] w fun e w' => e = .returned (.int .i64 b) ∧ Below w.heap.size w w' := by
  show Calls _ _ #[.agg #[.int .i64 k, .int .i64 a, .int .i64 b, .int .i64 c], _] _ _
  go_enter Try.func130, Try.ntmps130
  go_wp2
  go_ret
  exact ⟨rfl, alloc_below _ _⟩

set_option maxRecDepth 100000 in
set_option maxHeartbeats 1600000 in
theorem clo2C (k a : Int) (jb jc : Nat) (hb : jb < 4) (hc : jc < 4) (rb ro cap : Nat) (x y : Int) (w : World) (hlt : rb < w.heap.size) (hx : w.cell? ⟨rb, ro + jb, none⟩ = some (.int .i64 x)) (hy : w.cell? ⟨rb, ro + jc, none⟩ = some (.int .i64 y))
    (x1 : 0 ≤ x) (x2 : x ≤ 65535) (y1 : 0 ≤ y) (y2 : y ≤ 65535) :
    Calls Try.prog 131 #[opV k a jb jc, .slice (some ⟨rb, ro, none⟩) 4 cap] w fun e w' => e = .returned (.int .i64 ((x + y) % 65536)) ∧ Below w.heap.size w w' := by
  show Calls _ _ #[.agg #[.int .i64 k, .int .i64 a, .int .i64 jb, .int .i64 jc], _] _ _
  have hx' := ((alloc_below w (.cells #[.int .i64 k, .int .i64 a, .int .i64 jb, .int .i64 jc] 30)).cell (p := ⟨rb, ro + jb, none⟩) hlt).trans hx
  have hy' := ((alloc_below w (.cells #[.int .i64 k, .int .i64 a, .int .i64 jb, .int .i64 jc] 30)).cell (p := ⟨rb, ro + jc, none⟩) hlt).trans hy
  have i1 : (0 : Int) ≤ jb := by omega
  have i2 : (jb : Int) < 4 := by omega
  have i3 : (0 : Int) ≤ jc := by omega
  have i4 : (jc : Int) < 4 := by omega
  go_enter Try.func131, Try.ntmps131
  go_wp2_with fail
  go_quiet ((go_at_call 127; exact Calls.quiet_of_same ((wrappedC _ _).mono fun e w' h => ⟨h.1, h.2.symm⟩)))
  go_wp2
  go_ret
  exact ⟨rfl, below_drewN (alloc_below _ _) _⟩

set_option maxRecDepth 100000 in
set_option maxHeartbeats 1600000 in
theorem clo3C (k a : Int) (jb jc : Nat) (hb : jb < 4) (hc : jc < 4) (rb ro cap : Nat) (x y : Int) (w : World) (hlt : rb < w.heap.size) (hx : w.cell? ⟨rb, ro + jb, none⟩ = some (.int .i64 x)) (hy : w.cell? ⟨rb, ro + jc, none⟩ = some (.int .i64 y))
    (x1 : 0 ≤ x) (x2 : x ≤ 65535) (y1 : 0 ≤ y) (y2 : y ≤ 65535) :
    Calls Try.prog 132 #[opV k a jb jc, .slice (some ⟨rb, ro, none⟩) 4 cap] w fun e w' => e = .returned (.int .i64 ((x - y) % 65536)) ∧ Below w.heap.size w w' := by
  show Calls _ _ #[.agg #[.int .i64 k, .int .i64 a, .int .i64 jb, .int .i64 jc], _] _ _
  have hx' := ((alloc_below w (.cells #[.int .i64 k, .int .i64 a, .int .i64 jb, .int .i64 jc] 30)).cell (p := ⟨rb, ro + jb, none⟩) hlt).trans hx
  have hy' := ((alloc_below w (.cells #[.int .i64 k, .int .i64 a, .int .i64 jb, .int .i64 jc] 30)).cell (p := ⟨rb, ro + jc, none⟩) hlt).trans hy
  have i1 : (0 : Int) ≤ jb := by omega
  have i2 : (jb : Int) < 4 := by omega
  have i3 : (0 : Int) ≤ jc := by omega
  have i4 : (jc : Int) < 4 := by omega
  go_enter Try.func132, Try.ntmps132
  go_wp2_with fail
  go_quiet ((go_at_call 127; exact Calls.quiet_of_same ((wrappedC _ _).mono fun e w' h => ⟨h.1, h.2.symm⟩)))
  go_wp2
  go_ret
  exact ⟨rfl, below_drewN (alloc_below _ _) _⟩

set_option maxRecDepth 100000 in
set_option maxHeartbeats 1600000 in
theorem clo4C (k a : Int) (jb jc : Nat) (hb : jb < 4) (hc : jc < 4) (rb ro cap : Nat) (x y : Int) (w : World) (hlt : rb < w.heap.size) (hx : w.cell? ⟨rb, ro + jb, none⟩ = some (.int .i64 x)) (hy : w.cell? ⟨rb, ro + jc, none⟩ = some (.int .i64 y))
    (x1 : 0 ≤ x) (x2 : x ≤ 65535) (y1 : 0 ≤ y) (y2 : y ≤ 65535) :
    Calls Try.prog 133 #[opV k a jb jc, .slice (some ⟨rb, ro, none⟩) 4 cap] w fun e w' => e = .returned (.int .i64 (lt01 x y)) ∧ Below w.heap.size w w' := by
  show Calls _ _ #[.agg #[.int .i64 k, .int .i64 a, .int .i64 jb, .int .i64 jc], _] _ _
  have hx' := ((alloc_below w (.cells #[.int .i64 k, .int .i64 a, .int .i64 jb, .int .i64 jc] 30)).cell (p := ⟨rb, ro + jb, none⟩) hlt).trans hx
  have hy' := ((alloc_below w (.cells #[.int .i64 k, .int .i64 a, .int .i64 jb, .int .i64 jc] 30)).cell (p := ⟨rb, ro + jc, none⟩) hlt).trans hy
  have i1 : (0 : Int) ≤ jb := by omega
  have i2 : (jb : Int) < 4 := by omega
  have i3 : (0 : Int) ≤ jc := by omega
  have i4 : (jc : Int) < 4 := by omega
  go_enter Try.func133, Try.ntmps133
  go_wp2_with fail
  go_quiet ((go_at_call 134; exact Calls.quiet_of_same ((lessNumC _ _ _).mono fun e w' h => ⟨h.1, h.2.symm⟩)))
  go_wp2
  go_ret
  exact ⟨rfl, below_drewN (alloc_below _ _) _⟩

end Ops
end Go.Proofs.Ytppkohkcffnghaa
/- The program's OpOk. -/
namespace Go.Proofs.Ytppkohkcffnghaa
open Go.RowKit
namespace Ops
open Bas

set_option maxRecDepth 100000 in
theorem hasC (lo hi x : Int) (w : World) : Calls Try.prog 117 #[.agg #[.int .i64 lo, .int .i64 hi], .int .i64 x] w fun e w' => e = .returned (.bool (inn lo hi x)) ∧ Below w.heap.size w w' := by
  unfold inn
  by_cases h1 : lo ≤ x
  · have h1' : decide (lo ≤ x) = true := decide_eq_true h1
    go_enter Try.func117, Try.ntmps117
    go_wp2
    go_ret
    exact ⟨by simp [h1], (Below.refl _ _).alloc (Nat.le_refl _) _⟩
  · have h1' : decide (lo ≤ x) = false := decide_eq_false h1
    go_enter Try.func117, Try.ntmps117
    go_wp2
    go_ret
    exact ⟨by simp, (Below.refl _ _).alloc (Nat.le_refl _) _⟩

/-- three spans as a value -/
def spV (p q r : Int × Int) : Value := .agg #[.int .i64 p.1, .int .i64 p.2, .int .i64 q.1, .int .i64 q.2, .int .i64 r.1, .int .i64 r.2]

/-- what the spans of a kind are, given back -/
def SpOf (k : Int) : Prop := ∀ w : World, Calls Try.prog 116 #[.int .i64 k] w fun e w' =>
  e = .returned (match spans k with | none => .tuple #[spV (0, 0) (0, 0) (0, 0), .bool false] | some (p, q, r) => .tuple #[spV p q r, .bool true]) ∧ Below w.heap.size w w'

set_option maxRecDepth 100000 in
set_option maxHeartbeats 1600000 in
theorem spans1 : SpOf 1 := by
  intro w
  show Calls _ _ _ _ (fun e w' => e = .returned (.tuple #[.agg #[.int .i64 0, .int .i64 3, .int .i64 0, .int .i64 65535, .int .i64 0, .int .i64 0], .bool true]) ∧ Below w.heap.size w w')
  go_enter Try.func116, Try.ntmps116
  go_wp2
  refine bodyPost_ret (v := .tuple #[.agg #[.int .i64 0, .int .i64 3, .int .i64 0, .int .i64 65535, .int .i64 0, .int .i64 0], .bool true]) (by simp [results, Try.results116, go_sem]) rfl ⟨rfl, ?_⟩
  exact ((((Below.refl _ _).alloc (Nat.le_refl _) _).alloc (by simp) _).alloc (by simp; omega) _).alloc (by simp; omega) _

set_option maxRecDepth 100000 in
set_option maxHeartbeats 1600000 in
theorem spans2 : SpOf 2 := by
  intro w
  show Calls _ _ _ _ (fun e w' => e = .returned (.tuple #[.agg #[.int .i64 0, .int .i64 3, .int .i64 0, .int .i64 3, .int .i64 0, .int .i64 3], .bool true]) ∧ Below w.heap.size w w')
  go_enter Try.func116, Try.ntmps116
  go_wp2
  refine bodyPost_ret (v := .tuple #[.agg #[.int .i64 0, .int .i64 3, .int .i64 0, .int .i64 3, .int .i64 0, .int .i64 3], .bool true]) (by simp [results, Try.results116, go_sem]) rfl ⟨rfl, ?_⟩
  exact ((((Below.refl _ _).alloc (Nat.le_refl _) _).alloc (by simp) _).alloc (by simp; omega) _).alloc (by simp; omega) _

set_option maxRecDepth 100000 in
set_option maxHeartbeats 1600000 in
theorem spans3 : SpOf 3 := by
  intro w
  show Calls _ _ _ _ (fun e w' => e = .returned (.tuple #[.agg #[.int .i64 0, .int .i64 3, .int .i64 0, .int .i64 3, .int .i64 0, .int .i64 3], .bool true]) ∧ Below w.heap.size w w')
  go_enter Try.func116, Try.ntmps116
  go_wp2
  refine bodyPost_ret (v := .tuple #[.agg #[.int .i64 0, .int .i64 3, .int .i64 0, .int .i64 3, .int .i64 0, .int .i64 3], .bool true]) (by simp [results, Try.results116, go_sem]) rfl ⟨rfl, ?_⟩
  exact ((((Below.refl _ _).alloc (Nat.le_refl _) _).alloc (by simp) _).alloc (by simp; omega) _).alloc (by simp; omega) _

set_option maxRecDepth 100000 in
set_option maxHeartbeats 1600000 in
theorem spans4 : SpOf 4 := by
  intro w
  show Calls _ _ _ _ (fun e w' => e = .returned (.tuple #[.agg #[.int .i64 0, .int .i64 3, .int .i64 0, .int .i64 3, .int .i64 0, .int .i64 3], .bool true]) ∧ Below w.heap.size w w')
  go_enter Try.func116, Try.ntmps116
  go_wp2
  refine bodyPost_ret (v := .tuple #[.agg #[.int .i64 0, .int .i64 3, .int .i64 0, .int .i64 3, .int .i64 0, .int .i64 3], .bool true]) (by simp [results, Try.results116, go_sem]) rfl ⟨rfl, ?_⟩
  exact ((((Below.refl _ _).alloc (Nat.le_refl _) _).alloc (by simp) _).alloc (by simp; omega) _).alloc (by simp; omega) _

set_option maxRecDepth 100000 in
set_option maxHeartbeats 1600000 in
theorem spans5 : SpOf 5 := by
  intro w
  show Calls _ _ _ _ (fun e w' => e = .returned (.tuple #[.agg #[.int .i64 0, .int .i64 3, .int .i64 0, .int .i64 7, .int .i64 0, .int .i64 0], .bool true]) ∧ Below w.heap.size w w')
  go_enter Try.func116, Try.ntmps116
  go_wp2
  refine bodyPost_ret (v := .tuple #[.agg #[.int .i64 0, .int .i64 3, .int .i64 0, .int .i64 7, .int .i64 0, .int .i64 0], .bool true]) (by simp [results, Try.results116, go_sem]) rfl ⟨rfl, ?_⟩
  exact ((((Below.refl _ _).alloc (Nat.le_refl _) _).alloc (by simp) _).alloc (by simp; omega) _).alloc (by simp; omega) _

set_option maxRecDepth 100000 in
set_option maxHeartbeats 1600000 in
theorem spans6 : SpOf 6 := by
  intro w
  show Calls _ _ _ _ (fun e w' => e = .returned (.tuple #[.agg #[.int .i64 0, .int .i64 7, .int .i64 0, .int .i64 3, .int .i64 0, .int .i64 0], .bool true]) ∧ Below w.heap.size w w')
  go_enter Try.func116, Try.ntmps116
  go_wp2
  refine bodyPost_ret (v := .tuple #[.agg #[.int .i64 0, .int .i64 7, .int .i64 0, .int .i64 3, .int .i64 0, .int .i64 0], .bool true]) (by simp [results, Try.results116, go_sem]) rfl ⟨rfl, ?_⟩
  exact ((((Below.refl _ _).alloc (Nat.le_refl _) _).alloc (by simp) _).alloc (by simp; omega) _).alloc (by simp; omega) _

set_option maxRecDepth 100000 in
set_option maxHeartbeats 1600000 in
theorem spans7 : SpOf 7 := by
  intro w
  show Calls _ _ _ _ (fun e w' => e = .returned (.tuple #[.agg #[.int .i64 0, .int .i64 3, .int .i64 1, .int .i64 20, .int .i64 0, .int .i64 0], .bool true]) ∧ Below w.heap.size w w')
  go_enter Try.func116, Try.ntmps116
  go_wp2
  refine bodyPost_ret (v := .tuple #[.agg #[.int .i64 0, .int .i64 3, .int .i64 1, .int .i64 20, .int .i64 0, .int .i64 0], .bool true]) (by simp [results, Try.results116, go_sem]) rfl ⟨rfl, ?_⟩
  exact ((((Below.refl _ _).alloc (Nat.le_refl _) _).alloc (by simp) _).alloc (by simp; omega) _).alloc (by simp; omega) _

set_option maxRecDepth 100000 in
set_option maxHeartbeats 1600000 in
theorem spans8 : SpOf 8 := by
  intro w
  show Calls _ _ _ _ (fun e w' => e = .returned (.tuple #[.agg #[.int .i64 0, .int .i64 3, .int .i64 0, .int .i64 0, .int .i64 0, .int .i64 0], .bool true]) ∧ Below w.heap.size w w')
  go_enter Try.func116, Try.ntmps116
  go_wp2
  refine bodyPost_ret (v := .tuple #[.agg #[.int .i64 0, .int .i64 3, .int .i64 0, .int .i64 0, .int .i64 0, .int .i64 0], .bool true]) (by simp [results, Try.results116, go_sem]) rfl ⟨rfl, ?_⟩
  exact ((((Below.refl _ _).alloc (Nat.le_refl _) _).alloc (by simp) _).alloc (by simp; omega) _).alloc (by simp; omega) _

set_option maxRecDepth 100000 in
set_option maxHeartbeats 1600000 in
theorem spans9 : SpOf 9 := by
  intro w
  show Calls _ _ _ _ (fun e w' => e = .returned (.tuple #[.agg #[.int .i64 0, .int .i64 0, .int .i64 0, .int .i64 0, .int .i64 0, .int .i64 0], .bool true]) ∧ Below w.heap.size w w')
  go_enter Try.func116, Try.ntmps116
  go_wp2
  refine bodyPost_ret (v := .tuple #[.agg #[.int .i64 0, .int .i64 0, .int .i64 0, .int .i64 0, .int .i64 0, .int .i64 0], .bool true]) (by simp [results, Try.results116, go_sem]) rfl ⟨rfl, ?_⟩
  exact ((((Below.refl _ _).alloc (Nat.le_refl _) _).alloc (by simp) _).alloc (by simp; omega) _).alloc (by simp; omega) _

set_option maxRecDepth 100000 in
set_option maxHeartbeats 1600000 in
theorem spans10 : SpOf 10 := by
  intro w
  show Calls _ _ _ _ (fun e w' => e = .returned (.tuple #[.agg #[.int .i64 0, .int .i64 0, .int .i64 0, .int .i64 0, .int .i64 0, .int .i64 0], .bool true]) ∧ Below w.heap.size w w')
  go_enter Try.func116, Try.ntmps116
  go_wp2
  refine bodyPost_ret (v := .tuple #[.agg #[.int .i64 0, .int .i64 0, .int .i64 0, .int .i64 0, .int .i64 0, .int .i64 0], .bool true]) (by simp [results, Try.results116, go_sem]) rfl ⟨rfl, ?_⟩
  exact ((((Below.refl _ _).alloc (Nat.le_refl _) _).alloc (by simp) _).alloc (by simp; omega) _).alloc (by simp; omega) _

set_option maxRecDepth 100000 in
set_option maxHeartbeats 1600000 in
theorem spans11 : SpOf 11 := by
  intro w
  show Calls _ _ _ _ (fun e w' => e = .returned (.tuple #[.agg #[.int .i64 0, .int .i64 0, .int .i64 0, .int .i64 0, .int .i64 0, .int .i64 0], .bool true]) ∧ Below w.heap.size w w')
  go_enter Try.func116, Try.ntmps116
  go_wp2
  refine bodyPost_ret (v := .tuple #[.agg #[.int .i64 0, .int .i64 0, .int .i64 0, .int .i64 0, .int .i64 0, .int .i64 0], .bool true]) (by simp [results, Try.results116, go_sem]) rfl ⟨rfl, ?_⟩
  exact ((((Below.refl _ _).alloc (Nat.le_refl _) _).alloc (by simp) _).alloc (by simp; omega) _).alloc (by simp; omega) _

set_option maxRecDepth 100000 in
set_option maxHeartbeats 1600000 in
theorem spans12 : SpOf 12 := by
  intro w
  show Calls _ _ _ _ (fun e w' => e = .returned (.tuple #[.agg #[.int .i64 0, .int .i64 7, .int .i64 0, .int .i64 3, .int .i64 0, .int .i64 3], .bool true]) ∧ Below w.heap.size w w')
  go_enter Try.func116, Try.ntmps116
  go_wp2
  refine bodyPost_ret (v := .tuple #[.agg #[.int .i64 0, .int .i64 7, .int .i64 0, .int .i64 3, .int .i64 0, .int .i64 3], .bool true]) (by simp [results, Try.results116, go_sem]) rfl ⟨rfl, ?_⟩
  exact ((((Below.refl _ _).alloc (Nat.le_refl _) _).alloc (by simp) _).alloc (by simp; omega) _).alloc (by simp; omega) _

set_option maxRecDepth 100000 in
set_option maxHeartbeats 1600000 in
theorem spans13 : SpOf 13 := by
  intro w
  show Calls _ _ _ _ (fun e w' => e = .returned (.tuple #[.agg #[.int .i64 0, .int .i64 3, .int .i64 0, .int .i64 7, .int .i64 0, .int .i64 0], .bool true]) ∧ Below w.heap.size w w')
  go_enter Try.func116, Try.ntmps116
  go_wp2
  refine bodyPost_ret (v := .tuple #[.agg #[.int .i64 0, .int .i64 3, .int .i64 0, .int .i64 7, .int .i64 0, .int .i64 0], .bool true]) (by simp [results, Try.results116, go_sem]) rfl ⟨rfl, ?_⟩
  exact ((((Below.refl _ _).alloc (Nat.le_refl _) _).alloc (by simp) _).alloc (by simp; omega) _).alloc (by simp; omega) _

set_option maxRecDepth 100000 in
set_option maxHeartbeats 1600000 in
theorem spans14 : SpOf 14 := by
  intro w
  show Calls _ _ _ _ (fun e w' => e = .returned (.tuple #[.agg #[.int .i64 0, .int .i64 7, .int .i64 0, .int .i64 3, .int .i64 0, .int .i64 0], .bool true]) ∧ Below w.heap.size w w')
  go_enter Try.func116, Try.ntmps116
  go_wp2
  refine bodyPost_ret (v := .tuple #[.agg #[.int .i64 0, .int .i64 7, .int .i64 0, .int .i64 3, .int .i64 0, .int .i64 0], .bool true]) (by simp [results, Try.results116, go_sem]) rfl ⟨rfl, ?_⟩
  exact ((((Below.refl _ _).alloc (Nat.le_refl _) _).alloc (by simp) _).alloc (by simp; omega) _).alloc (by simp; omega) _

set_option maxRecDepth 100000 in
set_option maxHeartbeats 1600000 in
theorem spans15 : SpOf 15 := by
  intro w
  show Calls _ _ _ _ (fun e w' => e = .returned (.tuple #[.agg #[.int .i64 0, .int .i64 3, .int .i64 0, .int .i64 0, .int .i64 0, .int .i64 0], .bool true]) ∧ Below w.heap.size w w')
  go_enter Try.func116, Try.ntmps116
  go_wp2
  refine bodyPost_ret (v := .tuple #[.agg #[.int .i64 0, .int .i64 3, .int .i64 0, .int .i64 0, .int .i64 0, .int .i64 0], .bool true]) (by simp [results, Try.results116, go_sem]) rfl ⟨rfl, ?_⟩
  exact ((((Below.refl _ _).alloc (Nat.le_refl _) _).alloc (by simp) _).alloc (by simp; omega) _).alloc (by simp; omega) _

set_option maxRecDepth 100000 in
set_option maxHeartbeats 1600000 in
theorem spans16 : SpOf 16 := by
  intro w
  show Calls _ _ _ _ (fun e w' => e = .returned (.tuple #[.agg #[.int .i64 0, .int .i64 3, .int .i64 0, .int .i64 0, .int .i64 0, .int .i64 0], .bool true]) ∧ Below w.heap.size w w')
  go_enter Try.func116, Try.ntmps116
  go_wp2
  refine bodyPost_ret (v := .tuple #[.agg #[.int .i64 0, .int .i64 3, .int .i64 0, .int .i64 0, .int .i64 0, .int .i64 0], .bool true]) (by simp [results, Try.results116, go_sem]) rfl ⟨rfl, ?_⟩
  exact ((((Below.refl _ _).alloc (Nat.le_refl _) _).alloc (by simp) _).alloc (by simp; omega) _).alloc (by simp; omega) _

set_option maxRecDepth 100000 in
set_option maxHeartbeats 1600000 in
theorem spansNo (k : Int) (h : k < 1 ∨ 16 < k) : SpOf k := by
  intro w
  rw [spans_none h]
  have d1 : (k == 1) = false := by simp; omega
  have d2 : (k == 2) = false := by simp; omega
  have d3 : (k == 3) = false := by simp; omega
  have d4 : (k == 4) = false := by simp; omega
  have d5 : (k == 5) = false := by simp; omega
  have d6 : (k == 6) = false := by simp; omega
  have d7 : (k == 7) = false := by simp; omega
  have d8 : (k == 8) = false := by simp; omega
  have d9 : (k == 9) = false := by simp; omega
  have d10 : (k == 10) = false := by simp; omega
  have d11 : (k == 11) = false := by simp; omega
  have d12 : (k == 12) = false := by simp; omega
  have d13 : (k == 13) = false := by simp; omega
  have d14 : (k == 14) = false := by simp; omega
  have d15 : (k == 15) = false := by simp; omega
  have d16 : (k == 16) = false := by simp; omega
  clear h
  show Calls _ _ _ _ (fun e w' => e = .returned (.tuple #[.agg #[.int .i64 0, .int .i64 0, .int .i64 0, .int .i64 0, .int .i64 0, .int .i64 0], .bool false]) ∧ Below w.heap.size w w')
  go_enter Try.func116, Try.ntmps116
  go_wp2
  refine bodyPost_ret (v := .tuple #[.agg #[.int .i64 0, .int .i64 0, .int .i64 0, .int .i64 0, .int .i64 0, .int .i64 0], .bool false]) (by simp [results, Try.results116, go_sem]) rfl ⟨rfl, ?_⟩
  exact ((((Below.refl _ _).alloc (Nat.le_refl _) _).alloc (by simp) _).alloc (by simp; omega) _).alloc (by simp; omega) _

theorem spansC (k : Int) : SpOf k := by
  rcases kinds k with rfl | rfl | rfl | rfl | rfl | rfl | rfl | rfl | rfl | rfl | rfl | rfl | rfl | rfl | rfl | rfl | h
  · exact spans1
  · exact spans2
  · exact spans3
  · exact spans4
  · exact spans5
  · exact spans6
  · exact spans7
  · exact spans8
  · exact spans9
  · exact spans10
  · exact spans11
  · exact spans12
  · exact spans13
  · exact spans14
  · exact spans15
  · exact spans16
  · exact spansNo k h

set_option maxRecDepth 100000 in
set_option maxHeartbeats 1600000 in
theorem implSome (k a b c p0 p1 q0 q1 r0 r1 : Int) (w : World)
    (hS : ∀ W : World, Calls Try.prog 116 #[.int .i64 k] W fun e w' => e = .returned (.tuple #[.agg #[.int .i64 p0, .int .i64 p1, .int .i64 q0, .int .i64 q1, .int .i64 r0, .int .i64 r1], .bool true]) ∧ Below W.heap.size W w') :
    Calls Try.prog 109 #[opV k a b c] w fun e w' => e = .returned (.bool (inn p0 p1 a && inn q0 q1 b && inn r0 r1 c)) ∧ Below w.heap.size w w' := by
  show Calls _ _ #[.agg #[.int .i64 k, .int .i64 a, .int .i64 b, .int .i64 c]] _ _
  obtain ⟨x, hx⟩ : ∃ p, inn p0 p1 a = p := ⟨_, rfl⟩
  obtain ⟨y, hy⟩ : ∃ p, inn q0 q1 b = p := ⟨_, rfl⟩
  obtain ⟨z, hz⟩ : ∃ p, inn r0 r1 c = p := ⟨_, rfl⟩
  rw [hx, hy, hz]
  have O0 := Blk.new w #[.int .i64 k, .int .i64 a, .int .i64 b, .int .i64 c] 30
  have b0 := alloc_below w (.cells #[.int .i64 k, .int .i64 a, .int .i64 b, .int .i64 c] 30)
  obtain ⟨W0, hW0⟩ : ∃ W0, w.alloc (.cells #[.int .i64 k, .int .i64 a, .int .i64 b, .int .i64 c] 30) = W0 := ⟨_, rfl⟩
  rw [hW0] at O0 b0
  have k0 := O0.cell 0
  have hs0 := O0.lt
  go_enter Try.func109, Try.ntmps109
  go_wp2_with fail
  clear hW0 k0
  refine (hS W0).mono ?_
  rintro e w1 ⟨rfl, b1⟩
  have O1 := O0.on b1 hs0
  have O2 := O1.on (alloc_below w1 (.cells #[.int .i64 p0, .int .i64 p1, .int .i64 q0, .int .i64 q1, .int .i64 r0, .int .i64 r1] 150)) O1.lt
  have P2 := Blk.new w1 #[.int .i64 p0, .int .i64 p1, .int .i64 q0, .int .i64 q1, .int .i64 r0, .int .i64 r1] 150
  have b2 := (b0.trans (b1.mono b0.size)).alloc (by have := b0.size; have := b1.size; omega) (.cells #[.int .i64 p0, .int .i64 p1, .int .i64 q0, .int .i64 q1, .int .i64 r0, .int .i64 r1] 150)
  obtain ⟨W2, hW2⟩ : ∃ W2, w1.alloc (.cells #[.int .i64 p0, .int .i64 p1, .int .i64 q0, .int .i64 q1, .int .i64 r0, .int .i64 r1] 150) = W2 := ⟨_, rfl⟩
  obtain ⟨p, hp⟩ : ∃ p, w1.heap.size = p := ⟨_, rfl⟩
  rw [hW2] at O2 P2 b2
  rw [hp] at P2
  clear O0 b0 b1 O1 hS
  have k1 := O2.cell 1
  have j0 := P2.cell 0; have j1 := P2.cell 1
  go_wp2_with fail
  clear hW2 hp k1 j0 j1
  refine (hasC p0 p1 a W2).mono ?_
  rintro e w3 ⟨rfl, b3⟩
  rw [hx]
  have O3 := O2.on b3 O2.lt; have P3 := P2.on b3 P2.lt
  have b3 := b2.trans (b3.mono b2.size)
  clear O2 P2 b2
  cases x
  · go_wp2
    go_ret
    exact ⟨by simp, b3⟩
  have k2 := O3.cell 2
  have j2 := P3.cell 2; have j3 := P3.cell 3
  go_wp2_with fail
  clear k2 j2 j3
  refine (hasC q0 q1 b w3).mono ?_
  rintro e w4 ⟨rfl, b4⟩
  rw [hy]
  have O4 := O3.on b4 O3.lt; have P4 := P3.on b4 P3.lt
  have b4 := b3.trans (b4.mono b3.size)
  clear O3 P3 b3
  cases y
  · go_wp2
    go_ret
    exact ⟨by simp, b4⟩
  have k3 := O4.cell 3
  have j4 := P4.cell 4; have j5 := P4.cell 5
  go_wp2_with fail
  clear k3 j4 j5
  refine (hasC r0 r1 c w4).mono ?_
  rintro e w5 ⟨rfl, b5⟩
  rw [hz]
  have b5 := b4.trans (b5.mono b4.size)
  go_wp2
  go_ret
  exact ⟨by simp, b5⟩

set_option maxRecDepth 100000 in
set_option maxHeartbeats 1600000 in
theorem implNone (k a b c : Int) (w : World)
    (hS : ∀ W : World, Calls Try.prog 116 #[.int .i64 k] W fun e w' => e = .returned (.tuple #[.agg #[.int .i64 0, .int .i64 0, .int .i64 0, .int .i64 0, .int .i64 0, .int .i64 0], .bool false]) ∧ Below W.heap.size W w') :
    Calls Try.prog 109 #[opV k a b c] w fun e w' => e = .returned (.bool false) ∧ Below w.heap.size w w' := by
  show Calls _ _ #[.agg #[.int .i64 k, .int .i64 a, .int .i64 b, .int .i64 c]] _ _
  have b0 := alloc_below w (.cells #[.int .i64 k, .int .i64 a, .int .i64 b, .int .i64 c] 30)
  go_enter Try.func109, Try.ntmps109
  go_wp2_with fail
  refine (hS _).mono ?_
  rintro e w1 ⟨rfl, b1⟩
  go_wp2
  go_ret
  exact ⟨rfl, (b0.trans (b1.mono b0.size)).alloc (by have := b0.size; have := b1.size; omega) _⟩

theorem implC (k a b c : Int) (w : World) : Calls Try.prog 109 #[opV k a b c] w fun e w' => e = .returned (.bool (opOk k a b c)) ∧ Below w.heap.size w w' := by
  have hS := spansC k
  unfold SpOf at hS
  unfold opOk
  rcases hs : spans k with _ | ⟨⟨p0, p1⟩, ⟨q0, q1⟩, ⟨r0, r1⟩⟩
  · rw [hs] at hS
    exact implNone k a b c w hS
  · rw [hs] at hS
    exact implSome k a b c p0 p1 q0 q1 r0 r1 w hS
end Ops
end Go.Proofs.Ytppkohkcffnghaa
/- The program's Calc. -/
set_option linter.unusedVariables false
namespace Go.Proofs.Ytppkohkcffnghaa
open Go.RowKit
namespace Ops
open Bas

theorem undrew {B : Nat} {w w' : World} (h : Below B w.drew w') : Below B w w' := ⟨h.os, h.tape, h.output, h.size, h.block⟩
theorem past {W : World} {p g : Nat} {cs : Array Value} {t : TypeId} (h : Blk W p cs t) (hne : p < g) (j : Nat) (u : Value) : Blk (W.setCell ⟨g, j, none⟩ u) p cs t :=
  h.on ((Below.refl (p + 1) W).setCell (show p + 1 ≤ g from hne) u) (Nat.lt_succ_self _)
theorem isFn_no {k a b c : Int} {zs : List Int} (h : isFn k = false) : calcMay k a b c zs = false := by
  unfold calcMay
  by_cases h4 : k ≤ 4
  · have : k < 1 := by
      unfold isFn at h; rw [decide_eq_true h4, Bool.and_true] at h
      have := of_decide_eq_false h; omega
    have e : opOk k a b c = false := by unfold opOk; rw [spans_none (.inl this)]
    rw [e]; rfl
  · rw [decide_eq_false h4, Bool.and_false]
theorem isFn_yes {k : Int} (h : isFn k = true) : k = 1 ∨ k = 2 ∨ k = 3 ∨ k = 4 := by
  unfold isFn at h; simp at h; omega

set_option maxRecDepth 100000 in
set_option maxHeartbeats 4000000 in
theorem calcImplC (k a b c : Int) (v : Value) (zs : List Int) (B : Nat) (w : World) (hwf : (Lit.int .i64 k).wf = true) (hv : Ints.Sees B w v zs) (hB : B ≤ w.heap.size) (hlen : zs.length ≤ 1048576) :
    Calls Try.prog 128 #[opV k a b c, v] w fun e w' => ∃ v', e = .returned (.tuple #[v', .bool (calcMay k a b c zs)]) ∧ Ints.Owns w.heap.size w' v' (calcTo k a b c zs) ∧ Below w.heap.size w w' := by
  obtain ⟨r, cap, rfl⟩ := hv.form
  have O0 := Blk.new w #[.int .i64 k, .int .i64 a, .int .i64 b, .int .i64 c] 30
  have b0 := alloc_below w (.cells #[.int .i64 k, .int .i64 a, .int .i64 b, .int .i64 c] 30)
  have hv0 := hv.on b0 hB
  have hs0 := O0.lt
  show Calls _ _ #[.agg #[.int .i64 k, .int .i64 a, .int .i64 b, .int .i64 c], _] _ _
  obtain ⟨n, hn⟩ : ∃ n, zs.length = n := ⟨_, rfl⟩
  obtain ⟨W0, hW0⟩ : ∃ W0, w.alloc (.cells #[.int .i64 k, .int .i64 a, .int .i64 b, .int .i64 c] 30) = W0 := ⟨_, rfl⟩
  rw [hW0] at O0 b0 hv0 hs0
  obtain ⟨v1, w1, hr, P1, b1⟩ := Ints.appNil _ 25 zs B W0 hv0 hlen
  obtain ⟨g1, cap1, rfl⟩ := P1.form
  have O1 := O0.on b1 hs0
  have hv1 := hv0.on b1 (by omega)
  have bb := b0.trans (b1.mono b0.size)
  have P1 := P1.mono (show w.heap.size + 1 ≤ W0.heap.size from hs0)
  rw [hn] at hr hv1 P1 ⊢
  have c0 := O1.cell 0
  clear O0 hv0
  go_enter Try.func128, Try.ntmps128
  go_wp2_with (at_builtin; refine wpList_app _ rfl _ _ 25 rfl _ _ _ _ rfl rfl hr ?_)
  clear hr hW0
  go_region_held3 (fun W => W.cell? ⟨w.heap.size, 0, none⟩ = some (.int .i64 k)) (go_keep) ((go_at_call 129; refine (tableC _).mono ?_; rintro e w2 ⟨bt, rfl, hlk, b2⟩; have hlk2 := hlk k hwf; have c0' := (O1.drew.on b2 O1.drew.lt).cell 0))
  have b2 : Below w1.heap.size w1 w2 := undrew b2
  have O2 := O1.on b2 O1.lt
  have hv2 := hv1.on b2 (by have := bb.size; omega)
  have P2 : Ints.Owns (w.heap.size + 1) w2 (.slice g1 n cap1) zs := P1.on b2 (Nat.le_refl _)
  have bb2 := bb.trans (b2.mono bb.size)
  clear hlk hlk2 c0 c0' O1 hv1 P1 b1 b2 bb
  rename_i hheld
  clear hheld
  obtain ⟨q, hq⟩ : ∃ q, isFn k = q := ⟨_, rfl⟩
  rw [hq]
  have HF : Hid (isFn k = q) := hq
  clear hq
  cases q
  · go_wp2
    go_ret2
    exact calc_no (isFn_no HF.out) (P2.mono (Nat.le_succ _)) bb2
  have c0 := O2.cell 0; have c1 := O2.cell 1; have c2 := O2.cell 2; have c3 := O2.cell 3
  have cS := implC k a b c w2
  have eV : opV k a b c = .agg #[.int .i64 k, .int .i64 a, .int .i64 b, .int .i64 c] := rfl
  rw [eV] at cS
  go_wp2_with fail
  refine cS.mono ?_
  rintro e w3 ⟨rfl, b3⟩
  have O3 := O2.on b3 O2.lt
  have hv3 := hv2.on b3 (by have := bb2.size; omega)
  have P3 : Ints.Owns (w.heap.size + 1) w3 (.slice g1 n cap1) zs := P2.on b3 (Nat.le_refl _)
  have bb3 := bb2.trans (b3.mono bb2.size)
  clear cS eV O2 hv2 P2 b3 bb2 c0 c1 c2 c3
  obtain ⟨p, hp⟩ : ∃ p, opOk k a b c = p := ⟨_, rfl⟩
  rw [hp]
  have HP : Hid (opOk k a b c = p) := hp
  clear hp
  cases p
  · go_wp2
    go_ret2
    exact calc_no (may_ff HP.out) (P3.mono (Nat.le_succ _)) bb3
  have cR := regsImpl _ zs _ w3 (hn ▸ hv3)
  rw [hn] at cR
  go_wp2_with fail
  refine cR.mono ?_
  rintro e w4 ⟨rfl, rfl⟩
  clear cR
  obtain ⟨q, hq⟩ : ∃ q, regsOk zs = q := ⟨_, rfl⟩
  rw [hq]
  have HQ : Hid (regsOk zs = q) := hq
  clear hq
  cases q
  · go_wp2
    go_ret2
    exact calc_no (may_tf HP.out HQ.out) (P3.mono (Nat.le_succ _)) bb3
  have c0 := O3.cell 0; have c1 := O3.cell 1; have c2 := O3.cell 2; have c3 := O3.cell 3
  have hK := isFn_yes HF.out
  have HY : Hid (calcMay k a b c zs = true) := may_ttt HP.out HQ.out (by omega)
  obtain ⟨h4, hval⟩ := regsOk_out HQ.out
  obtain rfl : n = 4 := by omega
  obtain ⟨g, rfl⟩ : ∃ g, g1 = some ⟨g, 0, none⟩ := by
    obtain ⟨g, cp, e, -, -⟩ := owns_form P3 (by omega)
    simp only [Value.slice.injEq] at e
    exact ⟨g, e.1⟩
  have Q3 : w3.ownsRow (w.heap.size + 1) 3 1 (.slice (some ⟨g, 0, none⟩) 4 cap1) 4 (Ints.iv zs) := h4 ▸ P3
  have hg' := owns_low Q3
  have hg : w.heap.size ≤ g := by omega
  obtain ⟨-, -, -, hsee⟩ := sees_out hv3 h4
  obtain ⟨rb, ro, rfl, hrb, hcell⟩ := hsee
  have hrb' : rb < w3.heap.size := by have := bb3.size; omega
  clear P3 hv3 hv
  rcases hK with rfl | hK
  · obtain ⟨ha, -, -⟩ := ok_set HP.out
    obtain ⟨j, rfl, hj⟩ := place ha
    clear hcell
    have i1 : (0 : Int) ≤ j := by omega
    have i2 : (j : Int) < 4 := by omega
    have eF : fnV 1 = .func (.func 130) #[] #[] := rfl
    rw [eF]
    go_wp2_with fail
    go_region_held3 (fun W => W.cell? ⟨w.heap.size, 0, none⟩ = some (.int .i64 1) ∧ W.cell? ⟨w.heap.size, 1, none⟩ = some (.int .i64 j) ∧ W.cell? ⟨w.heap.size, 2, none⟩ = some (.int .i64 b) ∧ W.cell? ⟨w.heap.size, 3, none⟩ = some (.int .i64 c)) (go_keep) ((go_at_call 130; refine (clo1C 1 _ _ _ _ _).mono ?_; rintro e w5 ⟨rfl, b5⟩; have O5 := O3.drew.on b5 O3.drew.lt; have e0 := O5.cell 0; have e1 := O5.cell 1; have e2 := O5.cell 2; have e3 := O5.cell 3; have Q5 := owns_on Q3 (undrew b5) (Nat.le_refl _); have i0 := Ints.owns_at Q5 j (by omega); have hfz := fun j => Q5.frozenAt j; have Z := fun u => past O5 (show w.heap.size < g by omega) j u; have z0 := fun u => (Z u).cell 0; have z1 := fun u => (Z u).cell 1; have z2 := fun u => (Z u).cell 2; have z3 := fun u => (Z u).cell 3))
    rename_i hheld
    clear hheld e0 e1 e2 e3 i0 hfz z0 z1 z2 z3 Z c0 c1 c2 c3
    have bb5 := bb3.trans ((undrew b5).mono bb3.size)
    have HO := Ints.owns_set Q5 j (b)
    go_wp2
    go_ret2
    refine calc_yes HY.out rfl (show reck 1 b c zs = b from rfl) ?_ (bb5.setCell hg _)
    exact Ints.Owns.mono (by unfold Ints.Owns; rw [set_len zs j _ 4 h4]; exact HO) (Nat.le_succ _)
  · obtain ⟨ha, hb, hc⟩ := ok_regs hK HP.out
    obtain ⟨j, rfl, hj⟩ := place ha
    obtain ⟨jb, rfl, hjb⟩ := place hb
    obtain ⟨jc, rfl, hjc⟩ := place hc
    have x0 := hcell jb (by omega)
    have y0 := hcell jc (by omega)
    obtain ⟨x1, x2⟩ := hval jb (by omega)
    obtain ⟨y1, y2⟩ := hval jc (by omega)
    have HX : Hid (zs.getD ((jb : Int)).toNat 0 = zs[jb]) := getD_at (by omega)
    have HY' : Hid (zs.getD ((jc : Int)).toNat 0 = zs[jc]) := getD_at (by omega)
    obtain ⟨x, hx⟩ : ∃ x, zs[jb] = x := ⟨_, rfl⟩
    obtain ⟨y, hy⟩ : ∃ y, zs[jc] = y := ⟨_, rfl⟩
    rw [hx] at x0 x1 x2 HX
    rw [hy] at y0 y1 y2 HY'
    clear hx hy hval hcell ha hb hc
    have i1 : (0 : Int) ≤ j := by omega
    have i2 : (j : Int) < 4 := by omega
    rcases hK with rfl | rfl | rfl
    · have HR : Hid (reck 2 (jb : Int) (jc : Int) zs = (x + y) % 65536) := by show reck _ _ _ _ = _; unfold reck; rw [HX.out, HY'.out]; rfl
      have eF : fnV 2 = .func (.func 131) #[] #[] := rfl
      rw [eF]
      go_wp2_with fail
      go_region_held3 (fun W => W.cell? ⟨w.heap.size, 0, none⟩ = some (.int .i64 2) ∧ W.cell? ⟨w.heap.size, 1, none⟩ = some (.int .i64 j) ∧ W.cell? ⟨w.heap.size, 2, none⟩ = some (.int .i64 jb) ∧ W.cell? ⟨w.heap.size, 3, none⟩ = some (.int .i64 jc)) (go_keep) ((go_at_call 131; refine (clo2C 2 _ jb jc hjb hjc rb ro cap x y _ ?_ ?_ ?_ x1 x2 y1 y2).mono ?_; exact hrb'; exact x0; exact y0; rintro e w5 ⟨rfl, b5⟩; have O5 := O3.drew.on b5 O3.drew.lt; have e0 := O5.cell 0; have e1 := O5.cell 1; have e2 := O5.cell 2; have e3 := O5.cell 3; have Q5 := owns_on Q3 (undrew b5) (Nat.le_refl _); have i0 := Ints.owns_at Q5 j (by omega); have hfz := fun j => Q5.frozenAt j; have Z := fun u => past O5 (show w.heap.size < g by omega) j u; have z0 := fun u => (Z u).cell 0; have z1 := fun u => (Z u).cell 1; have z2 := fun u => (Z u).cell 2; have z3 := fun u => (Z u).cell 3))
      rename_i hheld
      clear hheld e0 e1 e2 e3 i0 hfz z0 z1 z2 z3 Z c0 c1 c2 c3
      have bb5 := bb3.trans ((undrew b5).mono bb3.size)
      have HO := Ints.owns_set Q5 j ((x + y) % 65536)
      go_wp2
      go_ret2
      refine calc_yes HY.out rfl (HR.out) ?_ (bb5.setCell hg _)
      exact Ints.Owns.mono (by unfold Ints.Owns; rw [set_len zs j _ 4 h4]; exact HO) (Nat.le_succ _)
    · have HR : Hid (reck 3 (jb : Int) (jc : Int) zs = (x - y) % 65536) := by show reck _ _ _ _ = _; unfold reck; rw [HX.out, HY'.out]; simp
      have eF : fnV 3 = .func (.func 132) #[] #[] := rfl
      rw [eF]
      go_wp2_with fail
      go_region_held3 (fun W => W.cell? ⟨w.heap.size, 0, none⟩ = some (.int .i64 3) ∧ W.cell? ⟨w.heap.size, 1, none⟩ = some (.int .i64 j) ∧ W.cell? ⟨w.heap.size, 2, none⟩ = some (.int .i64 jb) ∧ W.cell? ⟨w.heap.size, 3, none⟩ = some (.int .i64 jc)) (go_keep) ((go_at_call 132; refine (clo3C 3 _ jb jc hjb hjc rb ro cap x y _ ?_ ?_ ?_ x1 x2 y1 y2).mono ?_; exact hrb'; exact x0; exact y0; rintro e w5 ⟨rfl, b5⟩; have O5 := O3.drew.on b5 O3.drew.lt; have e0 := O5.cell 0; have e1 := O5.cell 1; have e2 := O5.cell 2; have e3 := O5.cell 3; have Q5 := owns_on Q3 (undrew b5) (Nat.le_refl _); have i0 := Ints.owns_at Q5 j (by omega); have hfz := fun j => Q5.frozenAt j; have Z := fun u => past O5 (show w.heap.size < g by omega) j u; have z0 := fun u => (Z u).cell 0; have z1 := fun u => (Z u).cell 1; have z2 := fun u => (Z u).cell 2; have z3 := fun u => (Z u).cell 3))
      rename_i hheld
      clear hheld e0 e1 e2 e3 i0 hfz z0 z1 z2 z3 Z c0 c1 c2 c3
      have bb5 := bb3.trans ((undrew b5).mono bb3.size)
      have HO := Ints.owns_set Q5 j ((x - y) % 65536)
      go_wp2
      go_ret2
      refine calc_yes HY.out rfl (HR.out) ?_ (bb5.setCell hg _)
      exact Ints.Owns.mono (by unfold Ints.Owns; rw [set_len zs j _ 4 h4]; exact HO) (Nat.le_succ _)
    · have HR : Hid (reck 4 (jb : Int) (jc : Int) zs = lt01 x y) := by show reck _ _ _ _ = _; unfold reck; rw [HX.out, HY'.out]; rfl
      have eF : fnV 4 = .func (.func 133) #[] #[] := rfl
      rw [eF]
      go_wp2_with fail
      go_region_held3 (fun W => W.cell? ⟨w.heap.size, 0, none⟩ = some (.int .i64 4) ∧ W.cell? ⟨w.heap.size, 1, none⟩ = some (.int .i64 j) ∧ W.cell? ⟨w.heap.size, 2, none⟩ = some (.int .i64 jb) ∧ W.cell? ⟨w.heap.size, 3, none⟩ = some (.int .i64 jc)) (go_keep) ((go_at_call 133; refine (clo4C 4 _ jb jc hjb hjc rb ro cap x y _ ?_ ?_ ?_ x1 x2 y1 y2).mono ?_; exact hrb'; exact x0; exact y0; rintro e w5 ⟨rfl, b5⟩; have O5 := O3.drew.on b5 O3.drew.lt; have e0 := O5.cell 0; have e1 := O5.cell 1; have e2 := O5.cell 2; have e3 := O5.cell 3; have Q5 := owns_on Q3 (undrew b5) (Nat.le_refl _); have i0 := Ints.owns_at Q5 j (by omega); have hfz := fun j => Q5.frozenAt j; have Z := fun u => past O5 (show w.heap.size < g by omega) j u; have z0 := fun u => (Z u).cell 0; have z1 := fun u => (Z u).cell 1; have z2 := fun u => (Z u).cell 2; have z3 := fun u => (Z u).cell 3))
      rename_i hheld
      clear hheld e0 e1 e2 e3 i0 hfz z0 z1 z2 z3 Z c0 c1 c2 c3
      have bb5 := bb3.trans ((undrew b5).mono bb3.size)
      have HO := Ints.owns_set Q5 j (lt01 x y)
      go_wp2
      go_ret2
      refine calc_yes HY.out rfl (HR.out) ?_ (bb5.setCell hg _)
      exact Ints.Owns.mono (by unfold Ints.Owns; rw [set_len zs j _ 4 h4]; exact HO) (Nat.le_succ _)
end Ops
end Go.Proofs.Ytppkohkcffnghaa
/- copy into a doing; do: an op that reckons. -/
set_option linter.unusedVariables false
set_option linter.unusedSimpArgs false
namespace Go.Proofs.Ytppkohkcffnghaa
open Go.RowKit
namespace Ops
open Bas Flat

/-- copy of numbers over cells that are there -/
theorem copyOver (W : World) (p o dLen dCap : Nat) (v : Value) (zs : List Int) (B : Nat) (hv : Ints.Sees B W v zs) (ht : W.there p o zs.length) (hl : zs.length ≤ dLen) :
    (Builtin.copy_ #[25, 25] 3 #[.slice (some ⟨p, o, none⟩) dLen dCap, v]).run Try.prog W = .ok (.int .i64 (zs.length : Int)) (W.setCells p o (Ints.iv zs)) := by
  have hs : (Try.prog.info? 3).map (·.size) = some 1 := by kernel_rfl
  obtain ⟨a, cap, rfl, h1, h2, h3⟩ := hv
  by_cases hz : zs = []
  · subst hz
    exact run_copy_none W 25 25 3 3 _ _ _ _ _ _ Try.underlying25 hs (by simp)
  · obtain ⟨b, off, rfl, -, hc⟩ := h3 hz
    have := run_copy_cells (P := Try.prog) W 25 25 3 3 p o dLen dCap ⟨b, off, none⟩ zs.length cap (Ints.iv zs) Try.underlying25 hs (by rw [Ints.iv_length]; exact (Nat.min_eq_left hl).symm)
      (fun j v hv => by
        have hj : j < zs.length := by rw [← Ints.iv_length]; exact (List.getElem?_eq_some_iff.1 hv).1
        rw [Ints.iv_get zs j hj] at hv
        rw [Addr.add_mid, hc j hj, ← hv])
      (fun j hj => (ht j (by rw [Ints.iv_length] at hj; exact hj)).1) (fun j hj => (ht j (by rw [Ints.iv_length] at hj; exact hj)).2) (Ints.iv_one zs)
    rw [this, Ints.iv_length]; rfl
theorem over_regs {r l : List Int} {t : Th} (h : l.length = r.length) : over (nums r t) 0 l = nums l t := by
  have := over_mid [] r (t.c ++ (t.m ++ [t.n])) l h
  exact this
theorem over_cells {r l : List Int} {t : Th} (hr : r.length = 4) (h : l.length = t.c.length) : over (nums r t) 4 l = nums r { t with c := l } := by
  have := over_mid r t.c (t.m ++ [t.n]) l h
  rw [hr] at this
  exact this
theorem Dn.seeRegs {W : World} {p : Nat} {vC vK vO : Value} {r : List Int} {t : Th} (h : Dn W p vC vK vO (nums r t)) (hr : r.length = 4) : Ints.Sees W.heap.size W (.slice (some ⟨p, 3, none⟩) 4 4) r :=
  ⟨_, 4, by rw [hr], by omega, by unfold maxLen; omega, fun _ => ⟨p, 3, rfl, h.lt, fun j hj => by rw [h.reg hr (by omega : j < 4), rd_nat hj]⟩⟩
theorem Dn.seeCells {W : World} {p : Nat} {vC vK vO : Value} {r : List Int} {t : Th} (h : Dn W p vC vK vO (nums r t)) (hr : r.length = 4) (hc : t.c.length = 8) : Ints.Sees W.heap.size W (.slice (some ⟨p, 7, none⟩) 8 8) t.c :=
  ⟨_, 8, by rw [hc], by omega, by unfold maxLen; omega, fun _ => ⟨p, 7, rfl, h.lt, fun j hj => by rw [h.cel hr hc (by omega : j < 8), rd_nat hj]⟩⟩

set_option maxRecDepth 100000 in
set_option maxHeartbeats 6400000 in
theorem doCalc (p : Nat) (vC vK vO : Value) (r : List Int) (t : Th) (k a b c : Int) (hk : k = 1 ∨ k = 2 ∨ k = 3 ∨ k = 4) (hr : r.length = 4) (hc : t.c.length = 8) (hm : t.m.length = 8) (W : World) (hd : Dn W p vC vK vO (nums r t)) :
    Calls Try.prog 124 #[.pointer (some ⟨p, 3, none⟩), opV k a b c] W fun e W' => e = .returned (.tuple #[]) ∧ Dn W' p vC vK vO (nums (calcTo k a b c r) t) ∧ Only p W W' := by
  obtain ⟨q, hqq⟩ : ∃ q, W.heap.size = q := ⟨_, rfl⟩
  have hp := hd.lt
  have X1 := Blk.new W #[.int .i64 k, .int .i64 a, .int .i64 b, .int .i64 c] 30
  have b1 := alloc_below W (.cells #[.int .i64 k, .int .i64 a, .int .i64 b, .int .i64 c] 30)
  have d1 := hd.on b1 hp
  have o1 : Only p W _ := Only.of b1
  rw [hqq] at X1 hp
  obtain ⟨W1, hW1⟩ : ∃ W1, W.alloc (.cells #[.int .i64 k, .int .i64 a, .int .i64 b, .int .i64 c] 30) = W1 := ⟨_, rfl⟩
  rw [hW1] at X1 d1 o1
  have hwf : (Lit.int .i64 k).wf = true := by rcases hk with rfl | rfl | rfl | rfl <;> rfl
  have cC := calcImplC k a b c (.slice (some ⟨p, 3, none⟩) 4 4) r W1.drew.heap.size W1.drew hwf (d1.drew.seeRegs hr) (Nat.le_refl _) (by omega)
  have hcl : (calcTo k a b c r).length = r.length := calcTo_length k a b c r
  obtain ⟨rr, hrr⟩ : ∃ rr, calcTo k a b c r = rr := ⟨_, rfl⟩
  rw [hrr] at cC hcl ⊢
  clear hrr
  have n5 : (k == 5) = false := by simp; omega
  have n6 : (k == 6) = false := by simp; omega
  have n12 : (k == 12) = false := by simp; omega
  have n13 : (k == 13) = false := by simp; omega
  have n14 : (k == 14) = false := by simp; omega
  have n15 : (k == 15) = false := by simp; omega
  have n16 : (k == 16) = false := by simp; omega
  have c0 := X1.cell 0; have c1 := X1.cell 1; have c2 := X1.cell 2; have c3 := X1.cell 3
  unfold opV at cC ⊢
  clear b1 hk hwf
  go_enter Try.func124, Try.ntmps124
  go_wp2_with fail
  go_region_with (go_at_call 128; refine cC.mono ?_; rintro e W2 ⟨v2, rfl, O2, b2⟩)
  have d2 := d1.drew.on b2 d1.lt
  have o2 := o1.drew.trans (Only.of b2)
  have hcp := copyOver W2 p 3 4 4 v2 rr _ O2.sees (d2.there (k := 0) (n := rr.length) (by rw [nums_length hr hc hm]; omega)) (by omega)
  have d3 := d2.setMany rr _ _ 0
  rw [over_regs hcl] at d3
  have o3 := o2.setMany 3 (Ints.iv rr)
  go_wp2
  go_end0
  exact ⟨rfl, d3, o3⟩
end Ops
end Go.Proofs.Ytppkohkcffnghaa
/- do: OpRead. -/
set_option linter.unusedVariables false
set_option linter.unusedSimpArgs false
namespace Go.Proofs.Ytppkohkcffnghaa
open Go.RowKit
namespace Ops
open Bas Flat

set_option maxRecDepth 100000 in
set_option maxHeartbeats 3200000 in
theorem do5 (p : Nat) (vC vK vO : Value) (r : List Int) (t : Th) (a b : Nat) (c : Int) (ha : a < 4) (hb : b < 8) (hr : r.length = 4) (hc : t.c.length = 8) (W : World) (hd : Dn W p vC vK vO (nums r t)) :
    Calls Try.prog 124 #[.pointer (some ⟨p, 3, none⟩), opV 5 (a : Int) (b : Int) c] W fun e W' => e = .returned (.tuple #[]) ∧ Dn W' p vC vK vO (nums (wr r (a : Int) (rd t.c (b : Int))) t) ∧ Only p W W' := by
  obtain ⟨q, hqq⟩ : ∃ q, W.heap.size = q := ⟨_, rfl⟩
  have hp := hd.lt
  have X1 := Blk.new W #[.int .i64 5, .int .i64 (a : Int), .int .i64 (b : Int), .int .i64 c] 30
  have b1 := alloc_below W (.cells #[.int .i64 5, .int .i64 (a : Int), .int .i64 (b : Int), .int .i64 c] 30)
  have d1 := hd.on b1 hp
  have o1 : Only p W _ := Only.of b1
  rw [hqq] at X1 hp
  obtain ⟨W1, hW1⟩ : ∃ W1, W.alloc (.cells #[.int .i64 5, .int .i64 (a : Int), .int .i64 (b : Int), .int .i64 c] 30) = W1 := ⟨_, rfl⟩
  rw [hW1] at X1 d1 o1
  have c0 := X1.cell 0; have c1 := X1.cell 1; have c2 := X1.cell 2; have c3 := X1.cell 3
  have e1 := d1.reg hr ha
  have e2 := d1.cel hr hc hb
  have f1 := d1.froz (3 + a)
  have i1 : (a : Int) < 4 := by omega
  have i2 : (b : Int) < 8 := by omega
  unfold opV
  clear b1 X1
  go_enter Try.func124, Try.ntmps124
  go_wp2
  go_region
  go_wp2
  go_end0
  exact ⟨rfl, (d1.setReg hr ha _).drew, (o1.set _ _).drew⟩
end Ops
end Go.Proofs.Ytppkohkcffnghaa
/- do: an op of kind 6. -/
set_option linter.unusedVariables false
set_option linter.unusedSimpArgs false
namespace Go.Proofs.Ytppkohkcffnghaa
open Go.RowKit
namespace Ops
open Bas Flat

set_option maxRecDepth 100000 in
set_option maxHeartbeats 6400000 in
theorem do6 (p : Nat) (vC vK vO : Value) (r : List Int) (t : Th) (a b : Nat) (c : Int) (ha : a < 8) (hb : b < 4) (hr : r.length = 4) (hc : t.c.length = 8) (hm : t.m.length = 8) (W : World) (hd : Dn W p vC vK vO (nums r t)) :
    Calls Try.prog 124 #[.pointer (some ⟨p, 3, none⟩), opV 6 (a : Int) (b : Int) c] W fun e W' => e = .returned (.tuple #[]) ∧ Dn W' p vC vK vO (nums r { t with c := wr t.c (a : Int) (rd r (b : Int)) }) ∧ Only p W W' := by
  obtain ⟨q, hqq⟩ : ∃ q, W.heap.size = q := ⟨_, rfl⟩
  have hp := hd.lt
  have X1 := Blk.new W #[.int .i64 6, .int .i64 (a : Int), .int .i64 (b : Int), .int .i64 c] 30
  have b1 := alloc_below W (.cells #[.int .i64 6, .int .i64 (a : Int), .int .i64 (b : Int), .int .i64 c] 30)
  have d1 := hd.on b1 hp
  have o1 : Only p W _ := Only.of b1
  rw [hqq] at X1 hp
  obtain ⟨W1, hW1⟩ : ∃ W1, W.alloc (.cells #[.int .i64 6, .int .i64 (a : Int), .int .i64 (b : Int), .int .i64 c] 30) = W1 := ⟨_, rfl⟩
  rw [hW1] at X1 d1 o1
  have c0 := X1.cell 0; have c1 := X1.cell 1; have c2 := X1.cell 2; have c3 := X1.cell 3
  have e1 := d1.reg hr hb
  have e2 := d1.cel hr hc ha
  have f1 := d1.froz (7 + a)
  have i1 : (a : Int) < 8 := by omega
  have i2 : (b : Int) < 4 := by omega
  unfold opV
  clear b1
  go_enter Try.func124, Try.ntmps124
  go_wp2
  go_region
  go_wp2
  go_end0
  exact ⟨rfl, (d1.setCel hr hc ha _).drew, (o1.set _ _).drew⟩
end Ops
end Go.Proofs.Ytppkohkcffnghaa
/- do: an op of kind 12. -/
set_option linter.unusedVariables false
set_option linter.unusedSimpArgs false
namespace Go.Proofs.Ytppkohkcffnghaa
open Go.RowKit
namespace Ops
open Bas Flat

set_option maxRecDepth 100000 in
set_option maxHeartbeats 6400000 in
theorem do12 (p : Nat) (vC vK vO : Value) (r : List Int) (t : Th) (a b c : Nat) (ha : a < 8) (hb : b < 4) (h3 : c < 4) (hr : r.length = 4) (hc : t.c.length = 8) (hm : t.m.length = 8) (hx : 0 ≤ rd r (b : Int) ∧ rd r (b : Int) ≤ 65535) (W : World) (hd : Dn W p vC vK vO (nums r t)) :
    Calls Try.prog 124 #[.pointer (some ⟨p, 3, none⟩), opV 12 (a : Int) (b : Int) (c : Int)] W fun e W' => e = .returned (.tuple #[]) ∧ Dn W' p vC vK vO (nums (wr r (c : Int) (rd t.m (a : Int) % 65536)) { t with m := wr t.m (a : Int) (1 + rd r (b : Int)) }) ∧ Only p W W' := by
  obtain ⟨q, hqq⟩ : ∃ q, W.heap.size = q := ⟨_, rfl⟩
  have hp := hd.lt
  have X1 := Blk.new W #[.int .i64 12, .int .i64 (a : Int), .int .i64 (b : Int), .int .i64 (c : Int)] 30
  have b1 := alloc_below W (.cells #[.int .i64 12, .int .i64 (a : Int), .int .i64 (b : Int), .int .i64 (c : Int)] 30)
  have d1 := hd.on b1 hp
  have o1 : Only p W _ := Only.of b1
  rw [hqq] at X1 hp
  obtain ⟨W1, hW1⟩ : ∃ W1, W.alloc (.cells #[.int .i64 12, .int .i64 (a : Int), .int .i64 (b : Int), .int .i64 (c : Int)] 30) = W1 := ⟨_, rfl⟩
  rw [hW1] at X1 d1 o1
  have c0 := X1.cell 0; have c1 := X1.cell 1; have c2 := X1.cell 2; have c3 := X1.cell 3
  have e0 := d1.reg hr h3
  have e1 := d1.reg hr hb
  have e2 := d1.key hr hc hm ha
  have f1 := d1.froz (3 + c)
  have i1 : (a : Int) < 8 := by omega
  have i2 : (b : Int) < 4 := by omega
  have i3 : (c : Int) < 4 := by omega
  unfold opV
  clear b1
  go_enter Try.func124, Try.ntmps124
  go_wp2
  go_region
  go_wp2
  go_region_calls
  have d2 := (d1.setReg hr h3 (rd t.m (a : Int) % 65536)).drew
  have o2 := (o1.set (3 + c) (.int .i64 (rd t.m (a : Int) % 65536))).drew
  have X2 := (X1.other (show q ≠ p by omega) (3 + c) (.int .i64 (rd t.m (a : Int) % 65536))).drew
  rw [u16_mod]
  obtain ⟨W2, hW2⟩ : ∃ W2, (W1.setCell ⟨p, 3 + c, none⟩ (.int .i64 (rd t.m (a : Int) % 65536))).drew = W2 := ⟨_, rfl⟩
  rw [hW2] at d2 o2 X2 ⊢
  clear hW2 d1 o1 X1 c0 c1 c2 c3 e1 e2 f1 hW1
  have hr2 : (wr r (c : Int) (rd t.m (a : Int) % 65536)).length = 4 := by rw [wr_length]; exact hr
  have c1 := X2.cell 1
  have e2 := d2.key hr2 hc hm ha
  have f1 := d2.froz (15 + a)
  go_wp2
  go_region
  go_wp2
  go_end0
  rw [Int.add_comm]
  exact ⟨rfl, (d2.setKey hr2 hc hm ha _).drew.drew, (o2.set _ _).drew.drew⟩
end Ops
end Go.Proofs.Ytppkohkcffnghaa
/- do: an op of kind 13. -/
set_option linter.unusedVariables false
set_option linter.unusedSimpArgs false
namespace Go.Proofs.Ytppkohkcffnghaa
open Go.RowKit
namespace Ops
open Bas Flat

set_option maxRecDepth 100000 in
set_option maxHeartbeats 6400000 in
theorem do13 (p : Nat) (vC vK vO : Value) (r : List Int) (t : Th) (a b : Nat) (c : Int) (ha : a < 4) (hb : b < 8) (hr : r.length = 4) (hc : t.c.length = 8) (hm : t.m.length = 8) (W : World) (hd : Dn W p vC vK vO (nums r t)) :
    Calls Try.prog 124 #[.pointer (some ⟨p, 3, none⟩), opV 13 (a : Int) (b : Int) c] W fun e W' => e = .returned (.tuple #[]) ∧ Dn W' p vC vK vO (nums (wr r (a : Int) (rd t.m (b : Int) % 65536)) t) ∧ Only p W W' := by
  obtain ⟨q, hqq⟩ : ∃ q, W.heap.size = q := ⟨_, rfl⟩
  have hp := hd.lt
  have X1 := Blk.new W #[.int .i64 13, .int .i64 (a : Int), .int .i64 (b : Int), .int .i64 c] 30
  have b1 := alloc_below W (.cells #[.int .i64 13, .int .i64 (a : Int), .int .i64 (b : Int), .int .i64 c] 30)
  have d1 := hd.on b1 hp
  have o1 : Only p W _ := Only.of b1
  rw [hqq] at X1 hp
  obtain ⟨W1, hW1⟩ : ∃ W1, W.alloc (.cells #[.int .i64 13, .int .i64 (a : Int), .int .i64 (b : Int), .int .i64 c] 30) = W1 := ⟨_, rfl⟩
  rw [hW1] at X1 d1 o1
  have c0 := X1.cell 0; have c1 := X1.cell 1; have c2 := X1.cell 2; have c3 := X1.cell 3
  have e1 := d1.reg hr ha
  have e2 := d1.key hr hc hm hb
  have f1 := d1.froz (3 + a)
  have i1 : (a : Int) < 4 := by omega
  have i2 : (b : Int) < 8 := by omega
  unfold opV
  clear b1
  go_enter Try.func124, Try.ntmps124
  go_wp2
  go_region_calls
  all_goals
    go_wp2
    go_end0
    rw [u16_mod]
    exact ⟨rfl, (d1.setReg hr ha _).drew, (o1.set _ _).drew⟩
end Ops
end Go.Proofs.Ytppkohkcffnghaa
/- do: an op of kind 14. -/
set_option linter.unusedVariables false
set_option linter.unusedSimpArgs false
namespace Go.Proofs.Ytppkohkcffnghaa
open Go.RowKit
namespace Ops
open Bas Flat

set_option maxRecDepth 100000 in
set_option maxHeartbeats 6400000 in
theorem do14 (p : Nat) (vC vK vO : Value) (r : List Int) (t : Th) (a b : Nat) (c : Int) (ha : a < 8) (hb : b < 4) (hr : r.length = 4) (hc : t.c.length = 8) (hm : t.m.length = 8) (W : World) (hd : Dn W p vC vK vO (nums r t)) :
    Calls Try.prog 124 #[.pointer (some ⟨p, 3, none⟩), opV 14 (a : Int) (b : Int) c] W fun e W' => e = .returned (.tuple #[]) ∧ Dn W' p vC vK vO (nums (wr r (b : Int) (rd t.m (a : Int) % 65536)) { t with m := wr t.m (a : Int) 0 }) ∧ Only p W W' := by
  obtain ⟨q, hqq⟩ : ∃ q, W.heap.size = q := ⟨_, rfl⟩
  have hp := hd.lt
  have X1 := Blk.new W #[.int .i64 14, .int .i64 (a : Int), .int .i64 (b : Int), .int .i64 c] 30
  have b1 := alloc_below W (.cells #[.int .i64 14, .int .i64 (a : Int), .int .i64 (b : Int), .int .i64 c] 30)
  have d1 := hd.on b1 hp
  have o1 : Only p W _ := Only.of b1
  rw [hqq] at X1 hp
  obtain ⟨W1, hW1⟩ : ∃ W1, W.alloc (.cells #[.int .i64 14, .int .i64 (a : Int), .int .i64 (b : Int), .int .i64 c] 30) = W1 := ⟨_, rfl⟩
  rw [hW1] at X1 d1 o1
  have c0 := X1.cell 0; have c1 := X1.cell 1; have c2 := X1.cell 2; have c3 := X1.cell 3
  have e1 := d1.reg hr hb
  have e2 := d1.key hr hc hm ha
  have f1 := d1.froz (3 + b)
  have i1 : (a : Int) < 8 := by omega
  have i2 : (b : Int) < 4 := by omega
  unfold opV
  clear b1
  go_enter Try.func124, Try.ntmps124
  go_wp2
  go_region_calls
  have d2 := (d1.setReg hr hb (rd t.m (a : Int) % 65536)).drew
  have o2 := (o1.set (3 + b) (.int .i64 (rd t.m (a : Int) % 65536))).drew
  have X2 := (X1.other (show q ≠ p by omega) (3 + b) (.int .i64 (rd t.m (a : Int) % 65536))).drew
  rw [u16_mod]
  obtain ⟨W2, hW2⟩ : ∃ W2, (W1.setCell ⟨p, 3 + b, none⟩ (.int .i64 (rd t.m (a : Int) % 65536))).drew = W2 := ⟨_, rfl⟩
  rw [hW2] at d2 o2 X2 ⊢
  clear hW2 d1 o1 X1 c0 c1 c2 c3 e1 e2 f1 hW1
  have hr2 : (wr r (b : Int) (rd t.m (a : Int) % 65536)).length = 4 := by rw [wr_length]; exact hr
  have c1 := X2.cell 1
  have e2 := d2.key hr2 hc hm ha
  have f1 := d2.froz (15 + a)
  go_wp2
  go_region
  go_wp2
  go_end0
  exact ⟨rfl, (d2.setKey hr2 hc hm ha _).drew, (o2.set _ _).drew⟩
end Ops
end Go.Proofs.Ytppkohkcffnghaa
/- do: an op of kind 15. -/
set_option linter.unusedVariables false
set_option linter.unusedSimpArgs false
namespace Go.Proofs.Ytppkohkcffnghaa
open Go.RowKit
namespace Ops
open Bas Flat

set_option maxRecDepth 100000 in
set_option maxHeartbeats 6400000 in
theorem do15 (p : Nat) (vC vK vO : Value) (r : List Int) (t : Th) (a : Nat) (b c : Int) (ha : a < 4) (hr : r.length = 4) (hc : t.c.length = 8) (hm : t.m.length = 8) (hn : 0 ≤ t.n ∧ t.n ≤ 65535) (hx : 0 ≤ rd r (a : Int) ∧ rd r (a : Int) ≤ 65535) (W : World) (hd : Dn W p vC vK vO (nums r t)) :
    Calls Try.prog 124 #[.pointer (some ⟨p, 3, none⟩), opV 15 (a : Int) b c] W fun e W' => e = .returned (.tuple #[]) ∧ Dn W' p vC vK vO (nums r { t with n := (t.n + rd r (a : Int)) % 65536 }) ∧ Only p W W' := by
  obtain ⟨q, hqq⟩ : ∃ q, W.heap.size = q := ⟨_, rfl⟩
  have hp := hd.lt
  have X1 := Blk.new W #[.int .i64 15, .int .i64 (a : Int), .int .i64 b, .int .i64 c] 30
  have b1 := alloc_below W (.cells #[.int .i64 15, .int .i64 (a : Int), .int .i64 b, .int .i64 c] 30)
  have d1 := hd.on b1 hp
  have o1 : Only p W _ := Only.of b1
  rw [hqq] at X1 hp
  obtain ⟨W1, hW1⟩ : ∃ W1, W.alloc (.cells #[.int .i64 15, .int .i64 (a : Int), .int .i64 b, .int .i64 c] 30) = W1 := ⟨_, rfl⟩
  rw [hW1] at X1 d1 o1
  have c0 := X1.cell 0; have c1 := X1.cell 1; have c2 := X1.cell 2; have c3 := X1.cell 3
  have e1 := d1.reg hr ha
  have e2 := d1.cnt hr hc hm
  have f1 := d1.froz 23
  have i1 : (a : Int) < 4 := by omega
  unfold opV
  clear b1
  go_enter Try.func124, Try.ntmps124
  go_wp2
  go_region_calls
  all_goals
    go_wp2
    go_end0
    rw [u16_mod]
    exact ⟨rfl, (d1.setCnt hr hc hm _).drew, (o1.set _ _).drew⟩
end Ops
end Go.Proofs.Ytppkohkcffnghaa
/- do: an op of kind 16. -/
set_option linter.unusedVariables false
set_option linter.unusedSimpArgs false
namespace Go.Proofs.Ytppkohkcffnghaa
open Go.RowKit
namespace Ops
open Bas Flat

set_option maxRecDepth 100000 in
set_option maxHeartbeats 6400000 in
theorem do16 (p : Nat) (vC vK vO : Value) (r : List Int) (t : Th) (a : Nat) (b c : Int) (ha : a < 4) (hr : r.length = 4) (hc : t.c.length = 8) (hm : t.m.length = 8) (W : World) (hd : Dn W p vC vK vO (nums r t)) :
    Calls Try.prog 124 #[.pointer (some ⟨p, 3, none⟩), opV 16 (a : Int) b c] W fun e W' => e = .returned (.tuple #[]) ∧ Dn W' p vC vK vO (nums (wr r (a : Int) t.n) t) ∧ Only p W W' := by
  obtain ⟨q, hqq⟩ : ∃ q, W.heap.size = q := ⟨_, rfl⟩
  have hp := hd.lt
  have X1 := Blk.new W #[.int .i64 16, .int .i64 (a : Int), .int .i64 b, .int .i64 c] 30
  have b1 := alloc_below W (.cells #[.int .i64 16, .int .i64 (a : Int), .int .i64 b, .int .i64 c] 30)
  have d1 := hd.on b1 hp
  have o1 : Only p W _ := Only.of b1
  rw [hqq] at X1 hp
  obtain ⟨W1, hW1⟩ : ∃ W1, W.alloc (.cells #[.int .i64 16, .int .i64 (a : Int), .int .i64 b, .int .i64 c] 30) = W1 := ⟨_, rfl⟩
  rw [hW1] at X1 d1 o1
  have c0 := X1.cell 0; have c1 := X1.cell 1; have c2 := X1.cell 2; have c3 := X1.cell 3
  have e1 := d1.reg hr ha
  have e2 := d1.cnt hr hc hm
  have f1 := d1.froz (3 + a)
  have i1 : (a : Int) < 4 := by omega
  unfold opV
  clear b1
  go_enter Try.func124, Try.ntmps124
  go_wp2
  go_region
  go_wp2
  go_end0
  exact ⟨rfl, (d1.setReg hr ha _).drew, (o1.set _ _).drew⟩
end Ops
end Go.Proofs.Ytppkohkcffnghaa
