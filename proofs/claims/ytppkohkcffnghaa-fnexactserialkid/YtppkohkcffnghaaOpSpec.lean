/- The specification's OpOk. -/
import Derived.Test.YtppkohkcffnghaaOpL
namespace Go.Proofs.Ytppkohkcffnghaa
open Go.RowKit
namespace Ops

set_option maxRecDepth 100000 in
set_option maxHeartbeats 1600000 in
theorem spec1 (a b c : Int) (w : World) : Calls Try.prog 90 #[opV 1 a b c] w fun e w' => e = .returned (.bool (opOk 1 a b c)) ∧ Below w.heap.size w w' := by
  show Calls _ _ #[.agg #[.int .i64 1, .int .i64 a, .int .i64 b, .int .i64 c]] _ _
  have e0 : opOk 1 a b c = (inn 0 3 a && inn 0 65535 b && (c == 0)) := by simp only [← inn_zero]; rfl
  rw [e0]
  clear e0
  obtain ⟨p0, h0⟩ : ∃ p, (inn 0 3 a) = p := ⟨_, rfl⟩
  obtain ⟨p1, h1⟩ : ∃ p, (inn 0 65535 b) = p := ⟨_, rfl⟩
  rw [h0, h1]
  cases p0 <;> cases p1
  all_goals
    go_enter Try.func90, Try.ntmps90
    go_wp2_with (first | (go_at_call 107; refine (regC a _).mono ?_; rintro e w1 ⟨rfl, rfl⟩; rw [h0]) | (go_at_call 70; refine (valC b _).mono ?_; rintro e w1 ⟨rfl, rfl⟩; rw [h1]))
    go_ret
    exact ⟨by simp, (Below.refl _ _).alloc (Nat.le_refl _) _⟩

set_option maxRecDepth 100000 in
set_option maxHeartbeats 1600000 in
theorem spec2 (a b c : Int) (w : World) : Calls Try.prog 90 #[opV 2 a b c] w fun e w' => e = .returned (.bool (opOk 2 a b c)) ∧ Below w.heap.size w w' := by
  show Calls _ _ #[.agg #[.int .i64 2, .int .i64 a, .int .i64 b, .int .i64 c]] _ _
  have e0 : opOk 2 a b c = (inn 0 3 a && inn 0 3 b && inn 0 3 c) := by rfl
  rw [e0]
  clear e0
  obtain ⟨p0, h0⟩ : ∃ p, (inn 0 3 a) = p := ⟨_, rfl⟩
  obtain ⟨p1, h1⟩ : ∃ p, (inn 0 3 b) = p := ⟨_, rfl⟩
  rw [h0, h1]
  cases p0 <;> cases p1
  all_goals
    go_enter Try.func90, Try.ntmps90
    go_wp2_with (first | (go_at_call 107; refine (regC a _).mono ?_; rintro e w1 ⟨rfl, rfl⟩; rw [h0]) | (go_at_call 107; refine (regC b _).mono ?_; rintro e w1 ⟨rfl, rfl⟩; rw [h1]) | (go_at_call 107; refine (regC c _).mono ?_; rintro e w1 ⟨rfl, rfl⟩))
    go_ret
    exact ⟨by simp, (Below.refl _ _).alloc (Nat.le_refl _) _⟩

set_option maxRecDepth 100000 in
set_option maxHeartbeats 1600000 in
theorem spec3 (a b c : Int) (w : World) : Calls Try.prog 90 #[opV 3 a b c] w fun e w' => e = .returned (.bool (opOk 3 a b c)) ∧ Below w.heap.size w w' := by
  show Calls _ _ #[.agg #[.int .i64 3, .int .i64 a, .int .i64 b, .int .i64 c]] _ _
  have e0 : opOk 3 a b c = (inn 0 3 a && inn 0 3 b && inn 0 3 c) := by rfl
  rw [e0]
  clear e0
  obtain ⟨p0, h0⟩ : ∃ p, (inn 0 3 a) = p := ⟨_, rfl⟩
  obtain ⟨p1, h1⟩ : ∃ p, (inn 0 3 b) = p := ⟨_, rfl⟩
  rw [h0, h1]
  cases p0 <;> cases p1
  all_goals
    go_enter Try.func90, Try.ntmps90
    go_wp2_with (first | (go_at_call 107; refine (regC a _).mono ?_; rintro e w1 ⟨rfl, rfl⟩; rw [h0]) | (go_at_call 107; refine (regC b _).mono ?_; rintro e w1 ⟨rfl, rfl⟩; rw [h1]) | (go_at_call 107; refine (regC c _).mono ?_; rintro e w1 ⟨rfl, rfl⟩))
    go_ret
    exact ⟨by simp, (Below.refl _ _).alloc (Nat.le_refl _) _⟩

set_option maxRecDepth 100000 in
set_option maxHeartbeats 1600000 in
theorem spec4 (a b c : Int) (w : World) : Calls Try.prog 90 #[opV 4 a b c] w fun e w' => e = .returned (.bool (opOk 4 a b c)) ∧ Below w.heap.size w w' := by
  show Calls _ _ #[.agg #[.int .i64 4, .int .i64 a, .int .i64 b, .int .i64 c]] _ _
  have e0 : opOk 4 a b c = (inn 0 3 a && inn 0 3 b && inn 0 3 c) := by rfl
  rw [e0]
  clear e0
  obtain ⟨p0, h0⟩ : ∃ p, (inn 0 3 a) = p := ⟨_, rfl⟩
  obtain ⟨p1, h1⟩ : ∃ p, (inn 0 3 b) = p := ⟨_, rfl⟩
  rw [h0, h1]
  cases p0 <;> cases p1
  all_goals
    go_enter Try.func90, Try.ntmps90
    go_wp2_with (first | (go_at_call 107; refine (regC a _).mono ?_; rintro e w1 ⟨rfl, rfl⟩; rw [h0]) | (go_at_call 107; refine (regC b _).mono ?_; rintro e w1 ⟨rfl, rfl⟩; rw [h1]) | (go_at_call 107; refine (regC c _).mono ?_; rintro e w1 ⟨rfl, rfl⟩))
    go_ret
    exact ⟨by simp, (Below.refl _ _).alloc (Nat.le_refl _) _⟩

set_option maxRecDepth 100000 in
set_option maxHeartbeats 1600000 in
theorem spec5 (a b c : Int) (w : World) : Calls Try.prog 90 #[opV 5 a b c] w fun e w' => e = .returned (.bool (opOk 5 a b c)) ∧ Below w.heap.size w w' := by
  show Calls _ _ #[.agg #[.int .i64 5, .int .i64 a, .int .i64 b, .int .i64 c]] _ _
  have e0 : opOk 5 a b c = (inn 0 3 a && inn 0 7 b && (c == 0)) := by simp only [← inn_zero]; rfl
  rw [e0]
  clear e0
  obtain ⟨p0, h0⟩ : ∃ p, (inn 0 3 a) = p := ⟨_, rfl⟩
  obtain ⟨p1, h1⟩ : ∃ p, (inn 0 7 b) = p := ⟨_, rfl⟩
  rw [h0, h1]
  cases p0 <;> cases p1
  all_goals
    go_enter Try.func90, Try.ntmps90
    go_wp2_with (first | (go_at_call 107; refine (regC a _).mono ?_; rintro e w1 ⟨rfl, rfl⟩; rw [h0]) | (go_at_call 108; refine (cellC b _).mono ?_; rintro e w1 ⟨rfl, rfl⟩; rw [h1]))
    go_ret
    exact ⟨by simp, (Below.refl _ _).alloc (Nat.le_refl _) _⟩

set_option maxRecDepth 100000 in
set_option maxHeartbeats 1600000 in
theorem spec6 (a b c : Int) (w : World) : Calls Try.prog 90 #[opV 6 a b c] w fun e w' => e = .returned (.bool (opOk 6 a b c)) ∧ Below w.heap.size w w' := by
  show Calls _ _ #[.agg #[.int .i64 6, .int .i64 a, .int .i64 b, .int .i64 c]] _ _
  have e0 : opOk 6 a b c = (inn 0 7 a && inn 0 3 b && (c == 0)) := by simp only [← inn_zero]; rfl
  rw [e0]
  clear e0
  obtain ⟨p0, h0⟩ : ∃ p, (inn 0 7 a) = p := ⟨_, rfl⟩
  obtain ⟨p1, h1⟩ : ∃ p, (inn 0 3 b) = p := ⟨_, rfl⟩
  rw [h0, h1]
  cases p0 <;> cases p1
  all_goals
    go_enter Try.func90, Try.ntmps90
    go_wp2_with (first | (go_at_call 108; refine (cellC a _).mono ?_; rintro e w1 ⟨rfl, rfl⟩; rw [h0]) | (go_at_call 107; refine (regC b _).mono ?_; rintro e w1 ⟨rfl, rfl⟩; rw [h1]))
    go_ret
    exact ⟨by simp, (Below.refl _ _).alloc (Nat.le_refl _) _⟩

set_option maxRecDepth 100000 in
set_option maxHeartbeats 1600000 in
theorem spec7 (a b c : Int) (w : World) : Calls Try.prog 90 #[opV 7 a b c] w fun e w' => e = .returned (.bool (opOk 7 a b c)) ∧ Below w.heap.size w w' := by
  show Calls _ _ #[.agg #[.int .i64 7, .int .i64 a, .int .i64 b, .int .i64 c]] _ _
  have e0 : opOk 7 a b c = (inn 0 3 a && inn 1 20 b && (c == 0)) := by simp only [← inn_zero]; rfl
  rw [e0]
  clear e0
  obtain ⟨p0, h0⟩ : ∃ p, (inn 0 3 a) = p := ⟨_, rfl⟩
  obtain ⟨p1, h1⟩ : ∃ p, (inn 1 20 b) = p := ⟨_, rfl⟩
  rw [h0, h1]
  cases p0 <;> cases p1
  all_goals
    go_enter Try.func90, Try.ntmps90
    go_wp2_with (first | (go_at_call 107; refine (regC a _).mono ?_; rintro e w1 ⟨rfl, rfl⟩; rw [h0]) | (go_at_call 71; refine (innC b 1 20 _).mono ?_; rintro e w1 ⟨rfl, rfl⟩; rw [h1]))
    go_ret
    exact ⟨by simp, (Below.refl _ _).alloc (Nat.le_refl _) _⟩

set_option maxRecDepth 100000 in
set_option maxHeartbeats 1600000 in
theorem spec8 (a b c : Int) (w : World) : Calls Try.prog 90 #[opV 8 a b c] w fun e w' => e = .returned (.bool (opOk 8 a b c)) ∧ Below w.heap.size w w' := by
  show Calls _ _ #[.agg #[.int .i64 8, .int .i64 a, .int .i64 b, .int .i64 c]] _ _
  have e0 : opOk 8 a b c = (inn 0 3 a && (b == 0) && (c == 0)) := by simp only [← inn_zero]; rfl
  rw [e0]
  clear e0
  obtain ⟨p0, h0⟩ : ∃ p, (inn 0 3 a) = p := ⟨_, rfl⟩
  obtain ⟨p1, h1⟩ : ∃ p, ((b == 0)) = p := ⟨_, rfl⟩
  rw [h0, h1]
  cases p0 <;> cases p1
  all_goals
    go_enter Try.func90, Try.ntmps90
    go_wp2_with (first | (go_at_call 107; refine (regC a _).mono ?_; rintro e w1 ⟨rfl, rfl⟩; rw [h0]))
    go_ret
    exact ⟨by simp, (Below.refl _ _).alloc (Nat.le_refl _) _⟩

set_option maxRecDepth 100000 in
set_option maxHeartbeats 1600000 in
theorem spec9 (a b c : Int) (w : World) : Calls Try.prog 90 #[opV 9 a b c] w fun e w' => e = .returned (.bool (opOk 9 a b c)) ∧ Below w.heap.size w w' := by
  show Calls _ _ #[.agg #[.int .i64 9, .int .i64 a, .int .i64 b, .int .i64 c]] _ _
  have e0 : opOk 9 a b c = ((a == 0) && (b == 0) && (c == 0)) := by simp only [← inn_zero]; rfl
  rw [e0]
  clear e0
  obtain ⟨p0, h0⟩ : ∃ p, ((a == 0)) = p := ⟨_, rfl⟩
  obtain ⟨p1, h1⟩ : ∃ p, ((b == 0)) = p := ⟨_, rfl⟩
  rw [h0, h1]
  cases p0 <;> cases p1
  all_goals
    go_enter Try.func90, Try.ntmps90
    go_wp2_with fail
    go_ret
    exact ⟨by simp, (Below.refl _ _).alloc (Nat.le_refl _) _⟩

set_option maxRecDepth 100000 in
set_option maxHeartbeats 1600000 in
theorem spec10 (a b c : Int) (w : World) : Calls Try.prog 90 #[opV 10 a b c] w fun e w' => e = .returned (.bool (opOk 10 a b c)) ∧ Below w.heap.size w w' := by
  show Calls _ _ #[.agg #[.int .i64 10, .int .i64 a, .int .i64 b, .int .i64 c]] _ _
  have e0 : opOk 10 a b c = ((a == 0) && (b == 0) && (c == 0)) := by simp only [← inn_zero]; rfl
  rw [e0]
  clear e0
  obtain ⟨p0, h0⟩ : ∃ p, ((a == 0)) = p := ⟨_, rfl⟩
  obtain ⟨p1, h1⟩ : ∃ p, ((b == 0)) = p := ⟨_, rfl⟩
  rw [h0, h1]
  cases p0 <;> cases p1
  all_goals
    go_enter Try.func90, Try.ntmps90
    go_wp2_with fail
    go_ret
    exact ⟨by simp, (Below.refl _ _).alloc (Nat.le_refl _) _⟩

set_option maxRecDepth 100000 in
set_option maxHeartbeats 1600000 in
theorem spec11 (a b c : Int) (w : World) : Calls Try.prog 90 #[opV 11 a b c] w fun e w' => e = .returned (.bool (opOk 11 a b c)) ∧ Below w.heap.size w w' := by
  show Calls _ _ #[.agg #[.int .i64 11, .int .i64 a, .int .i64 b, .int .i64 c]] _ _
  have e0 : opOk 11 a b c = ((a == 0) && (b == 0) && (c == 0)) := by simp only [← inn_zero]; rfl
  rw [e0]
  clear e0
  obtain ⟨p0, h0⟩ : ∃ p, ((a == 0)) = p := ⟨_, rfl⟩
  obtain ⟨p1, h1⟩ : ∃ p, ((b == 0)) = p := ⟨_, rfl⟩
  rw [h0, h1]
  cases p0 <;> cases p1
  all_goals
    go_enter Try.func90, Try.ntmps90
    go_wp2_with fail
    go_ret
    exact ⟨by simp, (Below.refl _ _).alloc (Nat.le_refl _) _⟩

set_option maxRecDepth 100000 in
set_option maxHeartbeats 1600000 in
theorem spec12 (a b c : Int) (w : World) : Calls Try.prog 90 #[opV 12 a b c] w fun e w' => e = .returned (.bool (opOk 12 a b c)) ∧ Below w.heap.size w w' := by
  show Calls _ _ #[.agg #[.int .i64 12, .int .i64 a, .int .i64 b, .int .i64 c]] _ _
  have e0 : opOk 12 a b c = (inn 0 7 a && inn 0 3 b && inn 0 3 c) := by rfl
  rw [e0]
  clear e0
  obtain ⟨p0, h0⟩ : ∃ p, (inn 0 7 a) = p := ⟨_, rfl⟩
  obtain ⟨p1, h1⟩ : ∃ p, (inn 0 3 b) = p := ⟨_, rfl⟩
  rw [h0, h1]
  cases p0 <;> cases p1
  all_goals
    go_enter Try.func90, Try.ntmps90
    go_wp2_with (first | (go_at_call 71; refine (innC a 0 7 _).mono ?_; rintro e w1 ⟨rfl, rfl⟩; rw [h0]) | (go_at_call 107; refine (regC b _).mono ?_; rintro e w1 ⟨rfl, rfl⟩; rw [h1]) | (go_at_call 107; refine (regC c _).mono ?_; rintro e w1 ⟨rfl, rfl⟩))
    go_ret
    exact ⟨by simp, (Below.refl _ _).alloc (Nat.le_refl _) _⟩

set_option maxRecDepth 100000 in
set_option maxHeartbeats 1600000 in
theorem spec13 (a b c : Int) (w : World) : Calls Try.prog 90 #[opV 13 a b c] w fun e w' => e = .returned (.bool (opOk 13 a b c)) ∧ Below w.heap.size w w' := by
  show Calls _ _ #[.agg #[.int .i64 13, .int .i64 a, .int .i64 b, .int .i64 c]] _ _
  have e0 : opOk 13 a b c = (inn 0 3 a && inn 0 7 b && (c == 0)) := by simp only [← inn_zero]; rfl
  rw [e0]
  clear e0
  obtain ⟨p0, h0⟩ : ∃ p, (inn 0 3 a) = p := ⟨_, rfl⟩
  obtain ⟨p1, h1⟩ : ∃ p, (inn 0 7 b) = p := ⟨_, rfl⟩
  rw [h0, h1]
  cases p0 <;> cases p1
  all_goals
    go_enter Try.func90, Try.ntmps90
    go_wp2_with (first | (go_at_call 107; refine (regC a _).mono ?_; rintro e w1 ⟨rfl, rfl⟩; rw [h0]) | (go_at_call 71; refine (innC b 0 7 _).mono ?_; rintro e w1 ⟨rfl, rfl⟩; rw [h1]))
    go_ret
    exact ⟨by simp, (Below.refl _ _).alloc (Nat.le_refl _) _⟩

set_option maxRecDepth 100000 in
set_option maxHeartbeats 1600000 in
theorem spec14 (a b c : Int) (w : World) : Calls Try.prog 90 #[opV 14 a b c] w fun e w' => e = .returned (.bool (opOk 14 a b c)) ∧ Below w.heap.size w w' := by
  show Calls _ _ #[.agg #[.int .i64 14, .int .i64 a, .int .i64 b, .int .i64 c]] _ _
  have e0 : opOk 14 a b c = (inn 0 7 a && inn 0 3 b && (c == 0)) := by simp only [← inn_zero]; rfl
  rw [e0]
  clear e0
  obtain ⟨p0, h0⟩ : ∃ p, (inn 0 7 a) = p := ⟨_, rfl⟩
  obtain ⟨p1, h1⟩ : ∃ p, (inn 0 3 b) = p := ⟨_, rfl⟩
  rw [h0, h1]
  cases p0 <;> cases p1
  all_goals
    go_enter Try.func90, Try.ntmps90
    go_wp2_with (first | (go_at_call 71; refine (innC a 0 7 _).mono ?_; rintro e w1 ⟨rfl, rfl⟩; rw [h0]) | (go_at_call 107; refine (regC b _).mono ?_; rintro e w1 ⟨rfl, rfl⟩; rw [h1]))
    go_ret
    exact ⟨by simp, (Below.refl _ _).alloc (Nat.le_refl _) _⟩

set_option maxRecDepth 100000 in
set_option maxHeartbeats 1600000 in
theorem spec15 (a b c : Int) (w : World) : Calls Try.prog 90 #[opV 15 a b c] w fun e w' => e = .returned (.bool (opOk 15 a b c)) ∧ Below w.heap.size w w' := by
  show Calls _ _ #[.agg #[.int .i64 15, .int .i64 a, .int .i64 b, .int .i64 c]] _ _
  have e0 : opOk 15 a b c = (inn 0 3 a && (b == 0) && (c == 0)) := by simp only [← inn_zero]; rfl
  rw [e0]
  clear e0
  obtain ⟨p0, h0⟩ : ∃ p, (inn 0 3 a) = p := ⟨_, rfl⟩
  obtain ⟨p1, h1⟩ : ∃ p, ((b == 0)) = p := ⟨_, rfl⟩
  rw [h0, h1]
  cases p0 <;> cases p1
  all_goals
    go_enter Try.func90, Try.ntmps90
    go_wp2_with (first | (go_at_call 107; refine (regC a _).mono ?_; rintro e w1 ⟨rfl, rfl⟩; rw [h0]))
    go_ret
    exact ⟨by simp, (Below.refl _ _).alloc (Nat.le_refl _) _⟩

set_option maxRecDepth 100000 in
set_option maxHeartbeats 1600000 in
theorem spec16 (a b c : Int) (w : World) : Calls Try.prog 90 #[opV 16 a b c] w fun e w' => e = .returned (.bool (opOk 16 a b c)) ∧ Below w.heap.size w w' := by
  show Calls _ _ #[.agg #[.int .i64 16, .int .i64 a, .int .i64 b, .int .i64 c]] _ _
  have e0 : opOk 16 a b c = (inn 0 3 a && (b == 0) && (c == 0)) := by simp only [← inn_zero]; rfl
  rw [e0]
  clear e0
  obtain ⟨p0, h0⟩ : ∃ p, (inn 0 3 a) = p := ⟨_, rfl⟩
  obtain ⟨p1, h1⟩ : ∃ p, ((b == 0)) = p := ⟨_, rfl⟩
  rw [h0, h1]
  cases p0 <;> cases p1
  all_goals
    go_enter Try.func90, Try.ntmps90
    go_wp2_with (first | (go_at_call 107; refine (regC a _).mono ?_; rintro e w1 ⟨rfl, rfl⟩; rw [h0]))
    go_ret
    exact ⟨by simp, (Below.refl _ _).alloc (Nat.le_refl _) _⟩

set_option maxRecDepth 100000 in
set_option maxHeartbeats 1600000 in
theorem specNone (k a b c : Int) (w : World) (h : k < 1 ∨ 16 < k) : Calls Try.prog 90 #[opV k a b c] w fun e w' => e = .returned (.bool (opOk k a b c)) ∧ Below w.heap.size w w' := by
  show Calls _ _ #[.agg #[.int .i64 k, .int .i64 a, .int .i64 b, .int .i64 c]] _ _
  have e0 : opOk k a b c = false := by unfold opOk; rw [spans_none h]
  rw [e0]
  clear e0
  have d1 : (k == 1) = false := by simp; omega
  have d2 : (k == 2) = false := by simp; omega
  have d3 : (k == 3) = false := by simp; omega
  have d4 : (k == 4) = false := by simp; omega
  have d5 : (k == 5) = false := by simp; omega
  have d6 : (k == 6) = false := by simp; omega
  have d7 : (k == 7) = false := by simp; omega
  have d8 : (k == 8) = false := by simp; omega
  have d9 : (k == 9) = false := by simp; omega
  have d10 : (k == 10) = false := by simp; omega
  have d11 : (k == 11) = false := by simp; omega
  have d12 : (k == 12) = false := by simp; omega
  have d13 : (k == 13) = false := by simp; omega
  have d14 : (k == 14) = false := by simp; omega
  have d15 : (k == 15) = false := by simp; omega
  have d16 : (k == 16) = false := by simp; omega
  clear h
  go_enter Try.func90, Try.ntmps90
  go_wp2
  go_ret
  exact ⟨rfl, (Below.refl _ _).alloc (Nat.le_refl _) _⟩

theorem specC (k a b c : Int) (w : World) : Calls Try.prog 90 #[opV k a b c] w fun e w' => e = .returned (.bool (opOk k a b c)) ∧ Below w.heap.size w w' := by
  rcases kinds k with rfl | rfl | rfl | rfl | rfl | rfl | rfl | rfl | rfl | rfl | rfl | rfl | rfl | rfl | rfl | rfl | h
  · exact spec1 a b c w
  · exact spec2 a b c w
  · exact spec3 a b c w
  · exact spec4 a b c w
  · exact spec5 a b c w
  · exact spec6 a b c w
  · exact spec7 a b c w
  · exact spec8 a b c w
  · exact spec9 a b c w
  · exact spec10 a b c w
  · exact spec11 a b c w
  · exact spec12 a b c w
  · exact spec13 a b c w
  · exact spec14 a b c w
  · exact spec15 a b c w
  · exact spec16 a b c w
  · exact specNone k a b c w h
end Ops
end Go.Proofs.Ytppkohkcffnghaa
