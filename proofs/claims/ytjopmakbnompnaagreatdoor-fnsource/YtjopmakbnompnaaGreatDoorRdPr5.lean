/- Several texts of one proof, in build order: OpImpl, OpLaw, ProgCmp, ShapeSpec, ShapeSpec2, ShapeSpec3. -/
import Derived.Test.YtjopmakbnompnaaGreatDoorRdPr1
import Derived.Test.YtjopmakbnompnaaGreatDoorRdPr2
import Derived.Test.YtjopmakbnompnaaGreatDoorRdPr3
/- The program's OpOk. -/
namespace Go.Proofs.YtjopmakbnompnaaGreatDoor
open Go.RowKit
namespace Ops
open Bas

set_option maxRecDepth 100000 in
theorem hasC (lo hi x : Int) (w : World) : Calls Tryz.prog 69 #[.agg #[.int .i64 lo, .int .i64 hi], .int .i64 x] w fun e w' => e = .returned (.bool (inn lo hi x)) ∧ Below w.heap.size w w' := by
  unfold inn
  by_cases h1 : lo ≤ x
  · have h1' : decide (lo ≤ x) = true := decide_eq_true h1
    go_enter Tryz.func69, Tryz.ntmps69
    go_wp2
    go_ret
    exact ⟨by simp [h1], (Below.refl _ _).alloc (Nat.le_refl _) _⟩
  · have h1' : decide (lo ≤ x) = false := decide_eq_false h1
    go_enter Tryz.func69, Tryz.ntmps69
    go_wp2
    go_ret
    exact ⟨by simp, (Below.refl _ _).alloc (Nat.le_refl _) _⟩

/-- three spans as a value -/
def spV (p q r : Int × Int) : Value := .agg #[.int .i64 p.1, .int .i64 p.2, .int .i64 q.1, .int .i64 q.2, .int .i64 r.1, .int .i64 r.2]

/-- what the spans of a kind are, given back -/
def SpOf (k : Int) : Prop := ∀ w : World, Calls Tryz.prog 67 #[.int .i64 k] w fun e w' =>
  e = .returned (match spans k with | none => .tuple #[spV (0, 0) (0, 0) (0, 0), .bool false] | some (p, q, r) => .tuple #[spV p q r, .bool true]) ∧ Below w.heap.size w w'

set_option maxRecDepth 100000 in
set_option maxHeartbeats 1600000 in
theorem spans1 : SpOf 1 := by
  intro w
  show Calls _ _ _ _ (fun e w' => e = .returned (.tuple #[.agg #[.int .i64 0, .int .i64 3, .int .i64 0, .int .i64 65535, .int .i64 0, .int .i64 0], .bool true]) ∧ Below w.heap.size w w')
  go_enter Tryz.func67, Tryz.ntmps67
  go_wp2
  refine bodyPost_ret (v := .tuple #[.agg #[.int .i64 0, .int .i64 3, .int .i64 0, .int .i64 65535, .int .i64 0, .int .i64 0], .bool true]) (by simp [results, Tryz.results67, go_sem]) rfl ⟨rfl, ?_⟩
  exact ((((Below.refl _ _).alloc (Nat.le_refl _) _).alloc (by simp) _).alloc (by simp; omega) _).alloc (by simp; omega) _

set_option maxRecDepth 100000 in
set_option maxHeartbeats 1600000 in
theorem spans2 : SpOf 2 := by
  intro w
  show Calls _ _ _ _ (fun e w' => e = .returned (.tuple #[.agg #[.int .i64 0, .int .i64 3, .int .i64 0, .int .i64 3, .int .i64 0, .int .i64 3], .bool true]) ∧ Below w.heap.size w w')
  go_enter Tryz.func67, Tryz.ntmps67
  go_wp2
  refine bodyPost_ret (v := .tuple #[.agg #[.int .i64 0, .int .i64 3, .int .i64 0, .int .i64 3, .int .i64 0, .int .i64 3], .bool true]) (by simp [results, Tryz.results67, go_sem]) rfl ⟨rfl, ?_⟩
  exact ((((Below.refl _ _).alloc (Nat.le_refl _) _).alloc (by simp) _).alloc (by simp; omega) _).alloc (by simp; omega) _

set_option maxRecDepth 100000 in
set_option maxHeartbeats 1600000 in
theorem spans3 : SpOf 3 := by
  intro w
  show Calls _ _ _ _ (fun e w' => e = .returned (.tuple #[.agg #[.int .i64 0, .int .i64 3, .int .i64 0, .int .i64 3, .int .i64 0, .int .i64 3], .bool true]) ∧ Below w.heap.size w w')
  go_enter Tryz.func67, Tryz.ntmps67
  go_wp2
  refine bodyPost_ret (v := .tuple #[.agg #[.int .i64 0, .int .i64 3, .int .i64 0, .int .i64 3, .int .i64 0, .int .i64 3], .bool true]) (by simp [results, Tryz.results67, go_sem]) rfl ⟨rfl, ?_⟩
  exact ((((Below.refl _ _).alloc (Nat.le_refl _) _).alloc (by simp) _).alloc (by simp; omega) _).alloc (by simp; omega) _

set_option maxRecDepth 100000 in
set_option maxHeartbeats 1600000 in
theorem spans4 : SpOf 4 := by
  intro w
  show Calls _ _ _ _ (fun e w' => e = .returned (.tuple #[.agg #[.int .i64 0, .int .i64 3, .int .i64 0, .int .i64 3, .int .i64 0, .int .i64 3], .bool true]) ∧ Below w.heap.size w w')
  go_enter Tryz.func67, Tryz.ntmps67
  go_wp2
  refine bodyPost_ret (v := .tuple #[.agg #[.int .i64 0, .int .i64 3, .int .i64 0, .int .i64 3, .int .i64 0, .int .i64 3], .bool true]) (by simp [results, Tryz.results67, go_sem]) rfl ⟨rfl, ?_⟩
  exact ((((Below.refl _ _).alloc (Nat.le_refl _) _).alloc (by simp) _).alloc (by simp; omega) _).alloc (by simp; omega) _

set_option maxRecDepth 100000 in
set_option maxHeartbeats 1600000 in
theorem spans5 : SpOf 5 := by
  intro w
  show Calls _ _ _ _ (fun e w' => e = .returned (.tuple #[.agg #[.int .i64 0, .int .i64 3, .int .i64 0, .int .i64 7, .int .i64 0, .int .i64 0], .bool true]) ∧ Below w.heap.size w w')
  go_enter Tryz.func67, Tryz.ntmps67
  go_wp2
  refine bodyPost_ret (v := .tuple #[.agg #[.int .i64 0, .int .i64 3, .int .i64 0, .int .i64 7, .int .i64 0, .int .i64 0], .bool true]) (by simp [results, Tryz.results67, go_sem]) rfl ⟨rfl, ?_⟩
  exact ((((Below.refl _ _).alloc (Nat.le_refl _) _).alloc (by simp) _).alloc (by simp; omega) _).alloc (by simp; omega) _

set_option maxRecDepth 100000 in
set_option maxHeartbeats 1600000 in
theorem spans6 : SpOf 6 := by
  intro w
  show Calls _ _ _ _ (fun e w' => e = .returned (.tuple #[.agg #[.int .i64 0, .int .i64 7, .int .i64 0, .int .i64 3, .int .i64 0, .int .i64 0], .bool true]) ∧ Below w.heap.size w w')
  go_enter Tryz.func67, Tryz.ntmps67
  go_wp2
  refine bodyPost_ret (v := .tuple #[.agg #[.int .i64 0, .int .i64 7, .int .i64 0, .int .i64 3, .int .i64 0, .int .i64 0], .bool true]) (by simp [results, Tryz.results67, go_sem]) rfl ⟨rfl, ?_⟩
  exact ((((Below.refl _ _).alloc (Nat.le_refl _) _).alloc (by simp) _).alloc (by simp; omega) _).alloc (by simp; omega) _

set_option maxRecDepth 100000 in
set_option maxHeartbeats 1600000 in
theorem spans7 : SpOf 7 := by
  intro w
  show Calls _ _ _ _ (fun e w' => e = .returned (.tuple #[.agg #[.int .i64 0, .int .i64 3, .int .i64 1, .int .i64 20, .int .i64 0, .int .i64 0], .bool true]) ∧ Below w.heap.size w w')
  go_enter Tryz.func67, Tryz.ntmps67
  go_wp2
  refine bodyPost_ret (v := .tuple #[.agg #[.int .i64 0, .int .i64 3, .int .i64 1, .int .i64 20, .int .i64 0, .int .i64 0], .bool true]) (by simp [results, Tryz.results67, go_sem]) rfl ⟨rfl, ?_⟩
  exact ((((Below.refl _ _).alloc (Nat.le_refl _) _).alloc (by simp) _).alloc (by simp; omega) _).alloc (by simp; omega) _

set_option maxRecDepth 100000 in
set_option maxHeartbeats 1600000 in
theorem spans8 : SpOf 8 := by
  intro w
  show Calls _ _ _ _ (fun e w' => e = .returned (.tuple #[.agg #[.int .i64 0, .int .i64 3, .int .i64 0, .int .i64 0, .int .i64 0, .int .i64 0], .bool true]) ∧ Below w.heap.size w w')
  go_enter Tryz.func67, Tryz.ntmps67
  go_wp2
  refine bodyPost_ret (v := .tuple #[.agg #[.int .i64 0, .int .i64 3, .int .i64 0, .int .i64 0, .int .i64 0, .int .i64 0], .bool true]) (by simp [results, Tryz.results67, go_sem]) rfl ⟨rfl, ?_⟩
  exact ((((Below.refl _ _).alloc (Nat.le_refl _) _).alloc (by simp) _).alloc (by simp; omega) _).alloc (by simp; omega) _

set_option maxRecDepth 100000 in
set_option maxHeartbeats 1600000 in
theorem spans9 : SpOf 9 := by
  intro w
  show Calls _ _ _ _ (fun e w' => e = .returned (.tuple #[.agg #[.int .i64 0, .int .i64 0, .int .i64 0, .int .i64 0, .int .i64 0, .int .i64 0], .bool true]) ∧ Below w.heap.size w w')
  go_enter Tryz.func67, Tryz.ntmps67
  go_wp2
  refine bodyPost_ret (v := .tuple #[.agg #[.int .i64 0, .int .i64 0, .int .i64 0, .int .i64 0, .int .i64 0, .int .i64 0], .bool true]) (by simp [results, Tryz.results67, go_sem]) rfl ⟨rfl, ?_⟩
  exact ((((Below.refl _ _).alloc (Nat.le_refl _) _).alloc (by simp) _).alloc (by simp; omega) _).alloc (by simp; omega) _

set_option maxRecDepth 100000 in
set_option maxHeartbeats 1600000 in
theorem spans10 : SpOf 10 := by
  intro w
  show Calls _ _ _ _ (fun e w' => e = .returned (.tuple #[.agg #[.int .i64 0, .int .i64 0, .int .i64 0, .int .i64 0, .int .i64 0, .int .i64 0], .bool true]) ∧ Below w.heap.size w w')
  go_enter Tryz.func67, Tryz.ntmps67
  go_wp2
  refine bodyPost_ret (v := .tuple #[.agg #[.int .i64 0, .int .i64 0, .int .i64 0, .int .i64 0, .int .i64 0, .int .i64 0], .bool true]) (by simp [results, Tryz.results67, go_sem]) rfl ⟨rfl, ?_⟩
  exact ((((Below.refl _ _).alloc (Nat.le_refl _) _).alloc (by simp) _).alloc (by simp; omega) _).alloc (by simp; omega) _

set_option maxRecDepth 100000 in
set_option maxHeartbeats 1600000 in
theorem spans11 : SpOf 11 := by
  intro w
  show Calls _ _ _ _ (fun e w' => e = .returned (.tuple #[.agg #[.int .i64 0, .int .i64 0, .int .i64 0, .int .i64 0, .int .i64 0, .int .i64 0], .bool true]) ∧ Below w.heap.size w w')
  go_enter Tryz.func67, Tryz.ntmps67
  go_wp2
  refine bodyPost_ret (v := .tuple #[.agg #[.int .i64 0, .int .i64 0, .int .i64 0, .int .i64 0, .int .i64 0, .int .i64 0], .bool true]) (by simp [results, Tryz.results67, go_sem]) rfl ⟨rfl, ?_⟩
  exact ((((Below.refl _ _).alloc (Nat.le_refl _) _).alloc (by simp) _).alloc (by simp; omega) _).alloc (by simp; omega) _

set_option maxRecDepth 100000 in
set_option maxHeartbeats 1600000 in
theorem spans12 : SpOf 12 := by
  intro w
  show Calls _ _ _ _ (fun e w' => e = .returned (.tuple #[.agg #[.int .i64 0, .int .i64 7, .int .i64 0, .int .i64 3, .int .i64 0, .int .i64 3], .bool true]) ∧ Below w.heap.size w w')
  go_enter Tryz.func67, Tryz.ntmps67
  go_wp2
  refine bodyPost_ret (v := .tuple #[.agg #[.int .i64 0, .int .i64 7, .int .i64 0, .int .i64 3, .int .i64 0, .int .i64 3], .bool true]) (by simp [results, Tryz.results67, go_sem]) rfl ⟨rfl, ?_⟩
  exact ((((Below.refl _ _).alloc (Nat.le_refl _) _).alloc (by simp) _).alloc (by simp; omega) _).alloc (by simp; omega) _

set_option maxRecDepth 100000 in
set_option maxHeartbeats 1600000 in
theorem spans13 : SpOf 13 := by
  intro w
  show Calls _ _ _ _ (fun e w' => e = .returned (.tuple #[.agg #[.int .i64 0, .int .i64 3, .int .i64 0, .int .i64 7, .int .i64 0, .int .i64 0], .bool true]) ∧ Below w.heap.size w w')
  go_enter Tryz.func67, Tryz.ntmps67
  go_wp2
  refine bodyPost_ret (v := .tuple #[.agg #[.int .i64 0, .int .i64 3, .int .i64 0, .int .i64 7, .int .i64 0, .int .i64 0], .bool true]) (by simp [results, Tryz.results67, go_sem]) rfl ⟨rfl, ?_⟩
  exact ((((Below.refl _ _).alloc (Nat.le_refl _) _).alloc (by simp) _).alloc (by simp; omega) _).alloc (by simp; omega) _

set_option maxRecDepth 100000 in
set_option maxHeartbeats 1600000 in
theorem spans14 : SpOf 14 := by
  intro w
  show Calls _ _ _ _ (fun e w' => e = .returned (.tuple #[.agg #[.int .i64 0, .int .i64 7, .int .i64 0, .int .i64 3, .int .i64 0, .int .i64 0], .bool true]) ∧ Below w.heap.size w w')
  go_enter Tryz.func67, Tryz.ntmps67
  go_wp2
  refine bodyPost_ret (v := .tuple #[.agg #[.int .i64 0, .int .i64 7, .int .i64 0, .int .i64 3, .int .i64 0, .int .i64 0], .bool true]) (by simp [results, Tryz.results67, go_sem]) rfl ⟨rfl, ?_⟩
  exact ((((Below.refl _ _).alloc (Nat.le_refl _) _).alloc (by simp) _).alloc (by simp; omega) _).alloc (by simp; omega) _

set_option maxRecDepth 100000 in
set_option maxHeartbeats 1600000 in
theorem spans15 : SpOf 15 := by
  intro w
  show Calls _ _ _ _ (fun e w' => e = .returned (.tuple #[.agg #[.int .i64 0, .int .i64 3, .int .i64 0, .int .i64 0, .int .i64 0, .int .i64 0], .bool true]) ∧ Below w.heap.size w w')
  go_enter Tryz.func67, Tryz.ntmps67
  go_wp2
  refine bodyPost_ret (v := .tuple #[.agg #[.int .i64 0, .int .i64 3, .int .i64 0, .int .i64 0, .int .i64 0, .int .i64 0], .bool true]) (by simp [results, Tryz.results67, go_sem]) rfl ⟨rfl, ?_⟩
  exact ((((Below.refl _ _).alloc (Nat.le_refl _) _).alloc (by simp) _).alloc (by simp; omega) _).alloc (by simp; omega) _

set_option maxRecDepth 100000 in
set_option maxHeartbeats 1600000 in
theorem spans16 : SpOf 16 := by
  intro w
  show Calls _ _ _ _ (fun e w' => e = .returned (.tuple #[.agg #[.int .i64 0, .int .i64 3, .int .i64 0, .int .i64 0, .int .i64 0, .int .i64 0], .bool true]) ∧ Below w.heap.size w w')
  go_enter Tryz.func67, Tryz.ntmps67
  go_wp2
  refine bodyPost_ret (v := .tuple #[.agg #[.int .i64 0, .int .i64 3, .int .i64 0, .int .i64 0, .int .i64 0, .int .i64 0], .bool true]) (by simp [results, Tryz.results67, go_sem]) rfl ⟨rfl, ?_⟩
  exact ((((Below.refl _ _).alloc (Nat.le_refl _) _).alloc (by simp) _).alloc (by simp; omega) _).alloc (by simp; omega) _

set_option maxRecDepth 100000 in
set_option maxHeartbeats 1600000 in
theorem spansNo (k : Int) (h : k < 1 ∨ 16 < k) : SpOf k := by
  intro w
  rw [spans_none h]
  have d1 : (k == 1) = false := by simp; omega
  have d2 : (k == 2) = false := by simp; omega
  have d3 : (k == 3) = false := by simp; omega
  have d4 : (k == 4) = false := by simp; omega
  have d5 : (k == 5) = false := by simp; omega
  have d6 : (k == 6) = false := by simp; omega
  have d7 : (k == 7) = false := by simp; omega
  have d8 : (k == 8) = false := by simp; omega
  have d9 : (k == 9) = false := by simp; omega
  have d10 : (k == 10) = false := by simp; omega
  have d11 : (k == 11) = false := by simp; omega
  have d12 : (k == 12) = false := by simp; omega
  have d13 : (k == 13) = false := by simp; omega
  have d14 : (k == 14) = false := by simp; omega
  have d15 : (k == 15) = false := by simp; omega
  have d16 : (k == 16) = false := by simp; omega
  clear h
  show Calls _ _ _ _ (fun e w' => e = .returned (.tuple #[.agg #[.int .i64 0, .int .i64 0, .int .i64 0, .int .i64 0, .int .i64 0, .int .i64 0], .bool false]) ∧ Below w.heap.size w w')
  go_enter Tryz.func67, Tryz.ntmps67
  go_wp2
  refine bodyPost_ret (v := .tuple #[.agg #[.int .i64 0, .int .i64 0, .int .i64 0, .int .i64 0, .int .i64 0, .int .i64 0], .bool false]) (by simp [results, Tryz.results67, go_sem]) rfl ⟨rfl, ?_⟩
  exact ((((Below.refl _ _).alloc (Nat.le_refl _) _).alloc (by simp) _).alloc (by simp; omega) _).alloc (by simp; omega) _

theorem spansC (k : Int) : SpOf k := by
  rcases kinds k with rfl | rfl | rfl | rfl | rfl | rfl | rfl | rfl | rfl | rfl | rfl | rfl | rfl | rfl | rfl | rfl | h
  · exact spans1
  · exact spans2
  · exact spans3
  · exact spans4
  · exact spans5
  · exact spans6
  · exact spans7
  · exact spans8
  · exact spans9
  · exact spans10
  · exact spans11
  · exact spans12
  · exact spans13
  · exact spans14
  · exact spans15
  · exact spans16
  · exact spansNo k h

set_option maxRecDepth 100000 in
set_option maxHeartbeats 1600000 in
theorem implSome (k a b c p0 p1 q0 q1 r0 r1 : Int) (w : World)
    (hS : ∀ W : World, Calls Tryz.prog 67 #[.int .i64 k] W fun e w' => e = .returned (.tuple #[.agg #[.int .i64 p0, .int .i64 p1, .int .i64 q0, .int .i64 q1, .int .i64 r0, .int .i64 r1], .bool true]) ∧ Below W.heap.size W w') :
    Calls Tryz.prog 40 #[opV k a b c] w fun e w' => e = .returned (.bool (inn p0 p1 a && inn q0 q1 b && inn r0 r1 c)) ∧ Below w.heap.size w w' := by
  show Calls _ _ #[.agg #[.int .i64 k, .int .i64 a, .int .i64 b, .int .i64 c]] _ _
  obtain ⟨x, hx⟩ : ∃ p, inn p0 p1 a = p := ⟨_, rfl⟩
  obtain ⟨y, hy⟩ : ∃ p, inn q0 q1 b = p := ⟨_, rfl⟩
  obtain ⟨z, hz⟩ : ∃ p, inn r0 r1 c = p := ⟨_, rfl⟩
  rw [hx, hy, hz]
  have O0 := Blk.new w #[.int .i64 k, .int .i64 a, .int .i64 b, .int .i64 c] 36
  have b0 := alloc_below w (.cells #[.int .i64 k, .int .i64 a, .int .i64 b, .int .i64 c] 36)
  obtain ⟨W0, hW0⟩ : ∃ W0, w.alloc (.cells #[.int .i64 k, .int .i64 a, .int .i64 b, .int .i64 c] 36) = W0 := ⟨_, rfl⟩
  rw [hW0] at O0 b0
  have k0 := O0.cell 0
  have hs0 := O0.lt
  go_enter Tryz.func40, Tryz.ntmps40
  go_wp2_with fail
  clear hW0 k0
  refine (hS W0).mono ?_
  rintro e w1 ⟨rfl, b1⟩
  have O1 := O0.on b1 hs0
  have O2 := O1.on (alloc_below w1 (.cells #[.int .i64 p0, .int .i64 p1, .int .i64 q0, .int .i64 q1, .int .i64 r0, .int .i64 r1] 101)) O1.lt
  have P2 := Blk.new w1 #[.int .i64 p0, .int .i64 p1, .int .i64 q0, .int .i64 q1, .int .i64 r0, .int .i64 r1] 101
  have b2 := (b0.trans (b1.mono b0.size)).alloc (by have := b0.size; have := b1.size; omega) (.cells #[.int .i64 p0, .int .i64 p1, .int .i64 q0, .int .i64 q1, .int .i64 r0, .int .i64 r1] 101)
  obtain ⟨W2, hW2⟩ : ∃ W2, w1.alloc (.cells #[.int .i64 p0, .int .i64 p1, .int .i64 q0, .int .i64 q1, .int .i64 r0, .int .i64 r1] 101) = W2 := ⟨_, rfl⟩
  obtain ⟨p, hp⟩ : ∃ p, w1.heap.size = p := ⟨_, rfl⟩
  rw [hW2] at O2 P2 b2
  rw [hp] at P2
  clear O0 b0 b1 O1 hS
  have k1 := O2.cell 1
  have j0 := P2.cell 0; have j1 := P2.cell 1
  go_wp2_with fail
  clear hW2 hp k1 j0 j1
  refine (hasC p0 p1 a W2).mono ?_
  rintro e w3 ⟨rfl, b3⟩
  rw [hx]
  have O3 := O2.on b3 O2.lt; have P3 := P2.on b3 P2.lt
  have b3 := b2.trans (b3.mono b2.size)
  clear O2 P2 b2
  cases x
  · go_wp2
    go_ret
    exact ⟨by simp, b3⟩
  have k2 := O3.cell 2
  have j2 := P3.cell 2; have j3 := P3.cell 3
  go_wp2_with fail
  clear k2 j2 j3
  refine (hasC q0 q1 b w3).mono ?_
  rintro e w4 ⟨rfl, b4⟩
  rw [hy]
  have O4 := O3.on b4 O3.lt; have P4 := P3.on b4 P3.lt
  have b4 := b3.trans (b4.mono b3.size)
  clear O3 P3 b3
  cases y
  · go_wp2
    go_ret
    exact ⟨by simp, b4⟩
  have k3 := O4.cell 3
  have j4 := P4.cell 4; have j5 := P4.cell 5
  go_wp2_with fail
  clear k3 j4 j5
  refine (hasC r0 r1 c w4).mono ?_
  rintro e w5 ⟨rfl, b5⟩
  rw [hz]
  have b5 := b4.trans (b5.mono b4.size)
  go_wp2
  go_ret
  exact ⟨by simp, b5⟩

set_option maxRecDepth 100000 in
set_option maxHeartbeats 1600000 in
theorem implNone (k a b c : Int) (w : World)
    (hS : ∀ W : World, Calls Tryz.prog 67 #[.int .i64 k] W fun e w' => e = .returned (.tuple #[.agg #[.int .i64 0, .int .i64 0, .int .i64 0, .int .i64 0, .int .i64 0, .int .i64 0], .bool false]) ∧ Below W.heap.size W w') :
    Calls Tryz.prog 40 #[opV k a b c] w fun e w' => e = .returned (.bool false) ∧ Below w.heap.size w w' := by
  show Calls _ _ #[.agg #[.int .i64 k, .int .i64 a, .int .i64 b, .int .i64 c]] _ _
  have b0 := alloc_below w (.cells #[.int .i64 k, .int .i64 a, .int .i64 b, .int .i64 c] 36)
  go_enter Tryz.func40, Tryz.ntmps40
  go_wp2_with fail
  refine (hS _).mono ?_
  rintro e w1 ⟨rfl, b1⟩
  go_wp2
  go_ret
  exact ⟨rfl, (b0.trans (b1.mono b0.size)).alloc (by have := b0.size; have := b1.size; omega) _⟩

theorem implC (k a b c : Int) (w : World) : Calls Tryz.prog 40 #[opV k a b c] w fun e w' => e = .returned (.bool (opOk k a b c)) ∧ Below w.heap.size w w' := by
  have hS := spansC k
  unfold SpOf at hS
  unfold opOk
  rcases hs : spans k with _ | ⟨⟨p0, p1⟩, ⟨q0, q1⟩, ⟨r0, r1⟩⟩
  · rw [hs] at hS
    exact implNone k a b c w hS
  · rw [hs] at hS
    exact implSome k a b c p0 p1 q0 q1 r0 r1 w hS
end Ops
end Go.Proofs.YtjopmakbnompnaaGreatDoor
/- The laws of OpOk and Touches. -/
namespace Go.Proofs.YtjopmakbnompnaaGreatDoor
open Go.RowKit
namespace Ops
open Bas

/-- what Touches says -/
def touches (k a b c : Int) : Int := if opOk k a b c = true then (if k = 5 ∨ k = 6 then 1 else if k = 12 ∨ k = 13 ∨ k = 14 ∨ k = 15 ∨ k = 16 then 2 else 0) else 0

set_option maxRecDepth 100000 in
set_option maxHeartbeats 1600000 in
theorem touchImpl (k a b c : Int) (w : World) : Calls Tryz.prog 84 #[opV k a b c] w fun e w' => e = .returned (.int .i64 (touches k a b c)) ∧ Below w.heap.size w w' := by
  have c0 := implC k a b c (w.alloc (.cells #[.int .i64 k, .int .i64 a, .int .i64 b, .int .i64 c] 36))
  have b0 := alloc_below w (.cells #[.int .i64 k, .int .i64 a, .int .i64 b, .int .i64 c] 36)
  have O0 := Blk.new w #[.int .i64 k, .int .i64 a, .int .i64 b, .int .i64 c] 36
  unfold touches
  obtain ⟨p, hp⟩ : ∃ p, opOk k a b c = p := ⟨_, rfl⟩
  rw [hp] at c0 ⊢
  clear hp
  unfold opV at c0 ⊢
  cases p
  · go_enter Tryz.func84, Tryz.ntmps84
    go_wp2_with fail
    refine c0.mono ?_
    rintro e w1 ⟨rfl, b1⟩
    go_wp2
    go_ret
    exact ⟨rfl, b0.trans (b1.mono b0.size)⟩
  · by_cases hk : k = 5 ∨ k = 6 ∨ k = 12 ∨ k = 13 ∨ k = 14 ∨ k = 15 ∨ k = 16
    · rcases hk with rfl | rfl | rfl | rfl | rfl | rfl | rfl
      all_goals
        go_enter Tryz.func84, Tryz.ntmps84
        go_wp2_with fail
        refine c0.mono ?_
        rintro e w1 ⟨rfl, b1⟩
        have k0 := (O0.on b1 O0.lt).cell 0
        go_wp2
        go_ret
        exact ⟨rfl, b0.trans (b1.mono b0.size)⟩
    · have e0 : (if (k = 5 ∨ k = 6) then (1 : Int) else if (k = 12 ∨ k = 13 ∨ k = 14 ∨ k = 15 ∨ k = 16) then 2 else 0) = 0 := by rw [if_neg (by omega), if_neg (by omega)]
      rw [e0]
      have d5 : (k == 5) = false := by simp; omega
      have d6 : (k == 6) = false := by simp; omega
      have d12 : (k == 12) = false := by simp; omega
      have d13 : (k == 13) = false := by simp; omega
      have d14 : (k == 14) = false := by simp; omega
      have d15 : (k == 15) = false := by simp; omega
      have d16 : (k == 16) = false := by simp; omega
      clear hk e0
      go_enter Tryz.func84, Tryz.ntmps84
      go_wp2_with fail
      refine c0.mono ?_
      rintro e w1 ⟨rfl, b1⟩
      have k0 := (O0.on b1 O0.lt).cell 0
      go_wp2
      go_ret
      exact ⟨rfl, b0.trans (b1.mono b0.size)⟩

set_option maxRecDepth 100000 in
set_option maxHeartbeats 1600000 in
theorem touchSpec (k a b c : Int) (w : World) : Calls Tryz.prog 56 #[opV k a b c] w fun e w' => e = .returned (.int .i64 (touches k a b c)) ∧ Below w.heap.size w w' := by
  have c0 := specC k a b c (w.alloc (.cells #[.int .i64 k, .int .i64 a, .int .i64 b, .int .i64 c] 36))
  have b0 := alloc_below w (.cells #[.int .i64 k, .int .i64 a, .int .i64 b, .int .i64 c] 36)
  have O0 := Blk.new w #[.int .i64 k, .int .i64 a, .int .i64 b, .int .i64 c] 36
  unfold touches
  obtain ⟨p, hp⟩ : ∃ p, opOk k a b c = p := ⟨_, rfl⟩
  rw [hp] at c0 ⊢
  clear hp
  unfold opV at c0 ⊢
  cases p
  · go_enter Tryz.func56, Tryz.ntmps56
    go_wp2_with fail
    refine c0.mono ?_
    rintro e w1 ⟨rfl, b1⟩
    go_wp2
    go_ret
    exact ⟨rfl, b0.trans (b1.mono b0.size)⟩
  · by_cases hk : k = 5 ∨ k = 6 ∨ k = 12 ∨ k = 13 ∨ k = 14 ∨ k = 15 ∨ k = 16
    · rcases hk with rfl | rfl | rfl | rfl | rfl | rfl | rfl
      all_goals
        go_enter Tryz.func56, Tryz.ntmps56
        go_wp2_with fail
        refine c0.mono ?_
        rintro e w1 ⟨rfl, b1⟩
        have k0 := (O0.on b1 O0.lt).cell 0
        go_wp2
        go_ret
        exact ⟨rfl, b0.trans (b1.mono b0.size)⟩
    · have e0 : (if (k = 5 ∨ k = 6) then (1 : Int) else if (k = 12 ∨ k = 13 ∨ k = 14 ∨ k = 15 ∨ k = 16) then 2 else 0) = 0 := by rw [if_neg (by omega), if_neg (by omega)]
      rw [e0]
      have d5 : (k == 5) = false := by simp; omega
      have d6 : (k == 6) = false := by simp; omega
      have d12 : (k == 12) = false := by simp; omega
      have d13 : (k == 13) = false := by simp; omega
      have d14 : (k == 14) = false := by simp; omega
      have d15 : (k == 15) = false := by simp; omega
      have d16 : (k == 16) = false := by simp; omega
      clear hk e0
      go_enter Tryz.func56, Tryz.ntmps56
      go_wp2_with fail
      refine c0.mono ?_
      rintro e w1 ⟨rfl, b1⟩
      have k0 := (O0.on b1 O0.lt).cell 0
      go_wp2
      go_ret
      exact ⟨rfl, b0.trans (b1.mono b0.size)⟩

end Ops
end Go.Proofs.YtjopmakbnompnaaGreatDoor
/- Whole programs: the laws' own copies, comparisons and sizes. -/
set_option linter.unusedVariables false
namespace Go.Proofs.YtjopmakbnompnaaGreatDoor
open Go.RowKit
namespace Ops
open Bas Flat

/-- a program: its code, its kids' codes -/
structure SeesP (B : Nat) (w : World) (vc vk : Value) (xs : List O4) (kss : List (List O4)) : Prop where
  c : Sees4 B w vc xs
  k : SeesK B w vk kss
section
variable {B B' : Nat} {w w' : World} {vc vk : Value} {xs : List O4} {kss : List (List O4)}
theorem SeesP.on (h : SeesP B w vc vk xs kss) (hb : Below B' w w') (hB : B ≤ B') : SeesP B w' vc vk xs kss := ⟨h.c.on hb hB, h.k.on hb hB⟩
theorem SeesP.up (h : SeesP B w vc vk xs kss) (hB : B ≤ B') : SeesP B' w vc vk xs kss := ⟨h.c.up hB, h.k.up hB⟩
end
/-- .. in blocks of which S holds -/
structure SeesPIn (S : Nat → Prop) (w : World) (vc vk : Value) (xs : List O4) (kss : List (List O4)) : Prop where
  c : SeesIn opEl S w vc xs
  k : SeesKIn S w vk kss
theorem SeesPIn.sees {S : Nat → Prop} {B : Nat} {w : World} {vc vk : Value} {xs : List O4} {kss : List (List O4)} (h : SeesPIn S w vc vk xs kss) (hs : ∀ b, S b → b < B) : SeesP B w vc vk xs kss := ⟨h.c.mono hs, h.k.mono hs⟩
/-- lengths that a law lets by -/
def Fits (xs : List O4) (kss : List (List O4)) : Prop := xs.length ≤ 1048576 ∧ kss.length ≤ 1048576 ∧ ∀ ks ∈ kss, ks.length ≤ 1048576

set_option maxRecDepth 100000 in
set_option maxHeartbeats 800000 in
theorem eqKidE (v v' : Value) (xs : List O4) (B : Nat) (w : World) (hv : Sees4 B w v xs) (hv' : Sees4 B w v' xs) (hB : B ≤ w.heap.size) :
    Calls Tryz.prog 79 #[.agg #[v], .agg #[v']] w fun e w' => e = .returned (.bool true) ∧ Below w.heap.size w w' := by
  obtain ⟨a, cap, rfl⟩ := hv.form
  obtain ⟨a', cap', rfl⟩ := hv'.form
  obtain ⟨n, hn⟩ : ∃ n, xs.length = n := ⟨_, rfl⟩
  rw [hn] at hv hv' ⊢
  have hb0 := (alloc_below w (.cells #[.slice a n cap] 47)).alloc (by simp) (.cells #[.slice a' n cap'] 47)
  have c0 := eqOpsC _ _ xs B _ (hv.on hb0 hB) (hv'.on hb0 hB) (by simp; omega)
  go_enter Tryz.func79, Tryz.ntmps79
  go_wp2_with fail
  refine c0.mono ?_
  rintro e w1 ⟨rfl, hb⟩
  go_wp2
  go_ret
  exact ⟨rfl, hb0.trans (hb.mono (by simp; omega))⟩

set_option maxRecDepth 100000 in
set_option maxHeartbeats 1600000 in
theorem eqKidsC (v v' : Value) (kss : List (List O4)) (B : Nat) (w : World) (hv : SeesK B w v kss) (hv' : SeesK B w v' kss) (hB : B ≤ w.heap.size) :
    Calls Tryz.prog 45 #[v, v'] w fun e w' => e = .returned (.bool true) ∧ Below w.heap.size w w' := by
  have hroom := hv.room
  obtain ⟨a, cap, rfl⟩ := hv.form
  obtain ⟨a', cap', rfl⟩ := hv'.form
  obtain ⟨n, hn⟩ : ∃ n, kss.length = n := ⟨_, rfl⟩
  rw [hn] at hv hv' hroom ⊢
  have hm : (n : Int) ≤ 9223372036854775807 := by unfold maxLen at hroom; omega
  have HV := (show Hid _ from hv)
  have HV' := (show Hid _ from hv')
  clear hv hv' hroom
  obtain ⟨g, hg⟩ : ∃ g, w.heap.size = g := ⟨_, rfl⟩
  rw [hg] at hB ⊢
  go_enter Tryz.func45, Tryz.ntmps45
  go_wp2
  go_loopw [5] (fun i wr => ∃ k : Nat, k ≤ n ∧ i = .int .i64 k ∧ Below g w wr) (fun i _ => n - (intOf i).toNat)
  case atStart => exact ⟨0, Nat.zero_le _, rfl, Below.refl _ _⟩
  case round =>
    obtain ⟨k, hk, rfl, hb⟩ := hrel
    by_cases hlt : k < n
    · obtain ⟨b, off, rfl, hbB, hc⟩ := SeesK.open HV.out (by omega)
      obtain ⟨b', off', rfl, hbB', hc'⟩ := SeesK.open HV'.out (by omega)
      obtain ⟨s, p1, p2⟩ := hc k (by omega)
      obtain ⟨s', p1', p2'⟩ := hc' k (by omega)
      have a0 := (hb.cell (p := ⟨b, off + k, none⟩) (by show b < g; omega)).trans p1
      have a1 := (hb.cell (p := ⟨b', off' + k, none⟩) (by show b' < g; omega)).trans p1'
      have hsz := hb.size
      have cT := fun W (h : Below g w W) => eqKidE _ _ _ B W (p2.on h hB) (p2'.on h hB) (by have := h.size; omega)
      have HT := (show Hid _ from cT)
      have HB := (show Hid _ from hb)
      clear hc hc' p1 p1' p2 p2' cT
      go_wp2_with fail
      go_region_with (go_at_call 79; refine (HT.out _ ?_).mono ?_; (first | exact HB.out | exact HB.out.drew | exact HB.out.drew.drew); rintro e w2 ⟨rfl, hb2⟩)
      all_goals
        go_wp2
        go_roundw
        case rel =>
          have hle : g ≤ wr.heap.size := by omega
          refine ⟨k + 1, by omega, by go_num, ?_⟩
          first | exact hb.trans (hb2.mono hle) | exact hb.drew.trans (hb2.mono hle) | exact hb.drew.drew.trans (hb2.mono hle)
        case measure => simp [intOf]; omega
    · obtain rfl : k = n := by omega
      go_wp2
      go_ret
      exact ⟨rfl, hb⟩

set_option maxRecDepth 100000 in
set_option maxHeartbeats 800000 in
theorem eqProgC (vc vk vc' vk' : Value) (xs : List O4) (kss : List (List O4)) (B : Nat) (w : World) (hv : SeesP B w vc vk xs kss) (hv' : SeesP B w vc' vk' xs kss) (hB : B ≤ w.heap.size) :
    Calls Tryz.prog 16 #[.agg #[vc, vk], .agg #[vc', vk']] w fun e w' => e = .returned (.bool true) ∧ Below w.heap.size w w' := by
  obtain ⟨a, cap, rfl⟩ := hv.c.form
  obtain ⟨a', cap', rfl⟩ := hv'.c.form
  obtain ⟨ak, capk, rfl⟩ := hv.k.form
  obtain ⟨ak', capk', rfl⟩ := hv'.k.form
  obtain ⟨n, hn⟩ : ∃ n, xs.length = n := ⟨_, rfl⟩
  obtain ⟨m, hm⟩ : ∃ m, kss.length = m := ⟨_, rfl⟩
  rw [hn, hm] at hv hv' ⊢
  have hb0 := (alloc_below w (.cells #[.slice a n cap, .slice ak m capk] 27)).alloc (by simp) (.cells #[.slice a' n cap', .slice ak' m capk'] 27)
  have X0 : Blk ((w.alloc (.cells #[.slice a n cap, .slice ak m capk] 27)).alloc (.cells #[.slice a' n cap', .slice ak' m capk'] 27)) w.heap.size #[.slice a n cap, .slice ak m capk] 27 := (Blk.new w _ _).on (alloc_below _ _) (by simp)
  have Y0 : Blk ((w.alloc (.cells #[.slice a n cap, .slice ak m capk] 27)).alloc (.cells #[.slice a' n cap', .slice ak' m capk'] 27)) (w.heap.size + 1) #[.slice a' n cap', .slice ak' m capk'] 27 := by
    have := Blk.new (w.alloc (.cells #[.slice a n cap, .slice ak m capk] 27)) #[.slice a' n cap', .slice ak' m capk'] 27
    simpa using this
  obtain ⟨W0, hW0⟩ : ∃ W0, (w.alloc (.cells #[.slice a n cap, .slice ak m capk] 27)).alloc (.cells #[.slice a' n cap', .slice ak' m capk'] 27) = W0 := ⟨_, rfl⟩
  rw [hW0] at hb0 X0 Y0
  have hs := Y0.lt
  have x0 := X0.cell 0; have y0 := Y0.cell 0
  have c0 := eqOpsC _ _ xs B _ (hv.c.on hb0 hB) (hv'.c.on hb0 hB) (by omega)
  go_enter Tryz.func16, Tryz.ntmps16
  go_wp2_with fail
  clear hW0 x0 y0
  refine c0.mono ?_
  rintro e w1 ⟨rfl, b1⟩
  have X1 := X0.on b1 (by omega); have Y1 := Y0.on b1 (by omega)
  have x1 := X1.cell 1; have y1 := Y1.cell 1
  have bb := hb0.trans (b1.mono hb0.size)
  have c1 := eqKidsC _ _ kss B _ (hv.k.on bb hB) (hv'.k.on bb hB) (by have := b1.size; omega)
  go_wp2_with fail
  clear x1 y1
  refine c1.mono ?_
  rintro e w2 ⟨rfl, b2⟩
  go_wp2
  go_ret
  exact ⟨rfl, bb.trans (b2.mono bb.size)⟩

/-- what a size says: too great, or all lengths are within what was left -/
def Left (left r : Int) (P : Prop) : Prop := r < 0 ∨ (0 ≤ r ∧ r ≤ left ∧ P)
end Ops
end Go.Proofs.YtjopmakbnompnaaGreatDoor
/- What the specification's functions of chapter 5 answer. -/
set_option linter.unusedVariables false
namespace Go.Proofs.YtjopmakbnompnaaGreatDoor
open Go.RowKit
namespace Ops
open Bas Flat

theorem ret_i {a b : Int} (h : a = b) : Ending.returned (.int .i64 a) = .returned (.int .i64 b) := by rw [h]
theorem ret_b {a b : Bool} (h : a = b) : Ending.returned (.bool a) = .returned (.bool b) := by rw [h]
/-- an op of a code, by its kind: it begins a block, ends one, or neither -/
theorem kind3 (x : O4) : (x.k = 8 ∧ delta x = 1) ∨ (x.k = 9 ∧ delta x = -1) ∨ ((x.k == 8) = false ∧ (x.k == 9) = false ∧ delta x = 0) := by
  unfold delta
  by_cases h8 : x.k = 8
  · exact .inl ⟨h8, if_pos h8⟩
  · by_cases h9 : x.k = 9
    · exact .inr (.inl ⟨h9, by rw [if_neg h8, if_pos h9]⟩)
    · exact .inr (.inr ⟨by simp [h8], by simp [h9], by rw [if_neg h8, if_neg h9]⟩)
/-- the cells of the op at place k -/
theorem see4 {B : Nat} {w : World} {b off : Nat} {xs : List O4} (hc : ∀ j (h : j < xs.length), At opEl w b (off + j * opEl.sz) xs[j]) (k : Nat) (hk : k < xs.length) :
    w.cell? ⟨b, off + k * 4, none⟩ = some (.int .i64 xs[k].k) ∧ w.cell? ⟨b, off + k * 4 + 1, none⟩ = some (.int .i64 xs[k].a) ∧ w.cell? ⟨b, off + k * 4 + 2, none⟩ = some (.int .i64 xs[k].b) ∧ w.cell? ⟨b, off + k * 4 + 3, none⟩ = some (.int .i64 xs[k].c) := at4 (hc k hk)

set_option maxRecDepth 100000 in
set_option maxHeartbeats 1600000 in
theorem forkSpec (v : Value) (xs : List O4) (B : Nat) (w : World) (hv : Sees4 B w v xs) (hlen : xs.length ≤ 1048576) :
    Calls Tryz.prog 24 #[v] w fun e w' => e = .returned (.bool (hasFork xs)) ∧ w = w' := by
  obtain ⟨a, cap, rfl⟩ := hv.form
  obtain ⟨n, hn⟩ : ∃ n, xs.length = n := ⟨_, rfl⟩
  rw [hn] at hv hlen ⊢
  go_enter Tryz.func24, Tryz.ntmps24
  go_wp2
  go_loop [3] (fun i' => ∃ k : Nat, k ≤ n ∧ i' = .int .i64 k ∧ ∀ j (h : j < xs.length), j < k → ¬ xs[j].k = 11) (fun i' => n - (intOf i').toNat)
  case atStart => exact ⟨0, Nat.zero_le _, rfl, fun j _ h => by omega⟩
  case round =>
    obtain ⟨k, hk, rfl, hall⟩ := hrel
    by_cases hlt : k < n
    · obtain ⟨b, off, rfl, hb, hc⟩ := hv.open (by omega)
      obtain ⟨a0, -, -, -⟩ := see4 (B := B) hc k (by omega)
      by_cases h11 : xs[k].k = 11
      · have HF : Hid (true = hasFork xs) := (hasFork_yes (by omega) h11).symm
        rw [h11] at a0
        clear hc hall h11
        go_wp2
        go_ret
        exact ⟨ret_b HF.out, rfl⟩
      · have HA : Hid (∀ j (h : j < xs.length), j < k + 1 → ¬ xs[j].k = 11) := fun j hj hjk => by
          rcases Nat.lt_succ_iff_lt_or_eq.1 hjk with h | h
          · exact hall j hj h
          · subst h; exact h11
        have d11 : (xs[k].k == 11) = false := by simp [h11]
        obtain ⟨q, hq⟩ : ∃ q, xs[k].k = q := ⟨_, rfl⟩
        rw [hq] at a0 d11
        clear hc hall h11 hq
        go_wp2
        go_round
        case rel => exact ⟨k + 1, by omega, by go_num, HA.out⟩
        case measure => simp [intOf]; omega
    · have HF : Hid (false = hasFork xs) := (hasFork_no fun j hj => hall j hj (by omega)).symm
      clear hall
      go_wp2
      go_ret
      exact ⟨ret_b HF.out, rfl⟩
end Ops
end Go.Proofs.YtjopmakbnompnaaGreatDoor
/- What the specification's EndOf, l5Skip and CodeOk answer. -/
set_option linter.unusedVariables false
namespace Go.Proofs.YtjopmakbnompnaaGreatDoor
open Go.RowKit
namespace Ops
open Bas Flat

theorem getD_at4 {xs : List O4} {j : Nat} (hj : j < xs.length) : xs.getD j z4 = xs[j] := by simp [List.getD, hj]
theorem end_no {xs : List O4} {i : Int} (h : ¬ (0 ≤ i ∧ i < xs.length ∧ (xs.getD i.toNat z4).k = 8)) : endOf xs i = -1 := by unfold endOf; rw [if_neg h]

theorem skip_no {xs : List O4} {i : Nat} (h : ¬ (i : Int) + 1 + (xs.getD i z4).b ≤ xs.length) : skipOk xs i = false := by unfold skipOk; rw [decide_eq_false h]; rfl
theorem skip_yes {xs : List O4} {i : Nat} (h : (i : Int) + 1 + (xs.getD i z4).b ≤ xs.length) : skipOk xs i = skipGo (xs.drop (i + 1)) (xs.getD i z4).b.toNat 0 := by unfold skipOk; rw [decide_eq_true h, Bool.true_and]

set_option maxRecDepth 100000 in
set_option maxHeartbeats 3200000 in
theorem skipSpec (v : Value) (xs : List O4) (s : Nat) (B : Nat) (w : World) (hv : Sees4 B w v xs) (hlen : xs.length ≤ 1048576) (hs : s < xs.length) (hb0 : 0 ≤ (xs.getD s z4).b) (hb1 : (xs.getD s z4).b ≤ 100) :
    Calls Tryz.prog 55 #[v, .int .i64 s] w fun e w' => e = .returned (.bool (skipOk xs s)) ∧ w = w' := by
  obtain ⟨a, cap, rfl⟩ := hv.form
  obtain ⟨n, hn⟩ : ∃ n, xs.length = n := ⟨_, rfl⟩
  rw [hn] at hv hlen hs ⊢
  obtain ⟨b, off, rfl, hb, hc⟩ := hv.open (by omega)
  obtain ⟨-, -, a2, -⟩ := see4 (B := B) hc s (by omega)
  have hg := getD_at4 (xs := xs) (j := s) (by omega)
  rw [hg] at hb0 hb1
  obtain ⟨t, ht⟩ := Int.eq_ofNat_of_zero_le hb0
  have i2 : (s : Int) < n := by omega
  have i1 : (0 : Int) ≤ s := by omega
  rw [ht] at a2 hb1
  by_cases hto : (s : Int) + 1 + t ≤ n
  · have HE : Hid (skipOk xs s = skipGo (xs.drop (s + 1)) t 0) := by
      show _ = _
      rw [skip_yes (by rw [hg, ht]; omega), hg, ht, Int.toNat_natCast]
    have hto' : ¬ (n : Int) < (s : Int) + 1 + t := by omega
    clear hg ht
    go_enter Tryz.func55, Tryz.ntmps55
    go_wp2
    go_loop [6, 7] (fun d i' => ∃ (k r : Nat) (q : Int), s + 1 ≤ k ∧ k + r = s + 1 + t ∧ i' = .int .i64 k ∧ d = .int .i64 q ∧ 0 ≤ q ∧ q ≤ k ∧ skipOk xs s = skipGo (xs.drop k) r q) (fun _ i' => n - (intOf i').toNat)
    case atStart => exact ⟨s + 1, t, 0, Nat.le_refl _, by omega, by go_num, rfl, by omega, by omega, HE.out⟩
    case round =>
      obtain ⟨k, r, q, hsk, hkr, rfl, rfl, hq1, hq2, he⟩ := hrel
      clear a2 HE
      cases r with
      | succ r =>
        obtain ⟨a0, -, -, -⟩ := see4 (B := B) hc k (by omega)
        rw [skipGo_step (by omega)] at he
        obtain ⟨x, hx⟩ : ∃ x, xs[k] = x := ⟨_, rfl⟩
        rw [hx] at a0 he
        have i3 : (k : Int) < n := by omega
        have i4 : (k : Int) < (s : Int) + 1 + t := by omega
        have HK := kind3 x
        clear hx
        rcases HK with ⟨h8, hD⟩ | ⟨h9, hD⟩ | ⟨h8, h9, hD⟩
        · rw [h8] at a0
          rw [hD, decide_eq_true (show 0 ≤ q + 1 by omega), Bool.true_and] at he
          have HF := (show Hid _ from he)
          clear h8 hD he
          go_wp2
          go_round
          case rel => exact ⟨k + 1, r, q + 1, by omega, by omega, by go_num, rfl, by omega, by omega, HF.out⟩
          case measure => simp [intOf]; omega
        · rw [h9] at a0
          rw [hD] at he
          clear h9 hD
          by_cases hz : 0 ≤ q + -1
          · rw [decide_eq_true hz, Bool.true_and] at he
            have HF := (show Hid _ from he)
            have d0 : decide (q - 1 < 0) = false := decide_eq_false (by omega)
            have hz' : ¬ q - 1 < 0 := by omega
            clear he hz
            go_wp2
            go_round
            case rel => exact ⟨k + 1, r, q + -1, by omega, by omega, by go_num, by go_num, by omega, by omega, HF.out⟩
            case measure => simp [intOf]; omega
          · rw [decide_eq_false hz, Bool.false_and] at he
            have HF : Hid (false = skipOk xs s) := he.symm
            obtain rfl : q = 0 := by omega
            clear he hz
            go_wp2
            go_ret
            exact ⟨ret_b HF.out, rfl⟩
        · rw [hD, decide_eq_true (show 0 ≤ q + 0 by omega), Bool.true_and, Int.add_zero] at he
          have HF := (show Hid _ from he)
          have d0 : ¬ q < 0 := by omega
          clear hD he
          go_wp2
          go_round
          case rel => exact ⟨k + 1, r, q, by omega, by omega, by go_num, rfl, by omega, by omega, HF.out⟩
          case measure => simp [intOf]; omega
      | zero =>
        have HF : Hid ((q == 0) = skipOk xs s) := by
          show _ = _
          rw [he]
          cases xs.drop k <;> rfl
        have i4 : ¬ (k : Int) < (s : Int) + 1 + t := by omega
        clear he hc
        go_wp2
        go_ret
        exact ⟨ret_b HF.out, rfl⟩
  · have HF : Hid (false = skipOk xs s) := (skip_no (by rw [hg, ht]; omega)).symm
    have hto' : (n : Int) < (s : Int) + 1 + t := by omega
    clear hg ht hc
    go_enter Tryz.func55, Tryz.ntmps55
    go_wp2
    go_ret
    exact ⟨ret_b HF.out, rfl⟩
end Ops
end Go.Proofs.YtjopmakbnompnaaGreatDoor
/- What the specification's CodeOk and KidOk answer. -/
set_option linter.unusedVariables false
namespace Go.Proofs.YtjopmakbnompnaaGreatDoor
open Go.RowKit
namespace Ops
open Bas Flat

/-- one op more of a code, by its kind -/
theorem go_bad {xs : List O4} {k : Nat} (h : k < xs.length) {d : Int} {f : Nat} (ho : okOp xs[k] = false) : codeGo xs (xs.drop k) k d f = false := by
  rw [codeGo_step h, ho]; simp
theorem go_begin {xs : List O4} {k : Nat} (h : k < xs.length) {d : Int} {f : Nat} (ho : okOp xs[k] = true) (hd : 0 ≤ d) (h8 : xs[k].k = 8) : codeGo xs (xs.drop k) k d f = codeGo xs (xs.drop (k + 1)) (k + 1) (d + 1) f := by
  have e : delta xs[k] = 1 := by unfold delta; rw [if_pos h8]
  rw [codeGo_step h, ho, e, h8, decide_eq_true (show 0 ≤ d + 1 by omega)]; simp
theorem go_end {xs : List O4} {k : Nat} (h : k < xs.length) {d : Int} {f : Nat} (ho : okOp xs[k] = true) (h9 : xs[k].k = 9) : codeGo xs (xs.drop k) k d f = (decide (0 ≤ d - 1) && codeGo xs (xs.drop (k + 1)) (k + 1) (d - 1) f) := by
  have e : delta xs[k] = -1 := by unfold delta; rw [if_neg (by omega), if_pos h9]
  rw [codeGo_step h, ho, e, h9, Int.add_neg_one]; simp
theorem go_skip {xs : List O4} {k : Nat} (h : k < xs.length) {d : Int} {f : Nat} (ho : okOp xs[k] = true) (hd : 0 ≤ d) (h7 : xs[k].k = 7) : codeGo xs (xs.drop k) k d f = (skipOk xs k && codeGo xs (xs.drop (k + 1)) (k + 1) d f) := by
  have e : delta xs[k] = 0 := by unfold delta; rw [if_neg (by omega), if_neg (by omega)]
  rw [codeGo_step h, ho, e, h7, Int.add_zero, decide_eq_true hd]; simp
theorem go_fork {xs : List O4} {k : Nat} (h : k < xs.length) {d : Int} {f : Nat} (ho : okOp xs[k] = true) (hd : 0 ≤ d) (h11 : xs[k].k = 11) : codeGo xs (xs.drop k) k d f = (decide (d ≤ 0) && decide (f = 0) && codeGo xs (xs.drop (k + 1)) (k + 1) d (f + 1)) := by
  have e : delta xs[k] = 0 := by unfold delta; rw [if_neg (by omega), if_neg (by omega)]
  rw [codeGo_step h, ho, e, h11, Int.add_zero, decide_eq_true hd]; simp
theorem go_else {xs : List O4} {k : Nat} (h : k < xs.length) {d : Int} {f : Nat} (ho : okOp xs[k] = true) (hd : 0 ≤ d) (h8 : ¬ xs[k].k = 8) (h9 : ¬ xs[k].k = 9) (h7 : ¬ xs[k].k = 7) (h11 : ¬ xs[k].k = 11) : codeGo xs (xs.drop k) k d f = codeGo xs (xs.drop (k + 1)) (k + 1) d f := by
  have e : delta xs[k] = 0 := by unfold delta; rw [if_neg h8, if_neg h9]
  rw [codeGo_step h, ho, e, Int.add_zero, decide_eq_true hd]; simp [h7, h11]
theorem ok_skip {x : O4} (h : okOp x = true) (h7 : x.k = 7) : 1 ≤ x.b ∧ x.b ≤ 20 := by
  unfold okOp at h
  rw [h7] at h
  have h' : (inn 0 3 x.a && inn 1 20 x.b && inn 0 0 x.c) = true := h
  rw [Bool.and_eq_true, Bool.and_eq_true] at h'
  have := h'.1.2
  unfold inn at this
  simpa using this

set_option maxRecDepth 100000 in
set_option maxHeartbeats 6400000 in
theorem codeSpec (v : Value) (xs : List O4) (B : Nat) (w : World) (hv : Sees4 B w v xs) (hB : B ≤ w.heap.size) (hlen : xs.length ≤ 1048576) :
    Calls Tryz.prog 23 #[v] w fun e w' => e = .returned (.bool (codeOk xs)) ∧ Below w.heap.size w w' := by
  obtain ⟨a, cap, rfl⟩ := hv.form
  obtain ⟨n, hn⟩ : ∃ n, xs.length = n := ⟨_, rfl⟩
  rw [hn] at hv hlen ⊢
  by_cases h24 : n ≤ 24
  · have HE : Hid (codeOk xs = codeGo xs (xs.drop 0) 0 0 0) := by
      show _ = _
      unfold codeOk
      rw [decide_eq_true (show xs.length ≤ 24 by omega), Bool.true_and]; rfl
    have h24' : ¬ (24 : Int) < n := by omega
    obtain ⟨g, hg⟩ : ∃ g, w.heap.size = g := ⟨_, rfl⟩
    rw [hg] at hB ⊢
    have hb0 : Below g w w := Below.refl _ _
    go_enter Tryz.func23, Tryz.ntmps23
    go_wp2
    go_loopw [3, 4, 5] (fun d ff i' wr => ∃ (k f : Nat) (q : Int), k ≤ n ∧ f ≤ k ∧ 0 ≤ q ∧ q ≤ k ∧ i' = .int .i64 k ∧ d = .int .i64 q ∧ ff = .int .i64 f ∧ codeOk xs = codeGo xs (xs.drop k) k q f ∧ Below g w wr) (fun _ _ i' _ => n - (intOf i').toNat)
    case atStart => exact ⟨0, 0, 0, Nat.zero_le _, Nat.le_refl _, by omega, by omega, rfl, rfl, rfl, HE.out, hb0⟩
    case round =>
      obtain ⟨k, f, q, hk, hf, hq1, hq2, rfl, rfl, rfl, he, hb⟩ := hrel
      clear HE hb0
      have hsz : g ≤ wr.heap.size := by have := hb.size; omega
      by_cases hlt : k < n
      · have hvr := hv.on hb hB
        obtain ⟨b, off, rfl, hbB, hc⟩ := hvr.open (by omega)
        obtain ⟨a0, a1, a2, a3⟩ := see4 (B := B) hc k (by omega)
        have HN := (show Hid _ from he)
        have i1 : (k : Int) < n := by omega
        have hkx : k < xs.length := by omega
        have cO := specC xs[k].k xs[k].a xs[k].b xs[k].c wr
        have eV : opV xs[k].k xs[k].a xs[k].b xs[k].c = .agg #[.int .i64 xs[k].k, .int .i64 xs[k].a, .int .i64 xs[k].b, .int .i64 xs[k].c] := rfl
        rw [eV] at cO
        have eO : opOk xs[k].k xs[k].a xs[k].b xs[k].c = okOp xs[k] := rfl
        rw [eO] at cO
        obtain ⟨p, hp⟩ : ∃ p, okOp xs[k] = p := ⟨_, rfl⟩
        have HP : Hid (okOp xs[k] = p) := hp
        rw [hp] at cO
        obtain ⟨x, hx⟩ : ∃ x, xs[k] = x := ⟨_, rfl⟩
        have HX : Hid (xs[k] = x) := hx
        rw [hx] at a0 a1 a2 a3 cO
        clear he hp hx eV eO
        cases p
        · have HF : Hid (false = codeOk xs) := by show _ = _; rw [HN.out, go_bad hkx HP.out]
          clear HN hc
          go_wp2_with fail
          refine cO.mono ?_
          rintro e w2 ⟨rfl, hb2⟩
          clear cO
          go_wp2
          go_ret
          exact ⟨ret_b HF.out, hb.trans (hb2.mono hsz)⟩
        go_wp2_with fail
        refine cO.mono ?_
        rintro e w2 ⟨rfl, hb2⟩
        have hbb := hb.trans (hb2.mono hsz)
        have hv2 := hvr.on hb2 (by omega)
        have a0 := (hb2.cell (p := ⟨b, off + k * 4, none⟩) (by show b < wr.heap.size; omega)).trans a0
        clear cO a1 a2 a3 hc
        have hok := HP.out
        by_cases h8 : x.k = 8
        · have HF : Hid (codeOk xs = codeGo xs (xs.drop (k + 1)) (k + 1) (q + 1) f) := by show _ = _; rw [HN.out, go_begin hkx hok hq1 (by rw [HX.out]; exact h8)]
          rw [h8] at a0
          clear h8 HN hok
          go_wp2
          go_roundw
          case rel => exact ⟨k + 1, f, q + 1, by omega, by omega, by omega, by omega, by go_num, rfl, rfl, HF.out, hbb⟩
          case measure => simp [intOf]; omega
        by_cases h9 : x.k = 9
        · have he := go_end hkx (d := q) (f := f) hok (by rw [HX.out]; exact h9)
          rw [h9] at a0
          clear h8 h9
          by_cases hz : 0 ≤ q - 1
          · have HF : Hid (codeOk xs = codeGo xs (xs.drop (k + 1)) (k + 1) (q - 1) f) := by show _ = _; rw [HN.out, he, decide_eq_true hz, Bool.true_and]
            have hz' : ¬ q - 1 < 0 := by omega
            clear he HN hok hz
            go_wp2
            go_roundw
            case rel => exact ⟨k + 1, f, q - 1, by omega, by omega, by omega, by omega, by go_num, rfl, rfl, HF.out, hbb⟩
            case measure => simp [intOf]; omega
          · have HF : Hid (false = codeOk xs) := by show _ = _; rw [HN.out, he, decide_eq_false hz, Bool.false_and]
            obtain rfl : q = 0 := by omega
            clear he HN hok hz
            go_wp2
            go_ret
            exact ⟨ret_b HF.out, hbb⟩
        have e8 : (x.k == 8) = false := by simp [h8]
        have e9 : (x.k == 9) = false := by simp [h9]
        by_cases h7 : x.k = 7
        · have he := go_skip hkx (d := q) (f := f) hok hq1 (by rw [HX.out]; exact h7)
          obtain ⟨s1, s2⟩ := ok_skip (by rw [← HX.out]; exact hok) h7
          have hgx : xs.getD k z4 = x := by rw [getD_at4 hkx]; exact HX.out
          have cK := skipSpec _ xs k B w2 hv2 (by omega) hkx (by rw [hgx]; omega) (by rw [hgx]; omega)
          rw [h7] at a0
          obtain ⟨p, hp⟩ : ∃ p, skipOk xs k = p := ⟨_, rfl⟩
          rw [hp] at cK he
          clear h8 h9 h7 e8 e9 hgx hp
          cases p
          · have HF : Hid (false = codeOk xs) := by show _ = _; rw [HN.out, he, Bool.false_and]
            clear he HN hok
            go_wp2_with fail
            refine cK.mono ?_
            rintro e w3 ⟨rfl, rfl⟩
            clear cK
            go_wp2
            go_ret
            exact ⟨ret_b HF.out, hbb⟩
          · have HF : Hid (codeOk xs = codeGo xs (xs.drop (k + 1)) (k + 1) q f) := by show _ = _; rw [HN.out, he, Bool.true_and]
            have hq' : ¬ q < 0 := by omega
            clear he HN hok
            go_wp2_with fail
            refine cK.mono ?_
            rintro e w3 ⟨rfl, rfl⟩
            clear cK
            go_wp2
            go_roundw
            case rel => exact ⟨k + 1, f, q, by omega, by omega, by omega, by omega, by go_num, rfl, rfl, HF.out, hbb⟩
            case measure => simp [intOf]; omega
        have e7 : (x.k == 7) = false := by simp [h7]
        by_cases h11 : x.k = 11
        · have he := go_fork hkx (d := q) (f := f) hok hq1 (by rw [HX.out]; exact h11)
          rw [h11] at a0
          clear h8 h9 h7 e8 e9 e7 h11
          by_cases hq0 : q ≤ 0
          · obtain rfl : q = 0 := by omega
            by_cases hf0 : f = 0
            · subst hf0
              have HF : Hid (codeOk xs = codeGo xs (xs.drop (k + 1)) (k + 1) 0 1) := by show _ = _; rw [HN.out, he]; simp
              clear he HN hok hq0
              go_wp2
              go_roundw
              case rel => exact ⟨k + 1, 1, 0, by omega, by omega, by omega, by omega, by go_num, rfl, rfl, HF.out, hbb⟩
              case measure => simp [intOf]; omega
            · have HF : Hid (false = codeOk xs) := by show _ = _; rw [HN.out, he, decide_eq_false hf0]; simp
              have hf1 : (1 : Int) < (f : Int) + 1 := by omega
              clear he HN hok hq0
              go_wp2
              go_ret
              exact ⟨ret_b HF.out, hbb⟩
          · have HF : Hid (false = codeOk xs) := by show _ = _; rw [HN.out, he, decide_eq_false hq0]; simp
            have hq' : 0 < q := by omega
            clear he HN hok hq0
            go_wp2
            go_ret
            exact ⟨ret_b HF.out, hbb⟩
        have e11 : (x.k == 11) = false := by simp [h11]
        have HF : Hid (codeOk xs = codeGo xs (xs.drop (k + 1)) (k + 1) q f) := by show _ = _; rw [HN.out, go_else hkx hok hq1 (by rw [HX.out]; exact h8) (by rw [HX.out]; exact h9) (by rw [HX.out]; exact h7) (by rw [HX.out]; exact h11)]
        have hq' : ¬ q < 0 := by omega
        clear HN hok h8 h9 h7 h11
        go_wp2
        go_roundw
        case rel => exact ⟨k + 1, f, q, by omega, by omega, by omega, by omega, by go_num, rfl, rfl, HF.out, hbb⟩
        case measure => simp [intOf]; omega
      · obtain rfl : k = n := by omega
        have HF : Hid ((q == 0) = codeOk xs) := by
          show _ = _
          rw [he, List.drop_of_length_le (by omega)]; rfl
        clear he
        go_wp2
        go_ret
        exact ⟨ret_b HF.out, hb⟩
  · have HF : Hid (false = codeOk xs) := by
      show _ = _
      unfold codeOk
      rw [decide_eq_false (show ¬ xs.length ≤ 24 by omega), Bool.false_and]
    have h24' : (24 : Int) < n := by omega
    go_enter Tryz.func23, Tryz.ntmps23
    go_wp2
    go_ret
    exact ⟨ret_b HF.out, Below.refl _ _⟩
end Ops
end Go.Proofs.YtjopmakbnompnaaGreatDoor
