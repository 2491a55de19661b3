/- Several texts of one proof, in build order: OpImpl, CalcImpl, DoCalc, Do5, Do6, Do12, Do13, Do14, Do15, Do16, DoPlain, ShapeImpl, DoStep, StkRow. -/
import Derived.Deep.RegionHeld3
import Derived.Test.YtajbmokidcdfnaaSB1
import Derived.Test.YtajbmokidcdfnaaSB2
import Derived.Test.YtajbmokidcdfnaaSB5
/- The program's OpOk. -/
namespace Go.Proofs.Ytajbmokidcdfnaa
open Go.RowKit
namespace Ops
open Bas

set_option maxRecDepth 100000 in
theorem hasC (lo hi x : Int) (w : World) : Calls Try.prog 165 #[.agg #[.int .i64 lo, .int .i64 hi], .int .i64 x] w fun e w' => e = .returned (.bool (inn lo hi x)) ∧ Below w.heap.size w w' := by
  unfold inn
  by_cases h1 : lo ≤ x
  · have h1' : decide (lo ≤ x) = true := decide_eq_true h1
    go_enter Try.func165, Try.ntmps165
    go_wp2
    go_ret
    exact ⟨by simp [h1], (Below.refl _ _).alloc (Nat.le_refl _) _⟩
  · have h1' : decide (lo ≤ x) = false := decide_eq_false h1
    go_enter Try.func165, Try.ntmps165
    go_wp2
    go_ret
    exact ⟨by simp, (Below.refl _ _).alloc (Nat.le_refl _) _⟩

/-- three spans as a value -/
def spV (p q r : Int × Int) : Value := .agg #[.int .i64 p.1, .int .i64 p.2, .int .i64 q.1, .int .i64 q.2, .int .i64 r.1, .int .i64 r.2]

/-- what the spans of a kind are, given back -/
def SpOf (k : Int) : Prop := ∀ w : World, Calls Try.prog 164 #[.int .i64 k] w fun e w' =>
  e = .returned (match spans k with | none => .tuple #[spV (0, 0) (0, 0) (0, 0), .bool false] | some (p, q, r) => .tuple #[spV p q r, .bool true]) ∧ Below w.heap.size w w'

set_option maxRecDepth 100000 in
set_option maxHeartbeats 1600000 in
theorem spans1 : SpOf 1 := by
  intro w
  show Calls _ _ _ _ (fun e w' => e = .returned (.tuple #[.agg #[.int .i64 0, .int .i64 3, .int .i64 0, .int .i64 65535, .int .i64 0, .int .i64 0], .bool true]) ∧ Below w.heap.size w w')
  go_enter Try.func164, Try.ntmps164
  go_wp2
  refine bodyPost_ret (v := .tuple #[.agg #[.int .i64 0, .int .i64 3, .int .i64 0, .int .i64 65535, .int .i64 0, .int .i64 0], .bool true]) (by simp [results, Try.results164, go_sem]) rfl ⟨rfl, ?_⟩
  exact ((((Below.refl _ _).alloc (Nat.le_refl _) _).alloc (by simp) _).alloc (by simp; omega) _).alloc (by simp; omega) _

set_option maxRecDepth 100000 in
set_option maxHeartbeats 1600000 in
theorem spans2 : SpOf 2 := by
  intro w
  show Calls _ _ _ _ (fun e w' => e = .returned (.tuple #[.agg #[.int .i64 0, .int .i64 3, .int .i64 0, .int .i64 3, .int .i64 0, .int .i64 3], .bool true]) ∧ Below w.heap.size w w')
  go_enter Try.func164, Try.ntmps164
  go_wp2
  refine bodyPost_ret (v := .tuple #[.agg #[.int .i64 0, .int .i64 3, .int .i64 0, .int .i64 3, .int .i64 0, .int .i64 3], .bool true]) (by simp [results, Try.results164, go_sem]) rfl ⟨rfl, ?_⟩
  exact ((((Below.refl _ _).alloc (Nat.le_refl _) _).alloc (by simp) _).alloc (by simp; omega) _).alloc (by simp; omega) _

set_option maxRecDepth 100000 in
set_option maxHeartbeats 1600000 in
theorem spans3 : SpOf 3 := by
  intro w
  show Calls _ _ _ _ (fun e w' => e = .returned (.tuple #[.agg #[.int .i64 0, .int .i64 3, .int .i64 0, .int .i64 3, .int .i64 0, .int .i64 3], .bool true]) ∧ Below w.heap.size w w')
  go_enter Try.func164, Try.ntmps164
  go_wp2
  refine bodyPost_ret (v := .tuple #[.agg #[.int .i64 0, .int .i64 3, .int .i64 0, .int .i64 3, .int .i64 0, .int .i64 3], .bool true]) (by simp [results, Try.results164, go_sem]) rfl ⟨rfl, ?_⟩
  exact ((((Below.refl _ _).alloc (Nat.le_refl _) _).alloc (by simp) _).alloc (by simp; omega) _).alloc (by simp; omega) _

set_option maxRecDepth 100000 in
set_option maxHeartbeats 1600000 in
theorem spans4 : SpOf 4 := by
  intro w
  show Calls _ _ _ _ (fun e w' => e = .returned (.tuple #[.agg #[.int .i64 0, .int .i64 3, .int .i64 0, .int .i64 3, .int .i64 0, .int .i64 3], .bool true]) ∧ Below w.heap.size w w')
  go_enter Try.func164, Try.ntmps164
  go_wp2
  refine bodyPost_ret (v := .tuple #[.agg #[.int .i64 0, .int .i64 3, .int .i64 0, .int .i64 3, .int .i64 0, .int .i64 3], .bool true]) (by simp [results, Try.results164, go_sem]) rfl ⟨rfl, ?_⟩
  exact ((((Below.refl _ _).alloc (Nat.le_refl _) _).alloc (by simp) _).alloc (by simp; omega) _).alloc (by simp; omega) _

set_option maxRecDepth 100000 in
set_option maxHeartbeats 1600000 in
theorem spans5 : SpOf 5 := by
  intro w
  show Calls _ _ _ _ (fun e w' => e = .returned (.tuple #[.agg #[.int .i64 0, .int .i64 3, .int .i64 0, .int .i64 7, .int .i64 0, .int .i64 0], .bool true]) ∧ Below w.heap.size w w')
  go_enter Try.func164, Try.ntmps164
  go_wp2
  refine bodyPost_ret (v := .tuple #[.agg #[.int .i64 0, .int .i64 3, .int .i64 0, .int .i64 7, .int .i64 0, .int .i64 0], .bool true]) (by simp [results, Try.results164, go_sem]) rfl ⟨rfl, ?_⟩
  exact ((((Below.refl _ _).alloc (Nat.le_refl _) _).alloc (by simp) _).alloc (by simp; omega) _).alloc (by simp; omega) _

set_option maxRecDepth 100000 in
set_option maxHeartbeats 1600000 in
theorem spans6 : SpOf 6 := by
  intro w
  show Calls _ _ _ _ (fun e w' => e = .returned (.tuple #[.agg #[.int .i64 0, .int .i64 7, .int .i64 0, .int .i64 3, .int .i64 0, .int .i64 0], .bool true]) ∧ Below w.heap.size w w')
  go_enter Try.func164, Try.ntmps164
  go_wp2
  refine bodyPost_ret (v := .tuple #[.agg #[.int .i64 0, .int .i64 7, .int .i64 0, .int .i64 3, .int .i64 0, .int .i64 0], .bool true]) (by simp [results, Try.results164, go_sem]) rfl ⟨rfl, ?_⟩
  exact ((((Below.refl _ _).alloc (Nat.le_refl _) _).alloc (by simp) _).alloc (by simp; omega) _).alloc (by simp; omega) _

set_option maxRecDepth 100000 in
set_option maxHeartbeats 1600000 in
theorem spans7 : SpOf 7 := by
  intro w
  show Calls _ _ _ _ (fun e w' => e = .returned (.tuple #[.agg #[.int .i64 0, .int .i64 3, .int .i64 1, .int .i64 20, .int .i64 0, .int .i64 0], .bool true]) ∧ Below w.heap.size w w')
  go_enter Try.func164, Try.ntmps164
  go_wp2
  refine bodyPost_ret (v := .tuple #[.agg #[.int .i64 0, .int .i64 3, .int .i64 1, .int .i64 20, .int .i64 0, .int .i64 0], .bool true]) (by simp [results, Try.results164, go_sem]) rfl ⟨rfl, ?_⟩
  exact ((((Below.refl _ _).alloc (Nat.le_refl _) _).alloc (by simp) _).alloc (by simp; omega) _).alloc (by simp; omega) _

set_option maxRecDepth 100000 in
set_option maxHeartbeats 1600000 in
theorem spans8 : SpOf 8 := by
  intro w
  show Calls _ _ _ _ (fun e w' => e = .returned (.tuple #[.agg #[.int .i64 0, .int .i64 3, .int .i64 0, .int .i64 0, .int .i64 0, .int .i64 0], .bool true]) ∧ Below w.heap.size w w')
  go_enter Try.func164, Try.ntmps164
  go_wp2
  refine bodyPost_ret (v := .tuple #[.agg #[.int .i64 0, .int .i64 3, .int .i64 0, .int .i64 0, .int .i64 0, .int .i64 0], .bool true]) (by simp [results, Try.results164, go_sem]) rfl ⟨rfl, ?_⟩
  exact ((((Below.refl _ _).alloc (Nat.le_refl _) _).alloc (by simp) _).alloc (by simp; omega) _).alloc (by simp; omega) _

set_option maxRecDepth 100000 in
set_option maxHeartbeats 1600000 in
theorem spans9 : SpOf 9 := by
  intro w
  show Calls _ _ _ _ (fun e w' => e = .returned (.tuple #[.agg #[.int .i64 0, .int .i64 0, .int .i64 0, .int .i64 0, .int .i64 0, .int .i64 0], .bool true]) ∧ Below w.heap.size w w')
  go_enter Try.func164, Try.ntmps164
  go_wp2
  refine bodyPost_ret (v := .tuple #[.agg #[.int .i64 0, .int .i64 0, .int .i64 0, .int .i64 0, .int .i64 0, .int .i64 0], .bool true]) (by simp [results, Try.results164, go_sem]) rfl ⟨rfl, ?_⟩
  exact ((((Below.refl _ _).alloc (Nat.le_refl _) _).alloc (by simp) _).alloc (by simp; omega) _).alloc (by simp; omega) _

set_option maxRecDepth 100000 in
set_option maxHeartbeats 1600000 in
theorem spans10 : SpOf 10 := by
  intro w
  show Calls _ _ _ _ (fun e w' => e = .returned (.tuple #[.agg #[.int .i64 0, .int .i64 0, .int .i64 0, .int .i64 0, .int .i64 0, .int .i64 0], .bool true]) ∧ Below w.heap.size w w')
  go_enter Try.func164, Try.ntmps164
  go_wp2
  refine bodyPost_ret (v := .tuple #[.agg #[.int .i64 0, .int .i64 0, .int .i64 0, .int .i64 0, .int .i64 0, .int .i64 0], .bool true]) (by simp [results, Try.results164, go_sem]) rfl ⟨rfl, ?_⟩
  exact ((((Below.refl _ _).alloc (Nat.le_refl _) _).alloc (by simp) _).alloc (by simp; omega) _).alloc (by simp; omega) _

set_option maxRecDepth 100000 in
set_option maxHeartbeats 1600000 in
theorem spans11 : SpOf 11 := by
  intro w
  show Calls _ _ _ _ (fun e w' => e = .returned (.tuple #[.agg #[.int .i64 0, .int .i64 0, .int .i64 0, .int .i64 0, .int .i64 0, .int .i64 0], .bool true]) ∧ Below w.heap.size w w')
  go_enter Try.func164, Try.ntmps164
  go_wp2
  refine bodyPost_ret (v := .tuple #[.agg #[.int .i64 0, .int .i64 0, .int .i64 0, .int .i64 0, .int .i64 0, .int .i64 0], .bool true]) (by simp [results, Try.results164, go_sem]) rfl ⟨rfl, ?_⟩
  exact ((((Below.refl _ _).alloc (Nat.le_refl _) _).alloc (by simp) _).alloc (by simp; omega) _).alloc (by simp; omega) _

set_option maxRecDepth 100000 in
set_option maxHeartbeats 1600000 in
theorem spans12 : SpOf 12 := by
  intro w
  show Calls _ _ _ _ (fun e w' => e = .returned (.tuple #[.agg #[.int .i64 0, .int .i64 7, .int .i64 0, .int .i64 3, .int .i64 0, .int .i64 3], .bool true]) ∧ Below w.heap.size w w')
  go_enter Try.func164, Try.ntmps164
  go_wp2
  refine bodyPost_ret (v := .tuple #[.agg #[.int .i64 0, .int .i64 7, .int .i64 0, .int .i64 3, .int .i64 0, .int .i64 3], .bool true]) (by simp [results, Try.results164, go_sem]) rfl ⟨rfl, ?_⟩
  exact ((((Below.refl _ _).alloc (Nat.le_refl _) _).alloc (by simp) _).alloc (by simp; omega) _).alloc (by simp; omega) _

set_option maxRecDepth 100000 in
set_option maxHeartbeats 1600000 in
theorem spans13 : SpOf 13 := by
  intro w
  show Calls _ _ _ _ (fun e w' => e = .returned (.tuple #[.agg #[.int .i64 0, .int .i64 3, .int .i64 0, .int .i64 7, .int .i64 0, .int .i64 0], .bool true]) ∧ Below w.heap.size w w')
  go_enter Try.func164, Try.ntmps164
  go_wp2
  refine bodyPost_ret (v := .tuple #[.agg #[.int .i64 0, .int .i64 3, .int .i64 0, .int .i64 7, .int .i64 0, .int .i64 0], .bool true]) (by simp [results, Try.results164, go_sem]) rfl ⟨rfl, ?_⟩
  exact ((((Below.refl _ _).alloc (Nat.le_refl _) _).alloc (by simp) _).alloc (by simp; omega) _).alloc (by simp; omega) _

set_option maxRecDepth 100000 in
set_option maxHeartbeats 1600000 in
theorem spans14 : SpOf 14 := by
  intro w
  show Calls _ _ _ _ (fun e w' => e = .returned (.tuple #[.agg #[.int .i64 0, .int .i64 7, .int .i64 0, .int .i64 3, .int .i64 0, .int .i64 0], .bool true]) ∧ Below w.heap.size w w')
  go_enter Try.func164, Try.ntmps164
  go_wp2
  refine bodyPost_ret (v := .tuple #[.agg #[.int .i64 0, .int .i64 7, .int .i64 0, .int .i64 3, .int .i64 0, .int .i64 0], .bool true]) (by simp [results, Try.results164, go_sem]) rfl ⟨rfl, ?_⟩
  exact ((((Below.refl _ _).alloc (Nat.le_refl _) _).alloc (by simp) _).alloc (by simp; omega) _).alloc (by simp; omega) _

set_option maxRecDepth 100000 in
set_option maxHeartbeats 1600000 in
theorem spans15 : SpOf 15 := by
  intro w
  show Calls _ _ _ _ (fun e w' => e = .returned (.tuple #[.agg #[.int .i64 0, .int .i64 3, .int .i64 0, .int .i64 0, .int .i64 0, .int .i64 0], .bool true]) ∧ Below w.heap.size w w')
  go_enter Try.func164, Try.ntmps164
  go_wp2
  refine bodyPost_ret (v := .tuple #[.agg #[.int .i64 0, .int .i64 3, .int .i64 0, .int .i64 0, .int .i64 0, .int .i64 0], .bool true]) (by simp [results, Try.results164, go_sem]) rfl ⟨rfl, ?_⟩
  exact ((((Below.refl _ _).alloc (Nat.le_refl _) _).alloc (by simp) _).alloc (by simp; omega) _).alloc (by simp; omega) _

set_option maxRecDepth 100000 in
set_option maxHeartbeats 1600000 in
theorem spans16 : SpOf 16 := by
  intro w
  show Calls _ _ _ _ (fun e w' => e = .returned (.tuple #[.agg #[.int .i64 0, .int .i64 3, .int .i64 0, .int .i64 0, .int .i64 0, .int .i64 0], .bool true]) ∧ Below w.heap.size w w')
  go_enter Try.func164, Try.ntmps164
  go_wp2
  refine bodyPost_ret (v := .tuple #[.agg #[.int .i64 0, .int .i64 3, .int .i64 0, .int .i64 0, .int .i64 0, .int .i64 0], .bool true]) (by simp [results, Try.results164, go_sem]) rfl ⟨rfl, ?_⟩
  exact ((((Below.refl _ _).alloc (Nat.le_refl _) _).alloc (by simp) _).alloc (by simp; omega) _).alloc (by simp; omega) _

set_option maxRecDepth 100000 in
set_option maxHeartbeats 1600000 in
theorem spansNo (k : Int) (h : k < 1 ∨ 16 < k) : SpOf k := by
  intro w
  rw [spans_none h]
  have d1 : (k == 1) = false := by simp; omega
  have d2 : (k == 2) = false := by simp; omega
  have d3 : (k == 3) = false := by simp; omega
  have d4 : (k == 4) = false := by simp; omega
  have d5 : (k == 5) = false := by simp; omega
  have d6 : (k == 6) = false := by simp; omega
  have d7 : (k == 7) = false := by simp; omega
  have d8 : (k == 8) = false := by simp; omega
  have d9 : (k == 9) = false := by simp; omega
  have d10 : (k == 10) = false := by simp; omega
  have d11 : (k == 11) = false := by simp; omega
  have d12 : (k == 12) = false := by simp; omega
  have d13 : (k == 13) = false := by simp; omega
  have d14 : (k == 14) = false := by simp; omega
  have d15 : (k == 15) = false := by simp; omega
  have d16 : (k == 16) = false := by simp; omega
  clear h
  show Calls _ _ _ _ (fun e w' => e = .returned (.tuple #[.agg #[.int .i64 0, .int .i64 0, .int .i64 0, .int .i64 0, .int .i64 0, .int .i64 0], .bool false]) ∧ Below w.heap.size w w')
  go_enter Try.func164, Try.ntmps164
  go_wp2
  refine bodyPost_ret (v := .tuple #[.agg #[.int .i64 0, .int .i64 0, .int .i64 0, .int .i64 0, .int .i64 0, .int .i64 0], .bool false]) (by simp [results, Try.results164, go_sem]) rfl ⟨rfl, ?_⟩
  exact ((((Below.refl _ _).alloc (Nat.le_refl _) _).alloc (by simp) _).alloc (by simp; omega) _).alloc (by simp; omega) _

theorem spansC (k : Int) : SpOf k := by
  rcases kinds k with rfl | rfl | rfl | rfl | rfl | rfl | rfl | rfl | rfl | rfl | rfl | rfl | rfl | rfl | rfl | rfl | h
  · exact spans1
  · exact spans2
  · exact spans3
  · exact spans4
  · exact spans5
  · exact spans6
  · exact spans7
  · exact spans8
  · exact spans9
  · exact spans10
  · exact spans11
  · exact spans12
  · exact spans13
  · exact spans14
  · exact spans15
  · exact spans16
  · exact spansNo k h

set_option maxRecDepth 100000 in
set_option maxHeartbeats 1600000 in
theorem implSome (k a b c p0 p1 q0 q1 r0 r1 : Int) (w : World)
    (hS : ∀ W : World, Calls Try.prog 164 #[.int .i64 k] W fun e w' => e = .returned (.tuple #[.agg #[.int .i64 p0, .int .i64 p1, .int .i64 q0, .int .i64 q1, .int .i64 r0, .int .i64 r1], .bool true]) ∧ Below W.heap.size W w') :
    Calls Try.prog 137 #[opV k a b c] w fun e w' => e = .returned (.bool (inn p0 p1 a && inn q0 q1 b && inn r0 r1 c)) ∧ Below w.heap.size w w' := by
  show Calls _ _ #[.agg #[.int .i64 k, .int .i64 a, .int .i64 b, .int .i64 c]] _ _
  obtain ⟨x, hx⟩ : ∃ p, inn p0 p1 a = p := ⟨_, rfl⟩
  obtain ⟨y, hy⟩ : ∃ p, inn q0 q1 b = p := ⟨_, rfl⟩
  obtain ⟨z, hz⟩ : ∃ p, inn r0 r1 c = p := ⟨_, rfl⟩
  rw [hx, hy, hz]
  have O0 := Blk.new w #[.int .i64 k, .int .i64 a, .int .i64 b, .int .i64 c] 140
  have b0 := alloc_below w (.cells #[.int .i64 k, .int .i64 a, .int .i64 b, .int .i64 c] 140)
  obtain ⟨W0, hW0⟩ : ∃ W0, w.alloc (.cells #[.int .i64 k, .int .i64 a, .int .i64 b, .int .i64 c] 140) = W0 := ⟨_, rfl⟩
  rw [hW0] at O0 b0
  have k0 := O0.cell 0
  have hs0 := O0.lt
  go_enter Try.func137, Try.ntmps137
  go_wp2_with fail
  clear hW0 k0
  refine (hS W0).mono ?_
  rintro e w1 ⟨rfl, b1⟩
  have O1 := O0.on b1 hs0
  have O2 := O1.on (alloc_below w1 (.cells #[.int .i64 p0, .int .i64 p1, .int .i64 q0, .int .i64 q1, .int .i64 r0, .int .i64 r1] 194)) O1.lt
  have P2 := Blk.new w1 #[.int .i64 p0, .int .i64 p1, .int .i64 q0, .int .i64 q1, .int .i64 r0, .int .i64 r1] 194
  have b2 := (b0.trans (b1.mono b0.size)).alloc (by have := b0.size; have := b1.size; omega) (.cells #[.int .i64 p0, .int .i64 p1, .int .i64 q0, .int .i64 q1, .int .i64 r0, .int .i64 r1] 194)
  obtain ⟨W2, hW2⟩ : ∃ W2, w1.alloc (.cells #[.int .i64 p0, .int .i64 p1, .int .i64 q0, .int .i64 q1, .int .i64 r0, .int .i64 r1] 194) = W2 := ⟨_, rfl⟩
  obtain ⟨p, hp⟩ : ∃ p, w1.heap.size = p := ⟨_, rfl⟩
  rw [hW2] at O2 P2 b2
  rw [hp] at P2
  clear O0 b0 b1 O1 hS
  have k1 := O2.cell 1
  have j0 := P2.cell 0; have j1 := P2.cell 1
  go_wp2_with fail
  clear hW2 hp k1 j0 j1
  refine (hasC p0 p1 a W2).mono ?_
  rintro e w3 ⟨rfl, b3⟩
  rw [hx]
  have O3 := O2.on b3 O2.lt; have P3 := P2.on b3 P2.lt
  have b3 := b2.trans (b3.mono b2.size)
  clear O2 P2 b2
  cases x
  · go_wp2
    go_ret
    exact ⟨by simp, b3⟩
  have k2 := O3.cell 2
  have j2 := P3.cell 2; have j3 := P3.cell 3
  go_wp2_with fail
  clear k2 j2 j3
  refine (hasC q0 q1 b w3).mono ?_
  rintro e w4 ⟨rfl, b4⟩
  rw [hy]
  have O4 := O3.on b4 O3.lt; have P4 := P3.on b4 P3.lt
  have b4 := b3.trans (b4.mono b3.size)
  clear O3 P3 b3
  cases y
  · go_wp2
    go_ret
    exact ⟨by simp, b4⟩
  have k3 := O4.cell 3
  have j4 := P4.cell 4; have j5 := P4.cell 5
  go_wp2_with fail
  clear k3 j4 j5
  refine (hasC r0 r1 c w4).mono ?_
  rintro e w5 ⟨rfl, b5⟩
  rw [hz]
  have b5 := b4.trans (b5.mono b4.size)
  go_wp2
  go_ret
  exact ⟨by simp, b5⟩

set_option maxRecDepth 100000 in
set_option maxHeartbeats 1600000 in
theorem implNone (k a b c : Int) (w : World)
    (hS : ∀ W : World, Calls Try.prog 164 #[.int .i64 k] W fun e w' => e = .returned (.tuple #[.agg #[.int .i64 0, .int .i64 0, .int .i64 0, .int .i64 0, .int .i64 0, .int .i64 0], .bool false]) ∧ Below W.heap.size W w') :
    Calls Try.prog 137 #[opV k a b c] w fun e w' => e = .returned (.bool false) ∧ Below w.heap.size w w' := by
  show Calls _ _ #[.agg #[.int .i64 k, .int .i64 a, .int .i64 b, .int .i64 c]] _ _
  have b0 := alloc_below w (.cells #[.int .i64 k, .int .i64 a, .int .i64 b, .int .i64 c] 140)
  go_enter Try.func137, Try.ntmps137
  go_wp2_with fail
  refine (hS _).mono ?_
  rintro e w1 ⟨rfl, b1⟩
  go_wp2
  go_ret
  exact ⟨rfl, (b0.trans (b1.mono b0.size)).alloc (by have := b0.size; have := b1.size; omega) _⟩

theorem implC (k a b c : Int) (w : World) : Calls Try.prog 137 #[opV k a b c] w fun e w' => e = .returned (.bool (opOk k a b c)) ∧ Below w.heap.size w w' := by
  have hS := spansC k
  unfold SpOf at hS
  unfold opOk
  rcases hs : spans k with _ | ⟨⟨p0, p1⟩, ⟨q0, q1⟩, ⟨r0, r1⟩⟩
  · rw [hs] at hS
    exact implNone k a b c w hS
  · rw [hs] at hS
    exact implSome k a b c p0 p1 q0 q1 r0 r1 w hS
end Ops
end Go.Proofs.Ytajbmokidcdfnaa
/- The program's Calc. -/
set_option linter.unusedVariables false
namespace Go.Proofs.Ytajbmokidcdfnaa
open Go.RowKit
namespace Ops
open Bas

theorem undrew {B : Nat} {w w' : World} (h : Below B w.drew w') : Below B w w' := ⟨h.os, h.tape, h.output, h.size, h.block⟩
theorem past {W : World} {p g : Nat} {cs : Array Value} {t : TypeId} (h : Blk W p cs t) (hne : p < g) (j : Nat) (u : Value) : Blk (W.setCell ⟨g, j, none⟩ u) p cs t :=
  h.on ((Below.refl (p + 1) W).setCell (show p + 1 ≤ g from hne) u) (Nat.lt_succ_self _)
theorem isFn_no {k a b c : Int} {zs : List Int} (h : isFn k = false) : calcMay k a b c zs = false := by
  unfold calcMay
  by_cases h4 : k ≤ 4
  · have : k < 1 := by
      unfold isFn at h; rw [decide_eq_true h4, Bool.and_true] at h
      have := of_decide_eq_false h; omega
    have e : opOk k a b c = false := by unfold opOk; rw [spans_none (.inl this)]
    rw [e]; rfl
  · rw [decide_eq_false h4, Bool.and_false]
theorem isFn_yes {k : Int} (h : isFn k = true) : k = 1 ∨ k = 2 ∨ k = 3 ∨ k = 4 := by
  unfold isFn at h; simp at h; omega

set_option maxRecDepth 100000 in
set_option maxHeartbeats 4000000 in
theorem calcImplC (k a b c : Int) (v : Value) (zs : List Int) (B : Nat) (w : World) (hwf : (Lit.int .i64 k).wf = true) (hv : Ints.Sees B w v zs) (hB : B ≤ w.heap.size) (hlen : zs.length ≤ 1048576) :
    Calls Try.prog 183 #[opV k a b c, v] w fun e w' => ∃ v', e = .returned (.tuple #[v', .bool (calcMay k a b c zs)]) ∧ Ints.Owns w.heap.size w' v' (calcTo k a b c zs) ∧ Below w.heap.size w w' := by
  obtain ⟨r, cap, rfl⟩ := hv.form
  have O0 := Blk.new w #[.int .i64 k, .int .i64 a, .int .i64 b, .int .i64 c] 140
  have b0 := alloc_below w (.cells #[.int .i64 k, .int .i64 a, .int .i64 b, .int .i64 c] 140)
  have hv0 := hv.on b0 hB
  have hs0 := O0.lt
  show Calls _ _ #[.agg #[.int .i64 k, .int .i64 a, .int .i64 b, .int .i64 c], _] _ _
  obtain ⟨n, hn⟩ : ∃ n, zs.length = n := ⟨_, rfl⟩
  obtain ⟨W0, hW0⟩ : ∃ W0, w.alloc (.cells #[.int .i64 k, .int .i64 a, .int .i64 b, .int .i64 c] 140) = W0 := ⟨_, rfl⟩
  rw [hW0] at O0 b0 hv0 hs0
  obtain ⟨v1, w1, hr, P1, b1⟩ := Ints.appNil _ 23 zs B W0 hv0 hlen
  obtain ⟨g1, cap1, rfl⟩ := P1.form
  have O1 := O0.on b1 hs0
  have hv1 := hv0.on b1 (by omega)
  have bb := b0.trans (b1.mono b0.size)
  have P1 := P1.mono (show w.heap.size + 1 ≤ W0.heap.size from hs0)
  rw [hn] at hr hv1 P1 ⊢
  have c0 := O1.cell 0
  clear O0 hv0
  go_enter Try.func183, Try.ntmps183
  go_wp2_with (at_builtin; refine wpList_app _ rfl _ _ 23 rfl _ _ _ _ rfl rfl hr ?_)
  clear hr hW0
  go_region_held3 (fun W => W.cell? ⟨w.heap.size, 0, none⟩ = some (.int .i64 k)) (go_keep) ((go_at_call 186; refine (tableC _).mono ?_; rintro e w2 ⟨bt, rfl, hlk, b2⟩; have hlk2 := hlk k hwf; have c0' := (O1.drew.on b2 O1.drew.lt).cell 0))
  have b2 : Below w1.heap.size w1 w2 := undrew b2
  have O2 := O1.on b2 O1.lt
  have hv2 := hv1.on b2 (by have := bb.size; omega)
  have P2 : Ints.Owns (w.heap.size + 1) w2 (.slice g1 n cap1) zs := P1.on b2 (Nat.le_refl _)
  have bb2 := bb.trans (b2.mono bb.size)
  clear hlk hlk2 c0 c0' O1 hv1 P1 b1 b2 bb
  rename_i hheld
  clear hheld
  obtain ⟨q, hq⟩ : ∃ q, isFn k = q := ⟨_, rfl⟩
  rw [hq]
  have HF : Hid (isFn k = q) := hq
  clear hq
  cases q
  · go_wp2
    go_ret2
    exact calc_no (isFn_no HF.out) (P2.mono (Nat.le_succ _)) bb2
  have c0 := O2.cell 0; have c1 := O2.cell 1; have c2 := O2.cell 2; have c3 := O2.cell 3
  have cS := implC k a b c w2
  have eV : opV k a b c = .agg #[.int .i64 k, .int .i64 a, .int .i64 b, .int .i64 c] := rfl
  rw [eV] at cS
  go_wp2_with fail
  refine cS.mono ?_
  rintro e w3 ⟨rfl, b3⟩
  have O3 := O2.on b3 O2.lt
  have hv3 := hv2.on b3 (by have := bb2.size; omega)
  have P3 : Ints.Owns (w.heap.size + 1) w3 (.slice g1 n cap1) zs := P2.on b3 (Nat.le_refl _)
  have bb3 := bb2.trans (b3.mono bb2.size)
  clear cS eV O2 hv2 P2 b3 bb2 c0 c1 c2 c3
  obtain ⟨p, hp⟩ : ∃ p, opOk k a b c = p := ⟨_, rfl⟩
  rw [hp]
  have HP : Hid (opOk k a b c = p) := hp
  clear hp
  cases p
  · go_wp2
    go_ret2
    exact calc_no (may_ff HP.out) (P3.mono (Nat.le_succ _)) bb3
  have cR := regsImpl _ zs _ w3 (hn ▸ hv3)
  rw [hn] at cR
  go_wp2_with fail
  refine cR.mono ?_
  rintro e w4 ⟨rfl, rfl⟩
  clear cR
  obtain ⟨q, hq⟩ : ∃ q, regsOk zs = q := ⟨_, rfl⟩
  rw [hq]
  have HQ : Hid (regsOk zs = q) := hq
  clear hq
  cases q
  · go_wp2
    go_ret2
    exact calc_no (may_tf HP.out HQ.out) (P3.mono (Nat.le_succ _)) bb3
  have c0 := O3.cell 0; have c1 := O3.cell 1; have c2 := O3.cell 2; have c3 := O3.cell 3
  have hK := isFn_yes HF.out
  have HY : Hid (calcMay k a b c zs = true) := may_ttt HP.out HQ.out (by omega)
  obtain ⟨h4, hval⟩ := regsOk_out HQ.out
  obtain rfl : n = 4 := by omega
  obtain ⟨g, rfl⟩ : ∃ g, g1 = some ⟨g, 0, none⟩ := by
    obtain ⟨g, cp, e, -, -⟩ := owns_form P3 (by omega)
    simp only [Value.slice.injEq] at e
    exact ⟨g, e.1⟩
  have Q3 : w3.ownsRow (w.heap.size + 1) 3 1 (.slice (some ⟨g, 0, none⟩) 4 cap1) 4 (Ints.iv zs) := h4 ▸ P3
  have hg' := owns_low Q3
  have hg : w.heap.size ≤ g := by omega
  obtain ⟨-, -, -, hsee⟩ := sees_out hv3 h4
  obtain ⟨rb, ro, rfl, hrb, hcell⟩ := hsee
  have hrb' : rb < w3.heap.size := by have := bb3.size; omega
  clear P3 hv3 hv
  rcases hK with rfl | hK
  · obtain ⟨ha, -, -⟩ := ok_set HP.out
    obtain ⟨j, rfl, hj⟩ := place ha
    clear hcell
    have i1 : (0 : Int) ≤ j := by omega
    have i2 : (j : Int) < 4 := by omega
    have eF : fnV 1 = .func (.func 187) #[] #[] := rfl
    rw [eF]
    go_wp2_with fail
    go_region_held3 (fun W => W.cell? ⟨w.heap.size, 0, none⟩ = some (.int .i64 1) ∧ W.cell? ⟨w.heap.size, 1, none⟩ = some (.int .i64 j) ∧ W.cell? ⟨w.heap.size, 2, none⟩ = some (.int .i64 b) ∧ W.cell? ⟨w.heap.size, 3, none⟩ = some (.int .i64 c)) (go_keep) ((go_at_call 187; refine (clo1C 1 _ _ _ _ _).mono ?_; rintro e w5 ⟨rfl, b5⟩; have O5 := O3.drew.on b5 O3.drew.lt; have e0 := O5.cell 0; have e1 := O5.cell 1; have e2 := O5.cell 2; have e3 := O5.cell 3; have Q5 := owns_on Q3 (undrew b5) (Nat.le_refl _); have i0 := Ints.owns_at Q5 j (by omega); have hfz := fun j => Q5.frozenAt j; have Z := fun u => past O5 (show w.heap.size < g by omega) j u; have z0 := fun u => (Z u).cell 0; have z1 := fun u => (Z u).cell 1; have z2 := fun u => (Z u).cell 2; have z3 := fun u => (Z u).cell 3))
    rename_i hheld
    clear hheld e0 e1 e2 e3 i0 hfz z0 z1 z2 z3 Z c0 c1 c2 c3
    have bb5 := bb3.trans ((undrew b5).mono bb3.size)
    have HO := Ints.owns_set Q5 j (b)
    go_wp2
    go_ret2
    refine calc_yes HY.out rfl (show reck 1 b c zs = b from rfl) ?_ (bb5.setCell hg _)
    exact Ints.Owns.mono (by unfold Ints.Owns; rw [set_len zs j _ 4 h4]; exact HO) (Nat.le_succ _)
  · obtain ⟨ha, hb, hc⟩ := ok_regs hK HP.out
    obtain ⟨j, rfl, hj⟩ := place ha
    obtain ⟨jb, rfl, hjb⟩ := place hb
    obtain ⟨jc, rfl, hjc⟩ := place hc
    have x0 := hcell jb (by omega)
    have y0 := hcell jc (by omega)
    obtain ⟨x1, x2⟩ := hval jb (by omega)
    obtain ⟨y1, y2⟩ := hval jc (by omega)
    have HX : Hid (zs.getD ((jb : Int)).toNat 0 = zs[jb]) := getD_at (by omega)
    have HY' : Hid (zs.getD ((jc : Int)).toNat 0 = zs[jc]) := getD_at (by omega)
    obtain ⟨x, hx⟩ : ∃ x, zs[jb] = x := ⟨_, rfl⟩
    obtain ⟨y, hy⟩ : ∃ y, zs[jc] = y := ⟨_, rfl⟩
    rw [hx] at x0 x1 x2 HX
    rw [hy] at y0 y1 y2 HY'
    clear hx hy hval hcell ha hb hc
    have i1 : (0 : Int) ≤ j := by omega
    have i2 : (j : Int) < 4 := by omega
    rcases hK with rfl | rfl | rfl
    · have HR : Hid (reck 2 (jb : Int) (jc : Int) zs = (x + y) % 65536) := by show reck _ _ _ _ = _; unfold reck; rw [HX.out, HY'.out]; rfl
      have eF : fnV 2 = .func (.func 188) #[] #[] := rfl
      rw [eF]
      go_wp2_with fail
      go_region_held3 (fun W => W.cell? ⟨w.heap.size, 0, none⟩ = some (.int .i64 2) ∧ W.cell? ⟨w.heap.size, 1, none⟩ = some (.int .i64 j) ∧ W.cell? ⟨w.heap.size, 2, none⟩ = some (.int .i64 jb) ∧ W.cell? ⟨w.heap.size, 3, none⟩ = some (.int .i64 jc)) (go_keep) ((go_at_call 188; refine (clo2C 2 _ jb jc hjb hjc rb ro cap x y _ ?_ ?_ ?_ x1 x2 y1 y2).mono ?_; exact hrb'; exact x0; exact y0; rintro e w5 ⟨rfl, b5⟩; have O5 := O3.drew.on b5 O3.drew.lt; have e0 := O5.cell 0; have e1 := O5.cell 1; have e2 := O5.cell 2; have e3 := O5.cell 3; have Q5 := owns_on Q3 (undrew b5) (Nat.le_refl _); have i0 := Ints.owns_at Q5 j (by omega); have hfz := fun j => Q5.frozenAt j; have Z := fun u => past O5 (show w.heap.size < g by omega) j u; have z0 := fun u => (Z u).cell 0; have z1 := fun u => (Z u).cell 1; have z2 := fun u => (Z u).cell 2; have z3 := fun u => (Z u).cell 3))
      rename_i hheld
      clear hheld e0 e1 e2 e3 i0 hfz z0 z1 z2 z3 Z c0 c1 c2 c3
      have bb5 := bb3.trans ((undrew b5).mono bb3.size)
      have HO := Ints.owns_set Q5 j ((x + y) % 65536)
      go_wp2
      go_ret2
      refine calc_yes HY.out rfl (HR.out) ?_ (bb5.setCell hg _)
      exact Ints.Owns.mono (by unfold Ints.Owns; rw [set_len zs j _ 4 h4]; exact HO) (Nat.le_succ _)
    · have HR : Hid (reck 3 (jb : Int) (jc : Int) zs = (x - y) % 65536) := by show reck _ _ _ _ = _; unfold reck; rw [HX.out, HY'.out]; simp
      have eF : fnV 3 = .func (.func 189) #[] #[] := rfl
      rw [eF]
      go_wp2_with fail
      go_region_held3 (fun W => W.cell? ⟨w.heap.size, 0, none⟩ = some (.int .i64 3) ∧ W.cell? ⟨w.heap.size, 1, none⟩ = some (.int .i64 j) ∧ W.cell? ⟨w.heap.size, 2, none⟩ = some (.int .i64 jb) ∧ W.cell? ⟨w.heap.size, 3, none⟩ = some (.int .i64 jc)) (go_keep) ((go_at_call 189; refine (clo3C 3 _ jb jc hjb hjc rb ro cap x y _ ?_ ?_ ?_ x1 x2 y1 y2).mono ?_; exact hrb'; exact x0; exact y0; rintro e w5 ⟨rfl, b5⟩; have O5 := O3.drew.on b5 O3.drew.lt; have e0 := O5.cell 0; have e1 := O5.cell 1; have e2 := O5.cell 2; have e3 := O5.cell 3; have Q5 := owns_on Q3 (undrew b5) (Nat.le_refl _); have i0 := Ints.owns_at Q5 j (by omega); have hfz := fun j => Q5.frozenAt j; have Z := fun u => past O5 (show w.heap.size < g by omega) j u; have z0 := fun u => (Z u).cell 0; have z1 := fun u => (Z u).cell 1; have z2 := fun u => (Z u).cell 2; have z3 := fun u => (Z u).cell 3))
      rename_i hheld
      clear hheld e0 e1 e2 e3 i0 hfz z0 z1 z2 z3 Z c0 c1 c2 c3
      have bb5 := bb3.trans ((undrew b5).mono bb3.size)
      have HO := Ints.owns_set Q5 j ((x - y) % 65536)
      go_wp2
      go_ret2
      refine calc_yes HY.out rfl (HR.out) ?_ (bb5.setCell hg _)
      exact Ints.Owns.mono (by unfold Ints.Owns; rw [set_len zs j _ 4 h4]; exact HO) (Nat.le_succ _)
    · have HR : Hid (reck 4 (jb : Int) (jc : Int) zs = lt01 x y) := by show reck _ _ _ _ = _; unfold reck; rw [HX.out, HY'.out]; rfl
      have eF : fnV 4 = .func (.func 190) #[] #[] := rfl
      rw [eF]
      go_wp2_with fail
      go_region_held3 (fun W => W.cell? ⟨w.heap.size, 0, none⟩ = some (.int .i64 4) ∧ W.cell? ⟨w.heap.size, 1, none⟩ = some (.int .i64 j) ∧ W.cell? ⟨w.heap.size, 2, none⟩ = some (.int .i64 jb) ∧ W.cell? ⟨w.heap.size, 3, none⟩ = some (.int .i64 jc)) (go_keep) ((go_at_call 190; refine (clo4C 4 _ jb jc hjb hjc rb ro cap x y _ ?_ ?_ ?_ x1 x2 y1 y2).mono ?_; exact hrb'; exact x0; exact y0; rintro e w5 ⟨rfl, b5⟩; have O5 := O3.drew.on b5 O3.drew.lt; have e0 := O5.cell 0; have e1 := O5.cell 1; have e2 := O5.cell 2; have e3 := O5.cell 3; have Q5 := owns_on Q3 (undrew b5) (Nat.le_refl _); have i0 := Ints.owns_at Q5 j (by omega); have hfz := fun j => Q5.frozenAt j; have Z := fun u => past O5 (show w.heap.size < g by omega) j u; have z0 := fun u => (Z u).cell 0; have z1 := fun u => (Z u).cell 1; have z2 := fun u => (Z u).cell 2; have z3 := fun u => (Z u).cell 3))
      rename_i hheld
      clear hheld e0 e1 e2 e3 i0 hfz z0 z1 z2 z3 Z c0 c1 c2 c3
      have bb5 := bb3.trans ((undrew b5).mono bb3.size)
      have HO := Ints.owns_set Q5 j (lt01 x y)
      go_wp2
      go_ret2
      refine calc_yes HY.out rfl (HR.out) ?_ (bb5.setCell hg _)
      exact Ints.Owns.mono (by unfold Ints.Owns; rw [set_len zs j _ 4 h4]; exact HO) (Nat.le_succ _)
end Ops
end Go.Proofs.Ytajbmokidcdfnaa
/- copy into a doing; do: an op that reckons. -/
set_option linter.unusedVariables false
set_option linter.unusedSimpArgs false
namespace Go.Proofs.Ytajbmokidcdfnaa
open Go.RowKit
namespace Ops
open Bas Flat

/-- copy of numbers over cells that are there -/
theorem copyOver (W : World) (p o dLen dCap : Nat) (v : Value) (zs : List Int) (B : Nat) (hv : Ints.Sees B W v zs) (ht : W.there p o zs.length) (hl : zs.length ≤ dLen) :
    (Builtin.copy_ #[23, 23] 3 #[.slice (some ⟨p, o, none⟩) dLen dCap, v]).run Try.prog W = .ok (.int .i64 (zs.length : Int)) (W.setCells p o (Ints.iv zs)) := by
  have hs : (Try.prog.info? 3).map (·.size) = some 1 := by kernel_rfl
  obtain ⟨a, cap, rfl, h1, h2, h3⟩ := hv
  by_cases hz : zs = []
  · subst hz
    exact run_copy_none W 23 23 3 3 _ _ _ _ _ _ Try.underlying23 hs (by simp)
  · obtain ⟨b, off, rfl, -, hc⟩ := h3 hz
    have := run_copy_cells (P := Try.prog) W 23 23 3 3 p o dLen dCap ⟨b, off, none⟩ zs.length cap (Ints.iv zs) Try.underlying23 hs (by rw [Ints.iv_length]; exact (Nat.min_eq_left hl).symm)
      (fun j v hv => by
        have hj : j < zs.length := by rw [← Ints.iv_length]; exact (List.getElem?_eq_some_iff.1 hv).1
        rw [Ints.iv_get zs j hj] at hv
        rw [Addr.add_mid, hc j hj, ← hv])
      (fun j hj => (ht j (by rw [Ints.iv_length] at hj; exact hj)).1) (fun j hj => (ht j (by rw [Ints.iv_length] at hj; exact hj)).2) (Ints.iv_one zs)
    rw [this, Ints.iv_length]; rfl
theorem over_regs {r l : List Int} {t : Th} (h : l.length = r.length) : over (nums r t) 0 l = nums l t := by
  have := over_mid [] r (t.c ++ (t.m ++ [t.n])) l h
  exact this
theorem over_cells {r l : List Int} {t : Th} (hr : r.length = 4) (h : l.length = t.c.length) : over (nums r t) 4 l = nums r { t with c := l } := by
  have := over_mid r t.c (t.m ++ [t.n]) l h
  rw [hr] at this
  exact this
theorem Dn.seeRegs {W : World} {p : Nat} {vC vK vO : Value} {r : List Int} {t : Th} (h : Dn W p vC vK vO (nums r t)) (hr : r.length = 4) : Ints.Sees W.heap.size W (.slice (some ⟨p, 3, none⟩) 4 4) r :=
  ⟨_, 4, by rw [hr], by omega, by unfold maxLen; omega, fun _ => ⟨p, 3, rfl, h.lt, fun j hj => by rw [h.reg hr (by omega : j < 4), rd_nat hj]⟩⟩
theorem Dn.seeCells {W : World} {p : Nat} {vC vK vO : Value} {r : List Int} {t : Th} (h : Dn W p vC vK vO (nums r t)) (hr : r.length = 4) (hc : t.c.length = 8) : Ints.Sees W.heap.size W (.slice (some ⟨p, 7, none⟩) 8 8) t.c :=
  ⟨_, 8, by rw [hc], by omega, by unfold maxLen; omega, fun _ => ⟨p, 7, rfl, h.lt, fun j hj => by rw [h.cel hr hc (by omega : j < 8), rd_nat hj]⟩⟩

set_option maxRecDepth 100000 in
set_option maxHeartbeats 6400000 in
theorem doCalc (p : Nat) (vC vK vO : Value) (r : List Int) (t : Th) (k a b c : Int) (hk : k = 1 ∨ k = 2 ∨ k = 3 ∨ k = 4) (hr : r.length = 4) (hc : t.c.length = 8) (hm : t.m.length = 8) (W : World) (hd : Dn W p vC vK vO (nums r t)) :
    Calls Try.prog 172 #[.pointer (some ⟨p, 3, none⟩), opV k a b c] W fun e W' => e = .returned (.tuple #[]) ∧ Dn W' p vC vK vO (nums (calcTo k a b c r) t) ∧ Only p W W' := by
  obtain ⟨q, hqq⟩ : ∃ q, W.heap.size = q := ⟨_, rfl⟩
  have hp := hd.lt
  have X1 := Blk.new W #[.int .i64 k, .int .i64 a, .int .i64 b, .int .i64 c] 140
  have b1 := alloc_below W (.cells #[.int .i64 k, .int .i64 a, .int .i64 b, .int .i64 c] 140)
  have d1 := hd.on b1 hp
  have o1 : Only p W _ := Only.of b1
  rw [hqq] at X1 hp
  obtain ⟨W1, hW1⟩ : ∃ W1, W.alloc (.cells #[.int .i64 k, .int .i64 a, .int .i64 b, .int .i64 c] 140) = W1 := ⟨_, rfl⟩
  rw [hW1] at X1 d1 o1
  have hwf : (Lit.int .i64 k).wf = true := by rcases hk with rfl | rfl | rfl | rfl <;> rfl
  have cC := calcImplC k a b c (.slice (some ⟨p, 3, none⟩) 4 4) r W1.drew.heap.size W1.drew hwf (d1.drew.seeRegs hr) (Nat.le_refl _) (by omega)
  have hcl : (calcTo k a b c r).length = r.length := calcTo_length k a b c r
  obtain ⟨rr, hrr⟩ : ∃ rr, calcTo k a b c r = rr := ⟨_, rfl⟩
  rw [hrr] at cC hcl ⊢
  clear hrr
  have n5 : (k == 5) = false := by simp; omega
  have n6 : (k == 6) = false := by simp; omega
  have n12 : (k == 12) = false := by simp; omega
  have n13 : (k == 13) = false := by simp; omega
  have n14 : (k == 14) = false := by simp; omega
  have n15 : (k == 15) = false := by simp; omega
  have n16 : (k == 16) = false := by simp; omega
  have c0 := X1.cell 0; have c1 := X1.cell 1; have c2 := X1.cell 2; have c3 := X1.cell 3
  unfold opV at cC ⊢
  clear b1 hk hwf
  go_enter Try.func172, Try.ntmps172
  go_wp2_with fail
  go_region_with (go_at_call 183; refine cC.mono ?_; rintro e W2 ⟨v2, rfl, O2, b2⟩)
  have d2 := d1.drew.on b2 d1.lt
  have o2 := o1.drew.trans (Only.of b2)
  have hcp := copyOver W2 p 3 4 4 v2 rr _ O2.sees (d2.there (k := 0) (n := rr.length) (by rw [nums_length hr hc hm]; omega)) (by omega)
  have d3 := d2.setMany rr _ _ 0
  rw [over_regs hcl] at d3
  have o3 := o2.setMany 3 (Ints.iv rr)
  go_wp2
  go_end0
  exact ⟨rfl, d3, o3⟩
end Ops
end Go.Proofs.Ytajbmokidcdfnaa
/- do: OpRead. -/
set_option linter.unusedVariables false
set_option linter.unusedSimpArgs false
namespace Go.Proofs.Ytajbmokidcdfnaa
open Go.RowKit
namespace Ops
open Bas Flat

set_option maxRecDepth 100000 in
set_option maxHeartbeats 3200000 in
theorem do5 (p : Nat) (vC vK vO : Value) (r : List Int) (t : Th) (a b : Nat) (c : Int) (ha : a < 4) (hb : b < 8) (hr : r.length = 4) (hc : t.c.length = 8) (W : World) (hd : Dn W p vC vK vO (nums r t)) :
    Calls Try.prog 172 #[.pointer (some ⟨p, 3, none⟩), opV 5 (a : Int) (b : Int) c] W fun e W' => e = .returned (.tuple #[]) ∧ Dn W' p vC vK vO (nums (wr r (a : Int) (rd t.c (b : Int))) t) ∧ Only p W W' := by
  obtain ⟨q, hqq⟩ : ∃ q, W.heap.size = q := ⟨_, rfl⟩
  have hp := hd.lt
  have X1 := Blk.new W #[.int .i64 5, .int .i64 (a : Int), .int .i64 (b : Int), .int .i64 c] 140
  have b1 := alloc_below W (.cells #[.int .i64 5, .int .i64 (a : Int), .int .i64 (b : Int), .int .i64 c] 140)
  have d1 := hd.on b1 hp
  have o1 : Only p W _ := Only.of b1
  rw [hqq] at X1 hp
  obtain ⟨W1, hW1⟩ : ∃ W1, W.alloc (.cells #[.int .i64 5, .int .i64 (a : Int), .int .i64 (b : Int), .int .i64 c] 140) = W1 := ⟨_, rfl⟩
  rw [hW1] at X1 d1 o1
  have c0 := X1.cell 0; have c1 := X1.cell 1; have c2 := X1.cell 2; have c3 := X1.cell 3
  have e1 := d1.reg hr ha
  have e2 := d1.cel hr hc hb
  have f1 := d1.froz (3 + a)
  have i1 : (a : Int) < 4 := by omega
  have i2 : (b : Int) < 8 := by omega
  unfold opV
  clear b1 X1
  go_enter Try.func172, Try.ntmps172
  go_wp2
  go_region
  go_wp2
  go_end0
  exact ⟨rfl, (d1.setReg hr ha _).drew, (o1.set _ _).drew⟩
end Ops
end Go.Proofs.Ytajbmokidcdfnaa
/- do: an op of kind 6. -/
set_option linter.unusedVariables false
set_option linter.unusedSimpArgs false
namespace Go.Proofs.Ytajbmokidcdfnaa
open Go.RowKit
namespace Ops
open Bas Flat

set_option maxRecDepth 100000 in
set_option maxHeartbeats 6400000 in
theorem do6 (p : Nat) (vC vK vO : Value) (r : List Int) (t : Th) (a b : Nat) (c : Int) (ha : a < 8) (hb : b < 4) (hr : r.length = 4) (hc : t.c.length = 8) (hm : t.m.length = 8) (W : World) (hd : Dn W p vC vK vO (nums r t)) :
    Calls Try.prog 172 #[.pointer (some ⟨p, 3, none⟩), opV 6 (a : Int) (b : Int) c] W fun e W' => e = .returned (.tuple #[]) ∧ Dn W' p vC vK vO (nums r { t with c := wr t.c (a : Int) (rd r (b : Int)) }) ∧ Only p W W' := by
  obtain ⟨q, hqq⟩ : ∃ q, W.heap.size = q := ⟨_, rfl⟩
  have hp := hd.lt
  have X1 := Blk.new W #[.int .i64 6, .int .i64 (a : Int), .int .i64 (b : Int), .int .i64 c] 140
  have b1 := alloc_below W (.cells #[.int .i64 6, .int .i64 (a : Int), .int .i64 (b : Int), .int .i64 c] 140)
  have d1 := hd.on b1 hp
  have o1 : Only p W _ := Only.of b1
  rw [hqq] at X1 hp
  obtain ⟨W1, hW1⟩ : ∃ W1, W.alloc (.cells #[.int .i64 6, .int .i64 (a : Int), .int .i64 (b : Int), .int .i64 c] 140) = W1 := ⟨_, rfl⟩
  rw [hW1] at X1 d1 o1
  have c0 := X1.cell 0; have c1 := X1.cell 1; have c2 := X1.cell 2; have c3 := X1.cell 3
  have e1 := d1.reg hr hb
  have e2 := d1.cel hr hc ha
  have f1 := d1.froz (7 + a)
  have i1 : (a : Int) < 8 := by omega
  have i2 : (b : Int) < 4 := by omega
  unfold opV
  clear b1
  go_enter Try.func172, Try.ntmps172
  go_wp2
  go_region
  go_wp2
  go_end0
  exact ⟨rfl, (d1.setCel hr hc ha _).drew, (o1.set _ _).drew⟩
end Ops
end Go.Proofs.Ytajbmokidcdfnaa
/- do: an op of kind 12. -/
set_option linter.unusedVariables false
set_option linter.unusedSimpArgs false
namespace Go.Proofs.Ytajbmokidcdfnaa
open Go.RowKit
namespace Ops
open Bas Flat

set_option maxRecDepth 100000 in
set_option maxHeartbeats 6400000 in
theorem do12 (p : Nat) (vC vK vO : Value) (r : List Int) (t : Th) (a b c : Nat) (ha : a < 8) (hb : b < 4) (h3 : c < 4) (hr : r.length = 4) (hc : t.c.length = 8) (hm : t.m.length = 8) (hx : 0 ≤ rd r (b : Int) ∧ rd r (b : Int) ≤ 65535) (W : World) (hd : Dn W p vC vK vO (nums r t)) :
    Calls Try.prog 172 #[.pointer (some ⟨p, 3, none⟩), opV 12 (a : Int) (b : Int) (c : Int)] W fun e W' => e = .returned (.tuple #[]) ∧ Dn W' p vC vK vO (nums (wr r (c : Int) (rd t.m (a : Int) % 65536)) { t with m := wr t.m (a : Int) (1 + rd r (b : Int)) }) ∧ Only p W W' := by
  obtain ⟨q, hqq⟩ : ∃ q, W.heap.size = q := ⟨_, rfl⟩
  have hp := hd.lt
  have X1 := Blk.new W #[.int .i64 12, .int .i64 (a : Int), .int .i64 (b : Int), .int .i64 (c : Int)] 140
  have b1 := alloc_below W (.cells #[.int .i64 12, .int .i64 (a : Int), .int .i64 (b : Int), .int .i64 (c : Int)] 140)
  have d1 := hd.on b1 hp
  have o1 : Only p W _ := Only.of b1
  rw [hqq] at X1 hp
  obtain ⟨W1, hW1⟩ : ∃ W1, W.alloc (.cells #[.int .i64 12, .int .i64 (a : Int), .int .i64 (b : Int), .int .i64 (c : Int)] 140) = W1 := ⟨_, rfl⟩
  rw [hW1] at X1 d1 o1
  have c0 := X1.cell 0; have c1 := X1.cell 1; have c2 := X1.cell 2; have c3 := X1.cell 3
  have e0 := d1.reg hr h3
  have e1 := d1.reg hr hb
  have e2 := d1.key hr hc hm ha
  have f1 := d1.froz (3 + c)
  have i1 : (a : Int) < 8 := by omega
  have i2 : (b : Int) < 4 := by omega
  have i3 : (c : Int) < 4 := by omega
  unfold opV
  clear b1
  go_enter Try.func172, Try.ntmps172
  go_wp2
  go_region
  go_wp2
  go_region_calls
  have d2 := (d1.setReg hr h3 (rd t.m (a : Int) % 65536)).drew
  have o2 := (o1.set (3 + c) (.int .i64 (rd t.m (a : Int) % 65536))).drew
  have X2 := (X1.other (show q ≠ p by omega) (3 + c) (.int .i64 (rd t.m (a : Int) % 65536))).drew
  rw [u16_mod]
  obtain ⟨W2, hW2⟩ : ∃ W2, (W1.setCell ⟨p, 3 + c, none⟩ (.int .i64 (rd t.m (a : Int) % 65536))).drew = W2 := ⟨_, rfl⟩
  rw [hW2] at d2 o2 X2 ⊢
  clear hW2 d1 o1 X1 c0 c1 c2 c3 e1 e2 f1 hW1
  have hr2 : (wr r (c : Int) (rd t.m (a : Int) % 65536)).length = 4 := by rw [wr_length]; exact hr
  have c1 := X2.cell 1
  have e2 := d2.key hr2 hc hm ha
  have f1 := d2.froz (15 + a)
  go_wp2
  go_region
  go_wp2
  go_end0
  rw [Int.add_comm]
  exact ⟨rfl, (d2.setKey hr2 hc hm ha _).drew.drew, (o2.set _ _).drew.drew⟩
end Ops
end Go.Proofs.Ytajbmokidcdfnaa
/- do: an op of kind 13. -/
set_option linter.unusedVariables false
set_option linter.unusedSimpArgs false
namespace Go.Proofs.Ytajbmokidcdfnaa
open Go.RowKit
namespace Ops
open Bas Flat

set_option maxRecDepth 100000 in
set_option maxHeartbeats 6400000 in
theorem do13 (p : Nat) (vC vK vO : Value) (r : List Int) (t : Th) (a b : Nat) (c : Int) (ha : a < 4) (hb : b < 8) (hr : r.length = 4) (hc : t.c.length = 8) (hm : t.m.length = 8) (W : World) (hd : Dn W p vC vK vO (nums r t)) :
    Calls Try.prog 172 #[.pointer (some ⟨p, 3, none⟩), opV 13 (a : Int) (b : Int) c] W fun e W' => e = .returned (.tuple #[]) ∧ Dn W' p vC vK vO (nums (wr r (a : Int) (rd t.m (b : Int) % 65536)) t) ∧ Only p W W' := by
  obtain ⟨q, hqq⟩ : ∃ q, W.heap.size = q := ⟨_, rfl⟩
  have hp := hd.lt
  have X1 := Blk.new W #[.int .i64 13, .int .i64 (a : Int), .int .i64 (b : Int), .int .i64 c] 140
  have b1 := alloc_below W (.cells #[.int .i64 13, .int .i64 (a : Int), .int .i64 (b : Int), .int .i64 c] 140)
  have d1 := hd.on b1 hp
  have o1 : Only p W _ := Only.of b1
  rw [hqq] at X1 hp
  obtain ⟨W1, hW1⟩ : ∃ W1, W.alloc (.cells #[.int .i64 13, .int .i64 (a : Int), .int .i64 (b : Int), .int .i64 c] 140) = W1 := ⟨_, rfl⟩
  rw [hW1] at X1 d1 o1
  have c0 := X1.cell 0; have c1 := X1.cell 1; have c2 := X1.cell 2; have c3 := X1.cell 3
  have e1 := d1.reg hr ha
  have e2 := d1.key hr hc hm hb
  have f1 := d1.froz (3 + a)
  have i1 : (a : Int) < 4 := by omega
  have i2 : (b : Int) < 8 := by omega
  unfold opV
  clear b1
  go_enter Try.func172, Try.ntmps172
  go_wp2
  go_region_calls
  all_goals
    go_wp2
    go_end0
    rw [u16_mod]
    exact ⟨rfl, (d1.setReg hr ha _).drew, (o1.set _ _).drew⟩
end Ops
end Go.Proofs.Ytajbmokidcdfnaa
/- do: an op of kind 14. -/
set_option linter.unusedVariables false
set_option linter.unusedSimpArgs false
namespace Go.Proofs.Ytajbmokidcdfnaa
open Go.RowKit
namespace Ops
open Bas Flat

set_option maxRecDepth 100000 in
set_option maxHeartbeats 6400000 in
theorem do14 (p : Nat) (vC vK vO : Value) (r : List Int) (t : Th) (a b : Nat) (c : Int) (ha : a < 8) (hb : b < 4) (hr : r.length = 4) (hc : t.c.length = 8) (hm : t.m.length = 8) (W : World) (hd : Dn W p vC vK vO (nums r t)) :
    Calls Try.prog 172 #[.pointer (some ⟨p, 3, none⟩), opV 14 (a : Int) (b : Int) c] W fun e W' => e = .returned (.tuple #[]) ∧ Dn W' p vC vK vO (nums (wr r (b : Int) (rd t.m (a : Int) % 65536)) { t with m := wr t.m (a : Int) 0 }) ∧ Only p W W' := by
  obtain ⟨q, hqq⟩ : ∃ q, W.heap.size = q := ⟨_, rfl⟩
  have hp := hd.lt
  have X1 := Blk.new W #[.int .i64 14, .int .i64 (a : Int), .int .i64 (b : Int), .int .i64 c] 140
  have b1 := alloc_below W (.cells #[.int .i64 14, .int .i64 (a : Int), .int .i64 (b : Int), .int .i64 c] 140)
  have d1 := hd.on b1 hp
  have o1 : Only p W _ := Only.of b1
  rw [hqq] at X1 hp
  obtain ⟨W1, hW1⟩ : ∃ W1, W.alloc (.cells #[.int .i64 14, .int .i64 (a : Int), .int .i64 (b : Int), .int .i64 c] 140) = W1 := ⟨_, rfl⟩
  rw [hW1] at X1 d1 o1
  have c0 := X1.cell 0; have c1 := X1.cell 1; have c2 := X1.cell 2; have c3 := X1.cell 3
  have e1 := d1.reg hr hb
  have e2 := d1.key hr hc hm ha
  have f1 := d1.froz (3 + b)
  have i1 : (a : Int) < 8 := by omega
  have i2 : (b : Int) < 4 := by omega
  unfold opV
  clear b1
  go_enter Try.func172, Try.ntmps172
  go_wp2
  go_region_calls
  have d2 := (d1.setReg hr hb (rd t.m (a : Int) % 65536)).drew
  have o2 := (o1.set (3 + b) (.int .i64 (rd t.m (a : Int) % 65536))).drew
  have X2 := (X1.other (show q ≠ p by omega) (3 + b) (.int .i64 (rd t.m (a : Int) % 65536))).drew
  rw [u16_mod]
  obtain ⟨W2, hW2⟩ : ∃ W2, (W1.setCell ⟨p, 3 + b, none⟩ (.int .i64 (rd t.m (a : Int) % 65536))).drew = W2 := ⟨_, rfl⟩
  rw [hW2] at d2 o2 X2 ⊢
  clear hW2 d1 o1 X1 c0 c1 c2 c3 e1 e2 f1 hW1
  have hr2 : (wr r (b : Int) (rd t.m (a : Int) % 65536)).length = 4 := by rw [wr_length]; exact hr
  have c1 := X2.cell 1
  have e2 := d2.key hr2 hc hm ha
  have f1 := d2.froz (15 + a)
  go_wp2
  go_region
  go_wp2
  go_end0
  exact ⟨rfl, (d2.setKey hr2 hc hm ha _).drew, (o2.set _ _).drew⟩
end Ops
end Go.Proofs.Ytajbmokidcdfnaa
/- do: an op of kind 15. -/
set_option linter.unusedVariables false
set_option linter.unusedSimpArgs false
namespace Go.Proofs.Ytajbmokidcdfnaa
open Go.RowKit
namespace Ops
open Bas Flat

set_option maxRecDepth 100000 in
set_option maxHeartbeats 6400000 in
theorem do15 (p : Nat) (vC vK vO : Value) (r : List Int) (t : Th) (a : Nat) (b c : Int) (ha : a < 4) (hr : r.length = 4) (hc : t.c.length = 8) (hm : t.m.length = 8) (hn : 0 ≤ t.n ∧ t.n ≤ 65535) (hx : 0 ≤ rd r (a : Int) ∧ rd r (a : Int) ≤ 65535) (W : World) (hd : Dn W p vC vK vO (nums r t)) :
    Calls Try.prog 172 #[.pointer (some ⟨p, 3, none⟩), opV 15 (a : Int) b c] W fun e W' => e = .returned (.tuple #[]) ∧ Dn W' p vC vK vO (nums r { t with n := (t.n + rd r (a : Int)) % 65536 }) ∧ Only p W W' := by
  obtain ⟨q, hqq⟩ : ∃ q, W.heap.size = q := ⟨_, rfl⟩
  have hp := hd.lt
  have X1 := Blk.new W #[.int .i64 15, .int .i64 (a : Int), .int .i64 b, .int .i64 c] 140
  have b1 := alloc_below W (.cells #[.int .i64 15, .int .i64 (a : Int), .int .i64 b, .int .i64 c] 140)
  have d1 := hd.on b1 hp
  have o1 : Only p W _ := Only.of b1
  rw [hqq] at X1 hp
  obtain ⟨W1, hW1⟩ : ∃ W1, W.alloc (.cells #[.int .i64 15, .int .i64 (a : Int), .int .i64 b, .int .i64 c] 140) = W1 := ⟨_, rfl⟩
  rw [hW1] at X1 d1 o1
  have c0 := X1.cell 0; have c1 := X1.cell 1; have c2 := X1.cell 2; have c3 := X1.cell 3
  have e1 := d1.reg hr ha
  have e2 := d1.cnt hr hc hm
  have f1 := d1.froz 23
  have i1 : (a : Int) < 4 := by omega
  unfold opV
  clear b1
  go_enter Try.func172, Try.ntmps172
  go_wp2
  go_region_calls
  all_goals
    go_wp2
    go_end0
    rw [u16_mod]
    exact ⟨rfl, (d1.setCnt hr hc hm _).drew, (o1.set _ _).drew⟩
end Ops
end Go.Proofs.Ytajbmokidcdfnaa
/- do: an op of kind 16. -/
set_option linter.unusedVariables false
set_option linter.unusedSimpArgs false
namespace Go.Proofs.Ytajbmokidcdfnaa
open Go.RowKit
namespace Ops
open Bas Flat

set_option maxRecDepth 100000 in
set_option maxHeartbeats 6400000 in
theorem do16 (p : Nat) (vC vK vO : Value) (r : List Int) (t : Th) (a : Nat) (b c : Int) (ha : a < 4) (hr : r.length = 4) (hc : t.c.length = 8) (hm : t.m.length = 8) (W : World) (hd : Dn W p vC vK vO (nums r t)) :
    Calls Try.prog 172 #[.pointer (some ⟨p, 3, none⟩), opV 16 (a : Int) b c] W fun e W' => e = .returned (.tuple #[]) ∧ Dn W' p vC vK vO (nums (wr r (a : Int) t.n) t) ∧ Only p W W' := by
  obtain ⟨q, hqq⟩ : ∃ q, W.heap.size = q := ⟨_, rfl⟩
  have hp := hd.lt
  have X1 := Blk.new W #[.int .i64 16, .int .i64 (a : Int), .int .i64 b, .int .i64 c] 140
  have b1 := alloc_below W (.cells #[.int .i64 16, .int .i64 (a : Int), .int .i64 b, .int .i64 c] 140)
  have d1 := hd.on b1 hp
  have o1 : Only p W _ := Only.of b1
  rw [hqq] at X1 hp
  obtain ⟨W1, hW1⟩ : ∃ W1, W.alloc (.cells #[.int .i64 16, .int .i64 (a : Int), .int .i64 b, .int .i64 c] 140) = W1 := ⟨_, rfl⟩
  rw [hW1] at X1 d1 o1
  have c0 := X1.cell 0; have c1 := X1.cell 1; have c2 := X1.cell 2; have c3 := X1.cell 3
  have e1 := d1.reg hr ha
  have e2 := d1.cnt hr hc hm
  have f1 := d1.froz (3 + a)
  have i1 : (a : Int) < 4 := by omega
  unfold opV
  clear b1
  go_enter Try.func172, Try.ntmps172
  go_wp2
  go_region
  go_wp2
  go_end0
  exact ⟨rfl, (d1.setReg hr ha _).drew, (o1.set _ _).drew⟩
end Ops
end Go.Proofs.Ytajbmokidcdfnaa
/- do: every plain op. -/
set_option linter.unusedVariables false
set_option linter.unusedSimpArgs false
namespace Go.Proofs.Ytajbmokidcdfnaa
open Go.RowKit
namespace Ops
open Bas Flat

theorem spans_ok {o : O4} (h : okOp o = true) : ∃ s, spans o.k = some s ∧ inn s.1.1 s.1.2 o.a = true ∧ inn s.2.1.1 s.2.1.2 o.b = true ∧ inn s.2.2.1 s.2.2.2 o.c = true := by
  unfold okOp opOk at h
  cases hs : spans o.k with
  | none => rw [hs] at h; simp at h
  | some s =>
    rw [hs] at h
    obtain ⟨x, y, z⟩ := s
    simp only [Bool.and_eq_true] at h
    exact ⟨_, rfl, h.1.1, h.1.2, h.2⟩
set_option maxRecDepth 100000 in
theorem doPlain (p : Nat) (vC vK vO : Value) (r : List Int) (t : Th) (o : O4) (ho : okOp o = true) (hk : o.k ≤ 6 ∨ 12 ≤ o.k) (hr : regsOk r = true) (ht : thOk t = true) (W : World) (hd : Dn W p vC vK vO (nums r t)) :
    Calls Try.prog 172 #[.pointer (some ⟨p, 3, none⟩), o.val] W fun e W' => e = .returned (.tuple #[]) ∧ Dn W' p vC vK vO (nums (plainR o r t) (plainT o r t)) ∧ Only p W W' := by
  obtain ⟨s, hs, h1, h2, h3⟩ := spans_ok ho
  obtain ⟨l1, l2, l3⟩ := ok_len hr ht
  have hx := rd_all (lo := 0) (hi := 65535) (by omega) (regsOk_out hr).2
  have hn := (th_parts ht).2.2
  obtain ⟨k, a, b, c⟩ := o
  simp only at hk hs h1 h2 h3
  show Calls _ _ #[.pointer (some ⟨p, 3, none⟩), opV k a b c] W _
  rcases kinds k with rfl | rfl | rfl | rfl | rfl | rfl | rfl | rfl | rfl | rfl | rfl | rfl | rfl | rfl | rfl | rfl | hb
  · exact doCalc p vC vK vO r t 1 a b c (by omega) l1 l2 l3 W hd
  · exact doCalc p vC vK vO r t 2 a b c (by omega) l1 l2 l3 W hd
  · exact doCalc p vC vK vO r t 3 a b c (by omega) l1 l2 l3 W hd
  · exact doCalc p vC vK vO r t 4 a b c (by omega) l1 l2 l3 W hd
  · obtain rfl : ((0, 3), (0, 7), (0, 0)) = s := Option.some.inj hs
    obtain ⟨a, rfl, ha⟩ := nat_of h1 (Int.le_refl _)
    obtain ⟨b, rfl, hb⟩ := nat_of h2 (Int.le_refl _)
    simp only at ha hb
    exact do5 p vC vK vO r t a b c (by omega) (by omega) l1 l2 W hd
  · obtain rfl : ((0, 7), (0, 3), (0, 0)) = s := Option.some.inj hs
    obtain ⟨a, rfl, ha⟩ := nat_of h1 (Int.le_refl _)
    obtain ⟨b, rfl, hb⟩ := nat_of h2 (Int.le_refl _)
    simp only at ha hb
    exact do6 p vC vK vO r t a b c (by omega) (by omega) l1 l2 l3 W hd
  · omega
  · omega
  · omega
  · omega
  · omega
  · obtain rfl : ((0, 7), (0, 3), (0, 3)) = s := Option.some.inj hs
    obtain ⟨a, rfl, ha⟩ := nat_of h1 (Int.le_refl _)
    obtain ⟨b, rfl, hb⟩ := nat_of h2 (Int.le_refl _)
    obtain ⟨c, rfl, hc⟩ := nat_of h3 (Int.le_refl _)
    simp only at ha hb hc
    exact do12 p vC vK vO r t a b c (by omega) (by omega) (by omega) l1 l2 l3 (hx _) W hd
  · obtain rfl : ((0, 3), (0, 7), (0, 0)) = s := Option.some.inj hs
    obtain ⟨a, rfl, ha⟩ := nat_of h1 (Int.le_refl _)
    obtain ⟨b, rfl, hb⟩ := nat_of h2 (Int.le_refl _)
    simp only at ha hb
    exact do13 p vC vK vO r t a b c (by omega) (by omega) l1 l2 l3 W hd
  · obtain rfl : ((0, 7), (0, 3), (0, 0)) = s := Option.some.inj hs
    obtain ⟨a, rfl, ha⟩ := nat_of h1 (Int.le_refl _)
    obtain ⟨b, rfl, hb⟩ := nat_of h2 (Int.le_refl _)
    simp only at ha hb
    exact do14 p vC vK vO r t a b c (by omega) (by omega) l1 l2 l3 W hd
  · obtain rfl : ((0, 3), (0, 0), (0, 0)) = s := Option.some.inj hs
    obtain ⟨a, rfl, ha⟩ := nat_of h1 (Int.le_refl _)
    simp only at ha
    exact do15 p vC vK vO r t a b c (by omega) l1 l2 l3 hn (hx _) W hd
  · obtain rfl : ((0, 3), (0, 0), (0, 0)) = s := Option.some.inj hs
    obtain ⟨a, rfl, ha⟩ := nat_of h1 (Int.le_refl _)
    simp only at ha
    exact do16 p vC vK vO r t a b c (by omega) l1 l2 l3 W hd
  · rw [spans_none hb] at hs; cases hs
end Ops
end Go.Proofs.Ytajbmokidcdfnaa
/- What the program's DepthAt and HasFork answer. -/
set_option linter.unusedVariables false
set_option linter.unusedSimpArgs false
namespace Go.Proofs.Ytajbmokidcdfnaa
open Go.RowKit
namespace Ops
open Bas Flat

theorem retI {a b : Int} (h : a = b) : Ending.returned (.int .i64 a) = .returned (.int .i64 b) := by rw [h]
theorem retB {a b : Bool} (h : a = b) : Ending.returned (.bool a) = .returned (.bool b) := by rw [h]
theorem kindI (x : O4) : (x.k = 8 ∧ delta x = 1) ∨ (x.k = 9 ∧ delta x = -1) ∨ ((x.k == 8) = false ∧ (x.k == 9) = false ∧ delta x = 0) := by
  unfold delta
  by_cases h8 : x.k = 8
  · exact .inl ⟨h8, if_pos h8⟩
  · by_cases h9 : x.k = 9
    · exact .inr (.inl ⟨h9, by rw [if_neg h8, if_pos h9]⟩)
    · exact .inr (.inr ⟨by simp [h8], by simp [h9], by rw [if_neg h8, if_neg h9]⟩)
/-- the cells of the op at place k -/
theorem seeI {w : World} {b off : Nat} {xs : List O4} (hc : ∀ j (h : j < xs.length), At opEl w b (off + j * opEl.sz) xs[j]) (k : Nat) (hk : k < xs.length) :
    w.cell? ⟨b, off + k * 4, none⟩ = some (.int .i64 xs[k].k) ∧ w.cell? ⟨b, off + k * 4 + 1, none⟩ = some (.int .i64 xs[k].a) ∧ w.cell? ⟨b, off + k * 4 + 2, none⟩ = some (.int .i64 xs[k].b) ∧ w.cell? ⟨b, off + k * 4 + 3, none⟩ = some (.int .i64 xs[k].c) := at4 (hc k hk)

set_option maxRecDepth 100000 in
set_option maxHeartbeats 1600000 in
theorem forkImpl (v : Value) (xs : List O4) (B : Nat) (w : World) (hv : Sees4 B w v xs) (hB : B ≤ w.heap.size) (hlen : xs.length ≤ 1048576) :
    Calls Try.prog 116 #[v] w fun e w' => e = .returned (.bool (hasFork xs)) ∧ Below w.heap.size w w' := by
  obtain ⟨a, cap, rfl⟩ := hv.form
  obtain ⟨n, hn⟩ : ∃ n, xs.length = n := ⟨_, rfl⟩
  rw [hn] at hv hlen ⊢
  obtain ⟨g, hg⟩ : ∃ g, w.heap.size = g := ⟨_, rfl⟩
  rw [hg] at hB ⊢
  have hb0 : Below g w w := Below.refl _ _
  go_enter Try.func116, Try.ntmps116
  go_wp2
  go_loopw [7] (fun i' wr => ∃ k : Nat, k ≤ n ∧ i' = .int .i64 k ∧ (∀ j (h : j < xs.length), j < k → ¬ xs[j].k = 11) ∧ Below g w wr) (fun i' _ => n - (intOf i').toNat)
  case atStart => exact ⟨0, Nat.zero_le _, rfl, fun j _ h => by omega, hb0⟩
  case round =>
    obtain ⟨k, hk, rfl, hall, hb⟩ := hrel
    clear hb0
    have hsz : g ≤ wr.heap.size := by have := hb.size; omega
    by_cases hlt : k < n
    · obtain ⟨b, off, rfl, hbB, hc⟩ := (hv.on hb hB).open (by omega)
      obtain ⟨a0, a1, a2, a3⟩ := seeI hc k (by omega)
      have i1 : (k : Int) < n := by omega
      by_cases h11 : xs[k].k = 11
      · have HF : Hid (true = hasFork xs) := (hasFork_yes (by omega) h11).symm
        rw [h11] at a0
        obtain ⟨x, hx⟩ : ∃ x, xs[k] = x := ⟨_, rfl⟩
        rw [hx] at a1 a2 a3
        clear hc hall h11 hx
        go_wp2
        go_ret
        refine ⟨retB HF.out, ?_⟩
        exact hb.alloc hsz _
      · have HA : Hid (∀ j (h : j < xs.length), j < k + 1 → ¬ xs[j].k = 11) := fun j hj hjk => by
          rcases Nat.lt_succ_iff_lt_or_eq.1 hjk with h | h
          · exact hall j hj h
          · subst h; exact h11
        have d11 : (xs[k].k == 11) = false := by simp [h11]
        obtain ⟨x, hx⟩ : ∃ x, xs[k] = x := ⟨_, rfl⟩
        rw [hx] at a0 a1 a2 a3 d11
        clear hc hall h11 hx
        go_wp2
        go_roundw
        case rel => exact ⟨k + 1, by omega, by go_num, HA.out, hb.alloc hsz _⟩
        case measure => simp [intOf]; omega
    · have HF : Hid (false = hasFork xs) := (hasFork_no fun j hj => hall j hj (by omega)).symm
      have i1 : ¬ (k : Int) < n := by omega
      clear hall
      go_wp2
      go_ret
      exact ⟨retB HF.out, hb⟩

/-- where the range ends -/
theorem bound_of (xs : List O4) (i : Int) (n : Nat) (hn : xs.length = n) : ∃ t : Nat, t ≤ n ∧ depthAt xs i = dsum (xs.take t) ∧ ((i < 0 ∧ t = 0) ∨ (i = 0 ∧ t = 0) ∨ (0 < i ∧ i ≤ n ∧ i = t) ∨ ((n : Int) < i ∧ t = n ∧ 0 < n) ∨ (0 < i ∧ t = 0 ∧ n = 0)) := by
  unfold depthAt
  by_cases h0 : i < 0
  · exact ⟨0, by omega, by rw [show i.toNat = 0 by omega], .inl ⟨h0, rfl⟩⟩
  · by_cases h2 : i = 0
    · exact ⟨0, by omega, by rw [h2]; rfl, .inr (.inl ⟨h2, rfl⟩)⟩
    · by_cases hn0 : n = 0
      · exact ⟨0, by omega, by rw [List.take_of_length_le (by omega), List.take_of_length_le (by omega)], .inr (.inr (.inr (.inr ⟨by omega, rfl, hn0⟩)))⟩
      · by_cases h1 : i ≤ n
        · exact ⟨i.toNat, by omega, rfl, .inr (.inr (.inl ⟨by omega, h1, by omega⟩))⟩
        · exact ⟨n, by omega, by rw [List.take_of_length_le (by omega), List.take_of_length_le (by omega)], .inr (.inr (.inr (.inl ⟨by omega, rfl, by omega⟩)))⟩

end Ops
end Go.Proofs.Ytajbmokidcdfnaa
/- What step does, one theorem a kind of op. -/
set_option linter.unusedVariables false
set_option linter.unusedSimpArgs false
namespace Go.Proofs.Ytajbmokidcdfnaa
open Go.RowKit
namespace Ops
open Bas Flat

set_option maxRecDepth 100000 in
set_option maxHeartbeats 3200000 in
theorem stepK8 (B p : Nat) (vC vK vO : Value) (xs : List O4) (t0 : Th) (F : List Int → Th → List Int × Th) (Q : World → Prop) (hQ : Stays p Q) (hcode : codeOk xs = true) (s : Cf) (hs : CfOk xs s) (hp : s.pc < xs.length) (hk : xs[s.pc].k = 8)
    (hblock : ∀ W, Dc B W p vC vK vO xs s.r s.t → Q W → Calls Try.prog 170 #[.pointer (some ⟨p, 0, none⟩), .int .i64 (s.pc : Int)] W (StepTo B p vC vK vO xs t0 F s W))
    (W : World) (hd : Dc B W p vC vK vO xs s.r s.t) (hq : Q W) :
    Calls Try.prog 144 #[.pointer (some ⟨p, 0, none⟩), .int .i64 (s.pc : Int)] W (StepTo B p vC vK vO xs t0 F s W) := by
  obtain ⟨av, cv, rfl⟩ := hd.c.form
  have hlen := (code_four hcode).1
  have hgx := xs_at hp
  have hbl : B ≤ W.heap.size := by have := hd.hB; have := hd.d.lt; omega
  obtain ⟨b, off, rfl, hbB, hc⟩ := hd.c.open (by omega)
  obtain ⟨a0, a1, a2, a3⟩ := seeI hc s.pc hp
  have hok := code_at hcode hp
  obtain ⟨pc, hpc⟩ : ∃ pc, s.pc = pc := ⟨_, rfl⟩
  obtain ⟨n, hn⟩ : ∃ n, xs.length = n := ⟨_, rfl⟩
  obtain ⟨x, hx⟩ : ∃ x, xs[s.pc] = x := ⟨_, rfl⟩
  rw [hx] at a0 a1 a2 a3 hok
  have HX : Hid (xs[s.pc] = x) := hx
  have hkind : x.k = 8 := by rw [← hx]; exact hk
  rw [hpc] at a0 a1 a2 a3 ⊢
  rw [hn] at hd ⊢
  have i1 : (pc : Int) < n := by omega
  obtain ⟨q, hqq⟩ : ∃ q, W.heap.size = q := ⟨_, rfl⟩
  have hpl := hd.d.lt
  obtain ⟨kk, oa, ob, oc⟩ := x
  simp only at a0 a1 a2 a3 hkind
  have X1 := Blk.new W #[.int .i64 kk, .int .i64 oa, .int .i64 ob, .int .i64 oc] 140
  have b1 := alloc_below W (.cells #[.int .i64 kk, .int .i64 oa, .int .i64 ob, .int .i64 oc] 140)
  have d1 := hd.on b1 hpl
  have o1 : Only p W _ := Only.of b1
  have q1 := hQ _ _ hq o1
  rw [hqq] at X1 hpl
  have v0 := hd.d.code
  obtain ⟨W1, hW1⟩ : ∃ W1, W.alloc (.cells #[.int .i64 kk, .int .i64 oa, .int .i64 ob, .int .i64 oc] 140) = W1 := ⟨_, rfl⟩
  rw [hW1] at X1 d1 o1 q1
  have c0 := X1.cell 0; have c1 := X1.cell 1; have c2 := X1.cell 2; have c3 := X1.cell 3
  obtain ⟨l1, l2, l3⟩ := ok_len hs.r hs.t
  have hgs := hd.d
  have cB := hblock W1 (by rw [hn]; exact d1) q1
  rw [hpc, hn] at cB
  clear hblock
  subst hkind
  clear hx hc b1 hk
  go_enter Try.func144, Try.ntmps144
  go_wp2_with fail
  refine cB.mono ?_
  rintro e W2 (⟨i, r, t, rfl, h1, h2, h3, h4, h5⟩ | ⟨⟨h0, h⟩, h1⟩)
  · go_wp2
    go_ret
    exact .inl ⟨i, r, t, rfl, h1, h2, h3, h4, o1.trans h5⟩
  · rw [HX.out] at h; cases h
set_option maxRecDepth 100000 in
set_option maxHeartbeats 3200000 in
theorem stepK10 (B p : Nat) (vC vK vO : Value) (xs : List O4) (t0 : Th) (F : List Int → Th → List Int × Th) (Q : World → Prop) (hQ : Stays p Q) (hcode : codeOk xs = true) (s : Cf) (hs : CfOk xs s) (hp : s.pc < xs.length) (hk : xs[s.pc].k = 10)
    (W : World) (hd : Dc B W p vC vK vO xs s.r s.t) (hq : Q W) :
    Calls Try.prog 144 #[.pointer (some ⟨p, 0, none⟩), .int .i64 (s.pc : Int)] W (StepTo B p vC vK vO xs t0 F s W) := by
  obtain ⟨av, cv, rfl⟩ := hd.c.form
  have hlen := (code_four hcode).1
  have hgx := xs_at hp
  have hbl : B ≤ W.heap.size := by have := hd.hB; have := hd.d.lt; omega
  obtain ⟨b, off, rfl, hbB, hc⟩ := hd.c.open (by omega)
  obtain ⟨a0, a1, a2, a3⟩ := seeI hc s.pc hp
  have hok := code_at hcode hp
  obtain ⟨pc, hpc⟩ : ∃ pc, s.pc = pc := ⟨_, rfl⟩
  obtain ⟨n, hn⟩ : ∃ n, xs.length = n := ⟨_, rfl⟩
  obtain ⟨x, hx⟩ : ∃ x, xs[s.pc] = x := ⟨_, rfl⟩
  rw [hx] at a0 a1 a2 a3 hok
  have HX : Hid (xs[s.pc] = x) := hx
  have hkind : x.k = 10 := by rw [← hx]; exact hk
  rw [hpc] at a0 a1 a2 a3 ⊢
  rw [hn] at hd ⊢
  have i1 : (pc : Int) < n := by omega
  obtain ⟨q, hqq⟩ : ∃ q, W.heap.size = q := ⟨_, rfl⟩
  have hpl := hd.d.lt
  obtain ⟨kk, oa, ob, oc⟩ := x
  simp only at a0 a1 a2 a3 hkind
  have X1 := Blk.new W #[.int .i64 kk, .int .i64 oa, .int .i64 ob, .int .i64 oc] 140
  have b1 := alloc_below W (.cells #[.int .i64 kk, .int .i64 oa, .int .i64 ob, .int .i64 oc] 140)
  have d1 := hd.on b1 hpl
  have o1 : Only p W _ := Only.of b1
  have q1 := hQ _ _ hq o1
  rw [hqq] at X1 hpl
  have v0 := hd.d.code
  obtain ⟨W1, hW1⟩ : ∃ W1, W.alloc (.cells #[.int .i64 kk, .int .i64 oa, .int .i64 ob, .int .i64 oc] 140) = W1 := ⟨_, rfl⟩
  rw [hW1] at X1 d1 o1 q1
  have c0 := X1.cell 0; have c1 := X1.cell 1; have c2 := X1.cell 2; have c3 := X1.cell 3
  obtain ⟨l1, l2, l3⟩ := ok_len hs.r hs.t
  have hgs := hd.d
  subst hkind
  have hpan : Hid (∃ h : s.pc < xs.length, xs[s.pc].k = 10) := ⟨hp, by rw [HX.out]⟩
  have hbu : ∀ w : World, (Instr.makeInterface 175 (.agg #[])).run Try.prog w = .ok gave w := fun _ => by kernel_rfl
  clear hx hc b1 hk
  go_enter Try.func144, Try.ntmps144
  go_wp2
  refine ⟨rfl, .inr ⟨hpan.out, rfl, ?_, o1⟩⟩
  exact { d := d1.d, c := d1.c, hB := d1.hB }
set_option maxRecDepth 100000 in
set_option maxHeartbeats 3200000 in
theorem stepK7z (B p : Nat) (vC vK vO : Value) (xs : List O4) (t0 : Th) (F : List Int → Th → List Int × Th) (Q : World → Prop) (hQ : Stays p Q) (hcode : codeOk xs = true) (s : Cf) (hs : CfOk xs s) (hp : s.pc < xs.length) (hk : xs[s.pc].k = 7)
    (hz0 : ∀ x, xs[s.pc] = x → rd s.r x.a = 0)
    (W : World) (hd : Dc B W p vC vK vO xs s.r s.t) (hq : Q W) :
    Calls Try.prog 144 #[.pointer (some ⟨p, 0, none⟩), .int .i64 (s.pc : Int)] W (StepTo B p vC vK vO xs t0 F s W) := by
  obtain ⟨av, cv, rfl⟩ := hd.c.form
  have hlen := (code_four hcode).1
  have hgx := xs_at hp
  have hbl : B ≤ W.heap.size := by have := hd.hB; have := hd.d.lt; omega
  obtain ⟨b, off, rfl, hbB, hc⟩ := hd.c.open (by omega)
  obtain ⟨a0, a1, a2, a3⟩ := seeI hc s.pc hp
  have hok := code_at hcode hp
  obtain ⟨pc, hpc⟩ : ∃ pc, s.pc = pc := ⟨_, rfl⟩
  obtain ⟨n, hn⟩ : ∃ n, xs.length = n := ⟨_, rfl⟩
  obtain ⟨x, hx⟩ : ∃ x, xs[s.pc] = x := ⟨_, rfl⟩
  rw [hx] at a0 a1 a2 a3 hok
  have HX : Hid (xs[s.pc] = x) := hx
  have hkind : x.k = 7 := by rw [← hx]; exact hk
  rw [hpc] at a0 a1 a2 a3 ⊢
  rw [hn] at hd ⊢
  have i1 : (pc : Int) < n := by omega
  obtain ⟨q, hqq⟩ : ∃ q, W.heap.size = q := ⟨_, rfl⟩
  have hpl := hd.d.lt
  obtain ⟨kk, oa, ob, oc⟩ := x
  simp only at a0 a1 a2 a3 hkind
  have X1 := Blk.new W #[.int .i64 kk, .int .i64 oa, .int .i64 ob, .int .i64 oc] 140
  have b1 := alloc_below W (.cells #[.int .i64 kk, .int .i64 oa, .int .i64 ob, .int .i64 oc] 140)
  have d1 := hd.on b1 hpl
  have o1 : Only p W _ := Only.of b1
  have q1 := hQ _ _ hq o1
  rw [hqq] at X1 hpl
  have v0 := hd.d.code
  obtain ⟨W1, hW1⟩ : ∃ W1, W.alloc (.cells #[.int .i64 kk, .int .i64 oa, .int .i64 ob, .int .i64 oc] 140) = W1 := ⟨_, rfl⟩
  rw [hW1] at X1 d1 o1 q1
  have c0 := X1.cell 0; have c1 := X1.cell 1; have c2 := X1.cell 2; have c3 := X1.cell 3
  obtain ⟨l1, l2, l3⟩ := ok_len hs.r hs.t
  have hgs := hd.d
  subst hkind
  obtain ⟨sp, hsp, g1, g2, g3⟩ := spans_ok hok
  obtain rfl : ((0, 3), (1, 20), (0, 0)) = sp := Option.some.inj hsp
  obtain ⟨na, rfl, hna⟩ := nat_of g1 (Int.le_refl _)
  obtain ⟨nb, rfl, hnb⟩ := nat_of g2 (by simp)
  simp only at hna hnb
  have e1 := d1.d.reg l1 (by omega : na < 4)
  have i2 : (na : Int) < 4 := by omega
  have hp1 := step_plain (t0 := t0) (F := F) hcode hs hp (by rw [HX.out]; simp) (by rw [HX.out]; simp) (by rw [HX.out]; simp) (by rw [HX.out]; simp)
  rw [HX.out, hpc] at hp1
  obtain ⟨hp1, hp2, hp3⟩ := hp1
  have HL : Hid (Leads xs t0 F s _) := Leads.step hp hp1
  have HO : Hid (CfOk xs _) := hp2
  have hz : rd s.r (na : Int) = 0 := hz0 _ HX.out
  have HR : Hid (plainR ⟨7, (na : Int), (nb : Int), oc⟩ s.r s.t = s.r) := rfl
  have HT : Hid (plainT ⟨7, (na : Int), (nb : Int), oc⟩ s.r s.t = s.t) := rfl
  have HN : Hid (nextPc ⟨7, (na : Int), (nb : Int), oc⟩ s.r pc = pc + 1 + nb) := by
    show (if (7 : Int) = 7 ∧ rd s.r (na : Int) = 0 then pc + 1 + ((nb : Nat) : Int).toNat else pc + 1) = _
    rw [if_pos ⟨rfl, hz⟩]; simp
  rw [hz] at e1
  clear hx hc b1 hk
  go_enter Try.func144, Try.ntmps144
  go_wp2
  go_region
  go_wp2
  go_ret
  refine .inl ⟨pc + 1 + nb, s.r, s.t, by go_num, by omega, ?_, ?_, ?_, o1.drew⟩
  · have := HL.out; rw [HR.out, HT.out, HN.out] at this; exact this
  · have := HO.out; rw [HR.out, HT.out, HN.out] at this; exact this
  · exact { d := d1.d, c := d1.c, hB := d1.hB }
set_option maxRecDepth 100000 in
set_option maxHeartbeats 3200000 in
theorem stepK7n (B p : Nat) (vC vK vO : Value) (xs : List O4) (t0 : Th) (F : List Int → Th → List Int × Th) (Q : World → Prop) (hQ : Stays p Q) (hcode : codeOk xs = true) (s : Cf) (hs : CfOk xs s) (hp : s.pc < xs.length) (hk : xs[s.pc].k = 7)
    (hz0 : ∀ x, xs[s.pc] = x → (rd s.r x.a == 0) = false)
    (W : World) (hd : Dc B W p vC vK vO xs s.r s.t) (hq : Q W) :
    Calls Try.prog 144 #[.pointer (some ⟨p, 0, none⟩), .int .i64 (s.pc : Int)] W (StepTo B p vC vK vO xs t0 F s W) := by
  obtain ⟨av, cv, rfl⟩ := hd.c.form
  have hlen := (code_four hcode).1
  have hgx := xs_at hp
  have hbl : B ≤ W.heap.size := by have := hd.hB; have := hd.d.lt; omega
  obtain ⟨b, off, rfl, hbB, hc⟩ := hd.c.open (by omega)
  obtain ⟨a0, a1, a2, a3⟩ := seeI hc s.pc hp
  have hok := code_at hcode hp
  obtain ⟨pc, hpc⟩ : ∃ pc, s.pc = pc := ⟨_, rfl⟩
  obtain ⟨n, hn⟩ : ∃ n, xs.length = n := ⟨_, rfl⟩
  obtain ⟨x, hx⟩ : ∃ x, xs[s.pc] = x := ⟨_, rfl⟩
  rw [hx] at a0 a1 a2 a3 hok
  have HX : Hid (xs[s.pc] = x) := hx
  have hkind : x.k = 7 := by rw [← hx]; exact hk
  rw [hpc] at a0 a1 a2 a3 ⊢
  rw [hn] at hd ⊢
  have i1 : (pc : Int) < n := by omega
  obtain ⟨q, hqq⟩ : ∃ q, W.heap.size = q := ⟨_, rfl⟩
  have hpl := hd.d.lt
  obtain ⟨kk, oa, ob, oc⟩ := x
  simp only at a0 a1 a2 a3 hkind
  have X1 := Blk.new W #[.int .i64 kk, .int .i64 oa, .int .i64 ob, .int .i64 oc] 140
  have b1 := alloc_below W (.cells #[.int .i64 kk, .int .i64 oa, .int .i64 ob, .int .i64 oc] 140)
  have d1 := hd.on b1 hpl
  have o1 : Only p W _ := Only.of b1
  have q1 := hQ _ _ hq o1
  rw [hqq] at X1 hpl
  have v0 := hd.d.code
  obtain ⟨W1, hW1⟩ : ∃ W1, W.alloc (.cells #[.int .i64 kk, .int .i64 oa, .int .i64 ob, .int .i64 oc] 140) = W1 := ⟨_, rfl⟩
  rw [hW1] at X1 d1 o1 q1
  have c0 := X1.cell 0; have c1 := X1.cell 1; have c2 := X1.cell 2; have c3 := X1.cell 3
  obtain ⟨l1, l2, l3⟩ := ok_len hs.r hs.t
  have hgs := hd.d
  subst hkind
  obtain ⟨sp, hsp, g1, g2, g3⟩ := spans_ok hok
  obtain rfl : ((0, 3), (1, 20), (0, 0)) = sp := Option.some.inj hsp
  obtain ⟨na, rfl, hna⟩ := nat_of g1 (Int.le_refl _)
  obtain ⟨nb, rfl, hnb⟩ := nat_of g2 (by simp)
  simp only at hna hnb
  have e1 := d1.d.reg l1 (by omega : na < 4)
  have i2 : (na : Int) < 4 := by omega
  have hp1 := step_plain (t0 := t0) (F := F) hcode hs hp (by rw [HX.out]; simp) (by rw [HX.out]; simp) (by rw [HX.out]; simp) (by rw [HX.out]; simp)
  rw [HX.out, hpc] at hp1
  obtain ⟨hp1, hp2, hp3⟩ := hp1
  have HL : Hid (Leads xs t0 F s _) := Leads.step hp hp1
  have HO : Hid (CfOk xs _) := hp2
  have hz : (rd s.r (na : Int) == 0) = false := hz0 _ HX.out
  have HR : Hid (plainR ⟨7, (na : Int), (nb : Int), oc⟩ s.r s.t = s.r) := rfl
  have HT : Hid (plainT ⟨7, (na : Int), (nb : Int), oc⟩ s.r s.t = s.t) := rfl
  have HN : Hid (nextPc ⟨7, (na : Int), (nb : Int), oc⟩ s.r pc = pc + 1) := by
    show (if (7 : Int) = 7 ∧ rd s.r (na : Int) = 0 then pc + 1 + ((nb : Nat) : Int).toNat else pc + 1) = _
    rw [if_neg (fun h => by rw [h.2] at hz; cases hz)]
  obtain ⟨y, hy⟩ : ∃ y, rd s.r (na : Int) = y := ⟨_, rfl⟩
  rw [hy] at e1 hz
  clear hy
  clear hx hc b1 hk
  go_enter Try.func144, Try.ntmps144
  go_wp2
  go_region
  go_wp2
  go_ret
  refine .inl ⟨pc + 1, s.r, s.t, by go_num, by omega, ?_, ?_, ?_, o1.drew⟩
  · have := HL.out; rw [HR.out, HT.out, HN.out] at this; exact this
  · have := HO.out; rw [HR.out, HT.out, HN.out] at this; exact this
  · exact { d := d1.d, c := d1.c, hB := d1.hB }
set_option maxRecDepth 100000 in
set_option maxHeartbeats 3200000 in
theorem stepK11 (B p : Nat) (vC vK vO : Value) (xs : List O4) (t0 : Th) (F : List Int → Th → List Int × Th) (Q : World → Prop) (hQ : Stays p Q) (hcode : codeOk xs = true) (s : Cf) (hs : CfOk xs s) (hp : s.pc < xs.length) (hk : xs[s.pc].k = 11)
    (hF : ForkOk F) (hfork : ∀ W, Dc B W p vC vK vO xs s.r s.t → Q W → Calls Try.prog 171 #[.pointer (some ⟨p, 0, none⟩)] W fun e W' => e = .returned (.tuple #[]) ∧ Dc B W' p vC vK vO xs (F s.r s.t).1 (F s.r s.t).2 ∧ Only p W W')
    (W : World) (hd : Dc B W p vC vK vO xs s.r s.t) (hq : Q W) :
    Calls Try.prog 144 #[.pointer (some ⟨p, 0, none⟩), .int .i64 (s.pc : Int)] W (StepTo B p vC vK vO xs t0 F s W) := by
  obtain ⟨av, cv, rfl⟩ := hd.c.form
  have hlen := (code_four hcode).1
  have hgx := xs_at hp
  have hbl : B ≤ W.heap.size := by have := hd.hB; have := hd.d.lt; omega
  obtain ⟨b, off, rfl, hbB, hc⟩ := hd.c.open (by omega)
  obtain ⟨a0, a1, a2, a3⟩ := seeI hc s.pc hp
  have hok := code_at hcode hp
  obtain ⟨pc, hpc⟩ : ∃ pc, s.pc = pc := ⟨_, rfl⟩
  obtain ⟨n, hn⟩ : ∃ n, xs.length = n := ⟨_, rfl⟩
  obtain ⟨x, hx⟩ : ∃ x, xs[s.pc] = x := ⟨_, rfl⟩
  rw [hx] at a0 a1 a2 a3 hok
  have HX : Hid (xs[s.pc] = x) := hx
  have hkind : x.k = 11 := by rw [← hx]; exact hk
  rw [hpc] at a0 a1 a2 a3 ⊢
  rw [hn] at hd ⊢
  have i1 : (pc : Int) < n := by omega
  obtain ⟨q, hqq⟩ : ∃ q, W.heap.size = q := ⟨_, rfl⟩
  have hpl := hd.d.lt
  obtain ⟨kk, oa, ob, oc⟩ := x
  simp only at a0 a1 a2 a3 hkind
  have X1 := Blk.new W #[.int .i64 kk, .int .i64 oa, .int .i64 ob, .int .i64 oc] 140
  have b1 := alloc_below W (.cells #[.int .i64 kk, .int .i64 oa, .int .i64 ob, .int .i64 oc] 140)
  have d1 := hd.on b1 hpl
  have o1 : Only p W _ := Only.of b1
  have q1 := hQ _ _ hq o1
  rw [hqq] at X1 hpl
  have v0 := hd.d.code
  obtain ⟨W1, hW1⟩ : ∃ W1, W.alloc (.cells #[.int .i64 kk, .int .i64 oa, .int .i64 ob, .int .i64 oc] 140) = W1 := ⟨_, rfl⟩
  rw [hW1] at X1 d1 o1 q1
  have c0 := X1.cell 0; have c1 := X1.cell 1; have c2 := X1.cell 2; have c3 := X1.cell 3
  obtain ⟨l1, l2, l3⟩ := ok_len hs.r hs.t
  have hgs := hd.d
  have cB := hfork W1 (by rw [hn]; exact d1) q1
  rw [hn] at cB
  clear hfork
  subst hkind
  obtain ⟨hp1, hp2⟩ := step_fork (t0 := t0) hF hs hp (by rw [HX.out])
  rw [hpc] at hp1 hp2
  have HL : Hid (Leads xs t0 F s _) := Leads.step hp hp1
  have HO : Hid (CfOk xs _) := hp2
  clear hx hc b1 hk
  go_enter Try.func144, Try.ntmps144
  go_wp2_with fail
  refine cB.mono ?_
  rintro e W2 ⟨rfl, d2, o2⟩
  go_wp2
  go_ret
  exact .inl ⟨pc + 1, _, _, by go_num, by omega, HL.out, HO.out, d2, o1.trans o2⟩
set_option maxRecDepth 100000 in
set_option maxHeartbeats 3200000 in
theorem stepKp (B p : Nat) (vC vK vO : Value) (xs : List O4) (t0 : Th) (F : List Int → Th → List Int × Th) (Q : World → Prop) (hQ : Stays p Q) (hcode : codeOk xs = true) (s : Cf) (hs : CfOk xs s) (hp : s.pc < xs.length) (hk : xs[s.pc].k ≤ 6 ∨ 12 ≤ xs[s.pc].k)
    (W : World) (hd : Dc B W p vC vK vO xs s.r s.t) (hq : Q W) :
    Calls Try.prog 144 #[.pointer (some ⟨p, 0, none⟩), .int .i64 (s.pc : Int)] W (StepTo B p vC vK vO xs t0 F s W) := by
  obtain ⟨av, cv, rfl⟩ := hd.c.form
  have hlen := (code_four hcode).1
  have hgx := xs_at hp
  have hbl : B ≤ W.heap.size := by have := hd.hB; have := hd.d.lt; omega
  obtain ⟨b, off, rfl, hbB, hc⟩ := hd.c.open (by omega)
  obtain ⟨a0, a1, a2, a3⟩ := seeI hc s.pc hp
  have hok := code_at hcode hp
  obtain ⟨pc, hpc⟩ : ∃ pc, s.pc = pc := ⟨_, rfl⟩
  obtain ⟨n, hn⟩ : ∃ n, xs.length = n := ⟨_, rfl⟩
  obtain ⟨x, hx⟩ : ∃ x, xs[s.pc] = x := ⟨_, rfl⟩
  rw [hx] at a0 a1 a2 a3 hok
  have HX : Hid (xs[s.pc] = x) := hx
  have hkind : x.k ≤ 6 ∨ 12 ≤ x.k := by rw [← hx]; exact hk
  rw [hpc] at a0 a1 a2 a3 ⊢
  rw [hn] at hd ⊢
  have i1 : (pc : Int) < n := by omega
  obtain ⟨q, hqq⟩ : ∃ q, W.heap.size = q := ⟨_, rfl⟩
  have hpl := hd.d.lt
  obtain ⟨kk, oa, ob, oc⟩ := x
  simp only at a0 a1 a2 a3 hkind
  have X1 := Blk.new W #[.int .i64 kk, .int .i64 oa, .int .i64 ob, .int .i64 oc] 140
  have b1 := alloc_below W (.cells #[.int .i64 kk, .int .i64 oa, .int .i64 ob, .int .i64 oc] 140)
  have d1 := hd.on b1 hpl
  have o1 : Only p W _ := Only.of b1
  have q1 := hQ _ _ hq o1
  rw [hqq] at X1 hpl
  have v0 := hd.d.code
  obtain ⟨W1, hW1⟩ : ∃ W1, W.alloc (.cells #[.int .i64 kk, .int .i64 oa, .int .i64 ob, .int .i64 oc] 140) = W1 := ⟨_, rfl⟩
  rw [hW1] at X1 d1 o1 q1
  have c0 := X1.cell 0; have c1 := X1.cell 1; have c2 := X1.cell 2; have c3 := X1.cell 3
  obtain ⟨l1, l2, l3⟩ := ok_len hs.r hs.t
  have hgs := hd.d
  have cB := doPlain p (.slice (some ⟨b, off, none⟩) n cv) vK vO s.r s.t ⟨kk, oa, ob, oc⟩ hok hkind hs.r hs.t W1.drew d1.d.drew
  have hp1 := step_plain (t0 := t0) (F := F) hcode hs hp (by rw [HX.out]; show ¬ kk = 8; omega) (by rw [HX.out]; show ¬ kk = 9; omega) (by rw [HX.out]; show ¬ kk = 10; omega) (by rw [HX.out]; show ¬ kk = 11; omega)
  rw [HX.out, hpc] at hp1
  obtain ⟨hp1, hp2, hp3⟩ := hp1
  have HL : Hid (Leads xs t0 F s _) := Leads.step hp hp1
  have HO : Hid (CfOk xs _) := hp2
  have HN : Hid (nextPc ⟨kk, oa, ob, oc⟩ s.r pc = pc + 1) := by
    show (if kk = 7 ∧ _ then _ else _) = _
    rw [if_neg (by omega)]
  have n8 : (kk == 8) = false := by simp; omega
  have n10 : (kk == 10) = false := by simp; omega
  have n7 : (kk == 7) = false := by simp; omega
  have n11 : (kk == 11) = false := by simp; omega
  have eV : O4.val ⟨kk, oa, ob, oc⟩ = .agg #[.int .i64 kk, .int .i64 oa, .int .i64 ob, .int .i64 oc] := rfl
  rw [eV] at cB
  obtain ⟨R, hR⟩ : ∃ R, plainR ⟨kk, oa, ob, oc⟩ s.r s.t = R := ⟨_, rfl⟩
  obtain ⟨T, hT⟩ : ∃ T, plainT ⟨kk, oa, ob, oc⟩ s.r s.t = T := ⟨_, rfl⟩
  rw [hR, hT] at cB HL HO
  clear hR hT hkind hp1 hp2
  clear hx hc b1 hk
  go_enter Try.func144, Try.ntmps144
  go_wp2_with fail
  go_region_with (go_at_call 172; refine cB.mono ?_; rintro e W2 ⟨rfl, d2, o2⟩)
  have o3 := o1.drew.trans o2
  have dF : Dc B W2 p (.slice (some ⟨b, off, none⟩) n cv) vK vO xs R T := { d := d2, c := d1.drew.code o2, hB := hd.hB }
  go_wp2
  go_ret
  refine .inl ⟨pc + 1, R, T, by go_num, by omega, ?_, ?_, dF, o3⟩
  · have := HL.out; rw [HN.out] at this; exact this
  · have := HO.out; rw [HN.out] at this; exact this
end Ops
end Go.Proofs.Ytajbmokidcdfnaa
/- The program's stack of blocks in memory. -/
set_option linter.unusedVariables false
set_option linter.unusedSimpArgs false
namespace Go.Proofs.Ytajbmokidcdfnaa
open Go.RowKit
namespace Ops
open Bas Flat

def bEl : El B2 where
  sz := 2
  cells x := [.int .i64 x.b, .int .i64 x.d]
  len _ := rfl
  one x v hv := by simp at hv; rcases hv with rfl | rfl <;> rfl
  pos := by decide
def zB : B2 := ⟨0, 0⟩
theorem rowB : Row Try.prog bEl 169 200 (.agg #[.int .i64 0, .int .i64 0]) zB 16 := ⟨Try.underlying169, by kernel_rfl, rfl, by decide⟩
theorem rowO : Row Try.prog bEl 197 200 (.agg #[.int .i64 0, .int .i64 0]) zB 16 := ⟨Try.underlying197, by kernel_rfl, rfl, by decide⟩
abbrev OwnsB (B : Nat) (w : World) (v : Value) (xs : List B2) : Prop := Owns bEl 200 B w v xs
theorem atB {w : World} {b o : Nat} {x : B2} (h : At bEl w b o x) : w.cell? ⟨b, o, none⟩ = some (.int .i64 x.b) ∧ w.cell? ⟨b, o + 1, none⟩ = some (.int .i64 x.d) := ⟨h 0 _ rfl, h 1 _ rfl⟩
theorem seesOneB (W : World) (x : B2) (t : TypeId) : Sees bEl (W.heap.size + 1) (W.alloc (.cells #[.int .i64 x.b, .int .i64 x.d] t)) (.slice (some ⟨W.heap.size, 0, none⟩) 1 1) [x] :=
  ⟨_, 1, rfl, by simp, by unfold maxLen; omega, fun _ => ⟨W.heap.size, 0, rfl, by omega, fun j hj => by
    have hj0 : j = 0 := by simpa using hj
    subst hj0
    intro i u hu
    have hb : Blk (W.alloc (.cells #[.int .i64 x.b, .int .i64 x.d] t)) W.heap.size #[.int .i64 x.b, .int .i64 x.d] t := Blk.new W _ _
    simp only [Nat.zero_mul, Nat.zero_add]
    rw [hb.cell]
    change [Value.int .i64 x.b, .int .i64 x.d][i]? = some u at hu
    simpa using hu⟩⟩
theorem grown_allocd {W W' : World} {o : Obj} {row : Option Nat} (h : (W.alloc o).grownBy W' row) : W.grownBy W' row :=
  ⟨h.os, h.tape, h.output, Nat.le_trans (by simp) h.size, fun k hk hne => (h.block k (by simp; omega) hne).trans (Below.heap_alloc W o k hk)⟩
/-- append(v, x) -/
theorem pushB {t : TypeId} (R : Row Try.prog bEl t 200 (.agg #[.int .i64 0, .int .i64 0]) zB 16) (v : Value) (xs : List B2) (B : Nat) (w : World) (h : OwnsB B w v xs) (hB : B ≤ w.heap.size) (hlen : xs.length ≤ 4000000) (x : B2) :
    ∃ v' w', (Builtin.append_ #[t, t] t #[v, .slice (some ⟨w.heap.size, 0, none⟩) 1 1]).run Try.prog (w.alloc (.cells #[.int .i64 x.b, .int .i64 x.d] 200)) = .ok v' w' ∧ OwnsB B w' v' (xs ++ [x]) ∧ w.grownBy w' v.ownBlock ∧ (∀ k, v'.ownBlock = some k → v.ownBlock = some k ∨ w.heap.size ≤ k) := by
  obtain ⟨v', w', hr, hO, hG, hl⟩ := app R v _ t xs [x] _ B (w.alloc (.cells #[.int .i64 x.b, .int .i64 x.d] 200)) (h.on (alloc_below w _) (Nat.le_refl _)) (by simp; omega) (seesOneB w x _) (by simp; omega)
  refine ⟨v', w', hr, hO, grown_allocd hG, fun k hk => ?_⟩
  rcases hl k hk with h | h
  · exact .inl h
  · simp at h; exact .inr (by omega)
/-- the last one of a row that is owned -/
theorem popB {B g n cap : Nat} {w : World} {xs : List B2} {x : B2} (h : OwnsB B w (.slice (some ⟨g, 0, none⟩) (n + 1) cap) (xs ++ [x])) (hn : xs.length = n) : OwnsB B w (.slice (some ⟨g, 0, none⟩) n cap) xs := by
  obtain ⟨h1, h2⟩ := h
  rcases h2 with ⟨h', _⟩ | ⟨g', cap', cur, h', hb, hg, h3, h4, h5, h6⟩
  · cases h'
  · simp only [Value.slice.injEq, Option.some.injEq, Addr.mk.injEq, and_true] at h'
    obtain ⟨rfl, hl, rfl⟩ := h'
    refine ⟨by rw [fv_length], .inr ⟨g, cap, cur, by rw [hn], hb, hg, by omega, h4, h5, ?_⟩⟩
    have := congrArg (List.take (xs.length * bEl.sz)) h6
    rw [List.take_take, Nat.min_eq_left (Nat.mul_le_mul_right _ (by simp)), fv_append, List.take_append_of_le_length (by rw [fv_length]; exact Nat.le_refl _)] at this
    rw [this]
    exact List.take_of_length_le (by rw [fv_length]; exact Nat.le_refl _)

theorem fieldB0 (x y : Value) (W : World) : (Instr.field 200 (.agg #[x, y]) 0).run Try.prog W = .ok x W := by simp [Instr.field, asAgg, go_sem]
theorem fieldB1 (x y : Value) (W : World) : (Instr.field 200 (.agg #[x, y]) 1).run Try.prog W = .ok y W := by simp [Instr.field, asAgg, go_sem]

set_option maxRecDepth 100000 in
theorem noneC (w : World) : Calls Try.prog 166 #[] w fun e w' => ∃ v', e = .returned v' ∧ OwnsB w.heap.size w' v' (stk [-1]) ∧ Below w.heap.size w w' := by
  go_enter Try.func166, Try.ntmps166
  go_wp2
  go_ret
  exact ⟨_, rfl, World.ownsRow_lit w #[.int .i64 (-1), .int .i64 0] 1 (Nat.le_refl _) (by simp [maxLen]) rfl, alloc_below w _⟩

set_option maxRecDepth 100000 in
theorem begunC (v : Value) (s : List Int) (x : Int) (B : Nat) (w : World) (h : OwnsB B w v (stk s)) (hB : B ≤ w.heap.size) (hlen : s.length ≤ 2000000) :
    Calls Try.prog 168 #[v, .int .i64 x] w fun e w' => ∃ v', e = .returned v' ∧ OwnsB B w' v' (stk (x :: s)) ∧ w.grownBy w' v.ownBlock ∧ (∀ k, v'.ownBlock = some k → v.ownBlock = some k ∨ w.heap.size ≤ k) := by
  obtain ⟨v', w', hr, hO, hG, hl⟩ := pushB rowO v (stk s) B w h hB (by rw [stk_length]; omega) ⟨x, s.length⟩
  obtain ⟨a, cap, rfl⟩ := h.form
  rw [stk_length] at hr hG hl ⊢
  go_enter Try.func168, Try.ntmps168
  go_wp2_with (at_builtin; refine wpList_app _ rfl _ _ 197 rfl _ _ _ _ rfl rfl hr ?_)
  go_ret
  exact ⟨_, rfl, hO, hG, hl⟩

set_option maxRecDepth 100000 in
theorem innerC (v : Value) (x : Int) (r : List Int) (B : Nat) (w : World) (h : Sees bEl B w v (stk (x :: r))) (hB : B ≤ w.heap.size) :
    Calls Try.prog 167 #[v] w fun e w' => e = .returned (.agg #[.int .i64 x, .int .i64 r.length]) ∧ Below w.heap.size w w' := by
  have hr := h.room
  obtain ⟨a, cap, rfl⟩ := h.form
  obtain ⟨b, off, rfl, hb, hc⟩ := h.open (by rw [stk_length]; simp)
  have h0 := hc r.length (by rw [stk_length]; simp)
  rw [stk_last] at h0
  obtain ⟨a0, a1⟩ := atB h0
  rw [stk_length, List.length_cons] at hr ⊢
  obtain ⟨n, hn⟩ : ∃ n, r.length = n := ⟨_, rfl⟩
  rw [hn] at a0 a1 hr ⊢
  change w.cell? ⟨b, off + n * 2, none⟩ = _ at a0
  change w.cell? ⟨b, off + n * 2 + 1, none⟩ = _ at a1
  have q1 : ((n + 1 : Nat) : Int) ≤ 9223372036854775807 := by unfold maxLen at hr; omega
  have q2 : ((n + 1 : Nat) : Int) - 1 = n := by omega
  have a0 := ((alloc_below w (.cells #[.int .i64 0, .int .i64 0] 200)).cell (p := ⟨b, off + n * 2, none⟩) (by show b < w.heap.size; omega)).trans a0
  have a1 := ((alloc_below w (.cells #[.int .i64 0, .int .i64 0] 200)).cell (p := ⟨b, off + n * 2 + 1, none⟩) (by show b < w.heap.size; omega)).trans a1
  clear hc h0 hr
  go_enter Try.func167, Try.ntmps167
  go_wp2
  refine bodyPost_ret (v := .agg #[.int .i64 x, .int .i64 n]) (by simp [results, Try.results167, go_sem]) rfl ⟨rfl, ?_⟩
  exact alloc_below w _

set_option maxRecDepth 100000 in
theorem endedC (v : Value) (x : Int) (r : List Int) (B : Nat) (w : World) (h : OwnsB B w v (stk (x :: r))) :
    Calls Try.prog 169 #[v] w fun e w' => ∃ v', e = .returned v' ∧ OwnsB B w v' (stk r) ∧ v'.ownBlock = v.ownBlock ∧ w = w' := by
  have hr := h.sees.room
  obtain ⟨n, hn⟩ : ∃ n, r.length = n := ⟨_, rfl⟩
  have hl : (stk r).length = n := by rw [stk_length]; exact hn
  obtain ⟨g, cap, hv, hcap⟩ : ∃ g cap, v = .slice (some ⟨g, 0, none⟩) (n + 1) cap ∧ n + 1 ≤ cap := by
    obtain ⟨-, h2⟩ := h
    rw [stk_length, List.length_cons, hn] at h2
    rcases h2 with ⟨_, h'⟩ | ⟨g', cap', cur, h', hb, hg, h3, _⟩
    · omega
    · exact ⟨g', cap', h', h3⟩
  subst hv
  have h' := popB h hl
  rw [stk_length, List.length_cons, hn] at hr
  have q1 : ((n + 1 : Nat) : Int) ≤ 9223372036854775807 := by unfold maxLen at hr; omega
  have q2 : ((n + 1 : Nat) : Int) - 1 = n := by omega
  have q3 : (n : Int) ≤ cap := by omega
  clear hr
  go_enter Try.func169, Try.ntmps169
  go_wp2
  go_ret
  exact ⟨_, rfl, h', rfl, rfl⟩
end Ops
end Go.Proofs.Ytajbmokidcdfnaa
