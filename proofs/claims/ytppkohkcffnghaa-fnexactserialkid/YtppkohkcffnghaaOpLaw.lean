/- The laws of OpOk and Touches. -/
import Derived.Test.YtppkohkcffnghaaOpSpec
import Derived.Test.YtppkohkcffnghaaOpImpl
namespace Go.Proofs.Ytppkohkcffnghaa
open Go.RowKit
namespace Ops
open Bas

set_option maxRecDepth 100000 in
set_option maxHeartbeats 800000 in
theorem toOpC (k a b c : Int) (w : World) : Calls Try.prog 84 #[opV k a b c] w fun e w' => e = .returned (opV k a b c) ∧ Below w.heap.size w w' := by
  show Calls _ _ #[.agg #[.int .i64 k, .int .i64 a, .int .i64 b, .int .i64 c]] _ (fun e w' => e = .returned (.agg #[.int .i64 k, .int .i64 a, .int .i64 b, .int .i64 c]) ∧ _)
  go_enter Try.func84, Try.ntmps84
  go_wp2
  refine bodyPost_ret (v := .agg #[.int .i64 k, .int .i64 a, .int .i64 b, .int .i64 c]) (by simp [results, Try.results84, go_sem]) rfl ⟨rfl, ?_⟩
  exact (((Below.refl _ _).alloc (Nat.le_refl _) _).alloc (by simp) _).alloc (by simp; omega) _

/-- what Touches says -/
def touches (k a b c : Int) : Int := if opOk k a b c = true then (if k = 5 ∨ k = 6 then 1 else if k = 12 ∨ k = 13 ∨ k = 14 ∨ k = 15 ∨ k = 16 then 2 else 0) else 0

set_option maxRecDepth 100000 in
set_option maxHeartbeats 1600000 in
theorem touchImpl (k a b c : Int) (w : World) : Calls Try.prog 94 #[opV k a b c] w fun e w' => e = .returned (.int .i64 (touches k a b c)) ∧ Below w.heap.size w w' := by
  have c0 := implC k a b c (w.alloc (.cells #[.int .i64 k, .int .i64 a, .int .i64 b, .int .i64 c] 30))
  have b0 := alloc_below w (.cells #[.int .i64 k, .int .i64 a, .int .i64 b, .int .i64 c] 30)
  have O0 := Blk.new w #[.int .i64 k, .int .i64 a, .int .i64 b, .int .i64 c] 30
  unfold touches
  obtain ⟨p, hp⟩ : ∃ p, opOk k a b c = p := ⟨_, rfl⟩
  rw [hp] at c0 ⊢
  clear hp
  unfold opV at c0 ⊢
  cases p
  · go_enter Try.func94, Try.ntmps94
    go_wp2_with fail
    refine c0.mono ?_
    rintro e w1 ⟨rfl, b1⟩
    go_wp2
    go_ret
    exact ⟨rfl, b0.trans (b1.mono b0.size)⟩
  · by_cases hk : k = 5 ∨ k = 6 ∨ k = 12 ∨ k = 13 ∨ k = 14 ∨ k = 15 ∨ k = 16
    · rcases hk with rfl | rfl | rfl | rfl | rfl | rfl | rfl
      all_goals
        go_enter Try.func94, Try.ntmps94
        go_wp2_with fail
        refine c0.mono ?_
        rintro e w1 ⟨rfl, b1⟩
        have k0 := (O0.on b1 O0.lt).cell 0
        go_wp2
        go_ret
        exact ⟨rfl, b0.trans (b1.mono b0.size)⟩
    · have e0 : (if (k = 5 ∨ k = 6) then (1 : Int) else if (k = 12 ∨ k = 13 ∨ k = 14 ∨ k = 15 ∨ k = 16) then 2 else 0) = 0 := by rw [if_neg (by omega), if_neg (by omega)]
      rw [e0]
      have d5 : (k == 5) = false := by simp; omega
      have d6 : (k == 6) = false := by simp; omega
      have d12 : (k == 12) = false := by simp; omega
      have d13 : (k == 13) = false := by simp; omega
      have d14 : (k == 14) = false := by simp; omega
      have d15 : (k == 15) = false := by simp; omega
      have d16 : (k == 16) = false := by simp; omega
      clear hk e0
      go_enter Try.func94, Try.ntmps94
      go_wp2_with fail
      refine c0.mono ?_
      rintro e w1 ⟨rfl, b1⟩
      have k0 := (O0.on b1 O0.lt).cell 0
      go_wp2
      go_ret
      exact ⟨rfl, b0.trans (b1.mono b0.size)⟩

set_option maxRecDepth 100000 in
set_option maxHeartbeats 1600000 in
theorem touchSpec (k a b c : Int) (w : World) : Calls Try.prog 52 #[opV k a b c] w fun e w' => e = .returned (.int .i64 (touches k a b c)) ∧ Below w.heap.size w w' := by
  have c0 := specC k a b c (w.alloc (.cells #[.int .i64 k, .int .i64 a, .int .i64 b, .int .i64 c] 30))
  have b0 := alloc_below w (.cells #[.int .i64 k, .int .i64 a, .int .i64 b, .int .i64 c] 30)
  have O0 := Blk.new w #[.int .i64 k, .int .i64 a, .int .i64 b, .int .i64 c] 30
  unfold touches
  obtain ⟨p, hp⟩ : ∃ p, opOk k a b c = p := ⟨_, rfl⟩
  rw [hp] at c0 ⊢
  clear hp
  unfold opV at c0 ⊢
  cases p
  · go_enter Try.func52, Try.ntmps52
    go_wp2_with fail
    refine c0.mono ?_
    rintro e w1 ⟨rfl, b1⟩
    go_wp2
    go_ret
    exact ⟨rfl, b0.trans (b1.mono b0.size)⟩
  · by_cases hk : k = 5 ∨ k = 6 ∨ k = 12 ∨ k = 13 ∨ k = 14 ∨ k = 15 ∨ k = 16
    · rcases hk with rfl | rfl | rfl | rfl | rfl | rfl | rfl
      all_goals
        go_enter Try.func52, Try.ntmps52
        go_wp2_with fail
        refine c0.mono ?_
        rintro e w1 ⟨rfl, b1⟩
        have k0 := (O0.on b1 O0.lt).cell 0
        go_wp2
        go_ret
        exact ⟨rfl, b0.trans (b1.mono b0.size)⟩
    · have e0 : (if (k = 5 ∨ k = 6) then (1 : Int) else if (k = 12 ∨ k = 13 ∨ k = 14 ∨ k = 15 ∨ k = 16) then 2 else 0) = 0 := by rw [if_neg (by omega), if_neg (by omega)]
      rw [e0]
      have d5 : (k == 5) = false := by simp; omega
      have d6 : (k == 6) = false := by simp; omega
      have d12 : (k == 12) = false := by simp; omega
      have d13 : (k == 13) = false := by simp; omega
      have d14 : (k == 14) = false := by simp; omega
      have d15 : (k == 15) = false := by simp; omega
      have d16 : (k == 16) = false := by simp; omega
      clear hk e0
      go_enter Try.func52, Try.ntmps52
      go_wp2_with fail
      refine c0.mono ?_
      rintro e w1 ⟨rfl, b1⟩
      have k0 := (O0.on b1 O0.lt).cell 0
      go_wp2
      go_ret
      exact ⟨rfl, b0.trans (b1.mono b0.size)⟩

end Ops
end Go.Proofs.Ytppkohkcffnghaa
