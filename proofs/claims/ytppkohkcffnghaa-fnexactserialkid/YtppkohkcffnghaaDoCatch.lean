/- The closure that recovers, and what reaches leaves by its door. -/
import Derived.Test.YtppkohkcffnghaaDoRow
set_option linter.unusedVariables false
set_option linter.unusedSimpArgs false
namespace Go.Proofs.Ytppkohkcffnghaa
open Go.RowKit
namespace Ops
open Bas Flat

theorem ta_gave (w : World) : (Instr.typeAssert gave 20 144 true).run Try.prog w = .ok (.tuple #[.agg #[], .bool true]) w := by kernel_rfl
theorem ta_nil (w : World) : (Instr.typeAssert .nilIface 20 144 true).run Try.prog w = .ok (.tuple #[.agg #[], .bool false]) w := by kernel_rfl
theorem ne_gave (w : World) : (binOp .neq 20 gave .nilIface).run Try.prog w = .ok (.bool true) w := by kernel_rfl
theorem ne_nil (w : World) : (binOp .neq 20 .nilIface .nilIface).run Try.prog w = .ok (.bool false) w := by kernel_rfl
theorem eq_gave (w : World) : (binOp .eql 20 gave .nilIface).run Try.prog w = .ok (.bool false) w := by kernel_rfl
theorem eq_nil (w : World) : (binOp .eql 20 .nilIface .nilIface).run Try.prog w = .ok (.bool true) w := by kernel_rfl
theorem rep18 : Array.replicate 18 undef = #[undef, undef, undef, undef, undef, undef, undef, undef, undef, undef, undef, undef, undef, undef, undef, undef, undef, undef] := rfl

set_option maxRecDepth 100000 in
set_option maxHeartbeats 1600000 in
/-- a frame that gives up: the panic is taken, and the result says so -/
theorem catchPanic (q : Nat) (w : World) (b : Bool) (hc : w.cell? ⟨q, 0, none⟩ = some (.bool b)) (hz : w.frozen? ⟨q, 0, none⟩ = false) :
    CallsD Try.prog 113 #[.pointer (some ⟨q, 0, none⟩)] (.panicking ({ v := gave, recovered := false } :: [])) w fun e u' w' =>
      e = .returned (.tuple #[]) ∧ u' = .panicking ({ v := gave, recovered := true } :: []) ∧ w' = (w.alloc (.cells #[] 144)).setCell ⟨q, 0, none⟩ (.bool false) := by
  have hq := World.block_lt_of_cell? w _ hc
  have hc2 : (w.alloc (.cells #[] 144)).cell? ⟨q, 0, none⟩ = some (.bool b) := by rw [World.cell?_alloc_lt _ _ _ hq]; exact hc
  have hz2 : (w.alloc (.cells #[] 144)).frozen? ⟨q, 0, none⟩ = false := by rw [World.frozen?_alloc_past _ _ _ hq]; exact hz
  clear hc hz hq
  refine callsD_of_wpS Try.func113 rfl fun c₀ cs hu => ?_
  apply wpS_seq
  apply wpS_region
  simp [wpOpsS, go_sem, recoverD, hu, Try.ntmps113, Exit.thenS, rep18]
  have h1 := fun w => ta_gave w
  have h2 := fun w => ne_gave w
  have h3 := fun w => eq_gave w
  have hz0 : ∀ w : World, (zeroValue 144).run Try.prog w = .ok (.agg #[]) w := fun _ => by kernel_rfl
  refine wpS_of_wp ?_
  go_wp2
  simp [bodyPostS, results, Try.results113]
set_option maxRecDepth 100000 in
set_option maxHeartbeats 1600000 in
/-- a frame that returns: the result says so -/
theorem catchIdle (q : Nat) (w : World) (b : Bool) (hc : w.cell? ⟨q, 0, none⟩ = some (.bool b)) (hz : w.frozen? ⟨q, 0, none⟩ = false) :
    CallsD Try.prog 113 #[.pointer (some ⟨q, 0, none⟩)] .returning w fun e u' w' =>
      e = .returned (.tuple #[]) ∧ u' = .returning ∧ w' = (w.alloc (.cells #[] 144)).setCell ⟨q, 0, none⟩ (.bool true) := by
  have hq := World.block_lt_of_cell? w _ hc
  have hc2 : (w.alloc (.cells #[] 144)).cell? ⟨q, 0, none⟩ = some (.bool b) := by rw [World.cell?_alloc_lt _ _ _ hq]; exact hc
  have hz2 : (w.alloc (.cells #[] 144)).frozen? ⟨q, 0, none⟩ = false := by rw [World.frozen?_alloc_past _ _ _ hq]; exact hz
  clear hc hz hq
  refine callsD_of_wpS Try.func113 rfl fun c₀ cs hu => ?_
  apply wpS_seq
  apply wpS_region
  simp [wpOpsS, go_sem, recoverD, hu, Try.ntmps113, Exit.thenS, rep18]
  have h1 := fun w => ta_nil w
  have h2 := fun w => ne_nil w
  have h3 := fun w => eq_nil w
  have hz0 : ∀ w : World, (zeroValue 144).run Try.prog w = .ok (.agg #[]) w := fun _ => by kernel_rfl
  refine wpS_of_wp ?_
  go_wp2
  cases c₀
  simp_all [bodyPostS, results, Try.results113]
end Ops
end Go.Proofs.Ytppkohkcffnghaa
