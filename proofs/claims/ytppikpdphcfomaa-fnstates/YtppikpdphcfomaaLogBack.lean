/- What the program's Last answers: slices.Backward over rows, its closure, and the loop over it. -/
import Derived.RangeFuncNested
import Derived.RangeFuncBound
import Derived.RangeFuncCalls
import Derived.RangeFuncLeaves
import Derived.Shelf.Abstract
import Derived.WalkKit
import Derived.OwnWalkIn
import Derived.TacticsInMore
import Derived.LoopNIn
import Derived.LoopIn
import Derived.Test.YtppikpdphcfomaaLogImpl
set_option linter.unusedVariables false
set_option linter.unusedSimpArgs false
namespace Go.Proofs.Ytppikpdphcfomaa
open Go.RowKit Go.Shelf
namespace Logs
open Bas Flat

attribute [local go_sem] Oper.semAt_some

/-- what has come when k rounds are over: from the last row down -/
def upto (xs : List R2) (k : Nat) : List (Int × R2) := (List.range k).map fun j => (((xs.length - 1 - j : Nat) : Int), xs.getD (xs.length - 1 - j) z2)
theorem upto_zero (xs : List R2) : upto xs 0 = [] := rfl
theorem upto_succ (xs : List R2) (k : Nat) : upto xs (k + 1) = upto xs k ++ [(((xs.length - 1 - k : Nat) : Int), xs.getD (xs.length - 1 - k) z2)] := by simp [upto, List.range_succ]
theorem upto_length (xs : List R2) (k : Nat) : (upto xs k).length = k := by simp [upto]

set_option maxRecDepth 100000 in
set_option maxHeartbeats 2000000 in
/-- the closure: for every loop body that keeps what lay below n₀ -/
theorem back1 (F : Fence) (n : Nat) (h7 : F.fn 102) (hro : F.round = none) (hn : 1 ≤ n) (l Bs n₀ : Nat) (a : Option Addr) (len cap : Nat) (xs : List R2) (hlen : xs.length = len) (hmax : len ≤ 1000000) (J Jx : List (Int × R2) → World → Prop)
    (hY : ∀ pre x W, J pre W → pre.length < len → YieldAt F (n - 1) Try.prog l #[.int .i64 x.1, .agg #[.int .i64 x.2.c, .int .i64 x.2.v]] W fun e W' =>
      (e = .returned (.bool true) ∧ J (pre ++ [x]) W' ∧ Below n₀ W W') ∨ (e = .returned (.bool false) ∧ Jx (pre ++ [x]) W'))
    (W : World) (hBs : W.cell? ⟨Bs, 0, none⟩ = some (.slice a len cap)) (hBn : Bs < n₀) (hv : Sees2 n₀ W (.slice a len cap) xs) (h0 : J [] W) :
    CallsIn F n Try.prog 102 #[.func (.yield l) #[] #[], .pointer (some ⟨Bs, 0, none⟩)] W fun e W' => (∃ v, e = .returned v) ∧
      ((∃ ys, ys = upto xs len ∧ J ys W') ∨ (∃ pre, (∃ k, k ≤ len ∧ pre = upto xs k) ∧ Jx pre W')) := by
  refine callsIn_of_wp Try.func102 rfl h7 ?_ hro
  simp only [Try.ntmps102, List.size_toArray, List.length_cons, List.length_nil, Nat.reduceAdd, Nat.reduceSub, Array.replicate_succ, Array.replicate_zero, List.push_toArray, List.append_toArray, List.nil_append, List.cons_append]
  gi_wp2
  gi_loopw [3] (fun i wr => ∃ k : Nat, k ≤ len ∧ i = .int .i64 ((len : Int) - 1 - (k : Int)) ∧ J (upto xs k) wr ∧ Below n₀ W wr)
    (fun i _ => (intOf i + 1).toNat)
  case atStart => exact ⟨0, Nat.zero_le _, by simp, h0, Below.refl _ _⟩
  case round =>
    obtain ⟨k, hk, rfl, hJs, hnx⟩ := hrel
    have hBs2 : wr.cell? ⟨Bs, 0, none⟩ = some (.slice a len cap) := (hnx.cell (p := ⟨Bs, 0, none⟩) hBn).trans hBs
    by_cases hlt : k < len
    · obtain ⟨b, off, rfl, hb, hc⟩ := (hv.on hnx (Nat.le_refl _)).open (by omega)
      obtain ⟨j, hj⟩ : ∃ j, len - 1 - k = j := ⟨_, rfl⟩
      have hjl : j < xs.length := by omega
      obtain ⟨a0, a1⟩ := at2 (hc j hjl)
      have e1 : (len : Int) - 1 - (k : Int) = (j : Int) := by omega
      have hU : upto xs (k + 1) = upto xs k ++ [((j : Int), xs[j])] := by
        rw [upto_succ, hlen, hj]
        simp [List.getD, hjl]
      obtain ⟨x, hx⟩ : ∃ x, xs[j] = x := ⟨_, rfl⟩
      rw [hx] at a0 a1 hU
      change wr.cell? ⟨b, off + j * 2, none⟩ = _ at a0
      change wr.cell? ⟨b, off + j * 2 + 1, none⟩ = _ at a1
      obtain ⟨fn, tmps, assign, body, hy, hR⟩ := hY _ ((j : Int), x) wr hJs (by rw [upto_length]; exact hlt)
      rw [e1]
      dsimp only at hy
      have i1 : (j : Int) < len := by omega
      have i0 : (0 : Int) ≤ j := by omega
      have i2 : (j : Int) ≤ 1000000 := by omega
      have HJ : Hid (len - 1 - k = j) := hj
      clear hc hx hj e1
      gi_wp2
      refine hR.mono ?_
      rintro e W3 (⟨rfl, hJ3, hk3⟩ | ⟨rfl, hJx3⟩)
      · gi_wp2
        go_roundw
        case rel => exact ⟨k + 1, by omega, by have := HJ.out; congr 1 <;> omega, by rw [hU]; exact hJ3, hnx.trans hk3⟩
        case measure => have := HJ.out; simp [intOf, wrap64]
      · gi_wp2
        refine bodyPost_ret (results_none rfl _ _ _) rfl ?_
        exact ⟨⟨_, rfl⟩, .inr ⟨_, ⟨k + 1, by omega, hU.symm⟩, hJx3⟩⟩
    · obtain rfl : k = len := by omega
      have e1 : (k : Int) - 1 - (k : Int) = -1 := by omega
      rw [e1]
      gi_wp2
      go_end0
      exact ⟨⟨_, rfl⟩, .inl ⟨_, rfl, hJs⟩⟩

set_option maxHeartbeats 1000000 in
theorem back_in (F : Fence) (n : Nat) (h5 : F.fn 81) (hro : F.round = none) (a : Option Addr) (len cap : Nat) (w : World) :
    CallsIn F n Try.prog 81 #[.slice a len cap] w fun e w' => e = .returned (.func (.func 102) #[] #[.pointer (some ⟨w.heap.size, 0, none⟩)]) ∧ w' = w.alloc (.cells #[.slice a len cap] 31) := by
  refine callsIn_of_wp Try.func81 rfl h5 ?_ hro
  simp only [Try.ntmps81, List.size_toArray, List.length_cons, List.length_nil, Nat.reduceAdd, Nat.reduceSub, Array.replicate_succ, Array.replicate_zero, List.push_toArray, List.append_toArray, List.nil_append, List.cons_append]
  gi_wp2
  go_ret
  exact ⟨rfl, rfl⟩

/-- what Backward hands back stops: all rows from the last down, or some of them -/
theorem back_stops (F : Fence) (n : Nat) (h7 : F.fn 102) (hro : F.round = none) (hn : 1 ≤ n) (Bs n₀ : Nat) (a : Option Addr) (len cap : Nat) (xs : List R2) (hlen : xs.length = len) (hmax : len ≤ 1000000) (w : World) (hBs : Bs < n₀) (hn₀ : n₀ ≤ w.heap.size)
    (hc : w.cell? ⟨Bs, 0, none⟩ = some (.slice a len cap)) (hv : Sees2 n₀ w (.slice a len cap) xs) :
    SeqStopsK F n Try.prog 102 #[.pointer (some ⟨Bs, 0, none⟩)] (fun x : Int × R2 => #[Value.int .i64 x.1, .agg #[.int .i64 x.2.c, .int .i64 x.2.v]]) (Below n₀) (fun ys => ys = upto xs len) (fun pre => ∃ k, k ≤ len ∧ pre = upto xs k) len w := fun l J Jx W hW _ _ hY h0 =>
  back1 F n h7 hro hn l Bs n₀ a len cap xs hlen hmax J Jx hY W ((hW.cell (p := ⟨Bs, 0, none⟩) (Nat.lt_of_lt_of_le hBs hn₀)).trans hc) hBs (hv.on (hW.mono hn₀) (Nat.le_refl _)) h0

/-- a block of a row -/
def RowBox (W : World) (B : Nat) (x : R2) : Prop := W.heap[B]? = some (.cells #[.int .i64 x.c, .int .i64 x.v] 87 (0, 0))
theorem RowBox.cells {W : World} {B : Nat} {x : R2} (h : RowBox W B x) : W.cell? ⟨B, 0, none⟩ = some (.int .i64 x.c) ∧ W.cell? ⟨B, 1, none⟩ = some (.int .i64 x.v) :=
  ⟨(show Blk W B #[.int .i64 x.c, .int .i64 x.v] 87 from h).cell 0, (show Blk W B #[.int .i64 x.c, .int .i64 x.v] 87 from h).cell 1⟩
theorem rowBox_own (B : Nat) (x : R2) : Own (fun (_ : Unit) W => RowBox W B x) := fun s X Y row hs hg hrow => by
  have hs' : RowBox X B x := hs
  have hlt : B < X.heap.size := (Array.getElem?_eq_some_iff.1 hs').1
  exact (hg.block B hlt (fun e' => by obtain ⟨o, ho, hc⟩ := hrow B e'.symm; rw [show X.heap[B]? = _ from hs'] at ho; cases ho; cases hc)).trans hs'
theorem find_upto {xs : List R2} {c : Int} : ∀ k, k ≤ xs.length → (∀ p ∈ upto xs k, p.2.c ≠ c) → lastV xs c = lastV (xs.take (xs.length - k)) c
  | 0, _, _ => by rw [Nat.sub_zero, List.take_of_length_le (Nat.le_refl _)]
  | k + 1, hk, h => by
    have ih := find_upto (xs := xs) (c := c) k (by omega) (fun p hp => h p (by rw [upto_succ]; exact List.mem_append_left _ hp))
    rw [ih]
    have hj : xs.length - 1 - k < xs.length := by omega
    have e : xs.length - k = (xs.length - 1 - k) + 1 := by omega
    have hne := h (((xs.length - 1 - k : Nat) : Int), xs.getD (xs.length - 1 - k) z2) (by rw [upto_succ]; simp)
    have hg : xs.getD (xs.length - 1 - k) z2 = xs[xs.length - 1 - k] := by simp [List.getD, hj]
    rw [hg] at hne
    rw [e, lastV_take xs c _ hj, if_neg hne, show xs.length - (k + 1) = xs.length - 1 - k by omega]
theorem find_none {xs : List R2} {c : Int} (h : ∀ p ∈ upto xs xs.length, p.2.c ≠ c) : lastV xs c = none := by
  rw [find_upto xs.length (Nat.le_refl _) h, Nat.sub_self]; rfl
theorem find_some {xs : List R2} {c : Int} {k : Nat} {ini : List (Int × R2)} {y : Int × R2} (hk : k ≤ xs.length) (e : upto xs k = ini ++ [y]) (h : ∀ p ∈ ini, p.2.c ≠ c) (hy : y.2.c = c) : lastV xs c = some y.2.v := by
  cases k with
  | zero => rw [upto_zero] at e; simp at e
  | succ k =>
    rw [upto_succ] at e
    obtain ⟨e1, e2⟩ := List.append_inj' e rfl
    have e3 : (((xs.length - 1 - k : Nat) : Int), xs.getD (xs.length - 1 - k) z2) = y := by simpa using e2
    subst e1
    rw [find_upto (xs := xs) (c := c) k (by omega) h]
    have hj : xs.length - 1 - k < xs.length := by omega
    have hg : xs.getD (xs.length - 1 - k) z2 = xs[xs.length - 1 - k] := by simp [List.getD, hj]
    rw [hg] at e3
    rw [show xs.length - k = (xs.length - 1 - k) + 1 by omega, lastV_take xs c _ hj]
    rw [← e3] at hy ⊢
    rw [if_pos hy]
end Logs
end Go.Proofs.Ytppikpdphcfomaa
