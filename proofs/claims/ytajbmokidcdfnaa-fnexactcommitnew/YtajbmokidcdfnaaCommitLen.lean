/- How many steps a phase has, as written and as specified; the cells of rows. -/
import Derived.Test.YtajbmokidcdfnaaCommitCmp
set_option linter.unusedVariables false
set_option linter.unusedSimpArgs false
namespace Go.Proofs.Ytajbmokidcdfnaa
open Go.RowKit
namespace Commits
open Bas Flat Logs

def stepsS (c : Cm) : Int := if c.ph = 1 ∨ c.ph = 4 ∨ c.ph = 5 ∨ c.ph = 7 then c.ps.length else if c.ph = 3 then c.rs.length else 1
theorem steps_same {c : Cm} (h : 1 ≤ c.ph ∧ c.ph ≤ 8) : stepsS c = c.steps := by
  unfold stepsS Cm.steps
  split
  · rfl
  · split
    · rfl
    · rw [if_pos (by omega)]
theorem steps_of {c : Cm} {n : Int} (h : c.steps = n) : Ending.returned (.int .i64 n) = .returned (.int .i64 c.steps) := by rw [h]
theorem stepsS_of {c : Cm} {n : Int} (h : stepsS c = n) : Ending.returned (.int .i64 n) = .returned (.int .i64 (stepsS c)) := by rw [h]
theorem ph_cases (x : Int) : x = 1 ∨ x = 2 ∨ x = 3 ∨ x = 4 ∨ x = 5 ∨ x = 6 ∨ x = 7 ∨ x = 8 ∨ (x < 1 ∨ 8 < x) := by omega

set_option maxRecDepth 100000 in
set_option maxHeartbeats 3200000 in
theorem lenC (c : Cm) (a a' : Option Addr) (k k' : Nat) (w : World) :
    Calls Try.prog 53 #[c.agg (.slice a c.ps.length k) (.slice a' c.rs.length k')] w fun e w' => e = .returned (.int .i64 (stepsS c)) ∧ Below w.heap.size w w' := by
  obtain ⟨c0, c1, ph, c3, c4, ps, rs⟩ := c
  have HS : Hid (∀ n, stepsS ⟨c0, c1, ph, c3, c4, ps, rs⟩ = n → Ending.returned (.int .i64 n) = .returned (.int .i64 (stepsS ⟨c0, c1, ph, c3, c4, ps, rs⟩))) := fun n h => stepsS_of h
  have HD : Hid (stepsS ⟨c0, c1, ph, c3, c4, ps, rs⟩ = if ph = 1 ∨ ph = 4 ∨ ph = 5 ∨ ph = 7 then (ps.length : Int) else if ph = 3 then rs.length else 1) := by show _ = _; rfl
  obtain ⟨s, hs⟩ : ∃ s, stepsS ⟨c0, c1, ph, c3, c4, ps, rs⟩ = s := ⟨_, rfl⟩
  show Calls _ _ #[.agg #[.int .i64 c0, .int .i64 c1, .int .i64 ph, .int .i64 c3, .int .i64 c4, .slice a ps.length k, .slice a' rs.length k']] _ _
  rw [hs] at HS HD ⊢
  obtain ⟨n, hn⟩ : ∃ n, ps.length = n := ⟨_, rfl⟩
  obtain ⟨m, hm⟩ : ∃ m, rs.length = m := ⟨_, rfl⟩
  rw [hn, hm] at HD ⊢
  clear hs hn hm HS
  have X0 := Blk.new w #[.int .i64 c0, .int .i64 c1, .int .i64 ph, .int .i64 c3, .int .i64 c4, .slice a n k, .slice a' m k'] 30
  have b0 := alloc_below w (.cells #[.int .i64 c0, .int .i64 c1, .int .i64 ph, .int .i64 c3, .int .i64 c4, .slice a n k, .slice a' m k'] 30)
  obtain ⟨w0, hw0⟩ : ∃ w0, w.alloc (.cells #[.int .i64 c0, .int .i64 c1, .int .i64 ph, .int .i64 c3, .int .i64 c4, .slice a n k, .slice a' m k'] 30) = w0 := ⟨_, rfl⟩
  rw [hw0] at X0 b0
  have x2 := X0.cell 2; have x5 := X0.cell 5; have x6 := X0.cell 6
  clear X0
  rcases ph_cases ph with rfl | rfl | rfl | rfl | rfl | rfl | rfl | rfl | h
  case inr.inr.inr.inr.inr.inr.inr.inr =>
    have d1 : (ph == 1) = false := by simp; omega
    have d4 : (ph == 4) = false := by simp; omega
    have d5 : (ph == 5) = false := by simp; omega
    have d7 : (ph == 7) = false := by simp; omega
    have d3 : (ph == 3) = false := by simp; omega
    have HE : Hid (s = 1) := by show _ = _; rw [HD.out, if_neg (by omega), if_neg (by omega)]
    clear h
    go_enter Try.func53, Try.ntmps53
    go_wp2
    go_ret
    exact ⟨by rw [HE.out]; rfl, b0⟩
  all_goals
    go_enter Try.func53, Try.ntmps53
    go_wp2
    go_ret
    exact ⟨by rw [HD.out]; simp, b0⟩
set_option maxRecDepth 100000 in
set_option maxHeartbeats 3200000 in
theorem stepsC (c : Cm) (a a' : Option Addr) (k k' : Nat) (w : World) :
    Calls Try.prog 59 #[c.agg (.slice a c.ps.length k) (.slice a' c.rs.length k')] w fun e w' => e = .returned (.int .i64 c.steps) ∧ Below w.heap.size w w' := by
  obtain ⟨c0, c1, ph, c3, c4, ps, rs⟩ := c
  have HD : Hid ((⟨c0, c1, ph, c3, c4, ps, rs⟩ : Cm).steps = if ph = 1 ∨ ph = 4 ∨ ph = 5 ∨ ph = 7 then (ps.length : Int) else if ph = 3 then rs.length else if ph = 2 ∨ ph = 6 ∨ ph = 8 then 1 else 0) := by show _ = _; rfl
  obtain ⟨s, hs⟩ : ∃ s, (⟨c0, c1, ph, c3, c4, ps, rs⟩ : Cm).steps = s := ⟨_, rfl⟩
  show Calls _ _ #[.agg #[.int .i64 c0, .int .i64 c1, .int .i64 ph, .int .i64 c3, .int .i64 c4, .slice a ps.length k, .slice a' rs.length k']] _ _
  rw [hs] at HD ⊢
  obtain ⟨n, hn⟩ : ∃ n, ps.length = n := ⟨_, rfl⟩
  obtain ⟨m, hm⟩ : ∃ m, rs.length = m := ⟨_, rfl⟩
  rw [hn, hm] at HD ⊢
  clear hs hn hm
  have X0 := Blk.new w #[.int .i64 c0, .int .i64 c1, .int .i64 ph, .int .i64 c3, .int .i64 c4, .slice a n k, .slice a' m k'] 30
  have b0 := alloc_below w (.cells #[.int .i64 c0, .int .i64 c1, .int .i64 ph, .int .i64 c3, .int .i64 c4, .slice a n k, .slice a' m k'] 30)
  obtain ⟨w0, hw0⟩ : ∃ w0, w.alloc (.cells #[.int .i64 c0, .int .i64 c1, .int .i64 ph, .int .i64 c3, .int .i64 c4, .slice a n k, .slice a' m k'] 30) = w0 := ⟨_, rfl⟩
  rw [hw0] at X0 b0
  have x2 := X0.cell 2; have x5 := X0.cell 5; have x6 := X0.cell 6
  clear X0
  rcases ph_cases ph with rfl | rfl | rfl | rfl | rfl | rfl | rfl | rfl | h
  case inr.inr.inr.inr.inr.inr.inr.inr =>
    have d1 : (ph == 1) = false := by simp; omega
    have d4 : (ph == 4) = false := by simp; omega
    have d5 : (ph == 5) = false := by simp; omega
    have d7 : (ph == 7) = false := by simp; omega
    have d3 : (ph == 3) = false := by simp; omega
    have d2 : (ph == 2) = false := by simp; omega
    have d6 : (ph == 6) = false := by simp; omega
    have d8 : (ph == 8) = false := by simp; omega
    have HE : Hid (s = 0) := by show _ = _; rw [HD.out, if_neg (by omega), if_neg (by omega), if_neg (by omega)]
    clear h
    go_enter Try.func59, Try.ntmps59
    go_wp2
    go_ret
    exact ⟨by rw [HE.out]; rfl, b0⟩
  all_goals
    go_enter Try.func59, Try.ntmps59
    go_wp2
    go_ret
    exact ⟨by rw [HD.out]; simp, b0⟩

theorem cells_take (ps : List R2) (k : Nat) (h : k < ps.length) : (cellsP ps).take (k + 1) = (cellsP ps).take k ++ [ps[k].c] := by
  unfold cellsP
  rw [List.take_succ_eq_append_getElem (by simpa using h)]; simp
set_option maxRecDepth 100000 in
set_option maxHeartbeats 3200000 in
theorem rowCellsC (v : Value) (ps : List R2) (B : Nat) (w : World) (hv : Sees2 B w v ps) (hB : B ≤ w.heap.size) (hlen : ps.length ≤ 1048576) :
    Calls Try.prog 58 #[v] w fun e w' => ∃ v', e = .returned v' ∧ Ints.Owns w.heap.size w' v' (cellsP ps) ∧ Below w.heap.size w w' := by
  obtain ⟨a, cap, rfl⟩ := hv.form
  obtain ⟨g, hg⟩ : ∃ g, w.heap.size = g := ⟨_, rfl⟩
  obtain ⟨n, hn⟩ : ∃ n, ps.length = n := ⟨_, rfl⟩
  rw [hg] at hB ⊢
  rw [hn] at hv hlen ⊢
  have u0 : Ints.Owns g w (.slice none 0 0) [] := Ints.own_nil _ _
  have b0 : Below g w w := Below.refl _ _
  have HN := (show Hid _ from hn)
  have hlI : (n : Int) ≤ 1048576 := by omega
  clear hn
  go_enter Try.func58, Try.ntmps58
  go_wp2
  go_loopw [3, 8] (fun ov iv wr => ∃ (k cx : Nat) (ax : Option Addr), k ≤ n ∧ iv = .int .i64 k ∧ ov = .slice ax k cx ∧ Ints.Owns g wr (.slice ax k cx) ((cellsP ps).take k) ∧ Below g w wr) (fun _ iv _ => n - (intOf iv).toNat)
  case atStart => exact ⟨0, _, _, Nat.zero_le _, rfl, rfl, by simpa using u0, b0⟩
  case round =>
    obtain ⟨k, cx, ax, hk, rfl, rfl, O, hb⟩ := hrel
    clear u0 b0
    have hsz : g ≤ wr.heap.size := by have := hb.size; omega
    by_cases hlt : k < n
    · have hkm : k < ps.length := by rw [HN.out]; exact hlt
      obtain ⟨b, off, rfl, hbB, hc⟩ := (hv.on hb hB).open (by omega)
      obtain ⟨a0, a1⟩ := at2 (hc k hkm)
      have i1 : (k : Int) < n := by omega
      have i0 : (0 : Int) ≤ k := by omega
      have HE : Hid ((cellsP ps).take (k + 1) = (cellsP ps).take k ++ [ps[k].c]) := cells_take ps k hkm
      have hl : ((cellsP ps).take k).length = k := by unfold cellsP; rw [List.length_take, List.length_map]; omega
      have hl1 : ((cellsP ps).take (k + 1)).length = k + 1 := by unfold cellsP; rw [List.length_take, List.length_map]; omega
      obtain ⟨x, hx⟩ : ∃ x, ps[k] = x := ⟨_, rfl⟩
      rw [hx] at a0 a1 HE
      change wr.cell? ⟨b, off + k * 2, none⟩ = _ at a0
      change wr.cell? ⟨b, off + k * 2 + 1, none⟩ = _ at a1
      have bA := alloc_below wr (.cells #[.int .i64 x.c, .int .i64 x.v] 88)
      have X0 := Blk.new wr #[.int .i64 x.c, .int .i64 x.v] 88
      have OA := O.on bA (Nat.le_refl _)
      have bA' := hb.trans (bA.mono hsz)
      obtain ⟨wA, hwA⟩ : ∃ W, wr.alloc (.cells #[.int .i64 x.c, .int .i64 x.v] 88) = W := ⟨_, rfl⟩
      rw [hwA] at OA bA' X0
      have x0 := X0.cell 0
      have hsA : g ≤ wA.heap.size := by have := bA'.size; omega
      obtain ⟨v3, w3, hr3, O3, G3, L3⟩ := pushI _ _ g wA OA hsA (by omega) x.c
      rw [← HE.out] at O3
      have b3 := bA'.grown G3 hsA (fun q hq => (OA.at q hq).1)
      obtain ⟨a3, c3, rfl⟩ := O3.form
      rw [hl1] at O3 hr3 L3
      clear hc hx hl hl1 bA X0
      go_wp2_with (at_builtin; refine wpList_app _ rfl _ _ 23 rfl _ _ _ _ rfl rfl hr3 ?_)
      clear hr3
      go_roundw
      case rel => exact ⟨k + 1, _, _, by omega, by go_num, rfl, O3, b3⟩
      case measure => simp [intOf]; omega
    · obtain rfl : k = n := by omega
      have i1 : ¬ (k : Int) < k := by omega
      have hf : (cellsP ps).take k = cellsP ps := List.take_of_length_le (by unfold cellsP; rw [List.length_map, HN.out]; exact Nat.le_refl _)
      rw [hf] at O
      clear hf
      go_wp2
      go_ret
      exact ⟨_, rfl, O, hb⟩
end Commits
end Go.Proofs.Ytajbmokidcdfnaa
