/- CommitLeft: what both answer. -/
import Derived.Test.YtajbmokidcdfnaaCommitOkC
set_option linter.unusedVariables false
set_option linter.unusedSimpArgs false
namespace Go.Proofs.Ytajbmokidcdfnaa
open Go.RowKit
namespace Commits
open Bas Flat Logs

theorem rises_ge {zs : List Int} (h : rises zs = true) : ∀ j (hj : j < zs.length), (j : Int) ≤ zs[j] := by
  intro j
  induction j with
  | zero => intro hj; exact (rises_cell h (List.getElem_mem hj)).1
  | succ j ih =>
    intro hj
    have h1 := ih (by omega)
    have h2 := rises_lt h hj
    omega
theorem rises_len {zs : List Int} (h : rises zs = true) : zs.length ≤ 8 := by
  by_cases h9 : zs.length ≤ 8
  · exact h9
  · have h1 := rises_ge h 8 (by omega)
    have h2 := (rises_cell h (List.getElem_mem (show 8 < zs.length by omega))).2
    omega
theorem bounds_of {C : Cm} (h : commitOk C = true) : C.ps.length ≤ 300 ∧ C.rs.length ≤ 8 ∧ 0 ≤ C.at' ∧ C.at' ≤ 300 ∧ (1 ≤ C.ph ∧ C.ph ≤ 8) := by
  obtain ⟨-, -, -, d, -, f, g0, g1⟩ := commit_out h
  have h1 := rowsOk_out d
  have h2 := rises_len f
  refine ⟨h1, h2, g0, ?_, phase_in h⟩
  unfold Cm.steps at g1
  split at g1
  · omega
  · split at g1
    · omega
    · split at g1 <;> omega
theorem left_no {C : Cm} (h : commitOk C = false) : leftOf C = 0 := by unfold leftOf; rw [h]; rfl
theorem left_yes {C : Cm} {n m : Nat} (h : commitOk C = true) (hn : C.ps.length = n) (hm : C.rs.length = m) : leftOf C = (if C.ph = 1 then (n : Int) - C.at' + 1 + m + 2 * n else if C.ph = 2 then 1 + (m : Int) + 2 * n else if C.ph = 3 then (m : Int) - C.at' + 2 * n else if C.ph = 4 then 2 * (n : Int) - C.at' else if C.ph = 5 then (n : Int) - C.at' else if C.ph = 7 then C.at' + 1 else 0) := by
  unfold leftOf; rw [h, hn, hm]; rfl
theorem ph8 {x : Int} (h : 1 ≤ x ∧ x ≤ 8) : x = 1 ∨ x = 2 ∨ x = 3 ∨ x = 4 ∨ x = 5 ∨ x = 6 ∨ x = 7 ∨ x = 8 := by omega

set_option maxRecDepth 100000 in
set_option maxHeartbeats 12800000 in
theorem specLeft (C : Cm) (who rv ph at' wv : Int) (ps : List R2) (rs : List Int) (hC : C = ⟨who, rv, ph, at', wv, ps, rs⟩) (vP vR : Value) (B : Nat) (w : World) (hv : SeeC B w vP vR ps rs) (hB : B ≤ w.heap.size) :
    Calls Try.prog 24 #[.agg #[.int .i64 who, .int .i64 rv, .int .i64 ph, .int .i64 at', .int .i64 wv, vP, vR]] w fun e w' => e = .returned (.int .i64 (leftOf C)) ∧ Below w.heap.size w w' := by
  obtain ⟨ap, kp, rfl⟩ := hv.p.form
  obtain ⟨ar, kr, rfl⟩ := hv.r.form
  obtain ⟨g, hg⟩ : ∃ g, w.heap.size = g := ⟨_, rfl⟩
  have X0 := Blk.new w #[.int .i64 who, .int .i64 rv, .int .i64 ph, .int .i64 at', .int .i64 wv, .slice ap ps.length kp, .slice ar rs.length kr] 30
  have b0 := alloc_below w (.cells #[.int .i64 who, .int .i64 rv, .int .i64 ph, .int .i64 at', .int .i64 wv, .slice ap ps.length kp, .slice ar rs.length kr] 30)
  rw [hg] at X0 b0 hB ⊢
  have cO := fun W (b : Below g w W) => specOkE C who rv ph at' wv ps rs hC _ _ B W (hv.on b hB) (by have := b.size; omega)
  obtain ⟨n, hn⟩ : ∃ n, ps.length = n := ⟨_, rfl⟩
  obtain ⟨m, hm⟩ : ∃ m, rs.length = m := ⟨_, rfl⟩
  obtain ⟨p, hp⟩ : ∃ q, commitOk C = q := ⟨_, rfl⟩
  obtain ⟨l, hl⟩ : ∃ q, leftOf C = q := ⟨_, rfl⟩
  rw [hl]
  rw [hn] at X0 b0 cO ⊢
  rw [hm] at X0 b0 cO ⊢
  rw [hp] at cO
  obtain ⟨W0, hW0⟩ : ∃ W, w.alloc (.cells #[.int .i64 who, .int .i64 rv, .int .i64 ph, .int .i64 at', .int .i64 wv, .slice ap n kp, .slice ar m kr] 30) = W := ⟨_, rfl⟩
  rw [hW0] at X0 b0
  have x0 := X0.cell 0; have x1 := X0.cell 1; have x2 := X0.cell 2; have x3 := X0.cell 3; have x4 := X0.cell 4; have x5 := X0.cell 5; have x6 := X0.cell 6
  cases p
  · have hl0 : l = 0 := by rw [← hl, left_no hp]
    subst hl0
    clear hC hn hm hp hl hv
    go_enter Try.func24, Try.ntmps24
    go_wp2_with fail
    refine (cO _ b0).mono ?_
    rintro e w1 ⟨rfl, b1⟩
    go_wp2
    go_ret
    exact ⟨rfl, b0.trans (b1.mono (by have := b0.size; omega))⟩
  have hb := bounds_of hp
  have hy := left_yes (n := n) (m := m) hp (by subst hC; exact hn) (by subst hC; exact hm)
  rw [hl] at hy
  subst hC
  dsimp only at hb hy
  rw [hn, hm] at hb
  obtain ⟨q1, q2, q3, q4, q5⟩ := hb
  have HY := (show Hid _ from hy)
  have q1' : (n : Int) ≤ 300 := by omega
  have q2' : (m : Int) ≤ 8 := by omega
  clear hy hn hm hp hl hv q1 q2
  go_enter Try.func24, Try.ntmps24
  go_wp2_with fail
  refine (cO _ b0).mono ?_
  rintro e w1 ⟨rfl, b1⟩
  have X1 := X0.on b1 X0.lt
  have bb := b0.trans (b1.mono (by have := b0.size; omega))
  clear x0 x1 x2 x3 x4 x5 x6 X0 b0 b1 hW0 cO
  have x2 := X1.cell 2; have x3 := X1.cell 3; have x5 := X1.cell 5; have x6 := X1.cell 6
  rcases ph8 q5 with rfl | rfl | rfl | rfl | rfl | rfl | rfl | rfl
  all_goals
    clear q5
    go_wp2
    go_ret
    exact ⟨by rw [HY.out]; go_num, bb⟩

set_option maxRecDepth 100000 in
set_option maxHeartbeats 12800000 in
theorem implLeft (C : Cm) (who rv ph at' wv : Int) (ps : List R2) (rs : List Int) (hC : C = ⟨who, rv, ph, at', wv, ps, rs⟩) (vP vR : Value) (B : Nat) (w : World) (hv : SeeC B w vP vR ps rs) (hB : B ≤ w.heap.size) :
    Calls Try.prog 25 #[.agg #[.int .i64 who, .int .i64 rv, .int .i64 ph, .int .i64 at', .int .i64 wv, vP, vR]] w fun e w' => e = .returned (.int .i64 (leftOf C)) ∧ Below w.heap.size w w' := by
  obtain ⟨ap, kp, rfl⟩ := hv.p.form
  obtain ⟨ar, kr, rfl⟩ := hv.r.form
  obtain ⟨g, hg⟩ : ∃ g, w.heap.size = g := ⟨_, rfl⟩
  have X0 := Blk.new w #[.int .i64 who, .int .i64 rv, .int .i64 ph, .int .i64 at', .int .i64 wv, .slice ap ps.length kp, .slice ar rs.length kr] 30
  have b0 := alloc_below w (.cells #[.int .i64 who, .int .i64 rv, .int .i64 ph, .int .i64 at', .int .i64 wv, .slice ap ps.length kp, .slice ar rs.length kr] 30)
  rw [hg] at X0 b0 hB ⊢
  have cO := fun W (b : Below g w W) => implOkE C who rv ph at' wv ps rs hC _ _ B W (hv.on b hB) (by have := b.size; omega)
  obtain ⟨n, hn⟩ : ∃ n, ps.length = n := ⟨_, rfl⟩
  obtain ⟨m, hm⟩ : ∃ m, rs.length = m := ⟨_, rfl⟩
  obtain ⟨p, hp⟩ : ∃ q, commitOk C = q := ⟨_, rfl⟩
  obtain ⟨l, hl⟩ : ∃ q, leftOf C = q := ⟨_, rfl⟩
  rw [hl]
  rw [hn] at X0 b0 cO ⊢
  rw [hm] at X0 b0 cO ⊢
  rw [hp] at cO
  obtain ⟨W0, hW0⟩ : ∃ W, w.alloc (.cells #[.int .i64 who, .int .i64 rv, .int .i64 ph, .int .i64 at', .int .i64 wv, .slice ap n kp, .slice ar m kr] 30) = W := ⟨_, rfl⟩
  rw [hW0] at X0 b0
  have x0 := X0.cell 0; have x1 := X0.cell 1; have x2 := X0.cell 2; have x3 := X0.cell 3; have x4 := X0.cell 4; have x5 := X0.cell 5; have x6 := X0.cell 6
  cases p
  · have hl0 : l = 0 := by rw [← hl, left_no hp]
    subst hl0
    clear hC hn hm hp hl hv
    go_enter Try.func25, Try.ntmps25
    go_wp2_with fail
    refine (cO _ b0).mono ?_
    rintro e w1 ⟨rfl, b1⟩
    go_wp2
    go_ret
    exact ⟨rfl, b0.trans (b1.mono (by have := b0.size; omega))⟩
  have hb := bounds_of hp
  have hy := left_yes (n := n) (m := m) hp (by subst hC; exact hn) (by subst hC; exact hm)
  rw [hl] at hy
  subst hC
  dsimp only at hb hy
  rw [hn, hm] at hb
  obtain ⟨q1, q2, q3, q4, q5⟩ := hb
  have HY := (show Hid _ from hy)
  have q1' : (n : Int) ≤ 300 := by omega
  have q2' : (m : Int) ≤ 8 := by omega
  clear hy hn hm hp hl hv q1 q2
  go_enter Try.func25, Try.ntmps25
  go_wp2_with fail
  refine (cO _ b0).mono ?_
  rintro e w1 ⟨rfl, b1⟩
  have X1 := X0.on b1 X0.lt
  have bb := b0.trans (b1.mono (by have := b0.size; omega))
  clear x0 x1 x2 x3 x4 x5 x6 X0 b0 b1 hW0 cO
  have x2 := X1.cell 2; have x3 := X1.cell 3; have x5 := X1.cell 5; have x6 := X1.cell 6
  go_wp2_with fail
  go_quiet (fail)
  rcases ph8 q5 with rfl | rfl | rfl | rfl | rfl | rfl | rfl | rfl
  all_goals
    clear q5
    go_wp2
    go_ret
    exact ⟨by rw [HY.out]; go_num, bdN bb _⟩
end Commits
end Go.Proofs.Ytajbmokidcdfnaa
