/- Several texts of one proof, in build order: CommitOkW, CommitTo. -/
import Derived.BigQuiet
import Derived.Deep.RegionHeld3
import Derived.Test.YtppikpdphcfomaaDoorCB4
import Derived.Test.YtppikpdphcfomaaDoorCB5
/- CommitOk, as written and as specified. -/
set_option linter.unusedVariables false
set_option linter.unusedSimpArgs false
namespace Go.Proofs.YtppikpdphcfomaaDoor
open Go.RowKit
namespace Commits
open Bas Flat Logs

theorem ret_rises {zs : List Int} {b : Bool} (h : rises zs = b) : Ending.returned (.bool b) = .returned (.bool (rises zs)) := by rw [h]
theorem open_ints' {B : Nat} {w : World} {a : Option Addr} {n cap : Nat} {zs : List Int} (h : Ints.Sees B w (.slice a n cap) zs) (hn : 0 < zs.length) : ∃ b off, a = some ⟨b, off, none⟩ ∧ b < B ∧ ∀ j (h : j < zs.length), w.cell? ⟨b, off + j, none⟩ = some (.int .i64 zs[j]) := by
  obtain ⟨a', cap', e, -, -, h3⟩ := h
  simp only [Value.slice.injEq] at e
  obtain ⟨rfl, -, -⟩ := e
  exact h3 (fun h => by simp [h] at hn)
theorem bdN {B : Nat} {a w : World} (h : Below B a w) (n : Nat) : Below B a (w.drewN n) := h.trans ⟨rfl, rfl, rfl, Nat.le_refl _, fun _ _ => rfl⟩
set_option maxRecDepth 100000 in
set_option maxHeartbeats 3200000 in
theorem specRising (v : Value) (zs : List Int) (B : Nat) (w : World) (hv : Ints.Sees B w v zs) (hB : B ≤ w.heap.size) :
    Calls Tryd.prog 55 #[v] w fun e w' => e = .returned (.bool (rises zs)) ∧ Below w.heap.size w w' := by
  obtain ⟨a, cap, rfl⟩ := hv.form
  have hm : (zs.length : Int) ≤ 9223372036854775807 := by obtain ⟨a', cap', e, h1, h2, h3⟩ := hv; unfold maxLen at h2; omega
  obtain ⟨n, hn⟩ : ∃ n, zs.length = n := ⟨_, rfl⟩
  obtain ⟨g, hg⟩ : ∃ g, w.heap.size = g := ⟨_, rfl⟩
  rw [hg] at hB ⊢
  rw [hn] at hm hv ⊢
  have b0 : Below g w w := Below.refl _ _
  go_enter Tryd.func55, Tryd.ntmps55
  go_wp2
  go_loopw [3] (fun i wr => ∃ k : Nat, k ≤ n ∧ i = .int .i64 k ∧ (∀ j, j < k → good zs j = true) ∧ Below g w wr) (fun i _ => n - (intOf i).toNat)
  case atStart => exact ⟨0, by omega, rfl, fun j h => by omega, b0⟩
  case round =>
    obtain ⟨k, hk, rfl, hall, hb⟩ := hrel
    clear b0
    by_cases hlt : k < n
    · obtain ⟨b, off, rfl, hbB, hc⟩ := open_ints' (hv.on hb hB) (by omega)
      have hkl : k < zs.length := by omega
      have a0 := hc k hkl
      obtain ⟨z, hz⟩ : ∃ z, zs[k] = z := ⟨_, rfl⟩
      rw [hz] at a0
      have HZ : Hid (zs[k] = z) := hz
      have HA : Hid (∀ j, j < k → good zs j = true) := hall
      have cC := fun W => Ops.cellC z W
      obtain ⟨p, hp⟩ : ∃ p, Ops.inn 0 7 z = p := ⟨_, rfl⟩
      rw [hp] at cC
      have HP : Hid (Ops.inn 0 7 z = p) := hp
      have i1 : (k : Int) < n := by omega
      have i0 : (0 : Int) ≤ k := by omega
      rcases Nat.eq_zero_or_pos k with h0 | h0
      · have HK : Hid (k = 0) := h0
        have i2 : decide ((0 : Int) < (k : Int)) = false := decide_eq_false (by omega)
        have i2' : decide (0 < k) = false := decide_eq_false (by omega)
        have i2'' : (k == 0) = true := by simp [h0]
        clear hz hc hall hp h0
        cases p
        · have HF : Hid (rises zs = false) := rises_one (j := k) hkl (good_cell hkl (by rw [HZ.out]; exact HP.out))
          go_wp2_with fail
          go_quiet ((go_at_call 57; exact Calls.quiet_of_same ((cC _).mono fun e w' h => ⟨h.1, h.2.symm⟩)))
          go_wp2
          go_ret
          exact ⟨ret_rises HF.out, bdN hb _⟩
        go_wp2_with fail
        go_quiet ((go_at_call 57; exact Calls.quiet_of_same ((cC _).mono fun e w' h => ⟨h.1, h.2.symm⟩)))
        go_wp2
        go_roundw
        case rel => exact ⟨k + 1, by omega, by go_num, fun j hjk => by
          rcases Nat.lt_succ_iff_lt_or_eq.1 hjk with h | h
          · exact HA.out j h
          · subst h
            have hk0 := HK.out
            subst hk0
            exact good_zero hkl (by rw [HZ.out]; exact HP.out), bdN hb _⟩
        case measure => simp [intOf]; omega
      · obtain ⟨m, rfl⟩ : ∃ m, k = m + 1 := ⟨k - 1, by omega⟩
        have hml : m < zs.length := by omega
        have a1 := hc m hml
        obtain ⟨y, hy⟩ : ∃ y, zs[m] = y := ⟨_, rfl⟩
        rw [hy] at a1
        have HY : Hid (zs[m] = y) := hy
        have HK1 : Hid (m + 1 < zs.length) := hkl
        have hge : ∀ (hzy : z ≤ y), rises zs = false := fun hzy => rises_one (j := m + 1) hkl (good_le hkl (by rw [HZ.out, HY.out]; exact hzy))
        have hgt : ∀ (hzy : ¬ z ≤ y), p = true → good zs (m + 1) = true := fun hzy hpt => good_lt hkl (by rw [HZ.out, HP.out, hpt]) (by rw [HZ.out, HY.out]; omega)
        have hgf : p = false → rises zs = false := fun hpf => rises_one (j := m + 1) hkl (good_cell hkl (by rw [HZ.out, HP.out, hpf]))
        have HGE := (show Hid _ from hge); have HGT := (show Hid _ from hgt); have HGF := (show Hid _ from hgf)
        obtain ⟨k', hk'⟩ : ∃ k', m + 1 = k' := ⟨_, rfl⟩
        have e1 : (k' : Int) - 1 = (m : Int) := by omega
        have HK2 : Hid (m + 1 = k') := hk'
        rw [hk'] at a0 i1 i0 hlt HA HGT hk ⊢
        have i2 : (0 : Int) < (k' : Int) := by omega
        have i2' : 0 < k' := by omega
        have i4 : (m : Int) < n := by omega
        have i5 : (0 : Int) ≤ m := by omega
        clear hz hc hall hp hy h0 hge hgt hgf hk'
        cases p
        · have HF : Hid (rises zs = false) := HGF.out rfl
          go_wp2_with fail
          go_quiet ((go_at_call 57; exact Calls.quiet_of_same ((cC _).mono fun e w' h => ⟨h.1, h.2.symm⟩)))
          go_wp2
          go_ret
          exact ⟨ret_rises HF.out, bdN hb _⟩
        by_cases hzy : z ≤ y
        · have HF : Hid (rises zs = false) := HGE.out hzy
          go_wp2_with fail
          go_quiet ((go_at_call 57; exact Calls.quiet_of_same ((cC _).mono fun e w' h => ⟨h.1, h.2.symm⟩)))
          go_wp2
          go_ret
          exact ⟨ret_rises HF.out, bdN hb _⟩
        have HF : Hid (good zs k' = true) := HGT.out hzy rfl
        go_wp2_with fail
        go_quiet ((go_at_call 57; exact Calls.quiet_of_same ((cC _).mono fun e w' h => ⟨h.1, h.2.symm⟩)))
        go_wp2
        go_roundw
        case rel => exact ⟨k' + 1, by omega, by go_num, fun j hjk => by
          rcases Nat.lt_succ_iff_lt_or_eq.1 hjk with h | h
          · exact HA.out j h
          · subst h; exact HF.out, bdN hb _⟩
        case measure => simp [intOf]; omega
    · obtain rfl : k = n := by omega
      have HT : Hid (rises zs = true) := rises_mk fun j hj => hall j (by omega)
      clear hall
      go_wp2
      go_ret
      exact ⟨ret_rises HT.out, hb⟩

/-- the least that the next cell may be -/
def least (zs : List Int) (k : Nat) : Int := if k = 0 then 0 else zs.getD (k - 1) 0 + 1
theorem least_next {zs : List Int} {k : Nat} (h : k < zs.length) : least zs (k + 1) = zs[k] + 1 := by
  unfold least
  rw [if_neg (by omega), show zs.getD (k + 1 - 1) 0 = zs[k] by simp [List.getD, h]]
theorem good_least {zs : List Int} {k : Nat} (h : k < zs.length) (h0 : Ops.inn 0 7 zs[k] = true) : good zs k = decide (least zs k ≤ zs[k]) := by
  cases k with
  | zero =>
    rw [good_zero h h0]
    unfold Ops.inn at h0
    simp at h0
    simp [least]
    omega
  | succ m =>
    rw [least_next (by omega)]
    by_cases hl : zs[m] < zs[m + 1]
    · rw [good_lt h h0 hl, decide_eq_true (by omega)]
    · rw [good_le h (by omega), decide_eq_false (by omega)]
theorem least_near {zs : List Int} {k : Nat} (h : ∀ j, j < k → good zs j = true) (hk : k ≤ zs.length) : 0 ≤ least zs k ∧ least zs k ≤ 8 := by
  cases k with
  | zero => simp [least]
  | succ m =>
    rw [least_next (by omega)]
    have := good_out (by omega) (h m (by omega))
    unfold Ops.inn at this
    simp at this
    omega
set_option maxRecDepth 100000 in
set_option maxHeartbeats 1600000 in
theorem implRise (v : Value) (zs : List Int) (B : Nat) (w : World) (hv : Ints.Sees B w v zs) :
    Calls Tryd.prog 66 #[v] w fun e w' => e = .returned (.bool (rises zs)) ∧ w = w' := by
  obtain ⟨a, cap, rfl, h1, h2, h3⟩ := hv
  have hm : (zs.length : Int) ≤ 9223372036854775807 := by unfold maxLen at h2; omega
  obtain ⟨n, hn⟩ : ∃ n, zs.length = n := ⟨_, rfl⟩
  rw [hn] at hm ⊢
  clear h1 h2
  go_enter Tryd.func66, Tryd.ntmps66
  go_wp2
  go_loop [3, 8] (fun l i => ∃ k : Nat, k ≤ n ∧ i = .int .i64 k ∧ l = .int .i64 (least zs k) ∧ (∀ j, j < k → good zs j = true)) (fun _ i => n - (intOf i).toNat)
  case atStart => exact ⟨0, by omega, rfl, rfl, fun j h => by omega⟩
  case round =>
    obtain ⟨k, hk, rfl, rfl, hall⟩ := hrel
    by_cases hlt : k < n
    · obtain ⟨b, off, rfl, hbB, hc⟩ := h3 (fun h => by simp [h] at hn; omega)
      have hkl : k < zs.length := by omega
      have a0 := hc k hkl
      have hnear := least_near hall (by omega)
      have hnext := least_next hkl
      have hgl := good_least hkl
      obtain ⟨z, hz⟩ : ∃ z, zs[k] = z := ⟨_, rfl⟩
      obtain ⟨l, hl⟩ : ∃ l, least zs k = l := ⟨_, rfl⟩
      rw [hz] at a0 hnext hgl
      rw [hl] at hnear hgl
      rw [hl]
      have HN : Hid (least zs (k + 1) = z + 1) := hnext
      have HG : Hid (Ops.inn 0 7 z = true → good zs k = decide (l ≤ z)) := hgl
      have HZ : Hid (zs[k] = z) := hz
      have HA : Hid (∀ j, j < k → good zs j = true) := hall
      have cC := isCellC z w
      obtain ⟨p, hp⟩ : ∃ p, Ops.inn 0 7 z = p := ⟨_, rfl⟩
      rw [hp] at cC
      have HP : Hid (Ops.inn 0 7 z = p) := hp
      have i1 : (k : Int) < n := by omega
      clear hz hc h3 hall hp hl hnext hgl
      cases p
      · have HF : Hid (rises zs = false) := rises_one (j := k) hkl (good_cell hkl (by rw [HZ.out]; exact HP.out))
        go_wp2_with (go_at_call 77; refine cC.mono ?_; rintro e w1 ⟨rfl, rfl⟩)
        go_ret
        exact ⟨ret_rises HF.out, rfl⟩
      have hz7 : 0 ≤ z ∧ z ≤ 7 := by have := HP.out; unfold Ops.inn at this; simp at this; omega
      obtain ⟨hz0, hz7⟩ := hz7
      by_cases hzl : z < l
      · have HF : Hid (rises zs = false) := rises_one (j := k) hkl (by rw [HG.out HP.out]; exact decide_eq_false (by omega))
        go_wp2_with (go_at_call 77; refine cC.mono ?_; rintro e w1 ⟨rfl, rfl⟩)
        go_ret
        exact ⟨ret_rises HF.out, rfl⟩
      go_wp2_with (go_at_call 77; refine cC.mono ?_; rintro e w1 ⟨rfl, rfl⟩)
      go_round
      case rel => exact ⟨k + 1, by omega, by go_num, by rw [HN.out], fun j hjk => by
        rcases Nat.lt_succ_iff_lt_or_eq.1 hjk with h | h
        · exact HA.out j h
        · subst h; rw [HG.out HP.out]; exact decide_eq_true (by omega)⟩
      case measure => simp [intOf]; omega
    · obtain rfl : k = n := by omega
      have HT : Hid (rises zs = true) := rises_mk fun j hj => hall j (by omega)
      have i1 : ¬ (k : Int) < k := by omega
      clear hall h3
      go_wp2
      go_ret
      exact ⟨ret_rises HT.out, rfl⟩
theorem clockC (x : Int) (w : World) : Calls Tryd.prog 64 #[.int .i64 x] w fun e w' => e = .returned (.bool (Ops.inn 0 1000000 x)) ∧ w = w' := by
  unfold Ops.inn
  by_cases h1 : 0 ≤ x
  · have h1' : decide (0 ≤ x) = true := decide_eq_true h1
    go_enter Tryd.func64, Tryd.ntmps64
    go_wp2
    go_ret
    exact ⟨by simp [h1], rfl⟩
  · have h1' : decide (0 ≤ x) = false := decide_eq_false h1
    go_enter Tryd.func64, Tryd.ntmps64
    go_wp2
    go_ret
    exact ⟨by simp, rfl⟩
theorem ownerC (x : Int) (w : World) : Calls Tryd.prog 63 #[.int .i64 x] w fun e w' => e = .returned (.bool (Ops.inn 1 99 x)) ∧ w = w' := by
  unfold Ops.inn
  by_cases h1 : 1 ≤ x
  · have h1' : decide (1 ≤ x) = true := decide_eq_true h1
    go_enter Tryd.func63, Tryd.ntmps63
    go_wp2
    go_ret
    exact ⟨by simp [h1], rfl⟩
  · have h1' : decide (1 ≤ x) = false := decide_eq_false h1
    go_enter Tryd.func63, Tryd.ntmps63
    go_wp2
    go_ret
    exact ⟨by simp, rfl⟩
end Commits
end Go.Proofs.YtppikpdphcfomaaDoor
/- The laws' own copies, comparisons, sizes and marks of commits. -/
set_option linter.unusedVariables false
set_option linter.unusedSimpArgs false
namespace Go.Proofs.YtppikpdphcfomaaDoor
open Go.RowKit
namespace Commits
open Bas Flat Logs

theorem ownI_other {B : Nat} {w : World} {v : Value} {zs : List Int} {q : Nat} (h : Ints.Owns B w v zs) (hq : ∀ k, v.ownBlock = some k → k ≠ q) (i : Nat) (u : Value) : Ints.Owns B (w.setCell ⟨q, i, none⟩ u) v zs :=
  h.keep fun k hk => Below.heap_setCell _ _ _ _ (hq k hk)
/-- rows that are not too long -/
def Fit (c : Cm) : Prop := c.ps.length ≤ 1048576 ∧ c.rs.length ≤ 1048576

set_option maxRecDepth 100000 in
set_option maxHeartbeats 3200000 in
theorem toCommitC (c : Cm) (vP vR : Value) (B : Nat) (w : World) (hv : SeeC B w vP vR c.ps c.rs) (hB : B ≤ w.heap.size) (hf : Fit c) :
    Calls Tryd.prog 8 #[c.agg vP vR] w fun e w' => ∃ vP' vR', e = .returned (c.agg vP' vR') ∧ OwnC w.heap.size w' vP' vR' c.ps c.rs ∧ Below w.heap.size w w' := by
  obtain ⟨c0, c1, c2, c3, c4, ps, rs⟩ := c
  obtain ⟨hf1, hf2⟩ := hf
  dsimp only at hv hf1 hf2 ⊢
  obtain ⟨q, hq⟩ : ∃ q, w.heap.size = q := ⟨_, rfl⟩
  have X0 := Blk.new w #[.int .i64 c0, .int .i64 c1, .int .i64 c2, .int .i64 c3, .int .i64 c4, vP, vR] 28
  have b0 := alloc_below w (.cells #[.int .i64 c0, .int .i64 c1, .int .i64 c2, .int .i64 c3, .int .i64 c4, vP, vR] 28)
  obtain ⟨w0, hw0⟩ : ∃ w0, w.alloc (.cells #[.int .i64 c0, .int .i64 c1, .int .i64 c2, .int .i64 c3, .int .i64 c4, vP, vR] 28) = w0 := ⟨_, rfl⟩
  have hz0 : w0.heap.size = q + 1 := by rw [← hw0, ← hq]; simp
  rw [hw0] at X0 b0
  rw [hq] at X0 b0 hB ⊢
  obtain ⟨q1, hq1⟩ : ∃ q, w0.heap.size = q := ⟨_, rfl⟩
  have l01 : q < q1 := by omega
  clear hz0
  have S1 := Blk.new w0 #[.int .i64 0, .int .i64 0, .int .i64 0, .int .i64 0, .int .i64 0, .slice none 0 0, .slice none 0 0] 36
  have b1 := alloc_below w0 (.cells #[.int .i64 0, .int .i64 0, .int .i64 0, .int .i64 0, .int .i64 0, .slice none 0 0, .slice none 0 0] 36)
  obtain ⟨w1, hw1⟩ : ∃ w1, w0.alloc (.cells #[.int .i64 0, .int .i64 0, .int .i64 0, .int .i64 0, .int .i64 0, .slice none 0 0, .slice none 0 0] 36) = w1 := ⟨_, rfl⟩
  have hz1 : w1.heap.size = q1 + 1 := by rw [← hw1, ← hq1]; simp
  rw [hw1] at S1 b1
  rw [hq1] at S1 b1
  obtain ⟨q2, hq2⟩ : ∃ q, w1.heap.size = q := ⟨_, rfl⟩
  have l12 : q1 < q2 := by omega
  clear hz1
  have R2 := Blk.new w1 #[.int .i64 0, .int .i64 0, .int .i64 0, .int .i64 0, .int .i64 0, .slice none 0 0, .slice none 0 0] 36
  have b2 := alloc_below w1 (.cells #[.int .i64 0, .int .i64 0, .int .i64 0, .int .i64 0, .int .i64 0, .slice none 0 0, .slice none 0 0] 36)
  obtain ⟨w2, hw2⟩ : ∃ w2, w1.alloc (.cells #[.int .i64 0, .int .i64 0, .int .i64 0, .int .i64 0, .int .i64 0, .slice none 0 0, .slice none 0 0] 36) = w2 := ⟨_, rfl⟩
  rw [hw2] at R2 b2
  rw [hq2] at R2 b2
  have X2 := (X0.on b1 (by omega)).on b2 (by omega)
  have S2 := S1.on b2 (by omega)
  have bb : Below q w w2 := (b0.trans (b1.mono (by omega))).trans (b2.mono (by omega))
  have z2 : q2 < w2.heap.size := R2.lt
  have n2 : q ≠ q2 := by omega
  have n1 : q1 ≠ q2 := by omega
  have x0 := X2.cell 0; have x1 := X2.cell 1; have x2 := X2.cell 2; have x3 := X2.cell 3; have x4 := X2.cell 4; have x5 := X2.cell 5
  have r2 := fun i => R2.cell i; have f2 := fun i => R2.froz i
  have X3 := (((((X2.other n2 0 (.int .i64 c0)).other n2 1 (.int .i64 c1)).other n2 2 (.int .i64 c2)).other n2 3 (.int .i64 c3)).other n2 4 (.int .i64 c4))
  have S3 := (((((S2.other n1 0 (.int .i64 c0)).other n1 1 (.int .i64 c1)).other n1 2 (.int .i64 c2)).other n1 3 (.int .i64 c3)).other n1 4 (.int .i64 c4))
  have R3 := (((((R2.set 0 (.int .i64 c0)).set 1 (.int .i64 c1)).set 2 (.int .i64 c2)).set 3 (.int .i64 c3)).set 4 (.int .i64 c4))
  have b3 := (((((bb.setCell (p := ⟨q2, 0, none⟩) (show q ≤ q2 by omega) (.int .i64 c0)).setCell (p := ⟨q2, 1, none⟩) (show q ≤ q2 by omega) (.int .i64 c1)).setCell (p := ⟨q2, 2, none⟩) (show q ≤ q2 by omega) (.int .i64 c2)).setCell (p := ⟨q2, 3, none⟩) (show q ≤ q2 by omega) (.int .i64 c3)).setCell (p := ⟨q2, 4, none⟩) (show q ≤ q2 by omega) (.int .i64 c4))
  obtain ⟨w3, hw3⟩ : ∃ W, ((((w2.setCell ⟨q2, 0, none⟩ (.int .i64 c0)).setCell ⟨q2, 1, none⟩ (.int .i64 c1)).setCell ⟨q2, 2, none⟩ (.int .i64 c2)).setCell ⟨q2, 3, none⟩ (.int .i64 c3)).setCell ⟨q2, 4, none⟩ (.int .i64 c4) = W := ⟨_, rfl⟩
  rw [hw3] at X3 S3 R3 b3
  have sv := hv.on b3 hB
  have x35 := X3.cell 5
  have hq1w : q1 < w3.heap.size := S3.lt
  have z3 := b3.size
  have cA := toRowsC vP ps B w3 sv.p (by omega) hf1
  clear X0 S1 b0 b1 b2
  go_enter Tryd.func8, Tryd.ntmps8
  go_wp2_with fail
  try rw [hw3]
  refine cA.mono ?_
  rintro e w4 ⟨v4, rfl, O4, b4⟩
  obtain ⟨a3, k3, rfl⟩ := O4.form
  obtain ⟨np, hnp⟩ : ∃ n, ps.length = n := ⟨_, rfl⟩
  rw [hnp] at O4 ⊢
  clear x0 x1 x2 x3 x4 x5 x35 r2 f2 hw3
  have X4 := X3.on b4 X3.lt
  have S4 := S3.on b4 S3.lt
  have R4 := R3.on b4 R3.lt
  have b4' := b3.trans (b4.mono (by omega))
  have z4 : q2 < w4.heap.size := R4.lt
  have r5 := R4.cell 5; have f5 := R4.froz 5
  have o4 := O4.at
  have d4 : ∀ k, (Value.slice a3 np k3).ownBlock = some k → k ≠ q2 := fun k hk => by have := (o4 k hk).1; have := R3.lt; omega
  have X5 := X4.other n2 5 (.slice a3 np k3)
  have S5 := S4.other n1 5 (.slice a3 np k3)
  have R5 := R4.set 5 (.slice a3 np k3)
  have O5 := Owns.other O4 (p := q2) (i := 5) d4 (.slice a3 np k3)
  have b5 := b4'.setCell (p := ⟨q2, 5, none⟩) (show q ≤ q2 by omega) (.slice a3 np k3)
  obtain ⟨w5, hw5⟩ : ∃ W, w4.setCell ⟨q2, 5, none⟩ (.slice a3 np k3) = W := ⟨_, rfl⟩
  rw [hw5] at X5 S5 R5 O5 b5
  have z5 := b5.size
  have x6 := X5.cell 6
  have cM := Ints.toIntsC vR rs B w5 ((hv.on b5 hB).r) (by omega) hf2
  clear X3 S3 R3 X4 S4 O4 sv
  go_wp2_with fail
  try rw [hw5]
  refine cM.mono ?_
  rintro e w6 ⟨v6, rfl, O6, b6⟩
  obtain ⟨a5, k5, rfl⟩ := O6.form
  obtain ⟨nr, hnr⟩ : ∃ n, rs.length = n := ⟨_, rfl⟩
  rw [hnr] at O6 ⊢
  have S6 := S5.on b6 S5.lt
  have R6 := R5.on b6 R5.lt
  have P6 := O5.on b6 (Nat.le_refl _)
  have b6' := b5.trans (b6.mono (by omega))
  have o6 := O6.at
  have d6 : ∀ k, (Value.slice a5 nr k5).ownBlock = some k → k ≠ q2 := fun k hk => by have := (o6 k hk).1; have := R5.lt; omega
  have d6' : ∀ k, (Value.slice a5 nr k5).ownBlock = some k → k ≠ q1 := fun k hk => by have := (o6 k hk).1; have := S5.lt; omega
  have d4' : ∀ k, (Value.slice a3 np k3).ownBlock = some k → k ≠ q1 := fun k hk => by have := (o4 k hk).1; have := hq1w; omega
  clear x6 cA cM hw5 r5 f5
  have r6 := fun i => R6.cell i; have f6 := fun i => R6.froz i
  have s6 := fun i => S6.cell i; have g6 := fun i => S6.froz i
  have S7 := ((((((((S6.other n1 6 (.slice a5 nr k5)).set 0 (.int .i64 c0)).set 1 (.int .i64 c1)).set 2 (.int .i64 c2)).set 3 (.int .i64 c3)).set 4 (.int .i64 c4)).set 5 (.slice a3 np k3)).set 6 (.slice a5 nr k5))
  have s7 := fun i => S7.cell i
  have Oa := (Owns.other (Owns.other (Owns.other (Owns.other (Owns.other (Owns.other (Owns.other (Owns.other P6 (p := q2) (i := 6) d4 (.slice a5 nr k5)) (p := q1) (i := 0) d4' (.int .i64 c0)) (p := q1) (i := 1) d4' (.int .i64 c1)) (p := q1) (i := 2) d4' (.int .i64 c2)) (p := q1) (i := 3) d4' (.int .i64 c3)) (p := q1) (i := 4) d4' (.int .i64 c4)) (p := q1) (i := 5) d4' (.slice a3 np k3)) (p := q1) (i := 6) d4' (.slice a5 nr k5))
  have Ob := (ownI_other (ownI_other (ownI_other (ownI_other (ownI_other (ownI_other (ownI_other (ownI_other O6 (q := q2) d6 6 (.slice a5 nr k5)) (q := q1) d6' 0 (.int .i64 c0)) (q := q1) d6' 1 (.int .i64 c1)) (q := q1) d6' 2 (.int .i64 c2)) (q := q1) d6' 3 (.int .i64 c3)) (q := q1) d6' 4 (.int .i64 c4)) (q := q1) d6' 5 (.slice a3 np k3)) (q := q1) d6' 6 (.slice a5 nr k5))
  have bF := ((((((((b6'.setCell (p := ⟨q2, 6, none⟩) (show q ≤ q2 by omega) (.slice a5 nr k5)).setCell (p := ⟨q1, 0, none⟩) (show q ≤ q1 by omega) (.int .i64 c0)).setCell (p := ⟨q1, 1, none⟩) (show q ≤ q1 by omega) (.int .i64 c1)).setCell (p := ⟨q1, 2, none⟩) (show q ≤ q1 by omega) (.int .i64 c2)).setCell (p := ⟨q1, 3, none⟩) (show q ≤ q1 by omega) (.int .i64 c3)).setCell (p := ⟨q1, 4, none⟩) (show q ≤ q1 by omega) (.int .i64 c4)).setCell (p := ⟨q1, 5, none⟩) (show q ≤ q1 by omega) (.slice a3 np k3)).setCell (p := ⟨q1, 6, none⟩) (show q ≤ q1 by omega) (.slice a5 nr k5))
  go_wp2
  refine bodyPost_ret (v := .agg #[.int .i64 c0, .int .i64 c1, .int .i64 c2, .int .i64 c3, .int .i64 c4, .slice a3 np k3, .slice a5 nr k5]) (by simp [results, Tryd.results8, go_sem, s7]) rfl ?_
  exact ⟨_, _, rfl, ⟨Oa.mono (by omega), Ob.mono (by omega)⟩, bF⟩

end Commits
end Go.Proofs.YtppikpdphcfomaaDoor
