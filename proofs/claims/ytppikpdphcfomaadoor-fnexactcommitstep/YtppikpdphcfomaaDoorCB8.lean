/- Several texts of one proof, in build order: CommitOkC. -/
import Derived.Test.YtppikpdphcfomaaDoorCB7
/- CommitOk: what both answer. -/
set_option linter.unusedVariables false
set_option linter.unusedSimpArgs false
namespace Go.Proofs.YtppikpdphcfomaaDoor
open Go.RowKit
namespace Commits
open Bas Flat Logs

theorem inn_yes {lo hi x : Int} (h : lo ≤ x ∧ x ≤ hi) : Ops.inn lo hi x = true := by unfold Ops.inn; simp; omega
theorem inn_no {lo hi x : Int} (h : Ops.inn lo hi x = false) : ¬ (lo ≤ x ∧ x ≤ hi) := fun h' => by rw [inn_yes h'] at h; cases h
theorem all_of {C : Cm} {p0 p1 p2 p3 p4 p5 : Bool} (h0 : Ops.inn 1 99 C.who = p0) (h1 : Ops.inn 0 1000000 C.rv = p1) (h2 : Ops.inn 0 1000000 C.wv = p2) (h3 : Ops.inn 1 8 C.ph = p3) (h4 : rowsOk C.ps = p4) (h5 : rises C.rs = p5) :
    (p0 && (p1 && (p2 && (p3 && (p4 && p5))))) = false → commitOk C = false := by
  intro h
  cases hb : commitOk C
  · rfl
  · obtain ⟨a, b, c, d, -, f, -⟩ := commit_out hb
    rw [inn_yes a] at h0; rw [inn_yes b] at h1; rw [inn_yes c] at h2; rw [inn_yes (phase_in hb)] at h3; rw [d] at h4; rw [f] at h5
    subst h0 h1 h2 h3 h4 h5
    cases h
theorem last_of {C : Cm} {s : Int} (h0 : Ops.inn 1 99 C.who = true) (h1 : Ops.inn 0 1000000 C.rv = true) (h2 : Ops.inn 0 1000000 C.wv = true) (h3 : Ops.inn 1 8 C.ph = true) (h4 : rowsOk C.ps = true) (h5 : rises C.rs = true) (h6 : rises (cellsP C.ps) = true) (hs : stepsS C = s) :
    Ops.inn 0 (s - 1) C.at' = commitOk C := by
  rw [commit_last (by unfold numsOk; rw [h0, h1, h2]; rfl) h4 h6 h5, ← steps_same (by unfold Ops.inn at h3; simpa using h3), hs]
  unfold Ops.inn
  rw [Bool.eq_iff_iff]
  simp
  omega
theorem cells_len (ps : List R2) : (cellsP ps).length = ps.length := by simp [cellsP]
theorem cells_at {ps : List R2} {k : Nat} (h : k < ps.length) (h' : k < (cellsP ps).length) : (cellsP ps)[k] = ps[k].c := by simp [cellsP]
theorem inn_row {ps : List R2} (hok : rowsOk ps = true) {k : Nat} (h : k < ps.length) : Ops.inn 0 7 ps[k].c = true := by
  have := rowsOk_at hok (List.getElem_mem h)
  exact inn_yes ⟨this.1, this.2.1⟩
theorem first_good {ps : List R2} (hok : rowsOk ps = true) (h : 0 < ps.length) : good (cellsP ps) 0 = true :=
  good_zero (by rw [cells_len]; exact h) (by rw [cells_at h]; exact inn_row hok h)
theorem step_bad {ps : List R2} {k : Nat} (h : k + 1 < ps.length) (hle : ps[k + 1].c ≤ ps[k].c) : rises (cellsP ps) = false :=
  rises_one (j := k + 1) (by rw [cells_len]; exact h) (good_le (by rw [cells_len]; exact h) (by rw [cells_at h, cells_at (by omega)]; exact hle))
theorem step_good {ps : List R2} {k : Nat} (hok : rowsOk ps = true) (h : k + 1 < ps.length) (hle : ¬ ps[k + 1].c ≤ ps[k].c) : good (cellsP ps) (k + 1) = true :=
  good_lt (by rw [cells_len]; exact h) (by rw [cells_at h]; exact inn_row hok h) (by rw [cells_at h, cells_at (by omega)]; omega)

theorem stepsS_le {c : Cm} (h1 : c.ps.length ≤ maxLen) (h2 : c.rs.length ≤ maxLen) : 0 ≤ stepsS c ∧ stepsS c ≤ 9223372036854775807 := by
  unfold maxLen at h1 h2
  unfold stepsS
  split
  · omega
  · split <;> omega
theorem undrew {w w' : World} (h : Below w.drew.heap.size w.drew w') : Below w.heap.size w w' := ⟨h.os, h.tape, h.output, h.size, h.block⟩
set_option maxRecDepth 100000 in
set_option maxHeartbeats 12800000 in
theorem specOkE (C : Cm) (who rv ph at' wv : Int) (ps : List R2) (rs : List Int) (hC : C = ⟨who, rv, ph, at', wv, ps, rs⟩) (vP vR : Value) (B : Nat) (w : World) (hv : SeeC B w vP vR ps rs) (hB : B ≤ w.heap.size) :
    Calls Tryd.prog 22 #[.agg #[.int .i64 who, .int .i64 rv, .int .i64 ph, .int .i64 at', .int .i64 wv, vP, vR]] w fun e w' => e = .returned (.bool (commitOk C)) ∧ Below w.heap.size w w' := by
  have hroom := hv.p.room
  obtain ⟨ap, kp, rfl⟩ := hv.p.form
  obtain ⟨ar, kr, rfl⟩ := hv.r.form
  obtain ⟨g, hg⟩ : ∃ g, w.heap.size = g := ⟨_, rfl⟩
  have X0 := Blk.new w #[.int .i64 who, .int .i64 rv, .int .i64 ph, .int .i64 at', .int .i64 wv, .slice ap ps.length kp, .slice ar rs.length kr] 36
  have b0 := alloc_below w (.cells #[.int .i64 who, .int .i64 rv, .int .i64 ph, .int .i64 at', .int .i64 wv, .slice ap ps.length kp, .slice ar rs.length kr] 36)
  have HL : ∀ W, Calls Tryd.prog 56 #[.agg #[.int .i64 who, .int .i64 rv, .int .i64 ph, .int .i64 at', .int .i64 wv, .slice ap ps.length kp, .slice ar rs.length kr]] W fun e w' => e = .returned (.int .i64 (stepsS C)) ∧ Below W.heap.size W w' := fun W => by subst hC; exact lenC _ ap ar kp kr W
  rw [hg] at X0 b0 hB ⊢
  have cR := fun W (b : Below g w W) => Logs.specOk _ ps B W (hv.p.on b hB)
  have cI := fun W (b : Below g w W) => specRising _ rs B W (hv.r.on b hB) (by have := b.size; omega)
  have SP := (show Hid (∀ W, Below g w W → Sees2 B W (.slice ap ps.length kp) ps) from fun W b => hv.p.on b hB)
  have i0 := fun W => Ops.innC who 1 99 W
  have i1 := fun W => Ops.innC rv 0 1000000 W
  have i2 := fun W => Ops.innC wv 0 1000000 W
  have i3 := fun W => Ops.innC ph 1 8 W
  have i4 := fun W (s : Int) => Ops.innC at' 0 s W
  obtain ⟨p0, h0⟩ : ∃ q, Ops.inn 1 99 who = q := ⟨_, rfl⟩
  obtain ⟨p1, h1⟩ : ∃ q, Ops.inn 0 1000000 rv = q := ⟨_, rfl⟩
  obtain ⟨p2, h2⟩ : ∃ q, Ops.inn 0 1000000 wv = q := ⟨_, rfl⟩
  obtain ⟨p3, h3⟩ : ∃ q, Ops.inn 1 8 ph = q := ⟨_, rfl⟩
  obtain ⟨p4, h4⟩ : ∃ q, rowsOk ps = q := ⟨_, rfl⟩
  obtain ⟨p5, h5⟩ : ∃ q, rises rs = q := ⟨_, rfl⟩
  have HF : Hid ((p0 && (p1 && (p2 && (p3 && (p4 && p5))))) = false → commitOk C = false) := by subst hC; exact all_of h0 h1 h2 h3 h4 h5
  have HP : Hid (p0 = true → p1 = true → p2 = true → p3 = true → p4 = true → p5 = true → rises (cellsP ps) = true → ∀ s, stepsS C = s → Ops.inn 0 (s - 1) at' = commitOk C) := by
    rintro rfl rfl rfl rfl rfl rfl h6 s hs
    subst hC
    exact last_of h0 h1 h2 h3 h4 h5 h6 hs
  have HB : Hid (rises (cellsP ps) = false → commitOk C = false) := by subst hC; intro h; exact commit_no3 h
  have HG : Hid (p4 = true → rowsOk ps = true) := fun h => h4.trans h
  rw [h0] at i0; rw [h1] at i1; rw [h2] at i2; rw [h3] at i3; rw [h4] at cR; rw [h5] at cI
  obtain ⟨s, hs⟩ : ∃ s, stepsS C = s := ⟨_, rfl⟩
  have HS := (show Hid (stepsS C = s) from hs)
  rw [hs] at HL
  obtain ⟨hs0, hs1⟩ : 0 ≤ s ∧ s ≤ 9223372036854775807 := by rw [← hs]; subst hC; exact stepsS_le hroom (seesI_room hv.r)
  obtain ⟨res, hres⟩ : ∃ r, commitOk C = r := ⟨_, rfl⟩
  rw [hres] at HF HP HB ⊢
  obtain ⟨n, hn⟩ : ∃ n, ps.length = n := ⟨_, rfl⟩
  have HN := (show Hid (ps.length = n) from hn)
  obtain ⟨m, hm⟩ : ∃ m, rs.length = m := ⟨_, rfl⟩
  rw [hn] at X0 b0 HL cR SP hroom ⊢
  rw [hm] at X0 b0 HL cI ⊢
  obtain ⟨W0, hW0⟩ : ∃ W, w.alloc (.cells #[.int .i64 who, .int .i64 rv, .int .i64 ph, .int .i64 at', .int .i64 wv, .slice ap n kp, .slice ar m kr] 36) = W := ⟨_, rfl⟩
  rw [hW0] at X0 b0
  have x0 := X0.cell 0; have x1 := X0.cell 1; have x2 := X0.cell 2; have x3 := X0.cell 3; have x4 := X0.cell 4; have x5 := X0.cell 5; have x6 := X0.cell 6
  have hnI : (n : Int) ≤ 9223372036854775807 := by unfold maxLen at hroom; omega
  clear h0 h1 h2 h3 h4 h5 hC hs hres hn hm hv hroom
  cases p0
  · have hf := HF.out rfl
    subst hf
    go_enter Tryd.func22, Tryd.ntmps22
    go_wp2_with (first | (go_at_call_of 52 who; refine (i0 _).mono ?_; rintro e w1 ⟨rfl, rfl⟩))
    go_ret
    exact ⟨rfl, b0⟩
  cases p1
  · have hf := HF.out rfl
    subst hf
    go_enter Tryd.func22, Tryd.ntmps22
    go_wp2_with (first | (go_at_call_of 52 who; refine (i0 _).mono ?_; rintro e w1 ⟨rfl, rfl⟩) | (go_at_call_of 52 rv; refine (i1 _).mono ?_; rintro e w1 ⟨rfl, rfl⟩))
    go_ret
    exact ⟨rfl, b0⟩
  cases p2
  · have hf := HF.out rfl
    subst hf
    go_enter Tryd.func22, Tryd.ntmps22
    go_wp2_with (first | (go_at_call_of 52 who; refine (i0 _).mono ?_; rintro e w1 ⟨rfl, rfl⟩) | (go_at_call_of 52 rv; refine (i1 _).mono ?_; rintro e w1 ⟨rfl, rfl⟩) | (go_at_call_of 52 wv; refine (i2 _).mono ?_; rintro e w1 ⟨rfl, rfl⟩))
    go_ret
    exact ⟨rfl, b0⟩
  cases p3
  · have hf := HF.out rfl
    subst hf
    go_enter Tryd.func22, Tryd.ntmps22
    go_wp2_with (first | (go_at_call_of 52 who; refine (i0 _).mono ?_; rintro e w1 ⟨rfl, rfl⟩) | (go_at_call_of 52 rv; refine (i1 _).mono ?_; rintro e w1 ⟨rfl, rfl⟩) | (go_at_call_of 52 wv; refine (i2 _).mono ?_; rintro e w1 ⟨rfl, rfl⟩) | (go_at_call_of 52 ph; refine (i3 _).mono ?_; rintro e w1 ⟨rfl, rfl⟩))
    go_ret
    exact ⟨rfl, b0⟩
  cases p4
  · have hf := HF.out rfl
    subst hf
    go_enter Tryd.func22, Tryd.ntmps22
    go_wp2_with (first | (go_at_call_of 52 who; refine (i0 _).mono ?_; rintro e w1 ⟨rfl, rfl⟩) | (go_at_call_of 52 rv; refine (i1 _).mono ?_; rintro e w1 ⟨rfl, rfl⟩) | (go_at_call_of 52 wv; refine (i2 _).mono ?_; rintro e w1 ⟨rfl, rfl⟩) | (go_at_call_of 52 ph; refine (i3 _).mono ?_; rintro e w1 ⟨rfl, rfl⟩) | (go_at_call 54; refine (cR _ b0).mono ?_; rintro e w1 ⟨rfl, rfl⟩))
    go_ret
    exact ⟨rfl, b0⟩
  have hrok := HG.out rfl
  have HOK := (show Hid _ from hrok)
  clear hrok
  go_enter Tryd.func22, Tryd.ntmps22
  go_wp2_with (first | (go_at_call_of 52 who; refine (i0 _).mono ?_; rintro e w1 ⟨rfl, rfl⟩) | (go_at_call_of 52 rv; refine (i1 _).mono ?_; rintro e w1 ⟨rfl, rfl⟩) | (go_at_call_of 52 wv; refine (i2 _).mono ?_; rintro e w1 ⟨rfl, rfl⟩) | (go_at_call_of 52 ph; refine (i3 _).mono ?_; rintro e w1 ⟨rfl, rfl⟩) | (go_at_call 54; refine (cR _ b0).mono ?_; rintro e w1 ⟨rfl, rfl⟩) | (go_at_call 55; fail))
  refine (cI _ b0).mono ?_
  rintro e w2 ⟨rfl, b2⟩
  have X2 := X0.on b2 X0.lt
  have bb := b0.trans (b2.mono (by have := b0.size; omega))
  clear x0 x1 x2 x3 x4 x5 x6 hW0 X0 b0 b2
  cases p5
  · have hf := HF.out rfl
    subst hf
    go_wp2
    go_ret
    exact ⟨rfl, bb⟩
  go_wp2
  go_loopw [3] (fun i wr => ∃ k : Nat, (k ≤ n ∨ k = 1) ∧ 1 ≤ k ∧ i = .int .i64 k ∧ (∀ j, j < k → j < n → good (cellsP ps) j = true) ∧ Below g w wr ∧ Blk wr g #[.int .i64 who, .int .i64 rv, .int .i64 ph, .int .i64 at', .int .i64 wv, .slice ap n kp, .slice ar m kr] 36) (fun i _ => n - (intOf i).toNat)
  case atStart => exact ⟨1, by omega, by omega, by go_num, fun j h1 h2 => by
    obtain rfl : j = 0 := by omega
    exact first_good HOK.out (by rw [HN.out]; exact h2), bb, X2⟩
  case round =>
    obtain ⟨k, hk, hk1, rfl, hall, hb, X⟩ := hrel
    clear X2 bb
    have hsz : g ≤ wr.heap.size := by have := hb.size; omega
    have x5 := X.cell 5
    by_cases hlt : k < n
    · obtain ⟨b, off, rfl, hbB, hc⟩ := (SP.out wr hb).open (by rw [HN.out]; omega)
      obtain ⟨l, rfl⟩ : ∃ l, k = l + 1 := ⟨k - 1, by omega⟩
      have hkl : l + 1 < ps.length := by rw [HN.out]; omega
      have hll : l < ps.length := by omega
      obtain ⟨a0, a1⟩ := at2 (hc (l + 1) hkl)
      obtain ⟨d0, d1⟩ := at2 (hc l hll)
      have hbad := fun h => HB.out (step_bad hkl h)
      have hgood := fun h => step_good HOK.out hkl h
      obtain ⟨x, hx⟩ : ∃ x, ps[l + 1] = x := ⟨_, rfl⟩
      obtain ⟨y, hy⟩ : ∃ y, ps[l] = y := ⟨_, rfl⟩
      rw [hx] at a0 hbad hgood
      rw [hy] at d0 hbad hgood
      have HBad := (show Hid _ from hbad); have HGood := (show Hid _ from hgood); have HA := (show Hid _ from hall)
      obtain ⟨k', hk'⟩ : ∃ k', l + 1 = k' := ⟨_, rfl⟩
      have e1 : (k' : Int) - 1 = (l : Int) := by omega
      rw [hk'] at a0 hlt HA HGood hk hk1 ⊢
      change wr.cell? ⟨b, off + k' * 2, none⟩ = _ at a0
      change wr.cell? ⟨b, off + l * 2, none⟩ = _ at d0
      have j1 : (k' : Int) < n := by omega
      have j0 : (0 : Int) ≤ k' := by omega
      have j4 : (l : Int) < n := by omega
      have j5 : (0 : Int) ≤ l := by omega
      have HK2 : Hid (k' < n) := hlt
      clear hc hx hy hall hbad hgood hk' hkl hll a1 d1 hlt hk hk1
      by_cases hle : x.c ≤ y.c
      · have hf := HBad.out hle
        subst hf
        go_wp2_with fail
        go_quiet (fail)
        go_wp2
        go_ret
        exact ⟨rfl, bdN hb _⟩
      have HF := (show Hid _ from HGood.out hle)
      go_wp2_with fail
      go_quiet (fail)
      go_wp2
      go_roundw
      case rel => exact ⟨k' + 1, by have := HK2.out; omega, by omega, by go_num, fun j h1 h2 => by
        rcases Nat.lt_succ_iff_lt_or_eq.1 h1 with h | h
        · exact HA.out j h h2
        · subst h; exact HF.out, bdN hb _, X⟩
      case measure => have := HK2.out; simp [intOf]; omega
    · have hT : rises (cellsP ps) = true := rises_mk fun j hj => by rw [cells_len, HN.out] at hj; exact hall j (by omega) hj
      have hL := HP.out (by trivial) (by trivial) (by trivial) (by trivial) (by trivial) (by trivial) hT s HS.out
      have i1 : ¬ (k : Int) < n := by omega
      have HLast := (show Hid _ from hL)
      have HK := (show Hid _ from hk1)
      have x0 := X.cell 0; have x1 := X.cell 1; have x2 := X.cell 2; have x3 := X.cell 3; have x4 := X.cell 4; have x6 := X.cell 6
      clear hall hT hL hk hk1 hlt
      go_wp2_with fail
      have hw1 : IntKind.i64.wrap (s - 1) = s - 1 := by rw [IntKind.wrap_i64]; omega
      refine Code.wp_mono (Q := fun e a' W' => e = .normal ∧ a'.tmps.getD 2 undef = .bool (Ops.inn 0 (s - 1) at') ∧ a'.defers = [] ∧ Below g w W') ?_ ?_
      rotate_left
      · have XD := X.drew
        have bD : Below g w wr.drew := hb.drew
        obtain ⟨WD, hWD⟩ : ∃ WD, wr.drew = WD := ⟨_, rfl⟩
        refine wp_region_held_drew (S := fun W => W.cell? ⟨g, 0, none⟩ = some (.int .i64 who) ∧ W.cell? ⟨g, 1, none⟩ = some (.int .i64 rv) ∧ W.cell? ⟨g, 2, none⟩ = some (.int .i64 ph) ∧ W.cell? ⟨g, 3, none⟩ = some (.int .i64 at') ∧ W.cell? ⟨g, 4, none⟩ = some (.int .i64 wv) ∧ W.cell? ⟨g, 5, none⟩ = some (.slice ap n kp) ∧ W.cell? ⟨g, 6, none⟩ = some (.slice ar m kr)) (by kernel_rfl) ⟨x0, x1, x2, x3, x4, x5, x6⟩ (fun hHeld => ?_)
        rw [hWD] at XD bD hHeld ⊢
        clear hWD x0 x1 x2 x3 x4 x5 x6
        refine takeH (i := 0) (some 59) (.pointer (some ⟨g, 3, none⟩)) rfl rfl (by kernel_rfl) (by kernel_rfl) (by kernel_rfl) (fun _ _ _ h => by cases h.1) (Or.inl ⟨by rfl, fun w hSw => by (try dsimp only at hSw); go_simp⟩) (by assumption) ?_
        simp only [Act.put, List.setIfInBounds_toArray, List.set_cons_zero, List.set_cons_succ]
        refine takeH (i := 1) (some 60) (.int .i64 at') rfl rfl (by kernel_rfl) (by kernel_rfl) (by kernel_rfl) (fun _ _ _ h => by cases h.1) (Or.inl ⟨by rfl, fun w hSw => by (try dsimp only at hSw); go_simp⟩) (by assumption) ?_
        simp only [Act.put, List.setIfInBounds_toArray, List.set_cons_zero, List.set_cons_succ]
        refine takeH (i := 2) (some 61) (.agg #[.int .i64 who, .int .i64 rv, .int .i64 ph, .int .i64 at', .int .i64 wv, .slice ap n kp, .slice ar m kr]) rfl rfl (by kernel_rfl) (by kernel_rfl) (by kernel_rfl) (fun _ _ _ h => by cases h.1) (Or.inl ⟨by rfl, fun w hSw => by (try dsimp only at hSw); go_simp⟩) (by assumption) ?_
        simp only [Act.put, List.setIfInBounds_toArray, List.set_cons_zero, List.set_cons_succ]
        refine wpAnyH_ready (rs := [3]) (by kernel_rfl) (by simp) ?_
        refine AllReadyH.cons rfl (fun K hK => ?_) AllReadyH.nil
        go_simp
        refine (HL WD).mono ?_
        rintro e w7 ⟨rfl, b7⟩
        have X7 := XD.on b7 XD.lt
        have bb7 := bD.trans (b7.mono (by have := bD.size; omega))
        have c7 : w7.cell? ⟨g, 0, none⟩ = some (.int .i64 who) ∧ w7.cell? ⟨g, 1, none⟩ = some (.int .i64 rv) ∧ w7.cell? ⟨g, 2, none⟩ = some (.int .i64 ph) ∧ w7.cell? ⟨g, 3, none⟩ = some (.int .i64 at') ∧ w7.cell? ⟨g, 4, none⟩ = some (.int .i64 wv) ∧ w7.cell? ⟨g, 5, none⟩ = some (.slice ap n kp) ∧ w7.cell? ⟨g, 6, none⟩ = some (.slice ar m kr) := ⟨X7.cell 0, X7.cell 1, X7.cell 2, X7.cell 3, X7.cell 4, X7.cell 5, X7.cell 6⟩
        go_simp
        refine hK.out _ _ c7 (fun _ => ?_)
        clear hK K
        try simp only [Act.put, List.setIfInBounds_toArray, List.set_cons_zero, List.set_cons_succ]
        refine takeH (i := 4) (some 63) (.int .i64 (s - 1)) rfl rfl (by kernel_rfl) (by kernel_rfl) (by kernel_rfl) (fun _ _ _ h => by cases h.1) (Or.inl ⟨by rfl, fun w hSw => by (try dsimp only at hSw); go_simp⟩) (by assumption) ?_
        simp only [Act.put, List.setIfInBounds_toArray, List.set_cons_zero, List.set_cons_succ]
        refine wpAnyH_ready (rs := [5]) (by kernel_rfl) (by simp) ?_
        refine AllReadyH.cons rfl (fun K hK => ?_) AllReadyH.nil
        go_simp
        refine (i4 _ (s - 1)).mono ?_
        rintro e w8 ⟨rfl, rfl⟩
        go_simp
        refine hK.out _ _ c7 (fun _ => ?_)
        clear hK K
        try simp only [Act.put, List.setIfInBounds_toArray, List.set_cons_zero, List.set_cons_succ]
        refine takeH (i := 6) (some 2) (.bool (Ops.inn 0 (s - 1) at')) rfl rfl (by kernel_rfl) (by kernel_rfl) (by kernel_rfl) (fun _ _ _ h => by cases h.1) (Or.inl ⟨by rfl, fun w hSw => by (try dsimp only at hSw); go_simp⟩) (by assumption) ?_
        simp only [Act.put, List.setIfInBounds_toArray, List.set_cons_zero, List.set_cons_succ]
        refine wpAnyH_done (by kernel_rfl) ?_ _
        exact ⟨rfl, rfl, rfl, bb7⟩
      rintro e ⟨tmps, dfs⟩ W3 ⟨rfl, h2, h3, h4⟩
      dsimp only at h2 h3
      subst h3
      go_wp2
      refine bodyPost_ret (v := .bool (Ops.inn 0 (s - 1) at')) (by simp [results, Tryd.results22, go_sem]; simpa using h2) rfl ?_
      exact ⟨by rw [HLast.out], h4⟩
theorem all_ofI {C : Cm} {p0 p1 p2 p4 p6 p5 : Bool} (h0 : Ops.inn 1 99 C.who = p0) (h1 : Ops.inn 0 1000000 C.rv = p1) (h2 : Ops.inn 0 1000000 C.wv = p2) (h4 : rowsOk C.ps = p4) (h6 : rises (cellsP C.ps) = p6) (h5 : rises C.rs = p5) :
    commitOk C = (((p0 && p1) && p2) && (p4 && (p6 && (p5 && decide (0 ≤ C.at' ∧ C.at' < C.steps))))) := by
  unfold commitOk numsOk
  rw [h0, h1, h2, h4, h6, h5]
set_option maxRecDepth 100000 in
set_option maxHeartbeats 12800000 in
theorem implOkE (C : Cm) (who rv ph at' wv : Int) (ps : List R2) (rs : List Int) (hC : C = ⟨who, rv, ph, at', wv, ps, rs⟩) (vP vR : Value) (B : Nat) (w : World) (hv : SeeC B w vP vR ps rs) (hB : B ≤ w.heap.size) :
    Calls Tryd.prog 35 #[.agg #[.int .i64 who, .int .i64 rv, .int .i64 ph, .int .i64 at', .int .i64 wv, vP, vR]] w fun e w' => e = .returned (.bool (commitOk C)) ∧ Below w.heap.size w w' := by
  have hroom := hv.p.room
  obtain ⟨ap, kp, rfl⟩ := hv.p.form
  obtain ⟨ar, kr, rfl⟩ := hv.r.form
  obtain ⟨g, hg⟩ : ∃ g, w.heap.size = g := ⟨_, rfl⟩
  have X0 := Blk.new w #[.int .i64 who, .int .i64 rv, .int .i64 ph, .int .i64 at', .int .i64 wv, .slice ap ps.length kp, .slice ar rs.length kr] 36
  have b0 := alloc_below w (.cells #[.int .i64 who, .int .i64 rv, .int .i64 ph, .int .i64 at', .int .i64 wv, .slice ap ps.length kp, .slice ar rs.length kr] 36)
  have HL : ∀ W, Calls Tryd.prog 68 #[.agg #[.int .i64 who, .int .i64 rv, .int .i64 ph, .int .i64 at', .int .i64 wv, .slice ap ps.length kp, .slice ar rs.length kr]] W fun e w' => e = .returned (.int .i64 C.steps) ∧ Below W.heap.size W w' := fun W => by subst hC; exact stepsC _ ap ar kp kr W
  rw [hg] at X0 b0 hB ⊢
  have cR := fun W (b : Below g w W) => Logs.implOk _ ps B W (hv.p.on b hB) (by have := b.size; omega)
  have cP := fun (h : rowsOk ps = true) W (b : Below g w W) => rowCellsC _ ps B W (hv.p.on b hB) (by have := b.size; omega) (by have := rowsOk_out h; omega)
  have cI := fun W (b : Below g w W) => implRise _ rs B W (hv.r.on b hB)
  have i0 := fun W => ownerC who W
  have i1 := fun W => clockC rv W
  have i2 := fun W => clockC wv W
  obtain ⟨p0, h0⟩ : ∃ q, Ops.inn 1 99 who = q := ⟨_, rfl⟩
  obtain ⟨p1, h1⟩ : ∃ q, Ops.inn 0 1000000 rv = q := ⟨_, rfl⟩
  obtain ⟨p2, h2⟩ : ∃ q, Ops.inn 0 1000000 wv = q := ⟨_, rfl⟩
  obtain ⟨p4, h4⟩ : ∃ q, rowsOk ps = q := ⟨_, rfl⟩
  obtain ⟨p6, h6⟩ : ∃ q, rises (cellsP ps) = q := ⟨_, rfl⟩
  obtain ⟨p5, h5⟩ : ∃ q, rises rs = q := ⟨_, rfl⟩
  obtain ⟨st, hst⟩ : ∃ q, C.steps = q := ⟨_, rfl⟩
  have HF : Hid (commitOk C = (((p0 && p1) && p2) && (p4 && (p6 && (p5 && decide (0 ≤ at' ∧ at' < st)))))) := by show _ = _; rw [← hst]; subst hC; exact all_ofI h0 h1 h2 h4 h6 h5
  rw [h0] at i0; rw [h1] at i1; rw [h2] at i2; rw [h4] at cR cP; rw [h5] at cI
  have cS := fun W (v' : Value) (hO : Ints.Owns W.heap.size W v' (cellsP ps)) => hO
  have H6 := (show Hid (rises (cellsP ps) = p6) from h6)
  rw [hst] at HL
  obtain ⟨res, hres⟩ : ∃ r, commitOk C = r := ⟨_, rfl⟩
  rw [hres] at HF ⊢
  obtain ⟨n, hn⟩ : ∃ n, ps.length = n := ⟨_, rfl⟩
  obtain ⟨m, hm⟩ : ∃ m, rs.length = m := ⟨_, rfl⟩
  rw [hn] at X0 b0 HL cR cP hroom ⊢
  rw [hm] at X0 b0 HL cI ⊢
  obtain ⟨W0, hW0⟩ : ∃ W, w.alloc (.cells #[.int .i64 who, .int .i64 rv, .int .i64 ph, .int .i64 at', .int .i64 wv, .slice ap n kp, .slice ar m kr] 36) = W := ⟨_, rfl⟩
  rw [hW0] at X0 b0
  have x0 := X0.cell 0; have x1 := X0.cell 1; have x4 := X0.cell 4; have x5 := X0.cell 5
  clear h0 h1 h2 h4 h5 h6 hC hres hn hm hv hroom hst cS
  cases p0
  · have hf := HF.out; simp only [Bool.false_and] at hf
    subst hf
    go_enter Tryd.func35, Tryd.ntmps35
    go_wp2_with (first | (go_at_call 63; refine (i0 _).mono ?_; rintro e w1 ⟨rfl, rfl⟩))
    go_ret
    exact ⟨rfl, b0⟩
  cases p1
  · have hf := HF.out; simp only [Bool.false_and, Bool.true_and] at hf
    subst hf
    go_enter Tryd.func35, Tryd.ntmps35
    go_wp2_with (first | (go_at_call 63; refine (i0 _).mono ?_; rintro e w1 ⟨rfl, rfl⟩) | (go_at_call_of 64 rv; refine (i1 _).mono ?_; rintro e w1 ⟨rfl, rfl⟩))
    go_ret
    exact ⟨rfl, b0⟩
  cases p2
  · have hf := HF.out; simp only [Bool.false_and, Bool.true_and, Bool.and_false] at hf
    subst hf
    go_enter Tryd.func35, Tryd.ntmps35
    go_wp2_with (first | (go_at_call 63; refine (i0 _).mono ?_; rintro e w1 ⟨rfl, rfl⟩) | (go_at_call_of 64 rv; refine (i1 _).mono ?_; rintro e w1 ⟨rfl, rfl⟩) | (go_at_call_of 64 wv; refine (i2 _).mono ?_; rintro e w1 ⟨rfl, rfl⟩))
    go_ret
    exact ⟨rfl, b0⟩
  go_enter Tryd.func35, Tryd.ntmps35
  go_wp2_with (first | (go_at_call 63; refine (i0 _).mono ?_; rintro e w1 ⟨rfl, rfl⟩) | (go_at_call_of 64 rv; refine (i1 _).mono ?_; rintro e w1 ⟨rfl, rfl⟩) | (go_at_call_of 64 wv; refine (i2 _).mono ?_; rintro e w1 ⟨rfl, rfl⟩) | (go_at_call 65; fail))
  refine (cR _ b0).mono ?_
  rintro e w1 ⟨rfl, b1⟩
  have X1 := X0.on b1 X0.lt
  have bb1 := b0.trans (b1.mono (by have := b0.size; omega))
  clear x0 x1 x4 x5 X0 b0 b1 hW0
  cases p4
  · have hf := HF.out; simp only [Bool.false_and, Bool.true_and, Bool.and_false] at hf
    subst hf
    go_wp2
    go_ret
    exact ⟨rfl, bb1⟩
  have x5 := X1.cell 5
  go_wp2_with fail
  refine (cP (by trivial) _ bb1).mono ?_
  rintro e w2 ⟨v2, rfl, O2, b2⟩
  have X2 := X1.on b2 X1.lt
  have bb2 := bb1.trans (b2.mono (by have := bb1.size; omega))
  have cS := implRise v2 (cellsP ps) _ w2 O2.sees
  rw [H6.out] at cS
  clear x5 X1 b2 bb1
  go_wp2_with fail
  refine cS.mono ?_
  rintro e w3 ⟨rfl, rfl⟩
  cases p6
  · have hf := HF.out; simp only [Bool.false_and, Bool.true_and, Bool.and_false] at hf
    subst hf
    go_wp2
    go_ret
    exact ⟨rfl, bb2⟩
  have x6 := X2.cell 6
  go_wp2_with fail
  refine (cI _ bb2).mono ?_
  rintro e w4 ⟨rfl, rfl⟩
  cases p5
  · have hf := HF.out; simp only [Bool.false_and, Bool.true_and, Bool.and_false] at hf
    subst hf
    go_wp2
    go_ret
    exact ⟨rfl, bb2⟩
  have hf := HF.out
  simp only [Bool.true_and] at hf
  have HF2 := (show Hid _ from hf)
  clear hf HF cS
  have x3 := X2.cell 3
  by_cases hat : 0 ≤ at'
  · have x0 := X2.cell 0; have x1 := X2.cell 1; have x2 := X2.cell 2; have x4 := X2.cell 4; have x5 := X2.cell 5
    have HR : Hid (decide (at' < st) = res) := by show _ = _; rw [HF2.out]; simp [hat]
    clear HF2
    go_wp2_with fail
    refine Code.wp_mono (Q := fun e a' W' => e = .normal ∧ a'.tmps.getD 2 undef = .bool (decide (at' < st)) ∧ a'.defers = [] ∧ Below g w W') ?_ ?_
    rotate_left
    · have XD := X2.drew
      have bD : Below g w w2.drew := bb2.drew
      obtain ⟨WD, hWD⟩ : ∃ WD, w2.drew = WD := ⟨_, rfl⟩
      refine wp_region_held_drew (S := fun W => W.cell? ⟨g, 0, none⟩ = some (.int .i64 who) ∧ W.cell? ⟨g, 1, none⟩ = some (.int .i64 rv) ∧ W.cell? ⟨g, 2, none⟩ = some (.int .i64 ph) ∧ W.cell? ⟨g, 3, none⟩ = some (.int .i64 at') ∧ W.cell? ⟨g, 4, none⟩ = some (.int .i64 wv) ∧ W.cell? ⟨g, 5, none⟩ = some (.slice ap n kp) ∧ W.cell? ⟨g, 6, none⟩ = some (.slice ar m kr)) (by kernel_rfl) ⟨x0, x1, x2, x3, x4, x5, x6⟩ (fun hHeld => ?_)
      rw [hWD] at XD bD hHeld ⊢
      clear hWD x0 x1 x2 x3 x4 x5 x6
      refine takeH (i := 0) (some 36) (.pointer (some ⟨g, 3, none⟩)) rfl rfl (by kernel_rfl) (by kernel_rfl) (by kernel_rfl) (fun _ _ _ h => by cases h.1) (Or.inl ⟨by rfl, fun w hSw => by (try dsimp only at hSw); go_simp⟩) (by assumption) ?_
      simp only [Act.put, List.setIfInBounds_toArray, List.set_cons_zero, List.set_cons_succ]
      refine takeH (i := 1) (some 37) (.int .i64 at') rfl rfl (by kernel_rfl) (by kernel_rfl) (by kernel_rfl) (fun _ _ _ h => by cases h.1) (Or.inl ⟨by rfl, fun w hSw => by (try dsimp only at hSw); go_simp⟩) (by assumption) ?_
      simp only [Act.put, List.setIfInBounds_toArray, List.set_cons_zero, List.set_cons_succ]
      refine takeH (i := 2) (some 38) (.bool true) rfl rfl (by kernel_rfl) (by kernel_rfl) (by kernel_rfl) (fun _ _ _ h => by cases h.1) (Or.inl ⟨by rfl, fun w hSw => by (try dsimp only at hSw); go_simp⟩) (by assumption) ?_
      simp only [Act.put, List.setIfInBounds_toArray, List.set_cons_zero, List.set_cons_succ]
      refine takeH (i := 3) (some 39) (.bool true) rfl rfl (by kernel_rfl) (by kernel_rfl) (by kernel_rfl) (fun _ _ _ h => by cases h.1) (Or.inl ⟨by rfl, fun w hSw => by (try dsimp only at hSw); go_simp⟩) (by assumption) ?_
      simp only [Act.put, List.setIfInBounds_toArray, List.set_cons_zero, List.set_cons_succ]
      refine takeH (i := 4) (some 40) (.pointer (some ⟨g, 3, none⟩)) rfl rfl (by kernel_rfl) (by kernel_rfl) (by kernel_rfl) (fun _ _ _ h => by cases h.1) (Or.inl ⟨by rfl, fun w hSw => by (try dsimp only at hSw); go_simp⟩) (by assumption) ?_
      simp only [Act.put, List.setIfInBounds_toArray, List.set_cons_zero, List.set_cons_succ]
      refine takeH (i := 5) (some 41) (.int .i64 at') rfl rfl (by kernel_rfl) (by kernel_rfl) (by kernel_rfl) (fun _ _ _ h => by cases h.1) (Or.inl ⟨by rfl, fun w hSw => by (try dsimp only at hSw); go_simp⟩) (by assumption) ?_
      simp only [Act.put, List.setIfInBounds_toArray, List.set_cons_zero, List.set_cons_succ]
      refine takeH (i := 6) (some 42) (.agg #[.int .i64 who, .int .i64 rv, .int .i64 ph, .int .i64 at', .int .i64 wv, .slice ap n kp, .slice ar m kr]) rfl rfl (by kernel_rfl) (by kernel_rfl) (by kernel_rfl) (fun _ _ _ h => by cases h.1) (Or.inl ⟨by rfl, fun w hSw => by (try dsimp only at hSw); go_simp⟩) (by assumption) ?_
      simp only [Act.put, List.setIfInBounds_toArray, List.set_cons_zero, List.set_cons_succ]
      refine wpAnyH_ready (rs := [7]) (by kernel_rfl) (by simp) ?_
      refine AllReadyH.cons rfl (fun K hK => ?_) AllReadyH.nil
      go_simp
      refine (HL WD).mono ?_
      rintro e w7 ⟨rfl, b7⟩
      have X7 := XD.on b7 XD.lt
      have bb7 := bD.trans (b7.mono (by have := bD.size; omega))
      have c7 : w7.cell? ⟨g, 0, none⟩ = some (.int .i64 who) ∧ w7.cell? ⟨g, 1, none⟩ = some (.int .i64 rv) ∧ w7.cell? ⟨g, 2, none⟩ = some (.int .i64 ph) ∧ w7.cell? ⟨g, 3, none⟩ = some (.int .i64 at') ∧ w7.cell? ⟨g, 4, none⟩ = some (.int .i64 wv) ∧ w7.cell? ⟨g, 5, none⟩ = some (.slice ap n kp) ∧ w7.cell? ⟨g, 6, none⟩ = some (.slice ar m kr) := ⟨X7.cell 0, X7.cell 1, X7.cell 2, X7.cell 3, X7.cell 4, X7.cell 5, X7.cell 6⟩
      go_simp
      refine hK.out _ _ c7 (fun _ => ?_)
      clear hK K
      try simp only [Act.put, List.setIfInBounds_toArray, List.set_cons_zero, List.set_cons_succ]
      refine takeH (i := 8) (some 44) (.bool (decide (at' < st))) rfl rfl (by kernel_rfl) (by kernel_rfl) (by kernel_rfl) (fun _ _ _ h => by cases h.1) (Or.inl ⟨by rfl, fun w hSw => by (try dsimp only at hSw); go_simp⟩) (by assumption) ?_
      simp only [Act.put, List.setIfInBounds_toArray, List.set_cons_zero, List.set_cons_succ]
      refine takeH (i := 9) (some 45) (.bool (decide (at' < st))) rfl rfl (by kernel_rfl) (by kernel_rfl) (by kernel_rfl) (fun _ _ _ h => by cases h.1) (Or.inl ⟨by rfl, fun w hSw => by (try dsimp only at hSw); go_simp⟩) (by assumption) ?_
      simp only [Act.put, List.setIfInBounds_toArray, List.set_cons_zero, List.set_cons_succ]
      refine takeH (i := 10) (some 2) (.bool (decide (at' < st))) rfl rfl (by kernel_rfl) (by kernel_rfl) (by kernel_rfl) (fun _ _ _ h => by cases h.1) (Or.inl ⟨by rfl, fun w hSw => by (try dsimp only at hSw); go_simp⟩) (by assumption) ?_
      simp only [Act.put, List.setIfInBounds_toArray, List.set_cons_zero, List.set_cons_succ]
      refine wpAnyH_done (by kernel_rfl) ?_ _
      exact ⟨rfl, rfl, rfl, bb7⟩
    rintro e ⟨tmps, dfs⟩ W3 ⟨rfl, h2, h3, h4⟩
    dsimp only at h2 h3
    subst h3
    go_wp2
    refine bodyPost_ret (v := .bool (decide (at' < st))) (by simp [results, Tryd.results35, go_sem]; simpa using h2) rfl ?_
    exact ⟨by rw [HR.out], h4⟩
  · obtain rfl : res = false := by rw [HF2.out]; simp [hat]
    have d0 : decide (0 ≤ at') = false := decide_eq_false hat
    clear HF2
    go_wp2_with fail
    go_quiet (fail)
    go_wp2
    go_ret
    exact ⟨rfl, bdN bb2 _⟩
end Commits
end Go.Proofs.YtppikpdphcfomaaDoor
