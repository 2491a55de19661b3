/- ProbeStep as written. -/
import Derived.Test.YtpjcbdanahiapaaProbeImplW
import Derived.Laws.EntriesVeiled
import Derived.Test.YtpjcbdanahiapaaTake
set_option linter.unusedVariables false
set_option linter.unusedSimpArgs false
namespace Go.Proofs.Ytpjcbdanahiapaa
open Go.RowKit
namespace Probes
open Bas

theorem cell_sets {W : World} {p b i : Nat} (h : ¬ b = p) (u0 u1 u2 u3 : Value) : ((((W.setCell ⟨p, 0, none⟩ u0).setCell ⟨p, 1, none⟩ u1).setCell ⟨p, 2, none⟩ u2).setCell ⟨p, 3, none⟩ u3).cell? ⟨b, i, none⟩ = W.cell? ⟨b, i, none⟩ := by
  have k : ∀ (W : World) (j : Nat) (u : Value), (W.setCell ⟨p, j, none⟩ u).cell? ⟨b, i, none⟩ = W.cell? ⟨b, i, none⟩ := fun W j u => by
    have := Below.heap_setCell W ⟨p, j, none⟩ u b h
    simp [World.cell?, this]
  rw [k, k, k, k]
set_option maxRecDepth 100000 in
set_option maxHeartbeats 3200000 in
theorem implStep (c : Int) (v : Value) (ws : List Words.W3) (rv : Int) (p : P4) (B : Nat) (w : World) (hv : Words.Sees B w v ws) (hB : B ≤ w.heap.size) :
    Calls Try.prog 13 #[.agg #[.int .i64 c, v], .int .i64 rv, p.agg] w fun e w' => e = .returned (stepOf c ws rv p).agg ∧ Below w.heap.size w w' := by
  obtain ⟨a, cap, rfl⟩ := hv.form
  have P0 := PSt.new w c (.slice a ws.length cap) p hv hB
  obtain ⟨W0, hW0⟩ : ∃ W, ((w.alloc (.cells #[.int .i64 c, .slice a ws.length cap] 26)).alloc (.cells #[.int .i64 p.cell, .int .i64 p.phase, .int .i64 p.ver, .int .i64 p.val] 28)).alloc (.cells #[.int .i64 0, .int .i64 0, .int .i64 0, .int .i64 0] 28) = W := ⟨_, rfl⟩
  rw [hW0] at P0
  have cM := Words.implOk c _ ws B W0 P0.s (Nat.le_trans hB P0.b.size)
  obtain ⟨m, hm⟩ : ∃ m, Words.memOk c ws = m := ⟨_, rfl⟩
  rw [hm] at cM
  have k0 := P0.m.c0; have k1 := P0.m.c1
  cases m with
  | false =>
    have HS : Hid (stepOf c ws rv p = p) := step_no (by rw [hm]; rfl)
    clear hm
    go_enter Try.func13, Try.ntmps13
    go_wp2_with fail
    refine cM.mono ?_
    rintro e w1 ⟨rfl, b1⟩
    have P1 := P0.on b1
    have p0 := fun i => P1.p.cell i; have r0 := fun i => P1.r.cell i; have f0 := fun i => P1.r.froz i
    clear cM hW0 k0 k1
    go_wp2
    refine bodyPost_ret (v := p.agg) (by simp [results, Try.results13, go_sem, r0]) rfl ⟨by rw [HS.out], ?_⟩
    iterate 4 refine Below.setCell ?_ (by show w.heap.size ≤ w.heap.size + 1 + 1; omega) _
    exact P1.b
  | true =>
  have cP := fun W => implOk p W
  obtain ⟨q, hq⟩ : ∃ q, probeOk p = q := ⟨_, rfl⟩
  rw [hq] at cP
  cases q with
  | false =>
    have HS : Hid (stepOf c ws rv p = p) := step_no (by rw [hm, hq]; rfl)
    clear hm hq
    go_enter Try.func13, Try.ntmps13
    go_wp2_with fail
    refine cM.mono ?_
    rintro e w1 ⟨rfl, b1⟩
    have P1 := P0.on b1
    have p0 := fun i => P1.p.cell i
    clear cM hW0 k0 k1
    go_wp2_with fail
    refine (cP _).mono ?_
    rintro e w2 ⟨rfl, b2⟩
    have P2 := P1.on b2
    clear p0
    have p0 := fun i => P2.p.cell i; have r0 := fun i => P2.r.cell i; have f0 := fun i => P2.r.froz i
    go_wp2
    refine bodyPost_ret (v := p.agg) (by simp [results, Try.results13, go_sem, r0]) rfl ⟨by rw [HS.out], ?_⟩
    iterate 4 refine Below.setCell ?_ (by show w.heap.size ≤ w.heap.size + 1 + 1; omega) _
    exact P2.b
  | true =>
  have hS := step_yes (rv := rv) (show (Words.memOk c ws && probeOk p) = true by rw [hm, hq]; rfl)
  obtain ⟨h1, h2, -, -⟩ := probeOk_out hq
  have h8 := (Words.memOk_out hm).1
  obtain ⟨pc, pp, pv, px⟩ := p
  simp only at h1 h2
  obtain ⟨k, rfl⟩ := Int.eq_ofNat_of_zero_le h1.1
  obtain ⟨b, off, rfl, hb, A0⟩ := word_of hv k (by omega)
  obtain ⟨x, hx⟩ : ∃ x, wordAt ws (k : Int) = x := ⟨_, rfl⟩
  rw [hx] at A0 hS
  rw [h8] at P0 k1 cM hW0 ⊢
  have i1 : (k : Int) < 8 := by omega
  have i2 : (0 : Int) ≤ k := by omega
  have HS := (show Hid _ from hS)
  have hmf : ∀ (fn : Fn) (first cap : Array Value) (w : World), (Instr.makeFunc fn first cap).run Try.prog w = .ok (.func fn first cap) w := fun _ _ _ _ => rfl
  clear hm hq hS hx
  go_enter Try.func13, Try.ntmps13
  go_wp2_with fail
  refine cM.mono ?_
  rintro e w1 ⟨rfl, b1⟩
  have P1 := P0.on b1
  have p0 := fun i => P1.p.cell i
  clear cM hW0 k0 k1
  go_wp2_with fail
  refine (cP _).mono ?_
  rintro e w2 ⟨rfl, b2⟩
  have P2 := P1.on b2
  clear p0
  have p0 := fun i => P2.p.cell i
  have hs2 : w.heap.size + 1 + 1 < w2.heap.size := P2.r.lt
  clear cP b1 b2
  have P3 := P2.on (alloc_below w2 (.cells #[(.func (.func 55) #[.agg #[.int .i64 k, .int .i64 pp, .int .i64 pv, .int .i64 px]] #[]), (.func (.func 56) #[.agg #[.int .i64 k, .int .i64 pp, .int .i64 pv, .int .i64 px]] #[]), (.func (.func 57) #[.agg #[.int .i64 k, .int .i64 pp, .int .i64 pv, .int .i64 px]] #[]), (.func (.func 58) #[.agg #[.int .i64 k, .int .i64 pp, .int .i64 pv, .int .i64 px]] #[]), (.func (.func 58) #[.agg #[.int .i64 k, .int .i64 pp, .int .i64 pv, .int .i64 px]] #[])] 97))
  have Y3 := Blk.new w2 #[(.func (.func 55) #[.agg #[.int .i64 k, .int .i64 pp, .int .i64 pv, .int .i64 px]] #[]), (.func (.func 56) #[.agg #[.int .i64 k, .int .i64 pp, .int .i64 pv, .int .i64 px]] #[]), (.func (.func 57) #[.agg #[.int .i64 k, .int .i64 pp, .int .i64 pv, .int .i64 px]] #[]), (.func (.func 58) #[.agg #[.int .i64 k, .int .i64 pp, .int .i64 pv, .int .i64 px]] #[]), (.func (.func 58) #[.agg #[.int .i64 k, .int .i64 pp, .int .i64 pv, .int .i64 px]] #[])] 97
  obtain ⟨W3, hW3⟩ : ∃ W, w2.alloc (.cells #[(.func (.func 55) #[.agg #[.int .i64 k, .int .i64 pp, .int .i64 pv, .int .i64 px]] #[]), (.func (.func 56) #[.agg #[.int .i64 k, .int .i64 pp, .int .i64 pv, .int .i64 px]] #[]), (.func (.func 57) #[.agg #[.int .i64 k, .int .i64 pp, .int .i64 pv, .int .i64 px]] #[]), (.func (.func 58) #[.agg #[.int .i64 k, .int .i64 pp, .int .i64 pv, .int .i64 px]] #[]), (.func (.func 58) #[.agg #[.int .i64 k, .int .i64 pp, .int .i64 pv, .int .i64 px]] #[])] 97) = W := ⟨_, rfl⟩
  rw [hW3] at P3 Y3
  have y3 := fun i => Y3.cell i; have yf3 := fun i => Y3.froz i
  have p3 := fun i => P3.p.cell i; have m3 := P3.m.c1; have r9 := fun i => P3.r.cell i; have rf9 := fun i => P3.r.froz i
  obtain ⟨xv, xr, xo⟩ := x
  obtain ⟨x0, x1, x2⟩ := A0.on P3.b (by omega)
  simp only at x0 x1 x2
  rcases (show pp = 0 ∨ pp = 1 ∨ pp = 2 ∨ pp = 3 ∨ pp = 4 by omega) with rfl | rfl | rfl | rfl | rfl
  · have cL := fun W => lockC ⟨xv, xr, xo⟩ rv ⟨k, 0, pv, px⟩ W
    obtain ⟨q, hq⟩ : ∃ q, lockTo ⟨xv, xr, xo⟩ rv ⟨k, 0, pv, px⟩ = q := ⟨_, rfl⟩
    rw [hq] at cL
    have HQ : Hid (stepF ⟨xv, xr, xo⟩ rv ⟨k, 0, pv, px⟩ = q) := by show _ = _; rw [← hq]; simp [stepF, lockTo]
    clear hq
    obtain ⟨q0, q1, q2, q3⟩ := q
    have e0 : W3.cell? ⟨w.heap.size + 1, 0, none⟩ = some (.int .i64 k) := P3.p.cell 0
    have e1 : W3.cell? ⟨w.heap.size + 1, 1, none⟩ = some (.int .i64 0) := P3.p.cell 1
    have e2 : W3.cell? ⟨w2.heap.size, 0, none⟩ = some (.func (.func 55) #[.agg #[.int .i64 k, .int .i64 0, .int .i64 pv, .int .i64 px]] #[]) := Y3.cell 0
    go_wp2_with fail
    try rw [hW3]
    clear p3 y3 yf3 rf9 r9 hW3
    refine wp_region_held_drew (S := (fun W => W.cell? ⟨w.heap.size + 1, 0, none⟩ = some (.int .i64 k) ∧ W.cell? ⟨w.heap.size + 1, 1, none⟩ = some (.int .i64 0) ∧ W.cell? ⟨w2.heap.size, 0, none⟩ = some (.func (.func 55) #[.agg #[.int .i64 k, .int .i64 0, .int .i64 pv, .int .i64 px]] #[]) ∧ W.cell? ⟨w.heap.size, 1, none⟩ = some (.slice (some ⟨b, off, none⟩) 8 cap) ∧ W.cell? ⟨b, off + k * 3, none⟩ = some (.int .i64 xv) ∧ W.cell? ⟨b, off + k * 3 + 1, none⟩ = some (.int .i64 xr) ∧ W.cell? ⟨b, off + k * 3 + 2, none⟩ = some (.int .i64 xo))) (by kernel_rfl) ⟨e0, e1, e2, m3, x0, x1, x2⟩ (fun hHeld => ?_)
    refine takeH (i := 0) (some 28) (.pointer (some ⟨w.heap.size + 1, 1, none⟩)) rfl rfl (by kernel_rfl) (by kernel_rfl) (by kernel_rfl) (fun _ _ _ h => h) (Or.inl ⟨by rfl, fun w hSw => by (try dsimp only at hSw); go_simp⟩) (by assumption) ?_
    simp only [Act.put, List.setIfInBounds_toArray, List.set_cons_zero, List.set_cons_succ]
    refine takeH (i := 1) (some 29) (.int .i64 0) rfl rfl (by kernel_rfl) (by kernel_rfl) (by kernel_rfl) (fun _ _ _ h => h) (Or.inl ⟨by rfl, fun w hSw => by (try dsimp only at hSw); go_simp⟩) (by assumption) ?_
    simp only [Act.put, List.setIfInBounds_toArray, List.set_cons_zero, List.set_cons_succ]
    refine takeH (i := 2) (some 30) (.pointer (some ⟨w2.heap.size, 0, none⟩)) rfl rfl (by kernel_rfl) (by kernel_rfl) (by kernel_rfl) (fun _ _ _ h => h) (Or.inl ⟨by rfl, fun w hSw => by (try dsimp only at hSw); go_simp⟩) (by assumption) ?_
    simp only [Act.put, List.setIfInBounds_toArray, List.set_cons_zero, List.set_cons_succ]
    refine takeH (i := 3) (some 31) (.func (.func 55) #[.agg #[.int .i64 k, .int .i64 0, .int .i64 pv, .int .i64 px]] #[]) rfl rfl (by kernel_rfl) (by kernel_rfl) (by kernel_rfl) (fun _ _ _ h => h) (Or.inl ⟨by rfl, fun w hSw => by (try dsimp only at hSw); go_simp⟩) (by assumption) ?_
    simp only [Act.put, List.setIfInBounds_toArray, List.set_cons_zero, List.set_cons_succ]
    refine takeH (i := 4) (some 32) (.pointer (some ⟨w.heap.size, 1, none⟩)) rfl rfl (by kernel_rfl) (by kernel_rfl) (by kernel_rfl) (fun _ _ _ h => h) (Or.inl ⟨by rfl, fun w hSw => by (try dsimp only at hSw); go_simp⟩) (by assumption) ?_
    simp only [Act.put, List.setIfInBounds_toArray, List.set_cons_zero, List.set_cons_succ]
    refine takeH (i := 5) (some 33) (.slice (some ⟨b, off, none⟩) 8 cap) rfl rfl (by kernel_rfl) (by kernel_rfl) (by kernel_rfl) (fun _ _ _ h => h) (Or.inl ⟨by rfl, fun w hSw => by (try dsimp only at hSw); go_simp⟩) (by assumption) ?_
    simp only [Act.put, List.setIfInBounds_toArray, List.set_cons_zero, List.set_cons_succ]
    refine takeH (i := 6) (some 34) (.pointer (some ⟨w.heap.size + 1, 0, none⟩)) rfl rfl (by kernel_rfl) (by kernel_rfl) (by kernel_rfl) (fun _ _ _ h => h) (Or.inl ⟨by rfl, fun w hSw => by (try dsimp only at hSw); go_simp⟩) (by assumption) ?_
    simp only [Act.put, List.setIfInBounds_toArray, List.set_cons_zero, List.set_cons_succ]
    refine takeH (i := 7) (some 35) (.int .i64 k) rfl rfl (by kernel_rfl) (by kernel_rfl) (by kernel_rfl) (fun _ _ _ h => h) (Or.inl ⟨by rfl, fun w hSw => by (try dsimp only at hSw); go_simp⟩) (by assumption) ?_
    simp only [Act.put, List.setIfInBounds_toArray, List.set_cons_zero, List.set_cons_succ]
    refine takeH (i := 8) (some 36) (.pointer (some ⟨b, off + k * 3, none⟩)) rfl rfl (by kernel_rfl) (by kernel_rfl) (by kernel_rfl) (fun _ _ _ h => h) (Or.inl ⟨by rfl, fun w hSw => by (try dsimp only at hSw); go_simp⟩) (by assumption) ?_
    simp only [Act.put, List.setIfInBounds_toArray, List.set_cons_zero, List.set_cons_succ]
    refine takeH (i := 9) (some 37) (.agg #[.int .i64 xv, .int .i64 xr, .int .i64 xo]) rfl rfl (by kernel_rfl) (by kernel_rfl) (by kernel_rfl) (fun _ _ _ h => h) (Or.inl ⟨by rfl, fun w hSw => by (try dsimp only at hSw); go_simp⟩) (by assumption) ?_
    simp only [Act.put, List.setIfInBounds_toArray, List.set_cons_zero, List.set_cons_succ]
    refine takeH (i := 10) (some 38) (.int .i64 rv) rfl rfl (by kernel_rfl) (by kernel_rfl) (by kernel_rfl) (fun _ _ _ h => h) (Or.inl ⟨by rfl, fun w hSw => by (try dsimp only at hSw); go_simp⟩) (by assumption) ?_
    simp only [Act.put, List.setIfInBounds_toArray, List.set_cons_zero, List.set_cons_succ]
    refine wpAnyH_ready (rs := [11]) (by kernel_rfl) (by simp) ?_
    refine AllReadyH.cons rfl (fun K hK => ?_) AllReadyH.nil
    go_simp
    refine (cL _).mono ?_
    rintro e w4 ⟨rfl, b4⟩
    have Q4 : PSt B w w4 c (.slice (some ⟨b, off, none⟩) 8 cap) ws _ zero := P3.drew.on b4
    have r4 := fun i => Q4.r.cell i; have rf4 := fun i => Q4.r.froz i
    have g0 : w4.cell? ⟨w.heap.size + 1, 0, none⟩ = some (.int .i64 k) := Q4.p.cell 0
    have g1 : w4.cell? ⟨w.heap.size + 1, 1, none⟩ = some (.int .i64 0) := Q4.p.cell 1
    have g2 : w4.cell? ⟨w2.heap.size, 0, none⟩ = some (.func (.func 55) #[.agg #[.int .i64 k, .int .i64 0, .int .i64 pv, .int .i64 px]] #[]) := (Y3.drew.on b4 Y3.drew.lt).cell 0
    have g3 := Q4.m.c1
    obtain ⟨g4, g5, g6⟩ := A0.on Q4.b (Nat.lt_of_lt_of_le hb hB)
    go_simp
    refine hK.out _ _ ⟨g0, g1, g2, g3, g4, g5, g6⟩ (fun hHeld1 => ?_)
    clear hK K
    have n1 : ¬ w2.heap.size = w.heap.size + 1 + 1 := by omega
    have n2 : ¬ b = w.heap.size + 1 + 1 := by omega
    have n3 : ¬ w.heap.size + 1 = w.heap.size + 1 + 1 := by omega
    have n4 : ¬ w.heap.size = w.heap.size + 1 + 1 := by omega
    try simp only [Act.put, List.setIfInBounds_toArray, List.set_cons_zero, List.set_cons_succ]
    refine wpAnyH_ready (rs := [12]) (by kernel_rfl) (by simp) ?_
    refine AllReadyH.cons rfl (fun K hK => ?_) AllReadyH.nil
    go_simp
    refine hK.out _ _ ⟨(cell_sets n3 _ _ _ _).trans g0, (cell_sets n3 _ _ _ _).trans g1, (cell_sets n1 _ _ _ _).trans g2, (cell_sets n4 _ _ _ _).trans g3, (cell_sets n2 _ _ _ _).trans g4, (cell_sets n2 _ _ _ _).trans g5, (cell_sets n2 _ _ _ _).trans g6⟩ (fun hHeld2 => ?_)
    clear hK K
    refine wpAnyH_done (by kernel_rfl) ?_ _
    all_goals
      go_wp2
      refine bodyPost_ret (v := P4.agg ⟨q0, q1, q2, q3⟩) (by simp [results, Try.results13, go_sem, r4]) rfl ⟨by rw [HS.out]; exact congrArg (fun q => Ending.returned (P4.agg q)) HQ.out.symm, ?_⟩
      first | refine Below.drew ?_ | skip
      iterate 4 refine Below.setCell ?_ (by show w.heap.size ≤ w.heap.size + 1 + 1; omega) _
      exact Q4.b
  · have cL := fun W => valC ⟨xv, xr, xo⟩ rv ⟨k, 1, pv, px⟩ W
    obtain ⟨q, hq⟩ : ∃ q, valTo ⟨xv, xr, xo⟩ rv ⟨k, 1, pv, px⟩ = q := ⟨_, rfl⟩
    rw [hq] at cL
    have HQ : Hid (stepF ⟨xv, xr, xo⟩ rv ⟨k, 1, pv, px⟩ = q) := by show _ = _; rw [← hq]; simp [stepF, valTo]
    clear hq
    obtain ⟨q0, q1, q2, q3⟩ := q
    have e0 : W3.cell? ⟨w.heap.size + 1, 0, none⟩ = some (.int .i64 k) := P3.p.cell 0
    have e1 : W3.cell? ⟨w.heap.size + 1, 1, none⟩ = some (.int .i64 1) := P3.p.cell 1
    have e2 : W3.cell? ⟨w2.heap.size, 1, none⟩ = some (.func (.func 56) #[.agg #[.int .i64 k, .int .i64 1, .int .i64 pv, .int .i64 px]] #[]) := Y3.cell 1
    go_wp2_with fail
    try rw [hW3]
    clear p3 y3 yf3 rf9 r9 hW3
    refine wp_region_held_drew (S := (fun W => W.cell? ⟨w.heap.size + 1, 0, none⟩ = some (.int .i64 k) ∧ W.cell? ⟨w.heap.size + 1, 1, none⟩ = some (.int .i64 1) ∧ W.cell? ⟨w2.heap.size, 1, none⟩ = some (.func (.func 56) #[.agg #[.int .i64 k, .int .i64 1, .int .i64 pv, .int .i64 px]] #[]) ∧ W.cell? ⟨w.heap.size, 1, none⟩ = some (.slice (some ⟨b, off, none⟩) 8 cap) ∧ W.cell? ⟨b, off + k * 3, none⟩ = some (.int .i64 xv) ∧ W.cell? ⟨b, off + k * 3 + 1, none⟩ = some (.int .i64 xr) ∧ W.cell? ⟨b, off + k * 3 + 2, none⟩ = some (.int .i64 xo))) (by kernel_rfl) ⟨e0, e1, e2, m3, x0, x1, x2⟩ (fun hHeld => ?_)
    refine takeH (i := 0) (some 28) (.pointer (some ⟨w.heap.size + 1, 1, none⟩)) rfl rfl (by kernel_rfl) (by kernel_rfl) (by kernel_rfl) (fun _ _ _ h => h) (Or.inl ⟨by rfl, fun w hSw => by (try dsimp only at hSw); go_simp⟩) (by assumption) ?_
    simp only [Act.put, List.setIfInBounds_toArray, List.set_cons_zero, List.set_cons_succ]
    refine takeH (i := 1) (some 29) (.int .i64 1) rfl rfl (by kernel_rfl) (by kernel_rfl) (by kernel_rfl) (fun _ _ _ h => h) (Or.inl ⟨by rfl, fun w hSw => by (try dsimp only at hSw); go_simp⟩) (by assumption) ?_
    simp only [Act.put, List.setIfInBounds_toArray, List.set_cons_zero, List.set_cons_succ]
    refine takeH (i := 2) (some 30) (.pointer (some ⟨w2.heap.size, 1, none⟩)) rfl rfl (by kernel_rfl) (by kernel_rfl) (by kernel_rfl) (fun _ _ _ h => h) (Or.inl ⟨by rfl, fun w hSw => by (try dsimp only at hSw); go_simp⟩) (by assumption) ?_
    simp only [Act.put, List.setIfInBounds_toArray, List.set_cons_zero, List.set_cons_succ]
    refine takeH (i := 3) (some 31) (.func (.func 56) #[.agg #[.int .i64 k, .int .i64 1, .int .i64 pv, .int .i64 px]] #[]) rfl rfl (by kernel_rfl) (by kernel_rfl) (by kernel_rfl) (fun _ _ _ h => h) (Or.inl ⟨by rfl, fun w hSw => by (try dsimp only at hSw); go_simp⟩) (by assumption) ?_
    simp only [Act.put, List.setIfInBounds_toArray, List.set_cons_zero, List.set_cons_succ]
    refine takeH (i := 4) (some 32) (.pointer (some ⟨w.heap.size, 1, none⟩)) rfl rfl (by kernel_rfl) (by kernel_rfl) (by kernel_rfl) (fun _ _ _ h => h) (Or.inl ⟨by rfl, fun w hSw => by (try dsimp only at hSw); go_simp⟩) (by assumption) ?_
    simp only [Act.put, List.setIfInBounds_toArray, List.set_cons_zero, List.set_cons_succ]
    refine takeH (i := 5) (some 33) (.slice (some ⟨b, off, none⟩) 8 cap) rfl rfl (by kernel_rfl) (by kernel_rfl) (by kernel_rfl) (fun _ _ _ h => h) (Or.inl ⟨by rfl, fun w hSw => by (try dsimp only at hSw); go_simp⟩) (by assumption) ?_
    simp only [Act.put, List.setIfInBounds_toArray, List.set_cons_zero, List.set_cons_succ]
    refine takeH (i := 6) (some 34) (.pointer (some ⟨w.heap.size + 1, 0, none⟩)) rfl rfl (by kernel_rfl) (by kernel_rfl) (by kernel_rfl) (fun _ _ _ h => h) (Or.inl ⟨by rfl, fun w hSw => by (try dsimp only at hSw); go_simp⟩) (by assumption) ?_
    simp only [Act.put, List.setIfInBounds_toArray, List.set_cons_zero, List.set_cons_succ]
    refine takeH (i := 7) (some 35) (.int .i64 k) rfl rfl (by kernel_rfl) (by kernel_rfl) (by kernel_rfl) (fun _ _ _ h => h) (Or.inl ⟨by rfl, fun w hSw => by (try dsimp only at hSw); go_simp⟩) (by assumption) ?_
    simp only [Act.put, List.setIfInBounds_toArray, List.set_cons_zero, List.set_cons_succ]
    refine takeH (i := 8) (some 36) (.pointer (some ⟨b, off + k * 3, none⟩)) rfl rfl (by kernel_rfl) (by kernel_rfl) (by kernel_rfl) (fun _ _ _ h => h) (Or.inl ⟨by rfl, fun w hSw => by (try dsimp only at hSw); go_simp⟩) (by assumption) ?_
    simp only [Act.put, List.setIfInBounds_toArray, List.set_cons_zero, List.set_cons_succ]
    refine takeH (i := 9) (some 37) (.agg #[.int .i64 xv, .int .i64 xr, .int .i64 xo]) rfl rfl (by kernel_rfl) (by kernel_rfl) (by kernel_rfl) (fun _ _ _ h => h) (Or.inl ⟨by rfl, fun w hSw => by (try dsimp only at hSw); go_simp⟩) (by assumption) ?_
    simp only [Act.put, List.setIfInBounds_toArray, List.set_cons_zero, List.set_cons_succ]
    refine takeH (i := 10) (some 38) (.int .i64 rv) rfl rfl (by kernel_rfl) (by kernel_rfl) (by kernel_rfl) (fun _ _ _ h => h) (Or.inl ⟨by rfl, fun w hSw => by (try dsimp only at hSw); go_simp⟩) (by assumption) ?_
    simp only [Act.put, List.setIfInBounds_toArray, List.set_cons_zero, List.set_cons_succ]
    refine wpAnyH_ready (rs := [11]) (by kernel_rfl) (by simp) ?_
    refine AllReadyH.cons rfl (fun K hK => ?_) AllReadyH.nil
    go_simp
    refine (cL _).mono ?_
    rintro e w4 ⟨rfl, b4⟩
    have Q4 : PSt B w w4 c (.slice (some ⟨b, off, none⟩) 8 cap) ws _ zero := P3.drew.on b4
    have r4 := fun i => Q4.r.cell i; have rf4 := fun i => Q4.r.froz i
    have g0 : w4.cell? ⟨w.heap.size + 1, 0, none⟩ = some (.int .i64 k) := Q4.p.cell 0
    have g1 : w4.cell? ⟨w.heap.size + 1, 1, none⟩ = some (.int .i64 1) := Q4.p.cell 1
    have g2 : w4.cell? ⟨w2.heap.size, 1, none⟩ = some (.func (.func 56) #[.agg #[.int .i64 k, .int .i64 1, .int .i64 pv, .int .i64 px]] #[]) := (Y3.drew.on b4 Y3.drew.lt).cell 1
    have g3 := Q4.m.c1
    obtain ⟨g4, g5, g6⟩ := A0.on Q4.b (Nat.lt_of_lt_of_le hb hB)
    go_simp
    refine hK.out _ _ ⟨g0, g1, g2, g3, g4, g5, g6⟩ (fun hHeld1 => ?_)
    clear hK K
    have n1 : ¬ w2.heap.size = w.heap.size + 1 + 1 := by omega
    have n2 : ¬ b = w.heap.size + 1 + 1 := by omega
    have n3 : ¬ w.heap.size + 1 = w.heap.size + 1 + 1 := by omega
    have n4 : ¬ w.heap.size = w.heap.size + 1 + 1 := by omega
    try simp only [Act.put, List.setIfInBounds_toArray, List.set_cons_zero, List.set_cons_succ]
    refine wpAnyH_ready (rs := [12]) (by kernel_rfl) (by simp) ?_
    refine AllReadyH.cons rfl (fun K hK => ?_) AllReadyH.nil
    go_simp
    refine hK.out _ _ ⟨(cell_sets n3 _ _ _ _).trans g0, (cell_sets n3 _ _ _ _).trans g1, (cell_sets n1 _ _ _ _).trans g2, (cell_sets n4 _ _ _ _).trans g3, (cell_sets n2 _ _ _ _).trans g4, (cell_sets n2 _ _ _ _).trans g5, (cell_sets n2 _ _ _ _).trans g6⟩ (fun hHeld2 => ?_)
    clear hK K
    refine wpAnyH_done (by kernel_rfl) ?_ _
    all_goals
      go_wp2
      refine bodyPost_ret (v := P4.agg ⟨q0, q1, q2, q3⟩) (by simp [results, Try.results13, go_sem, r4]) rfl ⟨by rw [HS.out]; exact congrArg (fun q => Ending.returned (P4.agg q)) HQ.out.symm, ?_⟩
      first | refine Below.drew ?_ | skip
      iterate 4 refine Below.setCell ?_ (by show w.heap.size ≤ w.heap.size + 1 + 1; omega) _
      exact Q4.b
  · have cL := fun W => againC ⟨xv, xr, xo⟩ rv ⟨k, 2, pv, px⟩ W
    obtain ⟨q, hq⟩ : ∃ q, againTo ⟨xv, xr, xo⟩ rv ⟨k, 2, pv, px⟩ = q := ⟨_, rfl⟩
    rw [hq] at cL
    have HQ : Hid (stepF ⟨xv, xr, xo⟩ rv ⟨k, 2, pv, px⟩ = q) := by show _ = _; rw [← hq]; simp [stepF, againTo]
    clear hq
    obtain ⟨q0, q1, q2, q3⟩ := q
    have e0 : W3.cell? ⟨w.heap.size + 1, 0, none⟩ = some (.int .i64 k) := P3.p.cell 0
    have e1 : W3.cell? ⟨w.heap.size + 1, 1, none⟩ = some (.int .i64 2) := P3.p.cell 1
    have e2 : W3.cell? ⟨w2.heap.size, 2, none⟩ = some (.func (.func 57) #[.agg #[.int .i64 k, .int .i64 2, .int .i64 pv, .int .i64 px]] #[]) := Y3.cell 2
    go_wp2_with fail
    try rw [hW3]
    clear p3 y3 yf3 rf9 r9 hW3
    refine wp_region_held_drew (S := (fun W => W.cell? ⟨w.heap.size + 1, 0, none⟩ = some (.int .i64 k) ∧ W.cell? ⟨w.heap.size + 1, 1, none⟩ = some (.int .i64 2) ∧ W.cell? ⟨w2.heap.size, 2, none⟩ = some (.func (.func 57) #[.agg #[.int .i64 k, .int .i64 2, .int .i64 pv, .int .i64 px]] #[]) ∧ W.cell? ⟨w.heap.size, 1, none⟩ = some (.slice (some ⟨b, off, none⟩) 8 cap) ∧ W.cell? ⟨b, off + k * 3, none⟩ = some (.int .i64 xv) ∧ W.cell? ⟨b, off + k * 3 + 1, none⟩ = some (.int .i64 xr) ∧ W.cell? ⟨b, off + k * 3 + 2, none⟩ = some (.int .i64 xo))) (by kernel_rfl) ⟨e0, e1, e2, m3, x0, x1, x2⟩ (fun hHeld => ?_)
    refine takeH (i := 0) (some 28) (.pointer (some ⟨w.heap.size + 1, 1, none⟩)) rfl rfl (by kernel_rfl) (by kernel_rfl) (by kernel_rfl) (fun _ _ _ h => h) (Or.inl ⟨by rfl, fun w hSw => by (try dsimp only at hSw); go_simp⟩) (by assumption) ?_
    simp only [Act.put, List.setIfInBounds_toArray, List.set_cons_zero, List.set_cons_succ]
    refine takeH (i := 1) (some 29) (.int .i64 2) rfl rfl (by kernel_rfl) (by kernel_rfl) (by kernel_rfl) (fun _ _ _ h => h) (Or.inl ⟨by rfl, fun w hSw => by (try dsimp only at hSw); go_simp⟩) (by assumption) ?_
    simp only [Act.put, List.setIfInBounds_toArray, List.set_cons_zero, List.set_cons_succ]
    refine takeH (i := 2) (some 30) (.pointer (some ⟨w2.heap.size, 2, none⟩)) rfl rfl (by kernel_rfl) (by kernel_rfl) (by kernel_rfl) (fun _ _ _ h => h) (Or.inl ⟨by rfl, fun w hSw => by (try dsimp only at hSw); go_simp⟩) (by assumption) ?_
    simp only [Act.put, List.setIfInBounds_toArray, List.set_cons_zero, List.set_cons_succ]
    refine takeH (i := 3) (some 31) (.func (.func 57) #[.agg #[.int .i64 k, .int .i64 2, .int .i64 pv, .int .i64 px]] #[]) rfl rfl (by kernel_rfl) (by kernel_rfl) (by kernel_rfl) (fun _ _ _ h => h) (Or.inl ⟨by rfl, fun w hSw => by (try dsimp only at hSw); go_simp⟩) (by assumption) ?_
    simp only [Act.put, List.setIfInBounds_toArray, List.set_cons_zero, List.set_cons_succ]
    refine takeH (i := 4) (some 32) (.pointer (some ⟨w.heap.size, 1, none⟩)) rfl rfl (by kernel_rfl) (by kernel_rfl) (by kernel_rfl) (fun _ _ _ h => h) (Or.inl ⟨by rfl, fun w hSw => by (try dsimp only at hSw); go_simp⟩) (by assumption) ?_
    simp only [Act.put, List.setIfInBounds_toArray, List.set_cons_zero, List.set_cons_succ]
    refine takeH (i := 5) (some 33) (.slice (some ⟨b, off, none⟩) 8 cap) rfl rfl (by kernel_rfl) (by kernel_rfl) (by kernel_rfl) (fun _ _ _ h => h) (Or.inl ⟨by rfl, fun w hSw => by (try dsimp only at hSw); go_simp⟩) (by assumption) ?_
    simp only [Act.put, List.setIfInBounds_toArray, List.set_cons_zero, List.set_cons_succ]
    refine takeH (i := 6) (some 34) (.pointer (some ⟨w.heap.size + 1, 0, none⟩)) rfl rfl (by kernel_rfl) (by kernel_rfl) (by kernel_rfl) (fun _ _ _ h => h) (Or.inl ⟨by rfl, fun w hSw => by (try dsimp only at hSw); go_simp⟩) (by assumption) ?_
    simp only [Act.put, List.setIfInBounds_toArray, List.set_cons_zero, List.set_cons_succ]
    refine takeH (i := 7) (some 35) (.int .i64 k) rfl rfl (by kernel_rfl) (by kernel_rfl) (by kernel_rfl) (fun _ _ _ h => h) (Or.inl ⟨by rfl, fun w hSw => by (try dsimp only at hSw); go_simp⟩) (by assumption) ?_
    simp only [Act.put, List.setIfInBounds_toArray, List.set_cons_zero, List.set_cons_succ]
    refine takeH (i := 8) (some 36) (.pointer (some ⟨b, off + k * 3, none⟩)) rfl rfl (by kernel_rfl) (by kernel_rfl) (by kernel_rfl) (fun _ _ _ h => h) (Or.inl ⟨by rfl, fun w hSw => by (try dsimp only at hSw); go_simp⟩) (by assumption) ?_
    simp only [Act.put, List.setIfInBounds_toArray, List.set_cons_zero, List.set_cons_succ]
    refine takeH (i := 9) (some 37) (.agg #[.int .i64 xv, .int .i64 xr, .int .i64 xo]) rfl rfl (by kernel_rfl) (by kernel_rfl) (by kernel_rfl) (fun _ _ _ h => h) (Or.inl ⟨by rfl, fun w hSw => by (try dsimp only at hSw); go_simp⟩) (by assumption) ?_
    simp only [Act.put, List.setIfInBounds_toArray, List.set_cons_zero, List.set_cons_succ]
    refine takeH (i := 10) (some 38) (.int .i64 rv) rfl rfl (by kernel_rfl) (by kernel_rfl) (by kernel_rfl) (fun _ _ _ h => h) (Or.inl ⟨by rfl, fun w hSw => by (try dsimp only at hSw); go_simp⟩) (by assumption) ?_
    simp only [Act.put, List.setIfInBounds_toArray, List.set_cons_zero, List.set_cons_succ]
    refine wpAnyH_ready (rs := [11]) (by kernel_rfl) (by simp) ?_
    refine AllReadyH.cons rfl (fun K hK => ?_) AllReadyH.nil
    go_simp
    refine (cL _).mono ?_
    rintro e w4 ⟨rfl, b4⟩
    have Q4 : PSt B w w4 c (.slice (some ⟨b, off, none⟩) 8 cap) ws _ zero := P3.drew.on b4
    have r4 := fun i => Q4.r.cell i; have rf4 := fun i => Q4.r.froz i
    have g0 : w4.cell? ⟨w.heap.size + 1, 0, none⟩ = some (.int .i64 k) := Q4.p.cell 0
    have g1 : w4.cell? ⟨w.heap.size + 1, 1, none⟩ = some (.int .i64 2) := Q4.p.cell 1
    have g2 : w4.cell? ⟨w2.heap.size, 2, none⟩ = some (.func (.func 57) #[.agg #[.int .i64 k, .int .i64 2, .int .i64 pv, .int .i64 px]] #[]) := (Y3.drew.on b4 Y3.drew.lt).cell 2
    have g3 := Q4.m.c1
    obtain ⟨g4, g5, g6⟩ := A0.on Q4.b (Nat.lt_of_lt_of_le hb hB)
    go_simp
    refine hK.out _ _ ⟨g0, g1, g2, g3, g4, g5, g6⟩ (fun hHeld1 => ?_)
    clear hK K
    have n1 : ¬ w2.heap.size = w.heap.size + 1 + 1 := by omega
    have n2 : ¬ b = w.heap.size + 1 + 1 := by omega
    have n3 : ¬ w.heap.size + 1 = w.heap.size + 1 + 1 := by omega
    have n4 : ¬ w.heap.size = w.heap.size + 1 + 1 := by omega
    try simp only [Act.put, List.setIfInBounds_toArray, List.set_cons_zero, List.set_cons_succ]
    refine wpAnyH_ready (rs := [12]) (by kernel_rfl) (by simp) ?_
    refine AllReadyH.cons rfl (fun K hK => ?_) AllReadyH.nil
    go_simp
    refine hK.out _ _ ⟨(cell_sets n3 _ _ _ _).trans g0, (cell_sets n3 _ _ _ _).trans g1, (cell_sets n1 _ _ _ _).trans g2, (cell_sets n4 _ _ _ _).trans g3, (cell_sets n2 _ _ _ _).trans g4, (cell_sets n2 _ _ _ _).trans g5, (cell_sets n2 _ _ _ _).trans g6⟩ (fun hHeld2 => ?_)
    clear hK K
    refine wpAnyH_done (by kernel_rfl) ?_ _
    all_goals
      go_wp2
      refine bodyPost_ret (v := P4.agg ⟨q0, q1, q2, q3⟩) (by simp [results, Try.results13, go_sem, r4]) rfl ⟨by rw [HS.out]; exact congrArg (fun q => Ending.returned (P4.agg q)) HQ.out.symm, ?_⟩
      first | refine Below.drew ?_ | skip
      iterate 4 refine Below.setCell ?_ (by show w.heap.size ≤ w.heap.size + 1 + 1; omega) _
      exact Q4.b
  · have cL := fun W => stayC ⟨xv, xr, xo⟩ rv ⟨k, 3, pv, px⟩ W
    have HQ : Hid (stepF ⟨xv, xr, xo⟩ rv ⟨k, 3, pv, px⟩ = ⟨k, 3, pv, px⟩) := by show _ = _; simp [stepF]
    have e0 : W3.cell? ⟨w.heap.size + 1, 0, none⟩ = some (.int .i64 k) := P3.p.cell 0
    have e1 : W3.cell? ⟨w.heap.size + 1, 1, none⟩ = some (.int .i64 3) := P3.p.cell 1
    have e2 : W3.cell? ⟨w2.heap.size, 3, none⟩ = some (.func (.func 58) #[.agg #[.int .i64 k, .int .i64 3, .int .i64 pv, .int .i64 px]] #[]) := Y3.cell 3
    go_wp2_with fail
    try rw [hW3]
    clear p3 y3 yf3 rf9 r9 hW3
    refine wp_region_held_drew (S := (fun W => W.cell? ⟨w.heap.size + 1, 0, none⟩ = some (.int .i64 k) ∧ W.cell? ⟨w.heap.size + 1, 1, none⟩ = some (.int .i64 3) ∧ W.cell? ⟨w2.heap.size, 3, none⟩ = some (.func (.func 58) #[.agg #[.int .i64 k, .int .i64 3, .int .i64 pv, .int .i64 px]] #[]) ∧ W.cell? ⟨w.heap.size, 1, none⟩ = some (.slice (some ⟨b, off, none⟩) 8 cap) ∧ W.cell? ⟨b, off + k * 3, none⟩ = some (.int .i64 xv) ∧ W.cell? ⟨b, off + k * 3 + 1, none⟩ = some (.int .i64 xr) ∧ W.cell? ⟨b, off + k * 3 + 2, none⟩ = some (.int .i64 xo))) (by kernel_rfl) ⟨e0, e1, e2, m3, x0, x1, x2⟩ (fun hHeld => ?_)
    refine takeH (i := 0) (some 28) (.pointer (some ⟨w.heap.size + 1, 1, none⟩)) rfl rfl (by kernel_rfl) (by kernel_rfl) (by kernel_rfl) (fun _ _ _ h => h) (Or.inl ⟨by rfl, fun w hSw => by (try dsimp only at hSw); go_simp⟩) (by assumption) ?_
    simp only [Act.put, List.setIfInBounds_toArray, List.set_cons_zero, List.set_cons_succ]
    refine takeH (i := 1) (some 29) (.int .i64 3) rfl rfl (by kernel_rfl) (by kernel_rfl) (by kernel_rfl) (fun _ _ _ h => h) (Or.inl ⟨by rfl, fun w hSw => by (try dsimp only at hSw); go_simp⟩) (by assumption) ?_
    simp only [Act.put, List.setIfInBounds_toArray, List.set_cons_zero, List.set_cons_succ]
    refine takeH (i := 2) (some 30) (.pointer (some ⟨w2.heap.size, 3, none⟩)) rfl rfl (by kernel_rfl) (by kernel_rfl) (by kernel_rfl) (fun _ _ _ h => h) (Or.inl ⟨by rfl, fun w hSw => by (try dsimp only at hSw); go_simp⟩) (by assumption) ?_
    simp only [Act.put, List.setIfInBounds_toArray, List.set_cons_zero, List.set_cons_succ]
    refine takeH (i := 3) (some 31) (.func (.func 58) #[.agg #[.int .i64 k, .int .i64 3, .int .i64 pv, .int .i64 px]] #[]) rfl rfl (by kernel_rfl) (by kernel_rfl) (by kernel_rfl) (fun _ _ _ h => h) (Or.inl ⟨by rfl, fun w hSw => by (try dsimp only at hSw); go_simp⟩) (by assumption) ?_
    simp only [Act.put, List.setIfInBounds_toArray, List.set_cons_zero, List.set_cons_succ]
    refine takeH (i := 4) (some 32) (.pointer (some ⟨w.heap.size, 1, none⟩)) rfl rfl (by kernel_rfl) (by kernel_rfl) (by kernel_rfl) (fun _ _ _ h => h) (Or.inl ⟨by rfl, fun w hSw => by (try dsimp only at hSw); go_simp⟩) (by assumption) ?_
    simp only [Act.put, List.setIfInBounds_toArray, List.set_cons_zero, List.set_cons_succ]
    refine takeH (i := 5) (some 33) (.slice (some ⟨b, off, none⟩) 8 cap) rfl rfl (by kernel_rfl) (by kernel_rfl) (by kernel_rfl) (fun _ _ _ h => h) (Or.inl ⟨by rfl, fun w hSw => by (try dsimp only at hSw); go_simp⟩) (by assumption) ?_
    simp only [Act.put, List.setIfInBounds_toArray, List.set_cons_zero, List.set_cons_succ]
    refine takeH (i := 6) (some 34) (.pointer (some ⟨w.heap.size + 1, 0, none⟩)) rfl rfl (by kernel_rfl) (by kernel_rfl) (by kernel_rfl) (fun _ _ _ h => h) (Or.inl ⟨by rfl, fun w hSw => by (try dsimp only at hSw); go_simp⟩) (by assumption) ?_
    simp only [Act.put, List.setIfInBounds_toArray, List.set_cons_zero, List.set_cons_succ]
    refine takeH (i := 7) (some 35) (.int .i64 k) rfl rfl (by kernel_rfl) (by kernel_rfl) (by kernel_rfl) (fun _ _ _ h => h) (Or.inl ⟨by rfl, fun w hSw => by (try dsimp only at hSw); go_simp⟩) (by assumption) ?_
    simp only [Act.put, List.setIfInBounds_toArray, List.set_cons_zero, List.set_cons_succ]
    refine takeH (i := 8) (some 36) (.pointer (some ⟨b, off + k * 3, none⟩)) rfl rfl (by kernel_rfl) (by kernel_rfl) (by kernel_rfl) (fun _ _ _ h => h) (Or.inl ⟨by rfl, fun w hSw => by (try dsimp only at hSw); go_simp⟩) (by assumption) ?_
    simp only [Act.put, List.setIfInBounds_toArray, List.set_cons_zero, List.set_cons_succ]
    refine takeH (i := 9) (some 37) (.agg #[.int .i64 xv, .int .i64 xr, .int .i64 xo]) rfl rfl (by kernel_rfl) (by kernel_rfl) (by kernel_rfl) (fun _ _ _ h => h) (Or.inl ⟨by rfl, fun w hSw => by (try dsimp only at hSw); go_simp⟩) (by assumption) ?_
    simp only [Act.put, List.setIfInBounds_toArray, List.set_cons_zero, List.set_cons_succ]
    refine takeH (i := 10) (some 38) (.int .i64 rv) rfl rfl (by kernel_rfl) (by kernel_rfl) (by kernel_rfl) (fun _ _ _ h => h) (Or.inl ⟨by rfl, fun w hSw => by (try dsimp only at hSw); go_simp⟩) (by assumption) ?_
    simp only [Act.put, List.setIfInBounds_toArray, List.set_cons_zero, List.set_cons_succ]
    refine wpAnyH_ready (rs := [11]) (by kernel_rfl) (by simp) ?_
    refine AllReadyH.cons rfl (fun K hK => ?_) AllReadyH.nil
    go_simp
    refine (cL _).mono ?_
    rintro e w4 ⟨rfl, b4⟩
    have Q4 : PSt B w w4 c (.slice (some ⟨b, off, none⟩) 8 cap) ws _ zero := P3.drew.on b4
    have r4 := fun i => Q4.r.cell i; have rf4 := fun i => Q4.r.froz i
    have g0 : w4.cell? ⟨w.heap.size + 1, 0, none⟩ = some (.int .i64 k) := Q4.p.cell 0
    have g1 : w4.cell? ⟨w.heap.size + 1, 1, none⟩ = some (.int .i64 3) := Q4.p.cell 1
    have g2 : w4.cell? ⟨w2.heap.size, 3, none⟩ = some (.func (.func 58) #[.agg #[.int .i64 k, .int .i64 3, .int .i64 pv, .int .i64 px]] #[]) := (Y3.drew.on b4 Y3.drew.lt).cell 3
    have g3 := Q4.m.c1
    obtain ⟨g4, g5, g6⟩ := A0.on Q4.b (Nat.lt_of_lt_of_le hb hB)
    go_simp
    refine hK.out _ _ ⟨g0, g1, g2, g3, g4, g5, g6⟩ (fun hHeld1 => ?_)
    clear hK K
    have n1 : ¬ w2.heap.size = w.heap.size + 1 + 1 := by omega
    have n2 : ¬ b = w.heap.size + 1 + 1 := by omega
    have n3 : ¬ w.heap.size + 1 = w.heap.size + 1 + 1 := by omega
    have n4 : ¬ w.heap.size = w.heap.size + 1 + 1 := by omega
    try simp only [Act.put, List.setIfInBounds_toArray, List.set_cons_zero, List.set_cons_succ]
    refine wpAnyH_ready (rs := [12]) (by kernel_rfl) (by simp) ?_
    refine AllReadyH.cons rfl (fun K hK => ?_) AllReadyH.nil
    go_simp
    refine hK.out _ _ ⟨(cell_sets n3 _ _ _ _).trans g0, (cell_sets n3 _ _ _ _).trans g1, (cell_sets n1 _ _ _ _).trans g2, (cell_sets n4 _ _ _ _).trans g3, (cell_sets n2 _ _ _ _).trans g4, (cell_sets n2 _ _ _ _).trans g5, (cell_sets n2 _ _ _ _).trans g6⟩ (fun hHeld2 => ?_)
    clear hK K
    refine wpAnyH_done (by kernel_rfl) ?_ _
    all_goals
      go_wp2
      refine bodyPost_ret (v := P4.agg ⟨k, 3, pv, px⟩) (by simp [results, Try.results13, go_sem, r4]) rfl ⟨by rw [HS.out]; exact congrArg (fun q => Ending.returned (P4.agg q)) HQ.out.symm, ?_⟩
      first | refine Below.drew ?_ | skip
      iterate 4 refine Below.setCell ?_ (by show w.heap.size ≤ w.heap.size + 1 + 1; omega) _
      exact Q4.b
  · have cL := fun W => stayC ⟨xv, xr, xo⟩ rv ⟨k, 4, pv, px⟩ W
    have HQ : Hid (stepF ⟨xv, xr, xo⟩ rv ⟨k, 4, pv, px⟩ = ⟨k, 4, pv, px⟩) := by show _ = _; simp [stepF]
    have e0 : W3.cell? ⟨w.heap.size + 1, 0, none⟩ = some (.int .i64 k) := P3.p.cell 0
    have e1 : W3.cell? ⟨w.heap.size + 1, 1, none⟩ = some (.int .i64 4) := P3.p.cell 1
    have e2 : W3.cell? ⟨w2.heap.size, 4, none⟩ = some (.func (.func 58) #[.agg #[.int .i64 k, .int .i64 4, .int .i64 pv, .int .i64 px]] #[]) := Y3.cell 4
    go_wp2_with fail
    try rw [hW3]
    clear p3 y3 yf3 rf9 r9 hW3
    refine wp_region_held_drew (S := (fun W => W.cell? ⟨w.heap.size + 1, 0, none⟩ = some (.int .i64 k) ∧ W.cell? ⟨w.heap.size + 1, 1, none⟩ = some (.int .i64 4) ∧ W.cell? ⟨w2.heap.size, 4, none⟩ = some (.func (.func 58) #[.agg #[.int .i64 k, .int .i64 4, .int .i64 pv, .int .i64 px]] #[]) ∧ W.cell? ⟨w.heap.size, 1, none⟩ = some (.slice (some ⟨b, off, none⟩) 8 cap) ∧ W.cell? ⟨b, off + k * 3, none⟩ = some (.int .i64 xv) ∧ W.cell? ⟨b, off + k * 3 + 1, none⟩ = some (.int .i64 xr) ∧ W.cell? ⟨b, off + k * 3 + 2, none⟩ = some (.int .i64 xo))) (by kernel_rfl) ⟨e0, e1, e2, m3, x0, x1, x2⟩ (fun hHeld => ?_)
    refine takeH (i := 0) (some 28) (.pointer (some ⟨w.heap.size + 1, 1, none⟩)) rfl rfl (by kernel_rfl) (by kernel_rfl) (by kernel_rfl) (fun _ _ _ h => h) (Or.inl ⟨by rfl, fun w hSw => by (try dsimp only at hSw); go_simp⟩) (by assumption) ?_
    simp only [Act.put, List.setIfInBounds_toArray, List.set_cons_zero, List.set_cons_succ]
    refine takeH (i := 1) (some 29) (.int .i64 4) rfl rfl (by kernel_rfl) (by kernel_rfl) (by kernel_rfl) (fun _ _ _ h => h) (Or.inl ⟨by rfl, fun w hSw => by (try dsimp only at hSw); go_simp⟩) (by assumption) ?_
    simp only [Act.put, List.setIfInBounds_toArray, List.set_cons_zero, List.set_cons_succ]
    refine takeH (i := 2) (some 30) (.pointer (some ⟨w2.heap.size, 4, none⟩)) rfl rfl (by kernel_rfl) (by kernel_rfl) (by kernel_rfl) (fun _ _ _ h => h) (Or.inl ⟨by rfl, fun w hSw => by (try dsimp only at hSw); go_simp⟩) (by assumption) ?_
    simp only [Act.put, List.setIfInBounds_toArray, List.set_cons_zero, List.set_cons_succ]
    refine takeH (i := 3) (some 31) (.func (.func 58) #[.agg #[.int .i64 k, .int .i64 4, .int .i64 pv, .int .i64 px]] #[]) rfl rfl (by kernel_rfl) (by kernel_rfl) (by kernel_rfl) (fun _ _ _ h => h) (Or.inl ⟨by rfl, fun w hSw => by (try dsimp only at hSw); go_simp⟩) (by assumption) ?_
    simp only [Act.put, List.setIfInBounds_toArray, List.set_cons_zero, List.set_cons_succ]
    refine takeH (i := 4) (some 32) (.pointer (some ⟨w.heap.size, 1, none⟩)) rfl rfl (by kernel_rfl) (by kernel_rfl) (by kernel_rfl) (fun _ _ _ h => h) (Or.inl ⟨by rfl, fun w hSw => by (try dsimp only at hSw); go_simp⟩) (by assumption) ?_
    simp only [Act.put, List.setIfInBounds_toArray, List.set_cons_zero, List.set_cons_succ]
    refine takeH (i := 5) (some 33) (.slice (some ⟨b, off, none⟩) 8 cap) rfl rfl (by kernel_rfl) (by kernel_rfl) (by kernel_rfl) (fun _ _ _ h => h) (Or.inl ⟨by rfl, fun w hSw => by (try dsimp only at hSw); go_simp⟩) (by assumption) ?_
    simp only [Act.put, List.setIfInBounds_toArray, List.set_cons_zero, List.set_cons_succ]
    refine takeH (i := 6) (some 34) (.pointer (some ⟨w.heap.size + 1, 0, none⟩)) rfl rfl (by kernel_rfl) (by kernel_rfl) (by kernel_rfl) (fun _ _ _ h => h) (Or.inl ⟨by rfl, fun w hSw => by (try dsimp only at hSw); go_simp⟩) (by assumption) ?_
    simp only [Act.put, List.setIfInBounds_toArray, List.set_cons_zero, List.set_cons_succ]
    refine takeH (i := 7) (some 35) (.int .i64 k) rfl rfl (by kernel_rfl) (by kernel_rfl) (by kernel_rfl) (fun _ _ _ h => h) (Or.inl ⟨by rfl, fun w hSw => by (try dsimp only at hSw); go_simp⟩) (by assumption) ?_
    simp only [Act.put, List.setIfInBounds_toArray, List.set_cons_zero, List.set_cons_succ]
    refine takeH (i := 8) (some 36) (.pointer (some ⟨b, off + k * 3, none⟩)) rfl rfl (by kernel_rfl) (by kernel_rfl) (by kernel_rfl) (fun _ _ _ h => h) (Or.inl ⟨by rfl, fun w hSw => by (try dsimp only at hSw); go_simp⟩) (by assumption) ?_
    simp only [Act.put, List.setIfInBounds_toArray, List.set_cons_zero, List.set_cons_succ]
    refine takeH (i := 9) (some 37) (.agg #[.int .i64 xv, .int .i64 xr, .int .i64 xo]) rfl rfl (by kernel_rfl) (by kernel_rfl) (by kernel_rfl) (fun _ _ _ h => h) (Or.inl ⟨by rfl, fun w hSw => by (try dsimp only at hSw); go_simp⟩) (by assumption) ?_
    simp only [Act.put, List.setIfInBounds_toArray, List.set_cons_zero, List.set_cons_succ]
    refine takeH (i := 10) (some 38) (.int .i64 rv) rfl rfl (by kernel_rfl) (by kernel_rfl) (by kernel_rfl) (fun _ _ _ h => h) (Or.inl ⟨by rfl, fun w hSw => by (try dsimp only at hSw); go_simp⟩) (by assumption) ?_
    simp only [Act.put, List.setIfInBounds_toArray, List.set_cons_zero, List.set_cons_succ]
    refine wpAnyH_ready (rs := [11]) (by kernel_rfl) (by simp) ?_
    refine AllReadyH.cons rfl (fun K hK => ?_) AllReadyH.nil
    go_simp
    refine (cL _).mono ?_
    rintro e w4 ⟨rfl, b4⟩
    have Q4 : PSt B w w4 c (.slice (some ⟨b, off, none⟩) 8 cap) ws _ zero := P3.drew.on b4
    have r4 := fun i => Q4.r.cell i; have rf4 := fun i => Q4.r.froz i
    have g0 : w4.cell? ⟨w.heap.size + 1, 0, none⟩ = some (.int .i64 k) := Q4.p.cell 0
    have g1 : w4.cell? ⟨w.heap.size + 1, 1, none⟩ = some (.int .i64 4) := Q4.p.cell 1
    have g2 : w4.cell? ⟨w2.heap.size, 4, none⟩ = some (.func (.func 58) #[.agg #[.int .i64 k, .int .i64 4, .int .i64 pv, .int .i64 px]] #[]) := (Y3.drew.on b4 Y3.drew.lt).cell 4
    have g3 := Q4.m.c1
    obtain ⟨g4, g5, g6⟩ := A0.on Q4.b (Nat.lt_of_lt_of_le hb hB)
    go_simp
    refine hK.out _ _ ⟨g0, g1, g2, g3, g4, g5, g6⟩ (fun hHeld1 => ?_)
    clear hK K
    have n1 : ¬ w2.heap.size = w.heap.size + 1 + 1 := by omega
    have n2 : ¬ b = w.heap.size + 1 + 1 := by omega
    have n3 : ¬ w.heap.size + 1 = w.heap.size + 1 + 1 := by omega
    have n4 : ¬ w.heap.size = w.heap.size + 1 + 1 := by omega
    try simp only [Act.put, List.setIfInBounds_toArray, List.set_cons_zero, List.set_cons_succ]
    refine wpAnyH_ready (rs := [12]) (by kernel_rfl) (by simp) ?_
    refine AllReadyH.cons rfl (fun K hK => ?_) AllReadyH.nil
    go_simp
    refine hK.out _ _ ⟨(cell_sets n3 _ _ _ _).trans g0, (cell_sets n3 _ _ _ _).trans g1, (cell_sets n1 _ _ _ _).trans g2, (cell_sets n4 _ _ _ _).trans g3, (cell_sets n2 _ _ _ _).trans g4, (cell_sets n2 _ _ _ _).trans g5, (cell_sets n2 _ _ _ _).trans g6⟩ (fun hHeld2 => ?_)
    clear hK K
    refine wpAnyH_done (by kernel_rfl) ?_ _
    all_goals
      go_wp2
      refine bodyPost_ret (v := P4.agg ⟨k, 4, pv, px⟩) (by simp [results, Try.results13, go_sem, r4]) rfl ⟨by rw [HS.out]; exact congrArg (fun q => Ending.returned (P4.agg q)) HQ.out.symm, ?_⟩
      first | refine Below.drew ?_ | skip
      iterate 4 refine Below.setCell ?_ (by show w.heap.size ≤ w.heap.size + 1 + 1; omega) _
      exact Q4.b
end Probes
end Go.Proofs.Ytpjcbdanahiapaa
