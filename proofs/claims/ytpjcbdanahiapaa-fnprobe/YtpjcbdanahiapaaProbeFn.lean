/- FnProbe answers true at every code. -/
import Derived.Test.YtpjcbdanahiapaaProbeDraw2
import Derived.Test.YtpjcbdanahiapaaProbeImpl
import Derived.Test.YtpjcbdanahiapaaIntSame
import Derived.Test.YtpjcbdanahiapaaArgs
set_option linter.unusedVariables false
set_option linter.unusedSimpArgs false
namespace Go.Proofs.Ytpjcbdanahiapaa
open Go.RowKit
namespace Probes
open Bas

/-- so many steps -/
def goes (c : Int) (ws : List Words.W3) (rv : Int) (p : P4) : Nat → P4
  | 0 => p
  | k + 1 => stepOf c ws rv (goes c ws rv p k)
theorem word_right {c : Int} {ws : List Words.W3} (h : Words.memOk c ws = true) {i : Int} (h0 : 0 ≤ i ∧ i ≤ 7) : 0 ≤ (wordAt ws i).val ∧ (wordAt ws i).val ≤ 65535 ∧ 0 ≤ (wordAt ws i).ver ∧ (wordAt ws i).ver ≤ 1000000 := by
  obtain ⟨h8, -, hc, ha⟩ := Words.memOk_out h
  have hk : i.toNat < ws.length := by omega
  have e : wordAt ws i = ws[i.toNat] := by simp [wordAt, List.getD, hk]
  have := ha i.toNat hk
  unfold Words.wOk at this
  have := of_decide_eq_true this
  rw [e]; omega
theorem one {c : Int} {ws : List Words.W3} {rv : Int} {p : P4} (h : Words.memOk c ws = true) (hp : probeOk p = true) : stepOf c ws rv p = stepF (wordAt ws p.cell) rv p := step_yes (by rw [h, hp]; rfl)
/-- locked, or newer: lost -/
theorem lost {c : Int} {ws : List Words.W3} {rv i : Int} (h : Words.memOk c ws = true) (hi : 0 ≤ i ∧ i ≤ 7) (hl : ¬ ((wordAt ws i).own = 0 ∧ (wordAt ws i).ver ≤ rv)) : goes c ws rv ⟨i, 0, 0, 0⟩ 3 = ⟨i, 4, 0, 0⟩ := by
  have e1 : stepOf c ws rv ⟨i, 0, 0, 0⟩ = ⟨i, 4, 0, 0⟩ := by
    rw [one h (probeOk_mk hi.1 hi.2 (by simp) (by simp) (by simp) (by simp) (by simp) (by simp))]
    simp only [stepF, if_true, reduceIte]
    rw [if_neg hl]
  have e2 : stepOf c ws rv ⟨i, 4, 0, 0⟩ = ⟨i, 4, 0, 0⟩ := by
    rw [one h (probeOk_mk hi.1 hi.2 (by simp) (by simp) (by simp) (by simp) (by simp) (by simp))]
    simp [stepF]
  show stepOf c ws rv (stepOf c ws rv (stepOf c ws rv ⟨i, 0, 0, 0⟩)) = _
  rw [e1, e2, e2]
/-- at rest, and old enough: its value -/
theorem got {c : Int} {ws : List Words.W3} {rv i : Int} (h : Words.memOk c ws = true) (hi : 0 ≤ i ∧ i ≤ 7) (hl : (wordAt ws i).own = 0 ∧ (wordAt ws i).ver ≤ rv) : goes c ws rv ⟨i, 0, 0, 0⟩ 3 = ⟨i, 3, (wordAt ws i).ver, (wordAt ws i).val⟩ ∧ stepOf c ws rv ⟨i, 3, (wordAt ws i).ver, (wordAt ws i).val⟩ = ⟨i, 3, (wordAt ws i).ver, (wordAt ws i).val⟩ := by
  obtain ⟨w0, w1, w2, w3⟩ := word_right h hi
  obtain ⟨x, hx⟩ : ∃ x, wordAt ws i = x := ⟨_, rfl⟩
  rw [hx] at hl w0 w1 w2 w3 ⊢
  have e1 : stepOf c ws rv ⟨i, 0, 0, 0⟩ = ⟨i, 1, x.ver, 0⟩ := by
    rw [one h (probeOk_mk hi.1 hi.2 (by simp) (by simp) (by simp) (by simp) (by simp) (by simp)), hx]
    simp only [stepF, if_true, reduceIte]
    rw [if_pos hl]
  have e2 : stepOf c ws rv ⟨i, 1, x.ver, 0⟩ = ⟨i, 2, x.ver, x.val⟩ := by
    rw [one h (probeOk_mk hi.1 hi.2 (by simp) (by simp) w2 w3 (by simp) (by simp)), hx]
    simp [stepF]
  have e3 : stepOf c ws rv ⟨i, 2, x.ver, x.val⟩ = ⟨i, 3, x.ver, x.val⟩ := by
    rw [one h (probeOk_mk hi.1 hi.2 (by simp) (by simp) w2 w3 w0 w1), hx]
    simp [stepF, hl.1]
  have e4 : stepOf c ws rv ⟨i, 3, x.ver, x.val⟩ = ⟨i, 3, x.ver, x.val⟩ := by
    rw [one h (probeOk_mk hi.1 hi.2 (by simp) (by simp) w2 w3 w0 w1), hx]
    simp [stepF]
  refine ⟨?_, e4⟩
  show stepOf c ws rv (stepOf c ws rv (stepOf c ws rv ⟨i, 0, 0, 0⟩)) = _
  rw [e1, e2, e3]
set_option maxRecDepth 100000 in
theorem eqSame (x : P4) (W : World) : (Op.equalIn 10000 28 x.agg x.agg).run Try.prog W = .ok true W := by
  have hu : Try.prog.underlying 28 = some (.struct (Try.prog.fieldsOf 28)) := by kernel_rfl
  have hp : Try.prog.stoodInHeld 28 = false := by kernel_rfl
  rw [run_equalIn_agg (d := 9999) (ht := hu) (hp := hp)]
  have h1 := hu.symm.trans Try.underlying28
  simp only [Option.some.injEq, TypeDesc.struct.injEq] at h1
  rw [h1]
  simp [Op.eqFields, go_sem]

/-- what the law holds: the memory's variable, the probe's -/
structure FSt (g : Nat) (w W : World) (N : Nat) (c : Int) (u : Value) (ws : List Words.W3) (p : P4) : Prop where
  m : Words.Box W N c u 26
  p : Blk W (N + 1) #[.int .i64 p.cell, .int .i64 p.phase, .int .i64 p.ver, .int .i64 p.val] 28
  s : Words.Sees N W u ws
  b : Below g w W
  hg : g ≤ N
section
variable {g N : Nat} {w W W' : World} {c : Int} {u : Value} {ws : List Words.W3} {p : P4}
theorem FSt.on (h : FSt g w W N c u ws p) (hb : Below W.heap.size W W') : FSt g w W' N c u ws p :=
  { m := h.m.on hb h.m.lt, p := h.p.on hb h.p.lt, s := h.s.on hb (Nat.le_of_lt h.m.lt), b := h.b.trans (hb.mono (Nat.le_trans h.hg (Nat.le_of_lt h.m.lt))), hg := h.hg }
theorem FSt.drew (h : FSt g w W N c u ws p) : FSt g w W.drew N c u ws p := h.on ⟨rfl, rfl, rfl, Nat.le_refl _, fun _ _ => rfl⟩
theorem FSt.new {w1 : World} (hs : Words.Sees w1.heap.size w1 u ws) (hb : Below g w w1) (hg : g ≤ w1.heap.size) (c : Int) (p : P4) :
    FSt g w ((w1.alloc (.cells #[.int .i64 c, u] 26)).alloc (.cells #[.int .i64 p.cell, .int .i64 p.phase, .int .i64 p.ver, .int .i64 p.val] 28)) w1.heap.size c u ws p := by
  have a1 := alloc_below w1 (.cells #[.int .i64 c, u] 26)
  have M1 := Words.Box.new w1 c u 26
  have z1 : (w1.alloc (.cells #[.int .i64 c, u] 26)).heap.size = w1.heap.size + 1 := by simp
  obtain ⟨w2, hw2⟩ : ∃ W, w1.alloc (.cells #[.int .i64 c, u] 26) = W := ⟨_, rfl⟩
  rw [hw2] at a1 M1 z1 ⊢
  have a2 := alloc_below w2 (.cells #[.int .i64 p.cell, .int .i64 p.phase, .int .i64 p.ver, .int .i64 p.val] 28)
  have P2 := Blk.new w2 #[.int .i64 p.cell, .int .i64 p.phase, .int .i64 p.ver, .int .i64 p.val] 28
  rw [z1] at P2
  have b2 := a1.trans (a2.mono (by omega))
  exact { m := M1.on a2 M1.lt, p := P2, s := hs.on b2 (Nat.le_refl _), b := hb.trans (b2.mono hg), hg := hg }
theorem FSt.cells (h : FSt g w W N c u ws p) : W.cell? ⟨N, 0, none⟩ = some (.int .i64 c) ∧ W.cell? ⟨N, 1, none⟩ = some u ∧ W.cell? ⟨N + 1, 0, none⟩ = some (.int .i64 p.cell) ∧ W.cell? ⟨N + 1, 1, none⟩ = some (.int .i64 p.phase) ∧ W.cell? ⟨N + 1, 2, none⟩ = some (.int .i64 p.ver) ∧ W.cell? ⟨N + 1, 3, none⟩ = some (.int .i64 p.val) :=
  ⟨h.m.c0, h.m.c1, h.p.cell 0, h.p.cell 1, h.p.cell 2, h.p.cell 3⟩
theorem FSt.four (h : FSt g w W N c u ws p) {M : Nat} (hM : N + 1 < M) (u0 u1 u2 u3 : Value) : FSt g w ((((W.setCell ⟨M, 0, none⟩ u0).setCell ⟨M, 1, none⟩ u1).setCell ⟨M, 2, none⟩ u2).setCell ⟨M, 3, none⟩ u3) N c u ws p :=
  have a := h.hg
  { m := (((Blk.other (t := 26) h.m (by omega) 0 u0).other (by omega) 1 u1).other (by omega) 2 u2).other (by omega) 3 u3
    p := (((h.p.other (by omega) 0 u0).other (by omega) 1 u1).other (by omega) 2 u2).other (by omega) 3 u3
    s := h.s.on (below_four (Below.refl N W) (by omega) u0 u1 u2 u3) (Nat.le_refl _)
    b := below_four h.b (by omega) u0 u1 u2 u3, hg := h.hg }
end
theorem probeBig (a : Option Addr) (len cap : Nat) (w : World) (h : 1048576 < len) : Calls Try.prog 3 #[.slice a len cap] w fun e w' => e = .returned (.bool true) ∧ Below w.heap.size w w' := by
  have h' : (1048576 : Int) < len := by omega
  have cB := Ints.bigC a len cap w
  rw [decide_eq_true h'] at cB
  go_enter Try.func3, Try.ntmps3
  go_wp2_with fail
  refine cB.mono ?_
  rintro e w1 ⟨rfl, rfl⟩
  go_wp2
  go_ret
  exact ⟨rfl, Below.refl _ _⟩
set_option maxRecDepth 100000 in
set_option maxHeartbeats 12800000 in
theorem probeFn (l : List UInt8) (aq : Option Addr) (cq : Nat) (w : World) (hC : Draw.Code w.heap.size w (.slice aq l.length cq) l) (hl : l.length ≤ 1048576) :
    Calls Try.prog 3 #[.slice aq l.length cq] w fun e w' => e = .returned (.bool true) ∧ Below w.heap.size w w' := by
  have h' : ¬ (1048576 : Int) < l.length := by omega
  have cB := Ints.bigC aq l.length cq w
  rw [decide_eq_false h'] at cB
  have cD := drawStepC w.heap.size (.slice aq l.length cq) l w hC (Nat.le_refl _) hl
  obtain ⟨g, hg⟩ : ∃ g, w.heap.size = g := ⟨_, rfl⟩
  obtain ⟨lq, hlq⟩ : ∃ q, l.length = q := ⟨_, rfl⟩
  rw [hlq] at cB cD hC hl ⊢
  rw [hg] at cD ⊢
  have HG := (show Hid _ from hg)
  clear h' hlq hC hl hg
  go_enter Try.func3, Try.ntmps3
  go_wp2_with fail
  refine cB.mono ?_
  rintro e w0 ⟨rfl, rfl⟩
  go_wp2_with fail
  refine cD.mono ?_
  rintro e w1 ⟨c, u, ws, rv, p, rfl, O1, hw8, hr0, hr1, b1⟩
  have hg1 : g ≤ w1.heap.size := by have := b1.size; have := HG.out; omega
  clear cB cD
  have F2 := FSt.new O1.sees b1 hg1 c p
  obtain ⟨a, cap, rfl⟩ := O1.form
  obtain ⟨n, hn⟩ : ∃ n, ws.length = n := ⟨_, rfl⟩
  have HN := (show Hid _ from hn)
  obtain ⟨pc, pp, pv, px⟩ := p
  simp only at F2
  rw [hn] at F2 ⊢
  clear hn O1 b1 hg1 hw8
  go_wp2_with fail
  obtain ⟨N, hNe⟩ : ∃ N, w1.heap.size = N := ⟨_, rfl⟩
  obtain ⟨W2, hW2⟩ : ∃ W, (w1.alloc (.cells #[.int .i64 c, .slice a n cap] 26)).alloc (.cells #[.int .i64 pc, .int .i64 pp, .int .i64 pv, .int .i64 px] 28) = W := ⟨_, rfl⟩
  rw [hW2] at F2 ⊢
  rw [hNe] at F2 ⊢
  clear hW2 hNe
  refine (Words.specOk c _ ws N W2 F2.s (Nat.le_of_lt F2.m.lt)).mono ?_
  rintro e w3 ⟨rfl, b3⟩
  have F3 := F2.on b3
  clear F2 b3
  obtain ⟨k0, k1, p0, p1, p2, p3⟩ := F3.cells
  have he := fun W => eqSame ⟨pc, pp, pv, px⟩ W
  obtain ⟨m, hm⟩ : ∃ m, Words.memOk c ws = m := ⟨_, rfl⟩
  rw [hm]
  cases m with
  | false =>
    have HS : Hid (stepOf c ws rv ⟨pc, pp, pv, px⟩ = ⟨pc, pp, pv, px⟩) := step_no (by rw [hm]; rfl)
    clear hm
    go_wp2_with fail
    have FD := F3.drew
    refine wp_region_held_drew (S := fun W => W.cell? ⟨N, 0, none⟩ = some (.int .i64 c) ∧ W.cell? ⟨N, 1, none⟩ = some (.slice a n cap) ∧ W.cell? ⟨N + 1, 0, none⟩ = some (.int .i64 pc) ∧ W.cell? ⟨N + 1, 1, none⟩ = some (.int .i64 pp) ∧ W.cell? ⟨N + 1, 2, none⟩ = some (.int .i64 pv) ∧ W.cell? ⟨N + 1, 3, none⟩ = some (.int .i64 px)) (by kernel_rfl) FD.cells (fun hHeld => ?_)
    refine takeH (i := 0) (some 26) (.agg #[.int .i64 c, .slice a n cap]) rfl rfl (by kernel_rfl) (by kernel_rfl) (by kernel_rfl) (fun _ _ _ h => h) (Or.inl ⟨by rfl, fun w hSw => by (try dsimp only at hSw); go_simp⟩) (by assumption) ?_
    simp only [Act.put, List.setIfInBounds_toArray, List.set_cons_zero, List.set_cons_succ]
    refine takeH (i := 1) (some 27) (.int .i64 rv) rfl rfl (by kernel_rfl) (by kernel_rfl) (by kernel_rfl) (fun _ _ _ h => h) (Or.inl ⟨by rfl, fun w hSw => by (try dsimp only at hSw); go_simp⟩) (by assumption) ?_
    simp only [Act.put, List.setIfInBounds_toArray, List.set_cons_zero, List.set_cons_succ]
    refine takeH (i := 2) (some 28) (.agg #[.int .i64 pc, .int .i64 pp, .int .i64 pv, .int .i64 px]) rfl rfl (by kernel_rfl) (by kernel_rfl) (by kernel_rfl) (fun _ _ _ h => h) (Or.inl ⟨by rfl, fun w hSw => by (try dsimp only at hSw); go_simp⟩) (by assumption) ?_
    simp only [Act.put, List.setIfInBounds_toArray, List.set_cons_zero, List.set_cons_succ]
    refine takeH (i := 4) (some 30) (.agg #[.int .i64 pc, .int .i64 pp, .int .i64 pv, .int .i64 px]) rfl rfl (by kernel_rfl) (by kernel_rfl) (by kernel_rfl) (fun _ _ _ h => h) (Or.inl ⟨by rfl, fun w hSw => by (try dsimp only at hSw); go_simp⟩) (by assumption) ?_
    simp only [Act.put, List.setIfInBounds_toArray, List.set_cons_zero, List.set_cons_succ]
    refine wpAnyH_ready (rs := [3]) (by kernel_rfl) (by simp) ?_
    refine AllReadyH.cons rfl (fun K hK => ?_) AllReadyH.nil
    go_simp
    refine (implStep c _ ws rv ⟨pc, pp, pv, px⟩ N _ FD.s (Nat.le_of_lt FD.m.lt)).mono ?_
    rintro e wz ⟨rfl, bz⟩
    have FZ := FD.on bz
    rw [HS.out]
    go_simp
    refine hK.out _ _ FZ.cells (fun hS2 => ?_)
    clear hK K
    try simp only [Act.put, List.setIfInBounds_toArray, List.set_cons_zero, List.set_cons_succ]
    refine takeH (i := 5) (some 31) (.bool true) rfl rfl (by kernel_rfl) (by kernel_rfl) (by kernel_rfl) (fun _ _ _ h => h) (Or.inl ⟨by rfl, fun w hSw => by (try dsimp only at hSw); go_simp⟩) (by assumption) ?_
    simp only [Act.put, List.setIfInBounds_toArray, List.set_cons_zero, List.set_cons_succ]
    refine takeH (i := 6) (some 2) (.bool true) rfl rfl (by kernel_rfl) (by kernel_rfl) (by kernel_rfl) (fun _ _ _ h => h) (Or.inl ⟨by rfl, fun w hSw => by (try dsimp only at hSw); go_simp⟩) (by assumption) ?_
    simp only [Act.put, List.setIfInBounds_toArray, List.set_cons_zero, List.set_cons_succ]
    refine wpAnyH_done (by kernel_rfl) ?_ _
    go_wp2
    go_ret
    exact ⟨rfl, FZ.b⟩
  | true =>
  go_wp2_with fail
  refine (specOk ⟨pc, pp, pv, px⟩ _).mono ?_
  rintro e w4 ⟨rfl, b4⟩
  have F4 := F3.on b4
  clear b4 F3 k0 k1 p0 p1 p2 p3
  obtain ⟨k0, k1, p0, p1, p2, p3⟩ := F4.cells
  obtain ⟨q, hq⟩ : ∃ q, probeOk ⟨pc, pp, pv, px⟩ = q := ⟨_, rfl⟩
  rw [hq]
  cases q with
  | false =>
    have HS : Hid (stepOf c ws rv ⟨pc, pp, pv, px⟩ = ⟨pc, pp, pv, px⟩) := step_no (by rw [hm, hq]; rfl)
    clear hm hq
    go_wp2_with fail
    have FD := F4.drew
    refine wp_region_held_drew (S := fun W => W.cell? ⟨N, 0, none⟩ = some (.int .i64 c) ∧ W.cell? ⟨N, 1, none⟩ = some (.slice a n cap) ∧ W.cell? ⟨N + 1, 0, none⟩ = some (.int .i64 pc) ∧ W.cell? ⟨N + 1, 1, none⟩ = some (.int .i64 pp) ∧ W.cell? ⟨N + 1, 2, none⟩ = some (.int .i64 pv) ∧ W.cell? ⟨N + 1, 3, none⟩ = some (.int .i64 px)) (by kernel_rfl) FD.cells (fun hHeld => ?_)
    refine takeH (i := 0) (some 26) (.agg #[.int .i64 c, .slice a n cap]) rfl rfl (by kernel_rfl) (by kernel_rfl) (by kernel_rfl) (fun _ _ _ h => h) (Or.inl ⟨by rfl, fun w hSw => by (try dsimp only at hSw); go_simp⟩) (by assumption) ?_
    simp only [Act.put, List.setIfInBounds_toArray, List.set_cons_zero, List.set_cons_succ]
    refine takeH (i := 1) (some 27) (.int .i64 rv) rfl rfl (by kernel_rfl) (by kernel_rfl) (by kernel_rfl) (fun _ _ _ h => h) (Or.inl ⟨by rfl, fun w hSw => by (try dsimp only at hSw); go_simp⟩) (by assumption) ?_
    simp only [Act.put, List.setIfInBounds_toArray, List.set_cons_zero, List.set_cons_succ]
    refine takeH (i := 2) (some 28) (.agg #[.int .i64 pc, .int .i64 pp, .int .i64 pv, .int .i64 px]) rfl rfl (by kernel_rfl) (by kernel_rfl) (by kernel_rfl) (fun _ _ _ h => h) (Or.inl ⟨by rfl, fun w hSw => by (try dsimp only at hSw); go_simp⟩) (by assumption) ?_
    simp only [Act.put, List.setIfInBounds_toArray, List.set_cons_zero, List.set_cons_succ]
    refine takeH (i := 4) (some 30) (.agg #[.int .i64 pc, .int .i64 pp, .int .i64 pv, .int .i64 px]) rfl rfl (by kernel_rfl) (by kernel_rfl) (by kernel_rfl) (fun _ _ _ h => h) (Or.inl ⟨by rfl, fun w hSw => by (try dsimp only at hSw); go_simp⟩) (by assumption) ?_
    simp only [Act.put, List.setIfInBounds_toArray, List.set_cons_zero, List.set_cons_succ]
    refine wpAnyH_ready (rs := [3]) (by kernel_rfl) (by simp) ?_
    refine AllReadyH.cons rfl (fun K hK => ?_) AllReadyH.nil
    go_simp
    refine (implStep c _ ws rv ⟨pc, pp, pv, px⟩ N _ FD.s (Nat.le_of_lt FD.m.lt)).mono ?_
    rintro e wz ⟨rfl, bz⟩
    have FZ := FD.on bz
    rw [HS.out]
    go_simp
    refine hK.out _ _ FZ.cells (fun hS2 => ?_)
    clear hK K
    try simp only [Act.put, List.setIfInBounds_toArray, List.set_cons_zero, List.set_cons_succ]
    refine takeH (i := 5) (some 31) (.bool true) rfl rfl (by kernel_rfl) (by kernel_rfl) (by kernel_rfl) (fun _ _ _ h => h) (Or.inl ⟨by rfl, fun w hSw => by (try dsimp only at hSw); go_simp⟩) (by assumption) ?_
    simp only [Act.put, List.setIfInBounds_toArray, List.set_cons_zero, List.set_cons_succ]
    refine takeH (i := 6) (some 2) (.bool true) rfl rfl (by kernel_rfl) (by kernel_rfl) (by kernel_rfl) (fun _ _ _ h => h) (Or.inl ⟨by rfl, fun w hSw => by (try dsimp only at hSw); go_simp⟩) (by assumption) ?_
    simp only [Act.put, List.setIfInBounds_toArray, List.set_cons_zero, List.set_cons_succ]
    refine wpAnyH_done (by kernel_rfl) ?_ _
    go_wp2
    go_ret
    exact ⟨rfl, FZ.b⟩
  | true =>
  have hpc := (probeOk_out hq).1
  simp only at hpc
  have hnew : newOf pc = ⟨pc, 0, 0, 0⟩ := newOf_yes (by unfold Ops.inn; simp; omega)
  have cN := fun W => implNew pc W
  rw [hnew] at cN
  have h8 : n = 8 := by rw [← HN.out]; exact (Words.memOk_out hm).1
  subst h8
  have HM := (show Hid _ from hm)
  have HPC := (show Hid _ from hpc)
  clear hq hm hnew he
  go_wp2_with fail
  refine (cN _).mono ?_
  rintro e w5 ⟨rfl, b5⟩
  have F5 := F4.on b5
  clear b5 F4 cN k0 k1 p0 p1 p2 p3
  have F6 := F5.on (alloc_below w5 (.cells #[.int .i64 pc, .int .i64 0, .int .i64 0, .int .i64 0] 28))
  have X6 := Blk.new w5 #[.int .i64 pc, .int .i64 0, .int .i64 0, .int .i64 0] 28
  have hNM : N + 1 < w5.heap.size := F5.p.lt
  clear F5
  go_wp2
  obtain ⟨M, hMe⟩ : ∃ M, w5.heap.size = M := ⟨_, rfl⟩
  obtain ⟨W6, hW6⟩ : ∃ W, w5.alloc (.cells #[.int .i64 pc, .int .i64 0, .int .i64 0, .int .i64 0] 28) = W := ⟨_, rfl⟩
  rw [hW6] at F6 X6 ⊢
  rw [hMe] at X6 hNM ⊢
  clear hW6 hMe
  have X6 : Blk W6 M #[.int .i64 (goes c ws rv ⟨pc, 0, 0, 0⟩ 0).cell, .int .i64 (goes c ws rv ⟨pc, 0, 0, 0⟩ 0).phase, .int .i64 (goes c ws rv ⟨pc, 0, 0, 0⟩ 0).ver, .int .i64 (goes c ws rv ⟨pc, 0, 0, 0⟩ 0).val] 28 := X6
  go_loopw [8] (fun iv wr => ∃ k : Nat, k ≤ 3 ∧ iv = .int .i64 (k : Int) ∧ FSt g w wr N c (.slice a 8 cap) ws ⟨pc, pp, pv, px⟩ ∧ Blk wr M #[.int .i64 (goes c ws rv ⟨pc, 0, 0, 0⟩ k).cell, .int .i64 (goes c ws rv ⟨pc, 0, 0, 0⟩ k).phase, .int .i64 (goes c ws rv ⟨pc, 0, 0, 0⟩ k).ver, .int .i64 (goes c ws rv ⟨pc, 0, 0, 0⟩ k).val] 28) (fun iv _ => 3 - (intOf iv).toNat)
  case atStart => exact ⟨0, by omega, rfl, F6, X6⟩
  case round =>
    obtain ⟨k, hk, rfl, F7, X7⟩ := hrel
    clear F6 X6
    by_cases hlt : k < 3
    · have i1 : (k : Int) < 3 := by omega
      have cI := fun q W (h : FSt g w W N c (.slice a 8 cap) ws ⟨pc, pp, pv, px⟩) => implStep c _ ws rv q N W h.s (Nat.le_of_lt h.m.lt)
      have HE : Hid (stepOf c ws rv (goes c ws rv ⟨pc, 0, 0, 0⟩ k) = goes c ws rv ⟨pc, 0, 0, 0⟩ (k + 1)) := rfl
      obtain ⟨q, hq⟩ : ∃ q, goes c ws rv ⟨pc, 0, 0, 0⟩ k = q := ⟨_, rfl⟩
      rw [hq] at HE X7
      obtain ⟨r, hr⟩ : ∃ q, goes c ws rv ⟨pc, 0, 0, 0⟩ (k + 1) = q := ⟨_, rfl⟩
      have HR := (show Hid _ from hr)
      rw [hr] at HE
      clear hq hr
      obtain ⟨q0, q1, q2, q3⟩ := q
      obtain ⟨r0, r1, r2, r3⟩ := r
      have k0 := F7.m.c0; have k1 := F7.m.c1
      have x7 := fun i => X7.cell i
      go_wp2_with fail
      refine (cI ⟨q0, q1, q2, q3⟩ _ F7).mono ?_
      rintro e w8 ⟨rfl, b8⟩
      have F8 := F7.on b8
      have X8 := X7.on b8 X7.lt
      clear F7 X7 b8 cI x7 k0 k1
      rw [HE.out]
      have F9 := F8.four hNM (.int .i64 r0) (.int .i64 r1) (.int .i64 r2) (.int .i64 r3)
      have X9 := (((X8.set 0 (.int .i64 r0)).set 1 (.int .i64 r1)).set 2 (.int .i64 r2)).set 3 (.int .i64 r3)
      have x8 := fun i => X8.cell i; have xf8 := fun i => X8.froz i
      go_wp2
      go_roundw
      case rel => exact ⟨k + 1, by omega, by go_num, F9, by rw [HR.out]; exact X9⟩
      case measure => simp [intOf]; omega
    · obtain rfl : k = 3 := by omega
      obtain ⟨kc, rfl⟩ := Int.eq_ofNat_of_zero_le HPC.out.1
      have j1 : (kc : Int) < 8 := by have := HPC.out; omega
      have j0 : (0 : Int) ≤ kc := by omega
      obtain ⟨b, off, rfl, hbl, A0⟩ := word_of F7.s kc (by rw [HN.out]; omega)
      have HL := (show Hid _ from fun h => lost (rv := rv) HM.out HPC.out h)
      have HGG := (show Hid _ from fun h => got (rv := rv) HM.out HPC.out h)
      obtain ⟨x, hx⟩ : ∃ x, wordAt ws (kc : Int) = x := ⟨_, rfl⟩
      rw [hx] at A0 HL HGG
      clear hx
      obtain ⟨y0, y1, y2⟩ := A0
      obtain ⟨xv, xr, xo⟩ := x
      simp only at y0 y1 y2 HL HGG
      have k0 := F7.m.c0; have k1 := F7.m.c1; have p0 := F7.p.cell 0
      have F8 := F7.on (alloc_below wr (.cells #[.int .i64 xv, .int .i64 xr, .int .i64 xo] 37))
      have X8 := X7.on (alloc_below wr (.cells #[.int .i64 xv, .int .i64 xr, .int .i64 xo] 37)) X7.lt
      have Y8 := Blk.new wr #[.int .i64 xv, .int .i64 xr, .int .i64 xo] 37
      by_cases hc : xo = 0 ∧ xr ≤ rv
      · obtain ⟨e3, e4⟩ := HGG.out hc
        rw [e3] at X8
        have HE4 := (show Hid _ from e4)
        have d0 : (xo != 0) = false := by simp [hc.1]
        have d1 : decide (rv < xr) = false := decide_eq_false (by omega)
        clear e3 e4 hc HL HGG X7 hbl
        have x8 := fun i => X8.cell i; have z8 := fun i => Y8.cell i
        go_wp2_with fail
        obtain ⟨Z, hZ⟩ : ∃ N, wr.heap.size = N := ⟨_, rfl⟩
        obtain ⟨W8, hW8⟩ : ∃ W, wr.alloc (.cells #[.int .i64 xv, .int .i64 xr, .int .i64 xo] 37) = W := ⟨_, rfl⟩
        clear x8 z8
        rw [hW8] at F8 X8 Y8 ⊢
        rw [hZ] at Y8 ⊢
        clear hW8 hZ y0 y1 y2 k0 k1 p0
        have FD := F8.drew; have XD := X8.drew; have YD := Y8.drew
        have hcl : ∀ W, FSt g w W N c (.slice (some ⟨b, off, none⟩) 8 cap) ws ⟨(kc : Int), pp, pv, px⟩ → Blk W M #[.int .i64 (kc : Int), .int .i64 3, .int .i64 xr, .int .i64 xv] 28 → Blk W Z #[.int .i64 xv, .int .i64 xr, .int .i64 xo] 37 → (fun W => (W.cell? ⟨N, 0, none⟩ = some (.int .i64 c) ∧ W.cell? ⟨N, 1, none⟩ = some (.slice (some ⟨b, off, none⟩) 8 cap)) ∧ (W.cell? ⟨M, 0, none⟩ = some (.int .i64 (kc : Int)) ∧ W.cell? ⟨M, 1, none⟩ = some (.int .i64 3) ∧ W.cell? ⟨M, 2, none⟩ = some (.int .i64 xr) ∧ W.cell? ⟨M, 3, none⟩ = some (.int .i64 xv)) ∧ W.cell? ⟨Z, 0, none⟩ = some (.int .i64 xv) ∧ W.cell? ⟨Z, 1, none⟩ = some (.int .i64 xr)) W := fun W h1 h2 h3 => ⟨⟨h1.m.c0, h1.m.c1⟩, ⟨h2.cell 0, h2.cell 1, h2.cell 2, h2.cell 3⟩, h3.cell 0, h3.cell 1⟩
        refine wp_region_held_drew (S := (fun W => (W.cell? ⟨N, 0, none⟩ = some (.int .i64 c) ∧ W.cell? ⟨N, 1, none⟩ = some (.slice (some ⟨b, off, none⟩) 8 cap)) ∧ (W.cell? ⟨M, 0, none⟩ = some (.int .i64 (kc : Int)) ∧ W.cell? ⟨M, 1, none⟩ = some (.int .i64 3) ∧ W.cell? ⟨M, 2, none⟩ = some (.int .i64 xr) ∧ W.cell? ⟨M, 3, none⟩ = some (.int .i64 xv)) ∧ W.cell? ⟨Z, 0, none⟩ = some (.int .i64 xv) ∧ W.cell? ⟨Z, 1, none⟩ = some (.int .i64 xr))) (by kernel_rfl) (hcl _ FD XD YD) (fun hHeld => ?_)
        refine takeH (i := 0) (some 64) (.pointer (some ⟨M, 1, none⟩)) rfl rfl (by kernel_rfl) (by kernel_rfl) (by kernel_rfl) (fun _ _ _ h => h) (Or.inl ⟨by rfl, fun w hSw => by (try dsimp only at hSw); go_simp⟩) (by assumption) ?_
        simp only [Act.put, List.setIfInBounds_toArray, List.set_cons_zero, List.set_cons_succ]
        refine takeH (i := 1) (some 65) (.int .i64 3) rfl rfl (by kernel_rfl) (by kernel_rfl) (by kernel_rfl) (fun _ _ _ h => h) (Or.inl ⟨by rfl, fun w hSw => by (try dsimp only at hSw); go_simp⟩) (by assumption) ?_
        simp only [Act.put, List.setIfInBounds_toArray, List.set_cons_zero, List.set_cons_succ]
        refine takeH (i := 2) (some 66) (.bool true) rfl rfl (by kernel_rfl) (by kernel_rfl) (by kernel_rfl) (fun _ _ _ h => h) (Or.inl ⟨by rfl, fun w hSw => by (try dsimp only at hSw); go_simp⟩) (by assumption) ?_
        simp only [Act.put, List.setIfInBounds_toArray, List.set_cons_zero, List.set_cons_succ]
        refine takeH (i := 3) (some 67) (.bool true) rfl rfl (by kernel_rfl) (by kernel_rfl) (by kernel_rfl) (fun _ _ _ h => h) (Or.inl ⟨by rfl, fun w hSw => by (try dsimp only at hSw); go_simp⟩) (by assumption) ?_
        simp only [Act.put, List.setIfInBounds_toArray, List.set_cons_zero, List.set_cons_succ]
        refine takeH (i := 4) (some 68) (.pointer (some ⟨M, 3, none⟩)) rfl rfl (by kernel_rfl) (by kernel_rfl) (by kernel_rfl) (fun _ _ _ h => h) (Or.inl ⟨by rfl, fun w hSw => by (try dsimp only at hSw); go_simp⟩) (by assumption) ?_
        simp only [Act.put, List.setIfInBounds_toArray, List.set_cons_zero, List.set_cons_succ]
        refine takeH (i := 5) (some 69) (.int .i64 xv) rfl rfl (by kernel_rfl) (by kernel_rfl) (by kernel_rfl) (fun _ _ _ h => h) (Or.inl ⟨by rfl, fun w hSw => by (try dsimp only at hSw); go_simp⟩) (by assumption) ?_
        simp only [Act.put, List.setIfInBounds_toArray, List.set_cons_zero, List.set_cons_succ]
        refine takeH (i := 6) (some 70) (.pointer (some ⟨Z, 0, none⟩)) rfl rfl (by kernel_rfl) (by kernel_rfl) (by kernel_rfl) (fun _ _ _ h => h) (Or.inl ⟨by rfl, fun w hSw => by (try dsimp only at hSw); go_simp⟩) (by assumption) ?_
        simp only [Act.put, List.setIfInBounds_toArray, List.set_cons_zero, List.set_cons_succ]
        refine takeH (i := 7) (some 71) (.int .i64 xv) rfl rfl (by kernel_rfl) (by kernel_rfl) (by kernel_rfl) (fun _ _ _ h => h) (Or.inl ⟨by rfl, fun w hSw => by (try dsimp only at hSw); go_simp⟩) (by assumption) ?_
        simp only [Act.put, List.setIfInBounds_toArray, List.set_cons_zero, List.set_cons_succ]
        refine takeH (i := 8) (some 72) (.bool true) rfl rfl (by kernel_rfl) (by kernel_rfl) (by kernel_rfl) (fun _ _ _ h => h) (Or.inl ⟨by rfl, fun w hSw => by (try dsimp only at hSw); go_simp⟩) (by assumption) ?_
        simp only [Act.put, List.setIfInBounds_toArray, List.set_cons_zero, List.set_cons_succ]
        refine takeH (i := 9) (some 73) (.bool true) rfl rfl (by kernel_rfl) (by kernel_rfl) (by kernel_rfl) (fun _ _ _ h => h) (Or.inl ⟨by rfl, fun w hSw => by (try dsimp only at hSw); go_simp⟩) (by assumption) ?_
        simp only [Act.put, List.setIfInBounds_toArray, List.set_cons_zero, List.set_cons_succ]
        refine takeH (i := 10) (some 74) (.bool true) rfl rfl (by kernel_rfl) (by kernel_rfl) (by kernel_rfl) (fun _ _ _ h => h) (Or.inl ⟨by rfl, fun w hSw => by (try dsimp only at hSw); go_simp⟩) (by assumption) ?_
        simp only [Act.put, List.setIfInBounds_toArray, List.set_cons_zero, List.set_cons_succ]
        refine takeH (i := 11) (some 75) (.pointer (some ⟨M, 2, none⟩)) rfl rfl (by kernel_rfl) (by kernel_rfl) (by kernel_rfl) (fun _ _ _ h => h) (Or.inl ⟨by rfl, fun w hSw => by (try dsimp only at hSw); go_simp⟩) (by assumption) ?_
        simp only [Act.put, List.setIfInBounds_toArray, List.set_cons_zero, List.set_cons_succ]
        refine takeH (i := 12) (some 76) (.int .i64 xr) rfl rfl (by kernel_rfl) (by kernel_rfl) (by kernel_rfl) (fun _ _ _ h => h) (Or.inl ⟨by rfl, fun w hSw => by (try dsimp only at hSw); go_simp⟩) (by assumption) ?_
        simp only [Act.put, List.setIfInBounds_toArray, List.set_cons_zero, List.set_cons_succ]
        refine takeH (i := 13) (some 77) (.pointer (some ⟨Z, 1, none⟩)) rfl rfl (by kernel_rfl) (by kernel_rfl) (by kernel_rfl) (fun _ _ _ h => h) (Or.inl ⟨by rfl, fun w hSw => by (try dsimp only at hSw); go_simp⟩) (by assumption) ?_
        simp only [Act.put, List.setIfInBounds_toArray, List.set_cons_zero, List.set_cons_succ]
        refine takeH (i := 14) (some 78) (.int .i64 xr) rfl rfl (by kernel_rfl) (by kernel_rfl) (by kernel_rfl) (fun _ _ _ h => h) (Or.inl ⟨by rfl, fun w hSw => by (try dsimp only at hSw); go_simp⟩) (by assumption) ?_
        simp only [Act.put, List.setIfInBounds_toArray, List.set_cons_zero, List.set_cons_succ]
        refine takeH (i := 15) (some 79) (.bool true) rfl rfl (by kernel_rfl) (by kernel_rfl) (by kernel_rfl) (fun _ _ _ h => h) (Or.inl ⟨by rfl, fun w hSw => by (try dsimp only at hSw); go_simp⟩) (by assumption) ?_
        simp only [Act.put, List.setIfInBounds_toArray, List.set_cons_zero, List.set_cons_succ]
        refine takeH (i := 16) (some 80) (.bool true) rfl rfl (by kernel_rfl) (by kernel_rfl) (by kernel_rfl) (fun _ _ _ h => h) (Or.inl ⟨by rfl, fun w hSw => by (try dsimp only at hSw); go_simp⟩) (by assumption) ?_
        simp only [Act.put, List.setIfInBounds_toArray, List.set_cons_zero, List.set_cons_succ]
        refine takeH (i := 17) (some 81) (.bool true) rfl rfl (by kernel_rfl) (by kernel_rfl) (by kernel_rfl) (fun _ _ _ h => h) (Or.inl ⟨by rfl, fun w hSw => by (try dsimp only at hSw); go_simp⟩) (by assumption) ?_
        simp only [Act.put, List.setIfInBounds_toArray, List.set_cons_zero, List.set_cons_succ]
        refine takeH (i := 18) (some 82) (.agg #[.int .i64 c, .slice (some ⟨b, off, none⟩) 8 cap]) rfl rfl (by kernel_rfl) (by kernel_rfl) (by kernel_rfl) (fun _ _ _ h => h) (Or.inl ⟨by rfl, fun w hSw => by (try dsimp only at hSw); go_simp⟩) (by assumption) ?_
        simp only [Act.put, List.setIfInBounds_toArray, List.set_cons_zero, List.set_cons_succ]
        refine takeH (i := 19) (some 83) (.int .i64 rv) rfl rfl (by kernel_rfl) (by kernel_rfl) (by kernel_rfl) (fun _ _ _ h => h) (Or.inl ⟨by rfl, fun w hSw => by (try dsimp only at hSw); go_simp⟩) (by assumption) ?_
        simp only [Act.put, List.setIfInBounds_toArray, List.set_cons_zero, List.set_cons_succ]
        refine takeH (i := 20) (some 84) (.agg #[.int .i64 (kc : Int), .int .i64 3, .int .i64 xr, .int .i64 xv]) rfl rfl (by kernel_rfl) (by kernel_rfl) (by kernel_rfl) (fun _ _ _ h => h) (Or.inl ⟨by rfl, fun w hSw => by (try dsimp only at hSw); go_simp⟩) (by assumption) ?_
        simp only [Act.put, List.setIfInBounds_toArray, List.set_cons_zero, List.set_cons_succ]
        refine takeH (i := 22) (some 86) (.agg #[.int .i64 (kc : Int), .int .i64 3, .int .i64 xr, .int .i64 xv]) rfl rfl (by kernel_rfl) (by kernel_rfl) (by kernel_rfl) (fun _ _ _ h => h) (Or.inl ⟨by rfl, fun w hSw => by (try dsimp only at hSw); go_simp⟩) (by assumption) ?_
        simp only [Act.put, List.setIfInBounds_toArray, List.set_cons_zero, List.set_cons_succ]
        refine wpAnyH_ready (rs := [21]) (by kernel_rfl) (by simp) ?_
        refine AllReadyH.cons rfl (fun K hK => ?_) AllReadyH.nil
        go_simp
        refine (implStep c _ ws rv ⟨(kc : Int), 3, xr, xv⟩ N _ FD.s (Nat.le_of_lt FD.m.lt)).mono ?_
        rintro e wz ⟨rfl, bz⟩
        have FZ := FD.on bz; have XZ := XD.on bz XD.lt; have YZ := YD.on bz YD.lt
        rw [HE4.out]
        go_simp
        refine hK.out _ _ (hcl _ FZ XZ YZ) (fun hS2 => ?_)
        clear hK K
        try simp only [Act.put, List.setIfInBounds_toArray, List.set_cons_zero, List.set_cons_succ]
        have he := fun W => eqSame ⟨(kc : Int), 3, xr, xv⟩ W
        refine takeH (i := 23) (some 87) (.bool true) rfl rfl (by kernel_rfl) (by kernel_rfl) (by kernel_rfl) (fun _ _ _ h => h) (Or.inl ⟨by rfl, fun w hSw => by (try dsimp only at hSw); go_simp⟩) (by assumption) ?_
        simp only [Act.put, List.setIfInBounds_toArray, List.set_cons_zero, List.set_cons_succ]
        refine takeH (i := 24) (some 88) (.bool true) rfl rfl (by kernel_rfl) (by kernel_rfl) (by kernel_rfl) (fun _ _ _ h => h) (Or.inl ⟨by rfl, fun w hSw => by (try dsimp only at hSw); go_simp⟩) (by assumption) ?_
        simp only [Act.put, List.setIfInBounds_toArray, List.set_cons_zero, List.set_cons_succ]
        refine takeH (i := 25) (some 2) (.bool true) rfl rfl (by kernel_rfl) (by kernel_rfl) (by kernel_rfl) (fun _ _ _ h => h) (Or.inl ⟨by rfl, fun w hSw => by (try dsimp only at hSw); go_simp⟩) (by assumption) ?_
        simp only [Act.put, List.setIfInBounds_toArray, List.set_cons_zero, List.set_cons_succ]
        refine wpAnyH_done (by kernel_rfl) ?_ _
        go_wp2
        go_ret
        exact ⟨rfl, FZ.b⟩
      · have e3 := HL.out hc
        rw [e3] at X8
        have HC := (show Hid _ from hc)
        have x8 := fun i => X8.cell i; have z8 := fun i => Y8.cell i
        by_cases h0 : xo = 0
        · have d0 : (xo != 0) = false := by simp [h0]
          have d1 : decide (rv < xr) = true := decide_eq_true (by have : ¬ xr ≤ rv := fun h => hc ⟨h0, h⟩; omega)
          clear e3 hc h0 HL HGG X7 hbl
          go_wp2
          go_ret
          exact ⟨rfl, F8.b⟩
        · have d0 : (xo != 0) = true := by simpa using h0
          clear e3 hc h0 HL HGG X7 hbl
          go_wp2
          go_ret
          exact ⟨rfl, F8.b⟩
theorem walkProbe (a : Option Addr) (len cap : Nat) (zs : List Int) (w : World) (h : Args.IsRow .u8 w a len cap zs) :
    Calls Try.prog 3 #[.slice a len cap] w fun e w' => e = .returned (.bool true) ∧ Below w.heap.size w w' := by
  by_cases hb : 1048576 < len
  · exact probeBig a len cap w hb
  · obtain ⟨l, hl, hC⟩ := Args.code h
    subst hl
    exact probeFn l a cap w hC (by omega)
end Probes
end Go.Proofs.Ytpjcbdanahiapaa
