/- ProbeStep as specified. -/
import Derived.Test.YtpjcbdanahiapaaProbeOkW
import Derived.Test.YtpjcbdanahiapaaWordImplOk
set_option linter.unusedVariables false
set_option linter.unusedSimpArgs false
namespace Go.Proofs.Ytpjcbdanahiapaa
open Go.RowKit
namespace Probes
open Bas

/-- what a walk of ProbeStep holds of its blocks: the memory, the probe, the answer -/
structure PSt (B : Nat) (w W : World) (c : Int) (v : Value) (ws : List Words.W3) (p r : P4) : Prop where
  m : Words.Box W w.heap.size c v 26
  p : Blk W (w.heap.size + 1) #[.int .i64 p.cell, .int .i64 p.phase, .int .i64 p.ver, .int .i64 p.val] 28
  r : Blk W (w.heap.size + 1 + 1) #[.int .i64 r.cell, .int .i64 r.phase, .int .i64 r.ver, .int .i64 r.val] 28
  s : Words.Sees B W v ws
  b : Below w.heap.size w W
  hB : B ≤ w.heap.size
section
variable {B : Nat} {w W W' : World} {c : Int} {v : Value} {ws : List Words.W3} {p r : P4}
theorem PSt.on (h : PSt B w W c v ws p r) (hb : Below W.heap.size W W') : PSt B w W' c v ws p r :=
  { m := h.m.on hb h.m.lt, p := h.p.on hb h.p.lt, r := h.r.on hb h.r.lt, s := h.s.on hb (Nat.le_trans h.hB h.b.size), b := h.b.trans (hb.mono h.b.size), hB := h.hB }
theorem PSt.new (w : World) (c : Int) (v : Value) (p : P4) (hs : Words.Sees B w v ws) (hB : B ≤ w.heap.size) :
    PSt B w (((w.alloc (.cells #[.int .i64 c, v] 26)).alloc (.cells #[.int .i64 p.cell, .int .i64 p.phase, .int .i64 p.ver, .int .i64 p.val] 28)).alloc (.cells #[.int .i64 0, .int .i64 0, .int .i64 0, .int .i64 0] 28)) c v ws p zero := by
  have a1 := alloc_below w (.cells #[.int .i64 c, v] 26)
  have M1 := Words.Box.new w c v 26
  have z1 : (w.alloc (.cells #[.int .i64 c, v] 26)).heap.size = w.heap.size + 1 := by simp
  obtain ⟨w1, hw1⟩ : ∃ W, w.alloc (.cells #[.int .i64 c, v] 26) = W := ⟨_, rfl⟩
  rw [hw1] at a1 M1 z1 ⊢
  have a2 := alloc_below w1 (.cells #[.int .i64 p.cell, .int .i64 p.phase, .int .i64 p.ver, .int .i64 p.val] 28)
  have P2 := Blk.new w1 #[.int .i64 p.cell, .int .i64 p.phase, .int .i64 p.ver, .int .i64 p.val] 28
  have z2 : (w1.alloc (.cells #[.int .i64 p.cell, .int .i64 p.phase, .int .i64 p.ver, .int .i64 p.val] 28)).heap.size = w.heap.size + 1 + 1 := by simp [z1]
  obtain ⟨w2, hw2⟩ : ∃ W, w1.alloc (.cells #[.int .i64 p.cell, .int .i64 p.phase, .int .i64 p.ver, .int .i64 p.val] 28) = W := ⟨_, rfl⟩
  rw [hw2] at a2 P2 z2 ⊢
  have a3 := alloc_below w2 (.cells #[.int .i64 0, .int .i64 0, .int .i64 0, .int .i64 0] 28)
  have R3 := Blk.new w2 #[.int .i64 0, .int .i64 0, .int .i64 0, .int .i64 0] 28
  rw [z1] at P2
  rw [z2] at R3
  have b2 := a1.trans (a2.mono (by omega))
  have b3 := b2.trans (a3.mono (by omega))
  exact { m := (M1.on a2 M1.lt).on a3 (by omega), p := P2.on a3 P2.lt, r := R3, s := hs.on b3 hB, b := b3, hB := hB }
theorem PSt.setP (h : PSt B w W c v ws p r) (i : Nat) (u : Int) {q : P4} (hq : (#[.int .i64 p.cell, .int .i64 p.phase, .int .i64 p.ver, .int .i64 p.val] : Array Value).setIfInBounds i (.int .i64 u) = #[.int .i64 q.cell, .int .i64 q.phase, .int .i64 q.ver, .int .i64 q.val]) :
    PSt B w (W.setCell ⟨w.heap.size + 1, i, none⟩ (.int .i64 u)) c v ws q r :=
  { m := (Blk.other (t := 26) h.m (by omega) i _ : _), p := by have := h.p.set i (.int .i64 u); rw [hq] at this; exact this, r := h.r.other (by omega) i _, b := h.b.setCell (p := ⟨w.heap.size + 1, i, none⟩) (by show w.heap.size ≤ w.heap.size + 1; omega) _, hB := h.hB,
    s := h.s.on (Below.setCell (Below.refl w.heap.size W) (p := ⟨w.heap.size + 1, i, none⟩) (by show w.heap.size ≤ w.heap.size + 1; omega) _) h.hB }
theorem PSt.drew (h : PSt B w W c v ws p r) : PSt B w W.drew c v ws p r := h.on ⟨rfl, rfl, rfl, Nat.le_refl _, fun _ _ => rfl⟩
end

theorem step_no {c : Int} {ws : List Words.W3} {rv : Int} {p : P4} (h : (Words.memOk c ws && probeOk p) = false) : stepOf c ws rv p = p := by
  unfold stepOf; rw [h]; rfl
theorem step_yes {c : Int} {ws : List Words.W3} {rv : Int} {p : P4} (h : (Words.memOk c ws && probeOk p) = true) : stepOf c ws rv p = stepF (wordAt ws p.cell) rv p := by
  unfold stepOf; rw [if_pos h]
set_option maxRecDepth 100000 in
set_option maxHeartbeats 3200000 in
theorem specStep (c : Int) (v : Value) (ws : List Words.W3) (rv : Int) (p : P4) (B : Nat) (w : World) (hv : Words.Sees B w v ws) (hB : B ≤ w.heap.size) :
    Calls Try.prog 20 #[.agg #[.int .i64 c, v], .int .i64 rv, p.agg] w fun e w' => e = .returned (stepOf c ws rv p).agg ∧ Below w.heap.size w w' := by
  obtain ⟨a, cap, rfl⟩ := hv.form
  have P0 := PSt.new w c (.slice a ws.length cap) p hv hB
  obtain ⟨W0, hW0⟩ : ∃ W, ((w.alloc (.cells #[.int .i64 c, .slice a ws.length cap] 26)).alloc (.cells #[.int .i64 p.cell, .int .i64 p.phase, .int .i64 p.ver, .int .i64 p.val] 28)).alloc (.cells #[.int .i64 0, .int .i64 0, .int .i64 0, .int .i64 0] 28) = W := ⟨_, rfl⟩
  rw [hW0] at P0
  have cM := Words.specOk c _ ws B W0 P0.s (Nat.le_trans hB P0.b.size)
  obtain ⟨m, hm⟩ : ∃ m, Words.memOk c ws = m := ⟨_, rfl⟩
  rw [hm] at cM
  have k0 := P0.m.c0; have k1 := P0.m.c1
  cases m with
  | false =>
    have HS : Hid (stepOf c ws rv p = p) := step_no (by rw [hm]; rfl)
    clear hm
    go_enter Try.func20, Try.ntmps20
    go_wp2_with fail
    refine cM.mono ?_
    rintro e w1 ⟨rfl, b1⟩
    have P1 := P0.on b1
    have p0 := fun i => P1.p.cell i; have r0 := fun i => P1.r.cell i; have f0 := fun i => P1.r.froz i
    clear cM hW0 k0 k1
    go_wp2
    refine bodyPost_ret (v := p.agg) (by simp [results, Try.results20, go_sem, r0]) rfl ⟨by rw [HS.out], ?_⟩
    iterate 4 refine Below.setCell ?_ (by first | exact Nat.le_refl _ | (show w.heap.size ≤ w.heap.size + 1 + 1; omega) | (show w.heap.size ≤ w.heap.size + 1; omega)) _
    exact P1.b
  | true =>
  have cP := fun W => specOk p W
  obtain ⟨q, hq⟩ : ∃ q, probeOk p = q := ⟨_, rfl⟩
  rw [hq] at cP
  cases q with
  | false =>
    have HS : Hid (stepOf c ws rv p = p) := step_no (by rw [hm, hq]; rfl)
    clear hm hq
    go_enter Try.func20, Try.ntmps20
    go_wp2_with fail
    refine cM.mono ?_
    rintro e w1 ⟨rfl, b1⟩
    have P1 := P0.on b1
    have p0 := fun i => P1.p.cell i
    clear cM hW0 k0 k1
    go_wp2_with fail
    refine (cP _).mono ?_
    rintro e w2 ⟨rfl, b2⟩
    have P2 := P1.on b2
    clear p0
    have p0 := fun i => P2.p.cell i; have r0 := fun i => P2.r.cell i; have f0 := fun i => P2.r.froz i
    go_wp2
    refine bodyPost_ret (v := p.agg) (by simp [results, Try.results20, go_sem, r0]) rfl ⟨by rw [HS.out], ?_⟩
    iterate 4 refine Below.setCell ?_ (by first | exact Nat.le_refl _ | (show w.heap.size ≤ w.heap.size + 1 + 1; omega) | (show w.heap.size ≤ w.heap.size + 1; omega)) _
    exact P2.b
  | true =>
  have hS := step_yes (rv := rv) (show (Words.memOk c ws && probeOk p) = true by rw [hm, hq]; rfl)
  obtain ⟨h1, h2, -, -⟩ := probeOk_out hq
  have h8 := (Words.memOk_out hm).1
  obtain ⟨pc, pp, pv, px⟩ := p
  simp only at h1 h2
  obtain ⟨k, rfl⟩ := Int.eq_ofNat_of_zero_le h1.1
  obtain ⟨j, rfl⟩ := Int.eq_ofNat_of_zero_le h2.1
  obtain ⟨b, off, rfl, hb, A0⟩ := word_of hv k (by omega)
  obtain ⟨x, hx⟩ : ∃ x, wordAt ws (k : Int) = x := ⟨_, rfl⟩
  rw [hx] at A0 hS
  rw [h8] at P0 k1 cM hW0 ⊢
  have i1 : (k : Int) < 8 := by omega
  have i2 : (0 : Int) ≤ k := by omega
  have HS := (show Hid _ from hS)
  clear hm hq hS hx
  go_enter Try.func20, Try.ntmps20
  go_wp2_with fail
  refine cM.mono ?_
  rintro e w1 ⟨rfl, b1⟩
  have P1 := P0.on b1
  have p0 := fun i => P1.p.cell i
  clear cM hW0 k0 k1
  go_wp2_with fail
  refine (cP _).mono ?_
  rintro e w2 ⟨rfl, b2⟩
  have P2 := P1.on b2
  clear p0
  have m0 := P2.m.c1; have p0 := fun i => P2.p.cell i
  obtain ⟨x0, x1, x2⟩ := A0.on P2.b (by omega)
  obtain ⟨xv, xr, xo⟩ := x
  simp only at x0 x1 x2
  have hs2 : w.heap.size + 1 + 1 < w2.heap.size := P2.r.lt
  have P3 := P2.on (alloc_below w2 (.cells #[.int .i64 xv, .int .i64 xr, .int .i64 xo] 37))
  have Y3 := Blk.new w2 #[.int .i64 xv, .int .i64 xr, .int .i64 xo] 37
  obtain ⟨W3, hW3⟩ : ∃ W, w2.alloc (.cells #[.int .i64 xv, .int .i64 xr, .int .i64 xo] 37) = W := ⟨_, rfl⟩
  rw [hW3] at P3 Y3
  have y3 := fun i => Y3.cell i; have yf3 := fun i => Y3.froz i
  clear cP b1 b2
  have p3 := fun i => P3.p.cell i; have f3 := fun i => P3.p.froz i; have m3 := P3.m.c1; have r9 := fun i => P3.r.cell i; have rf9 := fun i => P3.r.froz i
  rcases (show j = 0 ∨ j = 1 ∨ j = 2 ∨ j = 3 ∨ j = 4 by omega) with rfl | rfl | rfl | rfl | rfl
  · by_cases hc : xo = 0 ∧ xr ≤ rv
    · have d0 : (xo != 0) = false := by simp [hc.1]
      have d1 : decide (rv < xr) = false := decide_eq_false (by omega)
      have HC := (show Hid _ from hc)
      clear hc
      go_wp2
      refine bodyPost_ret (v := P4.agg ⟨k, 1, xr, px⟩) (by simp [results, Try.results20, go_sem, r9]) rfl ⟨by rw [HS.out]; simp [stepF, HC.out], ?_⟩
      iterate 6 refine Below.setCell ?_ (by first | exact Nat.le_refl _ | (show w.heap.size ≤ w.heap.size + 1 + 1; omega) | (show w.heap.size ≤ w.heap.size + 1; omega)) _
      exact P3.b
    · have HC := (show Hid _ from hc)
      by_cases h0 : xo = 0
      · have d0 : (xo != 0) = false := by simp [h0]
        have d1 : decide (rv < xr) = true := decide_eq_true (by have : ¬ xr ≤ rv := fun h => hc ⟨h0, h⟩; omega)
        clear hc h0
        go_wp2
        refine bodyPost_ret (v := P4.agg ⟨k, 4, pv, px⟩) (by simp [results, Try.results20, go_sem, r9]) rfl ⟨by rw [HS.out]; simp [stepF, if_neg HC.out], ?_⟩
        iterate 5 refine Below.setCell ?_ (by first | exact Nat.le_refl _ | (show w.heap.size ≤ w.heap.size + 1 + 1; omega) | (show w.heap.size ≤ w.heap.size + 1; omega)) _
        exact P3.b
      · have d0 : (xo != 0) = true := by simpa using h0
        clear hc h0
        go_wp2
        refine bodyPost_ret (v := P4.agg ⟨k, 4, pv, px⟩) (by simp [results, Try.results20, go_sem, r9]) rfl ⟨by rw [HS.out]; simp [stepF, if_neg HC.out], ?_⟩
        iterate 5 refine Below.setCell ?_ (by first | exact Nat.le_refl _ | (show w.heap.size ≤ w.heap.size + 1 + 1; omega) | (show w.heap.size ≤ w.heap.size + 1; omega)) _
        exact P3.b
  · have HC : Hid True := trivial
    go_wp2
    refine bodyPost_ret (v := P4.agg ⟨k, 2, pv, xv⟩) (by simp [results, Try.results20, go_sem, r9]) rfl ⟨by rw [HS.out]; simp [stepF, HC.out], ?_⟩
    iterate 6 refine Below.setCell ?_ (by first | exact Nat.le_refl _ | (show w.heap.size ≤ w.heap.size + 1 + 1; omega) | (show w.heap.size ≤ w.heap.size + 1; omega)) _
    exact P3.b
  · by_cases hc : xo = 0 ∧ xr = pv
    · have d0 : (xo != 0) = false := by simp [hc.1]
      have d1 : (xr != pv) = false := by simp [hc.2]
      have HC := (show Hid _ from hc)
      clear hc
      go_wp2
      refine bodyPost_ret (v := P4.agg ⟨k, 3, pv, px⟩) (by simp [results, Try.results20, go_sem, r9]) rfl ⟨by rw [HS.out]; simp [stepF, HC.out], ?_⟩
      iterate 5 refine Below.setCell ?_ (by first | exact Nat.le_refl _ | (show w.heap.size ≤ w.heap.size + 1 + 1; omega) | (show w.heap.size ≤ w.heap.size + 1; omega)) _
      exact P3.b
    · have HC := (show Hid _ from hc)
      by_cases h0 : xo = 0
      · have d0 : (xo != 0) = false := by simp [h0]
        have d1 : (xr != pv) = true := by
          have h1 : ¬ xr = pv := fun h => hc ⟨h0, h⟩
          simpa using h1
        clear hc h0
        go_wp2
        refine bodyPost_ret (v := P4.agg ⟨k, 4, pv, px⟩) (by simp [results, Try.results20, go_sem, r9]) rfl ⟨by rw [HS.out]; simp [stepF, if_neg HC.out], ?_⟩
        iterate 6 refine Below.setCell ?_ (by first | exact Nat.le_refl _ | (show w.heap.size ≤ w.heap.size + 1 + 1; omega) | (show w.heap.size ≤ w.heap.size + 1; omega)) _
        exact P3.b
      · have d0 : (xo != 0) = true := by simpa using h0
        clear hc h0
        go_wp2
        refine bodyPost_ret (v := P4.agg ⟨k, 4, pv, px⟩) (by simp [results, Try.results20, go_sem, r9]) rfl ⟨by rw [HS.out]; simp [stepF, if_neg HC.out], ?_⟩
        iterate 6 refine Below.setCell ?_ (by first | exact Nat.le_refl _ | (show w.heap.size ≤ w.heap.size + 1 + 1; omega) | (show w.heap.size ≤ w.heap.size + 1; omega)) _
        exact P3.b
  · have HC : Hid True := trivial
    go_wp2
    refine bodyPost_ret (v := P4.agg ⟨k, 3, pv, px⟩) (by simp [results, Try.results20, go_sem, r9]) rfl ⟨by rw [HS.out]; simp [stepF, HC.out], ?_⟩
    iterate 4 refine Below.setCell ?_ (by first | exact Nat.le_refl _ | (show w.heap.size ≤ w.heap.size + 1 + 1; omega) | (show w.heap.size ≤ w.heap.size + 1; omega)) _
    exact P3.b
  · have HC : Hid True := trivial
    go_wp2
    refine bodyPost_ret (v := P4.agg ⟨k, 4, pv, px⟩) (by simp [results, Try.results20, go_sem, r9]) rfl ⟨by rw [HS.out]; simp [stepF, HC.out], ?_⟩
    iterate 4 refine Below.setCell ?_ (by first | exact Nat.le_refl _ | (show w.heap.size ≤ w.heap.size + 1 + 1; omega) | (show w.heap.size ≤ w.heap.size + 1; omega)) _
    exact P3.b
end Probes
end Go.Proofs.Ytpjcbdanahiapaa
