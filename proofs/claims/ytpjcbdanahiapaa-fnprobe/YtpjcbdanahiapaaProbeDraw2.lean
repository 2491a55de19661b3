/- What DrawProbeStep draws, told loosely: some memory of at most eight words, some number, some probe. -/
import Derived.Test.YtpjcbdanahiapaaProbeDraw
import Derived.Test.YtpjcbdanahiapaaProbeOkW
import Derived.Test.YtpjcbdanahiapaaWordDrawLaw
import Derived.Test.YtpjcbdanahiapaaTake
set_option linter.unusedVariables false
set_option linter.unusedSimpArgs false
namespace Go.Proofs.Ytpjcbdanahiapaa
open Go.RowKit
namespace Probes
open Bas Draw

/-- the draw on its way: the results' blocks, the memory's variable, the probe's -/
structure GSt (B g : Nat) (vc : Value) (l : List UInt8) (w W : World) (N6 : Nat) (c : Int) (u : Value) (ws : List Words.W3) : Prop where
  D : Dr B g vc l W
  b : Below w.heap.size w W
  r2 : Blk W w.heap.size #[.int .i64 0, .slice none 0 0] 26
  r4 : Blk W (w.heap.size + 1) #[.int .i64 0, .int .i64 0, .int .i64 0, .int .i64 0] 28
  x : Words.Box W N6 c u 26
  o : Words.Owns (w.heap.size + 2) W u ws
  hw : ws.length ≤ 8
  hg : w.heap.size + 1 < g
  hN : g < N6
  hog : ∀ k, u.ownBlock = some k → k ≠ g ∧ k ≠ N6
section
variable {B g N6 : Nat} {vc u : Value} {l : List UInt8} {w W W' : World} {c : Int} {ws : List Words.W3}
theorem GSt.draw (h : GSt B g vc l w W N6 c u ws) (D : Dr B g vc l W') (G : W.grownBy W' (some g)) : GSt B g vc l w W' N6 c u ws :=
  have a := h.hg
  have b := h.hN
  { D := D, b := h.b.grown G h.b.size (fun k hk => by cases hk; omega), r2 := h.r2.grown G (fun e => by injection e with e; omega), r4 := h.r4.grown G (fun e => by injection e with e; omega), x := h.x.grown G (fun e => by injection e with e; omega), o := h.o.grown G (fun k hk e => (h.hog k hk).1 (by injection e)), hw := h.hw, hg := a, hN := b, hog := h.hog }
theorem GSt.on (h : GSt B g vc l w W N6 c u ws) (hb : Below W.heap.size W W') : GSt B g vc l w W' N6 c u ws :=
  { D := by obtain ⟨s, C⟩ := h.D; exact ⟨s, Words.Ctx.farBelow C hb C.cur.lt⟩, b := h.b.trans (hb.mono h.b.size), r2 := h.r2.on hb h.r2.lt, r4 := h.r4.on hb h.r4.lt, x := h.x.on hb h.x.lt, o := h.o.on hb (Nat.le_refl _), hw := h.hw, hg := h.hg, hN := h.hN, hog := h.hog }
end

theorem GSt.start {B g : Nat} {vc u : Value} {l : List UInt8} {w w2 W : World} {ws : List Words.W3} (D : Dr B g vc l W) (b : Below w.heap.size w W) (r2 : Blk W w.heap.size #[.int .i64 0, .slice none 0 0] 26) (r4 : Blk W (w.heap.size + 1) #[.int .i64 0, .int .i64 0, .int .i64 0, .int .i64 0] 28)
    (o : Words.Owns w2.heap.size W u ws) (hw : ws.length ≤ 8) (hg : w.heap.size + 1 < g) (hgl : g < w2.heap.size) (hz : w.heap.size + 2 ≤ w2.heap.size) (c : Int) : GSt B g vc l w (W.alloc (.cells #[.int .i64 c, u] 26)) W.heap.size c u ws :=
  { D := D.alloc _, b := b.trans ((alloc_below W _).mono b.size), r2 := r2.on (alloc_below W _) r2.lt, r4 := r4.on (alloc_below W _) r4.lt, x := Words.Box.new W c u _, o := (o.on (alloc_below W _) (Nat.le_refl _)).mono hz, hw := hw, hg := hg, hN := D.lt,
    hog := fun k hk => by have := o.at k hk; omega }
section
variable {B g N6 : Nat} {vc u : Value} {l : List UInt8} {w W W' : World} {c : Int} {ws : List Words.W3}
theorem GSt.put (h : GSt B g vc l w W N6 c u ws) (c' : Int) {u' : Value} {ws' : List Words.W3} (o : Words.Owns (w.heap.size + 2) W u' ws') (hw : ws'.length ≤ 8) (hog : ∀ k, u'.ownBlock = some k → k ≠ g ∧ k ≠ N6) : GSt B g vc l w ((W.setCell ⟨N6, 0, none⟩ (.int .i64 c')).setCell ⟨N6, 1, none⟩ u') N6 c' u' ws' :=
  have a := h.hg
  have b := h.hN
  { D := (h.D.set b 0 _).set b 1 _, b := (h.b.setCell (p := ⟨N6, 0, none⟩) (by show w.heap.size ≤ N6; omega) _).setCell (p := ⟨N6, 1, none⟩) (by show w.heap.size ≤ N6; omega) _,
    r2 := (h.r2.other (by omega) 0 _).other (by omega) 1 _, r4 := (h.r4.other (by omega) 0 _).other (by omega) 1 _,
    x := (Blk.set (t := 26) (Blk.set (t := 26) h.x 0 (.int .i64 c')) 1 u' : _),
    o := (o.other (p := ⟨N6, 0, none⟩) (fun k e => (hog k e).2) _).other (p := ⟨N6, 1, none⟩) (fun k e => (hog k e).2) _, hw := hw, hg := a, hN := b, hog := hog }
end
/-- and the probe that was drawn -/
structure TSt (B g : Nat) (vc : Value) (l : List UInt8) (w W : World) (N6 N7 : Nat) (c : Int) (u : Value) (ws : List Words.W3) (p : P4) : Prop where
  h : GSt B g vc l w W N6 c u ws
  p : Blk W N7 #[.int .i64 p.cell, .int .i64 p.phase, .int .i64 p.ver, .int .i64 p.val] 28
  hN7 : g < N7 ∧ N6 ≠ N7 ∧ ∀ k, u.ownBlock = some k → k ≠ N7
section
variable {B g N6 N7 : Nat} {vc u : Value} {l : List UInt8} {w W W' : World} {c : Int} {ws : List Words.W3} {p : P4}
theorem TSt.new (h : GSt B g vc l w W N6 c u ws) (p : P4) : TSt B g vc l w (W.alloc (.cells #[.int .i64 p.cell, .int .i64 p.phase, .int .i64 p.ver, .int .i64 p.val] 28)) N6 W.heap.size c u ws p :=
  { h := h.on (alloc_below W _), p := Blk.new W _ _, hN7 := ⟨h.D.lt, fun e => by have := h.x.lt; omega, fun k e => by have := (h.o.at k e).2; omega⟩ }
theorem TSt.draw (h : TSt B g vc l w W N6 N7 c u ws p) (D : Dr B g vc l W') (G : W.grownBy W' (some g)) : TSt B g vc l w W' N6 N7 c u ws p :=
  { h := h.h.draw D G, p := h.p.grown G (fun e => by injection e with e; have := h.hN7.1; omega), hN7 := h.hN7 }
theorem TSt.on (h : TSt B g vc l w W N6 N7 c u ws p) (hb : Below W.heap.size W W') : TSt B g vc l w W' N6 N7 c u ws p :=
  { h := h.h.on hb, p := h.p.on hb h.p.lt, hN7 := h.hN7 }
theorem TSt.drew (h : TSt B g vc l w W N6 N7 c u ws p) : TSt B g vc l w W.drew N6 N7 c u ws p := h.on ⟨rfl, rfl, rfl, Nat.le_refl _, fun _ _ => rfl⟩
theorem TSt.ver (h : TSt B g vc l w W N6 N7 c u ws p) (y : Int) : TSt B g vc l w (W.setCell ⟨N7, 2, none⟩ (.int .i64 y)) N6 N7 c u ws ⟨p.cell, p.phase, y, p.val⟩ :=
  have a := h.hN7
  have b := h.h.hg
  { h := { D := h.h.D.set a.1 2 _, b := h.h.b.setCell (p := ⟨N7, 2, none⟩) (by show w.heap.size ≤ N7; omega) _, r2 := h.h.r2.other (by omega) 2 _, r4 := h.h.r4.other (by omega) 2 _, x := Blk.other (t := 26) h.h.x a.2.1 2 _, o := h.h.o.other (p := ⟨N7, 2, none⟩) a.2.2 _, hw := h.h.hw, hg := b, hN := h.h.hN, hog := h.h.hog }
    p := h.p.set 2 _, hN7 := a }
theorem TSt.cells (h : TSt B g vc l w W N6 N7 c u ws p) : W.cell? ⟨N6, 0, none⟩ = some (.int .i64 c) ∧ W.cell? ⟨N6, 1, none⟩ = some u ∧ W.cell? ⟨N7, 0, none⟩ = some (.int .i64 p.cell) ∧ W.cell? ⟨N7, 1, none⟩ = some (.int .i64 p.phase) ∧ W.cell? ⟨N7, 2, none⟩ = some (.int .i64 p.ver) ∧ W.cell? ⟨N7, 3, none⟩ = some (.int .i64 p.val) :=
  ⟨h.h.x.c0, h.h.x.c1, h.p.cell 0, h.p.cell 1, h.p.cell 2, h.p.cell 3⟩
theorem cell_other {W : World} {p b i j : Nat} (h : b ≠ p) (u : Value) : (W.setCell ⟨p, j, none⟩ u).cell? ⟨b, i, none⟩ = W.cell? ⟨b, i, none⟩ := by
  have := Below.heap_setCell W ⟨p, j, none⟩ u b h
  simp [World.cell?, this]
/-- behind the store of the memory's result -/
theorem TSt.cells2 (h : TSt B g vc l w W N6 N7 c u ws p) {u0 u1 : Value} : ((W.setCell ⟨w.heap.size, 0, none⟩ u0).setCell ⟨w.heap.size, 1, none⟩ u1).cell? ⟨N6, 0, none⟩ = some (.int .i64 c) ∧ ((W.setCell ⟨w.heap.size, 0, none⟩ u0).setCell ⟨w.heap.size, 1, none⟩ u1).cell? ⟨N6, 1, none⟩ = some u ∧ ((W.setCell ⟨w.heap.size, 0, none⟩ u0).setCell ⟨w.heap.size, 1, none⟩ u1).cell? ⟨N7, 0, none⟩ = some (.int .i64 p.cell) ∧ ((W.setCell ⟨w.heap.size, 0, none⟩ u0).setCell ⟨w.heap.size, 1, none⟩ u1).cell? ⟨N7, 1, none⟩ = some (.int .i64 p.phase) ∧ ((W.setCell ⟨w.heap.size, 0, none⟩ u0).setCell ⟨w.heap.size, 1, none⟩ u1).cell? ⟨N7, 2, none⟩ = some (.int .i64 p.ver) ∧ ((W.setCell ⟨w.heap.size, 0, none⟩ u0).setCell ⟨w.heap.size, 1, none⟩ u1).cell? ⟨N7, 3, none⟩ = some (.int .i64 p.val) := by
  have a := h.hN7
  have b := h.h.hg
  have d := h.h.hN
  obtain ⟨c0, c1, c2, c3, c4, c5⟩ := h.cells
  have k : ∀ {q i : Nat}, q ≠ w.heap.size → ((W.setCell ⟨w.heap.size, 0, none⟩ u0).setCell ⟨w.heap.size, 1, none⟩ u1).cell? ⟨q, i, none⟩ = W.cell? ⟨q, i, none⟩ := fun hq => (cell_other hq _).trans (cell_other hq _)
  exact ⟨(k (by omega)).trans c0, (k (by omega)).trans c1, (k (by omega)).trans c2, (k (by omega)).trans c3, (k (by omega)).trans c4, (k (by omega)).trans c5⟩
theorem TSt.owns6 (h : TSt B g vc l w W N6 N7 c u ws p) {u0 u1 q0 q1 q2 q3 : Value} : Words.Owns w.heap.size ((((((W.setCell ⟨w.heap.size, 0, none⟩ u0).setCell ⟨w.heap.size, 1, none⟩ u1).setCell ⟨w.heap.size + 1, 0, none⟩ q0).setCell ⟨w.heap.size + 1, 1, none⟩ q1).setCell ⟨w.heap.size + 1, 2, none⟩ q2).setCell ⟨w.heap.size + 1, 3, none⟩ q3) u ws := by
  have k0 : ∀ k, u.ownBlock = some k → k ≠ w.heap.size := fun k e => by have := (h.h.o.at k e).1; omega
  have k1 : ∀ k, u.ownBlock = some k → k ≠ w.heap.size + 1 := fun k e => by have := (h.h.o.at k e).1; omega
  exact ((((((h.h.o.other (p := ⟨w.heap.size, 0, none⟩) k0 _).other (p := ⟨w.heap.size, 1, none⟩) k0 _).other (p := ⟨w.heap.size + 1, 0, none⟩) k1 _).other (p := ⟨w.heap.size + 1, 1, none⟩) k1 _).other (p := ⟨w.heap.size + 1, 2, none⟩) k1 _).other (p := ⟨w.heap.size + 1, 3, none⟩) k1 _).mono (by omega)
theorem TSt.below6 (h : TSt B g vc l w W N6 N7 c u ws p) {u0 u1 q0 q1 q2 q3 : Value} : Below w.heap.size w ((((((W.setCell ⟨w.heap.size, 0, none⟩ u0).setCell ⟨w.heap.size, 1, none⟩ u1).setCell ⟨w.heap.size + 1, 0, none⟩ q0).setCell ⟨w.heap.size + 1, 1, none⟩ q1).setCell ⟨w.heap.size + 1, 2, none⟩ q2).setCell ⟨w.heap.size + 1, 3, none⟩ q3) :=
  below_four ((h.h.b.setCell (p := ⟨w.heap.size, 0, none⟩) (Nat.le_refl _) u0).setCell (p := ⟨w.heap.size, 1, none⟩) (Nat.le_refl _) u1) (by omega) q0 q1 q2 q3
theorem TSt.cells3 (h : TSt B g vc l w W N6 N7 c u ws p) {u0 u1 q0 q1 q2 q3 : Value} : (fun V : World => V.cell? ⟨N6, 0, none⟩ = some (.int .i64 c) ∧ V.cell? ⟨N6, 1, none⟩ = some u ∧ V.cell? ⟨N7, 0, none⟩ = some (.int .i64 p.cell) ∧ V.cell? ⟨N7, 1, none⟩ = some (.int .i64 p.phase) ∧ V.cell? ⟨N7, 2, none⟩ = some (.int .i64 p.ver) ∧ V.cell? ⟨N7, 3, none⟩ = some (.int .i64 p.val)) ((((((W.setCell ⟨w.heap.size, 0, none⟩ u0).setCell ⟨w.heap.size, 1, none⟩ u1).setCell ⟨w.heap.size + 1, 0, none⟩ q0).setCell ⟨w.heap.size + 1, 1, none⟩ q1).setCell ⟨w.heap.size + 1, 2, none⟩ q2).setCell ⟨w.heap.size + 1, 3, none⟩ q3) := by
  have a := h.hN7
  have b := h.h.hg
  have d := h.h.hN
  obtain ⟨c0, c1, c2, c3, c4, c5⟩ := h.cells2 (u0 := u0) (u1 := u1)
  have k : ∀ {V : World} {q i : Nat}, q ≠ w.heap.size + 1 → ((((V.setCell ⟨w.heap.size + 1, 0, none⟩ q0).setCell ⟨w.heap.size + 1, 1, none⟩ q1).setCell ⟨w.heap.size + 1, 2, none⟩ q2).setCell ⟨w.heap.size + 1, 3, none⟩ q3).cell? ⟨q, i, none⟩ = V.cell? ⟨q, i, none⟩ := fun hq => (cell_other hq _).trans ((cell_other hq _).trans ((cell_other hq _).trans (cell_other hq _)))
  exact ⟨(k (by omega)).trans c0, (k (by omega)).trans c1, (k (by omega)).trans c2, (k (by omega)).trans c3, (k (by omega)).trans c4, (k (by omega)).trans c5⟩
end

set_option maxRecDepth 100000 in
set_option maxHeartbeats 12800000 in
theorem drawStepC (B : Nat) (v : Value) (l : List UInt8) (w : World) (hC : Draw.Code B w v l) (hB : B ≤ w.heap.size) (hl : l.length ≤ 1048576) :
    Calls Try.prog 10 #[v] w fun e w' => ∃ (c : Int) (u : Value) (ws : List Words.W3) (rv : Int) (p : P4), e = .returned (.tuple #[.agg #[.int .i64 c, u], .int .i64 rv, p.agg]) ∧ Words.Owns w.heap.size w' u ws ∧ ws.length ≤ 8 ∧ -1 ≤ rv ∧ rv ≤ 13 ∧ Below w.heap.size w w' := by
  have a0 := alloc_below w (.cells #[.int .i64 0, .slice none 0 0] 26)
  have R0 := Blk.new w #[.int .i64 0, .slice none 0 0] 26
  have z0 : (w.alloc (.cells #[.int .i64 0, .slice none 0 0] 26)).heap.size = w.heap.size + 1 := by simp
  obtain ⟨w0, hw0⟩ : ∃ W, w.alloc (.cells #[.int .i64 0, .slice none 0 0] 26) = W := ⟨_, rfl⟩
  rw [hw0] at a0 R0 z0
  have a1 := alloc_below w0 (.cells #[.int .i64 0, .int .i64 0, .int .i64 0, .int .i64 0] 28)
  have R1 := Blk.new w0 #[.int .i64 0, .int .i64 0, .int .i64 0, .int .i64 0] 28
  rw [z0] at R1
  have R0 := R0.on a1 (by omega)
  have b1 := a0.trans (a1.mono (by omega))
  have z1 : (w0.alloc (.cells #[.int .i64 0, .int .i64 0, .int .i64 0, .int .i64 0] 28)).heap.size = w.heap.size + 2 := by simp [z0]
  obtain ⟨w1, hw1⟩ : ∃ W, w0.alloc (.cells #[.int .i64 0, .int .i64 0, .int .i64 0, .int .i64 0] 28) = W := ⟨_, rfl⟩
  rw [hw1] at a1 R1 R0 b1 z1
  have cN := newC B v l w1 (hC.below (b1.mono hB)) (by omega) hl
  clear a0 a1
  go_enter Try.func10, Try.ntmps10
  go_wp2_with fail
  try rw [hw0, hw1]
  refine cN.mono ?_
  rintro e w2 ⟨rfl, C2, g2⟩
  have D2 : Dr B w1.heap.size v l w2 := ⟨_, C2⟩
  have G2 := g2
  obtain ⟨g, hg⟩ : ∃ g, w1.heap.size = g := ⟨_, rfl⟩
  have hgl := C2.cur.lt
  rw [hg] at C2 D2 hgl ⊢
  have hgw : w.heap.size + 1 < g := by omega
  have R2 := R0.grown g2 (by simp)
  have R4 := R1.grown g2 (by simp)
  have b2 : Below w.heap.size w w2 := b1.grown g2 b1.size (fun k hk => by cases hk)
  clear hw0 hw1 cN R0 R1 b1 g2 G2 z0
  go_wp2_with fail
  refine (Words.memC B g v l _ w2 C2).mono ?_
  rintro e w3 ⟨c, u, ws, s3, rfl, O3, hw8, hc0, hc1, C3, G3⟩
  have H4 := GSt.start ⟨_, C3⟩ (b2.grown G3 b2.size (fun k hk => by cases hk; omega)) (R2.grown G3 (fun e => by injection e with e; omega)) (R4.grown G3 (fun e => by injection e with e; omega)) O3 (Nat.le_of_eq hw8) hgw hgl (by omega) c
  obtain ⟨a, cap, rfl⟩ := O3.form
  obtain ⟨n, hn⟩ : ∃ n, ws.length = n := ⟨_, rfl⟩
  have HN := (show Hid _ from hn)
  rw [hn] at H4 ⊢
  clear hn O3 C3 C2 D2 R2 R4 b2 hgl hw8 hc0 hc1
  go_wp2_with fail
  have hN6 : g < w3.heap.size := H4.hN
  obtain ⟨N6, hN6e⟩ : ∃ N, w3.heap.size = N := ⟨_, rfl⟩
  obtain ⟨W4, hW4⟩ : ∃ W, w3.alloc (.cells #[.int .i64 c, .slice a n cap] 26) = W := ⟨_, rfl⟩
  rw [hW4] at H4 ⊢
  rw [hN6e] at H4 hN6 ⊢
  clear hW4 hN6e G3
  refine (onceE H4.D 15).mono ?_
  rintro e w5 ⟨b, rfl, D5, G5⟩
  have H5 := H4.draw D5 G5
  clear D5 G5 H4
  cases b with
  | false =>
    go_wp2_with fail
    refine (anyPE H5.D).mono ?_
    rintro e w7 ⟨p, rfl, D7, G7⟩
    have H7 := H5.draw D7 G7
    clear D7 G7 H5
    obtain ⟨pc, pp, pv, px⟩ := p
    have T8 := TSt.new H7 ⟨pc, pp, pv, px⟩
    clear H7
    go_wp2_with fail
    obtain ⟨N7, hN7⟩ : ∃ N, w7.heap.size = N := ⟨_, rfl⟩
    obtain ⟨W8, hW8⟩ : ∃ W, w7.alloc (.cells #[.int .i64 pc, .int .i64 pp, .int .i64 pv, .int .i64 px] 28) = W := ⟨_, rfl⟩
    rw [hW8] at T8 ⊢
    rw [hN7] at T8 ⊢
    clear hW8 hN7
    refine (specOk ⟨pc, pp, pv, px⟩ _).mono ?_
    rintro e w9 ⟨rfl, b9⟩
    have T9 := T8.on b9
    clear T8 b9
    obtain ⟨xx0, xx1, pp0, pp1, pp2, pp3⟩ := T9.cells
    obtain ⟨q, hq⟩ : ∃ q, probeOk ⟨pc, pp, pv, px⟩ = q := ⟨_, rfl⟩
    rw [hq]
    cases q with
    | false =>
      clear hq
      go_wp2_with fail
      try clear xx xf pp pf
      have HD := T9.drew
      refine wp_region_held_drew (S := fun W => W.cell? ⟨N6, 0, none⟩ = some (.int .i64 c) ∧ W.cell? ⟨N6, 1, none⟩ = some (.slice a n cap) ∧ W.cell? ⟨N7, 0, none⟩ = some (.int .i64 pc) ∧ W.cell? ⟨N7, 1, none⟩ = some (.int .i64 pp) ∧ W.cell? ⟨N7, 2, none⟩ = some (.int .i64 pv) ∧ W.cell? ⟨N7, 3, none⟩ = some (.int .i64 px)) (by kernel_rfl) HD.cells (fun hHeld => ?_)
      refine takeH (i := 0) (some 38) (.agg #[.int .i64 c, .slice a n cap]) rfl rfl (by kernel_rfl) (by kernel_rfl) (by kernel_rfl) (fun _ _ _ h => h) (Or.inl ⟨by rfl, fun w hSw => by (try dsimp only at hSw); go_simp⟩) (by assumption) ?_
      simp only [Act.put, List.setIfInBounds_toArray, List.set_cons_zero, List.set_cons_succ]
      refine takeH (i := 1) (some 39) (.pointer (some ⟨g, 0, none⟩)) rfl rfl (by kernel_rfl) (by kernel_rfl) (by kernel_rfl) (fun _ _ _ h => h) (Or.inl ⟨by rfl, fun w hSw => by (try dsimp only at hSw); go_simp⟩) (by assumption) ?_
      simp only [Act.put, List.setIfInBounds_toArray, List.set_cons_zero, List.set_cons_succ]
      refine takeH (i := 4) (some 42) (.agg #[.int .i64 pc, .int .i64 pp, .int .i64 pv, .int .i64 px]) rfl rfl (by kernel_rfl) (by kernel_rfl) (by kernel_rfl) (fun _ _ _ h => h) (Or.inl ⟨by rfl, fun w hSw => by (try dsimp only at hSw); go_simp⟩) (by assumption) ?_
      simp only [Act.put, List.setIfInBounds_toArray, List.set_cons_zero, List.set_cons_succ]
      refine wpAnyH_ready (rs := [2]) (by kernel_rfl) (by simp) ?_
      refine AllReadyH.cons rfl (fun K hK => ?_) AllReadyH.nil
      go_simp
      refine (belowE HD.h.D 14 (by omega)).mono ?_
      rintro e wz ⟨rv, rfl, rv0, rv1, Dz, Gz⟩
      have HZ := HD.draw Dz Gz
      clear Dz Gz
      go_simp
      refine hK.out _ _ HZ.cells (fun _ => ?_)
      clear hK K HD hHeld
      try simp only [Act.put, List.setIfInBounds_toArray, List.set_cons_zero, List.set_cons_succ]
      have hb0 : -9223372036854775808 ≤ rv - 1 := by omega
      have hb1 : rv - 1 ≤ 9223372036854775807 := by omega
      have hwr : IntKind.i64.wrap (rv - 1) = rv - 1 := by rw [IntKind.wrap_i64]; omega
      have hS := HZ.cells
      refine takeH (i := 3) (some 41) (.int .i64 (rv - 1)) rfl rfl (by kernel_rfl) (by kernel_rfl) (by kernel_rfl) (fun _ _ _ h => h) (Or.inl ⟨by rfl, fun w hSw => by (try dsimp only at hSw); go_simp⟩) (by assumption) ?_
      simp only [Act.put, List.setIfInBounds_toArray, List.set_cons_zero, List.set_cons_succ]
      have q2 := fun i => HZ.h.r2.cell i; have qf2 := fun i => HZ.h.r2.froz i; have q4 := fun i => HZ.h.r4.cell i; have qf4 := fun i => HZ.h.r4.froz i
      refine wpAnyH_ready (rs := [5]) (by kernel_rfl) (by simp) ?_
      refine AllReadyH.cons rfl (fun K hK => ?_) AllReadyH.nil
      go_simp
      refine hK.out _ _ HZ.cells2 (fun hS2 => ?_)
      clear hK K
      try simp only [Act.put, List.setIfInBounds_toArray, List.set_cons_zero, List.set_cons_succ]
      refine takeH (i := 6) (some 3) (.int .i64 (rv - 1)) rfl rfl (by kernel_rfl) (by kernel_rfl) (by kernel_rfl) (fun _ _ _ h => h) (Or.inl ⟨by rfl, fun w hSw => by (try dsimp only at hSw); go_simp⟩) (by assumption) ?_
      simp only [Act.put, List.setIfInBounds_toArray, List.set_cons_zero, List.set_cons_succ]
      refine wpAnyH_ready (rs := [7]) (by kernel_rfl) (by simp) ?_
      refine AllReadyH.cons rfl (fun K hK => ?_) AllReadyH.nil
      go_simp
      refine hK.out _ _ HZ.cells3 (fun _ => ?_)
      clear hK K
      refine wpAnyH_done (by kernel_rfl) ?_ _
      go_wp2
      refine bodyPost_ret (v := .tuple #[.agg #[.int .i64 c, .slice a n cap], .int .i64 (rv - 1), P4.agg ⟨pc, pp, pv, px⟩]) (by simp [results, Try.results10, go_sem, q2, q4]) rfl ?_
      refine ⟨c, _, ws, rv - 1, ⟨⟨pc, pp, pv, px⟩, rfl⟩, ?_, HZ.h.hw, by omega, by omega, ?_⟩
      · exact HZ.owns6
      · exact HZ.below6
    | true =>
    have hpc := (probeOk_out hq).1
    simp only at hpc
    clear hq
    by_cases h8 : n = 8
    · subst h8
      go_wp2_with fail
      refine (onceE T9.h.D 2).mono ?_
      rintro e w10 ⟨b2, rfl, D10, G10⟩
      have T10 := T9.draw D10 G10
      clear D10 G10 T9 xx0 xx1 pp0 pp1 pp2 pp3
      obtain ⟨xx0, xx1, pp0, pp1, pp2, pp3⟩ := T10.cells
      cases b2 with
      | false =>
        go_wp2_with fail
        try clear xx xf pp pf
        have HD := T10.drew
        refine wp_region_held_drew (S := fun W => W.cell? ⟨N6, 0, none⟩ = some (.int .i64 c) ∧ W.cell? ⟨N6, 1, none⟩ = some (.slice a 8 cap) ∧ W.cell? ⟨N7, 0, none⟩ = some (.int .i64 pc) ∧ W.cell? ⟨N7, 1, none⟩ = some (.int .i64 pp) ∧ W.cell? ⟨N7, 2, none⟩ = some (.int .i64 pv) ∧ W.cell? ⟨N7, 3, none⟩ = some (.int .i64 px)) (by kernel_rfl) HD.cells (fun hHeld => ?_)
        refine takeH (i := 0) (some 38) (.agg #[.int .i64 c, .slice a 8 cap]) rfl rfl (by kernel_rfl) (by kernel_rfl) (by kernel_rfl) (fun _ _ _ h => h) (Or.inl ⟨by rfl, fun w hSw => by (try dsimp only at hSw); go_simp⟩) (by assumption) ?_
        simp only [Act.put, List.setIfInBounds_toArray, List.set_cons_zero, List.set_cons_succ]
        refine takeH (i := 1) (some 39) (.pointer (some ⟨g, 0, none⟩)) rfl rfl (by kernel_rfl) (by kernel_rfl) (by kernel_rfl) (fun _ _ _ h => h) (Or.inl ⟨by rfl, fun w hSw => by (try dsimp only at hSw); go_simp⟩) (by assumption) ?_
        simp only [Act.put, List.setIfInBounds_toArray, List.set_cons_zero, List.set_cons_succ]
        refine takeH (i := 4) (some 42) (.agg #[.int .i64 pc, .int .i64 pp, .int .i64 pv, .int .i64 px]) rfl rfl (by kernel_rfl) (by kernel_rfl) (by kernel_rfl) (fun _ _ _ h => h) (Or.inl ⟨by rfl, fun w hSw => by (try dsimp only at hSw); go_simp⟩) (by assumption) ?_
        simp only [Act.put, List.setIfInBounds_toArray, List.set_cons_zero, List.set_cons_succ]
        refine wpAnyH_ready (rs := [2]) (by kernel_rfl) (by simp) ?_
        refine AllReadyH.cons rfl (fun K hK => ?_) AllReadyH.nil
        go_simp
        refine (belowE HD.h.D 14 (by omega)).mono ?_
        rintro e wz ⟨rv, rfl, rv0, rv1, Dz, Gz⟩
        have HZ := HD.draw Dz Gz
        clear Dz Gz
        go_simp
        refine hK.out _ _ HZ.cells (fun _ => ?_)
        clear hK K HD hHeld
        try simp only [Act.put, List.setIfInBounds_toArray, List.set_cons_zero, List.set_cons_succ]
        have hb0 : -9223372036854775808 ≤ rv - 1 := by omega
        have hb1 : rv - 1 ≤ 9223372036854775807 := by omega
        have hwr : IntKind.i64.wrap (rv - 1) = rv - 1 := by rw [IntKind.wrap_i64]; omega
        have hS := HZ.cells
        refine takeH (i := 3) (some 41) (.int .i64 (rv - 1)) rfl rfl (by kernel_rfl) (by kernel_rfl) (by kernel_rfl) (fun _ _ _ h => h) (Or.inl ⟨by rfl, fun w hSw => by (try dsimp only at hSw); go_simp⟩) (by assumption) ?_
        simp only [Act.put, List.setIfInBounds_toArray, List.set_cons_zero, List.set_cons_succ]
        have q2 := fun i => HZ.h.r2.cell i; have qf2 := fun i => HZ.h.r2.froz i; have q4 := fun i => HZ.h.r4.cell i; have qf4 := fun i => HZ.h.r4.froz i
        refine wpAnyH_ready (rs := [5]) (by kernel_rfl) (by simp) ?_
        refine AllReadyH.cons rfl (fun K hK => ?_) AllReadyH.nil
        go_simp
        refine hK.out _ _ HZ.cells2 (fun hS2 => ?_)
        clear hK K
        try simp only [Act.put, List.setIfInBounds_toArray, List.set_cons_zero, List.set_cons_succ]
        refine takeH (i := 6) (some 3) (.int .i64 (rv - 1)) rfl rfl (by kernel_rfl) (by kernel_rfl) (by kernel_rfl) (fun _ _ _ h => h) (Or.inl ⟨by rfl, fun w hSw => by (try dsimp only at hSw); go_simp⟩) (by assumption) ?_
        simp only [Act.put, List.setIfInBounds_toArray, List.set_cons_zero, List.set_cons_succ]
        refine wpAnyH_ready (rs := [7]) (by kernel_rfl) (by simp) ?_
        refine AllReadyH.cons rfl (fun K hK => ?_) AllReadyH.nil
        go_simp
        refine hK.out _ _ HZ.cells3 (fun _ => ?_)
        clear hK K
        refine wpAnyH_done (by kernel_rfl) ?_ _
        go_wp2
        refine bodyPost_ret (v := .tuple #[.agg #[.int .i64 c, .slice a 8 cap], .int .i64 (rv - 1), P4.agg ⟨pc, pp, pv, px⟩]) (by simp [results, Try.results10, go_sem, q2, q4]) rfl ?_
        refine ⟨c, _, ws, rv - 1, ⟨⟨pc, pp, pv, px⟩, rfl⟩, ?_, HZ.h.hw, by omega, by omega, ?_⟩
        · exact HZ.owns6
        · exact HZ.below6
      | true =>
      obtain ⟨k, rfl⟩ := Int.eq_ofNat_of_zero_le hpc.1
      have ik : (k : Int) < 8 := by omega
      have ik0 : (0 : Int) ≤ k := by omega
      obtain ⟨b, off, rfl, hbl, A0⟩ := word_of T10.h.o.sees k (by rw [HN.out]; omega)
      obtain ⟨y, hy⟩ : ∃ y, wordAt ws (k : Int) = y := ⟨_, rfl⟩
      rw [hy] at A0
      clear hy
      obtain ⟨-, y1, -⟩ := A0
      have pf2 := T10.p.froz 2
      have T11 := T10.ver y.ver
      go_wp2_with fail
      try clear xx xf pp pf
      have HD := T11.drew
      refine wp_region_held_drew (S := fun W => W.cell? ⟨N6, 0, none⟩ = some (.int .i64 c) ∧ W.cell? ⟨N6, 1, none⟩ = some (.slice (some ⟨b, off, none⟩) 8 cap) ∧ W.cell? ⟨N7, 0, none⟩ = some (.int .i64 (k : Int)) ∧ W.cell? ⟨N7, 1, none⟩ = some (.int .i64 pp) ∧ W.cell? ⟨N7, 2, none⟩ = some (.int .i64 y.ver) ∧ W.cell? ⟨N7, 3, none⟩ = some (.int .i64 px)) (by kernel_rfl) HD.cells (fun hHeld => ?_)
      refine takeH (i := 0) (some 38) (.agg #[.int .i64 c, .slice (some ⟨b, off, none⟩) 8 cap]) rfl rfl (by kernel_rfl) (by kernel_rfl) (by kernel_rfl) (fun _ _ _ h => h) (Or.inl ⟨by rfl, fun w hSw => by (try dsimp only at hSw); go_simp⟩) (by assumption) ?_
      simp only [Act.put, List.setIfInBounds_toArray, List.set_cons_zero, List.set_cons_succ]
      refine takeH (i := 1) (some 39) (.pointer (some ⟨g, 0, none⟩)) rfl rfl (by kernel_rfl) (by kernel_rfl) (by kernel_rfl) (fun _ _ _ h => h) (Or.inl ⟨by rfl, fun w hSw => by (try dsimp only at hSw); go_simp⟩) (by assumption) ?_
      simp only [Act.put, List.setIfInBounds_toArray, List.set_cons_zero, List.set_cons_succ]
      refine takeH (i := 4) (some 42) (.agg #[.int .i64 (k : Int), .int .i64 pp, .int .i64 y.ver, .int .i64 px]) rfl rfl (by kernel_rfl) (by kernel_rfl) (by kernel_rfl) (fun _ _ _ h => h) (Or.inl ⟨by rfl, fun w hSw => by (try dsimp only at hSw); go_simp⟩) (by assumption) ?_
      simp only [Act.put, List.setIfInBounds_toArray, List.set_cons_zero, List.set_cons_succ]
      refine wpAnyH_ready (rs := [2]) (by kernel_rfl) (by simp) ?_
      refine AllReadyH.cons rfl (fun K hK => ?_) AllReadyH.nil
      go_simp
      refine (belowE HD.h.D 14 (by omega)).mono ?_
      rintro e wz ⟨rv, rfl, rv0, rv1, Dz, Gz⟩
      have HZ := HD.draw Dz Gz
      clear Dz Gz
      go_simp
      refine hK.out _ _ HZ.cells (fun _ => ?_)
      clear hK K HD hHeld
      try simp only [Act.put, List.setIfInBounds_toArray, List.set_cons_zero, List.set_cons_succ]
      have hb0 : -9223372036854775808 ≤ rv - 1 := by omega
      have hb1 : rv - 1 ≤ 9223372036854775807 := by omega
      have hwr : IntKind.i64.wrap (rv - 1) = rv - 1 := by rw [IntKind.wrap_i64]; omega
      have hS := HZ.cells
      refine takeH (i := 3) (some 41) (.int .i64 (rv - 1)) rfl rfl (by kernel_rfl) (by kernel_rfl) (by kernel_rfl) (fun _ _ _ h => h) (Or.inl ⟨by rfl, fun w hSw => by (try dsimp only at hSw); go_simp⟩) (by assumption) ?_
      simp only [Act.put, List.setIfInBounds_toArray, List.set_cons_zero, List.set_cons_succ]
      have q2 := fun i => HZ.h.r2.cell i; have qf2 := fun i => HZ.h.r2.froz i; have q4 := fun i => HZ.h.r4.cell i; have qf4 := fun i => HZ.h.r4.froz i
      refine wpAnyH_ready (rs := [5]) (by kernel_rfl) (by simp) ?_
      refine AllReadyH.cons rfl (fun K hK => ?_) AllReadyH.nil
      go_simp
      refine hK.out _ _ HZ.cells2 (fun hS2 => ?_)
      clear hK K
      try simp only [Act.put, List.setIfInBounds_toArray, List.set_cons_zero, List.set_cons_succ]
      refine takeH (i := 6) (some 3) (.int .i64 (rv - 1)) rfl rfl (by kernel_rfl) (by kernel_rfl) (by kernel_rfl) (fun _ _ _ h => h) (Or.inl ⟨by rfl, fun w hSw => by (try dsimp only at hSw); go_simp⟩) (by assumption) ?_
      simp only [Act.put, List.setIfInBounds_toArray, List.set_cons_zero, List.set_cons_succ]
      refine wpAnyH_ready (rs := [7]) (by kernel_rfl) (by simp) ?_
      refine AllReadyH.cons rfl (fun K hK => ?_) AllReadyH.nil
      go_simp
      refine hK.out _ _ HZ.cells3 (fun _ => ?_)
      clear hK K
      refine wpAnyH_done (by kernel_rfl) ?_ _
      go_wp2
      refine bodyPost_ret (v := .tuple #[.agg #[.int .i64 c, .slice (some ⟨b, off, none⟩) 8 cap], .int .i64 (rv - 1), P4.agg ⟨(k : Int), pp, y.ver, px⟩]) (by simp [results, Try.results10, go_sem, q2, q4]) rfl ?_
      refine ⟨c, _, ws, rv - 1, ⟨⟨(k : Int), pp, y.ver, px⟩, rfl⟩, ?_, HZ.h.hw, by omega, by omega, ?_⟩
      · exact HZ.owns6
      · exact HZ.below6
    · have d8 : ((n : Int) == 8) = false := by rw [beq_eq_false_iff_ne]; omega
      go_wp2_with fail
      try clear xx xf pp pf
      have HD := T9.drew
      refine wp_region_held_drew (S := fun W => W.cell? ⟨N6, 0, none⟩ = some (.int .i64 c) ∧ W.cell? ⟨N6, 1, none⟩ = some (.slice a n cap) ∧ W.cell? ⟨N7, 0, none⟩ = some (.int .i64 pc) ∧ W.cell? ⟨N7, 1, none⟩ = some (.int .i64 pp) ∧ W.cell? ⟨N7, 2, none⟩ = some (.int .i64 pv) ∧ W.cell? ⟨N7, 3, none⟩ = some (.int .i64 px)) (by kernel_rfl) HD.cells (fun hHeld => ?_)
      refine takeH (i := 0) (some 38) (.agg #[.int .i64 c, .slice a n cap]) rfl rfl (by kernel_rfl) (by kernel_rfl) (by kernel_rfl) (fun _ _ _ h => h) (Or.inl ⟨by rfl, fun w hSw => by (try dsimp only at hSw); go_simp⟩) (by assumption) ?_
      simp only [Act.put, List.setIfInBounds_toArray, List.set_cons_zero, List.set_cons_succ]
      refine takeH (i := 1) (some 39) (.pointer (some ⟨g, 0, none⟩)) rfl rfl (by kernel_rfl) (by kernel_rfl) (by kernel_rfl) (fun _ _ _ h => h) (Or.inl ⟨by rfl, fun w hSw => by (try dsimp only at hSw); go_simp⟩) (by assumption) ?_
      simp only [Act.put, List.setIfInBounds_toArray, List.set_cons_zero, List.set_cons_succ]
      refine takeH (i := 4) (some 42) (.agg #[.int .i64 pc, .int .i64 pp, .int .i64 pv, .int .i64 px]) rfl rfl (by kernel_rfl) (by kernel_rfl) (by kernel_rfl) (fun _ _ _ h => h) (Or.inl ⟨by rfl, fun w hSw => by (try dsimp only at hSw); go_simp⟩) (by assumption) ?_
      simp only [Act.put, List.setIfInBounds_toArray, List.set_cons_zero, List.set_cons_succ]
      refine wpAnyH_ready (rs := [2]) (by kernel_rfl) (by simp) ?_
      refine AllReadyH.cons rfl (fun K hK => ?_) AllReadyH.nil
      go_simp
      refine (belowE HD.h.D 14 (by omega)).mono ?_
      rintro e wz ⟨rv, rfl, rv0, rv1, Dz, Gz⟩
      have HZ := HD.draw Dz Gz
      clear Dz Gz
      go_simp
      refine hK.out _ _ HZ.cells (fun _ => ?_)
      clear hK K HD hHeld
      try simp only [Act.put, List.setIfInBounds_toArray, List.set_cons_zero, List.set_cons_succ]
      have hb0 : -9223372036854775808 ≤ rv - 1 := by omega
      have hb1 : rv - 1 ≤ 9223372036854775807 := by omega
      have hwr : IntKind.i64.wrap (rv - 1) = rv - 1 := by rw [IntKind.wrap_i64]; omega
      have hS := HZ.cells
      refine takeH (i := 3) (some 41) (.int .i64 (rv - 1)) rfl rfl (by kernel_rfl) (by kernel_rfl) (by kernel_rfl) (fun _ _ _ h => h) (Or.inl ⟨by rfl, fun w hSw => by (try dsimp only at hSw); go_simp⟩) (by assumption) ?_
      simp only [Act.put, List.setIfInBounds_toArray, List.set_cons_zero, List.set_cons_succ]
      have q2 := fun i => HZ.h.r2.cell i; have qf2 := fun i => HZ.h.r2.froz i; have q4 := fun i => HZ.h.r4.cell i; have qf4 := fun i => HZ.h.r4.froz i
      refine wpAnyH_ready (rs := [5]) (by kernel_rfl) (by simp) ?_
      refine AllReadyH.cons rfl (fun K hK => ?_) AllReadyH.nil
      go_simp
      refine hK.out _ _ HZ.cells2 (fun hS2 => ?_)
      clear hK K
      try simp only [Act.put, List.setIfInBounds_toArray, List.set_cons_zero, List.set_cons_succ]
      refine takeH (i := 6) (some 3) (.int .i64 (rv - 1)) rfl rfl (by kernel_rfl) (by kernel_rfl) (by kernel_rfl) (fun _ _ _ h => h) (Or.inl ⟨by rfl, fun w hSw => by (try dsimp only at hSw); go_simp⟩) (by assumption) ?_
      simp only [Act.put, List.setIfInBounds_toArray, List.set_cons_zero, List.set_cons_succ]
      refine wpAnyH_ready (rs := [7]) (by kernel_rfl) (by simp) ?_
      refine AllReadyH.cons rfl (fun K hK => ?_) AllReadyH.nil
      go_simp
      refine hK.out _ _ HZ.cells3 (fun _ => ?_)
      clear hK K
      refine wpAnyH_done (by kernel_rfl) ?_ _
      go_wp2
      refine bodyPost_ret (v := .tuple #[.agg #[.int .i64 c, .slice a n cap], .int .i64 (rv - 1), P4.agg ⟨pc, pp, pv, px⟩]) (by simp [results, Try.results10, go_sem, q2, q4]) rfl ?_
      refine ⟨c, _, ws, rv - 1, ⟨⟨pc, pp, pv, px⟩, rfl⟩, ?_, HZ.h.hw, by omega, by omega, ?_⟩
      · exact HZ.owns6
      · exact HZ.below6
  | true =>
    have xf := fun i => Blk.froz (t := 26) H5.x i
    have x0 := H5.x.c0; have x1 := H5.x.c1
    go_wp2_with fail
    obtain ⟨s5, C5⟩ := H5.D
    refine (Words.anyC B g v l s5 w5 C5).mono ?_
    rintro e w6 ⟨c6, u6, ws6, s6, rfl, O6, hw6, hc0, hc1, C6, G6⟩
    have H6 := H5.draw ⟨_, C6⟩ G6
    have hh5 := H5.x.lt
    have hh6 := C5.cur.lt
    have hh7 := H5.b.size
    have H6 := H6.put c6 (O6.mono (show w.heap.size + 2 ≤ w5.heap.size by omega)) hw6 (fun k hk => by have := (O6.at k hk).1; omega)
    obtain ⟨a6, cap6, rfl⟩ := O6.form
    obtain ⟨m, hm⟩ : ∃ n, ws6.length = n := ⟨_, rfl⟩
    have HM := (show Hid _ from hm)
    rw [hm] at H6 ⊢
    have H5b := H5.draw ⟨_, C6⟩ G6
    clear hm O6 C6 C5 hw6 hc0 hc1 xf x0 x1
    have xf := fun i => Blk.froz (t := 26) H5b.x i
    have x0 := H5b.x.c0; have x1 := H5b.x.c1
    clear G6 H5 H5b hh5 hh6 hh7 HN
    go_wp2_with fail
    refine (anyPE H6.D).mono ?_
    rintro e w7 ⟨p, rfl, D7, G7⟩
    have H7 := H6.draw D7 G7
    clear D7 G7 H6
    obtain ⟨pc, pp, pv, px⟩ := p
    have T8 := TSt.new H7 ⟨pc, pp, pv, px⟩
    clear H7
    go_wp2_with fail
    obtain ⟨N7, hN7⟩ : ∃ N, w7.heap.size = N := ⟨_, rfl⟩
    obtain ⟨W8, hW8⟩ : ∃ W, w7.alloc (.cells #[.int .i64 pc, .int .i64 pp, .int .i64 pv, .int .i64 px] 28) = W := ⟨_, rfl⟩
    rw [hW8] at T8 ⊢
    rw [hN7] at T8 ⊢
    clear hW8 hN7
    refine (specOk ⟨pc, pp, pv, px⟩ _).mono ?_
    rintro e w9 ⟨rfl, b9⟩
    have T9 := T8.on b9
    clear T8 b9
    obtain ⟨xx0, xx1, pp0, pp1, pp2, pp3⟩ := T9.cells
    obtain ⟨q, hq⟩ : ∃ q, probeOk ⟨pc, pp, pv, px⟩ = q := ⟨_, rfl⟩
    rw [hq]
    cases q with
    | false =>
      clear hq
      go_wp2_with fail
      try clear xx xf pp pf
      have HD := T9.drew
      refine wp_region_held_drew (S := fun W => W.cell? ⟨N6, 0, none⟩ = some (.int .i64 c6) ∧ W.cell? ⟨N6, 1, none⟩ = some (.slice a6 m cap6) ∧ W.cell? ⟨N7, 0, none⟩ = some (.int .i64 pc) ∧ W.cell? ⟨N7, 1, none⟩ = some (.int .i64 pp) ∧ W.cell? ⟨N7, 2, none⟩ = some (.int .i64 pv) ∧ W.cell? ⟨N7, 3, none⟩ = some (.int .i64 px)) (by kernel_rfl) HD.cells (fun hHeld => ?_)
      refine takeH (i := 0) (some 38) (.agg #[.int .i64 c6, .slice a6 m cap6]) rfl rfl (by kernel_rfl) (by kernel_rfl) (by kernel_rfl) (fun _ _ _ h => h) (Or.inl ⟨by rfl, fun w hSw => by (try dsimp only at hSw); go_simp⟩) (by assumption) ?_
      simp only [Act.put, List.setIfInBounds_toArray, List.set_cons_zero, List.set_cons_succ]
      refine takeH (i := 1) (some 39) (.pointer (some ⟨g, 0, none⟩)) rfl rfl (by kernel_rfl) (by kernel_rfl) (by kernel_rfl) (fun _ _ _ h => h) (Or.inl ⟨by rfl, fun w hSw => by (try dsimp only at hSw); go_simp⟩) (by assumption) ?_
      simp only [Act.put, List.setIfInBounds_toArray, List.set_cons_zero, List.set_cons_succ]
      refine takeH (i := 4) (some 42) (.agg #[.int .i64 pc, .int .i64 pp, .int .i64 pv, .int .i64 px]) rfl rfl (by kernel_rfl) (by kernel_rfl) (by kernel_rfl) (fun _ _ _ h => h) (Or.inl ⟨by rfl, fun w hSw => by (try dsimp only at hSw); go_simp⟩) (by assumption) ?_
      simp only [Act.put, List.setIfInBounds_toArray, List.set_cons_zero, List.set_cons_succ]
      refine wpAnyH_ready (rs := [2]) (by kernel_rfl) (by simp) ?_
      refine AllReadyH.cons rfl (fun K hK => ?_) AllReadyH.nil
      go_simp
      refine (belowE HD.h.D 14 (by omega)).mono ?_
      rintro e wz ⟨rv, rfl, rv0, rv1, Dz, Gz⟩
      have HZ := HD.draw Dz Gz
      clear Dz Gz
      go_simp
      refine hK.out _ _ HZ.cells (fun _ => ?_)
      clear hK K HD hHeld
      try simp only [Act.put, List.setIfInBounds_toArray, List.set_cons_zero, List.set_cons_succ]
      have hb0 : -9223372036854775808 ≤ rv - 1 := by omega
      have hb1 : rv - 1 ≤ 9223372036854775807 := by omega
      have hwr : IntKind.i64.wrap (rv - 1) = rv - 1 := by rw [IntKind.wrap_i64]; omega
      have hS := HZ.cells
      refine takeH (i := 3) (some 41) (.int .i64 (rv - 1)) rfl rfl (by kernel_rfl) (by kernel_rfl) (by kernel_rfl) (fun _ _ _ h => h) (Or.inl ⟨by rfl, fun w hSw => by (try dsimp only at hSw); go_simp⟩) (by assumption) ?_
      simp only [Act.put, List.setIfInBounds_toArray, List.set_cons_zero, List.set_cons_succ]
      have q2 := fun i => HZ.h.r2.cell i; have qf2 := fun i => HZ.h.r2.froz i; have q4 := fun i => HZ.h.r4.cell i; have qf4 := fun i => HZ.h.r4.froz i
      refine wpAnyH_ready (rs := [5]) (by kernel_rfl) (by simp) ?_
      refine AllReadyH.cons rfl (fun K hK => ?_) AllReadyH.nil
      go_simp
      refine hK.out _ _ HZ.cells2 (fun hS2 => ?_)
      clear hK K
      try simp only [Act.put, List.setIfInBounds_toArray, List.set_cons_zero, List.set_cons_succ]
      refine takeH (i := 6) (some 3) (.int .i64 (rv - 1)) rfl rfl (by kernel_rfl) (by kernel_rfl) (by kernel_rfl) (fun _ _ _ h => h) (Or.inl ⟨by rfl, fun w hSw => by (try dsimp only at hSw); go_simp⟩) (by assumption) ?_
      simp only [Act.put, List.setIfInBounds_toArray, List.set_cons_zero, List.set_cons_succ]
      refine wpAnyH_ready (rs := [7]) (by kernel_rfl) (by simp) ?_
      refine AllReadyH.cons rfl (fun K hK => ?_) AllReadyH.nil
      go_simp
      refine hK.out _ _ HZ.cells3 (fun _ => ?_)
      clear hK K
      refine wpAnyH_done (by kernel_rfl) ?_ _
      go_wp2
      refine bodyPost_ret (v := .tuple #[.agg #[.int .i64 c6, .slice a6 m cap6], .int .i64 (rv - 1), P4.agg ⟨pc, pp, pv, px⟩]) (by simp [results, Try.results10, go_sem, q2, q4]) rfl ?_
      refine ⟨c6, _, ws6, rv - 1, ⟨⟨pc, pp, pv, px⟩, rfl⟩, ?_, HZ.h.hw, by omega, by omega, ?_⟩
      · exact HZ.owns6
      · exact HZ.below6
    | true =>
    have hpc := (probeOk_out hq).1
    simp only at hpc
    clear hq
    by_cases h8 : m = 8
    · subst h8
      go_wp2_with fail
      refine (onceE T9.h.D 2).mono ?_
      rintro e w10 ⟨b2, rfl, D10, G10⟩
      have T10 := T9.draw D10 G10
      clear D10 G10 T9 xx0 xx1 pp0 pp1 pp2 pp3
      obtain ⟨xx0, xx1, pp0, pp1, pp2, pp3⟩ := T10.cells
      cases b2 with
      | false =>
        go_wp2_with fail
        try clear xx xf pp pf
        have HD := T10.drew
        refine wp_region_held_drew (S := fun W => W.cell? ⟨N6, 0, none⟩ = some (.int .i64 c6) ∧ W.cell? ⟨N6, 1, none⟩ = some (.slice a6 8 cap6) ∧ W.cell? ⟨N7, 0, none⟩ = some (.int .i64 pc) ∧ W.cell? ⟨N7, 1, none⟩ = some (.int .i64 pp) ∧ W.cell? ⟨N7, 2, none⟩ = some (.int .i64 pv) ∧ W.cell? ⟨N7, 3, none⟩ = some (.int .i64 px)) (by kernel_rfl) HD.cells (fun hHeld => ?_)
        refine takeH (i := 0) (some 38) (.agg #[.int .i64 c6, .slice a6 8 cap6]) rfl rfl (by kernel_rfl) (by kernel_rfl) (by kernel_rfl) (fun _ _ _ h => h) (Or.inl ⟨by rfl, fun w hSw => by (try dsimp only at hSw); go_simp⟩) (by assumption) ?_
        simp only [Act.put, List.setIfInBounds_toArray, List.set_cons_zero, List.set_cons_succ]
        refine takeH (i := 1) (some 39) (.pointer (some ⟨g, 0, none⟩)) rfl rfl (by kernel_rfl) (by kernel_rfl) (by kernel_rfl) (fun _ _ _ h => h) (Or.inl ⟨by rfl, fun w hSw => by (try dsimp only at hSw); go_simp⟩) (by assumption) ?_
        simp only [Act.put, List.setIfInBounds_toArray, List.set_cons_zero, List.set_cons_succ]
        refine takeH (i := 4) (some 42) (.agg #[.int .i64 pc, .int .i64 pp, .int .i64 pv, .int .i64 px]) rfl rfl (by kernel_rfl) (by kernel_rfl) (by kernel_rfl) (fun _ _ _ h => h) (Or.inl ⟨by rfl, fun w hSw => by (try dsimp only at hSw); go_simp⟩) (by assumption) ?_
        simp only [Act.put, List.setIfInBounds_toArray, List.set_cons_zero, List.set_cons_succ]
        refine wpAnyH_ready (rs := [2]) (by kernel_rfl) (by simp) ?_
        refine AllReadyH.cons rfl (fun K hK => ?_) AllReadyH.nil
        go_simp
        refine (belowE HD.h.D 14 (by omega)).mono ?_
        rintro e wz ⟨rv, rfl, rv0, rv1, Dz, Gz⟩
        have HZ := HD.draw Dz Gz
        clear Dz Gz
        go_simp
        refine hK.out _ _ HZ.cells (fun _ => ?_)
        clear hK K HD hHeld
        try simp only [Act.put, List.setIfInBounds_toArray, List.set_cons_zero, List.set_cons_succ]
        have hb0 : -9223372036854775808 ≤ rv - 1 := by omega
        have hb1 : rv - 1 ≤ 9223372036854775807 := by omega
        have hwr : IntKind.i64.wrap (rv - 1) = rv - 1 := by rw [IntKind.wrap_i64]; omega
        have hS := HZ.cells
        refine takeH (i := 3) (some 41) (.int .i64 (rv - 1)) rfl rfl (by kernel_rfl) (by kernel_rfl) (by kernel_rfl) (fun _ _ _ h => h) (Or.inl ⟨by rfl, fun w hSw => by (try dsimp only at hSw); go_simp⟩) (by assumption) ?_
        simp only [Act.put, List.setIfInBounds_toArray, List.set_cons_zero, List.set_cons_succ]
        have q2 := fun i => HZ.h.r2.cell i; have qf2 := fun i => HZ.h.r2.froz i; have q4 := fun i => HZ.h.r4.cell i; have qf4 := fun i => HZ.h.r4.froz i
        refine wpAnyH_ready (rs := [5]) (by kernel_rfl) (by simp) ?_
        refine AllReadyH.cons rfl (fun K hK => ?_) AllReadyH.nil
        go_simp
        refine hK.out _ _ HZ.cells2 (fun hS2 => ?_)
        clear hK K
        try simp only [Act.put, List.setIfInBounds_toArray, List.set_cons_zero, List.set_cons_succ]
        refine takeH (i := 6) (some 3) (.int .i64 (rv - 1)) rfl rfl (by kernel_rfl) (by kernel_rfl) (by kernel_rfl) (fun _ _ _ h => h) (Or.inl ⟨by rfl, fun w hSw => by (try dsimp only at hSw); go_simp⟩) (by assumption) ?_
        simp only [Act.put, List.setIfInBounds_toArray, List.set_cons_zero, List.set_cons_succ]
        refine wpAnyH_ready (rs := [7]) (by kernel_rfl) (by simp) ?_
        refine AllReadyH.cons rfl (fun K hK => ?_) AllReadyH.nil
        go_simp
        refine hK.out _ _ HZ.cells3 (fun _ => ?_)
        clear hK K
        refine wpAnyH_done (by kernel_rfl) ?_ _
        go_wp2
        refine bodyPost_ret (v := .tuple #[.agg #[.int .i64 c6, .slice a6 8 cap6], .int .i64 (rv - 1), P4.agg ⟨pc, pp, pv, px⟩]) (by simp [results, Try.results10, go_sem, q2, q4]) rfl ?_
        refine ⟨c6, _, ws6, rv - 1, ⟨⟨pc, pp, pv, px⟩, rfl⟩, ?_, HZ.h.hw, by omega, by omega, ?_⟩
        · exact HZ.owns6
        · exact HZ.below6
      | true =>
      obtain ⟨k, rfl⟩ := Int.eq_ofNat_of_zero_le hpc.1
      have ik : (k : Int) < 8 := by omega
      have ik0 : (0 : Int) ≤ k := by omega
      obtain ⟨b, off, rfl, hbl, A0⟩ := word_of T10.h.o.sees k (by rw [HM.out]; omega)
      obtain ⟨y, hy⟩ : ∃ y, wordAt ws6 (k : Int) = y := ⟨_, rfl⟩
      rw [hy] at A0
      clear hy
      obtain ⟨-, y1, -⟩ := A0
      have pf2 := T10.p.froz 2
      have T11 := T10.ver y.ver
      go_wp2_with fail
      try clear xx xf pp pf
      have HD := T11.drew
      refine wp_region_held_drew (S := fun W => W.cell? ⟨N6, 0, none⟩ = some (.int .i64 c6) ∧ W.cell? ⟨N6, 1, none⟩ = some (.slice (some ⟨b, off, none⟩) 8 cap6) ∧ W.cell? ⟨N7, 0, none⟩ = some (.int .i64 (k : Int)) ∧ W.cell? ⟨N7, 1, none⟩ = some (.int .i64 pp) ∧ W.cell? ⟨N7, 2, none⟩ = some (.int .i64 y.ver) ∧ W.cell? ⟨N7, 3, none⟩ = some (.int .i64 px)) (by kernel_rfl) HD.cells (fun hHeld => ?_)
      refine takeH (i := 0) (some 38) (.agg #[.int .i64 c6, .slice (some ⟨b, off, none⟩) 8 cap6]) rfl rfl (by kernel_rfl) (by kernel_rfl) (by kernel_rfl) (fun _ _ _ h => h) (Or.inl ⟨by rfl, fun w hSw => by (try dsimp only at hSw); go_simp⟩) (by assumption) ?_
      simp only [Act.put, List.setIfInBounds_toArray, List.set_cons_zero, List.set_cons_succ]
      refine takeH (i := 1) (some 39) (.pointer (some ⟨g, 0, none⟩)) rfl rfl (by kernel_rfl) (by kernel_rfl) (by kernel_rfl) (fun _ _ _ h => h) (Or.inl ⟨by rfl, fun w hSw => by (try dsimp only at hSw); go_simp⟩) (by assumption) ?_
      simp only [Act.put, List.setIfInBounds_toArray, List.set_cons_zero, List.set_cons_succ]
      refine takeH (i := 4) (some 42) (.agg #[.int .i64 (k : Int), .int .i64 pp, .int .i64 y.ver, .int .i64 px]) rfl rfl (by kernel_rfl) (by kernel_rfl) (by kernel_rfl) (fun _ _ _ h => h) (Or.inl ⟨by rfl, fun w hSw => by (try dsimp only at hSw); go_simp⟩) (by assumption) ?_
      simp only [Act.put, List.setIfInBounds_toArray, List.set_cons_zero, List.set_cons_succ]
      refine wpAnyH_ready (rs := [2]) (by kernel_rfl) (by simp) ?_
      refine AllReadyH.cons rfl (fun K hK => ?_) AllReadyH.nil
      go_simp
      refine (belowE HD.h.D 14 (by omega)).mono ?_
      rintro e wz ⟨rv, rfl, rv0, rv1, Dz, Gz⟩
      have HZ := HD.draw Dz Gz
      clear Dz Gz
      go_simp
      refine hK.out _ _ HZ.cells (fun _ => ?_)
      clear hK K HD hHeld
      try simp only [Act.put, List.setIfInBounds_toArray, List.set_cons_zero, List.set_cons_succ]
      have hb0 : -9223372036854775808 ≤ rv - 1 := by omega
      have hb1 : rv - 1 ≤ 9223372036854775807 := by omega
      have hwr : IntKind.i64.wrap (rv - 1) = rv - 1 := by rw [IntKind.wrap_i64]; omega
      have hS := HZ.cells
      refine takeH (i := 3) (some 41) (.int .i64 (rv - 1)) rfl rfl (by kernel_rfl) (by kernel_rfl) (by kernel_rfl) (fun _ _ _ h => h) (Or.inl ⟨by rfl, fun w hSw => by (try dsimp only at hSw); go_simp⟩) (by assumption) ?_
      simp only [Act.put, List.setIfInBounds_toArray, List.set_cons_zero, List.set_cons_succ]
      have q2 := fun i => HZ.h.r2.cell i; have qf2 := fun i => HZ.h.r2.froz i; have q4 := fun i => HZ.h.r4.cell i; have qf4 := fun i => HZ.h.r4.froz i
      refine wpAnyH_ready (rs := [5]) (by kernel_rfl) (by simp) ?_
      refine AllReadyH.cons rfl (fun K hK => ?_) AllReadyH.nil
      go_simp
      refine hK.out _ _ HZ.cells2 (fun hS2 => ?_)
      clear hK K
      try simp only [Act.put, List.setIfInBounds_toArray, List.set_cons_zero, List.set_cons_succ]
      refine takeH (i := 6) (some 3) (.int .i64 (rv - 1)) rfl rfl (by kernel_rfl) (by kernel_rfl) (by kernel_rfl) (fun _ _ _ h => h) (Or.inl ⟨by rfl, fun w hSw => by (try dsimp only at hSw); go_simp⟩) (by assumption) ?_
      simp only [Act.put, List.setIfInBounds_toArray, List.set_cons_zero, List.set_cons_succ]
      refine wpAnyH_ready (rs := [7]) (by kernel_rfl) (by simp) ?_
      refine AllReadyH.cons rfl (fun K hK => ?_) AllReadyH.nil
      go_simp
      refine hK.out _ _ HZ.cells3 (fun _ => ?_)
      clear hK K
      refine wpAnyH_done (by kernel_rfl) ?_ _
      go_wp2
      refine bodyPost_ret (v := .tuple #[.agg #[.int .i64 c6, .slice (some ⟨b, off, none⟩) 8 cap6], .int .i64 (rv - 1), P4.agg ⟨(k : Int), pp, y.ver, px⟩]) (by simp [results, Try.results10, go_sem, q2, q4]) rfl ?_
      refine ⟨c6, _, ws6, rv - 1, ⟨⟨(k : Int), pp, y.ver, px⟩, rfl⟩, ?_, HZ.h.hw, by omega, by omega, ?_⟩
      · exact HZ.owns6
      · exact HZ.below6
    · have d8 : ((m : Int) == 8) = false := by rw [beq_eq_false_iff_ne]; omega
      go_wp2_with fail
      try clear xx xf pp pf
      have HD := T9.drew
      refine wp_region_held_drew (S := fun W => W.cell? ⟨N6, 0, none⟩ = some (.int .i64 c6) ∧ W.cell? ⟨N6, 1, none⟩ = some (.slice a6 m cap6) ∧ W.cell? ⟨N7, 0, none⟩ = some (.int .i64 pc) ∧ W.cell? ⟨N7, 1, none⟩ = some (.int .i64 pp) ∧ W.cell? ⟨N7, 2, none⟩ = some (.int .i64 pv) ∧ W.cell? ⟨N7, 3, none⟩ = some (.int .i64 px)) (by kernel_rfl) HD.cells (fun hHeld => ?_)
      refine takeH (i := 0) (some 38) (.agg #[.int .i64 c6, .slice a6 m cap6]) rfl rfl (by kernel_rfl) (by kernel_rfl) (by kernel_rfl) (fun _ _ _ h => h) (Or.inl ⟨by rfl, fun w hSw => by (try dsimp only at hSw); go_simp⟩) (by assumption) ?_
      simp only [Act.put, List.setIfInBounds_toArray, List.set_cons_zero, List.set_cons_succ]
      refine takeH (i := 1) (some 39) (.pointer (some ⟨g, 0, none⟩)) rfl rfl (by kernel_rfl) (by kernel_rfl) (by kernel_rfl) (fun _ _ _ h => h) (Or.inl ⟨by rfl, fun w hSw => by (try dsimp only at hSw); go_simp⟩) (by assumption) ?_
      simp only [Act.put, List.setIfInBounds_toArray, List.set_cons_zero, List.set_cons_succ]
      refine takeH (i := 4) (some 42) (.agg #[.int .i64 pc, .int .i64 pp, .int .i64 pv, .int .i64 px]) rfl rfl (by kernel_rfl) (by kernel_rfl) (by kernel_rfl) (fun _ _ _ h => h) (Or.inl ⟨by rfl, fun w hSw => by (try dsimp only at hSw); go_simp⟩) (by assumption) ?_
      simp only [Act.put, List.setIfInBounds_toArray, List.set_cons_zero, List.set_cons_succ]
      refine wpAnyH_ready (rs := [2]) (by kernel_rfl) (by simp) ?_
      refine AllReadyH.cons rfl (fun K hK => ?_) AllReadyH.nil
      go_simp
      refine (belowE HD.h.D 14 (by omega)).mono ?_
      rintro e wz ⟨rv, rfl, rv0, rv1, Dz, Gz⟩
      have HZ := HD.draw Dz Gz
      clear Dz Gz
      go_simp
      refine hK.out _ _ HZ.cells (fun _ => ?_)
      clear hK K HD hHeld
      try simp only [Act.put, List.setIfInBounds_toArray, List.set_cons_zero, List.set_cons_succ]
      have hb0 : -9223372036854775808 ≤ rv - 1 := by omega
      have hb1 : rv - 1 ≤ 9223372036854775807 := by omega
      have hwr : IntKind.i64.wrap (rv - 1) = rv - 1 := by rw [IntKind.wrap_i64]; omega
      have hS := HZ.cells
      refine takeH (i := 3) (some 41) (.int .i64 (rv - 1)) rfl rfl (by kernel_rfl) (by kernel_rfl) (by kernel_rfl) (fun _ _ _ h => h) (Or.inl ⟨by rfl, fun w hSw => by (try dsimp only at hSw); go_simp⟩) (by assumption) ?_
      simp only [Act.put, List.setIfInBounds_toArray, List.set_cons_zero, List.set_cons_succ]
      have q2 := fun i => HZ.h.r2.cell i; have qf2 := fun i => HZ.h.r2.froz i; have q4 := fun i => HZ.h.r4.cell i; have qf4 := fun i => HZ.h.r4.froz i
      refine wpAnyH_ready (rs := [5]) (by kernel_rfl) (by simp) ?_
      refine AllReadyH.cons rfl (fun K hK => ?_) AllReadyH.nil
      go_simp
      refine hK.out _ _ HZ.cells2 (fun hS2 => ?_)
      clear hK K
      try simp only [Act.put, List.setIfInBounds_toArray, List.set_cons_zero, List.set_cons_succ]
      refine takeH (i := 6) (some 3) (.int .i64 (rv - 1)) rfl rfl (by kernel_rfl) (by kernel_rfl) (by kernel_rfl) (fun _ _ _ h => h) (Or.inl ⟨by rfl, fun w hSw => by (try dsimp only at hSw); go_simp⟩) (by assumption) ?_
      simp only [Act.put, List.setIfInBounds_toArray, List.set_cons_zero, List.set_cons_succ]
      refine wpAnyH_ready (rs := [7]) (by kernel_rfl) (by simp) ?_
      refine AllReadyH.cons rfl (fun K hK => ?_) AllReadyH.nil
      go_simp
      refine hK.out _ _ HZ.cells3 (fun _ => ?_)
      clear hK K
      refine wpAnyH_done (by kernel_rfl) ?_ _
      go_wp2
      refine bodyPost_ret (v := .tuple #[.agg #[.int .i64 c6, .slice a6 m cap6], .int .i64 (rv - 1), P4.agg ⟨pc, pp, pv, px⟩]) (by simp [results, Try.results10, go_sem, q2, q4]) rfl ?_
      refine ⟨c6, _, ws6, rv - 1, ⟨⟨pc, pp, pv, px⟩, rfl⟩, ?_, HZ.h.hw, by omega, by omega, ?_⟩
      · exact HZ.owns6
      · exact HZ.below6
end Probes
end Go.Proofs.Ytpjcbdanahiapaa
