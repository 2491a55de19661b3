/- Several texts of one proof, in build order: CodeDraw, KidDraw, BlocksL, ProgCmp. -/
import Derived.Test.YtppkohkcffnghaaKB2
import Derived.Test.YtppkohkcffnghaaKB4
import Derived.Test.YtppkohkcffnghaaFB4
/- Some code is drawn, right or spoilt; out of a text of bytes. -/
set_option linter.unusedVariables false
set_option linter.unusedSimpArgs false
namespace Go.Proofs.Ytppkohkcffnghaa
open Go.RowKit
namespace Ops
open Bas Flat Draw

set_option maxRecDepth 100000 in
set_option maxHeartbeats 3200000 in
theorem anyCodeE {B g : Nat} {v : Value} {l : List UInt8} {w : World} (h : Dr B g v l w) :
    Calls Try.prog 46 #[.pointer (some ⟨g, 0, none⟩)] w (CodePost 1030 B g v l w) := by
  have hlt := h.lt
  go_enter Try.func46, Try.ntmps46
  go_wp2_with fail
  refine (onceE h 3).mono ?_
  rintro e w1 ⟨z, rfl, D1, G1⟩
  clear h
  go_wp2_with fail
  refine (progE D1 z).mono ?_
  rintro e w2 ⟨vc, vk, xs, kss, rfl, O2, hx, -, -, D2, G2⟩
  obtain ⟨ac, cc, rfl⟩ := O2.c.form
  obtain ⟨ak, ck, rfl⟩ := O2.k.form
  obtain ⟨n, hn⟩ : ∃ n, xs.length = n := ⟨_, rfl⟩
  have C2 := O2.c
  rw [hn] at C2 hx ⊢
  obtain ⟨nk, hnk⟩ : ∃ n, kss.length = n := ⟨_, rfl⟩
  rw [hnk]
  have P2 := Blk.new w2 #[.slice ac n cc, .slice ak nk ck] 49
  have C3 := C2.on (alloc_below w2 (.cells #[.slice ac n cc, .slice ak nk ck] 49)) (Nat.le_refl _)
  have D3 := D2.alloc (.cells #[.slice ac n cc, .slice ak nk ck] 49)
  have G3 := grown_new (grown_trans G1 G2) (.cells #[.slice ac n cc, .slice ak nk ck] 49)
  have hw1 := G1.size
  have hw2 := G2.size
  clear O2 C2 D1 D2 G1 G2 hnk
  go_wp2_with fail
  refine (onceE D3 3).mono ?_
  rintro e w4 ⟨y, rfl, D4, G4⟩
  have P4 := P2.grown G4 (fun e => by injection e; omega)
  have C4 := C3.grown G4 (fun k hk e => by injection e with e; have := C3.at k hk; omega)
  have G5 := grown_trans G3 G4
  have x0 := P4.cell 0
  clear P2 C3 D3 G3 G4
  cases y
  · go_wp2
    go_ret
    exact ⟨_, xs, rfl, C4.mono hw1, by omega, D4, G5⟩
  · go_wp2_with fail
    have hw4 := G5.size
    refine (bendE D4 _ xs w4.heap.size C4.sees (Nat.le_refl _) (by omega)).mono ?_
    rintro e w5 ⟨v5, ys, rfl, C5, hy, D5, G6⟩
    clear x0
    go_wp2
    go_ret
    exact ⟨_, ys, rfl, C5.mono hw4, hy, D5, grown_trans G5 G6⟩

def CodeDrawn (w : World) (e : Ending) (w' : World) : Prop := ∃ v' ys, e = .returned v' ∧ Owns4 w.heap.size w' v' ys ∧ ys.length ≤ 1030 ∧ Below w.heap.size w w'
end Ops
end Go.Proofs.Ytppkohkcffnghaa
/- What DrawSerialKid draws, told loosely. -/
set_option linter.unusedVariables false
set_option linter.unusedSimpArgs false
namespace Go.Proofs.Ytppkohkcffnghaa
open Go.RowKit
namespace Ops
open Bas Flat Draw

/-- numbers that are drawn one behind the other -/
structure ISt (B g : Nat) (v : Value) (l : List UInt8) (w W : World) (out : Value) (zs : List Int) : Prop where
  D : Dr B g v l W
  G : w.grownBy W (some g)
  O : Ints.Owns w.heap.size W out zs
  lt : g < w.heap.size
section
variable {B g : Nat} {v : Value} {l : List UInt8} {w W W' : World} {out : Value} {zs : List Int}
theorem ISt.draw (h : ISt B g v l w W out zs) (D : Dr B g v l W') (G : W.grownBy W' (some g)) : ISt B g v l w W' out zs :=
  have a := h.lt
  { D := D, G := grown_trans h.G G, O := h.O.grown G (fun k hk e => by injection e with e; have := h.O.at k hk; omega), lt := a }
theorem seesNum (W : World) (x : Int) : Ints.Sees (W.heap.size + 1) (W.alloc (.cells #[.int .i64 x] 3)) (.slice (some ⟨W.heap.size, 0, none⟩) 1 1) [x] :=
  ⟨_, 1, rfl, Nat.le_refl _, by unfold maxLen; omega, fun _ => ⟨W.heap.size, 0, rfl, by omega, fun j hj => by
    have hj0 : j = 0 := by simp at hj; exact hj
    subst hj0
    rw [Blk.cell (Blk.new W _ _)]; rfl⟩⟩
theorem ISt.new (h : ISt B g v l w W out zs) (o : Obj) : ISt B g v l w (W.alloc o) out zs :=
  { D := h.D.alloc o, G := grown_new h.G o, O := h.O.on (alloc_below W o) (Nat.le_refl _), lt := h.lt }
theorem ISt.push (h : ISt B g v l w W out zs) (x : Int) (hlen : zs.length ≤ 1000) :
    ∃ out' W', (Builtin.append_ #[25, 25] 25 #[out, .slice (some ⟨W.heap.size, 0, none⟩) 1 1]).run Try.prog (W.alloc (.cells #[.int .i64 x] 3)) = .ok out' W' ∧ ISt B g v l w W' out' (zs ++ [x]) := by
  have h1 := h.new (.cells #[.int .i64 x] 3)
  have hlt := h1.lt
  have hsz := h1.G.size
  obtain ⟨out', W', hr, hO, hG, -⟩ := Ints.appJ out _ 25 zs [x] _ w.heap.size _ h1.O hsz (seesNum W x) (by simp; omega)
  refine ⟨out', W', hr, { D := h1.D.grown hG (fun k hk => by have := h1.O.at k hk; omega), G := ?_, O := hO, lt := hlt }⟩
  exact ⟨hG.os.trans h1.G.os, hG.tape.trans h1.G.tape, hG.output.trans h1.G.output, Nat.le_trans hsz hG.size, fun i hi hne => (hG.block i (by omega) (fun e => by have := h1.O.at i e.symm; omega)).trans (h1.G.block i hi hne)⟩
end
set_option maxRecDepth 100000 in
set_option maxHeartbeats 1600000 in
/-- l3DrawVals -/
theorem valsE {B g : Nat} {v : Value} {l : List UInt8} {w : World} (h : Dr B g v l w) :
    Calls Try.prog 48 #[.pointer (some ⟨g, 0, none⟩)] w fun e w' => ∃ v' zs, e = .returned v' ∧ Ints.Owns w.heap.size w' v' zs ∧ cellsOk zs = true ∧ Dr B g v l w' ∧ w.grownBy w' (some g) := by
  have P0 : ISt B g v l w (w.alloc (.cells #[] 3)) (.slice (some ⟨w.heap.size, 0, none⟩) 0 0) [] :=
    { D := h.alloc _, G := World.grownBy_alloc w _ _, O := Ints.owns_lit w (Nat.le_refl _), lt := h.lt }
  clear h
  go_enter Try.func48, Try.ntmps48
  go_wp2
  go_loopw [3, 4] (fun ov nv wr => ∃ (a : Option Addr) (cap : Nat) (zs : List Int), ov = .slice a zs.length cap ∧ nv = .int .i64 (zs.length : Int) ∧ zs.length ≤ 8 ∧ zs.all (inn 0 65535) = true ∧ ISt B g v l w wr (.slice a zs.length cap) zs) (fun _ nv _ => 8 - (intOf nv).toNat)
  case atStart => exact ⟨some ⟨w.heap.size, 0, none⟩, 0, [], rfl, rfl, by simp, rfl, P0⟩
  case round =>
    obtain ⟨a, cap, zs, rfl, rfl, hx, hall, P⟩ := hrel
    clear P0
    obtain ⟨q, hq⟩ : ∃ q, zs.length = q := ⟨_, rfl⟩
    rw [hq] at hx P ⊢
    have HA := (show Hid _ from hall)
    clear hall
    by_cases hlt : q < 8
    · have i1 : (q : Int) < 8 := by omega
      go_wp2_with fail
      refine (drawE P.D).mono ?_
      rintro e w2 ⟨x, rfl, x0, x1, D, G⟩
      have P := P.draw D G
      clear D G
      obtain ⟨o3, W3, hr, P⟩ := P.push x (by omega)
      obtain ⟨a3, cap3, rfl⟩ := P.O.form
      have hl3 : (zs ++ [x]).length = q + 1 := by simp [hq]
      go_wp2_with (at_builtin; refine wpList_app _ rfl _ _ 25 rfl _ _ _ _ rfl rfl hr ?_)
      clear hr
      go_roundw
      case rel => exact ⟨a3, cap3, zs ++ [x], by rw [hl3], by rw [hl3]; go_num, by rw [hl3]; omega, by rw [List.all_append, HA.out]; simp [inn]; omega, by rw [hl3]; rw [hl3] at P; exact P⟩
      case measure => simp [intOf]; omega
    · obtain rfl : q = 8 := by omega
      have HC : Hid (cellsOk zs = true) := by
        show _ = _
        unfold cellsOk
        rw [HA.out, decide_eq_true hq]; rfl
      go_wp2
      go_ret
      exact ⟨_, zs, rfl, by rw [← hq]; rw [← hq] at P; exact P.O, HC.out, P.D, P.G⟩

/-- what is drawn for a kid -/
def KidDrawn (w : World) (e : Ending) (w' : World) : Prop := ∃ vl vr vc xs zs cs, e = .returned (.tuple #[vl, vr, vc]) ∧ Sees4 w'.heap.size w' vl xs ∧ xs.length ≤ 1030 ∧ Ints.Sees w'.heap.size w' vr zs ∧ Ints.Sees w'.heap.size w' vc cs ∧
  zs.length ≤ 4 ∧ cs.length ≤ 8 ∧ (zs.length = 4 → regsOk zs = true) ∧ (cs.length = 8 → cellsOk cs = true) ∧ Below w.heap.size w w'
/-- the first two of a row -/
theorem seesTwo {B n cap : Nat} {w : World} {a : Option Addr} {zs : List Int} (h : Ints.Sees B w (.slice a n cap) zs) (hn : 2 ≤ zs.length) : Ints.Sees B w (.slice a 2 cap) (zs.take 2) := by
  obtain ⟨a', cap', e, h1, h2, h3⟩ := h
  simp only [Value.slice.injEq] at e
  obtain ⟨rfl, rfl, rfl⟩ := e
  have hl : (zs.take 2).length = 2 := by simp; omega
  refine ⟨a, cap, by rw [hl], by omega, h2, fun _ => ?_⟩
  obtain ⟨b, off, rfl, hb, hc⟩ := h3 (fun h => by rw [h] at hn; simp at hn)
  exact ⟨b, off, rfl, hb, fun j hj => by rw [hc j (by omega), List.getElem_take]⟩
set_option maxRecDepth 100000 in
set_option maxHeartbeats 3200000 in
theorem drawSerialKidC (B : Nat) (v : Value) (l : List UInt8) (w : World) (hC : Draw.Code B w v l) (hB : B ≤ w.heap.size) (hl : l.length ≤ 1048576) :
    Calls Try.prog 10 #[v] w (KidDrawn w) := by
  have c0 := newC B v l w hC hB hl
  obtain ⟨g, hg⟩ : ∃ g, w.heap.size = g := ⟨_, rfl⟩
  rw [hg] at c0
  go_enter Try.func10, Try.ntmps10
  go_wp2_with fail
  refine c0.mono ?_
  rintro e w1 ⟨rfl, C1, G1⟩
  have D1 : Dr B g v l w1 := ⟨_, C1⟩
  have b1 : Below g w w1 := (Below.refl _ _).grown G1 (by omega) (fun k hk => by cases hk)
  clear c0 C1
  have nx : ∀ {W W' : World}, Below g w W → W.grownBy W' (some g) → Below g w W' := fun hb hG => hb.grown hG (by have := hb.size; omega) (fun k hk => by cases hk; exact Nat.le_refl _)
  go_wp2_with fail
  refine (gen true 2 (by omega) 10 (by omega) (by omega) B g v l w1 D1).mono ?_
  rintro e w2 ⟨vl, xs, rfl, L2, hx, D2, G2⟩
  have b2 := nx b1 G2
  go_wp2_with fail
  refine (onceE D2 10).mono ?_
  rintro e w3 ⟨z, rfl, D3, G3⟩
  have b3 := nx b2 G3
  have s1 := b1.size
  have L3 := L2.grown G3 (fun k hk e => by injection e with e; have := L2.at k hk; have := D1.lt; omega)
  have s3 : g < w1.heap.size := D1.lt
  cases z with
  | false =>
    have L4 : Owns4 (g + 1) w3 vl xs := L3.mono (by omega)
    have D4 := D3
    have b4 := b3
    have HX : Hid (xs.length ≤ 1030) := by show xs.length ≤ 1030; omega
    clear L2 L3 D1 D2 D3 G1 G2 G3
    have keep : ∀ {W W' : World}, Owns4 (g + 1) W vl xs → W.grownBy W' (some g) → Owns4 (g + 1) W' vl xs := fun hL hG => hL.grown hG (fun k hk e => by injection e with e; have := hL.at k hk; omega)
    go_wp2_with fail
    refine (drawE D4).mono ?_
    rintro e w5 ⟨x1, rfl, x10, x11, D5, G5⟩
    have b5 := nx b4 G5; have L5 := keep L4 G5
    go_wp2_with fail
    refine (drawE D5).mono ?_
    rintro e w6 ⟨x2, rfl, x20, x21, D6, G6⟩
    have b6 := nx b5 G6; have L6 := keep L5 G6
    go_wp2_with fail
    refine (drawE D6).mono ?_
    rintro e w7 ⟨x3, rfl, x30, x31, D7, G7⟩
    have b7 := nx b6 G7; have L7 := keep L6 G7
    go_wp2_with fail
    refine (drawE D7).mono ?_
    rintro e w8 ⟨x4, rfl, x40, x41, D8, G8⟩
    have b8 := nx b7 G8; have L8 := keep L7 G8
    clear D5 D6 D7 G5 G6 G7 G8 b5 b6 b7 L5 L6 L7
    have R9 := Blk.new w8 #[.int .i64 x1, .int .i64 x2, .int .i64 x3, .int .i64 x4] 3
    have a9 := alloc_below w8 (.cells #[.int .i64 x1, .int .i64 x2, .int .i64 x3, .int .i64 x4] 3)
    have D9 := D8.alloc (.cells #[.int .i64 x1, .int .i64 x2, .int .i64 x3, .int .i64 x4] 3)
    have L9 := L8.on a9 (Nat.le_refl _)
    have b9 := b8.trans (a9.mono (by have := b8.size; omega))
    obtain ⟨q, hq⟩ : ∃ q, w8.heap.size = q := ⟨_, rfl⟩
    obtain ⟨w9, hw9⟩ : ∃ W, w8.alloc (.cells #[.int .i64 x1, .int .i64 x2, .int .i64 x3, .int .i64 x4] 3) = W := ⟨_, rfl⟩
    rw [hw9] at R9 D9 L9 b9
    rw [hq] at R9
    have hgq : g < q := by have := D8.lt; omega
    go_wp2_with fail
    refine (valsE D9).mono ?_
    rintro e w10 ⟨vc, cs, rfl, C10, hcs, D10, G10⟩
    have b10 := nx b9 G10; have L10 := keep L9 G10
    have R10 : Blk w10 q #[.int .i64 x1, .int .i64 x2, .int .i64 x3, .int .i64 x4] 3 := (G10.block q R9.lt (fun e => by injection e with e; omega)).trans R9
    obtain ⟨ac, kc, rfl⟩ := C10.form
    clear hw9 hq R9 a9
    go_wp2_with fail
    refine (belowE D10 12 (by omega)).mono ?_
    rintro e w11 ⟨sw, rfl, sw0, sw1, D11, G11⟩
    have b11 := nx b10 G11; have L11 := keep L10 G11
    have R11 : Blk w11 q #[.int .i64 x1, .int .i64 x2, .int .i64 x3, .int .i64 x4] 3 := (G11.block q R10.lt (fun e => by injection e with e; omega)).trans R10
    have hg9 : g < w9.heap.size := D9.lt
    have C11 := C10.grown G11 (fun k hk e => by injection e with e; have := C10.at k hk; omega)
    have hRS : Ints.Sees w11.heap.size w11 (.slice (some ⟨q, 0, none⟩) 4 4) [x1, x2, x3, x4] := ⟨_, 4, rfl, Nat.le_refl _, by unfold maxLen; omega, fun _ => ⟨q, 0, rfl, R11.lt, fun j hj => by
      rw [R11.cell, Nat.zero_add]
      match j, hj with
      | 0, _ => rfl
      | 1, _ => rfl
      | 2, _ => rfl
      | 3, _ => rfl⟩⟩
    have hRO : regsOk [x1, x2, x3, x4] = true := by unfold regsOk; simp [inn]; omega
    have hcl := (cellsOk_out hcs).1
    have hCS := C11.sees
    rw [hcl] at hCS ⊢
    obtain ⟨bq9, off9, rfl, kc8⟩ : ∃ b off, ac = some ⟨b, off, none⟩ ∧ ¬ (kc : Int) < 2 := by
      obtain ⟨a', cap', e, h1, h2, h3⟩ := hCS
      simp only [Value.slice.injEq] at e
      obtain ⟨rfl, -, rfl⟩ := e
      obtain ⟨b, off, rfl, -, -⟩ := h3 (fun h => by rw [h] at hcl; simp at hcl)
      exact ⟨b, off, rfl, by omega⟩
    clear D10 G10 G11 R10 L9 L10 C10 L8 b8 b9 b10
    rcases (show sw = 0 ∨ sw = 1 ∨ 2 ≤ sw by omega) with rfl | rfl | hsw
    · go_wp2
      go_ret3
      exact ⟨_, _, _, xs, [x1, x2], cs, rfl, L11.sees, HX.out, seesTwo hRS (by simp), hCS, by simp, by omega, fun h => by simp at h, fun _ => hcs, by rw [hg]; exact b11⟩
    · go_wp2
      go_ret3
      exact ⟨_, _, _, xs, [x1, x2, x3, x4], cs.take 2, rfl, L11.sees, HX.out, hRS, seesTwo hCS (by omega), by simp, by simp; omega, fun _ => hRO, fun h => by simp at h; omega, by rw [hg]; exact b11⟩
    · have n0 : (sw == 0) = false := by simp; omega
      have n1 : (sw == 1) = false := by simp; omega
      go_wp2
      go_ret3
      exact ⟨_, _, _, xs, [x1, x2, x3, x4], cs, rfl, L11.sees, HX.out, hRS, hCS, by simp, by omega, fun _ => hRO, fun _ => hcs, by rw [hg]; exact b11⟩
  | true =>
    go_wp2_with fail
    refine (anyCodeE D3).mono ?_
    rintro e w4 ⟨vy, ys, rfl, Y4, hy, D4, G4⟩
    have b4 := nx b3 G4
    have L4 : Owns4 (g + 1) w4 vy ys := Y4.mono (by have := D3.lt; omega)
    have HX : Hid (ys.length ≤ 1030) := hy
    clear L2 L3 D1 D2 D3 G1 G2 G3
    have keep : ∀ {W W' : World}, Owns4 (g + 1) W vy ys → W.grownBy W' (some g) → Owns4 (g + 1) W' vy ys := fun hL hG => hL.grown hG (fun k hk e => by injection e with e; have := hL.at k hk; omega)
    go_wp2_with fail
    refine (drawE D4).mono ?_
    rintro e w5 ⟨x1, rfl, x10, x11, D5, G5⟩
    have b5 := nx b4 G5; have L5 := keep L4 G5
    go_wp2_with fail
    refine (drawE D5).mono ?_
    rintro e w6 ⟨x2, rfl, x20, x21, D6, G6⟩
    have b6 := nx b5 G6; have L6 := keep L5 G6
    go_wp2_with fail
    refine (drawE D6).mono ?_
    rintro e w7 ⟨x3, rfl, x30, x31, D7, G7⟩
    have b7 := nx b6 G7; have L7 := keep L6 G7
    go_wp2_with fail
    refine (drawE D7).mono ?_
    rintro e w8 ⟨x4, rfl, x40, x41, D8, G8⟩
    have b8 := nx b7 G8; have L8 := keep L7 G8
    clear D5 D6 D7 G5 G6 G7 G8 b5 b6 b7 L5 L6 L7
    have R9 := Blk.new w8 #[.int .i64 x1, .int .i64 x2, .int .i64 x3, .int .i64 x4] 3
    have a9 := alloc_below w8 (.cells #[.int .i64 x1, .int .i64 x2, .int .i64 x3, .int .i64 x4] 3)
    have D9 := D8.alloc (.cells #[.int .i64 x1, .int .i64 x2, .int .i64 x3, .int .i64 x4] 3)
    have L9 := L8.on a9 (Nat.le_refl _)
    have b9 := b8.trans (a9.mono (by have := b8.size; omega))
    obtain ⟨q, hq⟩ : ∃ q, w8.heap.size = q := ⟨_, rfl⟩
    obtain ⟨w9, hw9⟩ : ∃ W, w8.alloc (.cells #[.int .i64 x1, .int .i64 x2, .int .i64 x3, .int .i64 x4] 3) = W := ⟨_, rfl⟩
    rw [hw9] at R9 D9 L9 b9
    rw [hq] at R9
    have hgq : g < q := by have := D8.lt; omega
    go_wp2_with fail
    refine (valsE D9).mono ?_
    rintro e w10 ⟨vc, cs, rfl, C10, hcs, D10, G10⟩
    have b10 := nx b9 G10; have L10 := keep L9 G10
    have R10 : Blk w10 q #[.int .i64 x1, .int .i64 x2, .int .i64 x3, .int .i64 x4] 3 := (G10.block q R9.lt (fun e => by injection e with e; omega)).trans R9
    obtain ⟨ac, kc, rfl⟩ := C10.form
    clear hw9 hq R9 a9
    go_wp2_with fail
    refine (belowE D10 12 (by omega)).mono ?_
    rintro e w11 ⟨sw, rfl, sw0, sw1, D11, G11⟩
    have b11 := nx b10 G11; have L11 := keep L10 G11
    have R11 : Blk w11 q #[.int .i64 x1, .int .i64 x2, .int .i64 x3, .int .i64 x4] 3 := (G11.block q R10.lt (fun e => by injection e with e; omega)).trans R10
    have hg9 : g < w9.heap.size := D9.lt
    have C11 := C10.grown G11 (fun k hk e => by injection e with e; have := C10.at k hk; omega)
    have hRS : Ints.Sees w11.heap.size w11 (.slice (some ⟨q, 0, none⟩) 4 4) [x1, x2, x3, x4] := ⟨_, 4, rfl, Nat.le_refl _, by unfold maxLen; omega, fun _ => ⟨q, 0, rfl, R11.lt, fun j hj => by
      rw [R11.cell, Nat.zero_add]
      match j, hj with
      | 0, _ => rfl
      | 1, _ => rfl
      | 2, _ => rfl
      | 3, _ => rfl⟩⟩
    have hRO : regsOk [x1, x2, x3, x4] = true := by unfold regsOk; simp [inn]; omega
    have hcl := (cellsOk_out hcs).1
    have hCS := C11.sees
    rw [hcl] at hCS ⊢
    obtain ⟨bq9, off9, rfl, kc8⟩ : ∃ b off, ac = some ⟨b, off, none⟩ ∧ ¬ (kc : Int) < 2 := by
      obtain ⟨a', cap', e, h1, h2, h3⟩ := hCS
      simp only [Value.slice.injEq] at e
      obtain ⟨rfl, -, rfl⟩ := e
      obtain ⟨b, off, rfl, -, -⟩ := h3 (fun h => by rw [h] at hcl; simp at hcl)
      exact ⟨b, off, rfl, by omega⟩
    clear D10 G10 G11 R10 L9 L10 C10 L8 b8 b9 b10
    rcases (show sw = 0 ∨ sw = 1 ∨ 2 ≤ sw by omega) with rfl | rfl | hsw
    · go_wp2
      go_ret3
      exact ⟨_, _, _, ys, [x1, x2], cs, rfl, L11.sees, HX.out, seesTwo hRS (by simp), hCS, by simp, by omega, fun h => by simp at h, fun _ => hcs, by rw [hg]; exact b11⟩
    · go_wp2
      go_ret3
      exact ⟨_, _, _, ys, [x1, x2, x3, x4], cs.take 2, rfl, L11.sees, HX.out, hRS, seesTwo hCS (by omega), by simp, by simp; omega, fun _ => hRO, fun h => by simp at h; omega, by rw [hg]; exact b11⟩
    · have n0 : (sw == 0) = false := by simp; omega
      have n1 : (sw == 1) = false := by simp; omega
      go_wp2
      go_ret3
      exact ⟨_, _, _, ys, [x1, x2, x3, x4], cs, rfl, L11.sees, HX.out, hRS, hCS, by simp, by omega, fun _ => hRO, fun _ => hcs, by rw [hg]; exact b11⟩
end Ops
end Go.Proofs.Ytppkohkcffnghaa
/- Code that is put into a block: it does there what it does alone, up to where it ends or gives up. -/
set_option linter.unusedVariables false
set_option linter.unusedSimpArgs false
namespace Go.Proofs.Ytppkohkcffnghaa
namespace Ops

/-- the code x :: l ++ z -/
def wrapC (x : O4) (l z : List O4) : List O4 := x :: (l ++ z)
section
variable {x : O4} {l z : List O4}
theorem wrap_length : (wrapC x l z).length = l.length + z.length + 1 := by simp [wrapC]
theorem wrap_at {i : Nat} (h : i < l.length) : ∃ h' : i + 1 < (wrapC x l z).length, (wrapC x l z)[i + 1] = l[i] :=
  ⟨by rw [wrap_length]; omega, by simp [wrapC, List.getElem_append_left h]⟩
theorem wrap_drop {k : Nat} (h : k ≤ l.length) : (wrapC x l z).drop (k + 1) = l.drop k ++ z := by
  unfold wrapC
  rw [List.drop_succ_cons, List.drop_append_of_le_length h]
theorem wrap_behind {i : Nat} (h : i < z.length) : ∃ h' : l.length + 1 + i < (wrapC x l z).length, (wrapC x l z)[l.length + 1 + i] = z[i] :=
  ⟨by rw [wrap_length]; omega, by
    have e : (wrapC x l z)[l.length + 1 + i]? = some z[i] := by
      unfold wrapC
      rw [show l.length + 1 + i = (l.length + i) + 1 by omega, List.getElem?_cons_succ, List.getElem?_append_right (by omega), Nat.add_sub_cancel_left, List.getElem?_eq_getElem h]
    rw [List.getElem?_eq_getElem (by rw [wrap_length]; omega)] at e
    exact Option.some.inj e⟩
theorem endGo_wrap (z : List O4) : ∀ (ys : List O4) (q : Int) (k e : Nat), endGo ys q k = (e : Int) → endGo (ys ++ z) q (k + 1) = ((e + 1 : Nat) : Int)
  | [], q, k, e, h => by simp [endGo] at h
  | o :: r, q, k, e, h => by
    rw [List.cons_append]
    unfold endGo at h ⊢
    by_cases hz : q + delta o = 0
    · rw [if_pos hz] at h ⊢; omega
    · rw [if_neg hz] at h ⊢
      exact endGo_wrap z r _ (k + 1) e h
theorem endOf_wrap {b e : Nat} (hb : b < l.length) (h : endOf l b = (e : Int)) : endOf (wrapC x l z) ((b + 1 : Nat) : Int) = ((e + 1 : Nat) : Int) := by
  have h8 : 0 ≤ (b : Int) ∧ (b : Int) < l.length ∧ (l.getD (b : Int).toNat z4).k = 8 := by
    by_cases hx : 0 ≤ (b : Int) ∧ (b : Int) < l.length ∧ (l.getD (b : Int).toNat z4).k = 8
    · exact hx
    · unfold endOf at h; rw [if_neg hx] at h; omega
  obtain ⟨hw, he⟩ := wrap_at (x := x) (z := z) hb
  have h8' : 0 ≤ ((b + 1 : Nat) : Int) ∧ ((b + 1 : Nat) : Int) < (wrapC x l z).length ∧ ((wrapC x l z).getD ((b + 1 : Nat) : Int).toNat z4).k = 8 := by
    refine ⟨by omega, by omega, ?_⟩
    rw [Int.toNat_natCast, xs_at hw, he]
    have := h8.2.2
    rw [Int.toNat_natCast, xs_at hb] at this
    exact this
  unfold endOf at h ⊢
  rw [if_pos h8, Int.toNat_natCast] at h
  rw [if_pos h8', Int.toNat_natCast, wrap_drop (by omega)]
  exact endGo_wrap z _ 0 b e h
theorem closed_wrap (z : List O4) (c : Int) (hc : 0 ≤ c) : ∀ (ys : List O4) (q : Int), closedGo ys q = true → closedGo (ys ++ z) (q + c) = closedGo z c
  | [], q, h => by
    have : q = 0 := by simpa [closedGo] using h
    rw [this, List.nil_append, Int.zero_add]
  | o :: r, q, h => by
    have h' : (decide (0 ≤ q + delta o) && closedGo r (q + delta o)) = true := h
    rw [Bool.and_eq_true, decide_eq_true_eq] at h'
    have := closed_wrap z c hc r _ h'.2
    show (decide (0 ≤ q + c + delta o) && closedGo (r ++ z) (q + c + delta o)) = _
    rw [show q + c + delta o = q + delta o + c by omega, this, decide_eq_true (by omega), Bool.true_and]
theorem skipGo_wrap (z : List O4) : ∀ (ys : List O4) (n : Nat) (d : Int), skipGo ys n d = true → skipGo (ys ++ z) n d = true
  | ys, 0, d, h => by cases ys <;> simpa [skipGo] using h
  | [], n + 1, d, h => by simp [skipGo] at h
  | o :: r, n + 1, d, h => by
    have h' : (decide (0 ≤ d + delta o) && skipGo r n (d + delta o)) = true := h
    rw [Bool.and_eq_true] at h'
    show (decide (0 ≤ d + delta o) && skipGo (r ++ z) n (d + delta o)) = true
    rw [Bool.and_eq_true]
    exact ⟨h'.1, skipGo_wrap z r n _ h'.2⟩
theorem skipOk_wrap {i : Nat} (hi : i < l.length) (h : skipOk l i = true) : skipOk (wrapC x l z) (i + 1) = true := by
  obtain ⟨hw, he⟩ := wrap_at (x := x) (z := z) hi
  unfold skipOk at h ⊢
  rw [xs_at hi, Bool.and_eq_true, decide_eq_true_eq] at h
  rw [xs_at hw, he, Bool.and_eq_true, decide_eq_true_eq, wrap_length, wrap_drop (by omega)]
  exact ⟨by omega, skipGo_wrap z _ _ _ h.2⟩
theorem skipsGo_wrap (hs : skipsGo l l 0 = true) : ∀ (n k : Nat), k + n = l.length → skipsGo (wrapC x l z) (l.drop k ++ z) (k + 1) = skipsGo (wrapC x l z) z (l.length + 1)
  | 0, k, h => by rw [List.drop_of_length_le (by omega), List.nil_append, show k = l.length by omega]
  | n + 1, k, h => by
    have hk : k < l.length := by omega
    have := skips_at hs k (by omega)
    rw [skipsGo_step hk, Bool.and_eq_true] at this
    rw [List.drop_eq_getElem_cons hk, List.cons_append]
    show ((!(l[k].k == 7) || skipOk (wrapC x l z) (k + 1)) && skipsGo (wrapC x l z) (l.drop (k + 1) ++ z) (k + 1 + 1)) = _
    rw [skipsGo_wrap hs n (k + 1) (by omega)]
    by_cases h7 : l[k].k = 7
    · have h1 := this.1
      rw [h7] at h1
      rw [skipOk_wrap hk (by simpa using h1)]; simp
    · have : (l[k].k == 7) = false := by simpa using h7
      rw [this]; rfl
theorem noForks : ∀ (ys : List O4) (d : Int) (f : Nat), hasFork ys = false → forksGo ys d f = true
  | [], d, f, _ => rfl
  | o :: r, d, f, h => by
    have h' : ((o.k == 11) || hasFork r) = false := h
    rw [Bool.or_eq_false_iff] at h'
    show ((!(o.k == 11) || (decide (d ≤ 0) && decide (f = 0))) && forksGo r (d + delta o) (if o.k = 11 then f + 1 else f)) = true
    rw [h'.1, noForks r _ _ h'.2]; rfl
theorem wrap_all {p : O4 → Bool} : (wrapC x l z).all p = (p x && (l.all p && z.all p)) := by simp [wrapC]
theorem wrap_fork : hasFork (wrapC x l z) = ((x.k == 11) || (hasFork l || hasFork z)) := by simp [wrapC, hasFork]
/-- a kid's code in a block, and what may stand behind it, is a kid's code -/
theorem kid_wrap (h : kidOk l = true) (hx : x = ⟨8, 2, 0, 0⟩) (hz : z = [⟨10, 0, 0, 0⟩, ⟨9, 0, 0, 0⟩] ∨ z = [⟨9, 0, 0, 0⟩]) (hl : l.length ≤ 21) : kidOk (wrapC x l z) = true := by
  have h0 := h
  unfold kidOk at h
  rw [Bool.and_eq_true, Bool.and_eq_true] at h
  obtain ⟨⟨h1, h2⟩, h3⟩ := h
  obtain ⟨a1, a2, a3, a4⟩ := code_four h1
  have h2' : hasFork l = false := by simpa using h2
  have hzl : z.length ≤ 2 := by rcases hz with rfl | rfl <;> simp
  have z1 : z.all okOp = true := by rcases hz with rfl | rfl <;> decide
  have z2 : hasFork z = false := by rcases hz with rfl | rfl <;> decide
  have z3 : (z.all fun o => !(touch o == 2)) = true := by rcases hz with rfl | rfl <;> decide
  have z4' : closedGo z 1 = true := by rcases hz with rfl | rfl <;> decide
  have z5 : ∀ n, skipsGo (wrapC x l z) z n = true := by intro n; rcases hz with rfl | rfl <;> rfl
  have x1 : okOp x = true := by rw [hx]; decide
  have x3 : (!(touch x == 2)) = true := by rw [hx]; decide
  have x2 : (x.k == 11) = false := by rw [hx]; decide
  have hf : hasFork (wrapC x l z) = false := by rw [wrap_fork, x2, h2', z2]; rfl
  have hcl : closedGo (wrapC x l z) 0 = true := by
    have : closedGo (l ++ z) (0 + 1) = closedGo z 1 := closed_wrap z 1 (by omega) l 0 a3
    show (decide (0 ≤ 0 + delta x) && closedGo (l ++ z) (0 + delta x)) = true
    have hd : delta x = 1 := delta8 (by rw [hx])
    rw [hd, this, z4']; rfl
  have hsk : skipsGo (wrapC x l z) (wrapC x l z) 0 = true := by
    show ((!(x.k == 7) || skipOk (wrapC x l z) 0) && skipsGo (wrapC x l z) (l ++ z) (0 + 1)) = true
    have e7 : (x.k == 7) = false := by rw [hx]; decide
    have := skipsGo_wrap (x := x) (z := z) a4 l.length 0 (by omega)
    rw [List.drop_zero] at this
    rw [this, z5, e7]; rfl
  unfold kidOk
  rw [codeOk_split, wrap_all, wrap_all, hf, hcl, hsk, noForks _ _ _ hf, x1, a2, z1, x3, h3, z3, decide_eq_true (by rw [wrap_length]; omega)]
  rfl

/-- the machine in the block -/
def shK (m : Mk) : Mk := ⟨m.pc + 1, m.r, m.t⟩
def shC (K : List Mk) (s : Cf) : Cf := ⟨s.pc + 1, s.r, s.t, s.k.map shK ++ K⟩
theorem wrap_getD {i : Nat} (h : i < l.length) : (wrapC x l z).getD (i + 1) z4 = l.getD i z4 := by
  obtain ⟨hw, he⟩ := wrap_at (x := x) (z := z) h
  rw [xs_at hw, he, xs_at h]
theorem run_wrap (hc : codeOk l = true) (hcX : codeOk (wrapC x l z) = true) (hnf : hasFork l = false) {t0 t1 : Th} {K : List Mk} : ∀ (f : Nat) (s : Cf) (q : Rn), CfOk l s → CfOk (wrapC x l z) (shC K s) → runF l t0 noF f s = some q →
    (q.out = 1 ∧ Leads (wrapC x l z) t1 noF (shC K s) ⟨l.length + 1, q.r, q.t, K⟩ ∧ CfOk (wrapC x l z) ⟨l.length + 1, q.r, q.t, K⟩) ∨
    (q.out = 2 ∧ q.t = t0 ∧ ∃ (p : Nat) (t : Th) (hp : p < l.length), l[p].k = 10 ∧ Leads (wrapC x l z) t1 noF (shC K s) ⟨p + 1, q.r, t, K⟩ ∧ CfOk (wrapC x l z) ⟨p + 1, q.r, t, K⟩)
  | 0, s, q, _, _, h => by simp [runF] at h
  | f + 1, s, q, hs, hX, h => by
    unfold runF at h
    by_cases hp : s.pc < l.length
    · rw [if_pos hp] at h
      obtain ⟨hw, he⟩ := wrap_at (x := x) (z := z) hp
      have hpX : (shC K s).pc < (wrapC x l z).length := hw
      have hxx : (wrapC x l z)[(shC K s).pc]'hpX = l[s.pc] := he
      have hkX : ∀ n : Int, l[s.pc].k = n → ((wrapC x l z)[(shC K s).pc]'hpX).k = n := fun n hn => by rw [hxx]; exact hn
      have go : ∀ s', step l t0 noF s = .inl s' → CfOk l s' → step (wrapC x l z) t1 noF (shC K s) = .inl (shC K s') → CfOk (wrapC x l z) (shC K s') →
          (q.out = 1 ∧ Leads (wrapC x l z) t1 noF (shC K s) ⟨l.length + 1, q.r, q.t, K⟩ ∧ CfOk (wrapC x l z) ⟨l.length + 1, q.r, q.t, K⟩) ∨
          (q.out = 2 ∧ q.t = t0 ∧ ∃ (p : Nat) (t : Th) (hp : p < l.length), l[p].k = 10 ∧ Leads (wrapC x l z) t1 noF (shC K s) ⟨p + 1, q.r, t, K⟩ ∧ CfOk (wrapC x l z) ⟨p + 1, q.r, t, K⟩) := by
        intro s' e1 o1 e2 o2
        rw [e1] at h
        have l1 : Leads (wrapC x l z) t1 noF (shC K s) (shC K s') := Leads.step hpX e2
        rcases run_wrap hc hcX hnf f s' q o1 o2 h with ⟨a, b, c⟩ | ⟨a, a', p, t, hp', b, c, d⟩
        · exact .inl ⟨a, l1.trans b, c⟩
        · exact .inr ⟨a, a', p, t, hp', b, l1.trans c, d⟩
      by_cases h8 : l[s.pc].k = 8
      · obtain ⟨e1, o1⟩ := step_begin (t0 := t0) (F := noF) hs hp h8
        obtain ⟨e2, o2⟩ := step_begin (t0 := t1) (F := noF) hX hpX (hkX 8 h8)
        exact go _ e1 o1 e2 o2
      by_cases h9 : l[s.pc].k = 9
      · obtain ⟨m, k, hk, e1, o1⟩ := step_end (t0 := t0) (F := noF) hc hs hp h9
        obtain ⟨m', k', hk', e2, o2⟩ := step_end (t0 := t1) (F := noF) hcX hX hpX (hkX 9 h9)
        have hsk : (shC K s).k = shK m :: (k.map shK ++ K) := by show s.k.map shK ++ K = _; rw [hk]; rfl
        rw [hsk] at hk'
        simp only [List.cons.injEq] at hk'
        obtain ⟨rfl, rfl⟩ := hk'
        have hmp : m.pc < l.length := (hs.k m (by rw [hk]; simp)).2.2.1
        have hgd : (wrapC x l z).getD (shK m).pc z4 = l.getD m.pc z4 := wrap_getD hmp
        rw [hgd] at e2 o2
        exact go _ e1 o1 e2 o2
      by_cases h10 : l[s.pc].k = 10
      · match hk : s.k with
        | [] =>
          rw [step_give hs hp h10 hk] at h
          simp only [Option.some.injEq] at h
          subst h
          have hsX : shC K s = ⟨s.pc + 1, s.r, s.t, K⟩ := by unfold shC; rw [hk]; rfl
          refine .inr ⟨rfl, rfl, s.pc, s.t, hp, h10, ?_, ?_⟩
          · show Leads _ _ _ _ ⟨s.pc + 1, s.r, s.t, K⟩
            rw [← hsX]; exact Leads.refl _
          · show CfOk _ ⟨s.pc + 1, s.r, s.t, K⟩
            rw [← hsX]; exact hX
        | m :: k =>
          obtain ⟨e, c1, -, -, e1, o1⟩ := step_abort (t0 := t0) (F := noF) hc hs hp h10 hk
          have hsk : (shC K s).k = shK m :: (k.map shK ++ K) := by show s.k.map shK ++ K = _; rw [hk]; rfl
          obtain ⟨e', c2, -, -, e2, o2⟩ := step_abort (t0 := t1) (F := noF) hcX hX hpX (hkX 10 h10) hsk
          have hmp : m.pc < l.length := (hs.k m (by rw [hk]; simp)).2.2.1
          have hgd : (wrapC x l z).getD (shK m).pc z4 = l.getD m.pc z4 := wrap_getD hmp
          have hee : e' = e + 1 := by
            have := endOf_wrap (x := x) (z := z) hmp c1
            have c2 : endOf (wrapC x l z) ((m.pc + 1 : Nat) : Int) = (e' : Int) := c2
            omega
          subst hee
          rw [hgd] at e2 o2
          exact go _ e1 o1 e2 o2
      by_cases h11 : l[s.pc].k = 11
      · have := hasFork_yes hp h11
        rw [hnf] at this; cases this
      · obtain ⟨e1, o1, -⟩ := step_plain (t0 := t0) (F := noF) hc hs hp h8 h9 h10 h11
        have hne : ∀ n : Int, ¬ l[s.pc].k = n → ¬ ((wrapC x l z)[(shC K s).pc]'hpX).k = n := fun n hn hx => hn (by rw [hxx] at hx; exact hx)
        obtain ⟨e2, o2, -⟩ := step_plain (t0 := t1) (F := noF) hcX hX hpX (hne 8 h8) (hne 9 h9) (hne 10 h10) (hne 11 h11)
        have hn : nextPc l[s.pc] s.r (s.pc + 1) = nextPc l[s.pc] s.r s.pc + 1 := by unfold nextPc; split <;> omega
        rw [hxx] at e2 o2
        have e2 : step (wrapC x l z) t1 noF (shC K s) = .inl ⟨nextPc l[s.pc] s.r (s.pc + 1), plainR l[s.pc] s.r s.t, plainT l[s.pc] s.r s.t, s.k.map shK ++ K⟩ := e2
        have o2 : CfOk (wrapC x l z) ⟨nextPc l[s.pc] s.r (s.pc + 1), plainR l[s.pc] s.r s.t, plainT l[s.pc] s.r s.t, s.k.map shK ++ K⟩ := o2
        rw [hn] at e2 o2
        exact go _ e1 o1 e2 o2
    · rw [if_neg hp] at h
      simp only [Option.some.injEq] at h
      subst h
      have hpe : s.pc = l.length := by have := hs.pc; omega
      have hst := hs.st
      have hk : s.k = [] := by
        have h0 := (closed_at (code_four hc).2.2.1 l.length (Nat.le_refl _)).2
        rw [List.drop_of_length_le (Nat.le_refl _)] at h0
        rw [hpe] at hst
        rw [hst] at h0
        simp [closedGo] at h0
        exact h0
      have hsX : shC K s = ⟨l.length + 1, s.r, s.t, K⟩ := by unfold shC; rw [hk, hpe]; rfl
      refine .inl ⟨rfl, ?_, ?_⟩
      · show Leads _ _ _ _ ⟨l.length + 1, s.r, s.t, K⟩
        rw [← hsX]; exact Leads.refl _
      · show CfOk _ ⟨l.length + 1, s.r, s.t, K⟩
        rw [← hsX]; exact hX
end
abbrev o8 : O4 := ⟨8, 2, 0, 0⟩
abbrev o9 : O4 := ⟨9, 0, 0, 0⟩
abbrev o10 : O4 := ⟨10, 0, 0, 0⟩
/-- where the block ends -/
theorem end_wrap {l z : List O4} (hc : codeOk l = true) (hcX : codeOk (wrapC o8 l z) = true) (hz : z = [o10, o9] ∨ z = [o9]) : endOf (wrapC o8 l z) 0 = ((l.length + z.length : Nat) : Int) := by
  have hlen := wrap_length (x := o8) (l := l) (z := z)
  have hzl : z.length = 2 ∨ z.length = 1 := by rcases hz with rfl | rfl <;> simp
  have h0 : 0 < (wrapC o8 l z).length := by omega
  obtain ⟨e2, f1, f2, f3, f4, f5, f6⟩ := shapes8 hcX h0 (by rfl)
  have f1 : endOf (wrapC o8 l z) 0 = (e2 : Int) := f1
  have hcl := closed_dsum l 0 (Int.le_refl _) (code_closed hc)
  have hdX : dsum ((wrapC o8 l z).take (e2 + 1)) = 0 := by
    have f5 : dsum ((wrapC o8 l z).take ((e2 : Int) + 1).toNat) = dsum ((wrapC o8 l z).take (0 : Int).toNat) := f5
    rw [show ((e2 : Int) + 1).toNat = e2 + 1 by omega] at f5
    simpa [dsum] using f5
  have htake : (wrapC o8 l z).take (e2 + 1) = o8 :: (l ++ z).take e2 := rfl
  have e8 : dsum (o8 :: (l ++ z).take e2) = 1 + dsum ((l ++ z).take e2) := by simp [dsum, delta]
  rw [htake, e8] at hdX
  rw [f1]
  by_cases hle : e2 ≤ l.length
  · rw [List.take_append_of_le_length hle] at hdX
    have := hcl.1 e2
    omega
  · rcases hz with rfl | rfl
    · simp only [List.length_cons, List.length_nil] at hlen hzl ⊢
      by_cases h1 : e2 = l.length + 1
      · have h10 : (l ++ [o10, o9]).take e2 = l ++ [o10] := by
          rw [List.take_append, List.take_of_length_le (by omega), show e2 - l.length = 1 by omega]; rfl
        rw [h10, dsum_snoc] at hdX
        have : delta o10 = 0 := by decide
        have := hcl.2
        omega
      · omega
    · simp only [List.length_cons, List.length_nil] at hlen hzl ⊢
      omega
theorem start_wrap {l z : List O4} (hcX : codeOk (wrapC o8 l z) = true) {r : List Int} {t : Th} (hr : regsOk r = true) (ht : thOk t = true) :
    Leads (wrapC o8 l z) t noF ⟨0, r, t, []⟩ ⟨1, r, t, [⟨0, r, t⟩]⟩ ∧ CfOk (wrapC o8 l z) ⟨1, r, t, [⟨0, r, t⟩]⟩ := by
  have h0 : 0 < (wrapC o8 l z).length := by rw [wrap_length]; omega
  obtain ⟨e1, o1⟩ := step_begin (t0 := t) (F := noF) (CfOk.start (xs := wrapC o8 l z) hr ht) h0 (by rfl)
  exact ⟨Leads.step h0 e1, o1⟩
theorem abort_wrap {l z : List O4} (hc : codeOk l = true) (hcX : codeOk (wrapC o8 l z) = true) (hz : z = [o10, o9] ∨ z = [o9]) {r r' : List Int} {t t' : Th} {p : Nat} (hp : p < (wrapC o8 l z).length) (h10 : (wrapC o8 l z)[p].k = 10)
    (ok : CfOk (wrapC o8 l z) ⟨p, r', t', [⟨0, r, t⟩]⟩) : Ends (wrapC o8 l z) t noF ⟨p, r', t', [⟨0, r, t⟩]⟩ ⟨1, wr r 2 0, t⟩ := by
  obtain ⟨e, c1, c2, c3, c4, c5⟩ := step_abort (t0 := t) (F := noF) hcX ok hp h10 (m := ⟨0, r, t⟩) (k := []) rfl
  have c1 : endOf (wrapC o8 l z) 0 = (e : Int) := c1
  rw [end_wrap hc hcX hz] at c1
  have he : e + 1 = (wrapC o8 l z).length := by rw [wrap_length]; omega
  have c4 : step (wrapC o8 l z) t noF ⟨p, r', t', [⟨0, r, t⟩]⟩ = .inl ⟨e + 1, wr r 2 0, t, []⟩ := c4
  rw [he] at c4
  exact Leads.step hp c4 _ (Ends.over (Nat.le_refl _))
/-- a kid that gives up in a block leaves nothing but its register -/
theorem block_gives {l : List O4} (h : kidOk l = true) (hl : l.length ≤ 21) {r : List Int} {t : Th} (hr : regsOk r = true) (ht : thOk t = true) {q : Rn} (he : Ends l t noF ⟨0, r, t, []⟩ q) :
    Ends (wrapC o8 l [o10, o9]) t noF ⟨0, r, t, []⟩ ⟨1, wr r 2 0, t⟩ := by
  obtain ⟨f, he⟩ := he
  have hz : [o10, o9] = [o10, o9] ∨ [o10, o9] = [o9] := .inl rfl
  obtain ⟨hcX, hfX, -⟩ := kid_dry (kid_wrap (x := o8) (z := [o10, o9]) h rfl (.inl rfl) hl)
  obtain ⟨hc, hf, -⟩ := kid_dry h
  obtain ⟨l1, o1⟩ := start_wrap hcX hr ht
  have hlen : (wrapC o8 l [o10, o9]).length = l.length + 3 := by rw [wrap_length]; rfl
  rcases run_wrap (t1 := t) (K := [⟨0, r, t⟩]) hc hcX hf f ⟨0, r, t, []⟩ q (CfOk.start hr ht) o1 he with ⟨a, b, c⟩ | ⟨a, a', p, t', hp, b, c, d⟩
  · obtain ⟨h1, h2⟩ := wrap_behind (x := o8) (l := l) (z := [o10, o9]) (i := 0) (by simp)
    exact l1 _ (b _ (abort_wrap hc hcX hz (p := l.length + 1) (by omega) (by have := congrArg O4.k h2; exact this) c))
  · obtain ⟨h1, h2⟩ := wrap_at (x := o8) (z := [o10, o9]) hp
    exact l1 _ (c _ (abort_wrap hc hcX hz (p := p + 1) (by omega) (by rw [h2]; exact b) d))
/-- a kid in a block leaves the things as it leaves them alone -/
theorem block_ends {l : List O4} (h : kidOk l = true) (hl : l.length ≤ 21) {r : List Int} {t : Th} (hr : regsOk r = true) (ht : thOk t = true) {q : Rn} (he : Ends l t noF ⟨0, r, t, []⟩ q) :
    ∃ r', Ends (wrapC o8 l [o9]) t noF ⟨0, r, t, []⟩ ⟨1, r', q.t⟩ ∧ (q.out = 1 ∨ q.out = 2 ∧ q.t = t) := by
  obtain ⟨f, he⟩ := he
  have hz : [o9] = [o10, o9] ∨ [o9] = [o9] := .inr rfl
  obtain ⟨hcX, hfX, -⟩ := kid_dry (kid_wrap (x := o8) (z := [o9]) h rfl (.inr rfl) hl)
  obtain ⟨hc, hf, -⟩ := kid_dry h
  obtain ⟨l1, o1⟩ := start_wrap hcX hr ht
  have hlen : (wrapC o8 l [o9]).length = l.length + 2 := by rw [wrap_length]; rfl
  rcases run_wrap (t1 := t) (K := [⟨0, r, t⟩]) hc hcX hf f ⟨0, r, t, []⟩ q (CfOk.start hr ht) o1 he with ⟨a, b, c⟩ | ⟨a, a', p, t', hp, b, c, d⟩
  · obtain ⟨h1, h2⟩ := wrap_behind (x := o8) (l := l) (z := [o9]) (i := 0) (by simp)
    obtain ⟨m, k, hmk, hst, hok⟩ := step_end (t0 := t) (F := noF) hcX c (by show l.length + 1 < _; omega) (by have := congrArg O4.k h2; exact this)
    simp only [List.cons.injEq] at hmk
    obtain ⟨rfl, rfl⟩ := hmk
    exact ⟨_, l1 _ (b _ (Leads.step (by show l.length + 1 < _; omega) hst _ (Ends.over (by show _ ≤ l.length + 1 + 1; omega)))), .inl a⟩
  · obtain ⟨h1, h2⟩ := wrap_at (x := o8) (z := [o9]) hp
    refine ⟨wr r 2 0, ?_, .inr ⟨a, a'⟩⟩
    rw [a']
    exact l1 _ (c _ (abort_wrap hc hcX hz (p := p + 1) (by omega) (by rw [h2]; exact b) d))
end Ops
end Go.Proofs.Ytppkohkcffnghaa
/- Whole programs: the laws' own copies, comparisons and sizes. -/
set_option linter.unusedVariables false
namespace Go.Proofs.Ytppkohkcffnghaa
open Go.RowKit
namespace Ops
open Bas Flat

/-- a program: its code, its kids' codes -/
structure SeesP (B : Nat) (w : World) (vc vk : Value) (xs : List O4) (kss : List (List O4)) : Prop where
  c : Sees4 B w vc xs
  k : SeesK B w vk kss
section
variable {B B' : Nat} {w w' : World} {vc vk : Value} {xs : List O4} {kss : List (List O4)}
theorem SeesP.on (h : SeesP B w vc vk xs kss) (hb : Below B' w w') (hB : B ≤ B') : SeesP B w' vc vk xs kss := ⟨h.c.on hb hB, h.k.on hb hB⟩
theorem SeesP.up (h : SeesP B w vc vk xs kss) (hB : B ≤ B') : SeesP B' w vc vk xs kss := ⟨h.c.up hB, h.k.up hB⟩
end
/-- .. in blocks of which S holds -/
structure SeesPIn (S : Nat → Prop) (w : World) (vc vk : Value) (xs : List O4) (kss : List (List O4)) : Prop where
  c : SeesIn opEl S w vc xs
  k : SeesKIn S w vk kss
theorem SeesPIn.sees {S : Nat → Prop} {B : Nat} {w : World} {vc vk : Value} {xs : List O4} {kss : List (List O4)} (h : SeesPIn S w vc vk xs kss) (hs : ∀ b, S b → b < B) : SeesP B w vc vk xs kss := ⟨h.c.mono hs, h.k.mono hs⟩
/-- lengths that a law lets by -/
def Fits (xs : List O4) (kss : List (List O4)) : Prop := xs.length ≤ 1048576 ∧ kss.length ≤ 1048576 ∧ ∀ ks ∈ kss, ks.length ≤ 1048576

set_option maxRecDepth 100000 in
set_option maxHeartbeats 1600000 in
theorem toProgC (vc vk : Value) (xs : List O4) (kss : List (List O4)) (B : Nat) (w : World) (hv : SeesP B w vc vk xs kss) (hB : B ≤ w.heap.size) (hf : Fits xs kss) :
    Calls Try.prog 27 #[.agg #[vc, vk]] w fun e w' => ∃ vc' vk', e = .returned (.agg #[vc', vk']) ∧ SeesPIn (fun b => w.heap.size ≤ b ∧ b < w'.heap.size) w' vc' vk' xs kss ∧ Below w.heap.size w w' := by
  obtain ⟨a, cap, rfl⟩ := hv.c.form
  obtain ⟨ak, capk, rfl⟩ := hv.k.form
  obtain ⟨n, hn⟩ : ∃ n, xs.length = n := ⟨_, rfl⟩
  obtain ⟨m, hm⟩ : ∃ m, kss.length = m := ⟨_, rfl⟩
  rw [hn, hm] at hv ⊢
  have b1 := alloc_below w (.cells #[.slice a n cap, .slice ak m capk] 61)
  have b0 := (b1.alloc (by simp) (.cells #[.slice none 0 0, .slice none 0 0] 49)).alloc (by simp; omega) (.cells #[.slice none 0 0, .slice none 0 0] 49)
  have hv0 := hv.on b0 hB
  have O1 : Blk (((w.alloc (.cells #[.slice a n cap, .slice ak m capk] 61)).alloc (.cells #[.slice none 0 0, .slice none 0 0] 49)).alloc (.cells #[.slice none 0 0, .slice none 0 0] 49)) w.heap.size #[.slice a n cap, .slice ak m capk] 61 :=
    ((Blk.new w _ _).on (alloc_below _ _) (by simp)).on (alloc_below _ _) (by simp; omega)
  have O2 : Blk (((w.alloc (.cells #[.slice a n cap, .slice ak m capk] 61)).alloc (.cells #[.slice none 0 0, .slice none 0 0] 49)).alloc (.cells #[.slice none 0 0, .slice none 0 0] 49)) (w.heap.size + 1) #[.slice none 0 0, .slice none 0 0] 49 := by
    have := (Blk.new (w.alloc (.cells #[.slice a n cap, .slice ak m capk] 61)) #[.slice none 0 0, .slice none 0 0] 49).on (alloc_below _ (.cells #[.slice none 0 0, .slice none 0 0] 49)) (by simp)
    simpa using this
  have O3 : Blk (((w.alloc (.cells #[.slice a n cap, .slice ak m capk] 61)).alloc (.cells #[.slice none 0 0, .slice none 0 0] 49)).alloc (.cells #[.slice none 0 0, .slice none 0 0] 49)) (w.heap.size + 2) #[.slice none 0 0, .slice none 0 0] 49 := by
    have := Blk.new ((w.alloc (.cells #[.slice a n cap, .slice ak m capk] 61)).alloc (.cells #[.slice none 0 0, .slice none 0 0] 49)) #[.slice none 0 0, .slice none 0 0] 49
    simpa using this
  obtain ⟨W0, hW0⟩ : ∃ W0, ((w.alloc (.cells #[.slice a n cap, .slice ak m capk] 61)).alloc (.cells #[.slice none 0 0, .slice none 0 0] 49)).alloc (.cells #[.slice none 0 0, .slice none 0 0] 49) = W0 := ⟨_, rfl⟩
  rw [hW0] at b0 hv0 O1 O2 O3
  have k0 := O1.cell 0; have k1 := O1.cell 1
  have hs := O3.lt
  clear b1
  go_enter Try.func27, Try.ntmps27
  go_wp2_with fail
  clear hW0 k0 k1
  refine (toOpsC _ xs B _ hv0.c (by omega) hf.1).mono ?_
  rintro e w1 ⟨v', rfl, P1, b1⟩
  obtain ⟨a', cap', rfl⟩ := P1.form
  rw [hn] at P1 ⊢
  have X1 := O1.on b1 (by omega); have X2 := O2.on b1 (by omega); have X3 := O3.on b1 (by omega)
  have hs1 : w.heap.size + 2 < w1.heap.size := by have := b1.size; omega
  have P2 : Owns4 W0.heap.size (w1.setCell ⟨w.heap.size + 2, 0, none⟩ (.slice a' n cap')) (.slice a' n cap') xs := P1.other (fun k hk => by have := P1.at k hk; omega) _
  have bb1 := b0.trans (b1.mono b0.size)
  have b2 := bb1.setCell (p := ⟨w.heap.size + 2, 0, none⟩) (show w.heap.size ≤ w.heap.size + 2 by omega) (.slice a' n cap')
  have Y1 := X1.other (show w.heap.size ≠ w.heap.size + 2 by omega) 0 (.slice a' n cap'); have Y2 := X2.other (show w.heap.size + 1 ≠ w.heap.size + 2 by omega) 0 (.slice a' n cap'); have Y3 := X3.set 0 (.slice a' n cap')
  have hvk := hv.k.on b2 hB
  have k1 := X1.cell 1; have j0 := X3.cell 0; have f0 := X3.froz 0
  clear O1 O2 O3
  have hne : w.heap.size + 2 ≠ w.heap.size := by omega
  go_wp2_with fail
  clear k1 j0 f0
  obtain ⟨W1, hW1⟩ : ∃ W1, w1.setCell ⟨w.heap.size + 2, 0, none⟩ (.slice a' n cap') = W1 := ⟨_, rfl⟩
  have hsz : W1.heap.size = w1.heap.size := by rw [← hW1]; simp [World.setCell]
  rw [hW1] at P2 b2 Y1 Y2 Y3 hvk ⊢
  clear hW1
  refine (toKidsC _ kss B W1 hvk (by have := b2.size; omega) hf.2.1 hf.2.2).mono ?_
  rintro e w2 ⟨v'', rfl, P3, b3⟩
  obtain ⟨a'', cap'', rfl⟩ := P3.form
  rw [hm] at P3 ⊢
  have Z2 := Y2.on b3 (by omega); have Z3 := Y3.on b3 (by omega)
  have c0 := Z3.cell 0; have c1 := Z3.cell 1; have f1 := Z3.froz 1
  have r0 := Z2.cell 0; have r1 := Z2.cell 1; have g0 := Z2.froz 0; have g1 := Z2.froz 1
  have P4 := (P2.on b3 (Nat.le_refl _)).within
  have b4 := b2.trans (b3.mono b2.size)
  have hs2 : w.heap.size + 2 < w2.heap.size := by have := b3.size; omega
  have hne1 : w.heap.size + 2 ≠ w.heap.size + 1 := by omega
  have hne2 : w.heap.size + 1 ≠ w.heap.size + 2 := by omega
  go_wp2
  have hk : ∀ b, W0.heap.size ≤ b → (((w2.setCell ⟨w.heap.size + 1 + 1, 1, none⟩ (.slice a'' m cap'')).setCell ⟨w.heap.size + 1, 0, none⟩ (.slice a' n cap')).setCell ⟨w.heap.size + 1, 1, none⟩ (.slice a'' m cap'')).heap[b]? = w2.heap[b]? := fun b hb => by
    rw [Below.heap_setCell _ _ _ _ (by show b ≠ w.heap.size + 1; omega), Below.heap_setCell _ _ _ _ (by show b ≠ w.heap.size + 1; omega), Below.heap_setCell _ _ _ _ (by show b ≠ w.heap.size + 1 + 1; omega)]
  have hz : (((w2.setCell ⟨w.heap.size + 1 + 1, 1, none⟩ (.slice a'' m cap'')).setCell ⟨w.heap.size + 1, 0, none⟩ (.slice a' n cap')).setCell ⟨w.heap.size + 1, 1, none⟩ (.slice a'' m cap'')).heap.size = w2.heap.size := by simp [World.setCell]
  have hw1 : W0.heap.size ≤ W1.heap.size := by have := b1.size; omega
  refine bodyPost_ret (v := .agg #[.slice a' n cap', .slice a'' m cap'']) (by simp [results, Try.results27, go_sem, r0, r1]) rfl ⟨_, _, rfl, ⟨?_, ?_⟩, ?_⟩
  · rw [hz]
    exact (P4.keep (fun b hb => hk b hb.1)).mono (fun b hb => ⟨by omega, hb.2⟩)
  · rw [hz]
    exact (P3.keep (fun b hb => hk b (by omega))).mono (fun b hb => ⟨by omega, hb.2⟩)
  · exact ((b4.setCell (by simp; omega) _).setCell (by simp) _).setCell (by simp) _

set_option maxRecDepth 100000 in
set_option maxHeartbeats 800000 in
theorem eqKidE (v v' : Value) (xs : List O4) (B : Nat) (w : World) (hv : Sees4 B w v xs) (hv' : Sees4 B w v' xs) (hB : B ≤ w.heap.size) :
    Calls Try.prog 102 #[.agg #[v], .agg #[v']] w fun e w' => e = .returned (.bool true) ∧ Below w.heap.size w w' := by
  obtain ⟨a, cap, rfl⟩ := hv.form
  obtain ⟨a', cap', rfl⟩ := hv'.form
  obtain ⟨n, hn⟩ : ∃ n, xs.length = n := ⟨_, rfl⟩
  rw [hn] at hv hv' ⊢
  have hb0 := (alloc_below w (.cells #[.slice a n cap] 125)).alloc (by simp) (.cells #[.slice a' n cap'] 125)
  have c0 := eqOpsC _ _ xs B _ (hv.on hb0 hB) (hv'.on hb0 hB) (by simp; omega)
  go_enter Try.func102, Try.ntmps102
  go_wp2_with fail
  refine c0.mono ?_
  rintro e w1 ⟨rfl, hb⟩
  go_wp2
  go_ret
  exact ⟨rfl, hb0.trans (hb.mono (by simp; omega))⟩

set_option maxRecDepth 100000 in
set_option maxHeartbeats 1600000 in
theorem eqKidsC (v v' : Value) (kss : List (List O4)) (B : Nat) (w : World) (hv : SeesK B w v kss) (hv' : SeesK B w v' kss) (hB : B ≤ w.heap.size) :
    Calls Try.prog 80 #[v, v'] w fun e w' => e = .returned (.bool true) ∧ Below w.heap.size w w' := by
  have hroom := hv.room
  obtain ⟨a, cap, rfl⟩ := hv.form
  obtain ⟨a', cap', rfl⟩ := hv'.form
  obtain ⟨n, hn⟩ : ∃ n, kss.length = n := ⟨_, rfl⟩
  rw [hn] at hv hv' hroom ⊢
  have hm : (n : Int) ≤ 9223372036854775807 := by unfold maxLen at hroom; omega
  have HV := (show Hid _ from hv)
  have HV' := (show Hid _ from hv')
  clear hv hv' hroom
  obtain ⟨g, hg⟩ : ∃ g, w.heap.size = g := ⟨_, rfl⟩
  rw [hg] at hB ⊢
  go_enter Try.func80, Try.ntmps80
  go_wp2
  go_loopw [5] (fun i wr => ∃ k : Nat, k ≤ n ∧ i = .int .i64 k ∧ Below g w wr) (fun i _ => n - (intOf i).toNat)
  case atStart => exact ⟨0, Nat.zero_le _, rfl, Below.refl _ _⟩
  case round =>
    obtain ⟨k, hk, rfl, hb⟩ := hrel
    by_cases hlt : k < n
    · obtain ⟨b, off, rfl, hbB, hc⟩ := SeesK.open HV.out (by omega)
      obtain ⟨b', off', rfl, hbB', hc'⟩ := SeesK.open HV'.out (by omega)
      obtain ⟨s, p1, p2⟩ := hc k (by omega)
      obtain ⟨s', p1', p2'⟩ := hc' k (by omega)
      have a0 := (hb.cell (p := ⟨b, off + k, none⟩) (by show b < g; omega)).trans p1
      have a1 := (hb.cell (p := ⟨b', off' + k, none⟩) (by show b' < g; omega)).trans p1'
      have hsz := hb.size
      have cT := fun W (h : Below g w W) => eqKidE _ _ _ B W (p2.on h hB) (p2'.on h hB) (by have := h.size; omega)
      have HT := (show Hid _ from cT)
      have HB := (show Hid _ from hb)
      clear hc hc' p1 p1' p2 p2' cT
      go_wp2_with fail
      go_region_with (go_at_call 102; refine (HT.out _ ?_).mono ?_; (first | exact HB.out | exact HB.out.drew | exact HB.out.drew.drew); rintro e w2 ⟨rfl, hb2⟩)
      all_goals
        go_wp2
        go_roundw
        case rel =>
          have hle : g ≤ wr.heap.size := by omega
          refine ⟨k + 1, by omega, by go_num, ?_⟩
          first | exact hb.trans (hb2.mono hle) | exact hb.drew.trans (hb2.mono hle) | exact hb.drew.drew.trans (hb2.mono hle)
        case measure => simp [intOf]; omega
    · obtain rfl : k = n := by omega
      go_wp2
      go_ret
      exact ⟨rfl, hb⟩

set_option maxRecDepth 100000 in
set_option maxHeartbeats 800000 in
theorem eqProgC (vc vk vc' vk' : Value) (xs : List O4) (kss : List (List O4)) (B : Nat) (w : World) (hv : SeesP B w vc vk xs kss) (hv' : SeesP B w vc' vk' xs kss) (hB : B ≤ w.heap.size) :
    Calls Try.prog 30 #[.agg #[vc, vk], .agg #[vc', vk']] w fun e w' => e = .returned (.bool true) ∧ Below w.heap.size w w' := by
  obtain ⟨a, cap, rfl⟩ := hv.c.form
  obtain ⟨a', cap', rfl⟩ := hv'.c.form
  obtain ⟨ak, capk, rfl⟩ := hv.k.form
  obtain ⟨ak', capk', rfl⟩ := hv'.k.form
  obtain ⟨n, hn⟩ : ∃ n, xs.length = n := ⟨_, rfl⟩
  obtain ⟨m, hm⟩ : ∃ m, kss.length = m := ⟨_, rfl⟩
  rw [hn, hm] at hv hv' ⊢
  have hb0 := (alloc_below w (.cells #[.slice a n cap, .slice ak m capk] 49)).alloc (by simp) (.cells #[.slice a' n cap', .slice ak' m capk'] 49)
  have X0 : Blk ((w.alloc (.cells #[.slice a n cap, .slice ak m capk] 49)).alloc (.cells #[.slice a' n cap', .slice ak' m capk'] 49)) w.heap.size #[.slice a n cap, .slice ak m capk] 49 := (Blk.new w _ _).on (alloc_below _ _) (by simp)
  have Y0 : Blk ((w.alloc (.cells #[.slice a n cap, .slice ak m capk] 49)).alloc (.cells #[.slice a' n cap', .slice ak' m capk'] 49)) (w.heap.size + 1) #[.slice a' n cap', .slice ak' m capk'] 49 := by
    have := Blk.new (w.alloc (.cells #[.slice a n cap, .slice ak m capk] 49)) #[.slice a' n cap', .slice ak' m capk'] 49
    simpa using this
  obtain ⟨W0, hW0⟩ : ∃ W0, (w.alloc (.cells #[.slice a n cap, .slice ak m capk] 49)).alloc (.cells #[.slice a' n cap', .slice ak' m capk'] 49) = W0 := ⟨_, rfl⟩
  rw [hW0] at hb0 X0 Y0
  have hs := Y0.lt
  have x0 := X0.cell 0; have y0 := Y0.cell 0
  have c0 := eqOpsC _ _ xs B _ (hv.c.on hb0 hB) (hv'.c.on hb0 hB) (by omega)
  go_enter Try.func30, Try.ntmps30
  go_wp2_with fail
  clear hW0 x0 y0
  refine c0.mono ?_
  rintro e w1 ⟨rfl, b1⟩
  have X1 := X0.on b1 (by omega); have Y1 := Y0.on b1 (by omega)
  have x1 := X1.cell 1; have y1 := Y1.cell 1
  have bb := hb0.trans (b1.mono hb0.size)
  have c1 := eqKidsC _ _ kss B _ (hv.k.on bb hB) (hv'.k.on bb hB) (by have := b1.size; omega)
  go_wp2_with fail
  clear x1 y1
  refine c1.mono ?_
  rintro e w2 ⟨rfl, b2⟩
  go_wp2
  go_ret
  exact ⟨rfl, bb.trans (b2.mono bb.size)⟩

set_option maxRecDepth 100000 in
set_option maxHeartbeats 800000 in
theorem szKidC (a : Option Addr) (n cap : Nat) (left : Int) (w : World) (h0 : 0 ≤ left) (h1 : left ≤ 1048576) (hm : n ≤ maxLen) :
    Calls Try.prog 98 #[.agg #[.slice a n cap], .int .i64 left] w fun e w' => e = .returned (.int .i64 (if (n : Int) ≤ left then left - n else -1)) ∧ Below w.heap.size w w' := by
  have c0 := szOpsC a n cap left (w.alloc (.cells #[.slice a n cap] 129)) h0 h1 hm
  by_cases h : (n : Int) ≤ left
  · rw [if_pos h] at c0 ⊢
    go_enter Try.func98, Try.ntmps98
    go_wp2_with fail
    refine c0.mono ?_
    rintro e w1 ⟨rfl, rfl⟩
    go_wp2
    go_ret
    exact ⟨rfl, alloc_below _ _⟩
  · rw [if_neg h] at c0 ⊢
    go_enter Try.func98, Try.ntmps98
    go_wp2_with fail
    refine c0.mono ?_
    rintro e w1 ⟨rfl, rfl⟩
    go_wp2
    go_ret
    exact ⟨rfl, alloc_below _ _⟩

/-- what a size says: too great, or all lengths are within what was left -/
def Left (left r : Int) (P : Prop) : Prop := r < 0 ∨ (0 ≤ r ∧ r ≤ left ∧ P)
set_option maxRecDepth 100000 in
set_option maxHeartbeats 1600000 in
theorem szKidsC (v : Value) (kss : List (List O4)) (left : Int) (B : Nat) (w : World) (hv : SeesK B w v kss) (hB : B ≤ w.heap.size) (h0 : 0 ≤ left) (h1 : left ≤ 1048576) :
    Calls Try.prog 75 #[v, .int .i64 left] w fun e w' => ∃ r, e = .returned (.int .i64 r) ∧ Left left r ((kss.length : Int) ≤ left ∧ ∀ ks ∈ kss, (ks.length : Int) ≤ left) ∧ Below w.heap.size w w' := by
  have hroom := hv.room
  obtain ⟨a, cap, rfl⟩ := hv.form
  obtain ⟨n, hn⟩ : ∃ n, kss.length = n := ⟨_, rfl⟩
  rw [hn] at hv hroom ⊢
  have hm : (n : Int) ≤ 9223372036854775807 := by unfold maxLen at hroom; omega
  have HV := (show Hid _ from hv)
  clear hv hroom
  obtain ⟨g, hg⟩ : ∃ g, w.heap.size = g := ⟨_, rfl⟩
  rw [hg] at hB ⊢
  by_cases hnl : (n : Int) ≤ left
  · go_enter Try.func75, Try.ntmps75
    go_wp2
    go_loopw [1, 5] (fun l i wr => ∃ (k : Nat) (r : Int), k ≤ n ∧ i = .int .i64 k ∧ l = .int .i64 r ∧ 0 ≤ r ∧ r ≤ left ∧ (∀ j (h : j < kss.length), j < k → (kss[j].length : Int) ≤ left) ∧ Below g w wr) (fun _ i _ => n - (intOf i).toNat)
    case atStart => exact ⟨0, left - n, Nat.zero_le _, rfl, rfl, by omega, by omega, fun j _ h => by omega, Below.refl _ _⟩
    case round =>
      obtain ⟨k, r, hk, rfl, rfl, hr0, hr1, hall, hb⟩ := hrel
      have HA := (show Hid _ from hall)
      clear hall
      by_cases hlt : k < n
      · obtain ⟨b, off, rfl, hbB, hc⟩ := SeesK.open HV.out (by omega)
        obtain ⟨s, p1, p2⟩ := hc k (by omega)
        have a0 := (hb.cell (p := ⟨b, off + k, none⟩) (by show b < g; omega)).trans p1
        have hsz := hb.size
        obtain ⟨sa, scap, hsv⟩ := p2.form
        have hrm := p2.room
        have HK : Hid (kss[k].length = s.n) := by show kss[k].length = s.n; simp only [Value.slice.injEq] at hsv; exact hsv.2.1.symm
        have cT := szKidC s.a s.n s.cap r wr hr0 (by omega) (by rw [← HK.out]; exact hrm)
        clear hc p1 p2 hsv hrm
        by_cases hle : (s.n : Int) ≤ r
        · rw [if_pos hle] at cT
          go_wp2_with fail
          refine cT.mono ?_
          rintro e w2 ⟨rfl, hb2⟩
          go_wp2
          go_roundw
          case rel => exact ⟨k + 1, r - s.n, by omega, by go_num, rfl, by omega, by omega, fun j hj hjk => by
            rcases Nat.lt_succ_iff_lt_or_eq.1 hjk with h | h
            · exact HA.out j hj h
            · subst h; rw [HK.out]; omega, hb.trans (hb2.mono (by omega))⟩
          case measure => simp [intOf]; omega
        · rw [if_neg hle] at cT
          go_wp2_with fail
          refine cT.mono ?_
          rintro e w2 ⟨rfl, hb2⟩
          go_wp2
          go_ret
          exact ⟨_, rfl, .inl (by omega), hb.trans (hb2.mono (by omega))⟩
      · obtain rfl : k = n := by omega
        go_wp2
        go_ret
        exact ⟨_, rfl, .inr ⟨hr0, hr1, hnl, fun ks hks => by
          obtain ⟨j, hj, rfl⟩ := List.mem_iff_getElem.1 hks
          exact HA.out j hj (by omega)⟩, hb⟩
  · have hnl' : left < (n : Int) := by omega
    go_enter Try.func75, Try.ntmps75
    go_wp2
    go_ret
    exact ⟨_, rfl, .inl (by omega), by rw [← hg]; exact Below.refl _ _⟩

set_option maxRecDepth 100000 in
set_option maxHeartbeats 1600000 in
theorem szProgC (vc vk : Value) (xs : List O4) (kss : List (List O4)) (left : Int) (B : Nat) (w : World) (hv : SeesP B w vc vk xs kss) (hB : B ≤ w.heap.size) (h0 : 0 ≤ left) (h1 : left ≤ 1048576) :
    Calls Try.prog 25 #[.agg #[vc, vk], .int .i64 left] w fun e w' => ∃ r, e = .returned (.int .i64 r) ∧ Left left r (Fits xs kss) ∧ Below w.heap.size w w' := by
  have hroom := hv.c.room
  obtain ⟨a, cap, rfl⟩ := hv.c.form
  obtain ⟨ak, capk, rfl⟩ := hv.k.form
  obtain ⟨n, hn⟩ : ∃ n, xs.length = n := ⟨_, rfl⟩
  obtain ⟨m, hm⟩ : ∃ m, kss.length = m := ⟨_, rfl⟩
  rw [hn] at hroom
  rw [hn, hm] at hv ⊢
  have hb0 := alloc_below w (.cells #[.slice a n cap, .slice ak m capk] 61)
  have X0 := Blk.new w #[.slice a n cap, .slice ak m capk] 61
  obtain ⟨W0, hW0⟩ : ∃ W0, w.alloc (.cells #[.slice a n cap, .slice ak m capk] 61) = W0 := ⟨_, rfl⟩
  rw [hW0] at hb0 X0
  have x0 := X0.cell 0; have x1 := X0.cell 1
  have hs := X0.lt
  have c0 := szOpsC a n cap left W0 h0 h1 hroom
  by_cases hle : (n : Int) ≤ left
  · rw [if_pos hle] at c0
    have c1 := szKidsC _ kss (left - n) B W0 (hv.k.on hb0 hB) (by omega) (by omega) (by omega)
    rw [hm] at c1
    go_enter Try.func25, Try.ntmps25
    go_wp2_with fail
    refine c0.mono ?_
    rintro e w1 ⟨rfl, rfl⟩
    go_wp2_with fail
    clear hW0 x0 x1
    refine c1.mono ?_
    rintro e w2 ⟨r, rfl, hr, b2⟩
    by_cases hr0 : r < 0
    · go_wp2
      go_ret
      exact ⟨_, rfl, .inl (by omega), hb0.trans (b2.mono hb0.size)⟩
    · have HF : Hid (Left left r (Fits xs kss)) := by
        rcases hr with hr | ⟨r1, r2, r3, r4⟩
        · exact absurd hr hr0
        · refine .inr ⟨r1, by omega, by omega, by omega, fun ks hks => ?_⟩
          have := r4 ks hks; omega
      clear hr
      go_wp2
      go_ret
      exact ⟨_, rfl, HF.out, hb0.trans (b2.mono hb0.size)⟩
  · rw [if_neg hle] at c0
    go_enter Try.func25, Try.ntmps25
    go_wp2_with fail
    clear hW0 x0 x1
    refine c0.mono ?_
    rintro e w1 ⟨rfl, rfl⟩
    go_wp2
    go_ret
    exact ⟨_, rfl, .inl (by omega), hb0⟩
end Ops
end Go.Proofs.Ytppkohkcffnghaa
