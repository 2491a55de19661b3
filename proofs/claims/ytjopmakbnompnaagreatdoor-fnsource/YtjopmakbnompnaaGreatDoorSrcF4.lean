/- Several texts of one proof, in build order: SourceDraw2, GenDraw, ProgOwn. -/
import Derived.Test.YtjopmakbnompnaaGreatDoorRdPr1
import Derived.Test.YtjopmakbnompnaaGreatDoorRdPr2
import Derived.Test.YtjopmakbnompnaaGreatDoorRdPr3
import Derived.Test.YtjopmakbnompnaaGreatDoorRdPr4
import Derived.Test.YtjopmakbnompnaaGreatDoorSrcF2
import Derived.Test.YtjopmakbnompnaaGreatDoorSrcF3
/- The text of an op is drawn, exactly: spec.DrawReadOp. -/
set_option linter.unusedVariables false
namespace Go.Proofs.YtjopmakbnompnaaGreatDoor
open Go.RowKit
namespace Ops
open Bas Draw
open Num (below belowSt below_range spoil spoilSt spoil_size)
/-- texts that are no ops -/
def noOps : List ByteArray := [⟨#[]⟩, ⟨#[115, 101, 116]⟩, ⟨#[115, 101, 116, 32, 48]⟩, ⟨#[115, 101, 116, 32, 48, 32, 54, 53, 53, 51, 54]⟩, ⟨#[115, 101, 116, 32, 48, 32, 48, 49]⟩, ⟨#[114, 101, 97, 100, 32, 52, 32, 48]⟩, ⟨#[101, 110, 100, 32]⟩, ⟨#[32, 101, 110, 100]⟩, ⟨#[101, 110, 100, 32, 48]⟩, ⟨#[112, 117, 116, 32, 48, 32, 48, 32, 48, 32, 48]⟩, ⟨#[115, 107, 105, 112, 32, 48, 32, 48]⟩, ⟨#[107, 105, 100]⟩]
theorem noOps_small (j : Nat) : (noOps.getD j ByteArray.empty).size ≤ 40 := by
  match j with
  | 0 => decide
  | 1 => decide
  | 2 => decide
  | 3 => decide
  | 4 => decide
  | 5 => decide
  | 6 => decide
  | 7 => decide
  | 8 => decide
  | 9 => decide
  | 10 => decide
  | 11 => decide
  | j + 12 => exact Nat.zero_le _
set_option maxRecDepth 100000 in
set_option maxHeartbeats 1600000 in
/-- what is drawn hangs on the code alone -/
theorem drawReadOpX (l : List UInt8) (hl : l.length ≤ 1048576) : ∃ t : ByteArray, t.size ≤ 100 ∧ ∀ {B : Nat} {v : Value} {w : World}, Draw.Code B w v l → B ≤ w.heap.size →
    Calls Tryz.prog 14 #[v] w fun e w' => e = .returned (.string t) ∧ Below w.heap.size w w' := by
  obtain ⟨s0, hs0⟩ : ∃ s, Num.st0 l = s := ⟨_, rfl⟩
  have hr := below_range l s0 16 (by omega)
  obtain ⟨r1, hr1⟩ : ∃ r, below l s0 16 = r := ⟨_, rfl⟩
  obtain ⟨s1, hs1⟩ : ∃ s, belowSt l s0 16 = s := ⟨_, rfl⟩
  rw [hr1] at hr
  obtain ⟨a, b, c, s2, T⟩ := plainX l s1 (1 + r1) (by omega) (by omega)
  have hL := show_len ⟨1 + r1, a, b, c⟩
  obtain ⟨P, hP⟩ : ∃ P : ByteArray, (⟨(showOp ⟨1 + r1, a, b, c⟩).toArray⟩ : ByteArray) = P := ⟨_, rfl⟩
  have hPs : P.size ≤ 40 := by rw [← hP]; show (showOp _).toArray.size ≤ 40; simpa using hL
  obtain ⟨r3, hr3⟩ : ∃ r, below l s2 6 = r := ⟨_, rfl⟩
  obtain ⟨s3, hs3⟩ : ∃ s, belowSt l s2 6 = s := ⟨_, rfl⟩
  have H : ∃ t : ByteArray, t.size ≤ 100 ∧ t = (if r3 = 0 then spoil l s3 P else if r3 = 1 then noOps.getD (below l s3 (12 : Nat)).toNat ByteArray.empty else P) := by
    refine ⟨_, ?_, rfl⟩
    split
    · have := spoil_size l s3 P; omega
    · split
      · have := noOps_small (below l s3 (12 : Nat)).toNat; omega
      · omega
  obtain ⟨t, ht, e⟩ := H
  refine ⟨t, ht, fun {B v w} hC hB => ?_⟩
  have c0 := newC B v l w hC hB hl
  rw [hs0] at c0
  have HE := (show Hid _ from e)
  have H1 := (show Hid _ from hr1)
  have H2 := (show Hid _ from hs1)
  have H3 := (show Hid _ from hr3)
  have H4 := (show Hid _ from hs3)
  have HP := (show Hid _ from hP)
  clear e hr1 hs1 hr3 hs3 hs0 hP hL ht
  go_enter Tryz.func14, Tryz.ntmps14
  go_wp2_with fail
  refine c0.mono ?_
  rintro e w1 ⟨rfl, C1, G1⟩
  clear c0
  obtain ⟨g, hg⟩ : ∃ g, w.heap.size = g := ⟨_, rfl⟩
  have b1 : Below w.heap.size w w1 := (Below.refl _ _).grown G1 (Nat.le_refl _) (fun k hk => by cases hk)
  rw [hg] at C1 ⊢
  rw [hg] at b1
  have z1 := b1.size
  rw [hg] at z1
  have HG := (show Hid _ from hg)
  clear hg G1
  go_wp2_with fail
  refine (belowC B g v l s0 16 _ C1).mono ?_
  rw [H1.out, H2.out]
  rintro e w2 ⟨rfl, C2, G2⟩
  have b2 := b1.grown G2 z1 (fun k hk => by cases hk; exact Nat.le_refl _)
  clear C1 b1 G2
  go_wp2_with fail
  refine (T C2).mono ?_
  rintro e w3 ⟨rfl, C3, G3⟩
  have z2 : g ≤ w2.heap.size := Nat.le_of_lt C2.lt
  have b3 := b2.grown G3 z2 (fun k hk => by cases hk; exact Nat.le_refl _)
  clear C2 b2 G3 T
  have cS := showOpC ⟨1 + r1, a, b, c⟩ w3
  rw [HP.out] at cS
  go_wp2_with fail
  refine cS.mono ?_
  rintro e w4 ⟨rfl, B4⟩
  clear cS
  have C4 := C3.grown (grown_of_below B4 none) (fun k hk => by cases hk)
  have z3 : g ≤ w3.heap.size := Nat.le_of_lt C3.lt
  have b4 := b3.grown (grown_of_below B4 none) z3 (fun k hk => by cases hk)
  clear C3 b3 B4
  go_wp2_with fail
  refine (belowC B g v l s2 6 _ C4).mono ?_
  rw [H3.out, H4.out]
  rintro e w5 ⟨rfl, C5, G5⟩
  have z4 : g ≤ w4.heap.size := Nat.le_of_lt C4.lt
  have b5 := b4.grown G5 z4 (fun k hk => by cases hk; exact Nat.le_refl _)
  have z5 : g ≤ w5.heap.size := Nat.le_of_lt C5.lt
  clear C4 b4 G5
  by_cases e0 : r3 = 0
  · have HT : Hid (spoil l s3 P = t) := by show _ = _; rw [HE.out, if_pos e0]
    subst e0
    go_wp2_with fail
    refine (spoilC B g v l s3 P (by omega) _ C5).mono ?_
    rw [HT.out]
    rintro e w6 ⟨rfl, C6, G6⟩
    go_wp2
    go_ret
    exact ⟨rfl, by rw [HG.out]; exact b5.grown G6 z5 (fun k hk => by cases hk; exact Nat.le_refl _)⟩
  by_cases e1 : r3 = 1
  · have HT : Hid (noOps.getD (below l s3 (12 : Nat)).toNat ByteArray.empty = t) := by show _ = _; rw [HE.out, if_neg e0, if_pos e1]
    subst e1
    go_wp2_with fail
    refine (pickS C5 noOps 12 rfl (by omega) (by omega) _ rfl).mono ?_
    rw [HT.out]
    rintro e w6 ⟨rfl, C6, G6⟩
    go_wp2
    go_ret
    exact ⟨rfl, by rw [HG.out]; exact b5.grown G6 z5 (fun k hk => by cases hk; exact Nat.le_refl _)⟩
  have HT : Hid (P = t) := by show _ = _; rw [HE.out, if_neg e0, if_neg e1]
  have d0 : (r3 == 0) = false := by simp [e0]
  have d1 : (r3 == 1) = false := by simp [e1]
  rw [HT.out]
  go_wp2
  go_ret
  exact ⟨rfl, by rw [HG.out]; exact b5⟩
end Ops
end Go.Proofs.YtjopmakbnompnaaGreatDoor
/- Some code is drawn: at most so many ops. -/
set_option linter.unusedVariables false
namespace Go.Proofs.YtjopmakbnompnaaGreatDoor
open Go.RowKit
namespace Ops
open Bas Flat Draw

/-- a draw that puts ops behind each other: the cursor, the ops so far -/
structure GSt (B g : Nat) (v : Value) (l : List UInt8) (w W : World) (out : Value) (xs : List O4) : Prop where
  D : Dr B g v l W
  G : w.grownBy W (some g)
  O : Owns4 w.heap.size W out xs
  lt : g < w.heap.size
section
variable {B g : Nat} {v : Value} {l : List UInt8} {w W W' : World} {out : Value} {xs : List O4}
theorem GSt.draw (h : GSt B g v l w W out xs) (D : Dr B g v l W') (G : W.grownBy W' (some g)) : GSt B g v l w W' out xs :=
  have a := h.lt
  { D := D, G := grown_trans h.G G, O := h.O.grown G (fun k hk e => by injection e with e; have := h.O.at k hk; omega), lt := a }
theorem seesOne (W : World) (x : O4) (t : TypeId) : Sees4 (W.heap.size + 1) (W.alloc (.cells #[.int .i64 x.k, .int .i64 x.a, .int .i64 x.b, .int .i64 x.c] t)) (.slice (some ⟨W.heap.size, 0, none⟩) 1 1) [x] :=
  ⟨_, 1, rfl, by simp, by unfold maxLen; omega, fun _ => ⟨W.heap.size, 0, rfl, by omega, fun j hj => by
    have hj0 : j = 0 := by simpa using hj
    subst hj0
    intro i u hu
    have hb : Blk (W.alloc (.cells #[.int .i64 x.k, .int .i64 x.a, .int .i64 x.b, .int .i64 x.c] t)) W.heap.size #[.int .i64 x.k, .int .i64 x.a, .int .i64 x.b, .int .i64 x.c] t := Blk.new W _ _
    simp only [Nat.zero_mul, Nat.zero_add]
    rw [hb.cell]
    change [Value.int .i64 x.k, .int .i64 x.a, .int .i64 x.b, .int .i64 x.c][i]? = some u at hu
    simpa using hu⟩⟩
/-- append(out, ys...) -/
theorem GSt.cat (h : GSt B g v l w W out xs) (u : Value) (ys : List O4) (B' : Nat) (hu : Sees4 B' W u ys) (hlen : xs.length + ys.length ≤ 1048576) :
    ∃ out' W', (Builtin.append_ #[24, 24] 24 #[out, u]).run Tryz.prog W = .ok out' W' ∧ GSt B g v l w W' out' (xs ++ ys) ∧ W.grownBy W' out.ownBlock := by
  have hlt := h.lt
  have hsz := h.G.size
  obtain ⟨out', W', hr, hO, hG, -⟩ := app rowOp out u 24 xs ys B' w.heap.size W h.O hsz hu (by omega)
  refine ⟨out', W', hr, { D := h.D.grown hG (fun k hk => by have := h.O.at k hk; omega), G := ?_, O := hO, lt := hlt }, hG⟩
  exact ⟨hG.os.trans h.G.os, hG.tape.trans h.G.tape, hG.output.trans h.G.output, Nat.le_trans hsz hG.size, fun i hi hne => (hG.block i (by omega) (fun e => by have := h.O.at i e.symm; omega)).trans (h.G.block i hi hne)⟩
theorem GSt.new (h : GSt B g v l w W out xs) (o : Obj) : GSt B g v l w (W.alloc o) out xs :=
  { D := h.D.alloc o, G := grown_new h.G o, O := h.O.on (alloc_below W o) (Nat.le_refl _), lt := h.lt }
theorem grown_of_alloc {o : Obj} {row : Option Nat} (h : (W.alloc o).grownBy W' row) : W.grownBy W' row :=
  ⟨h.os, h.tape, h.output, Nat.le_trans (by simp) h.size, fun k hk hne => (h.block k (by simp; omega) hne).trans (Below.heap_alloc W o k hk)⟩
/-- append(out, x) -/
theorem GSt.push (h : GSt B g v l w W out xs) (x : O4) (hlen : xs.length ≤ 1000000) :
    ∃ out' W', (Builtin.append_ #[24, 24] 24 #[out, .slice (some ⟨W.heap.size, 0, none⟩) 1 1]).run Tryz.prog (W.alloc (.cells #[.int .i64 x.k, .int .i64 x.a, .int .i64 x.b, .int .i64 x.c] 36)) = .ok out' W' ∧ GSt B g v l w W' out' (xs ++ [x]) ∧ W.grownBy W' out.ownBlock := by
  obtain ⟨out', W', hr, h', hG⟩ := (h.new (.cells #[.int .i64 x.k, .int .i64 x.a, .int .i64 x.b, .int .i64 x.c] 36)).cat _ [x] _ (seesOne W x _) (by simp; omega)
  exact ⟨out', W', hr, h', grown_of_alloc hG⟩
end

def GenPost (m : Nat) (B g : Nat) (v : Value) (l : List UInt8) (w : World) (e : Ending) (w' : World) : Prop := ∃ v' xs, e = .returned v' ∧ Owns4 w.heap.size w' v' xs ∧ xs.length ≤ m ∧ Dr B g v l w' ∧ w.grownBy w' (some g)
/-- what l5Gen answers -/
def Gen (m d : Nat) (kid : Bool) : Prop := ∀ (B g : Nat) (v : Value) (l : List UInt8) (w : World), Dr B g v l w →
  Calls Tryz.prog 61 #[.pointer (some ⟨g, 0, none⟩), .int .i64 m, .int .i64 d, .bool kid] w (GenPost m B g v l w)

set_option maxRecDepth 100000 in
set_option maxHeartbeats 8000000 in
theorem genStep (m d : Nat) (kid : Bool) (hm : 1 ≤ m) (hm1 : m ≤ 1000) (hd1 : d ≤ 10) (h13 : 3 ≤ m → Gen 2 0 kid) (h12 : 0 < d → ∀ k, 1 ≤ k → k + 3 ≤ m → Gen k (d - 1) kid) : Gen m d kid := by
  intro B g v l w hD
  have H13 := (show Hid _ from h13)
  have H12 := (show Hid _ from h12)
  clear h13 h12
  have P0 : GSt B g v l w (w.alloc (.cells #[] 36)) (.slice (some ⟨w.heap.size, 0, none⟩) 0 0) [] :=
    { D := hD.alloc _, G := World.grownBy_alloc w _ _, O := World.ownsRow_lit w #[] 0 (Nat.le_refl _) (by simp [maxLen]) rfl, lt := hD.lt }
  have i0 : (0 : Int) < m := by omega
  go_enter Tryz.func61, Tryz.ntmps61
  go_wp2_with fail
  refine (belowE P0.D m i0).mono ?_
  rintro e w1 ⟨r, rfl, r0, r1, D, G⟩
  have P := P0.draw D G
  clear D G P0 hD
  go_wp2
  go_loopw [9, 10] (fun ov nv wr => ∃ (a : Option Addr) (cap : Nat) (xs : List O4) (n : Int), ov = .slice a xs.length cap ∧ nv = .int .i64 n ∧ n ≤ 1000 ∧ xs.length ≤ m ∧ GSt B g v l w wr (.slice a xs.length cap) xs) (fun _ nv _ => (intOf nv).toNat)
  case atStart => exact ⟨some ⟨w.heap.size, 0, none⟩, 0, [], 1 + r, rfl, rfl, by omega, by simp, P⟩
  case round =>
    obtain ⟨a, cap, xs, n, rfl, rfl, hn, hx, P⟩ := hrel
    obtain ⟨q, hq⟩ : ∃ q, xs.length = q := ⟨_, rfl⟩
    rw [hq] at hx P ⊢
    by_cases hgo : 0 < n ∧ q < m
    · obtain ⟨g1, g2⟩ := hgo
      have g2' : (q : Int) < m := by omega
      go_wp2_with fail
      refine (belowE P.D 20 (by omega)).mono ?_
      rintro e w2 ⟨k, rfl, k0, k1, D, G⟩
      have P := P.draw D G
      clear D G
      by_cases k5 : k < 5
      · go_wp2_with fail
        refine (plainE P.D 5 (by omega) (by omega)).mono ?_
        rintro e w3 ⟨xa, xb, xc, rfl, D, G⟩
        have P := P.draw D G
        clear D G
        have eV : opV (5) xa xb xc = .agg #[.int .i64 (5), .int .i64 xa, .int .i64 xb, .int .i64 xc] := rfl
        rw [eV]
        clear eV
        obtain ⟨o3, W3, hr, P, -⟩ := P.push ⟨5, xa, xb, xc⟩ (by omega)
        obtain ⟨a3, cap3, rfl⟩ := P.O.form
        have hl3 : (xs ++ [(⟨5, xa, xb, xc⟩ : O4)]).length = q + 1 := by simp [hq]
        go_wp2_with (at_builtin; refine wpList_app _ rfl _ _ 24 rfl _ _ _ _ rfl rfl hr ?_)
        clear hr
        go_roundw
        case rel => exact ⟨a3, cap3, _, n - 1, by rw [hl3], by go_num, by omega, by rw [hl3]; omega, by rw [hl3]; rw [hl3] at P; exact P⟩
        case measure => simp [intOf]; omega
      by_cases k10 : k < 10
      · go_wp2_with fail
        refine (plainE P.D 6 (by omega) (by omega)).mono ?_
        rintro e w3 ⟨xa, xb, xc, rfl, D, G⟩
        have P := P.draw D G
        clear D G
        have eV : opV (6) xa xb xc = .agg #[.int .i64 (6), .int .i64 xa, .int .i64 xb, .int .i64 xc] := rfl
        rw [eV]
        clear eV
        obtain ⟨o3, W3, hr, P, -⟩ := P.push ⟨6, xa, xb, xc⟩ (by omega)
        obtain ⟨a3, cap3, rfl⟩ := P.O.form
        have hl3 : (xs ++ [(⟨6, xa, xb, xc⟩ : O4)]).length = q + 1 := by simp [hq]
        go_wp2_with (at_builtin; refine wpList_app _ rfl _ _ 24 rfl _ _ _ _ rfl rfl hr ?_)
        clear hr
        go_roundw
        case rel => exact ⟨a3, cap3, _, n - 1, by rw [hl3], by go_num, by omega, by rw [hl3]; omega, by rw [hl3]; rw [hl3] at P; exact P⟩
        case measure => simp [intOf]; omega
      by_cases k12 : k < 12
      · go_wp2_with fail
        refine (belowE P.D 4 (by omega)).mono ?_
        rintro e w3 ⟨y, rfl, y0, y1, D, G⟩
        have P := P.draw D G
        clear D G
        go_wp2_with fail
        refine (plainE P.D (1 + y) (by omega) (by omega)).mono ?_
        rintro e w4 ⟨xa, xb, xc, rfl, D, G⟩
        have P := P.draw D G
        clear D G
        have eV : opV (1 + y) xa xb xc = .agg #[.int .i64 (1 + y), .int .i64 xa, .int .i64 xb, .int .i64 xc] := rfl
        rw [eV]
        clear eV
        obtain ⟨o3, W3, hr, P, -⟩ := P.push ⟨1 + y, xa, xb, xc⟩ (by omega)
        obtain ⟨a3, cap3, rfl⟩ := P.O.form
        have hl3 : (xs ++ [(⟨1 + y, xa, xb, xc⟩ : O4)]).length = q + 1 := by simp [hq]
        go_wp2_with (at_builtin; refine wpList_app _ rfl _ _ 24 rfl _ _ _ _ rfl rfl hr ?_)
        clear hr
        go_roundw
        case rel => exact ⟨a3, cap3, _, n - 1, by rw [hl3], by go_num, by omega, by rw [hl3]; omega, by rw [hl3]; rw [hl3] at P; exact P⟩
        case measure => simp [intOf]; omega
      rcases (show k = 12 ∨ k = 13 ∨ k = 14 ∨ 15 ≤ k by omega) with rfl | rfl | rfl | k15
      · by_cases hc : 0 < d ∧ q + 4 ≤ m
        · obtain ⟨c1, c2⟩ := hc
          have d1 : (0 : Int) < d := by omega
          have d2 : (4 : Int) ≤ (m : Int) - q := by omega
          obtain ⟨mm, hmm⟩ : ∃ mm : Nat, m = q + 3 + mm := ⟨m - q - 3, by omega⟩
          have E1 : Hid ((m : Int) - q - 3 = (mm : Int)) := by show _ = _; omega
          have E2 : Hid ((d : Int) - 1 = ((d - 1 : Nat) : Int)) := by show _ = _; omega
          have hm2 : q + 3 + mm ≤ m := by omega
          have hm3 : m ≤ q + 3 + mm := by omega
          clear hmm
          go_wp2_with fail
          rw [E1.out, E2.out]
          have hw2 : w.heap.size ≤ w2.heap.size := P.G.size
          have hob : ∀ k, (Value.slice a q cap).ownBlock = some k → k < w2.heap.size := fun k hk => (P.O.at k hk).2
          refine (H12.out (by omega) mm (by omega) (by omega) B g v l w2 P.D).mono ?_
          rintro e w3 ⟨iv, ys, rfl, I, hy, D, G⟩
          obtain ⟨ia, icap, rfl⟩ := I.form
          obtain ⟨t, ht⟩ : ∃ t, ys.length = t := ⟨_, rfl⟩
          rw [ht] at I hy ⊢
          have P := P.draw D G
          clear D G
          go_wp2_with fail
          refine (plainE P.D 8 (by omega) (by omega)).mono ?_
          rintro e w4 ⟨xa, xb, xc, rfl, D, G⟩
          have I := I.grown G (fun k hk e => by injection e with e; have := I.at k hk; have := P.lt; omega)
          have P := P.draw D G
          clear D G
          have eV : opV 8 xa xb xc = .agg #[.int .i64 8, .int .i64 xa, .int .i64 xb, .int .i64 xc] := rfl
          rw [eV]
          clear eV
          obtain ⟨o5, W5, hr5, P5, G5⟩ := P.push ⟨8, xa, xb, xc⟩ (by omega)
          have I5 := I.grown G5 (fun k hk e => by have := hob k e.symm; have := I.at k hk; omega)
          obtain ⟨a5, cap5, rfl⟩ := P5.O.form
          have hl5 : (xs ++ [(⟨8, xa, xb, xc⟩ : O4)]).length = q + 1 := by simp [hq]
          rw [hl5] at P5 hr5
          obtain ⟨zs, hzs⟩ : ∃ zs, xs ++ [(⟨8, xa, xb, xc⟩ : O4)] = zs := ⟨_, rfl⟩
          rw [hzs] at P5 hl5
          obtain ⟨o6, W6, hr6, P6, G6⟩ := P5.cat (.slice ia t icap) ys W5.heap.size I5.sees (by omega)
          obtain ⟨a6, cap6, rfl⟩ := P6.O.form
          have hl6 : (zs ++ ys).length = q + 1 + t := by simp [hl5, ht]
          rw [hl6] at P6 hr6
          obtain ⟨us, hus⟩ : ∃ us, zs ++ ys = us := ⟨_, rfl⟩
          rw [hus] at P6 hl6
          clear hus hzs I I5 P P5 G5 G6 hob
          go_wp2_with (at_builtin; first | (refine wpList_app _ rfl _ _ 24 rfl _ _ _ _ rfl rfl hr5 ?_; clear hr5) | (refine wpList_app _ rfl _ _ 24 rfl _ _ _ _ rfl rfl hr6 ?_; clear hr6))
          refine (onceE P6.D 3).mono ?_
          rintro e w7 ⟨z, rfl, D, G⟩
          have P7 := P6.draw D G
          clear D G P6
          cases z
          · obtain ⟨o9, W9, hr9, P9, -⟩ := P7.push ⟨9, 0, 0, 0⟩ (by omega)
            obtain ⟨a9, cap9, rfl⟩ := P9.O.form
            have hl9 : (us ++ [(⟨9, 0, 0, 0⟩ : O4)]).length = q + 1 + t + 1 := by simp [hl6]
            go_wp2_with (at_builtin; refine wpList_app _ rfl _ _ 24 rfl _ _ _ _ rfl rfl hr9 ?_)
            clear hr9
            go_roundw
            case rel => exact ⟨a9, cap9, _, n - 1, by rw [hl9], by go_num, by omega, by rw [hl9]; omega, by rw [hl9]; rw [hl9] at P9; exact P9⟩
            case measure => simp [intOf]; omega
          · obtain ⟨o8, W8, hr8, P8, -⟩ := P7.push ⟨10, 0, 0, 0⟩ (by omega)
            obtain ⟨a8, cap8, rfl⟩ := P8.O.form
            have hl8 : (us ++ [(⟨10, 0, 0, 0⟩ : O4)]).length = q + 1 + t + 1 := by simp [hl6]
            rw [hl8] at P8 hr8
            obtain ⟨ts, hts⟩ : ∃ ts, us ++ [(⟨10, 0, 0, 0⟩ : O4)] = ts := ⟨_, rfl⟩
            rw [hts] at P8 hl8
            clear hts
            obtain ⟨o9, W9, hr9, P9, -⟩ := P8.push ⟨9, 0, 0, 0⟩ (by omega)
            obtain ⟨a9, cap9, rfl⟩ := P9.O.form
            have hl9 : (ts ++ [(⟨9, 0, 0, 0⟩ : O4)]).length = q + 1 + t + 1 + 1 := by simp [hl8]
            go_wp2_with (at_builtin; first | (refine wpList_app _ rfl _ _ 24 rfl _ _ _ _ rfl rfl hr8 ?_; clear hr8) | (refine wpList_app _ rfl _ _ 24 rfl _ _ _ _ rfl rfl hr9 ?_; clear hr9))
            go_roundw
            case rel => exact ⟨a9, cap9, _, n - 1, by rw [hl9], by go_num, by omega, by rw [hl9]; omega, by rw [hl9]; rw [hl9] at P9; exact P9⟩
            case measure => simp [intOf]; omega
        · by_cases c1 : 0 < d
          · have d1 : (0 : Int) < d := by omega
            have d2 : ¬ (4 : Int) ≤ (m : Int) - q := by omega
            have d2' : decide ((4 : Int) ≤ (m : Int) - q) = false := decide_eq_false d2
            cases kid
            · go_wp2_with fail
              refine (belowE P.D 5 (by omega)).mono ?_
              rintro e w3 ⟨y, rfl, y0, y1, D, G⟩
              have P := P.draw D G
              clear D G
              go_wp2_with fail
              refine (plainE P.D (12 + y) (by omega) (by omega)).mono ?_
              rintro e w4 ⟨xa, xb, xc, rfl, D, G⟩
              have P := P.draw D G
              clear D G
              have eV : opV (12 + y) xa xb xc = .agg #[.int .i64 (12 + y), .int .i64 xa, .int .i64 xb, .int .i64 xc] := rfl
              rw [eV]
              clear eV
              obtain ⟨o3, W3, hr, P, -⟩ := P.push ⟨12 + y, xa, xb, xc⟩ (by omega)
              obtain ⟨a3, cap3, rfl⟩ := P.O.form
              have hl3 : (xs ++ [(⟨12 + y, xa, xb, xc⟩ : O4)]).length = q + 1 := by simp [hq]
              go_wp2_with (at_builtin; refine wpList_app _ rfl _ _ 24 rfl _ _ _ _ rfl rfl hr ?_)
              clear hr
              go_roundw
              case rel => exact ⟨a3, cap3, _, n - 1, by rw [hl3], by go_num, by omega, by rw [hl3]; omega, by rw [hl3]; rw [hl3] at P; exact P⟩
              case measure => simp [intOf]; omega
            · go_wp2_with fail
              refine (belowE P.D 3 (by omega)).mono ?_
              rintro e w3 ⟨y, rfl, y0, y1, D, G⟩
              have P := P.draw D G
              clear D G
              go_wp2_with fail
              refine (plainE P.D (1 + y) (by omega) (by omega)).mono ?_
              rintro e w4 ⟨xa, xb, xc, rfl, D, G⟩
              have P := P.draw D G
              clear D G
              have eV : opV (1 + y) xa xb xc = .agg #[.int .i64 (1 + y), .int .i64 xa, .int .i64 xb, .int .i64 xc] := rfl
              rw [eV]
              clear eV
              obtain ⟨o3, W3, hr, P, -⟩ := P.push ⟨1 + y, xa, xb, xc⟩ (by omega)
              obtain ⟨a3, cap3, rfl⟩ := P.O.form
              have hl3 : (xs ++ [(⟨1 + y, xa, xb, xc⟩ : O4)]).length = q + 1 := by simp [hq]
              go_wp2_with (at_builtin; refine wpList_app _ rfl _ _ 24 rfl _ _ _ _ rfl rfl hr ?_)
              clear hr
              go_roundw
              case rel => exact ⟨a3, cap3, _, n - 1, by rw [hl3], by go_num, by omega, by rw [hl3]; omega, by rw [hl3]; rw [hl3] at P; exact P⟩
              case measure => simp [intOf]; omega
          · have d1 : ¬ (0 : Int) < d := by omega
            have d1' : decide ((0 : Int) < d) = false := decide_eq_false d1
            cases kid
            · go_wp2_with fail
              refine (belowE P.D 5 (by omega)).mono ?_
              rintro e w3 ⟨y, rfl, y0, y1, D, G⟩
              have P := P.draw D G
              clear D G
              go_wp2_with fail
              refine (plainE P.D (12 + y) (by omega) (by omega)).mono ?_
              rintro e w4 ⟨xa, xb, xc, rfl, D, G⟩
              have P := P.draw D G
              clear D G
              have eV : opV (12 + y) xa xb xc = .agg #[.int .i64 (12 + y), .int .i64 xa, .int .i64 xb, .int .i64 xc] := rfl
              rw [eV]
              clear eV
              obtain ⟨o3, W3, hr, P, -⟩ := P.push ⟨12 + y, xa, xb, xc⟩ (by omega)
              obtain ⟨a3, cap3, rfl⟩ := P.O.form
              have hl3 : (xs ++ [(⟨12 + y, xa, xb, xc⟩ : O4)]).length = q + 1 := by simp [hq]
              go_wp2_with (at_builtin; refine wpList_app _ rfl _ _ 24 rfl _ _ _ _ rfl rfl hr ?_)
              clear hr
              go_roundw
              case rel => exact ⟨a3, cap3, _, n - 1, by rw [hl3], by go_num, by omega, by rw [hl3]; omega, by rw [hl3]; rw [hl3] at P; exact P⟩
              case measure => simp [intOf]; omega
            · go_wp2_with fail
              refine (belowE P.D 3 (by omega)).mono ?_
              rintro e w3 ⟨y, rfl, y0, y1, D, G⟩
              have P := P.draw D G
              clear D G
              go_wp2_with fail
              refine (plainE P.D (1 + y) (by omega) (by omega)).mono ?_
              rintro e w4 ⟨xa, xb, xc, rfl, D, G⟩
              have P := P.draw D G
              clear D G
              have eV : opV (1 + y) xa xb xc = .agg #[.int .i64 (1 + y), .int .i64 xa, .int .i64 xb, .int .i64 xc] := rfl
              rw [eV]
              clear eV
              obtain ⟨o3, W3, hr, P, -⟩ := P.push ⟨1 + y, xa, xb, xc⟩ (by omega)
              obtain ⟨a3, cap3, rfl⟩ := P.O.form
              have hl3 : (xs ++ [(⟨1 + y, xa, xb, xc⟩ : O4)]).length = q + 1 := by simp [hq]
              go_wp2_with (at_builtin; refine wpList_app _ rfl _ _ 24 rfl _ _ _ _ rfl rfl hr ?_)
              clear hr
              go_roundw
              case rel => exact ⟨a3, cap3, _, n - 1, by rw [hl3], by go_num, by omega, by rw [hl3]; omega, by rw [hl3]; rw [hl3] at P; exact P⟩
              case measure => simp [intOf]; omega
      · by_cases c3 : q + 3 ≤ m
        · have d2 : (3 : Int) ≤ (m : Int) - q := by omega
          go_wp2_with fail
          have hw2 : w.heap.size ≤ w2.heap.size := P.G.size
          have hob : ∀ k, (Value.slice a q cap).ownBlock = some k → k < w2.heap.size := fun k hk => (P.O.at k hk).2
          refine (H13.out (by omega) B g v l w2 P.D).mono ?_
          rintro e w3 ⟨iv, ys, rfl, I, hy, D, G⟩
          obtain ⟨ia, icap, rfl⟩ := I.form
          obtain ⟨t, ht⟩ : ∃ t, ys.length = t := ⟨_, rfl⟩
          rw [ht] at I hy ⊢
          have P := P.draw D G
          clear D G
          go_wp2_with fail
          refine (plainE P.D 7 (by omega) (by omega)).mono ?_
          rintro e w4 ⟨xa, xb, xc, rfl, D, G⟩
          have I := I.grown G (fun k hk e => by injection e with e; have := I.at k hk; have := P.lt; omega)
          have P := P.draw D G
          clear D G
          have eV : opV 7 xa xb xc = .agg #[.int .i64 7, .int .i64 xa, .int .i64 xb, .int .i64 xc] := rfl
          rw [eV]
          clear eV
          have I4 := I.on (alloc_below w4 (.cells #[.int .i64 7, .int .i64 xa, .int .i64 (t : Int), .int .i64 xc] 36)) (Nat.le_refl _)
          have P4 := P.new (.cells #[.int .i64 7, .int .i64 xa, .int .i64 (t : Int), .int .i64 xc] 36)
          obtain ⟨o5, W5, hr5, P5, G5⟩ := P4.push ⟨7, xa, t, xc⟩ (by omega)
          have hz4 : (w4.alloc (.cells #[.int .i64 7, .int .i64 xa, .int .i64 (t : Int), .int .i64 xc] 36)).heap.size = w4.heap.size + 1 := by simp
          rw [hz4] at hr5
          clear hz4
          have I5 := I4.grown G5 (fun k hk e => by have := hob k e.symm; have := I4.at k hk; omega)
          obtain ⟨a5, cap5, rfl⟩ := P5.O.form
          have hl5 : (xs ++ [(⟨7, xa, t, xc⟩ : O4)]).length = q + 1 := by simp [hq]
          rw [hl5] at P5 hr5
          obtain ⟨zs, hzs⟩ : ∃ zs, xs ++ [(⟨7, xa, t, xc⟩ : O4)] = zs := ⟨_, rfl⟩
          rw [hzs] at P5 hl5
          obtain ⟨o6, W6, hr6, P6, G6⟩ := P5.cat (.slice ia t icap) ys W5.heap.size I5.sees (by omega)
          obtain ⟨a6, cap6, rfl⟩ := P6.O.form
          have hl6 : (zs ++ ys).length = q + 1 + t := by simp [hl5, ht]
          rw [hl6] at hr6
          clear hzs I I4 I5 P P4 P5 G5 G6 hob
          go_wp2_with (at_builtin; first | (refine wpList_app _ rfl _ _ 24 rfl _ _ _ _ rfl rfl hr5 ?_; clear hr5) | (refine wpList_app _ rfl _ _ 24 rfl _ _ _ _ rfl rfl hr6 ?_; clear hr6))
          go_roundw
          case rel => exact ⟨a6, cap6, _, n - 1, by rw [hl6], by go_num, by omega, by rw [hl6]; omega, P6⟩
          case measure => simp [intOf]; omega
        · have d2 : ¬ (3 : Int) ≤ (m : Int) - q := by omega
          have d2' : decide ((3 : Int) ≤ (m : Int) - q) = false := decide_eq_false d2
          cases kid
          · go_wp2_with fail
            refine (belowE P.D 5 (by omega)).mono ?_
            rintro e w3 ⟨y, rfl, y0, y1, D, G⟩
            have P := P.draw D G
            clear D G
            go_wp2_with fail
            refine (plainE P.D (12 + y) (by omega) (by omega)).mono ?_
            rintro e w4 ⟨xa, xb, xc, rfl, D, G⟩
            have P := P.draw D G
            clear D G
            have eV : opV (12 + y) xa xb xc = .agg #[.int .i64 (12 + y), .int .i64 xa, .int .i64 xb, .int .i64 xc] := rfl
            rw [eV]
            clear eV
            obtain ⟨o3, W3, hr, P, -⟩ := P.push ⟨12 + y, xa, xb, xc⟩ (by omega)
            obtain ⟨a3, cap3, rfl⟩ := P.O.form
            have hl3 : (xs ++ [(⟨12 + y, xa, xb, xc⟩ : O4)]).length = q + 1 := by simp [hq]
            go_wp2_with (at_builtin; refine wpList_app _ rfl _ _ 24 rfl _ _ _ _ rfl rfl hr ?_)
            clear hr
            go_roundw
            case rel => exact ⟨a3, cap3, _, n - 1, by rw [hl3], by go_num, by omega, by rw [hl3]; omega, by rw [hl3]; rw [hl3] at P; exact P⟩
            case measure => simp [intOf]; omega
          · go_wp2_with fail
            refine (belowE P.D 3 (by omega)).mono ?_
            rintro e w3 ⟨y, rfl, y0, y1, D, G⟩
            have P := P.draw D G
            clear D G
            go_wp2_with fail
            refine (plainE P.D (1 + y) (by omega) (by omega)).mono ?_
            rintro e w4 ⟨xa, xb, xc, rfl, D, G⟩
            have P := P.draw D G
            clear D G
            have eV : opV (1 + y) xa xb xc = .agg #[.int .i64 (1 + y), .int .i64 xa, .int .i64 xb, .int .i64 xc] := rfl
            rw [eV]
            clear eV
            obtain ⟨o3, W3, hr, P, -⟩ := P.push ⟨1 + y, xa, xb, xc⟩ (by omega)
            obtain ⟨a3, cap3, rfl⟩ := P.O.form
            have hl3 : (xs ++ [(⟨1 + y, xa, xb, xc⟩ : O4)]).length = q + 1 := by simp [hq]
            go_wp2_with (at_builtin; refine wpList_app _ rfl _ _ 24 rfl _ _ _ _ rfl rfl hr ?_)
            clear hr
            go_roundw
            case rel => exact ⟨a3, cap3, _, n - 1, by rw [hl3], by go_num, by omega, by rw [hl3]; omega, by rw [hl3]; rw [hl3] at P; exact P⟩
            case measure => simp [intOf]; omega
      · go_wp2_with fail
        refine (onceE P.D 6).mono ?_
        rintro e w3 ⟨z, rfl, D, G⟩
        have P := P.draw D G
        clear D G
        cases z
        · cases kid
          · go_wp2_with fail
            refine (belowE P.D 5 (by omega)).mono ?_
            rintro e w3 ⟨y, rfl, y0, y1, D, G⟩
            have P := P.draw D G
            clear D G
            go_wp2_with fail
            refine (plainE P.D (12 + y) (by omega) (by omega)).mono ?_
            rintro e w4 ⟨xa, xb, xc, rfl, D, G⟩
            have P := P.draw D G
            clear D G
            have eV : opV (12 + y) xa xb xc = .agg #[.int .i64 (12 + y), .int .i64 xa, .int .i64 xb, .int .i64 xc] := rfl
            rw [eV]
            clear eV
            obtain ⟨o3, W3, hr, P, -⟩ := P.push ⟨12 + y, xa, xb, xc⟩ (by omega)
            obtain ⟨a3, cap3, rfl⟩ := P.O.form
            have hl3 : (xs ++ [(⟨12 + y, xa, xb, xc⟩ : O4)]).length = q + 1 := by simp [hq]
            go_wp2_with (at_builtin; refine wpList_app _ rfl _ _ 24 rfl _ _ _ _ rfl rfl hr ?_)
            clear hr
            go_roundw
            case rel => exact ⟨a3, cap3, _, n - 1, by rw [hl3], by go_num, by omega, by rw [hl3]; omega, by rw [hl3]; rw [hl3] at P; exact P⟩
            case measure => simp [intOf]; omega
          · go_wp2_with fail
            refine (belowE P.D 3 (by omega)).mono ?_
            rintro e w3 ⟨y, rfl, y0, y1, D, G⟩
            have P := P.draw D G
            clear D G
            go_wp2_with fail
            refine (plainE P.D (1 + y) (by omega) (by omega)).mono ?_
            rintro e w4 ⟨xa, xb, xc, rfl, D, G⟩
            have P := P.draw D G
            clear D G
            have eV : opV (1 + y) xa xb xc = .agg #[.int .i64 (1 + y), .int .i64 xa, .int .i64 xb, .int .i64 xc] := rfl
            rw [eV]
            clear eV
            obtain ⟨o3, W3, hr, P, -⟩ := P.push ⟨1 + y, xa, xb, xc⟩ (by omega)
            obtain ⟨a3, cap3, rfl⟩ := P.O.form
            have hl3 : (xs ++ [(⟨1 + y, xa, xb, xc⟩ : O4)]).length = q + 1 := by simp [hq]
            go_wp2_with (at_builtin; refine wpList_app _ rfl _ _ 24 rfl _ _ _ _ rfl rfl hr ?_)
            clear hr
            go_roundw
            case rel => exact ⟨a3, cap3, _, n - 1, by rw [hl3], by go_num, by omega, by rw [hl3]; omega, by rw [hl3]; rw [hl3] at P; exact P⟩
            case measure => simp [intOf]; omega
        · obtain ⟨o3, W3, hr, P, -⟩ := P.push ⟨10, 0, 0, 0⟩ (by omega)
          obtain ⟨a3, cap3, rfl⟩ := P.O.form
          have hl3 : (xs ++ [(⟨10, 0, 0, 0⟩ : O4)]).length = q + 1 := by simp [hq]
          go_wp2_with (at_builtin; refine wpList_app _ rfl _ _ 24 rfl _ _ _ _ rfl rfl hr ?_)
          clear hr
          go_roundw
          case rel => exact ⟨a3, cap3, _, n - 1, by rw [hl3], by go_num, by omega, by rw [hl3]; omega, by rw [hl3]; rw [hl3] at P; exact P⟩
          case measure => simp [intOf]; omega
      · have d12 : (k == 12) = false := by simp; omega
        have d13 : (k == 13) = false := by simp; omega
        have d14 : (k == 14) = false := by simp; omega
        cases kid
        · go_wp2_with fail
          refine (belowE P.D 5 (by omega)).mono ?_
          rintro e w3 ⟨y, rfl, y0, y1, D, G⟩
          have P := P.draw D G
          clear D G
          go_wp2_with fail
          refine (plainE P.D (12 + y) (by omega) (by omega)).mono ?_
          rintro e w4 ⟨xa, xb, xc, rfl, D, G⟩
          have P := P.draw D G
          clear D G
          have eV : opV (12 + y) xa xb xc = .agg #[.int .i64 (12 + y), .int .i64 xa, .int .i64 xb, .int .i64 xc] := rfl
          rw [eV]
          clear eV
          obtain ⟨o3, W3, hr, P, -⟩ := P.push ⟨12 + y, xa, xb, xc⟩ (by omega)
          obtain ⟨a3, cap3, rfl⟩ := P.O.form
          have hl3 : (xs ++ [(⟨12 + y, xa, xb, xc⟩ : O4)]).length = q + 1 := by simp [hq]
          go_wp2_with (at_builtin; refine wpList_app _ rfl _ _ 24 rfl _ _ _ _ rfl rfl hr ?_)
          clear hr
          go_roundw
          case rel => exact ⟨a3, cap3, _, n - 1, by rw [hl3], by go_num, by omega, by rw [hl3]; omega, by rw [hl3]; rw [hl3] at P; exact P⟩
          case measure => simp [intOf]; omega
        · go_wp2_with fail
          refine (belowE P.D 3 (by omega)).mono ?_
          rintro e w3 ⟨y, rfl, y0, y1, D, G⟩
          have P := P.draw D G
          clear D G
          go_wp2_with fail
          refine (plainE P.D (1 + y) (by omega) (by omega)).mono ?_
          rintro e w4 ⟨xa, xb, xc, rfl, D, G⟩
          have P := P.draw D G
          clear D G
          have eV : opV (1 + y) xa xb xc = .agg #[.int .i64 (1 + y), .int .i64 xa, .int .i64 xb, .int .i64 xc] := rfl
          rw [eV]
          clear eV
          obtain ⟨o3, W3, hr, P, -⟩ := P.push ⟨1 + y, xa, xb, xc⟩ (by omega)
          obtain ⟨a3, cap3, rfl⟩ := P.O.form
          have hl3 : (xs ++ [(⟨1 + y, xa, xb, xc⟩ : O4)]).length = q + 1 := by simp [hq]
          go_wp2_with (at_builtin; refine wpList_app _ rfl _ _ 24 rfl _ _ _ _ rfl rfl hr ?_)
          clear hr
          go_roundw
          case rel => exact ⟨a3, cap3, _, n - 1, by rw [hl3], by go_num, by omega, by rw [hl3]; omega, by rw [hl3]; rw [hl3] at P; exact P⟩
          case measure => simp [intOf]; omega
    · have HF : Hid (xs.length ≤ m) := by rw [hq]; exact hx
      by_cases g1 : 0 < n
      · have g2' : ¬ (q : Int) < m := by omega
        have g2'' : decide ((q : Int) < m) = false := decide_eq_false g2'
        go_wp2
        go_ret
        exact ⟨_, xs, rfl, P.O, HF.out, P.D, P.G⟩
      · have g1' : decide (0 < n) = false := decide_eq_false g1
        go_wp2
        go_ret
        exact ⟨_, xs, rfl, P.O, HF.out, P.D, P.G⟩

theorem gen20 (kid : Bool) : Gen 2 0 kid := genStep 2 0 kid (by omega) (by omega) (by omega) (fun h => by omega) (fun h => by omega)
theorem gen (kid : Bool) : ∀ d, d ≤ 10 → ∀ m, 1 ≤ m → m ≤ 1000 → Gen m d kid
  | 0, hd, m, h1, h2 => genStep m 0 kid h1 h2 (by omega) (fun _ => gen20 kid) (fun h => by omega)
  | d + 1, hd, m, h1, h2 => genStep m (d + 1) kid h1 h2 hd (fun _ => gen20 kid) (fun _ k hk1 hk2 => gen kid d (by omega) k hk1 (by omega))
end Ops
end Go.Proofs.YtjopmakbnompnaaGreatDoor
/- Programs that a call owns, beside the draws. -/

