/- Several texts of one proof, in build order: GenDraw. -/
import Derived.Test.YtppkohkcffnghaaKB1
import Derived.Test.YtppkohkcffnghaaFB2
/- Some code is drawn: at most so many ops. -/
set_option linter.unusedVariables false
namespace Go.Proofs.Ytppkohkcffnghaa
open Go.RowKit
namespace Ops
open Bas Flat Draw

/-- a draw that puts ops behind each other: the cursor, the ops so far -/
structure GSt (B g : Nat) (v : Value) (l : List UInt8) (w W : World) (out : Value) (xs : List O4) : Prop where
  D : Dr B g v l W
  G : w.grownBy W (some g)
  O : Owns4 w.heap.size W out xs
  lt : g < w.heap.size
section
variable {B g : Nat} {v : Value} {l : List UInt8} {w W W' : World} {out : Value} {xs : List O4}
theorem GSt.draw (h : GSt B g v l w W out xs) (D : Dr B g v l W') (G : W.grownBy W' (some g)) : GSt B g v l w W' out xs :=
  have a := h.lt
  { D := D, G := grown_trans h.G G, O := h.O.grown G (fun k hk e => by injection e with e; have := h.O.at k hk; omega), lt := a }
theorem seesOne (W : World) (x : O4) (t : TypeId) : Sees4 (W.heap.size + 1) (W.alloc (.cells #[.int .i64 x.k, .int .i64 x.a, .int .i64 x.b, .int .i64 x.c] t)) (.slice (some ⟨W.heap.size, 0, none⟩) 1 1) [x] :=
  ⟨_, 1, rfl, by simp, by unfold maxLen; omega, fun _ => ⟨W.heap.size, 0, rfl, by omega, fun j hj => by
    have hj0 : j = 0 := by simpa using hj
    subst hj0
    intro i u hu
    have hb : Blk (W.alloc (.cells #[.int .i64 x.k, .int .i64 x.a, .int .i64 x.b, .int .i64 x.c] t)) W.heap.size #[.int .i64 x.k, .int .i64 x.a, .int .i64 x.b, .int .i64 x.c] t := Blk.new W _ _
    simp only [Nat.zero_mul, Nat.zero_add]
    rw [hb.cell]
    change [Value.int .i64 x.k, .int .i64 x.a, .int .i64 x.b, .int .i64 x.c][i]? = some u at hu
    simpa using hu⟩⟩
/-- append(out, ys...) -/
theorem GSt.cat (h : GSt B g v l w W out xs) (u : Value) (ys : List O4) (B' : Nat) (hu : Sees4 B' W u ys) (hlen : xs.length + ys.length ≤ 1048576) :
    ∃ out' W', (Builtin.append_ #[24, 24] 24 #[out, u]).run Try.prog W = .ok out' W' ∧ GSt B g v l w W' out' (xs ++ ys) ∧ W.grownBy W' out.ownBlock := by
  have hlt := h.lt
  have hsz := h.G.size
  obtain ⟨out', W', hr, hO, hG, -⟩ := app rowOp out u 24 xs ys B' w.heap.size W h.O hsz hu (by omega)
  refine ⟨out', W', hr, { D := h.D.grown hG (fun k hk => by have := h.O.at k hk; omega), G := ?_, O := hO, lt := hlt }, hG⟩
  exact ⟨hG.os.trans h.G.os, hG.tape.trans h.G.tape, hG.output.trans h.G.output, Nat.le_trans hsz hG.size, fun i hi hne => (hG.block i (by omega) (fun e => by have := h.O.at i e.symm; omega)).trans (h.G.block i hi hne)⟩
theorem GSt.new (h : GSt B g v l w W out xs) (o : Obj) : GSt B g v l w (W.alloc o) out xs :=
  { D := h.D.alloc o, G := grown_new h.G o, O := h.O.on (alloc_below W o) (Nat.le_refl _), lt := h.lt }
theorem grown_of_alloc {o : Obj} {row : Option Nat} (h : (W.alloc o).grownBy W' row) : W.grownBy W' row :=
  ⟨h.os, h.tape, h.output, Nat.le_trans (by simp) h.size, fun k hk hne => (h.block k (by simp; omega) hne).trans (Below.heap_alloc W o k hk)⟩
/-- append(out, x) -/
theorem GSt.push (h : GSt B g v l w W out xs) (x : O4) (hlen : xs.length ≤ 1000000) :
    ∃ out' W', (Builtin.append_ #[24, 24] 24 #[out, .slice (some ⟨W.heap.size, 0, none⟩) 1 1]).run Try.prog (W.alloc (.cells #[.int .i64 x.k, .int .i64 x.a, .int .i64 x.b, .int .i64 x.c] 30)) = .ok out' W' ∧ GSt B g v l w W' out' (xs ++ [x]) ∧ W.grownBy W' out.ownBlock := by
  obtain ⟨out', W', hr, h', hG⟩ := (h.new (.cells #[.int .i64 x.k, .int .i64 x.a, .int .i64 x.b, .int .i64 x.c] 30)).cat _ [x] _ (seesOne W x _) (by simp; omega)
  exact ⟨out', W', hr, h', grown_of_alloc hG⟩
end

def GenPost (m : Nat) (B g : Nat) (v : Value) (l : List UInt8) (w : World) (e : Ending) (w' : World) : Prop := ∃ v' xs, e = .returned v' ∧ Owns4 w.heap.size w' v' xs ∧ xs.length ≤ m ∧ Dr B g v l w' ∧ w.grownBy w' (some g)
/-- what l5Gen answers -/
def Gen (m d : Nat) (kid : Bool) : Prop := ∀ (B g : Nat) (v : Value) (l : List UInt8) (w : World), Dr B g v l w →
  Calls Try.prog 44 #[.pointer (some ⟨g, 0, none⟩), .int .i64 m, .int .i64 d, .bool kid] w (GenPost m B g v l w)

set_option maxRecDepth 100000 in
set_option maxHeartbeats 8000000 in
theorem genStep (m d : Nat) (kid : Bool) (hm : 1 ≤ m) (hm1 : m ≤ 1000) (hd1 : d ≤ 10) (h13 : 3 ≤ m → Gen 2 0 kid) (h12 : 0 < d → ∀ k, 1 ≤ k → k + 3 ≤ m → Gen k (d - 1) kid) : Gen m d kid := by
  intro B g v l w hD
  have H13 := (show Hid _ from h13)
  have H12 := (show Hid _ from h12)
  clear h13 h12
  have P0 : GSt B g v l w (w.alloc (.cells #[] 30)) (.slice (some ⟨w.heap.size, 0, none⟩) 0 0) [] :=
    { D := hD.alloc _, G := World.grownBy_alloc w _ _, O := World.ownsRow_lit w #[] 0 (Nat.le_refl _) (by simp [maxLen]) rfl, lt := hD.lt }
  have i0 : (0 : Int) < m := by omega
  go_enter Try.func44, Try.ntmps44
  go_wp2_with fail
  refine (belowE P0.D m i0).mono ?_
  rintro e w1 ⟨r, rfl, r0, r1, D, G⟩
  have P := P0.draw D G
  clear D G P0 hD
  go_wp2
  go_loopw [9, 10] (fun ov nv wr => ∃ (a : Option Addr) (cap : Nat) (xs : List O4) (n : Int), ov = .slice a xs.length cap ∧ nv = .int .i64 n ∧ n ≤ 1000 ∧ xs.length ≤ m ∧ GSt B g v l w wr (.slice a xs.length cap) xs) (fun _ nv _ => (intOf nv).toNat)
  case atStart => exact ⟨some ⟨w.heap.size, 0, none⟩, 0, [], 1 + r, rfl, rfl, by omega, by simp, P⟩
  case round =>
    obtain ⟨a, cap, xs, n, rfl, rfl, hn, hx, P⟩ := hrel
    obtain ⟨q, hq⟩ : ∃ q, xs.length = q := ⟨_, rfl⟩
    rw [hq] at hx P ⊢
    by_cases hgo : 0 < n ∧ q < m
    · obtain ⟨g1, g2⟩ := hgo
      have g2' : (q : Int) < m := by omega
      go_wp2_with fail
      refine (belowE P.D 20 (by omega)).mono ?_
      rintro e w2 ⟨k, rfl, k0, k1, D, G⟩
      have P := P.draw D G
      clear D G
      by_cases k5 : k < 5
      · go_wp2_with fail
        refine (plainE P.D 5 (by omega) (by omega)).mono ?_
        rintro e w3 ⟨xa, xb, xc, rfl, D, G⟩
        have P := P.draw D G
        clear D G
        have eV : opV (5) xa xb xc = .agg #[.int .i64 (5), .int .i64 xa, .int .i64 xb, .int .i64 xc] := rfl
        rw [eV]
        clear eV
        obtain ⟨o3, W3, hr, P, -⟩ := P.push ⟨5, xa, xb, xc⟩ (by omega)
        obtain ⟨a3, cap3, rfl⟩ := P.O.form
        have hl3 : (xs ++ [(⟨5, xa, xb, xc⟩ : O4)]).length = q + 1 := by simp [hq]
        go_wp2_with (at_builtin; refine wpList_app _ rfl _ _ 24 rfl _ _ _ _ rfl rfl hr ?_)
        clear hr
        go_roundw
        case rel => exact ⟨a3, cap3, _, n - 1, by rw [hl3], by go_num, by omega, by rw [hl3]; omega, by rw [hl3]; rw [hl3] at P; exact P⟩
        case measure => simp [intOf]; omega
      by_cases k10 : k < 10
      · go_wp2_with fail
        refine (plainE P.D 6 (by omega) (by omega)).mono ?_
        rintro e w3 ⟨xa, xb, xc, rfl, D, G⟩
        have P := P.draw D G
        clear D G
        have eV : opV (6) xa xb xc = .agg #[.int .i64 (6), .int .i64 xa, .int .i64 xb, .int .i64 xc] := rfl
        rw [eV]
        clear eV
        obtain ⟨o3, W3, hr, P, -⟩ := P.push ⟨6, xa, xb, xc⟩ (by omega)
        obtain ⟨a3, cap3, rfl⟩ := P.O.form
        have hl3 : (xs ++ [(⟨6, xa, xb, xc⟩ : O4)]).length = q + 1 := by simp [hq]
        go_wp2_with (at_builtin; refine wpList_app _ rfl _ _ 24 rfl _ _ _ _ rfl rfl hr ?_)
        clear hr
        go_roundw
        case rel => exact ⟨a3, cap3, _, n - 1, by rw [hl3], by go_num, by omega, by rw [hl3]; omega, by rw [hl3]; rw [hl3] at P; exact P⟩
        case measure => simp [intOf]; omega
      by_cases k12 : k < 12
      · go_wp2_with fail
        refine (belowE P.D 4 (by omega)).mono ?_
        rintro e w3 ⟨y, rfl, y0, y1, D, G⟩
        have P := P.draw D G
        clear D G
        go_wp2_with fail
        refine (plainE P.D (1 + y) (by omega) (by omega)).mono ?_
        rintro e w4 ⟨xa, xb, xc, rfl, D, G⟩
        have P := P.draw D G
        clear D G
        have eV : opV (1 + y) xa xb xc = .agg #[.int .i64 (1 + y), .int .i64 xa, .int .i64 xb, .int .i64 xc] := rfl
        rw [eV]
        clear eV
        obtain ⟨o3, W3, hr, P, -⟩ := P.push ⟨1 + y, xa, xb, xc⟩ (by omega)
        obtain ⟨a3, cap3, rfl⟩ := P.O.form
        have hl3 : (xs ++ [(⟨1 + y, xa, xb, xc⟩ : O4)]).length = q + 1 := by simp [hq]
        go_wp2_with (at_builtin; refine wpList_app _ rfl _ _ 24 rfl _ _ _ _ rfl rfl hr ?_)
        clear hr
        go_roundw
        case rel => exact ⟨a3, cap3, _, n - 1, by rw [hl3], by go_num, by omega, by rw [hl3]; omega, by rw [hl3]; rw [hl3] at P; exact P⟩
        case measure => simp [intOf]; omega
      rcases (show k = 12 ∨ k = 13 ∨ k = 14 ∨ 15 ≤ k by omega) with rfl | rfl | rfl | k15
      · by_cases hc : 0 < d ∧ q + 4 ≤ m
        · obtain ⟨c1, c2⟩ := hc
          have d1 : (0 : Int) < d := by omega
          have d2 : (4 : Int) ≤ (m : Int) - q := by omega
          obtain ⟨mm, hmm⟩ : ∃ mm : Nat, m = q + 3 + mm := ⟨m - q - 3, by omega⟩
          have E1 : Hid ((m : Int) - q - 3 = (mm : Int)) := by show _ = _; omega
          have E2 : Hid ((d : Int) - 1 = ((d - 1 : Nat) : Int)) := by show _ = _; omega
          have hm2 : q + 3 + mm ≤ m := by omega
          have hm3 : m ≤ q + 3 + mm := by omega
          clear hmm
          go_wp2_with fail
          rw [E1.out, E2.out]
          have hw2 : w.heap.size ≤ w2.heap.size := P.G.size
          have hob : ∀ k, (Value.slice a q cap).ownBlock = some k → k < w2.heap.size := fun k hk => (P.O.at k hk).2
          refine (H12.out (by omega) mm (by omega) (by omega) B g v l w2 P.D).mono ?_
          rintro e w3 ⟨iv, ys, rfl, I, hy, D, G⟩
          obtain ⟨ia, icap, rfl⟩ := I.form
          obtain ⟨t, ht⟩ : ∃ t, ys.length = t := ⟨_, rfl⟩
          rw [ht] at I hy ⊢
          have P := P.draw D G
          clear D G
          go_wp2_with fail
          refine (plainE P.D 8 (by omega) (by omega)).mono ?_
          rintro e w4 ⟨xa, xb, xc, rfl, D, G⟩
          have I := I.grown G (fun k hk e => by injection e with e; have := I.at k hk; have := P.lt; omega)
          have P := P.draw D G
          clear D G
          have eV : opV 8 xa xb xc = .agg #[.int .i64 8, .int .i64 xa, .int .i64 xb, .int .i64 xc] := rfl
          rw [eV]
          clear eV
          obtain ⟨o5, W5, hr5, P5, G5⟩ := P.push ⟨8, xa, xb, xc⟩ (by omega)
          have I5 := I.grown G5 (fun k hk e => by have := hob k e.symm; have := I.at k hk; omega)
          obtain ⟨a5, cap5, rfl⟩ := P5.O.form
          have hl5 : (xs ++ [(⟨8, xa, xb, xc⟩ : O4)]).length = q + 1 := by simp [hq]
          rw [hl5] at P5 hr5
          obtain ⟨zs, hzs⟩ : ∃ zs, xs ++ [(⟨8, xa, xb, xc⟩ : O4)] = zs := ⟨_, rfl⟩
          rw [hzs] at P5 hl5
          obtain ⟨o6, W6, hr6, P6, G6⟩ := P5.cat (.slice ia t icap) ys W5.heap.size I5.sees (by omega)
          obtain ⟨a6, cap6, rfl⟩ := P6.O.form
          have hl6 : (zs ++ ys).length = q + 1 + t := by simp [hl5, ht]
          rw [hl6] at P6 hr6
          obtain ⟨us, hus⟩ : ∃ us, zs ++ ys = us := ⟨_, rfl⟩
          rw [hus] at P6 hl6
          clear hus hzs I I5 P P5 G5 G6 hob
          go_wp2_with (at_builtin; first | (refine wpList_app _ rfl _ _ 24 rfl _ _ _ _ rfl rfl hr5 ?_; clear hr5) | (refine wpList_app _ rfl _ _ 24 rfl _ _ _ _ rfl rfl hr6 ?_; clear hr6))
          refine (onceE P6.D 3).mono ?_
          rintro e w7 ⟨z, rfl, D, G⟩
          have P7 := P6.draw D G
          clear D G P6
          cases z
          · obtain ⟨o9, W9, hr9, P9, -⟩ := P7.push ⟨9, 0, 0, 0⟩ (by omega)
            obtain ⟨a9, cap9, rfl⟩ := P9.O.form
            have hl9 : (us ++ [(⟨9, 0, 0, 0⟩ : O4)]).length = q + 1 + t + 1 := by simp [hl6]
            go_wp2_with (at_builtin; refine wpList_app _ rfl _ _ 24 rfl _ _ _ _ rfl rfl hr9 ?_)
            clear hr9
            go_roundw
            case rel => exact ⟨a9, cap9, _, n - 1, by rw [hl9], by go_num, by omega, by rw [hl9]; omega, by rw [hl9]; rw [hl9] at P9; exact P9⟩
            case measure => simp [intOf]; omega
          · obtain ⟨o8, W8, hr8, P8, -⟩ := P7.push ⟨10, 0, 0, 0⟩ (by omega)
            obtain ⟨a8, cap8, rfl⟩ := P8.O.form
            have hl8 : (us ++ [(⟨10, 0, 0, 0⟩ : O4)]).length = q + 1 + t + 1 := by simp [hl6]
            rw [hl8] at P8 hr8
            obtain ⟨ts, hts⟩ : ∃ ts, us ++ [(⟨10, 0, 0, 0⟩ : O4)] = ts := ⟨_, rfl⟩
            rw [hts] at P8 hl8
            clear hts
            obtain ⟨o9, W9, hr9, P9, -⟩ := P8.push ⟨9, 0, 0, 0⟩ (by omega)
            obtain ⟨a9, cap9, rfl⟩ := P9.O.form
            have hl9 : (ts ++ [(⟨9, 0, 0, 0⟩ : O4)]).length = q + 1 + t + 1 + 1 := by simp [hl8]
            go_wp2_with (at_builtin; first | (refine wpList_app _ rfl _ _ 24 rfl _ _ _ _ rfl rfl hr8 ?_; clear hr8) | (refine wpList_app _ rfl _ _ 24 rfl _ _ _ _ rfl rfl hr9 ?_; clear hr9))
            go_roundw
            case rel => exact ⟨a9, cap9, _, n - 1, by rw [hl9], by go_num, by omega, by rw [hl9]; omega, by rw [hl9]; rw [hl9] at P9; exact P9⟩
            case measure => simp [intOf]; omega
        · by_cases c1 : 0 < d
          · have d1 : (0 : Int) < d := by omega
            have d2 : ¬ (4 : Int) ≤ (m : Int) - q := by omega
            have d2' : decide ((4 : Int) ≤ (m : Int) - q) = false := decide_eq_false d2
            cases kid
            · go_wp2_with fail
              refine (belowE P.D 5 (by omega)).mono ?_
              rintro e w3 ⟨y, rfl, y0, y1, D, G⟩
              have P := P.draw D G
              clear D G
              go_wp2_with fail
              refine (plainE P.D (12 + y) (by omega) (by omega)).mono ?_
              rintro e w4 ⟨xa, xb, xc, rfl, D, G⟩
              have P := P.draw D G
              clear D G
              have eV : opV (12 + y) xa xb xc = .agg #[.int .i64 (12 + y), .int .i64 xa, .int .i64 xb, .int .i64 xc] := rfl
              rw [eV]
              clear eV
              obtain ⟨o3, W3, hr, P, -⟩ := P.push ⟨12 + y, xa, xb, xc⟩ (by omega)
              obtain ⟨a3, cap3, rfl⟩ := P.O.form
              have hl3 : (xs ++ [(⟨12 + y, xa, xb, xc⟩ : O4)]).length = q + 1 := by simp [hq]
              go_wp2_with (at_builtin; refine wpList_app _ rfl _ _ 24 rfl _ _ _ _ rfl rfl hr ?_)
              clear hr
              go_roundw
              case rel => exact ⟨a3, cap3, _, n - 1, by rw [hl3], by go_num, by omega, by rw [hl3]; omega, by rw [hl3]; rw [hl3] at P; exact P⟩
              case measure => simp [intOf]; omega
            · go_wp2_with fail
              refine (belowE P.D 3 (by omega)).mono ?_
              rintro e w3 ⟨y, rfl, y0, y1, D, G⟩
              have P := P.draw D G
              clear D G
              go_wp2_with fail
              refine (plainE P.D (1 + y) (by omega) (by omega)).mono ?_
              rintro e w4 ⟨xa, xb, xc, rfl, D, G⟩
              have P := P.draw D G
              clear D G
              have eV : opV (1 + y) xa xb xc = .agg #[.int .i64 (1 + y), .int .i64 xa, .int .i64 xb, .int .i64 xc] := rfl
              rw [eV]
              clear eV
              obtain ⟨o3, W3, hr, P, -⟩ := P.push ⟨1 + y, xa, xb, xc⟩ (by omega)
              obtain ⟨a3, cap3, rfl⟩ := P.O.form
              have hl3 : (xs ++ [(⟨1 + y, xa, xb, xc⟩ : O4)]).length = q + 1 := by simp [hq]
              go_wp2_with (at_builtin; refine wpList_app _ rfl _ _ 24 rfl _ _ _ _ rfl rfl hr ?_)
              clear hr
              go_roundw
              case rel => exact ⟨a3, cap3, _, n - 1, by rw [hl3], by go_num, by omega, by rw [hl3]; omega, by rw [hl3]; rw [hl3] at P; exact P⟩
              case measure => simp [intOf]; omega
          · have d1 : ¬ (0 : Int) < d := by omega
            have d1' : decide ((0 : Int) < d) = false := decide_eq_false d1
            cases kid
            · go_wp2_with fail
              refine (belowE P.D 5 (by omega)).mono ?_
              rintro e w3 ⟨y, rfl, y0, y1, D, G⟩
              have P := P.draw D G
              clear D G
              go_wp2_with fail
              refine (plainE P.D (12 + y) (by omega) (by omega)).mono ?_
              rintro e w4 ⟨xa, xb, xc, rfl, D, G⟩
              have P := P.draw D G
              clear D G
              have eV : opV (12 + y) xa xb xc = .agg #[.int .i64 (12 + y), .int .i64 xa, .int .i64 xb, .int .i64 xc] := rfl
              rw [eV]
              clear eV
              obtain ⟨o3, W3, hr, P, -⟩ := P.push ⟨12 + y, xa, xb, xc⟩ (by omega)
              obtain ⟨a3, cap3, rfl⟩ := P.O.form
              have hl3 : (xs ++ [(⟨12 + y, xa, xb, xc⟩ : O4)]).length = q + 1 := by simp [hq]
              go_wp2_with (at_builtin; refine wpList_app _ rfl _ _ 24 rfl _ _ _ _ rfl rfl hr ?_)
              clear hr
              go_roundw
              case rel => exact ⟨a3, cap3, _, n - 1, by rw [hl3], by go_num, by omega, by rw [hl3]; omega, by rw [hl3]; rw [hl3] at P; exact P⟩
              case measure => simp [intOf]; omega
            · go_wp2_with fail
              refine (belowE P.D 3 (by omega)).mono ?_
              rintro e w3 ⟨y, rfl, y0, y1, D, G⟩
              have P := P.draw D G
              clear D G
              go_wp2_with fail
              refine (plainE P.D (1 + y) (by omega) (by omega)).mono ?_
              rintro e w4 ⟨xa, xb, xc, rfl, D, G⟩
              have P := P.draw D G
              clear D G
              have eV : opV (1 + y) xa xb xc = .agg #[.int .i64 (1 + y), .int .i64 xa, .int .i64 xb, .int .i64 xc] := rfl
              rw [eV]
              clear eV
              obtain ⟨o3, W3, hr, P, -⟩ := P.push ⟨1 + y, xa, xb, xc⟩ (by omega)
              obtain ⟨a3, cap3, rfl⟩ := P.O.form
              have hl3 : (xs ++ [(⟨1 + y, xa, xb, xc⟩ : O4)]).length = q + 1 := by simp [hq]
              go_wp2_with (at_builtin; refine wpList_app _ rfl _ _ 24 rfl _ _ _ _ rfl rfl hr ?_)
              clear hr
              go_roundw
              case rel => exact ⟨a3, cap3, _, n - 1, by rw [hl3], by go_num, by omega, by rw [hl3]; omega, by rw [hl3]; rw [hl3] at P; exact P⟩
              case measure => simp [intOf]; omega
      · by_cases c3 : q + 3 ≤ m
        · have d2 : (3 : Int) ≤ (m : Int) - q := by omega
          go_wp2_with fail
          have hw2 : w.heap.size ≤ w2.heap.size := P.G.size
          have hob : ∀ k, (Value.slice a q cap).ownBlock = some k → k < w2.heap.size := fun k hk => (P.O.at k hk).2
          refine (H13.out (by omega) B g v l w2 P.D).mono ?_
          rintro e w3 ⟨iv, ys, rfl, I, hy, D, G⟩
          obtain ⟨ia, icap, rfl⟩ := I.form
          obtain ⟨t, ht⟩ : ∃ t, ys.length = t := ⟨_, rfl⟩
          rw [ht] at I hy ⊢
          have P := P.draw D G
          clear D G
          go_wp2_with fail
          refine (plainE P.D 7 (by omega) (by omega)).mono ?_
          rintro e w4 ⟨xa, xb, xc, rfl, D, G⟩
          have I := I.grown G (fun k hk e => by injection e with e; have := I.at k hk; have := P.lt; omega)
          have P := P.draw D G
          clear D G
          have eV : opV 7 xa xb xc = .agg #[.int .i64 7, .int .i64 xa, .int .i64 xb, .int .i64 xc] := rfl
          rw [eV]
          clear eV
          have I4 := I.on (alloc_below w4 (.cells #[.int .i64 7, .int .i64 xa, .int .i64 (t : Int), .int .i64 xc] 30)) (Nat.le_refl _)
          have P4 := P.new (.cells #[.int .i64 7, .int .i64 xa, .int .i64 (t : Int), .int .i64 xc] 30)
          obtain ⟨o5, W5, hr5, P5, G5⟩ := P4.push ⟨7, xa, t, xc⟩ (by omega)
          have hz4 : (w4.alloc (.cells #[.int .i64 7, .int .i64 xa, .int .i64 (t : Int), .int .i64 xc] 30)).heap.size = w4.heap.size + 1 := by simp
          rw [hz4] at hr5
          clear hz4
          have I5 := I4.grown G5 (fun k hk e => by have := hob k e.symm; have := I4.at k hk; omega)
          obtain ⟨a5, cap5, rfl⟩ := P5.O.form
          have hl5 : (xs ++ [(⟨7, xa, t, xc⟩ : O4)]).length = q + 1 := by simp [hq]
          rw [hl5] at P5 hr5
          obtain ⟨zs, hzs⟩ : ∃ zs, xs ++ [(⟨7, xa, t, xc⟩ : O4)] = zs := ⟨_, rfl⟩
          rw [hzs] at P5 hl5
          obtain ⟨o6, W6, hr6, P6, G6⟩ := P5.cat (.slice ia t icap) ys W5.heap.size I5.sees (by omega)
          obtain ⟨a6, cap6, rfl⟩ := P6.O.form
          have hl6 : (zs ++ ys).length = q + 1 + t := by simp [hl5, ht]
          rw [hl6] at hr6
          clear hzs I I4 I5 P P4 P5 G5 G6 hob
          go_wp2_with (at_builtin; first | (refine wpList_app _ rfl _ _ 24 rfl _ _ _ _ rfl rfl hr5 ?_; clear hr5) | (refine wpList_app _ rfl _ _ 24 rfl _ _ _ _ rfl rfl hr6 ?_; clear hr6))
          go_roundw
          case rel => exact ⟨a6, cap6, _, n - 1, by rw [hl6], by go_num, by omega, by rw [hl6]; omega, P6⟩
          case measure => simp [intOf]; omega
        · have d2 : ¬ (3 : Int) ≤ (m : Int) - q := by omega
          have d2' : decide ((3 : Int) ≤ (m : Int) - q) = false := decide_eq_false d2
          cases kid
          · go_wp2_with fail
            refine (belowE P.D 5 (by omega)).mono ?_
            rintro e w3 ⟨y, rfl, y0, y1, D, G⟩
            have P := P.draw D G
            clear D G
            go_wp2_with fail
            refine (plainE P.D (12 + y) (by omega) (by omega)).mono ?_
            rintro e w4 ⟨xa, xb, xc, rfl, D, G⟩
            have P := P.draw D G
            clear D G
            have eV : opV (12 + y) xa xb xc = .agg #[.int .i64 (12 + y), .int .i64 xa, .int .i64 xb, .int .i64 xc] := rfl
            rw [eV]
            clear eV
            obtain ⟨o3, W3, hr, P, -⟩ := P.push ⟨12 + y, xa, xb, xc⟩ (by omega)
            obtain ⟨a3, cap3, rfl⟩ := P.O.form
            have hl3 : (xs ++ [(⟨12 + y, xa, xb, xc⟩ : O4)]).length = q + 1 := by simp [hq]
            go_wp2_with (at_builtin; refine wpList_app _ rfl _ _ 24 rfl _ _ _ _ rfl rfl hr ?_)
            clear hr
            go_roundw
            case rel => exact ⟨a3, cap3, _, n - 1, by rw [hl3], by go_num, by omega, by rw [hl3]; omega, by rw [hl3]; rw [hl3] at P; exact P⟩
            case measure => simp [intOf]; omega
          · go_wp2_with fail
            refine (belowE P.D 3 (by omega)).mono ?_
            rintro e w3 ⟨y, rfl, y0, y1, D, G⟩
            have P := P.draw D G
            clear D G
            go_wp2_with fail
            refine (plainE P.D (1 + y) (by omega) (by omega)).mono ?_
            rintro e w4 ⟨xa, xb, xc, rfl, D, G⟩
            have P := P.draw D G
            clear D G
            have eV : opV (1 + y) xa xb xc = .agg #[.int .i64 (1 + y), .int .i64 xa, .int .i64 xb, .int .i64 xc] := rfl
            rw [eV]
            clear eV
            obtain ⟨o3, W3, hr, P, -⟩ := P.push ⟨1 + y, xa, xb, xc⟩ (by omega)
            obtain ⟨a3, cap3, rfl⟩ := P.O.form
            have hl3 : (xs ++ [(⟨1 + y, xa, xb, xc⟩ : O4)]).length = q + 1 := by simp [hq]
            go_wp2_with (at_builtin; refine wpList_app _ rfl _ _ 24 rfl _ _ _ _ rfl rfl hr ?_)
            clear hr
            go_roundw
            case rel => exact ⟨a3, cap3, _, n - 1, by rw [hl3], by go_num, by omega, by rw [hl3]; omega, by rw [hl3]; rw [hl3] at P; exact P⟩
            case measure => simp [intOf]; omega
      · go_wp2_with fail
        refine (onceE P.D 6).mono ?_
        rintro e w3 ⟨z, rfl, D, G⟩
        have P := P.draw D G
        clear D G
        cases z
        · cases kid
          · go_wp2_with fail
            refine (belowE P.D 5 (by omega)).mono ?_
            rintro e w3 ⟨y, rfl, y0, y1, D, G⟩
            have P := P.draw D G
            clear D G
            go_wp2_with fail
            refine (plainE P.D (12 + y) (by omega) (by omega)).mono ?_
            rintro e w4 ⟨xa, xb, xc, rfl, D, G⟩
            have P := P.draw D G
            clear D G
            have eV : opV (12 + y) xa xb xc = .agg #[.int .i64 (12 + y), .int .i64 xa, .int .i64 xb, .int .i64 xc] := rfl
            rw [eV]
            clear eV
            obtain ⟨o3, W3, hr, P, -⟩ := P.push ⟨12 + y, xa, xb, xc⟩ (by omega)
            obtain ⟨a3, cap3, rfl⟩ := P.O.form
            have hl3 : (xs ++ [(⟨12 + y, xa, xb, xc⟩ : O4)]).length = q + 1 := by simp [hq]
            go_wp2_with (at_builtin; refine wpList_app _ rfl _ _ 24 rfl _ _ _ _ rfl rfl hr ?_)
            clear hr
            go_roundw
            case rel => exact ⟨a3, cap3, _, n - 1, by rw [hl3], by go_num, by omega, by rw [hl3]; omega, by rw [hl3]; rw [hl3] at P; exact P⟩
            case measure => simp [intOf]; omega
          · go_wp2_with fail
            refine (belowE P.D 3 (by omega)).mono ?_
            rintro e w3 ⟨y, rfl, y0, y1, D, G⟩
            have P := P.draw D G
            clear D G
            go_wp2_with fail
            refine (plainE P.D (1 + y) (by omega) (by omega)).mono ?_
            rintro e w4 ⟨xa, xb, xc, rfl, D, G⟩
            have P := P.draw D G
            clear D G
            have eV : opV (1 + y) xa xb xc = .agg #[.int .i64 (1 + y), .int .i64 xa, .int .i64 xb, .int .i64 xc] := rfl
            rw [eV]
            clear eV
            obtain ⟨o3, W3, hr, P, -⟩ := P.push ⟨1 + y, xa, xb, xc⟩ (by omega)
            obtain ⟨a3, cap3, rfl⟩ := P.O.form
            have hl3 : (xs ++ [(⟨1 + y, xa, xb, xc⟩ : O4)]).length = q + 1 := by simp [hq]
            go_wp2_with (at_builtin; refine wpList_app _ rfl _ _ 24 rfl _ _ _ _ rfl rfl hr ?_)
            clear hr
            go_roundw
            case rel => exact ⟨a3, cap3, _, n - 1, by rw [hl3], by go_num, by omega, by rw [hl3]; omega, by rw [hl3]; rw [hl3] at P; exact P⟩
            case measure => simp [intOf]; omega
        · obtain ⟨o3, W3, hr, P, -⟩ := P.push ⟨10, 0, 0, 0⟩ (by omega)
          obtain ⟨a3, cap3, rfl⟩ := P.O.form
          have hl3 : (xs ++ [(⟨10, 0, 0, 0⟩ : O4)]).length = q + 1 := by simp [hq]
          go_wp2_with (at_builtin; refine wpList_app _ rfl _ _ 24 rfl _ _ _ _ rfl rfl hr ?_)
          clear hr
          go_roundw
          case rel => exact ⟨a3, cap3, _, n - 1, by rw [hl3], by go_num, by omega, by rw [hl3]; omega, by rw [hl3]; rw [hl3] at P; exact P⟩
          case measure => simp [intOf]; omega
      · have d12 : (k == 12) = false := by simp; omega
        have d13 : (k == 13) = false := by simp; omega
        have d14 : (k == 14) = false := by simp; omega
        cases kid
        · go_wp2_with fail
          refine (belowE P.D 5 (by omega)).mono ?_
          rintro e w3 ⟨y, rfl, y0, y1, D, G⟩
          have P := P.draw D G
          clear D G
          go_wp2_with fail
          refine (plainE P.D (12 + y) (by omega) (by omega)).mono ?_
          rintro e w4 ⟨xa, xb, xc, rfl, D, G⟩
          have P := P.draw D G
          clear D G
          have eV : opV (12 + y) xa xb xc = .agg #[.int .i64 (12 + y), .int .i64 xa, .int .i64 xb, .int .i64 xc] := rfl
          rw [eV]
          clear eV
          obtain ⟨o3, W3, hr, P, -⟩ := P.push ⟨12 + y, xa, xb, xc⟩ (by omega)
          obtain ⟨a3, cap3, rfl⟩ := P.O.form
          have hl3 : (xs ++ [(⟨12 + y, xa, xb, xc⟩ : O4)]).length = q + 1 := by simp [hq]
          go_wp2_with (at_builtin; refine wpList_app _ rfl _ _ 24 rfl _ _ _ _ rfl rfl hr ?_)
          clear hr
          go_roundw
          case rel => exact ⟨a3, cap3, _, n - 1, by rw [hl3], by go_num, by omega, by rw [hl3]; omega, by rw [hl3]; rw [hl3] at P; exact P⟩
          case measure => simp [intOf]; omega
        · go_wp2_with fail
          refine (belowE P.D 3 (by omega)).mono ?_
          rintro e w3 ⟨y, rfl, y0, y1, D, G⟩
          have P := P.draw D G
          clear D G
          go_wp2_with fail
          refine (plainE P.D (1 + y) (by omega) (by omega)).mono ?_
          rintro e w4 ⟨xa, xb, xc, rfl, D, G⟩
          have P := P.draw D G
          clear D G
          have eV : opV (1 + y) xa xb xc = .agg #[.int .i64 (1 + y), .int .i64 xa, .int .i64 xb, .int .i64 xc] := rfl
          rw [eV]
          clear eV
          obtain ⟨o3, W3, hr, P, -⟩ := P.push ⟨1 + y, xa, xb, xc⟩ (by omega)
          obtain ⟨a3, cap3, rfl⟩ := P.O.form
          have hl3 : (xs ++ [(⟨1 + y, xa, xb, xc⟩ : O4)]).length = q + 1 := by simp [hq]
          go_wp2_with (at_builtin; refine wpList_app _ rfl _ _ 24 rfl _ _ _ _ rfl rfl hr ?_)
          clear hr
          go_roundw
          case rel => exact ⟨a3, cap3, _, n - 1, by rw [hl3], by go_num, by omega, by rw [hl3]; omega, by rw [hl3]; rw [hl3] at P; exact P⟩
          case measure => simp [intOf]; omega
    · have HF : Hid (xs.length ≤ m) := by rw [hq]; exact hx
      by_cases g1 : 0 < n
      · have g2' : ¬ (q : Int) < m := by omega
        have g2'' : decide ((q : Int) < m) = false := decide_eq_false g2'
        go_wp2
        go_ret
        exact ⟨_, xs, rfl, P.O, HF.out, P.D, P.G⟩
      · have g1' : decide (0 < n) = false := decide_eq_false g1
        go_wp2
        go_ret
        exact ⟨_, xs, rfl, P.O, HF.out, P.D, P.G⟩

theorem gen20 (kid : Bool) : Gen 2 0 kid := genStep 2 0 kid (by omega) (by omega) (by omega) (fun h => by omega) (fun h => by omega)
theorem gen (kid : Bool) : ∀ d, d ≤ 10 → ∀ m, 1 ≤ m → m ≤ 1000 → Gen m d kid
  | 0, hd, m, h1, h2 => genStep m 0 kid h1 h2 (by omega) (fun _ => gen20 kid) (fun h => by omega)
  | d + 1, hd, m, h1, h2 => genStep m (d + 1) kid h1 h2 hd (fun _ => gen20 kid) (fun _ k hk1 hk2 => gen kid d (by omega) k hk1 (by omega))
end Ops
end Go.Proofs.Ytppkohkcffnghaa
