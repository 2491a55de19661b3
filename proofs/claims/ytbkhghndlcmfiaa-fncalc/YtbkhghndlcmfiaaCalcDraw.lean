/- What FnCalc draws: some op, some registers. -/
import Derived.Test.YtbkhghndlcmfiaaOpDraw
import Derived.Test.YtbkhghndlcmfiaaIntRow
set_option linter.unusedVariables false
namespace Go.Proofs.Ytbkhghndlcmfiaa
open Go.RowKit
namespace Ops
open Bas Draw

/-- the draw's own state: the cursor, the result's block, the op's block -/
structure DSt (B g : Nat) (v : Value) (l : List UInt8) (w W : World) (p : Nat) (cs : Array Value) : Prop where
  D : Dr B g v l W
  bel : Below w.heap.size w W
  R : Blk W w.heap.size #[.int .i64 0, .int .i64 0, .int .i64 0, .int .i64 0] 25
  O : Blk W p cs 25
  g1 : w.heap.size < g
  g2 : g < p
section
variable {B g p : Nat} {v : Value} {l : List UInt8} {w W W' : World} {cs : Array Value}
theorem DSt.call (h : DSt B g v l w W p cs) (D : Dr B g v l W') (G : W.grownBy W' (some g)) : DSt B g v l w W' p cs :=
  have a := h.g1; have b := h.g2
  { D := D, bel := h.bel.grown G h.bel.size (fun k hk => by cases hk; omega), R := h.R.grown G (fun e => by injection e; omega), O := h.O.grown G (fun e => by injection e; omega), g1 := a, g2 := b }
theorem DSt.set (h : DSt B g v l w W p cs) (i : Nat) (u : Value) : DSt B g v l w (W.setCell ⟨p, i, none⟩ u) p (cs.setIfInBounds i u) :=
  have a := h.g1; have b := h.g2
  { D := h.D.set (by omega) i u, bel := h.bel.setCell (by show w.heap.size ≤ p; omega) u, R := h.R.other (by omega) i u, O := h.O.set i u, g1 := a, g2 := b }
theorem DSt.new (h : DSt B g v l w W p cs) (o : Obj) : DSt B g v l w (W.alloc o) p cs :=
  { D := h.D.alloc o, bel := h.bel.alloc h.bel.size o, R := h.R.on (alloc_below W o) h.R.lt, O := h.O.on (alloc_below W o) h.O.lt, g1 := h.g1, g2 := h.g2 }
end
/-- four numbers that were just laid, and more behind -/
theorem sees4 {W : World} {s : Nat} {a b c d : Int} (h : Blk W s #[.int .i64 a, .int .i64 b, .int .i64 c, .int .i64 d] 3) : Ints.Sees W.heap.size W (.slice (some ⟨s, 0, none⟩) 4 4) [a, b, c, d] :=
  ⟨_, 4, rfl, by simp, by unfold maxLen; omega, fun _ => ⟨s, 0, rfl, h.lt, fun j hj => by
    rw [Nat.zero_add, h.cell]
    match j, hj with
    | 0, _ => rfl
    | 1, _ => rfl
    | 2, _ => rfl
    | 3, _ => rfl⟩⟩
theorem sees3 {W : World} {s : Nat} {a b c d : Int} (h : Blk W s #[.int .i64 a, .int .i64 b, .int .i64 c, .int .i64 d] 3) : Ints.Sees W.heap.size W (.slice (some ⟨s, 0, none⟩) 3 4) [a, b, c] :=
  ⟨_, 4, rfl, by simp, by unfold maxLen; omega, fun _ => ⟨s, 0, rfl, h.lt, fun j hj => by
    rw [Nat.zero_add, h.cell]
    match j, hj with
    | 0, _ => rfl
    | 1, _ => rfl
    | 2, _ => rfl⟩⟩

section
variable {B g p s : Nat} {v : Value} {l : List UInt8} {w W : World} {cs : Array Value} {a b c d : Int} {x y z u : Value}
/-- the op is put into the result's block -/
theorem toldB (h : DSt B g v l w W p cs) : Below w.heap.size w ((((W.setCell ⟨w.heap.size, 0, none⟩ x).setCell ⟨w.heap.size, 1, none⟩ y).setCell ⟨w.heap.size, 2, none⟩ z).setCell ⟨w.heap.size, 3, none⟩ u) :=
  (((h.bel.setCell (Nat.le_refl _) _).setCell (Nat.le_refl _) _).setCell (Nat.le_refl _) _).setCell (Nat.le_refl _) _
theorem toldB' (h : DSt B g v l w W p cs) (hs : w.heap.size ≤ s) {j : Nat} {t : Value} : Below w.heap.size w (((((W.setCell ⟨s, j, none⟩ t).setCell ⟨w.heap.size, 0, none⟩ x).setCell ⟨w.heap.size, 1, none⟩ y).setCell ⟨w.heap.size, 2, none⟩ z).setCell ⟨w.heap.size, 3, none⟩ u) :=
  ((((h.bel.setCell hs _).setCell (Nat.le_refl _) _).setCell (Nat.le_refl _) _).setCell (Nat.le_refl _) _).setCell (Nat.le_refl _) _
theorem toldT (T : Blk W s #[.int .i64 a, .int .i64 b, .int .i64 c, .int .i64 d] 3) {q : Nat} (h : s ≠ q) : Blk ((((W.setCell ⟨q, 0, none⟩ x).setCell ⟨q, 1, none⟩ y).setCell ⟨q, 2, none⟩ z).setCell ⟨q, 3, none⟩ u) s #[.int .i64 a, .int .i64 b, .int .i64 c, .int .i64 d] 3 :=
  (((T.other h _ _).other h _ _).other h _ _).other h _ _
theorem told4 (T : Blk W s #[.int .i64 a, .int .i64 b, .int .i64 c, .int .i64 d] 3) {q : Nat} (h : s ≠ q) : Ints.Sees ((((W.setCell ⟨q, 0, none⟩ x).setCell ⟨q, 1, none⟩ y).setCell ⟨q, 2, none⟩ z).setCell ⟨q, 3, none⟩ u).heap.size ((((W.setCell ⟨q, 0, none⟩ x).setCell ⟨q, 1, none⟩ y).setCell ⟨q, 2, none⟩ z).setCell ⟨q, 3, none⟩ u) (.slice (some ⟨s, 0, none⟩) 4 4) [a, b, c, d] := sees4 (toldT T h)
theorem told3 (T : Blk W s #[.int .i64 a, .int .i64 b, .int .i64 c, .int .i64 d] 3) {q : Nat} (h : s ≠ q) : Ints.Sees ((((W.setCell ⟨q, 0, none⟩ x).setCell ⟨q, 1, none⟩ y).setCell ⟨q, 2, none⟩ z).setCell ⟨q, 3, none⟩ u).heap.size ((((W.setCell ⟨q, 0, none⟩ x).setCell ⟨q, 1, none⟩ y).setCell ⟨q, 2, none⟩ z).setCell ⟨q, 3, none⟩ u) (.slice (some ⟨s, 0, none⟩) 3 4) [a, b, c] := sees3 (toldT T h)
theorem cell4 (T : Blk W s #[.int .i64 a, .int .i64 b, .int .i64 c, .int .i64 d] 3) (j : Nat) (hj : j < 4) : ∃ n, W.cell? ⟨s, j, none⟩ = some (.int .i64 n) := by
  rw [T.cell]
  match j, hj with
  | 0, _ => exact ⟨_, rfl⟩
  | 1, _ => exact ⟨_, rfl⟩
  | 2, _ => exact ⟨_, rfl⟩
  | 3, _ => exact ⟨_, rfl⟩
theorem set4 (T : Blk W s #[.int .i64 a, .int .i64 b, .int .i64 c, .int .i64 d] 3) (j : Nat) (hj : j < 4) (n : Int) : ∃ a' b' c' d', Blk (W.setCell ⟨s, j, none⟩ (.int .i64 n)) s #[.int .i64 a', .int .i64 b', .int .i64 c', .int .i64 d'] 3 := by
  have := T.set j (.int .i64 n)
  match j, hj with
  | 0, _ => exact ⟨_, _, _, _, this⟩
  | 1, _ => exact ⟨_, _, _, _, this⟩
  | 2, _ => exact ⟨_, _, _, _, this⟩
  | 3, _ => exact ⟨_, _, _, _, this⟩
end

/-- what is drawn -/
def Drawn (w : World) (e : Ending) (w' : World) : Prop := ∃ k a b c v' zs, e = .returned (.tuple #[opV k a b c, v']) ∧ (-10 ≤ k ∧ k ≤ 20) ∧ Ints.Sees w'.heap.size w' v' zs ∧ zs.length ≤ 4 ∧ Below w.heap.size w w'

set_option maxRecDepth 100000 in
set_option maxHeartbeats 4000000 in
theorem drawCalcC (B : Nat) (v : Value) (l : List UInt8) (w : World) (hC : Draw.Code B w v l) (hB : B ≤ w.heap.size) (hl : l.length ≤ 1048576) :
    Calls Try.prog 8 #[v] w (Drawn w) := by
  have HC : Hid (Draw.Code B (w.alloc (.cells #[.int .i64 0, .int .i64 0, .int .i64 0, .int .i64 0] 25)) v l) := hC.below ((Below.refl B w).alloc hB _)
  have c0 := newC B v l _ HC.out (by simp; omega) hl
  have R0 := Blk.new w #[.int .i64 0, .int .i64 0, .int .i64 0, .int .i64 0] 25
  have b0 := alloc_below w (.cells #[.int .i64 0, .int .i64 0, .int .i64 0, .int .i64 0] 25)
  have hs : (w.alloc (.cells #[.int .i64 0, .int .i64 0, .int .i64 0, .int .i64 0] 25)).heap.size = w.heap.size + 1 := by simp
  rw [hs] at c0
  clear hC
  go_enter Try.func8, Try.ntmps8
  go_wp2_with fail
  refine c0.mono ?_
  rintro e w1 ⟨rfl, C1, G1⟩
  have D1 : Dr B (w.heap.size + 1) v l w1 := ⟨_, C1⟩
  have R1 := R0.grown G1 (fun e => by cases e)
  have b1 := b0.grown G1 b0.size (fun k hk => by cases hk)
  clear c0 C1 G1 R0 b0 hs HC
  obtain ⟨g, hg⟩ : ∃ g, w.heap.size + 1 = g := ⟨_, rfl⟩
  have g1 : w.heap.size < g := by omega
  rw [hg] at D1 ⊢
  clear hg
  go_wp2_with fail
  refine (belowE D1 4 (by omega)).mono ?_
  rintro e w2 ⟨r, rfl, x1, x2, D2, G2⟩
  have R2 := R1.grown G2 (fun e => by injection e; omega)
  have b2 := b1.grown G2 b1.size (fun k hk => by cases hk; omega)
  clear D1 R1 b1 G2
  go_wp2_with fail
  refine (plainE D2 (1 + r) (by omega) (by omega)).mono ?_
  rintro e w3 ⟨a, b, c, rfl, D3, G3⟩
  have R3 := R2.grown G3 (fun e => by injection e; omega)
  have b3 := b2.grown G3 b2.size (fun k hk => by cases hk; omega)
  have eV : opV (1 + r) a b c = .agg #[.int .i64 (1 + r), .int .i64 a, .int .i64 b, .int .i64 c] := rfl
  rw [eV]
  clear eV
  have hk : -10 ≤ 1 + r ∧ 1 + r ≤ 20 := by omega
  obtain ⟨k, hk'⟩ : ∃ k, 1 + r = k := ⟨_, rfl⟩
  rw [hk'] at hk ⊢
  have P : DSt B g v l w (w3.alloc (.cells #[.int .i64 k, .int .i64 a, .int .i64 b, .int .i64 c] 25)) w3.heap.size #[.int .i64 k, .int .i64 a, .int .i64 b, .int .i64 c] :=
    { D := D3.alloc _, bel := b3.alloc b3.size _, R := R3.on (alloc_below _ _) R3.lt, O := Blk.new w3 _ _, g1 := g1, g2 := D3.lt }
  clear D2 R2 b2 G3 D3 R3 b3 hk'
  obtain ⟨p, hp⟩ : ∃ p, w3.heap.size = p := ⟨_, rfl⟩
  obtain ⟨W3, hW3⟩ : ∃ W3, w3.alloc (.cells #[.int .i64 k, .int .i64 a, .int .i64 b, .int .i64 c] 25) = W3 := ⟨_, rfl⟩
  rw [hW3, hp] at P
  go_wp2_with fail
  clear hW3 hp
  refine (onceE P.D 6).mono ?_
  rintro e w4 ⟨q, rfl, D, G⟩
  have P := P.call D G
  clear D G
  cases q
  · go_wp2_with fail
    refine (drawE P.D).mono ?_
    rintro e w6 ⟨z0, rfl, -, -, D, G⟩
    have P := P.call D G
    clear D G
    go_wp2_with fail
    refine (drawE P.D).mono ?_
    rintro e w7 ⟨z1, rfl, -, -, D, G⟩
    have P := P.call D G
    clear D G
    go_wp2_with fail
    refine (drawE P.D).mono ?_
    rintro e w8 ⟨z2, rfl, -, -, D, G⟩
    have P := P.call D G
    clear D G
    go_wp2_with fail
    refine (drawE P.D).mono ?_
    rintro e w9 ⟨z3, rfl, -, -, D, G⟩
    have P := P.call D G
    clear D G
    have T := Blk.new w9 #[.int .i64 z0, .int .i64 z1, .int .i64 z2, .int .i64 z3] 3
    have hgs : g < w9.heap.size := P.D.lt
    have hps : p < w9.heap.size := P.O.lt
    have P := P.new (.cells #[.int .i64 z0, .int .i64 z1, .int .i64 z2, .int .i64 z3] 3)
    obtain ⟨s, hs⟩ : ∃ s, w9.heap.size = s := ⟨_, rfl⟩
    obtain ⟨W9, hW9⟩ : ∃ W9, w9.alloc (.cells #[.int .i64 z0, .int .i64 z1, .int .i64 z2, .int .i64 z3] 3) = W9 := ⟨_, rfl⟩
    rw [hW9] at P T
    rw [hs] at T hgs hps
    go_wp2_with fail
    clear hs hW9
    refine (belowE P.D 12 (by omega)).mono ?_
    rintro e w10 ⟨r', rfl, y1, y2, D, G⟩
    have P := P.call D G
    have T := T.grown G (fun e => by injection e; omega)
    clear D G
    have hne : p ≠ w.heap.size := by have := P.g1; have := P.g2; omega
    have hne' : w.heap.size ≠ p := fun e => hne e.symm
    have hsn : s ≠ w.heap.size := by have := P.g1; omega
    have hsn' : w.heap.size ≠ s := fun e => hsn e.symm
    rcases (show r' = 0 ∨ r' = 1 ∨ 2 ≤ r' by omega) with rfl | rfl | h2
    · have o0 := P.O.cell 0; have o1 := P.O.cell 1; have o2 := P.O.cell 2; have o3 := P.O.cell 3
      have q0 := P.R.cell 0; have q1 := P.R.cell 1; have q2 := P.R.cell 2; have q3 := P.R.cell 3
      have e0 := P.R.froz 0; have e1 := P.R.froz 1; have e2 := P.R.froz 2; have e3 := P.R.froz 3
      go_wp2_with fail
      go_region
      all_goals
        go_wp2
        refine bodyPost_ret (v := .tuple #[.agg #[.int .i64 k, .int .i64 a, .int .i64 b, .int .i64 c], .slice (some ⟨s, 0, none⟩) 3 4]) (by simp [results, Try.results8, go_sem, *]) rfl ⟨_, _, _, _, _, [z0, z1, z2], rfl, hk, ?_, by simp, ?_⟩
        · exact told3 T hsn
        · exact (toldB P).drew
    · have i0 := T.cell 0; have i1 := T.cell 1; have i2 := T.cell 2; have i3 := T.cell 3
      go_wp2_with fail
      refine (belowE P.D 4 (by omega)).mono ?_
      rintro e w11 ⟨r4, rfl, u1, u2, D, G⟩
      have P := P.call D G
      have T := T.grown G (fun e => by injection e; omega)
      clear D G i0 i1 i2 i3
      obtain ⟨j, rfl⟩ := Int.eq_ofNat_of_zero_le u1
      have hj : j < 4 := by omega
      obtain ⟨nj, oj⟩ := cell4 T j hj
      have fz := fun i => T.froz i
      have o0 := P.O.cell 0; have o1 := P.O.cell 1; have o2 := P.O.cell 2; have o3 := P.O.cell 3
      have q0 := P.R.cell 0; have q1 := P.R.cell 1; have q2 := P.R.cell 2; have q3 := P.R.cell 3
      have e0 := P.R.froz 0; have e1 := P.R.froz 1; have e2 := P.R.froz 2; have e3 := P.R.froz 3
      have hsp : s ≠ p := by omega
      have hsp' : p ≠ s := by omega
      obtain ⟨y0, y1', y2', y3, T'⟩ := set4 T j hj 65536
      go_wp2
      refine bodyPost_ret (v := .tuple #[.agg #[.int .i64 k, .int .i64 a, .int .i64 b, .int .i64 c], .slice (some ⟨s, 0, none⟩) 4 4]) (by simp [results, Try.results8, go_sem, *]) rfl ⟨_, _, _, _, _, [y0, y1', y2', y3], rfl, hk, ?_, by simp, ?_⟩
      · exact told4 T' hsn
      · exact toldB' P (by have := P.g1; omega)
    · have d0 : (r' == 0) = false := by simp; omega
      have d1 : (r' == 1) = false := by simp; omega
      have o0 := P.O.cell 0; have o1 := P.O.cell 1; have o2 := P.O.cell 2; have o3 := P.O.cell 3
      have q0 := P.R.cell 0; have q1 := P.R.cell 1; have q2 := P.R.cell 2; have q3 := P.R.cell 3
      have e0 := P.R.froz 0; have e1 := P.R.froz 1; have e2 := P.R.froz 2; have e3 := P.R.froz 3
      go_wp2
      refine bodyPost_ret (v := .tuple #[.agg #[.int .i64 k, .int .i64 a, .int .i64 b, .int .i64 c], .slice (some ⟨s, 0, none⟩) 4 4]) (by simp [results, Try.results8, go_sem, *]) rfl ⟨_, _, _, _, _, [z0, z1, z2, z3], rfl, hk, ?_, by simp, ?_⟩
      · exact told4 T hsn
      · exact toldB P

  · go_wp2_with fail
    refine (anyE P.D).mono ?_
    rintro e w5 ⟨k', a', b', c', rfl, hk5, D, G⟩
    have P := P.call D G
    clear D G
    have eV : opV k' a' b' c' = .agg #[.int .i64 k', .int .i64 a', .int .i64 b', .int .i64 c'] := rfl
    rw [eV]
    clear eV
    have o0 := P.O.cell 0; have o1 := P.O.cell 1; have o2 := P.O.cell 2; have o3 := P.O.cell 3
    have e0 := P.O.froz 0; have e1 := P.O.froz 1; have e2 := P.O.froz 2; have e3 := P.O.froz 3
    have P := (((P.set 0 (.int .i64 k')).set 1 (.int .i64 a')).set 2 (.int .i64 b')).set 3 (.int .i64 c')
    go_wp2_with fail
    clear o0 o1 o2 o3 e0 e1 e2 e3
    refine (drawE P.D).mono ?_
    rintro e w6 ⟨z0, rfl, -, -, D, G⟩
    have P := P.call D G
    clear D G
    go_wp2_with fail
    refine (drawE P.D).mono ?_
    rintro e w7 ⟨z1, rfl, -, -, D, G⟩
    have P := P.call D G
    clear D G
    go_wp2_with fail
    refine (drawE P.D).mono ?_
    rintro e w8 ⟨z2, rfl, -, -, D, G⟩
    have P := P.call D G
    clear D G
    go_wp2_with fail
    refine (drawE P.D).mono ?_
    rintro e w9 ⟨z3, rfl, -, -, D, G⟩
    have P := P.call D G
    clear D G
    have T := Blk.new w9 #[.int .i64 z0, .int .i64 z1, .int .i64 z2, .int .i64 z3] 3
    have hgs : g < w9.heap.size := P.D.lt
    have hps : p < w9.heap.size := P.O.lt
    have P := P.new (.cells #[.int .i64 z0, .int .i64 z1, .int .i64 z2, .int .i64 z3] 3)
    obtain ⟨s, hs⟩ : ∃ s, w9.heap.size = s := ⟨_, rfl⟩
    obtain ⟨W9, hW9⟩ : ∃ W9, w9.alloc (.cells #[.int .i64 z0, .int .i64 z1, .int .i64 z2, .int .i64 z3] 3) = W9 := ⟨_, rfl⟩
    rw [hW9] at P T
    rw [hs] at T hgs hps
    go_wp2_with fail
    clear hs hW9
    refine (belowE P.D 12 (by omega)).mono ?_
    rintro e w10 ⟨r', rfl, y1, y2, D, G⟩
    have P := P.call D G
    have T := T.grown G (fun e => by injection e; omega)
    clear D G
    have hne : p ≠ w.heap.size := by have := P.g1; have := P.g2; omega
    have hne' : w.heap.size ≠ p := fun e => hne e.symm
    have hsn : s ≠ w.heap.size := by have := P.g1; omega
    have hsn' : w.heap.size ≠ s := fun e => hsn e.symm
    rcases (show r' = 0 ∨ r' = 1 ∨ 2 ≤ r' by omega) with rfl | rfl | h2
    · have o0 := P.O.cell 0; have o1 := P.O.cell 1; have o2 := P.O.cell 2; have o3 := P.O.cell 3
      have q0 := P.R.cell 0; have q1 := P.R.cell 1; have q2 := P.R.cell 2; have q3 := P.R.cell 3
      have e0 := P.R.froz 0; have e1 := P.R.froz 1; have e2 := P.R.froz 2; have e3 := P.R.froz 3
      go_wp2_with fail
      go_region
      all_goals
        go_wp2
        refine bodyPost_ret (v := .tuple #[.agg #[.int .i64 k', .int .i64 a', .int .i64 b', .int .i64 c'], .slice (some ⟨s, 0, none⟩) 3 4]) (by simp [results, Try.results8, go_sem, *]) rfl ⟨_, _, _, _, _, [z0, z1, z2], rfl, hk5, ?_, by simp, ?_⟩
        · exact told3 T hsn
        · exact (toldB P).drew
    · have i0 := T.cell 0; have i1 := T.cell 1; have i2 := T.cell 2; have i3 := T.cell 3
      go_wp2_with fail
      refine (belowE P.D 4 (by omega)).mono ?_
      rintro e w11 ⟨r4, rfl, u1, u2, D, G⟩
      have P := P.call D G
      have T := T.grown G (fun e => by injection e; omega)
      clear D G i0 i1 i2 i3
      obtain ⟨j, rfl⟩ := Int.eq_ofNat_of_zero_le u1
      have hj : j < 4 := by omega
      obtain ⟨nj, oj⟩ := cell4 T j hj
      have fz := fun i => T.froz i
      have o0 := P.O.cell 0; have o1 := P.O.cell 1; have o2 := P.O.cell 2; have o3 := P.O.cell 3
      have q0 := P.R.cell 0; have q1 := P.R.cell 1; have q2 := P.R.cell 2; have q3 := P.R.cell 3
      have e0 := P.R.froz 0; have e1 := P.R.froz 1; have e2 := P.R.froz 2; have e3 := P.R.froz 3
      have hsp : s ≠ p := by omega
      have hsp' : p ≠ s := by omega
      obtain ⟨y0, y1', y2', y3, T'⟩ := set4 T j hj 65536
      go_wp2
      refine bodyPost_ret (v := .tuple #[.agg #[.int .i64 k', .int .i64 a', .int .i64 b', .int .i64 c'], .slice (some ⟨s, 0, none⟩) 4 4]) (by simp [results, Try.results8, go_sem, *]) rfl ⟨_, _, _, _, _, [y0, y1', y2', y3], rfl, hk5, ?_, by simp, ?_⟩
      · exact told4 T' hsn
      · exact toldB' P (by have := P.g1; omega)
    · have d0 : (r' == 0) = false := by simp; omega
      have d1 : (r' == 1) = false := by simp; omega
      have o0 := P.O.cell 0; have o1 := P.O.cell 1; have o2 := P.O.cell 2; have o3 := P.O.cell 3
      have q0 := P.R.cell 0; have q1 := P.R.cell 1; have q2 := P.R.cell 2; have q3 := P.R.cell 3
      have e0 := P.R.froz 0; have e1 := P.R.froz 1; have e2 := P.R.froz 2; have e3 := P.R.froz 3
      go_wp2
      refine bodyPost_ret (v := .tuple #[.agg #[.int .i64 k', .int .i64 a', .int .i64 b', .int .i64 c'], .slice (some ⟨s, 0, none⟩) 4 4]) (by simp [results, Try.results8, go_sem, *]) rfl ⟨_, _, _, _, _, [z0, z1, z2, z3], rfl, hk5, ?_, by simp, ?_⟩
      · exact told4 T hsn
      · exact toldB P

end Ops
end Go.Proofs.Ytbkhghndlcmfiaa
