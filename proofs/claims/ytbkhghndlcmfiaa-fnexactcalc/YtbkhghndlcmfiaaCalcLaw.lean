/- The law of Calc. -/
import Derived.Test.YtbkhghndlcmfiaaCalcSpec
import Derived.Test.YtbkhghndlcmfiaaCalcImpl
import Derived.Test.YtbkhghndlcmfiaaOpLaw
set_option linter.unusedVariables false
namespace Go.Proofs.Ytbkhghndlcmfiaa
open Go.RowKit
namespace Ops
open Bas

/-- what the law holds: its argument; what the specification answered; the argument's copy; what the program answered -/
structure CSt (w W : World) (cs : Array Value) (v v3 v4 v6 : Value) (B1 B2 : Nat) (zs zr zx zg : List Int) : Prop where
  bel : Below w.heap.size w W
  X : Blk W w.heap.size cs 33
  see : Ints.Sees w.heap.size W v zs
  O3 : Ints.Sees B1 W v3 zr
  O4 : Ints.Owns B1 W v4 zx
  O6 : Ints.Owns B2 W v6 zg
  d4 : ∀ k, v4.ownBlock = some k → B1 ≤ k ∧ k < B2
  q1 : w.heap.size < B1
  q2 : B1 ≤ B2
  q3 : B2 ≤ W.heap.size
section
variable {w W W' : World} {cs : Array Value} {v v3 v4 v6 : Value} {B1 B2 : Nat} {zs zr zx zg : List Int}
theorem CSt.on (h : CSt w W cs v v3 v4 v6 B1 B2 zs zr zx zg) (hb : Below W.heap.size W W') : CSt w W' cs v v3 v4 v6 B1 B2 zs zr zx zg :=
  have a1 := h.q1; have a2 := h.q2; have a3 := h.q3
  { bel := h.bel.trans (hb.mono h.bel.size), X := h.X.on hb h.X.lt, see := h.see.on hb h.bel.size, O3 := h.O3.on hb (by omega), O4 := h.O4.on hb (Nat.le_refl _), O6 := h.O6.on hb (Nat.le_refl _), d4 := h.d4, q1 := a1, q2 := a2, q3 := by have := hb.size; omega }
theorem CSt.s3 (h : CSt w W cs v v3 v4 v6 B1 B2 zs zr zx zg) : Ints.Sees W.heap.size W v3 zr := h.O3.up (by have := h.q2; have := h.q3; omega)
theorem CSt.mark4 (h : CSt w W cs v v3 v4 v6 B1 B2 zs zr zx zg) (hg : W.grownBy W' v4.ownBlock) {zx' : List Int} (hO : Ints.Owns B1 W' v4 zx') : CSt w W' cs v v3 v4 v6 B1 B2 zs zr zx' zg :=
  have a1 := h.q1; have a2 := h.q2; have a3 := h.q3
  { bel := h.bel.grown hg h.bel.size (fun k hk => by have := h.d4 k hk; omega), X := h.X.grown hg (fun e => by have := h.d4 _ e.symm; omega), see := h.see.grown hg h.bel.size (fun k hk => by have := h.d4 k hk; omega),
    O3 := h.O3.grown hg (by omega) (fun k hk => (h.d4 k hk).1), O4 := hO, O6 := h.O6.grown hg (fun k hk e => by have := h.d4 _ e.symm; have := h.O6.at k hk; omega), d4 := h.d4, q1 := a1, q2 := a2, q3 := by have := hg.size; omega }
theorem CSt.mark6 (h : CSt w W cs v v3 v4 v6 B1 B2 zs zr zx zg) (hg : W.grownBy W' v6.ownBlock) {zg' : List Int} (hO : Ints.Owns B2 W' v6 zg') : CSt w W' cs v v3 v4 v6 B1 B2 zs zr zx zg' :=
  have a1 := h.q1; have a2 := h.q2; have a3 := h.q3
  { bel := h.bel.grown hg h.bel.size (fun k hk => by have := h.O6.at k hk; omega), X := h.X.grown hg (fun e => by have := h.O6.at _ e.symm; omega), see := h.see.grown hg h.bel.size (fun k hk => by have := h.O6.at k hk; omega),
    O3 := h.O3.grown hg (by omega) (fun k hk => by have := h.O6.at k hk; omega), O4 := h.O4.grown hg (fun k hk e => by have := h.d4 _ hk; have := h.O6.at k e.symm; omega), O6 := hO, d4 := h.d4, q1 := a1, q2 := a2, q3 := by have := hg.size; omega }
end

set_option maxRecDepth 100000 in
set_option maxHeartbeats 4000000 in
theorem lawCalc (k a b c : Int) (v : Value) (zs : List Int) (w : World) (hwf : (Lit.int .i64 k).wf = true) (hv : Ints.Sees w.heap.size w v zs) : Calls Try.prog 5 #[opV k a b c, v] w fun e w' => e = .returned (.bool true) ∧ Below w.heap.size w w' := by
  obtain ⟨r, cap, rfl⟩ := hv.form
  have eV : opV k a b c = .agg #[.int .i64 k, .int .i64 a, .int .i64 b, .int .i64 c] := rfl
  have b0 := alloc_below w (.cells #[.int .i64 k, .int .i64 a, .int .i64 b, .int .i64 c] 33)
  have O0 := Blk.new w #[.int .i64 k, .int .i64 a, .int .i64 b, .int .i64 c] 33
  have hv0 := hv.on b0 (Nat.le_refl _)
  have hs0 := O0.lt
  rw [eV]
  obtain ⟨n, hn⟩ : ∃ n, zs.length = n := ⟨_, rfl⟩
  by_cases hlen : n ≤ 1048576
  · obtain ⟨zr, hzr⟩ : ∃ zr, calcTo k a b c zs = zr := ⟨_, rfl⟩
    obtain ⟨q, hq⟩ : ∃ q, calcMay k a b c zs = q := ⟨_, rfl⟩
    have hm : zr.length = n := by rw [← hzr, calcTo_length]; exact hn
    have cS := calcSpecC k a b c
    have cI := fun u B W => calcImplC k a b c u zs B W hwf
    rw [eV] at cS cI
    have cS := fun u B W h1 h2 => cS u zs B W h1 h2 (by omega)
    have cI := fun u B W h1 h2 => cI u B W h1 h2 (by omega)
    rw [hzr, hq] at cS cI
    have HS := (show Hid _ from cS)
    have HI := (show Hid _ from cI)
    clear cS cI hzr hq
    have tO := toOpC k a b c
    rw [eV] at tO
    have HT := (show Hid _ from tO)
    clear tO
    have hm1 : 0 ≤ 1 + (n : Int) := by omega
    rw [hn] at hv0 hv ⊢
    obtain ⟨W0, hW0⟩ : ∃ W0, w.alloc (.cells #[.int .i64 k, .int .i64 a, .int .i64 b, .int .i64 c] 33) = W0 := ⟨_, rfl⟩
    rw [hW0] at O0 b0 hv0 hs0
    have c0 := O0.cell 0; have c1 := O0.cell 1; have c2 := O0.cell 2; have c3 := O0.cell 3
    go_enter Try.func5, Try.ntmps5
    go_wp2_with fail
    clear hW0 c0 c1 c2 c3
    refine (HT.out W0).mono ?_
    rintro e w1 ⟨rfl, b1⟩
    have hv1 := hv0.on b1 (by omega)
    go_wp2_with fail
    refine (Ints.toIntsC _ zs _ w1 hv1 (by have := b1.size; omega) (by omega)).mono ?_
    rintro e w2 ⟨v2, rfl, P2, b2⟩
    obtain ⟨a2, cap2, rfl⟩ := P2.form
    rw [hn] at P2 ⊢
    have bb2 := b1.trans (b2.mono b1.size)
    go_wp2_with fail
    refine (HS.out _ w2.heap.size w2 P2.sees (Nat.le_refl _)).mono ?_
    rintro e w3 ⟨v3, rfl, O3, b3⟩
    obtain ⟨a3, cap3, rfl⟩ := O3.form
    rw [hm] at O3 ⊢
    have bb3 := bb2.trans (b3.mono bb2.size)
    have X3 := O0.on bb3 hs0
    have hv3 := hv0.on bb3 (by omega)
    have S3 := O3.sees
    clear hv1 P2 b1 b2 b3 bb2 O3
    go_wp2_with fail
    refine (Ints.toIntsC _ zs _ w3 hv3 (by have := bb3.size; omega) (by omega)).mono ?_
    rintro e w4 ⟨v4, rfl, P4, b4⟩
    obtain ⟨a4, cap4, rfl⟩ := P4.form
    rw [hn] at P4 ⊢
    have X4 := X3.on b4 X3.lt
    have hv4 := hv3.on b4 (by have := X3.lt; omega)
    have S4 := S3.on b4 (Nat.le_refl _)
    have c0 := X4.cell 0; have c1 := X4.cell 1; have c2 := X4.cell 2; have c3 := X4.cell 3
    go_wp2_with fail
    clear c0 c1 c2 c3
    refine (HT.out w4).mono ?_
    rintro e w5 ⟨rfl, b5⟩
    have P5 := P4.on b5 (Nat.le_refl _)
    have d4 : ∀ k, (Value.slice a4 n cap4).ownBlock = some k → w3.heap.size ≤ k ∧ k < w5.heap.size := fun k hk => by have := P4.at k hk; have := b5.size; omega
    go_wp2_with fail
    refine (HI.out _ w5.heap.size w5 P5.sees (Nat.le_refl _)).mono ?_
    rintro e w6 ⟨v6, rfl, P6, b6⟩
    obtain ⟨a6, cap6, rfl⟩ := P6.form
    rw [hm] at P6 ⊢
    have b56 := b5.trans (b6.mono b5.size)
    have b36 := b4.trans (b56.mono b4.size)
    have S : CSt w w6 #[.int .i64 k, .int .i64 a, .int .i64 b, .int .i64 c] (.slice r n cap) (.slice a3 n cap3) (.slice a4 n cap4) (.slice a6 n cap6) w3.heap.size w5.heap.size zs zr zs zr :=
      { bel := b0.trans ((bb3.trans (b36.mono bb3.size)).mono b0.size), X := X4.on b56 X4.lt, see := hv4.on b56 (by have := X4.lt; omega), O3 := S4.on b56 (b4.size), O4 := P5.on b6 (Nat.le_refl _), O6 := P6, d4 := d4, q1 := X3.lt, q2 := by have := b4.size; have := b5.size; omega, q3 := b6.size }
    clear X3 X4 hv3 hv4 S3 S4 P4 P5 P6 b4 b5 b6 b56 b36 bb3 O0 hv0 d4 b0
    go_wp2_with fail
    refine (Ints.eqIntsC _ _ zr w6.heap.size w6 S.O6.sees S.s3 (Nat.le_refl _)).mono ?_
    rintro e w7 ⟨rfl, b7⟩
    have S := S.on b7
    clear b7
    go_wp2_with fail
    refine (Ints.toIntsC _ zs _ w7 S.see S.bel.size (by omega)).mono ?_
    rintro e w8 ⟨v8, rfl, P8, b8⟩
    obtain ⟨a8, cap8, rfl⟩ := P8.form
    rw [hn] at P8 ⊢
    have S := S.on b8
    clear b8
    go_wp2_with fail
    refine (Ints.eqIntsC _ _ zs w8.heap.size w8 S.O4.sees P8.sees (Nat.le_refl _)).mono ?_
    rintro e w9 ⟨rfl, b9⟩
    have S := S.on b9
    clear b9 P8
    go_wp2_with fail
    refine (Ints.markIntsC _ zs _ w9 S.O4 (by omega)).mono ?_
    rintro e w10 ⟨rfl, M, g⟩
    rw [hn] at M ⊢
    have S := S.mark4 g M
    clear M g
    go_wp2_with fail
    refine (Ints.eqIntsC _ _ zr w10.heap.size w10 S.O6.sees S.s3 (Nat.le_refl _)).mono ?_
    rintro e w11 ⟨rfl, b11⟩
    have S := S.on b11
    clear b11
    go_wp2_with fail
    refine (Ints.markIntsC _ zr _ w11 S.O6 (by omega)).mono ?_
    rintro e w12 ⟨rfl, M, g⟩
    rw [hm] at M ⊢
    have S := S.mark6 g M
    clear M g
    go_wp2_with fail
    refine (Ints.heldIntsC _ n _ w12 S.O6.sees hlen).mono ?_
    rintro e w13 ⟨rfl, rfl⟩
    have c0 := S.X.cell 0; have c1 := S.X.cell 1; have c2 := S.X.cell 2; have c3 := S.X.cell 3
    go_wp2_with fail
    clear c0 c1 c2 c3
    refine (HT.out w12).mono ?_
    rintro e w14 ⟨rfl, b14⟩
    have S := S.on b14
    clear b14
    go_wp2_with fail
    refine (Ints.toIntsC _ zs _ w14 S.see S.bel.size (by omega)).mono ?_
    rintro e w15 ⟨v15, rfl, P15, b15⟩
    obtain ⟨a15, cap15, rfl⟩ := P15.form
    rw [hn] at P15 ⊢
    have S := S.on b15
    clear b15
    go_wp2_with fail
    refine (HI.out _ w15.heap.size w15 P15.sees (Nat.le_refl _)).mono ?_
    rintro e w16 ⟨v16, rfl, P16, b16⟩
    obtain ⟨a16, cap16, rfl⟩ := P16.form
    rw [hm] at P16 ⊢
    have S := S.on b16
    clear b16 P15
    go_wp2_with fail
    refine (Ints.eqIntsC _ _ zr w16.heap.size w16 P16.sees S.s3 (Nat.le_refl _)).mono ?_
    rintro e w17 ⟨rfl, b17⟩
    have S := S.on b17
    clear b17 P16
    go_wp2_with fail
    refine (Ints.heldIntsC _ n _ w17 S.O6.sees hlen).mono ?_
    rintro e w18 ⟨rfl, rfl⟩
    go_wp2
    go_ret
    exact ⟨rfl, S.bel⟩
  · rw [hn]
    have hl : decide (1048576 < (n : Int)) = true := decide_eq_true (by omega)
    go_enter Try.func5, Try.ntmps5
    go_wp2
    go_ret
    exact ⟨rfl, b0⟩
end Ops
end Go.Proofs.Ytbkhghndlcmfiaa
