/- FnCalc answers true at every code. -/
import Derived.Test.YtbkhghndlcmfiaaCalcMath
import Derived.Test.YtbkhghndlcmfiaaCalcImpl
import Derived.Test.YtbkhghndlcmfiaaCalcDraw
import Derived.Test.YtbkhghndlcmfiaaIntSame
import Derived.Test.YtbkhghndlcmfiaaArgs
import Derived.Deep.QuietTactic
import Derived.BigQuiet
set_option linter.unusedVariables false
namespace Go.Proofs.Ytbkhghndlcmfiaa
open Go.RowKit
namespace Ops
open Bas Draw

set_option maxRecDepth 100000 in
theorem fnBig (a : Option Addr) (len cap : Nat) (w : World) (hb : 1048576 < len) :
    Calls Try.prog 3 #[.slice a len cap] w fun e w' => e = .returned (.bool true) ∧ Below w.heap.size w w' := by
  have hbg : decide ((1048576 : Int) < (len : Int)) = true := by simp; omega
  go_enter Try.func3, Try.ntmps3
  go_wp2_with fail
  refine (Ints.bigC a len cap w).mono ?_
  rw [hbg]
  rintro e w0 ⟨rfl, rfl⟩
  go_wp2
  go_ret
  exact ⟨rfl, Below.refl _ _⟩

theorem wf_small {k : Int} (h : -10 ≤ k ∧ k ≤ 20) : (Lit.int .i64 k).wf = true := WalkArith.wf_i64 (by omega)

set_option maxRecDepth 100000 in
set_option maxHeartbeats 4000000 in
theorem fnCalc (l : List UInt8) (a : Option Addr) (cap : Nat) (w : World) (hC : Draw.Code w.heap.size w (.slice a l.length cap) l) (hl : l.length ≤ 1048576) :
    Calls Try.prog 3 #[.slice a l.length cap] w fun e w' => e = .returned (.bool true) ∧ Below w.heap.size w w' := by
  have hbg : decide ((1048576 : Int) < (l.length : Int)) = false := by simp; omega
  have c0 := drawCalcC w.heap.size _ l w hC (Nat.le_refl _) hl
  obtain ⟨n, hn⟩ : ∃ n, l.length = n := ⟨_, rfl⟩
  rw [hn] at hbg c0 ⊢
  clear hC
  go_enter Try.func3, Try.ntmps3
  go_wp2_with fail
  refine (Ints.bigC a n cap w).mono ?_
  rw [hbg]
  rintro e w0 ⟨rfl, rfl⟩
  go_wp2_with fail
  refine c0.mono ?_
  rintro e w1 ⟨k, x, b, c, v', zs, rfl, hk, hv, h4, b1⟩
  obtain ⟨r, cap1, rfl⟩ := hv.form
  have eV : opV k x b c = .agg #[.int .i64 k, .int .i64 x, .int .i64 b, .int .i64 c] := rfl
  have O1 := Blk.new w1 #[.int .i64 k, .int .i64 x, .int .i64 b, .int .i64 c] 25
  have b2 := alloc_below w1 (.cells #[.int .i64 k, .int .i64 x, .int .i64 b, .int .i64 c] 25)
  have hv1 := hv.on b2 (Nat.le_refl _)
  have bb := b1.trans (b2.mono b1.size)
  have hq : w1.heap.size < (w1.alloc (.cells #[.int .i64 k, .int .i64 x, .int .i64 b, .int .i64 c] 25)).heap.size := O1.lt
  have hwp : w.heap.size ≤ w1.heap.size := b1.size
  rw [eV]
  obtain ⟨W1, hW1⟩ : ∃ W1, w1.alloc (.cells #[.int .i64 k, .int .i64 x, .int .i64 b, .int .i64 c] 25) = W1 := ⟨_, rfl⟩
  obtain ⟨p, hp⟩ : ∃ p, w1.heap.size = p := ⟨_, rfl⟩
  obtain ⟨m, hm⟩ : ∃ m, zs.length = m := ⟨_, rfl⟩
  rw [hW1] at O1 hv1 bb hq
  rw [hp] at O1 hq hv1 hwp
  rw [hm] at hv1 h4
  rw [hm]
  have o0 := O1.cell 0; have o1 := O1.cell 1; have o2 := O1.cell 2; have o3 := O1.cell 3
  have cI := calcImplC k x b c (.slice r m cap1) zs p W1 (wf_small hk) hv1 (by omega) (by omega)
  have HS := (show Hid _ from fun W h1 h2 => calcSpecC k x b c (.slice r m cap1) zs p W h1 h2 (by omega))
  have HT := (show Hid _ from fun W => touchImpl k x b c W)
  rw [eV] at cI HS HT
  clear eV b1 b2 hv c0 hbg
  go_wp2_with fail
  clear hW1 hp o0 o1 o2 o3
  refine cI.mono ?_
  rintro e w2 ⟨v2, rfl, P2, b2⟩
  obtain ⟨r2, cap2, rfl⟩ := P2.form
  have hm2 : (calcTo k x b c zs).length = m := by rw [calcTo_length, hm]
  rw [hm2] at P2 ⊢
  have O2 := O1.on b2 hq
  have hv2 := hv1.on b2 (by omega)
  have bb2 := bb.trans (b2.mono bb.size)
  have o0 := O2.cell 0; have o1 := O2.cell 1; have o2 := O2.cell 2; have o3 := O2.cell 3
  have hs2 : p < w2.heap.size := O2.lt
  clear cI O1 hv1 bb
  go_wp2_with fail
  clear o0 o1 o2 o3
  refine (HS.out w2 hv2 (by omega)).mono ?_
  rintro e w3 ⟨v3, rfl, P3, b3⟩
  obtain ⟨r3, cap3, rfl⟩ := P3.form
  have O3 := O2.on b3 hs2
  have hv3 := hv2.on b3 (by omega)
  have S3 := (P2.on b3 (Nat.le_refl _)).sees
  have bb3 := bb2.trans (b3.mono bb2.size)
  have hs3 : p < w3.heap.size := O3.lt
  clear P2 P3 b2 b3 O2 hv2 bb2 HS
  obtain ⟨q, hq'⟩ : ∃ q, calcMay k x b c zs = q := ⟨_, rfl⟩
  rw [hq']
  have HQ : Hid (calcMay k x b c zs = q) := hq'
  clear hq'
  cases q
  · rw [calcTo_no HQ.out] at S3
    go_wp2_with fail
    refine (Ints.sameIntsC _ _ zs w3.heap.size w3 S3 (hv3.up (by omega)) (Nat.le_refl _)).mono ?_
    rintro e w4 ⟨rfl, b4⟩
    go_wp2
    go_ret
    exact ⟨rfl, bb3.trans (b4.mono bb3.size)⟩
  · obtain ⟨m1, m2, m3⟩ := may_out HQ.out
    have hlen := (regsOk_out m2).1
    obtain rfl : m = 4 := by omega
    have HB : Hid (calcTo 3 0 0 1 (calcTo 2 0 0 1 zs) = zs) := back m2
    have HZ : Hid (touches k x b c = 0) := touches_no HQ.out
    have HX : Hid (0 ≤ x ∧ x ≤ 3) := may_reg HQ.out
    have hat := at_reg HQ.out
    obtain ⟨zr, hzr⟩ : ∃ zr, calcTo k x b c zs = zr := ⟨_, rfl⟩
    rw [hzr] at S3 hat hm2
    clear hzr m1 m2 m3
    obtain ⟨a3, cc3, e3, -, -, hs3'⟩ := S3
    obtain ⟨ar, ccr, er, -, -, hr3'⟩ := id hv3
    simp only [Value.slice.injEq] at e3 er
    obtain ⟨rfl, -, rfl⟩ := e3
    obtain ⟨rfl, -, rfl⟩ := er
    obtain ⟨sb, so, rfl, hsb, hsc⟩ := hs3' (fun h => by simp [h] at hm2)
    obtain ⟨rb, ro, rfl, hrb, hrc⟩ := hr3' (fun h => by simp [h] at hlen)
    clear hs3' hr3'
    have o1 := O3.cell 1
    go_wp2
    go_loopw [9] (fun i wr => ∃ j : Nat, j ≤ 4 ∧ i = .int .i64 j ∧ ∃ nd, wr = w3.drewN nd) (fun i _ => 4 - (intOf i).toNat)
    case atStart => exact ⟨0, by omega, rfl, 0, rfl⟩
    case round =>
      obtain ⟨j, hj, rfl, nd, rfl⟩ := hrel
      by_cases hlt : j < 4
      · have hz := hsc j (by omega)
        have hr := hrc j (by omega)
        obtain ⟨t1, t2, t3⟩ := hat j hlt (by omega) (by omega)
        obtain ⟨y, hy⟩ : ∃ y, zr[j] = y := ⟨_, rfl⟩
        obtain ⟨z, hz'⟩ : ∃ z, zs[j] = z := ⟨_, rfl⟩
        rw [hy] at hz t1 t2 t3
        rw [hz'] at hr t1
        have i1 : (0 : Int) ≤ j := by omega
        have i2 : (j : Int) < 4 := by omega
        clear hy hz' hat hsc hrc
        by_cases hjx : (j : Int) = x
        · have d1 : ((j : Int) != x) = false := by simp [hjx]
          have d2 : decide (y < 0) = false := decide_eq_false (by omega)
          have d3 : decide (65535 < y) = false := decide_eq_false (by omega)
          clear t1 hjx
          go_wp2_with fail
          go_quiet (fail)
          go_wp2
          go_roundw
          case rel => exact ⟨j + 1, by omega, by go_num, _, rfl⟩
          case measure => simp [intOf]; omega
        · have d1 : ((j : Int) != x) = true := by simp [hjx]
          obtain rfl : y = z := t1.resolve_left hjx
          have d2 : decide (y < 0) = false := decide_eq_false (by omega)
          have d3 : decide (65535 < y) = false := decide_eq_false (by omega)
          clear t1 hjx
          go_wp2_with fail
          go_quiet (fail)
          go_wp2
          go_roundw
          case rel => exact ⟨j + 1, by omega, by go_num, _, rfl⟩
          case measure => simp [intOf]; omega
      · obtain rfl : j = 4 := by omega
        clear hsc hrc hat o1 hsb hlt hj
        have bb3 := below_drewN bb3 nd
        have O3 : Blk (w3.drewN nd) p #[.int .i64 k, .int .i64 x, .int .i64 b, .int .i64 c] 25 := O3
        have hv3 : Ints.Sees p (w3.drewN nd) (.slice (some ⟨rb, ro, none⟩) 4 cap1) zs := hv3
        have hs3 : p < (w3.drewN nd).heap.size := hs3
        obtain ⟨w4, hw4⟩ : ∃ w4, w3.drewN nd = w4 := ⟨_, rfl⟩
        rw [hw4] at bb3 O3 hv3 hs3 ⊢
        clear hw4
        have cA := calcImplC 2 0 0 1 (.slice (some ⟨rb, ro, none⟩) 4 cap1) zs p w4 (wf_small (by omega)) hv3 (by omega) (by omega)
        have eA : opV 2 0 0 1 = .agg #[.int .i64 2, .int .i64 0, .int .i64 0, .int .i64 1] := rfl
        rw [eA] at cA
        clear eA
        obtain ⟨za, hza⟩ : ∃ za, calcTo 2 0 0 1 zs = za := ⟨_, rfl⟩
        have hla : za.length = 4 := by rw [← hza, calcTo_length]; exact hlen
        rw [hza] at cA HB
        clear hza
        go_wp2_with fail
        refine cA.mono ?_
        rintro e w5 ⟨v5, rfl, P5, b5⟩
        obtain ⟨r5, cap5, rfl⟩ := P5.form
        rw [hla] at P5 ⊢
        have O5 := O3.on b5 hs3
        have hv5 := hv3.on b5 (by omega)
        have bb5 := bb3.trans (b5.mono bb3.size)
        have hs5 : p < w5.heap.size := O5.lt
        have cB := calcImplC 3 0 0 1 (.slice r5 4 cap5) za w5.heap.size w5 (wf_small (by omega)) P5.sees (by omega) (by omega)
        have eB : opV 3 0 0 1 = .agg #[.int .i64 3, .int .i64 0, .int .i64 0, .int .i64 1] := rfl
        rw [eB, HB.out] at cB
        clear eB cA O3 hv3 bb3
        go_wp2_with fail
        refine cB.mono ?_
        rintro e w6 ⟨v6, rfl, P6, b6⟩
        obtain ⟨r6, cap6, rfl⟩ := P6.form
        rw [hlen] at P6 ⊢
        have O6 := O5.on b6 hs5
        have hv6 := hv5.on b6 (by omega)
        have bb6 := bb5.trans (b6.mono bb5.size)
        have hs6 : p < w6.heap.size := O6.lt
        clear cB O5 hv5 bb5 P5 b5
        go_wp2_with fail
        refine (Ints.sameIntsC _ _ zs w6.heap.size w6 P6.sees (hv6.up (by omega)) (Nat.le_refl _)).mono ?_
        rintro e w7 ⟨rfl, b7⟩
        have O7 := O6.on b7 hs6
        have bb7 := bb6.trans (b7.mono bb6.size)
        have o0 := O7.cell 0; have o1 := O7.cell 1; have o2 := O7.cell 2; have o3 := O7.cell 3
        clear O6 hv6 bb6 P6 b6 b7
        go_wp2_with fail
        refine (HT.out w7).mono ?_
        rw [HZ.out]
        rintro e w8 ⟨rfl, b8⟩
        go_wp2
        go_ret
        exact ⟨rfl, bb7.trans (b8.mono bb7.size)⟩

theorem walk (a : Option Addr) (len cap : Nat) (zs : List Int) (w : World) (hrow : Args.IsRow .u8 w a len cap zs) :
    Calls Try.prog 3 #[.slice a len cap] w fun e w' => e = .returned (.bool true) ∧ Below w.heap.size w w' := by
  by_cases hb : 1048576 < len
  · exact fnBig a len cap w hb
  · obtain ⟨l, hl, hC⟩ := Args.code hrow
    subst hl
    exact fnCalc l a cap w hC (by omega)
end Ops
end Go.Proofs.Ytbkhghndlcmfiaa
