/- The walk of FnStates. -/
import Derived.Test.YtppikpdphcfomaaHistDraw
import Derived.Test.YtppikpdphcfomaaHistL3
import Derived.Test.YtppikpdphcfomaaHistState
import Derived.Test.YtppikpdphcfomaaHistLast
import Derived.Test.YtppikpdphcfomaaHistImpl2
import Derived.Test.YtppikpdphcfomaaHistSpec
import Derived.Test.YtppikpdphcfomaaLogOver
import Derived.Test.YtppikpdphcfomaaLogSpec
import Derived.Test.YtppikpdphcfomaaIntSame
import Derived.Test.YtppikpdphcfomaaTake
import Derived.Test.YtppikpdphcfomaaArgs
set_option linter.unusedVariables false
set_option linter.unusedSimpArgs false
namespace Go.Proofs.Ytppikpdphcfomaa
open Go.RowKit
namespace Hist
open Bas Flat Logs

/-- what the walk holds of: the numbers, the history, the state -/
structure HasS (B g0 : Nat) (w : World) (v0 vl vx : Value) (zs : List Int) (ls : List Wr) (X : List Int) (W : World) : Prop where
  z : Ints.Sees B W v0 zs
  r : SeesW B W vl ls
  x : Ints.Sees B W vx X
  hB : B ≤ W.heap.size
  b : Below g0 w W
  hg : g0 ≤ B
section
variable {B g0 : Nat} {w W W' : World} {v0 vl vx : Value} {zs X : List Int} {ls : List Wr}
theorem HasS.on (h : HasS B g0 w v0 vl vx zs ls X W) (b : Below W.heap.size W W') : HasS B g0 w v0 vl vx zs ls X W' :=
  { z := h.z.on b h.hB, r := h.r.on b h.hB, x := h.x.on b h.hB, hB := Nat.le_trans h.hB b.size, b := h.b.trans (b.mono (Nat.le_trans h.hg h.hB)), hg := h.hg }
theorem HasS.drew (h : HasS B g0 w v0 vl vx zs ls X W) : HasS B g0 w v0 vl vx zs ls X W.drew :=
  { z := h.z, r := h.r, x := h.x, hB := h.hB, b := h.b.drew, hg := h.hg }
theorem HasS.upTo (h : HasS B g0 w v0 vl vx zs ls X W) : HasS W.heap.size g0 w v0 vl vx zs ls X W :=
  { z := h.z.up h.hB, r := h.r.up h.hB, x := h.x.up h.hB, hB := Nat.le_refl _, b := h.b, hg := Nat.le_trans h.hg h.hB }
end
theorem seesOpen {B n c : Nat} {W : World} {a : Option Addr} {zs : List Int} (h : Ints.Sees B W (.slice a n c) zs) (hn : 0 < zs.length) :
    ∃ b off, a = some ⟨b, off, none⟩ ∧ b < B ∧ ∀ i (hi : i < zs.length), W.cell? ⟨b, off + i, none⟩ = some (.int .i64 zs[i]) := by
  obtain ⟨a', cap', e, -, -, h3⟩ := h
  simp only [Value.slice.injEq] at e
  obtain ⟨rfl, -, -⟩ := e
  exact h3 (fun h => by rw [h] at hn; cases hn)
theorem seesAt' {B g o n c : Nat} {W : World} {zs : List Int} (h : Ints.Sees B W (.slice (some ⟨g, o, none⟩) n c) zs) (i : Nat) (hi : i < zs.length) : W.cell? ⟨g, o + i, none⟩ = some (.int .i64 zs[i]) := by
  obtain ⟨b, off, e, hb, hc⟩ := seesOpen h (by omega)
  simp only [Option.some.injEq, Addr.mk.injEq] at e
  obtain ⟨rfl, rfl, -⟩ := e
  exact hc i hi
theorem seesAt {B g n c : Nat} {W : World} {zs : List Int} (h : Ints.Sees B W (.slice (some ⟨g, 0, none⟩) n c) zs) (i : Nat) (hi : i < zs.length) : W.cell? ⟨g, i, none⟩ = some (.int .i64 zs[i]) := by
  have := seesAt' h i hi
  rwa [Nat.zero_add] at this

theorem statesBig (a : Option Addr) (len cap : Nat) (w : World) (h : 1048576 < len) : Calls Try.prog 3 #[.slice a len cap] w fun e w' => e = .returned (.bool true) ∧ Below w.heap.size w w' := by
  have h' : (1048576 : Int) < len := by omega
  have cB := Ints.bigC a len cap w
  rw [decide_eq_true h'] at cB
  go_enter Try.func3, Try.ntmps3
  go_wp2_with fail
  refine cB.mono ?_
  rintro e w1 ⟨rfl, rfl⟩
  go_wp2
  go_ret
  exact ⟨rfl, Below.refl _ _⟩
set_option maxRecDepth 100000 in
set_option maxHeartbeats 12800000 in
theorem statesFn (l : List UInt8) (aq : Option Addr) (cq : Nat) (w : World) (hC : Draw.Code w.heap.size w (.slice aq l.length cq) l) (hl : l.length ≤ 1048576) :
    Calls Try.prog 3 #[.slice aq l.length cq] w fun e w' => e = .returned (.bool true) ∧ Below w.heap.size w w' := by
  have h' : ¬ (1048576 : Int) < l.length := by omega
  have cB := Ints.bigC aq l.length cq w
  rw [decide_eq_false h'] at cB
  have cD := drawStateC w.heap.size (.slice aq l.length cq) l w hC (Nat.le_refl _) hl
  obtain ⟨g0, hg0⟩ : ∃ g, w.heap.size = g := ⟨_, rfl⟩
  obtain ⟨lq, hlq⟩ : ∃ q, l.length = q := ⟨_, rfl⟩
  rw [hlq] at cB cD ⊢
  unfold StDrawn at cD
  rw [hg0] at cD ⊢
  clear h' hlq hC hl
  have HG := (show Hid _ from hg0)
  go_enter Try.func3, Try.ntmps3
  go_wp2_with fail
  refine cB.mono ?_
  rintro e w0 ⟨rfl, rfl⟩
  go_wp2_with fail
  refine cD.mono ?_
  rintro e w1 ⟨v0, v, zs, ls, nn, rfl, s0, s1, hz8, hz8', b1⟩
  clear cB cD
  have hs1 : g0 ≤ w1.heap.size := by have := b1.size; have := HG.out; omega
  clear hg0
  have h0 := s0
  have h1 := s1
  obtain ⟨a0, c0, rfl⟩ := h0.form
  obtain ⟨a, cap, rfl⟩ := h1.form
  obtain ⟨n, hn⟩ : ∃ n, ls.length = n := ⟨_, rfl⟩
  obtain ⟨m, hm⟩ : ∃ n, zs.length = n := ⟨_, rfl⟩
  have HN := (show Hid _ from hn)
  have HM := (show Hid _ from hm)
  rw [hn] at s1 ⊢
  rw [hm] at s0 hz8 ⊢
  clear hn hm h0 h1 hz8'
  go_wp2_with fail
  refine (implState _ _ zs ls nn w1.heap.size w1 s0 s1 (Nat.le_refl _)).mono ?_
  rintro e w2 ⟨vx, rfl, Ox, b2⟩
  have b12 := b1.trans (b2.mono hs1)
  have s0 := s0.on b2 (Nat.le_refl _)
  have s1 := s1.on b2 (Nat.le_refl _)
  have hs2 : g0 ≤ w2.heap.size := Nat.le_trans hs1 b2.size
  have hs12 := b2.size
  clear b1
  obtain ⟨ax, cx, rfl⟩ := Ox.form
  obtain ⟨X, hX⟩ : ∃ X, stateAt zs ls nn = X := ⟨_, rfl⟩
  have HX := (show Hid _ from hX)
  rw [hX] at Ox ⊢
  obtain ⟨mx, hmx⟩ : ∃ n, X.length = n := ⟨_, rfl⟩
  have HMX := (show Hid _ from hmx)
  rw [hmx] at Ox ⊢
  clear hX hmx
  go_wp2_with fail
  refine (specHist _ ls w1.heap.size w2 s1 b2.size).mono ?_
  rintro e w3 ⟨rfl, b3⟩
  have b13 := b12.trans (b3.mono hs2)
  have s0 := s0.on b3 hs12
  have s1 := s1.on b3 hs12
  have sx := (Ox.on b3 (Nat.le_refl _)).sees
  have hs3 : g0 ≤ w3.heap.size := Nat.le_trans hs2 b3.size
  have hs23 := b3.size
  obtain ⟨p, hp⟩ : ∃ p, histOk ls = p := ⟨_, rfl⟩
  rw [hp]
  cases p with
  | false =>
    obtain rfl : mx = 0 := by rw [← HMX.out, ← HX.out, state_no (by rw [hp, Bool.and_false])]; rfl
    go_wp2
    go_ret
    exact ⟨rfl, b13⟩
  | true =>
  by_cases hm8 : m = 8
  case neg =>
    obtain rfl : mx = 0 := by
      rw [← HMX.out, ← HX.out, state_no (by
        rw [Bool.and_eq_false_iff]; left
        unfold valsOk
        rw [Bool.and_eq_false_iff]; left
        rw [HM.out]; exact decide_eq_false hm8)]; rfl
    have d8 : ((m : Int) == 8) = false := by rw [beq_eq_false_iff_ne]; omega
    go_wp2
    go_ret
    exact ⟨rfl, b13⟩
  subst hm8
  have HR := (show Hid _ from hp)
  have hzz : valsOk zs = true := by rw [vals_eq]; exact hz8 rfl
  have HZ := (show Hid _ from hzz)
  obtain rfl : mx = 8 := by rw [← HMX.out, ← HX.out]; exact state_len hzz hp nn
  have h200 : n ≤ 200 := by rw [← HN.out]; exact (histOk_iff.1 hp).1
  have h200I : (n : Int) ≤ 200 := by omega
  clear hp hzz hz8
  obtain ⟨gx, rfl, hgx1, hgx2, -⟩ := own_someN Ox (by omega)
  obtain ⟨gv, ov, rfl, hgv, -⟩ := seesOpen s0 (by rw [HM.out]; omega)
  have F : HasS w3.heap.size g0 w (.slice (some ⟨gv, ov, none⟩) 8 c0) (.slice a n cap) (.slice (some ⟨gx, 0, none⟩) 8 cx) zs ls X w3 :=
    { z := s0.up (by omega), r := s1.up (by omega), x := sx, hB := Nat.le_refl _, b := b13, hg := hs3 }
  obtain ⟨B, hB⟩ : ∃ B, w3.heap.size = B := ⟨_, rfl⟩
  have hgxB : gx < B := by omega
  have hgvB : gv < B := by omega
  rw [hB] at F
  clear s0 s1 sx Ox b12 b13 b2 b3 hB hgx1 hgx2 hgv hs12 hs23 hs1 hs2 hs3
  go_wp2
  go_loopw [7] (fun iv wr => ∃ i : Nat, i ≤ 8 ∧ iv = .int .i64 i ∧ HasS B g0 w (.slice (some ⟨gv, ov, none⟩) 8 c0) (.slice a n cap) (.slice (some ⟨gx, 0, none⟩) 8 cx) zs ls X wr) (fun iv _ => 8 - (intOf iv).toNat)
  case atStart => exact ⟨0, by omega, rfl, F⟩
  case round =>
    obtain ⟨i, hi, rfl, FR⟩ := hrel
    clear F
    by_cases hlt : i < 8
    · have i1 : (i : Int) < 8 := by omega
      have i0 : (0 : Int) ≤ i := by omega
      have hzi : i < zs.length := by rw [HM.out]; exact hlt
      have hXi : i < X.length := by rw [HMX.out]; exact hlt
      have cL := implLastW (.slice a n cap) ls (i : Int) nn B wr FR.r FR.hB
      obtain ⟨q1, q2⟩ := state_last HZ.out HR.out nn hlt
      rw [HX.out] at q1 q2
      obtain ⟨wv, hwv⟩ : ∃ y, lastW ls (i : Int) nn = y := ⟨_, rfl⟩
      rw [hwv] at cL q1 q2
      have HV := (show Hid _ from q2)
      have H0 := (show Hid _ from q1)
      clear hwv q1 q2
      go_wp2_with fail
      refine cL.mono ?_
      rintro e w9 ⟨rfl, b9⟩
      have F9 := FR.on b9
      clear cL
      go_wp2_with fail
      have F2 := F9.drew
      obtain ⟨WD, hWD⟩ : ∃ WD, w9.drew = WD := ⟨_, rfl⟩
      obtain ⟨y, hy⟩ : ∃ y, X[i]'hXi = y := ⟨_, rfl⟩
      have cX0 : w9.cell? ⟨gx, i, none⟩ = some (.int .i64 y) := by
        have := seesAt F9.x i hXi
        rw [hy] at this; exact this
      obtain ⟨z, hz⟩ : ∃ z, zs[i]'hzi = z := ⟨_, rfl⟩
      have cV0 : w9.cell? ⟨gv, ov + i, none⟩ = some (.int .i64 z) := by
        have := seesAt' F9.z i hzi
        rw [hz] at this; exact this
      have HYZ : Hid (wv = 0 → y = z) := by
        intro h
        have := H0.out h
        rw [List.getElem?_eq_getElem hXi, List.getElem?_eq_getElem hzi, hy, hz] at this
        exact Option.some.inj this
      refine wp_region_held_drew (S := fun W => W.cell? ⟨gx, i, none⟩ = some (.int .i64 y) ∧ W.cell? ⟨gv, ov + i, none⟩ = some (.int .i64 z)) (by kernel_rfl) ⟨cX0, cV0⟩ (fun hHeld => ?_)
      rw [hWD] at F2 hHeld ⊢
      have hBD := F2.hB
      have hgx : gx < WD.heap.size := by omega
      have hgv : gv < WD.heap.size := by omega
      clear hWD cX0 cV0 F9 FR b9 H0 hy hz
      by_cases hw0 : wv = 0
      · obtain rfl := HYZ.out hw0
        subst hw0
        clear HYZ
        refine takeH (i := 0) (some 53) (.int .i64 0) rfl rfl (by kernel_rfl) (by kernel_rfl) (by kernel_rfl) (fun _ _ _ h => h) (Or.inl ⟨by rfl, fun w hSw => by (try dsimp only at hSw); go_simp⟩) (by assumption) ?_
        simp only [Act.put, List.setIfInBounds_toArray, List.set_cons_zero, List.set_cons_succ]
        refine takeH (i := 1) (some 54) (.bool true) rfl rfl (by kernel_rfl) (by kernel_rfl) (by kernel_rfl) (fun _ _ _ h => h) (Or.inl ⟨by rfl, fun w hSw => by (try dsimp only at hSw); go_simp⟩) (by assumption) ?_
        simp only [Act.put, List.setIfInBounds_toArray, List.set_cons_zero, List.set_cons_succ]
        refine takeH (i := 2) (some 55) (.bool true) rfl rfl (by kernel_rfl) (by kernel_rfl) (by kernel_rfl) (fun _ _ _ h => h) (Or.inl ⟨by rfl, fun w hSw => by (try dsimp only at hSw); go_simp⟩) (by assumption) ?_
        simp only [Act.put, List.setIfInBounds_toArray, List.set_cons_zero, List.set_cons_succ]
        refine takeH (i := 3) (some 56) (.slice (some ⟨gx, 0, none⟩) 8 cx) rfl rfl (by kernel_rfl) (by kernel_rfl) (by kernel_rfl) (fun _ _ _ h => h) (Or.inl ⟨by rfl, fun w hSw => by (try dsimp only at hSw); go_simp⟩) (by assumption) ?_
        simp only [Act.put, List.setIfInBounds_toArray, List.set_cons_zero, List.set_cons_succ]
        refine takeH (i := 4) (some 57) (.int .i64 (i : Int)) rfl rfl (by kernel_rfl) (by kernel_rfl) (by kernel_rfl) (fun _ _ _ h => h) (Or.inl ⟨by rfl, fun w hSw => by (try dsimp only at hSw); go_simp⟩) (by assumption) ?_
        simp only [Act.put, List.setIfInBounds_toArray, List.set_cons_zero, List.set_cons_succ]
        refine takeH (i := 5) (some 58) (.pointer (some ⟨gx, i, none⟩)) rfl rfl (by kernel_rfl) (by kernel_rfl) (by kernel_rfl) (fun _ _ _ h => h) (Or.inl ⟨by rfl, fun w hSw => by (try dsimp only at hSw); go_simp⟩) (by assumption) ?_
        simp only [Act.put, List.setIfInBounds_toArray, List.set_cons_zero, List.set_cons_succ]
        refine takeH (i := 6) (some 59) (.int .i64 y) rfl rfl (by kernel_rfl) (by kernel_rfl) (by kernel_rfl) (fun _ _ _ h => h) (Or.inl ⟨by rfl, fun w hSw => by (try dsimp only at hSw); go_simp⟩) (by assumption) ?_
        simp only [Act.put, List.setIfInBounds_toArray, List.set_cons_zero, List.set_cons_succ]
        refine takeH (i := 7) (some 60) (.slice (some ⟨gv, ov, none⟩) 8 c0) rfl rfl (by kernel_rfl) (by kernel_rfl) (by kernel_rfl) (fun _ _ _ h => h) (Or.inl ⟨by rfl, fun w hSw => by (try dsimp only at hSw); go_simp⟩) (by assumption) ?_
        simp only [Act.put, List.setIfInBounds_toArray, List.set_cons_zero, List.set_cons_succ]
        refine takeH (i := 8) (some 61) (.int .i64 (i : Int)) rfl rfl (by kernel_rfl) (by kernel_rfl) (by kernel_rfl) (fun _ _ _ h => h) (Or.inl ⟨by rfl, fun w hSw => by (try dsimp only at hSw); go_simp⟩) (by assumption) ?_
        simp only [Act.put, List.setIfInBounds_toArray, List.set_cons_zero, List.set_cons_succ]
        refine takeH (i := 9) (some 62) (.pointer (some ⟨gv, ov + i, none⟩)) rfl rfl (by kernel_rfl) (by kernel_rfl) (by kernel_rfl) (fun _ _ _ h => h) (Or.inl ⟨by rfl, fun w hSw => by (try dsimp only at hSw); go_simp⟩) (by assumption) ?_
        simp only [Act.put, List.setIfInBounds_toArray, List.set_cons_zero, List.set_cons_succ]
        refine takeH (i := 10) (some 63) (.int .i64 y) rfl rfl (by kernel_rfl) (by kernel_rfl) (by kernel_rfl) (fun _ _ _ h => h) (Or.inl ⟨by rfl, fun w hSw => by (try dsimp only at hSw); go_simp⟩) (by assumption) ?_
        simp only [Act.put, List.setIfInBounds_toArray, List.set_cons_zero, List.set_cons_succ]
        refine takeH (i := 11) (some 64) (.bool false) rfl rfl (by kernel_rfl) (by kernel_rfl) (by kernel_rfl) (fun _ _ _ h => h) (Or.inl ⟨by rfl, fun w hSw => by (try dsimp only at hSw); go_simp⟩) (by assumption) ?_
        simp only [Act.put, List.setIfInBounds_toArray, List.set_cons_zero, List.set_cons_succ]
        refine takeH (i := 12) (some 65) (.bool false) rfl rfl (by kernel_rfl) (by kernel_rfl) (by kernel_rfl) (fun _ _ _ h => h) (Or.inl ⟨by rfl, fun w hSw => by (try dsimp only at hSw); go_simp⟩) (by assumption) ?_
        simp only [Act.put, List.setIfInBounds_toArray, List.set_cons_zero, List.set_cons_succ]
        refine wpAnyH_done (by kernel_rfl) ?_ _
        go_wp2
        go_loopw [9] (fun kv wr => ∃ k : Nat, k ≤ n ∧ kv = .int .i64 k ∧ HasS B g0 w (.slice (some ⟨gv, ov, none⟩) 8 c0) (.slice a n cap) (.slice (some ⟨gx, 0, none⟩) 8 cx) zs ls X wr) (fun kv _ => n - (intOf kv).toNat)
        case atStart => exact ⟨0, by omega, rfl, F2⟩
        case round =>
          obtain ⟨k, hk, rfl, FK⟩ := hrel
          clear F2
          by_cases hkl : k < n
          · have hkL : k < ls.length := by have := HN.out; omega
            have k1 : (k : Int) < n := by omega
            obtain ⟨b, off, rfl, hbB, hc⟩ := SeesW.open FK.r (Nat.lt_of_le_of_lt (Nat.zero_le k) hkL)
            obtain ⟨pp, pc, e0, e1, e2, p2⟩ := hc k hkL
            have hval := HV.out k hkL
            have cL := Logs.specLast _ ls[k].ps i B wr p2
            obtain ⟨x, hx⟩ : ∃ x, ls[k] = x := ⟨_, rfl⟩
            rw [hx] at e0 e1 e2 p2 hval cL
            obtain ⟨m, hm'⟩ : ∃ m, x.ps.length = m := ⟨_, rfl⟩
            rw [hm'] at e2 cL
            obtain ⟨is, his⟩ : ∃ y, (lastOf x.ps i).isSome = y := ⟨_, rfl⟩
            obtain ⟨z, hz⟩ : ∃ y, (lastOf x.ps i).getD 0 = y := ⟨_, rfl⟩
            rw [his, hz] at cL
            rw [hz] at hval
            have HW := (show Hid _ from hval)
            have hgxq : gx < wr.heap.size := by have := FK.hB; omega
            obtain ⟨yv, hyv⟩ : ∃ y, X[i]'hXi = y := ⟨_, rfl⟩
            have cX : wr.cell? ⟨gx, i, none⟩ = some (.int .i64 yv) := by
              have := seesAt FK.x i hXi
              rw [hyv] at this; exact this
            have HY := (show Hid _ from hyv)
            have hxs : x.s = x.s := rfl
            by_cases hs : x.s = 0
            · have hzy : z = yv := by
                have := HW.out hs
                rw [List.getElem?_eq_getElem hXi, HY.out] at this
                exact (Option.some.inj this).symm
              subst hzy
              have d0 : (x.s == 0) = true := by rw [hs]; simp
              clear hc hx hval his hz hm' p2 hyv HW hs hxs
              go_wp2_with (go_at_call 14; refine cL.mono ?_; rintro e w2 ⟨rfl, rfl⟩)
              go_roundw
              case rel => exact ⟨k + 1, by omega, by go_num, FK⟩
              case measure => simp [intOf]; omega
            · have d0 : (x.s == 0) = false := by rw [beq_eq_false_iff_ne]; exact hs
              clear hc hx hval his hz hm' p2 hyv HW cL hs hxs
              go_wp2
              go_roundw
              case rel => exact ⟨k + 1, by omega, by go_num, FK⟩
              case measure => simp [intOf]; omega
          · obtain rfl : k = n := by omega
            have k1 : ¬ (k : Int) < k := by omega
            clear hkl
            go_wp2
            go_roundw
            case rel => exact ⟨i + 1, by omega, by go_num, FK⟩
            case measure => simp [intOf]; omega
      · have hd0 : (wv == 0) = false := by rw [beq_eq_false_iff_ne]; exact hw0
        clear HYZ
        refine takeH (i := 0) (some 53) (.int .i64 wv) rfl rfl (by kernel_rfl) (by kernel_rfl) (by kernel_rfl) (fun _ _ _ h => h) (Or.inl ⟨by rfl, fun w hSw => by (try dsimp only at hSw); go_simp⟩) (by assumption) ?_
        simp only [Act.put, List.setIfInBounds_toArray, List.set_cons_zero, List.set_cons_succ]
        refine takeH (i := 1) (some 54) (.bool false) rfl rfl (by kernel_rfl) (by kernel_rfl) (by kernel_rfl) (fun _ _ _ h => h) (Or.inl ⟨by rfl, fun w hSw => by (try dsimp only at hSw); go_simp⟩) (by assumption) ?_
        simp only [Act.put, List.setIfInBounds_toArray, List.set_cons_zero, List.set_cons_succ]
        refine takeH (i := 2) (some 55) (.bool false) rfl rfl (by kernel_rfl) (by kernel_rfl) (by kernel_rfl) (fun _ _ _ h => h) (Or.inl ⟨by rfl, fun w hSw => by (try dsimp only at hSw); go_simp⟩) (by assumption) ?_
        simp only [Act.put, List.setIfInBounds_toArray, List.set_cons_zero, List.set_cons_succ]
        refine takeH (i := 3) (some 56) (undef) rfl rfl (by kernel_rfl) (by kernel_rfl) (by kernel_rfl) (fun _ _ _ h => h) (Or.inr ⟨by rfl, rfl⟩) (by assumption) ?_
        simp only [Act.put, List.setIfInBounds_toArray, List.set_cons_zero, List.set_cons_succ]
        refine takeH (i := 4) (some 57) (undef) rfl rfl (by kernel_rfl) (by kernel_rfl) (by kernel_rfl) (fun _ _ _ h => h) (Or.inr ⟨by rfl, rfl⟩) (by assumption) ?_
        simp only [Act.put, List.setIfInBounds_toArray, List.set_cons_zero, List.set_cons_succ]
        refine takeH (i := 5) (some 58) (undef) rfl rfl (by kernel_rfl) (by kernel_rfl) (by kernel_rfl) (fun _ _ _ h => h) (Or.inr ⟨by rfl, rfl⟩) (by assumption) ?_
        simp only [Act.put, List.setIfInBounds_toArray, List.set_cons_zero, List.set_cons_succ]
        refine takeH (i := 6) (some 59) (undef) rfl rfl (by kernel_rfl) (by kernel_rfl) (by kernel_rfl) (fun _ _ _ h => h) (Or.inr ⟨by rfl, rfl⟩) (by assumption) ?_
        simp only [Act.put, List.setIfInBounds_toArray, List.set_cons_zero, List.set_cons_succ]
        refine takeH (i := 7) (some 60) (undef) rfl rfl (by kernel_rfl) (by kernel_rfl) (by kernel_rfl) (fun _ _ _ h => h) (Or.inr ⟨by rfl, rfl⟩) (by assumption) ?_
        simp only [Act.put, List.setIfInBounds_toArray, List.set_cons_zero, List.set_cons_succ]
        refine takeH (i := 8) (some 61) (undef) rfl rfl (by kernel_rfl) (by kernel_rfl) (by kernel_rfl) (fun _ _ _ h => h) (Or.inr ⟨by rfl, rfl⟩) (by assumption) ?_
        simp only [Act.put, List.setIfInBounds_toArray, List.set_cons_zero, List.set_cons_succ]
        refine takeH (i := 9) (some 62) (undef) rfl rfl (by kernel_rfl) (by kernel_rfl) (by kernel_rfl) (fun _ _ _ h => h) (Or.inr ⟨by rfl, rfl⟩) (by assumption) ?_
        simp only [Act.put, List.setIfInBounds_toArray, List.set_cons_zero, List.set_cons_succ]
        refine takeH (i := 10) (some 63) (undef) rfl rfl (by kernel_rfl) (by kernel_rfl) (by kernel_rfl) (fun _ _ _ h => h) (Or.inr ⟨by rfl, rfl⟩) (by assumption) ?_
        simp only [Act.put, List.setIfInBounds_toArray, List.set_cons_zero, List.set_cons_succ]
        refine takeH (i := 11) (some 64) (undef) rfl rfl (by kernel_rfl) (by kernel_rfl) (by kernel_rfl) (fun _ _ _ h => h) (Or.inr ⟨by rfl, rfl⟩) (by assumption) ?_
        simp only [Act.put, List.setIfInBounds_toArray, List.set_cons_zero, List.set_cons_succ]
        refine takeH (i := 12) (some 65) (.bool false) rfl rfl (by kernel_rfl) (by kernel_rfl) (by kernel_rfl) (fun _ _ _ h => h) (Or.inl ⟨by rfl, fun w hSw => by (try dsimp only at hSw); go_simp⟩) (by assumption) ?_
        simp only [Act.put, List.setIfInBounds_toArray, List.set_cons_zero, List.set_cons_succ]
        refine wpAnyH_done (by kernel_rfl) ?_ _
        go_wp2
        go_loopw [9] (fun kv wr => ∃ k : Nat, k ≤ n ∧ kv = .int .i64 k ∧ HasS B g0 w (.slice (some ⟨gv, ov, none⟩) 8 c0) (.slice a n cap) (.slice (some ⟨gx, 0, none⟩) 8 cx) zs ls X wr) (fun kv _ => n - (intOf kv).toNat)
        case atStart => exact ⟨0, by omega, rfl, F2⟩
        case round =>
          obtain ⟨k, hk, rfl, FK⟩ := hrel
          clear F2
          by_cases hkl : k < n
          · have hkL : k < ls.length := by have := HN.out; omega
            have k1 : (k : Int) < n := by omega
            obtain ⟨b, off, rfl, hbB, hc⟩ := SeesW.open FK.r (Nat.lt_of_le_of_lt (Nat.zero_le k) hkL)
            obtain ⟨pp, pc, e0, e1, e2, p2⟩ := hc k hkL
            have hval := HV.out k hkL
            have cL := Logs.specLast _ ls[k].ps i B wr p2
            obtain ⟨x, hx⟩ : ∃ x, ls[k] = x := ⟨_, rfl⟩
            rw [hx] at e0 e1 e2 p2 hval cL
            obtain ⟨m, hm'⟩ : ∃ m, x.ps.length = m := ⟨_, rfl⟩
            rw [hm'] at e2 cL
            obtain ⟨is, his⟩ : ∃ y, (lastOf x.ps i).isSome = y := ⟨_, rfl⟩
            obtain ⟨z, hz⟩ : ∃ y, (lastOf x.ps i).getD 0 = y := ⟨_, rfl⟩
            rw [his, hz] at cL
            rw [hz] at hval
            have HW := (show Hid _ from hval)
            have hgxq : gx < wr.heap.size := by have := FK.hB; omega
            obtain ⟨yv, hyv⟩ : ∃ y, X[i]'hXi = y := ⟨_, rfl⟩
            have cX : wr.cell? ⟨gx, i, none⟩ = some (.int .i64 yv) := by
              have := seesAt FK.x i hXi
              rw [hyv] at this; exact this
            have HY := (show Hid _ from hyv)
            have hxs : x.s = x.s := rfl
            by_cases hs : x.s = wv
            · have hzy : z = yv := by
                have := HW.out hs
                rw [List.getElem?_eq_getElem hXi, HY.out] at this
                exact (Option.some.inj this).symm
              subst hzy
              have d0 : (x.s == wv) = true := by rw [hs]; simp
              clear hc hx hval his hz hm' p2 hyv HW hs hxs
              go_wp2_with (go_at_call 14; refine cL.mono ?_; rintro e w2 ⟨rfl, rfl⟩)
              go_roundw
              case rel => exact ⟨k + 1, by omega, by go_num, FK⟩
              case measure => simp [intOf]; omega
            · have d0 : (x.s == wv) = false := by rw [beq_eq_false_iff_ne]; exact hs
              clear hc hx hval his hz hm' p2 hyv HW cL hs hxs
              go_wp2
              go_roundw
              case rel => exact ⟨k + 1, by omega, by go_num, FK⟩
              case measure => simp [intOf]; omega
          · obtain rfl : k = n := by omega
            have k1 : ¬ (k : Int) < k := by omega
            clear hkl
            go_wp2
            go_roundw
            case rel => exact ⟨i + 1, by omega, by go_num, FK⟩
            case measure => simp [intOf]; omega
    · obtain rfl : i = 8 := by omega
      have i1 : ¬ ((8 : Nat) : Int) < 8 := by omega
      clear hlt hi
      go_wp2_with fail
      refine (implStamps _ ls B wr FR.r FR.hB).mono ?_
      rintro e w10 ⟨vs, rfl, OS, b10⟩
      have F := (FR.on b10).upTo
      clear FR
      have SV := OS.sees
      obtain ⟨ap, cs, rfl⟩ := OS.form
      obtain ⟨SS, hSS⟩ : ∃ S, stampsOf ls = S := ⟨_, rfl⟩
      have HSS : Hid (SS = (turnOf ls).map Wr.s) := by show _ = _; rw [← hSS]; exact stamps_yes HR.out
      have hSL : SS.length = n := by rw [HSS.out, List.length_map, turn_length, HN.out]
      have HSL := (show Hid _ from hSL)
      rw [hSS] at SV ⊢
      rw [hSL] at SV ⊢
      have hsz := b10.size
      obtain ⟨B2, hB2⟩ : ∃ B, w10.heap.size = B := ⟨_, rfl⟩
      rw [hB2] at F SV
      clear OS hSS hSL b10 hB2 hsz hgxB hgvB
      go_wp2
      go_loopw [13] (fun iv wr => ∃ i : Nat, i ≤ n ∧ iv = .int .i64 i ∧ HasS B2 g0 w (.slice (some ⟨gv, ov, none⟩) 8 c0) (.slice a n cap) (.slice (some ⟨gx, 0, none⟩) 8 cx) zs ls X wr ∧ Ints.Sees B2 wr (.slice ap n cs) SS) (fun iv _ => n - (intOf iv).toNat)
      case atStart => exact ⟨0, by omega, rfl, F, SV⟩
      case round =>
        obtain ⟨i, hi, rfl, FR, SR⟩ := hrel
        clear F SV
        by_cases hlt : i < n
        · have i1 : (i : Int) < n := by omega
          go_wp2
          go_loopw [14] (fun kv wr => ∃ k : Nat, k ≤ n ∧ kv = .int .i64 k ∧ HasS B2 g0 w (.slice (some ⟨gv, ov, none⟩) 8 c0) (.slice a n cap) (.slice (some ⟨gx, 0, none⟩) 8 cx) zs ls X wr ∧ Ints.Sees B2 wr (.slice ap n cs) SS) (fun kv _ => n - (intOf kv).toNat)
          case atStart => exact ⟨0, by omega, rfl, FR, SR⟩
          case round =>
            obtain ⟨k, hk, rfl, FK, SK⟩ := hrel
            clear FR SR
            by_cases hkl : k < n
            · have hkL : k < ls.length := by have := HN.out; omega
              have hiS : i < SS.length := by have := HSL.out; omega
              have hiT : i < (turnOf ls).length := by rw [turn_length]; have := HN.out; omega
              have k1 : (k : Int) < n := by omega
              obtain ⟨b, off, rfl, hbB, hc⟩ := SeesW.open FK.r (Nat.lt_of_le_of_lt (Nat.zero_le k) hkL)
              obtain ⟨pp, pc, e0, e1, e2, p2⟩ := hc k hkL
              obtain ⟨gs, os, rfl, hgs, hsc⟩ := seesOpen SK (Nat.lt_of_le_of_lt (Nat.zero_le i) hiS)
              have s0 := hsc i hiS
              have hst : SS[i] = (turnOf ls)[i].s := by
                have h := HSS.out
                have : SS[i]? = ((turnOf ls).map Wr.s)[i]? := by rw [h]
                rw [List.getElem?_eq_getElem hiS, List.getElem?_map, List.getElem?_eq_getElem hiT] at this
                exact Option.some.inj this
              have hpos := (entOk_out (ent_turn HR.out hiT)).1
              have hstep := fun e => state_step HZ.out HR.out hiT hkL e
              rw [hst] at s0
              obtain ⟨t, ht⟩ : ∃ t, (turnOf ls)[i].s = t := ⟨_, rfl⟩
              rw [ht] at s0 hpos hstep
              obtain ⟨x, hx⟩ : ∃ x, ls[k] = x := ⟨_, rfl⟩
              rw [hx] at e0 e1 e2 p2 hstep
              obtain ⟨m, hm'⟩ : ∃ m, x.ps.length = m := ⟨_, rfl⟩
              rw [hm'] at e2 p2
              obtain ⟨t1, t2⟩ := hpos
              have HST := (show Hid _ from hstep)
              clear hc hsc hst hstep hx ht
              have FD := FK.drew
              obtain ⟨WD, hWD⟩ : ∃ WD, wr.drew = WD := ⟨_, rfl⟩
              have SD : Ints.Sees B2 wr.drew (.slice (some ⟨gs, os, none⟩) n cs) SS := SK
              have PD : Sees2 B2 wr.drew (.slice pp m pc) x.ps := p2
              go_wp2_with fail
              refine wp_region_held_drew (S := fun W => W.cell? ⟨b, off + k * 3, none⟩ = some (.int .i64 x.s) ∧ W.cell? ⟨b, off + k * 3 + 2, none⟩ = some (.slice pp m pc) ∧ W.cell? ⟨gs, os + i, none⟩ = some (.int .i64 t)) (by kernel_rfl) ⟨e0, e2, s0⟩ (fun hHeld => ?_)
              have c0' : WD.cell? ⟨b, off + k * 3, none⟩ = some (.int .i64 x.s) := by rw [← hWD]; exact e0
              have c2' : WD.cell? ⟨b, off + k * 3 + 2, none⟩ = some (.slice pp m pc) := by rw [← hWD]; exact e2
              have cs' : WD.cell? ⟨gs, os + i, none⟩ = some (.int .i64 t) := by rw [← hWD]; exact s0
              rw [hWD] at FD SD PD hHeld ⊢
              have hBD := FD.hB
              have hb1 : b < WD.heap.size := by omega
              have hgs1 : gs < WD.heap.size := by omega
              clear hWD e0 e1 e2 s0 FK SK p2 hm'
              by_cases hs : x.s = t
              · have HO := (show Hid _ from HST.out hs)
                clear HST
                subst hs
                have hwr : IntKind.i64.wrap (x.s - 1) = x.s - 1 := by rw [IntKind.wrap_i64]; omega
                refine takeH (i := 0) (some 109) (.slice (some ⟨b, off, none⟩) n cap) rfl rfl (by kernel_rfl) (by kernel_rfl) (by kernel_rfl) (fun _ _ _ h => h) (Or.inl ⟨by rfl, fun w hSw => by (try dsimp only at hSw); go_simp⟩) (by assumption) ?_
                simp only [Act.put, List.setIfInBounds_toArray, List.set_cons_zero, List.set_cons_succ]
                refine takeH (i := 1) (some 110) (.int .i64 (k : Int)) rfl rfl (by kernel_rfl) (by kernel_rfl) (by kernel_rfl) (fun _ _ _ h => h) (Or.inl ⟨by rfl, fun w hSw => by (try dsimp only at hSw); go_simp⟩) (by assumption) ?_
                simp only [Act.put, List.setIfInBounds_toArray, List.set_cons_zero, List.set_cons_succ]
                refine takeH (i := 2) (some 111) (.pointer (some ⟨b, off + k * 3, none⟩)) rfl rfl (by kernel_rfl) (by kernel_rfl) (by kernel_rfl) (fun _ _ _ h => h) (Or.inl ⟨by rfl, fun w hSw => by (try dsimp only at hSw); go_simp⟩) (by assumption) ?_
                simp only [Act.put, List.setIfInBounds_toArray, List.set_cons_zero, List.set_cons_succ]
                refine takeH (i := 3) (some 112) (.pointer (some ⟨b, off + k * 3, none⟩)) rfl rfl (by kernel_rfl) (by kernel_rfl) (by kernel_rfl) (fun _ _ _ h => h) (Or.inl ⟨by rfl, fun w hSw => by (try dsimp only at hSw); go_simp⟩) (by assumption) ?_
                simp only [Act.put, List.setIfInBounds_toArray, List.set_cons_zero, List.set_cons_succ]
                refine takeH (i := 4) (some 113) (.int .i64 x.s) rfl rfl (by kernel_rfl) (by kernel_rfl) (by kernel_rfl) (fun _ _ _ h => h) (Or.inl ⟨by rfl, fun w hSw => by (try dsimp only at hSw); go_simp⟩) (by assumption) ?_
                simp only [Act.put, List.setIfInBounds_toArray, List.set_cons_zero, List.set_cons_succ]
                refine takeH (i := 5) (some 114) (.slice (some ⟨gs, os, none⟩) n cs) rfl rfl (by kernel_rfl) (by kernel_rfl) (by kernel_rfl) (fun _ _ _ h => h) (Or.inl ⟨by rfl, fun w hSw => by (try dsimp only at hSw); go_simp⟩) (by assumption) ?_
                simp only [Act.put, List.setIfInBounds_toArray, List.set_cons_zero, List.set_cons_succ]
                refine takeH (i := 6) (some 115) (.int .i64 (i : Int)) rfl rfl (by kernel_rfl) (by kernel_rfl) (by kernel_rfl) (fun _ _ _ h => h) (Or.inl ⟨by rfl, fun w hSw => by (try dsimp only at hSw); go_simp⟩) (by assumption) ?_
                simp only [Act.put, List.setIfInBounds_toArray, List.set_cons_zero, List.set_cons_succ]
                refine takeH (i := 7) (some 116) (.pointer (some ⟨gs, os + i, none⟩)) rfl rfl (by kernel_rfl) (by kernel_rfl) (by kernel_rfl) (fun _ _ _ h => h) (Or.inl ⟨by rfl, fun w hSw => by (try dsimp only at hSw); go_simp⟩) (by assumption) ?_
                simp only [Act.put, List.setIfInBounds_toArray, List.set_cons_zero, List.set_cons_succ]
                refine takeH (i := 8) (some 117) (.int .i64 x.s) rfl rfl (by kernel_rfl) (by kernel_rfl) (by kernel_rfl) (fun _ _ _ h => h) (Or.inl ⟨by rfl, fun w hSw => by (try dsimp only at hSw); go_simp⟩) (by assumption) ?_
                simp only [Act.put, List.setIfInBounds_toArray, List.set_cons_zero, List.set_cons_succ]
                refine takeH (i := 9) (some 118) (.bool true) rfl rfl (by kernel_rfl) (by kernel_rfl) (by kernel_rfl) (fun _ _ _ h => h) (Or.inl ⟨by rfl, fun w hSw => by (try dsimp only at hSw); go_simp⟩) (by assumption) ?_
                simp only [Act.put, List.setIfInBounds_toArray, List.set_cons_zero, List.set_cons_succ]
                refine takeH (i := 10) (some 119) (.bool true) rfl rfl (by kernel_rfl) (by kernel_rfl) (by kernel_rfl) (fun _ _ _ h => h) (Or.inl ⟨by rfl, fun w hSw => by (try dsimp only at hSw); go_simp⟩) (by assumption) ?_
                simp only [Act.put, List.setIfInBounds_toArray, List.set_cons_zero, List.set_cons_succ]
                refine takeH (i := 11) (some 120) (.slice (some ⟨gv, ov, none⟩) 8 c0) rfl rfl (by kernel_rfl) (by kernel_rfl) (by kernel_rfl) (fun _ _ _ h => h) (Or.inl ⟨by rfl, fun w hSw => by (try dsimp only at hSw); go_simp⟩) (by assumption) ?_
                simp only [Act.put, List.setIfInBounds_toArray, List.set_cons_zero, List.set_cons_succ]
                refine takeH (i := 12) (some 121) (.slice (some ⟨b, off, none⟩) n cap) rfl rfl (by kernel_rfl) (by kernel_rfl) (by kernel_rfl) (fun _ _ _ h => h) (Or.inl ⟨by rfl, fun w hSw => by (try dsimp only at hSw); go_simp⟩) (by assumption) ?_
                simp only [Act.put, List.setIfInBounds_toArray, List.set_cons_zero, List.set_cons_succ]
                refine takeH (i := 13) (some 122) (.slice (some ⟨gs, os, none⟩) n cs) rfl rfl (by kernel_rfl) (by kernel_rfl) (by kernel_rfl) (fun _ _ _ h => h) (Or.inl ⟨by rfl, fun w hSw => by (try dsimp only at hSw); go_simp⟩) (by assumption) ?_
                simp only [Act.put, List.setIfInBounds_toArray, List.set_cons_zero, List.set_cons_succ]
                refine takeH (i := 14) (some 123) (.int .i64 (i : Int)) rfl rfl (by kernel_rfl) (by kernel_rfl) (by kernel_rfl) (fun _ _ _ h => h) (Or.inl ⟨by rfl, fun w hSw => by (try dsimp only at hSw); go_simp⟩) (by assumption) ?_
                simp only [Act.put, List.setIfInBounds_toArray, List.set_cons_zero, List.set_cons_succ]
                refine takeH (i := 15) (some 124) (.pointer (some ⟨gs, os + i, none⟩)) rfl rfl (by kernel_rfl) (by kernel_rfl) (by kernel_rfl) (fun _ _ _ h => h) (Or.inl ⟨by rfl, fun w hSw => by (try dsimp only at hSw); go_simp⟩) (by assumption) ?_
                simp only [Act.put, List.setIfInBounds_toArray, List.set_cons_zero, List.set_cons_succ]
                refine takeH (i := 16) (some 125) (.int .i64 x.s) rfl rfl (by kernel_rfl) (by kernel_rfl) (by kernel_rfl) (fun _ _ _ h => h) (Or.inl ⟨by rfl, fun w hSw => by (try dsimp only at hSw); go_simp⟩) (by assumption) ?_
                simp only [Act.put, List.setIfInBounds_toArray, List.set_cons_zero, List.set_cons_succ]
                refine takeH (i := 18) (some 127) (.slice (some ⟨gv, ov, none⟩) 8 c0) rfl rfl (by kernel_rfl) (by kernel_rfl) (by kernel_rfl) (fun _ _ _ h => h) (Or.inl ⟨by rfl, fun w hSw => by (try dsimp only at hSw); go_simp⟩) (by assumption) ?_
                simp only [Act.put, List.setIfInBounds_toArray, List.set_cons_zero, List.set_cons_succ]
                refine takeH (i := 19) (some 128) (.slice (some ⟨b, off, none⟩) n cap) rfl rfl (by kernel_rfl) (by kernel_rfl) (by kernel_rfl) (fun _ _ _ h => h) (Or.inl ⟨by rfl, fun w hSw => by (try dsimp only at hSw); go_simp⟩) (by assumption) ?_
                simp only [Act.put, List.setIfInBounds_toArray, List.set_cons_zero, List.set_cons_succ]
                refine takeH (i := 20) (some 129) (.slice (some ⟨gs, os, none⟩) n cs) rfl rfl (by kernel_rfl) (by kernel_rfl) (by kernel_rfl) (fun _ _ _ h => h) (Or.inl ⟨by rfl, fun w hSw => by (try dsimp only at hSw); go_simp⟩) (by assumption) ?_
                simp only [Act.put, List.setIfInBounds_toArray, List.set_cons_zero, List.set_cons_succ]
                refine takeH (i := 21) (some 130) (.int .i64 (i : Int)) rfl rfl (by kernel_rfl) (by kernel_rfl) (by kernel_rfl) (fun _ _ _ h => h) (Or.inl ⟨by rfl, fun w hSw => by (try dsimp only at hSw); go_simp⟩) (by assumption) ?_
                simp only [Act.put, List.setIfInBounds_toArray, List.set_cons_zero, List.set_cons_succ]
                refine takeH (i := 22) (some 131) (.pointer (some ⟨gs, os + i, none⟩)) rfl rfl (by kernel_rfl) (by kernel_rfl) (by kernel_rfl) (fun _ _ _ h => h) (Or.inl ⟨by rfl, fun w hSw => by (try dsimp only at hSw); go_simp⟩) (by assumption) ?_
                simp only [Act.put, List.setIfInBounds_toArray, List.set_cons_zero, List.set_cons_succ]
                refine takeH (i := 23) (some 132) (.int .i64 x.s) rfl rfl (by kernel_rfl) (by kernel_rfl) (by kernel_rfl) (fun _ _ _ h => h) (Or.inl ⟨by rfl, fun w hSw => by (try dsimp only at hSw); go_simp⟩) (by assumption) ?_
                simp only [Act.put, List.setIfInBounds_toArray, List.set_cons_zero, List.set_cons_succ]
                refine takeH (i := 24) (some 133) (.int .i64 (x.s - 1)) rfl rfl (by kernel_rfl) (by kernel_rfl) (by kernel_rfl) (fun _ _ _ h => h) (Or.inl ⟨by rfl, fun w hSw => by (try dsimp only at hSw); go_simp⟩) (by assumption) ?_
                simp only [Act.put, List.setIfInBounds_toArray, List.set_cons_zero, List.set_cons_succ]
                refine takeH (i := 26) (some 135) (.slice (some ⟨b, off, none⟩) n cap) rfl rfl (by kernel_rfl) (by kernel_rfl) (by kernel_rfl) (fun _ _ _ h => h) (Or.inl ⟨by rfl, fun w hSw => by (try dsimp only at hSw); go_simp⟩) (by assumption) ?_
                simp only [Act.put, List.setIfInBounds_toArray, List.set_cons_zero, List.set_cons_succ]
                refine takeH (i := 27) (some 136) (.int .i64 (k : Int)) rfl rfl (by kernel_rfl) (by kernel_rfl) (by kernel_rfl) (fun _ _ _ h => h) (Or.inl ⟨by rfl, fun w hSw => by (try dsimp only at hSw); go_simp⟩) (by assumption) ?_
                simp only [Act.put, List.setIfInBounds_toArray, List.set_cons_zero, List.set_cons_succ]
                refine takeH (i := 28) (some 137) (.pointer (some ⟨b, off + k * 3, none⟩)) rfl rfl (by kernel_rfl) (by kernel_rfl) (by kernel_rfl) (fun _ _ _ h => h) (Or.inl ⟨by rfl, fun w hSw => by (try dsimp only at hSw); go_simp⟩) (by assumption) ?_
                simp only [Act.put, List.setIfInBounds_toArray, List.set_cons_zero, List.set_cons_succ]
                refine takeH (i := 29) (some 138) (.pointer (some ⟨b, off + k * 3 + 2, none⟩)) rfl rfl (by kernel_rfl) (by kernel_rfl) (by kernel_rfl) (fun _ _ _ h => h) (Or.inl ⟨by rfl, fun w hSw => by (try dsimp only at hSw); go_simp⟩) (by assumption) ?_
                simp only [Act.put, List.setIfInBounds_toArray, List.set_cons_zero, List.set_cons_succ]
                refine takeH (i := 30) (some 139) (.slice pp m pc) rfl rfl (by kernel_rfl) (by kernel_rfl) (by kernel_rfl) (fun _ _ _ h => h) (Or.inl ⟨by rfl, fun w hSw => by (try dsimp only at hSw); go_simp⟩) (by assumption) ?_
                simp only [Act.put, List.setIfInBounds_toArray, List.set_cons_zero, List.set_cons_succ]
                refine wpAnyH_ready (rs := [17]) (by kernel_rfl) (by simp) ?_
                refine AllReadyH.cons rfl (fun K hK => ?_) AllReadyH.nil
                go_simp
                refine (implState (.slice (some ⟨gv, ov, none⟩) 8 c0) (.slice (some ⟨b, off, none⟩) n cap) zs ls x.s B2 WD FD.z FD.r FD.hB).mono ?_
                rintro e W2 ⟨u2, rfl, O2, b2⟩
                have c02 := (b2.cell (p := ⟨b, off + k * 3, none⟩) (by show b < _; omega)).trans c0'
                have c22 := (b2.cell (p := ⟨b, off + k * 3 + 2, none⟩) (by show b < _; omega)).trans c2'
                have cs2 := (b2.cell (p := ⟨gs, os + i, none⟩) (by show gs < _; omega)).trans cs'
                have hz2 := b2.size
                have F2 := FD.on b2
                have S2 := SD.on b2 FD.hB
                have P2 := PD.on b2 FD.hB
                go_simp
                refine hK.out _ _ ⟨c02, c22, cs2⟩ (fun hHeld17 => ?_)
                clear hK K
                refine wpAnyH_ready (rs := [25]) (by kernel_rfl) (by simp) ?_
                refine AllReadyH.cons rfl (fun K hK => ?_) AllReadyH.nil
                go_simp
                refine (implState (.slice (some ⟨gv, ov, none⟩) 8 c0) (.slice (some ⟨b, off, none⟩) n cap) zs ls (x.s - 1) B2 W2 F2.z F2.r F2.hB).mono ?_
                rintro e W3 ⟨u3, rfl, O3, b3⟩
                have c03 := (b3.cell (p := ⟨b, off + k * 3, none⟩) (by show b < _; omega)).trans c02
                have c23 := (b3.cell (p := ⟨b, off + k * 3 + 2, none⟩) (by show b < _; omega)).trans c22
                have cs3 := (b3.cell (p := ⟨gs, os + i, none⟩) (by show gs < _; omega)).trans cs2
                have hz3 := b3.size
                have F3 := F2.on b3
                have S3 := S2.on b3 F2.hB
                have P3 := P2.on b3 F2.hB
                have O2s := (O2.on b3 (Nat.le_refl _)).sees
                go_simp
                refine hK.out _ _ ⟨c03, c23, cs3⟩ (fun hHeld25 => ?_)
                clear hK K
                refine wpAnyH_ready (rs := [31]) (by kernel_rfl) (by simp) ?_
                refine AllReadyH.cons rfl (fun K hK => ?_) AllReadyH.nil
                go_simp
                refine (specOver _ (.slice pp m pc) (stateAt zs ls (x.s - 1)) x.ps W3.heap.size W3 O3.sees (P3.up F3.hB) (Nat.le_refl _)).mono ?_
                rintro e W4 ⟨u4, rfl, O4, b4⟩
                have c04 := (b4.cell (p := ⟨b, off + k * 3, none⟩) (by show b < _; omega)).trans c03
                have c24 := (b4.cell (p := ⟨b, off + k * 3 + 2, none⟩) (by show b < _; omega)).trans c23
                have cs4 := (b4.cell (p := ⟨gs, os + i, none⟩) (by show gs < _; omega)).trans cs3
                have hz4 := b4.size
                have F4 := F3.on b4
                have S4 := S3.on b4 F3.hB
                have O2t := O2s.on b4 (Nat.le_refl _)
                rw [← HO.out] at O4
                go_simp
                refine hK.out _ _ ⟨c04, c24, cs4⟩ (fun hHeld31 => ?_)
                clear hK K
                refine wpAnyH_ready (rs := [32]) (by kernel_rfl) (by simp) ?_
                refine AllReadyH.cons rfl (fun K hK => ?_) AllReadyH.nil
                go_simp
                refine (Ints.sameIntsC _ _ (stateAt zs ls x.s) W4.heap.size W4 (O2t.up hz4) O4.sees (Nat.le_refl _)).mono ?_
                rintro e W5 ⟨rfl, b5⟩
                have c05 := (b5.cell (p := ⟨b, off + k * 3, none⟩) (by show b < _; omega)).trans c04
                have c25 := (b5.cell (p := ⟨b, off + k * 3 + 2, none⟩) (by show b < _; omega)).trans c24
                have cs5 := (b5.cell (p := ⟨gs, os + i, none⟩) (by show gs < _; omega)).trans cs4
                have hz5 := b5.size
                have F5 := F4.on b5
                have S5 := S4.on b5 F4.hB
                go_simp
                refine hK.out _ _ ⟨c05, c25, cs5⟩ (fun hHeld32 => ?_)
                clear hK K
                refine takeH (i := 33) (some 142) (.bool false) rfl rfl (by kernel_rfl) (by kernel_rfl) (by kernel_rfl) (fun _ _ _ h => h) (Or.inl ⟨by rfl, fun w hSw => by (try dsimp only at hSw); go_simp⟩) (by assumption) ?_
                simp only [Act.put, List.setIfInBounds_toArray, List.set_cons_zero, List.set_cons_succ]
                refine takeH (i := 34) (some 143) (.bool false) rfl rfl (by kernel_rfl) (by kernel_rfl) (by kernel_rfl) (fun _ _ _ h => h) (Or.inl ⟨by rfl, fun w hSw => by (try dsimp only at hSw); go_simp⟩) (by assumption) ?_
                simp only [Act.put, List.setIfInBounds_toArray, List.set_cons_zero, List.set_cons_succ]
                refine wpAnyH_done (by kernel_rfl) ?_ _
                clear c0' c2' cs' c02 c22 cs2 c03 c23 cs3 c04 c24 cs4 hHeld
                go_wp2
                go_roundw
                case rel => exact ⟨k + 1, by omega, by go_num, F5, S5⟩
                case measure => simp [intOf]; omega
              · have hd0 : (x.s == t) = false := by rw [beq_eq_false_iff_ne]; exact hs
                clear HST hs
                refine takeH (i := 0) (some 109) (.slice (some ⟨b, off, none⟩) n cap) rfl rfl (by kernel_rfl) (by kernel_rfl) (by kernel_rfl) (fun _ _ _ h => h) (Or.inl ⟨by rfl, fun w hSw => by (try dsimp only at hSw); go_simp⟩) (by assumption) ?_
                simp only [Act.put, List.setIfInBounds_toArray, List.set_cons_zero, List.set_cons_succ]
                refine takeH (i := 1) (some 110) (.int .i64 (k : Int)) rfl rfl (by kernel_rfl) (by kernel_rfl) (by kernel_rfl) (fun _ _ _ h => h) (Or.inl ⟨by rfl, fun w hSw => by (try dsimp only at hSw); go_simp⟩) (by assumption) ?_
                simp only [Act.put, List.setIfInBounds_toArray, List.set_cons_zero, List.set_cons_succ]
                refine takeH (i := 2) (some 111) (.pointer (some ⟨b, off + k * 3, none⟩)) rfl rfl (by kernel_rfl) (by kernel_rfl) (by kernel_rfl) (fun _ _ _ h => h) (Or.inl ⟨by rfl, fun w hSw => by (try dsimp only at hSw); go_simp⟩) (by assumption) ?_
                simp only [Act.put, List.setIfInBounds_toArray, List.set_cons_zero, List.set_cons_succ]
                refine takeH (i := 3) (some 112) (.pointer (some ⟨b, off + k * 3, none⟩)) rfl rfl (by kernel_rfl) (by kernel_rfl) (by kernel_rfl) (fun _ _ _ h => h) (Or.inl ⟨by rfl, fun w hSw => by (try dsimp only at hSw); go_simp⟩) (by assumption) ?_
                simp only [Act.put, List.setIfInBounds_toArray, List.set_cons_zero, List.set_cons_succ]
                refine takeH (i := 4) (some 113) (.int .i64 x.s) rfl rfl (by kernel_rfl) (by kernel_rfl) (by kernel_rfl) (fun _ _ _ h => h) (Or.inl ⟨by rfl, fun w hSw => by (try dsimp only at hSw); go_simp⟩) (by assumption) ?_
                simp only [Act.put, List.setIfInBounds_toArray, List.set_cons_zero, List.set_cons_succ]
                refine takeH (i := 5) (some 114) (.slice (some ⟨gs, os, none⟩) n cs) rfl rfl (by kernel_rfl) (by kernel_rfl) (by kernel_rfl) (fun _ _ _ h => h) (Or.inl ⟨by rfl, fun w hSw => by (try dsimp only at hSw); go_simp⟩) (by assumption) ?_
                simp only [Act.put, List.setIfInBounds_toArray, List.set_cons_zero, List.set_cons_succ]
                refine takeH (i := 6) (some 115) (.int .i64 (i : Int)) rfl rfl (by kernel_rfl) (by kernel_rfl) (by kernel_rfl) (fun _ _ _ h => h) (Or.inl ⟨by rfl, fun w hSw => by (try dsimp only at hSw); go_simp⟩) (by assumption) ?_
                simp only [Act.put, List.setIfInBounds_toArray, List.set_cons_zero, List.set_cons_succ]
                refine takeH (i := 7) (some 116) (.pointer (some ⟨gs, os + i, none⟩)) rfl rfl (by kernel_rfl) (by kernel_rfl) (by kernel_rfl) (fun _ _ _ h => h) (Or.inl ⟨by rfl, fun w hSw => by (try dsimp only at hSw); go_simp⟩) (by assumption) ?_
                simp only [Act.put, List.setIfInBounds_toArray, List.set_cons_zero, List.set_cons_succ]
                refine takeH (i := 8) (some 117) (.int .i64 t) rfl rfl (by kernel_rfl) (by kernel_rfl) (by kernel_rfl) (fun _ _ _ h => h) (Or.inl ⟨by rfl, fun w hSw => by (try dsimp only at hSw); go_simp⟩) (by assumption) ?_
                simp only [Act.put, List.setIfInBounds_toArray, List.set_cons_zero, List.set_cons_succ]
                refine takeH (i := 9) (some 118) (.bool false) rfl rfl (by kernel_rfl) (by kernel_rfl) (by kernel_rfl) (fun _ _ _ h => h) (Or.inl ⟨by rfl, fun w hSw => by (try dsimp only at hSw); go_simp⟩) (by assumption) ?_
                simp only [Act.put, List.setIfInBounds_toArray, List.set_cons_zero, List.set_cons_succ]
                refine takeH (i := 10) (some 119) (.bool false) rfl rfl (by kernel_rfl) (by kernel_rfl) (by kernel_rfl) (fun _ _ _ h => h) (Or.inl ⟨by rfl, fun w hSw => by (try dsimp only at hSw); go_simp⟩) (by assumption) ?_
                simp only [Act.put, List.setIfInBounds_toArray, List.set_cons_zero, List.set_cons_succ]
                refine takeH (i := 11) (some 120) (undef) rfl rfl (by kernel_rfl) (by kernel_rfl) (by kernel_rfl) (fun _ _ _ h => h) (Or.inr ⟨by rfl, rfl⟩) (by assumption) ?_
                simp only [Act.put, List.setIfInBounds_toArray, List.set_cons_zero, List.set_cons_succ]
                refine takeH (i := 12) (some 121) (undef) rfl rfl (by kernel_rfl) (by kernel_rfl) (by kernel_rfl) (fun _ _ _ h => h) (Or.inr ⟨by rfl, rfl⟩) (by assumption) ?_
                simp only [Act.put, List.setIfInBounds_toArray, List.set_cons_zero, List.set_cons_succ]
                refine takeH (i := 13) (some 122) (undef) rfl rfl (by kernel_rfl) (by kernel_rfl) (by kernel_rfl) (fun _ _ _ h => h) (Or.inr ⟨by rfl, rfl⟩) (by assumption) ?_
                simp only [Act.put, List.setIfInBounds_toArray, List.set_cons_zero, List.set_cons_succ]
                refine takeH (i := 14) (some 123) (undef) rfl rfl (by kernel_rfl) (by kernel_rfl) (by kernel_rfl) (fun _ _ _ h => h) (Or.inr ⟨by rfl, rfl⟩) (by assumption) ?_
                simp only [Act.put, List.setIfInBounds_toArray, List.set_cons_zero, List.set_cons_succ]
                refine takeH (i := 15) (some 124) (undef) rfl rfl (by kernel_rfl) (by kernel_rfl) (by kernel_rfl) (fun _ _ _ h => h) (Or.inr ⟨by rfl, rfl⟩) (by assumption) ?_
                simp only [Act.put, List.setIfInBounds_toArray, List.set_cons_zero, List.set_cons_succ]
                refine takeH (i := 16) (some 125) (undef) rfl rfl (by kernel_rfl) (by kernel_rfl) (by kernel_rfl) (fun _ _ _ h => h) (Or.inr ⟨by rfl, rfl⟩) (by assumption) ?_
                simp only [Act.put, List.setIfInBounds_toArray, List.set_cons_zero, List.set_cons_succ]
                refine takeH (i := 17) (some 126) (undef) rfl rfl (by kernel_rfl) (by kernel_rfl) (by kernel_rfl) (fun _ _ _ h => h) (Or.inr ⟨by rfl, rfl⟩) (by assumption) ?_
                simp only [Act.put, List.setIfInBounds_toArray, List.set_cons_zero, List.set_cons_succ]
                refine takeH (i := 18) (some 127) (undef) rfl rfl (by kernel_rfl) (by kernel_rfl) (by kernel_rfl) (fun _ _ _ h => h) (Or.inr ⟨by rfl, rfl⟩) (by assumption) ?_
                simp only [Act.put, List.setIfInBounds_toArray, List.set_cons_zero, List.set_cons_succ]
                refine takeH (i := 19) (some 128) (undef) rfl rfl (by kernel_rfl) (by kernel_rfl) (by kernel_rfl) (fun _ _ _ h => h) (Or.inr ⟨by rfl, rfl⟩) (by assumption) ?_
                simp only [Act.put, List.setIfInBounds_toArray, List.set_cons_zero, List.set_cons_succ]
                refine takeH (i := 20) (some 129) (undef) rfl rfl (by kernel_rfl) (by kernel_rfl) (by kernel_rfl) (fun _ _ _ h => h) (Or.inr ⟨by rfl, rfl⟩) (by assumption) ?_
                simp only [Act.put, List.setIfInBounds_toArray, List.set_cons_zero, List.set_cons_succ]
                refine takeH (i := 21) (some 130) (undef) rfl rfl (by kernel_rfl) (by kernel_rfl) (by kernel_rfl) (fun _ _ _ h => h) (Or.inr ⟨by rfl, rfl⟩) (by assumption) ?_
                simp only [Act.put, List.setIfInBounds_toArray, List.set_cons_zero, List.set_cons_succ]
                refine takeH (i := 22) (some 131) (undef) rfl rfl (by kernel_rfl) (by kernel_rfl) (by kernel_rfl) (fun _ _ _ h => h) (Or.inr ⟨by rfl, rfl⟩) (by assumption) ?_
                simp only [Act.put, List.setIfInBounds_toArray, List.set_cons_zero, List.set_cons_succ]
                refine takeH (i := 23) (some 132) (undef) rfl rfl (by kernel_rfl) (by kernel_rfl) (by kernel_rfl) (fun _ _ _ h => h) (Or.inr ⟨by rfl, rfl⟩) (by assumption) ?_
                simp only [Act.put, List.setIfInBounds_toArray, List.set_cons_zero, List.set_cons_succ]
                refine takeH (i := 24) (some 133) (undef) rfl rfl (by kernel_rfl) (by kernel_rfl) (by kernel_rfl) (fun _ _ _ h => h) (Or.inr ⟨by rfl, rfl⟩) (by assumption) ?_
                simp only [Act.put, List.setIfInBounds_toArray, List.set_cons_zero, List.set_cons_succ]
                refine takeH (i := 25) (some 134) (undef) rfl rfl (by kernel_rfl) (by kernel_rfl) (by kernel_rfl) (fun _ _ _ h => h) (Or.inr ⟨by rfl, rfl⟩) (by assumption) ?_
                simp only [Act.put, List.setIfInBounds_toArray, List.set_cons_zero, List.set_cons_succ]
                refine takeH (i := 26) (some 135) (undef) rfl rfl (by kernel_rfl) (by kernel_rfl) (by kernel_rfl) (fun _ _ _ h => h) (Or.inr ⟨by rfl, rfl⟩) (by assumption) ?_
                simp only [Act.put, List.setIfInBounds_toArray, List.set_cons_zero, List.set_cons_succ]
                refine takeH (i := 27) (some 136) (undef) rfl rfl (by kernel_rfl) (by kernel_rfl) (by kernel_rfl) (fun _ _ _ h => h) (Or.inr ⟨by rfl, rfl⟩) (by assumption) ?_
                simp only [Act.put, List.setIfInBounds_toArray, List.set_cons_zero, List.set_cons_succ]
                refine takeH (i := 28) (some 137) (undef) rfl rfl (by kernel_rfl) (by kernel_rfl) (by kernel_rfl) (fun _ _ _ h => h) (Or.inr ⟨by rfl, rfl⟩) (by assumption) ?_
                simp only [Act.put, List.setIfInBounds_toArray, List.set_cons_zero, List.set_cons_succ]
                refine takeH (i := 29) (some 138) (undef) rfl rfl (by kernel_rfl) (by kernel_rfl) (by kernel_rfl) (fun _ _ _ h => h) (Or.inr ⟨by rfl, rfl⟩) (by assumption) ?_
                simp only [Act.put, List.setIfInBounds_toArray, List.set_cons_zero, List.set_cons_succ]
                refine takeH (i := 30) (some 139) (undef) rfl rfl (by kernel_rfl) (by kernel_rfl) (by kernel_rfl) (fun _ _ _ h => h) (Or.inr ⟨by rfl, rfl⟩) (by assumption) ?_
                simp only [Act.put, List.setIfInBounds_toArray, List.set_cons_zero, List.set_cons_succ]
                refine takeH (i := 31) (some 140) (undef) rfl rfl (by kernel_rfl) (by kernel_rfl) (by kernel_rfl) (fun _ _ _ h => h) (Or.inr ⟨by rfl, rfl⟩) (by assumption) ?_
                simp only [Act.put, List.setIfInBounds_toArray, List.set_cons_zero, List.set_cons_succ]
                refine takeH (i := 32) (some 141) (undef) rfl rfl (by kernel_rfl) (by kernel_rfl) (by kernel_rfl) (fun _ _ _ h => h) (Or.inr ⟨by rfl, rfl⟩) (by assumption) ?_
                simp only [Act.put, List.setIfInBounds_toArray, List.set_cons_zero, List.set_cons_succ]
                refine takeH (i := 33) (some 142) (undef) rfl rfl (by kernel_rfl) (by kernel_rfl) (by kernel_rfl) (fun _ _ _ h => h) (Or.inr ⟨by rfl, rfl⟩) (by assumption) ?_
                simp only [Act.put, List.setIfInBounds_toArray, List.set_cons_zero, List.set_cons_succ]
                refine takeH (i := 34) (some 143) (.bool false) rfl rfl (by kernel_rfl) (by kernel_rfl) (by kernel_rfl) (fun _ _ _ h => h) (Or.inl ⟨by rfl, fun w hSw => by (try dsimp only at hSw); go_simp⟩) (by assumption) ?_
                simp only [Act.put, List.setIfInBounds_toArray, List.set_cons_zero, List.set_cons_succ]
                refine wpAnyH_done (by kernel_rfl) ?_ _
                clear c0' c2' cs' hHeld
                go_wp2
                go_roundw
                case rel => exact ⟨k + 1, by omega, by go_num, FD, SD⟩
                case measure => simp [intOf]; omega
            · obtain rfl : k = n := by omega
              have k1 : ¬ (k : Int) < k := by omega
              clear hkl
              go_wp2
              go_roundw
              case rel => exact ⟨i + 1, by omega, by go_num, FK, SK⟩
              case measure => simp [intOf]; omega
        · obtain rfl : i = n := by omega
          have i1 : ¬ (i : Int) < i := by omega
          clear hlt
          have HZ0 := (show Hid _ from state_zero HZ.out HR.out)
          have cA := implState (.slice (some ⟨gv, ov, none⟩) 8 c0) (.slice a i cap) zs ls 0 B2 wr FR.z FR.r FR.hB
          go_wp2_with fail
          refine cA.mono ?_
          rintro e w20 ⟨u20, rfl, O20, b20⟩
          have F20 := FR.on b20
          rw [HZ0.out] at O20
          go_wp2_with fail
          refine (Ints.sameIntsC _ _ zs w20.heap.size w20 O20.sees (F20.z.up F20.hB) (Nat.le_refl _)).mono ?_
          rintro e w21 ⟨rfl, b21⟩
          have F21 := F20.on b21
          go_wp2
          go_ret
          exact ⟨rfl, F21.b⟩

theorem walkStates (a : Option Addr) (len cap : Nat) (zs : List Int) (w : World) (h : Args.IsRow .u8 w a len cap zs) :
    Calls Try.prog 3 #[.slice a len cap] w fun e w' => e = .returned (.bool true) ∧ Below w.heap.size w w' := by
  by_cases hb : 1048576 < len
  · exact statesBig a len cap w hb
  · obtain ⟨l, hl, hC⟩ := Args.code h
    subst hl
    exact statesFn l a cap w hC (by omega)
end Hist
end Go.Proofs.Ytppikpdphcfomaa
