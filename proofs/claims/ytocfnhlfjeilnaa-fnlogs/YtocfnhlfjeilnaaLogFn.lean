/- The walk of FnLogs. -/
import Derived.Test.YtocfnhlfjeilnaaLogDraw
import Derived.Test.YtocfnhlfjeilnaaLogSame
import Derived.Test.YtocfnhlfjeilnaaLogOver
import Derived.Test.YtocfnhlfjeilnaaLogNet
import Derived.Test.YtocfnhlfjeilnaaLogLast
import Derived.Test.YtocfnhlfjeilnaaIntSame
import Derived.Test.YtocfnhlfjeilnaaTake
set_option linter.unusedVariables false
set_option linter.unusedSimpArgs false
namespace Go.Proofs.Ytocfnhlfjeilnaa
open Go.RowKit
namespace Logs
open Bas Flat

theorem codeUp {B B' : Nat} {w : World} {v : Value} {l : List UInt8} (h : Draw.Code B w v l) (hB : B ≤ B') : Draw.Code B' w v l := by
  obtain ⟨a, cap, h1, h0, h2⟩ := h
  exact ⟨a, cap, h1, h0, fun hl => by obtain ⟨b, off, e, hb, hc⟩ := h2 hl; exact ⟨b, off, e, by omega, hc⟩⟩
/-- what the walk holds of: the numbers, the rows, the numbers behind, the net rows, the code -/
structure Has (B g0 : Nat) (w : World) (v0 vl vx vn : Value) (zs : List Int) (xs : List R2) (X : List Int) (ns : List R2) (vc : Value) (l : List UInt8) (W : World) : Prop where
  z : Ints.Sees B W v0 zs
  r : Sees2 B W vl xs
  x : Ints.Sees B W vx X
  n : Sees2 B W vn ns
  c : Draw.Code B W vc l
  hB : B ≤ W.heap.size
  b : Below g0 w W
  hg : g0 ≤ B
section
variable {B g0 : Nat} {w W W' : World} {v0 vl vx vn vc : Value} {zs X : List Int} {xs ns : List R2} {l : List UInt8}
theorem Has.on (h : Has B g0 w v0 vl vx vn zs xs X ns vc l W) (b : Below W.heap.size W W') : Has B g0 w v0 vl vx vn zs xs X ns vc l W' :=
  { z := h.z.on b h.hB, r := h.r.on b h.hB, x := h.x.on b h.hB, n := h.n.on b h.hB, c := h.c.below (b.mono h.hB), hB := Nat.le_trans h.hB b.size, b := h.b.trans (b.mono (Nat.le_trans h.hg h.hB)), hg := h.hg }
theorem Has.drew (h : Has B g0 w v0 vl vx vn zs xs X ns vc l W) : Has B g0 w v0 vl vx vn zs xs X ns vc l W.drew :=
  { z := h.z, r := h.r, x := h.x, n := h.n, c := h.c, hB := h.hB, b := h.b.drew, hg := h.hg }
end
theorem seesAt {B g n c : Nat} {W : World} {zs : List Int} (h : Ints.Sees B W (.slice (some ⟨g, 0, none⟩) n c) zs) (i : Nat) (hi : i < zs.length) : W.cell? ⟨g, i, none⟩ = some (.int .i64 zs[i]) := by
  obtain ⟨a', cap', e, -, -, h3⟩ := h
  simp only [Value.slice.injEq] at e
  obtain ⟨rfl, -, -⟩ := e
  obtain ⟨b, off, e, hb, hc⟩ := h3 (fun h => by rw [h] at hi; cases hi)
  simp only [Option.some.injEq, Addr.mk.injEq] at e
  obtain ⟨rfl, rfl, -⟩ := e
  have := hc i hi
  rwa [Nat.zero_add] at this
theorem seesAt' {B g o n c : Nat} {W : World} {zs : List Int} (h : Ints.Sees B W (.slice (some ⟨g, o, none⟩) n c) zs) (i : Nat) (hi : i < zs.length) : W.cell? ⟨g, o + i, none⟩ = some (.int .i64 zs[i]) := by
  obtain ⟨a', cap', e, -, -, h3⟩ := h
  simp only [Value.slice.injEq] at e
  obtain ⟨rfl, -, -⟩ := e
  obtain ⟨b, off, e, hb, hc⟩ := h3 (fun h => by rw [h] at hi; cases hi)
  simp only [Option.some.injEq, Addr.mk.injEq] at e
  obtain ⟨rfl, rfl, -⟩ := e
  exact hc i hi
theorem sees_drop {B n cap k : Nat} {w : World} {a : Option Addr} {xs : List R2} (h : Sees2 B w (.slice a n cap) xs) (hn : xs.length = n) (hk : k ≤ n) : Sees2 B w (.slice (if cap = k then a else a.map (·.add (k * 2))) (n - k) (cap - k)) (xs.drop k) := by
  obtain ⟨a', cap', e, h1, h2, h3⟩ := h
  simp only [Value.slice.injEq] at e
  obtain ⟨rfl, -, rfl⟩ := e
  have hl : (xs.drop k).length = n - k := by rw [List.length_drop, hn]
  refine ⟨_, cap - k, by rw [hl], by omega, by omega, fun hne => ?_⟩
  have hkn : k < n := by
    rcases Nat.lt_or_ge k n with h | h
    · exact h
    · exact absurd (List.eq_nil_of_length_eq_zero (by omega)) hne
  obtain ⟨b, off, rfl, hlt, hc⟩ := h3 (fun e => by rw [e] at hn; simp at hn; omega)
  refine ⟨b, off + k * 2, ?_, hlt, fun j hj => ?_⟩
  · rw [if_neg (by omega)]; simp [Addr.add]
  · rw [List.getElem_drop]
    have := hc (k + j) (by omega)
    have e : off + (k + j) * rowEl.sz = off + k * 2 + j * rowEl.sz := by show off + (k + j) * 2 = off + k * 2 + j * 2; omega
    rw [e] at this; exact this
theorem ret_eq {a b : Int} (h : a = b) : Ending.returned (.bool (a == b)) = .returned (.bool true) := by subst h; simp
theorem at_some {zs : List Int} {xs : List R2} (h8 : zs.length = 8) (hr : rowsOk xs = true) {i : Nat} (hi : i < 8) {y : Int} (h : lastV xs (i : Int) = some y) : (putAll zs xs)[i]? = some y := by
  rw [putAll_at xs zs (fun x hx => (rowsOk_at hr hx).1) i (by omega), h]; rfl
theorem at_none {zs : List Int} {xs : List R2} (h8 : zs.length = 8) (hr : rowsOk xs = true) {i : Nat} (hi : i < 8) (h : lastV xs (i : Int) = none) : (putAll zs xs)[i]? = zs[i]? := by
  rw [putAll_at xs zs (fun x hx => (rowsOk_at hr hx).1) i (by omega), h, List.getElem?_eq_getElem (by omega)]; rfl

theorem logsBig (a : Option Addr) (len cap : Nat) (w : World) (h : 1048576 < len) : Calls Try.prog 3 #[.slice a len cap] w fun e w' => e = .returned (.bool true) ∧ Below w.heap.size w w' := by
  have h' : (1048576 : Int) < len := by omega
  have cB := Ints.bigC a len cap w
  rw [decide_eq_true h'] at cB
  go_enter Try.func3, Try.ntmps3
  go_wp2_with fail
  refine cB.mono ?_
  rintro e w1 ⟨rfl, rfl⟩
  go_wp2
  go_ret
  exact ⟨rfl, Below.refl _ _⟩
set_option maxRecDepth 100000 in
set_option maxHeartbeats 12800000 in
theorem logsFn (l : List UInt8) (aq : Option Addr) (cq : Nat) (w : World) (hC : Draw.Code w.heap.size w (.slice aq l.length cq) l) (hl : l.length ≤ 1048576) :
    Calls Try.prog 3 #[.slice aq l.length cq] w fun e w' => e = .returned (.bool true) ∧ Below w.heap.size w w' := by
  have h' : ¬ (1048576 : Int) < l.length := by omega
  have cB := Ints.bigC aq l.length cq w
  rw [decide_eq_false h'] at cB
  have cD := drawOverC w.heap.size (.slice aq l.length cq) l w hC (Nat.le_refl _) hl
  obtain ⟨g0, hg0⟩ : ∃ g, w.heap.size = g := ⟨_, rfl⟩
  obtain ⟨lq, hlq⟩ : ∃ q, l.length = q := ⟨_, rfl⟩
  have HQ := (show Hid _ from hlq)
  rw [hlq] at cB cD hC hl ⊢
  rw [hg0] at hC ⊢
  have HG := (show Hid _ from hg0)
  clear h' hlq hg0
  go_enter Try.func3, Try.ntmps3
  go_wp2_with fail
  refine cB.mono ?_
  rintro e w0 ⟨rfl, rfl⟩
  go_wp2_with fail
  refine cD.mono ?_
  rintro e w1 ⟨v0, v, zs, xs, rfl, s0, s1, hz8, hx, b1⟩
  rw [HG.out] at b1
  clear cB cD
  have hs1 : g0 ≤ w1.heap.size := by have := b1.size; have := HG.out; omega
  have hC1 := hC.below b1
  have h0 := s0
  have h1 := s1
  obtain ⟨a0, c0, rfl⟩ := h0.form
  obtain ⟨a, cap, rfl⟩ := h1.form
  obtain ⟨n, hn⟩ : ∃ n, xs.length = n := ⟨_, rfl⟩
  obtain ⟨m, hm⟩ : ∃ n, zs.length = n := ⟨_, rfl⟩
  have HN := (show Hid _ from hn)
  have HM := (show Hid _ from hm)
  rw [hn] at s1 hx ⊢
  rw [hm] at s0 hz8 ⊢
  clear hn hm h0 h1 hC
  go_wp2_with fail
  refine (implOver _ _ zs xs w1.heap.size w1 s0 s1 (Nat.le_refl _)).mono ?_
  rintro e w2 ⟨vx, rfl, Ox, b2⟩
  have b12 := b1.trans (b2.mono hs1)
  have s0 := s0.on b2 (Nat.le_refl _)
  have s1 := s1.on b2 (Nat.le_refl _)
  have hC2 := hC1.below (b2.mono hs1)
  have hs2 : g0 ≤ w2.heap.size := Nat.le_trans hs1 b2.size
  have hs12 := b2.size
  clear b1 hC1
  obtain ⟨ax, cx, rfl⟩ := Ox.form
  obtain ⟨X, hX⟩ : ∃ X, overOf zs xs = X := ⟨_, rfl⟩
  have HXX := (show Hid _ from hX)
  rw [hX] at Ox ⊢
  obtain ⟨mx, hmx⟩ : ∃ n, X.length = n := ⟨_, rfl⟩
  have HMX := (show Hid _ from hmx)
  rw [hmx] at Ox ⊢
  clear hX hmx
  go_wp2_with fail
  refine (specOk _ xs w1.heap.size w2 s1).mono ?_
  rintro e w2' ⟨rfl, rfl⟩
  obtain ⟨p, hp⟩ : ∃ p, rowsOk xs = p := ⟨_, rfl⟩
  rw [hp]
  cases p with
  | false =>
    obtain rfl : mx = 0 := by rw [← HMX.out, ← HXX.out, over_no (by rw [hp, Bool.and_false])]; rfl
    go_wp2
    go_ret
    exact ⟨rfl, b12⟩
  | true =>
  by_cases hm8 : m = 8
  case neg =>
    obtain rfl : mx = 0 := by
      rw [← HMX.out, ← HXX.out, over_no (by
        rw [Bool.and_eq_false_iff]; left
        unfold valsOk
        rw [Bool.and_eq_false_iff]; left
        rw [HM.out]; exact decide_eq_false hm8)]; rfl
    have d8 : ((m : Int) == 8) = false := by rw [beq_eq_false_iff_ne]; omega
    go_wp2
    go_ret
    exact ⟨rfl, b12⟩
  subst hm8
  have HR := (show Hid _ from hp)
  have hzz : valsOk zs = true := by rw [vals_eq]; exact hz8 rfl
  have HZ := (show Hid _ from hzz)
  obtain rfl : mx = 8 := by rw [← HMX.out, ← HXX.out]; exact over_length (by rw [hzz, hp]; rfl)
  have HX : Hid (X = putAll zs xs) := by show _ = _; rw [← HXX.out]; exact over_yes (by rw [hzz, hp]; rfl)
  clear hp hzz hz8
  go_wp2_with fail
  refine (implNet _ xs w1.heap.size w2 s1 b2.size).mono ?_
  rintro e w3 ⟨vn, rfl, On, b3⟩
  have b13 := b12.trans (b3.mono hs2)
  have s0 := s0.on b3 hs12
  have s1 := s1.on b3 hs12
  have hC3 := hC2.below (b3.mono hs2)
  have sx := (Ox.on b3 (Nat.le_refl _)).sees
  have hs3 : g0 ≤ w3.heap.size := Nat.le_trans hs2 b3.size
  have sn := On.sees
  have hs23 := b3.size
  obtain ⟨gx, rfl, hgx1, hgx2, -⟩ := own_someN Ox (by omega)
  obtain ⟨an, cn, rfl⟩ := On.form
  obtain ⟨ns, hns⟩ : ∃ ns, netOf xs = ns := ⟨_, rfl⟩
  have HNS := (show Hid _ from hns)
  rw [hns] at sn ⊢
  obtain ⟨mn, hmn⟩ : ∃ n, ns.length = n := ⟨_, rfl⟩
  have HMN := (show Hid _ from hmn)
  have hmn8 : mn ≤ 8 := by rw [← hmn, ← hns]; exact netOf_length xs
  rw [hmn] at sn ⊢
  obtain ⟨gv, ov, rfl, hgv, -⟩ : ∃ b off, a0 = some ⟨b, off, none⟩ ∧ b < w1.heap.size ∧ True := by
    obtain ⟨a', cap', e, -, -, h3⟩ := s0
    simp only [Value.slice.injEq] at e
    obtain ⟨rfl, -, -⟩ := e
    obtain ⟨b, off, e, hb, -⟩ := h3 (fun h => by have := HM.out; rw [h] at this; cases this)
    exact ⟨b, off, e, hb, trivial⟩
  have F : Has w3.heap.size g0 w (.slice (some ⟨gv, ov, none⟩) 8 c0) (.slice a n cap) (.slice (some ⟨gx, 0, none⟩) 8 cx) (.slice an mn cn) zs xs X ns (.slice aq lq cq) l w3 :=
    { z := s0.up (by omega), r := s1.up (by omega), x := sx, n := sn, c := codeUp hC3 hs3, hB := Nat.le_refl _, b := b13, hg := hs3 }
  clear hns hmn s0 s1 sx sn hC2 hC3 On Ox b12 b13 b2 b3
  have hmI : (mn : Int) ≤ 8 := by omega
  obtain ⟨B, hB⟩ : ∃ B, w3.heap.size = B := ⟨_, rfl⟩
  have hgxB : gx < B := by omega
  have hgvB : gv < B := by omega
  rw [hB] at F
  clear hB hgx1 hgx2 hgv hs12 hs23 hs1 hs2 hs3
  have hO1 : overOf zs ns = X := by
    have hr := HR.out
    rw [over_yes (by rw [HZ.out, ← HNS.out, net_ok hr]; rfl), ← HNS.out, put_net hr, HX.out]
  have HO := (show Hid _ from hO1)
  have hNN : netOf ns = ns := by rw [← HNS.out]; exact net_net HR.out
  have HNN := (show Hid _ from hNN)
  have hCL : (cellsOf xs).length = mn := by rw [cellsOf_length, HNS.out]; exact HMN.out
  have HCL := (show Hid _ from hCL)
  clear hO1 hNN hCL
  go_wp2_with fail
  refine (implOver _ _ zs ns B w3 F.z F.n F.hB).mono ?_
  rintro e w4 ⟨u4, rfl, O4, b4⟩
  have F := F.on b4
  rw [HO.out] at O4
  go_wp2_with fail
  refine (Ints.sameIntsC _ _ X w4.heap.size w4 (F.x.up F.hB) O4.sees (Nat.le_refl _)).mono ?_
  rintro e w5 ⟨rfl, b5⟩
  have F := F.on b5
  clear O4 b4 b5
  go_wp2_with fail
  refine (implNet _ ns B w5 F.n F.hB).mono ?_
  rintro e w6 ⟨u6, rfl, O6, b6⟩
  have F := F.on b6
  rw [HNN.out] at O6
  go_wp2_with fail
  refine (sameRowsC _ _ ns w6.heap.size w6 O6.sees (F.n.up F.hB) (Nat.le_refl _)).mono ?_
  rintro e w7 ⟨rfl, b7⟩
  have F := F.on b7
  clear O6 b6 b7
  go_wp2_with fail
  refine (implCellsOf _ xs B w7 F.r F.hB).mono ?_
  rintro e w8 ⟨u8, rfl, O8, b8⟩
  have F := F.on b8
  obtain ⟨a8, c8, rfl⟩ := O8.form
  rw [HCL.out]
  clear O8 b8
  go_wp2
  go_loopw [7] (fun iv wr => ∃ i : Nat, i ≤ 8 ∧ iv = .int .i64 i ∧ Has B g0 w (.slice (some ⟨gv, ov, none⟩) 8 c0) (.slice a n cap) (.slice (some ⟨gx, 0, none⟩) 8 cx) (.slice an mn cn) zs xs X ns (.slice aq lq cq) l wr) (fun iv _ => 8 - (intOf iv).toNat)
  case atStart => exact ⟨0, by omega, rfl, F⟩
  case round =>
    obtain ⟨i, hi, rfl, FR⟩ := hrel
    clear F
    by_cases hlt : i < 8
    · have i1 : (i : Int) < 8 := by omega
      have i0 : (0 : Int) ≤ i := by omega
      have hzi : i < zs.length := by rw [HM.out]; exact hlt
      have hXi : i < X.length := by rw [HMX.out]; exact hlt
      have hh : decide ((i : Int) ∈ cellsOf xs) = (lastV xs (i : Int)).isSome := by
        rw [Bool.eq_iff_iff, decide_eq_true_iff]; exact mem_cells HR.out _
      have hlo : lastOf xs (i : Int) = lastV xs (i : Int) := lastOf_ok HR.out _
      have cL := implLast (.slice a n cap) xs (i : Int) wr (FR.r.up FR.hB)
      rw [hlo] at cL
      cases hlast : lastV xs (i : Int) with
      | some y =>
        rw [hlast] at cL hh
        change Calls _ _ _ _ (fun e w' => e = .returned (.tuple #[.int .i64 y, .bool true]) ∧ _) at cL
        have HH : Hid (decide ((i : Int) ∈ cellsOf xs) = true) := hh
        have hXy : X[i]'hXi = y := by
          have := at_some (zs := zs) HM.out HR.out hlt hlast
          rw [← HX.out, List.getElem?_eq_getElem hXi] at this
          exact Option.some.inj this
        have HXY := (show Hid _ from hXy)
        clear hh hlo hlast hXy
        go_wp2_with fail
        refine cL.mono ?_
        rintro e w9 ⟨rfl, b9⟩
        have F9 := FR.on b9
        clear cL
        go_wp2_with fail
        have F10 := F9.drew
        obtain ⟨WD, hWD⟩ : ∃ WD, w9.drew = WD := ⟨_, rfl⟩
        have cX0 : w9.cell? ⟨gx, i, none⟩ = some (.int .i64 y) := by
          have := seesAt F9.x i hXi
          rw [HXY.out] at this; exact this
        obtain ⟨z, cV0⟩ : ∃ z, w9.cell? ⟨gv, ov + i, none⟩ = some (.int .i64 z) := ⟨_, seesAt' F9.z i hzi⟩
        refine wp_region_held_drew (S := fun W => W.cell? ⟨gx, i, none⟩ = some (.int .i64 y) ∧ W.cell? ⟨gv, ov + i, none⟩ = some (.int .i64 z)) (by kernel_rfl) ⟨cX0, cV0⟩ (fun hHeld => ?_)
        have cX : WD.cell? ⟨gx, i, none⟩ = some (.int .i64 y) := by rw [← hWD]; exact cX0
        have cV : WD.cell? ⟨gv, ov + i, none⟩ = some (.int .i64 z) := by rw [← hWD]; exact cV0
        rw [hWD] at F10 hHeld ⊢
        clear hWD cX0 cV0 F9 FR b9
        have FD := F10
        have sl := FD.r
        have hBD := FD.hB
        have hgx : gx < WD.heap.size := by omega
        have hgv : gv < WD.heap.size := by omega
        clear F10
        refine takeH (i := 0) (some 70) (.bool true) rfl rfl (by kernel_rfl) (by kernel_rfl) (by kernel_rfl) (fun _ _ _ h => h) (Or.inl ⟨by rfl, fun w hSw => by (try dsimp only at hSw); go_simp⟩) (by assumption) ?_
        simp only [Act.put, List.setIfInBounds_toArray, List.set_cons_zero, List.set_cons_succ]
        refine takeH (i := 1) (some 71) (.bool true) rfl rfl (by kernel_rfl) (by kernel_rfl) (by kernel_rfl) (fun _ _ _ h => h) (Or.inl ⟨by rfl, fun w hSw => by (try dsimp only at hSw); go_simp⟩) (by assumption) ?_
        simp only [Act.put, List.setIfInBounds_toArray, List.set_cons_zero, List.set_cons_succ]
        refine takeH (i := 2) (some 72) (.slice (some ⟨gx, 0, none⟩) 8 cx) rfl rfl (by kernel_rfl) (by kernel_rfl) (by kernel_rfl) (fun _ _ _ h => h) (Or.inl ⟨by rfl, fun w hSw => by (try dsimp only at hSw); go_simp⟩) (by assumption) ?_
        simp only [Act.put, List.setIfInBounds_toArray, List.set_cons_zero, List.set_cons_succ]
        refine takeH (i := 3) (some 73) (.int .i64 (i : Int)) rfl rfl (by kernel_rfl) (by kernel_rfl) (by kernel_rfl) (fun _ _ _ h => h) (Or.inl ⟨by rfl, fun w hSw => by (try dsimp only at hSw); go_simp⟩) (by assumption) ?_
        simp only [Act.put, List.setIfInBounds_toArray, List.set_cons_zero, List.set_cons_succ]
        refine takeH (i := 4) (some 74) (.pointer (some ⟨gx, i, none⟩)) rfl rfl (by kernel_rfl) (by kernel_rfl) (by kernel_rfl) (fun _ _ _ h => h) (Or.inl ⟨by rfl, fun w hSw => by (try dsimp only at hSw); go_simp⟩) (by assumption) ?_
        simp only [Act.put, List.setIfInBounds_toArray, List.set_cons_zero, List.set_cons_succ]
        refine takeH (i := 5) (some 75) (.int .i64 y) rfl rfl (by kernel_rfl) (by kernel_rfl) (by kernel_rfl) (fun _ _ _ h => h) (Or.inl ⟨by rfl, fun w hSw => by (try dsimp only at hSw); go_simp⟩) (by assumption) ?_
        simp only [Act.put, List.setIfInBounds_toArray, List.set_cons_zero, List.set_cons_succ]
        refine takeH (i := 6) (some 76) (.int .i64 y) rfl rfl (by kernel_rfl) (by kernel_rfl) (by kernel_rfl) (fun _ _ _ h => h) (Or.inl ⟨by rfl, fun w hSw => by (try dsimp only at hSw); go_simp⟩) (by assumption) ?_
        simp only [Act.put, List.setIfInBounds_toArray, List.set_cons_zero, List.set_cons_succ]
        refine takeH (i := 7) (some 77) (.bool false) rfl rfl (by kernel_rfl) (by kernel_rfl) (by kernel_rfl) (fun _ _ _ h => h) (Or.inl ⟨by rfl, fun w hSw => by (try dsimp only at hSw); go_simp⟩) (by assumption) ?_
        simp only [Act.put, List.setIfInBounds_toArray, List.set_cons_zero, List.set_cons_succ]
        refine takeH (i := 8) (some 78) (.bool false) rfl rfl (by kernel_rfl) (by kernel_rfl) (by kernel_rfl) (fun _ _ _ h => h) (Or.inl ⟨by rfl, fun w hSw => by (try dsimp only at hSw); go_simp⟩) (by assumption) ?_
        simp only [Act.put, List.setIfInBounds_toArray, List.set_cons_zero, List.set_cons_succ]
        refine takeH (i := 9) (some 79) (.bool false) rfl rfl (by kernel_rfl) (by kernel_rfl) (by kernel_rfl) (fun _ _ _ h => h) (Or.inl ⟨by rfl, fun w hSw => by (try dsimp only at hSw); go_simp⟩) (by assumption) ?_
        simp only [Act.put, List.setIfInBounds_toArray, List.set_cons_zero, List.set_cons_succ]
        refine takeH (i := 10) (some 80) (.bool true) rfl rfl (by kernel_rfl) (by kernel_rfl) (by kernel_rfl) (fun _ _ _ h => h) (Or.inl ⟨by rfl, fun w hSw => by (try dsimp only at hSw); go_simp⟩) (by assumption) ?_
        simp only [Act.put, List.setIfInBounds_toArray, List.set_cons_zero, List.set_cons_succ]
        refine takeH (i := 11) (some 81) (.bool false) rfl rfl (by kernel_rfl) (by kernel_rfl) (by kernel_rfl) (fun _ _ _ h => h) (Or.inl ⟨by rfl, fun w hSw => by (try dsimp only at hSw); go_simp⟩) (by assumption) ?_
        simp only [Act.put, List.setIfInBounds_toArray, List.set_cons_zero, List.set_cons_succ]
        refine takeH (i := 12) (some 82) (.bool false) rfl rfl (by kernel_rfl) (by kernel_rfl) (by kernel_rfl) (fun _ _ _ h => h) (Or.inl ⟨by rfl, fun w hSw => by (try dsimp only at hSw); go_simp⟩) (by assumption) ?_
        simp only [Act.put, List.setIfInBounds_toArray, List.set_cons_zero, List.set_cons_succ]
        refine takeH (i := 13) (some 83) (undef) rfl rfl (by kernel_rfl) (by kernel_rfl) (by kernel_rfl) (fun _ _ _ h => h) (Or.inr ⟨by rfl, rfl⟩) (by assumption) ?_
        simp only [Act.put, List.setIfInBounds_toArray, List.set_cons_zero, List.set_cons_succ]
        refine takeH (i := 14) (some 84) (undef) rfl rfl (by kernel_rfl) (by kernel_rfl) (by kernel_rfl) (fun _ _ _ h => h) (Or.inr ⟨by rfl, rfl⟩) (by assumption) ?_
        simp only [Act.put, List.setIfInBounds_toArray, List.set_cons_zero, List.set_cons_succ]
        refine takeH (i := 15) (some 85) (undef) rfl rfl (by kernel_rfl) (by kernel_rfl) (by kernel_rfl) (fun _ _ _ h => h) (Or.inr ⟨by rfl, rfl⟩) (by assumption) ?_
        simp only [Act.put, List.setIfInBounds_toArray, List.set_cons_zero, List.set_cons_succ]
        refine takeH (i := 16) (some 86) (undef) rfl rfl (by kernel_rfl) (by kernel_rfl) (by kernel_rfl) (fun _ _ _ h => h) (Or.inr ⟨by rfl, rfl⟩) (by assumption) ?_
        simp only [Act.put, List.setIfInBounds_toArray, List.set_cons_zero, List.set_cons_succ]
        refine takeH (i := 17) (some 87) (undef) rfl rfl (by kernel_rfl) (by kernel_rfl) (by kernel_rfl) (fun _ _ _ h => h) (Or.inr ⟨by rfl, rfl⟩) (by assumption) ?_
        simp only [Act.put, List.setIfInBounds_toArray, List.set_cons_zero, List.set_cons_succ]
        refine takeH (i := 18) (some 88) (undef) rfl rfl (by kernel_rfl) (by kernel_rfl) (by kernel_rfl) (fun _ _ _ h => h) (Or.inr ⟨by rfl, rfl⟩) (by assumption) ?_
        simp only [Act.put, List.setIfInBounds_toArray, List.set_cons_zero, List.set_cons_succ]
        refine takeH (i := 19) (some 89) (undef) rfl rfl (by kernel_rfl) (by kernel_rfl) (by kernel_rfl) (fun _ _ _ h => h) (Or.inr ⟨by rfl, rfl⟩) (by assumption) ?_
        simp only [Act.put, List.setIfInBounds_toArray, List.set_cons_zero, List.set_cons_succ]
        refine takeH (i := 20) (some 90) (undef) rfl rfl (by kernel_rfl) (by kernel_rfl) (by kernel_rfl) (fun _ _ _ h => h) (Or.inr ⟨by rfl, rfl⟩) (by assumption) ?_
        simp only [Act.put, List.setIfInBounds_toArray, List.set_cons_zero, List.set_cons_succ]
        refine takeH (i := 21) (some 91) (undef) rfl rfl (by kernel_rfl) (by kernel_rfl) (by kernel_rfl) (fun _ _ _ h => h) (Or.inr ⟨by rfl, rfl⟩) (by assumption) ?_
        simp only [Act.put, List.setIfInBounds_toArray, List.set_cons_zero, List.set_cons_succ]
        refine takeH (i := 22) (some 92) (.bool false) rfl rfl (by kernel_rfl) (by kernel_rfl) (by kernel_rfl) (fun _ _ _ h => h) (Or.inl ⟨by rfl, fun w hSw => by (try dsimp only at hSw); go_simp⟩) (by assumption) ?_
        simp only [Act.put, List.setIfInBounds_toArray, List.set_cons_zero, List.set_cons_succ]
        refine takeH (i := 23) (some 93) (.bool false) rfl rfl (by kernel_rfl) (by kernel_rfl) (by kernel_rfl) (fun _ _ _ h => h) (Or.inl ⟨by rfl, fun w hSw => by (try dsimp only at hSw); go_simp⟩) (by assumption) ?_
        simp only [Act.put, List.setIfInBounds_toArray, List.set_cons_zero, List.set_cons_succ]
        refine takeH (i := 24) (some 94) (.bool false) rfl rfl (by kernel_rfl) (by kernel_rfl) (by kernel_rfl) (fun _ _ _ h => h) (Or.inl ⟨by rfl, fun w hSw => by (try dsimp only at hSw); go_simp⟩) (by assumption) ?_
        simp only [Act.put, List.setIfInBounds_toArray, List.set_cons_zero, List.set_cons_succ]
        refine takeH (i := 25) (some 95) (.bool true) rfl rfl (by kernel_rfl) (by kernel_rfl) (by kernel_rfl) (fun _ _ _ h => h) (Or.inl ⟨by rfl, fun w hSw => by (try dsimp only at hSw); go_simp⟩) (by assumption) ?_
        simp only [Act.put, List.setIfInBounds_toArray, List.set_cons_zero, List.set_cons_succ]
        refine takeH (i := 26) (some 96) (.slice a n cap) rfl rfl (by kernel_rfl) (by kernel_rfl) (by kernel_rfl) (fun _ _ _ h => h) (Or.inl ⟨by rfl, fun w hSw => by (try dsimp only at hSw); go_simp⟩) (by assumption) ?_
        simp only [Act.put, List.setIfInBounds_toArray, List.set_cons_zero, List.set_cons_succ]
        refine takeH (i := 28) (some 98) (.int .i64 (i : Int)) rfl rfl (by kernel_rfl) (by kernel_rfl) (by kernel_rfl) (fun _ _ _ h => h) (Or.inl ⟨by rfl, fun w hSw => by (try dsimp only at hSw); go_simp⟩) (by assumption) ?_
        simp only [Act.put, List.setIfInBounds_toArray, List.set_cons_zero, List.set_cons_succ]
        refine wpAnyH_ready (rs := [27]) (by kernel_rfl) (by simp) ?_
        refine AllReadyH.cons rfl (fun K hK => ?_) AllReadyH.nil
        go_simp
        refine (implCellsOf (.slice a n cap) xs B WD sl hBD).mono ?_
        rintro e W2 ⟨vc, rfl, Oc, b2⟩
        have F2 := FD.on b2
        have sc := Oc.sees
        obtain ⟨ac, kc, rfl⟩ := Oc.form
        go_simp
        refine hK.out _ _ ⟨(b2.cell (p := ⟨gx, i, none⟩) hgx).trans cX, (b2.cell (p := ⟨gv, ov + i, none⟩) hgv).trans cV⟩ (fun hHeld27 => ?_)
        clear hK K
        refine wpAnyH_ready (rs := [29]) (by kernel_rfl) (by simp) ?_
        refine AllReadyH.cons rfl (fun K hK => ?_) AllReadyH.nil
        go_simp
        refine (hasC _ (cellsOf xs) (i : Int) W2.heap.size W2 sc).mono ?_
        rintro e W3 ⟨rfl, rfl⟩
        rw [HH.out]
        go_simp
        refine hK.out _ _ ⟨(b2.cell (p := ⟨gx, i, none⟩) hgx).trans cX, (b2.cell (p := ⟨gv, ov + i, none⟩) hgv).trans cV⟩ (fun hHeld29 => ?_)
        clear hK K
        refine takeH (i := 30) (some 100) (.bool false) rfl rfl (by kernel_rfl) (by kernel_rfl) (by kernel_rfl) (fun _ _ _ h => h) (Or.inl ⟨by rfl, fun w hSw => by (try dsimp only at hSw); go_simp⟩) (by assumption) ?_
        simp only [Act.put, List.setIfInBounds_toArray, List.set_cons_zero, List.set_cons_succ]
        refine takeH (i := 31) (some 101) (.bool false) rfl rfl (by kernel_rfl) (by kernel_rfl) (by kernel_rfl) (fun _ _ _ h => h) (Or.inl ⟨by rfl, fun w hSw => by (try dsimp only at hSw); go_simp⟩) (by assumption) ?_
        simp only [Act.put, List.setIfInBounds_toArray, List.set_cons_zero, List.set_cons_succ]
        refine wpAnyH_done (by kernel_rfl) ?_ _
        go_wp2
        go_roundw
        case rel => exact ⟨i + 1, by omega, by go_num, F2⟩
        case measure => simp [intOf]; omega

      | none =>
        rw [hlast] at cL hh
        change Calls _ _ _ _ (fun e w' => e = .returned (.tuple #[.int .i64 0, .bool false]) ∧ _) at cL
        have HH : Hid (decide ((i : Int) ∈ cellsOf xs) = false) := hh
        have hXy : X[i]'hXi = zs[i]'hzi := by
          have := at_none (zs := zs) HM.out HR.out hlt hlast
          rw [← HX.out, List.getElem?_eq_getElem hXi, List.getElem?_eq_getElem hzi] at this
          exact Option.some.inj this
        obtain ⟨z, hz⟩ : ∃ z, zs[i]'hzi = z := ⟨_, rfl⟩
        rw [hz] at hXy
        have HXY := (show Hid _ from hXy)
        have HZI := (show Hid _ from hz)
        clear hh hlo hlast hXy hz
        go_wp2_with fail
        refine cL.mono ?_
        rintro e w9 ⟨rfl, b9⟩
        have F9 := FR.on b9
        clear cL
        go_wp2_with fail
        have F10 := F9.drew
        obtain ⟨WD, hWD⟩ : ∃ WD, w9.drew = WD := ⟨_, rfl⟩
        have cX0 : w9.cell? ⟨gx, i, none⟩ = some (.int .i64 z) := by
          have := seesAt F9.x i hXi
          rw [HXY.out] at this; exact this
        have cV0 : w9.cell? ⟨gv, ov + i, none⟩ = some (.int .i64 z) := by
          have := seesAt' F9.z i hzi
          rw [HZI.out] at this; exact this
        refine wp_region_held_drew (S := fun W => W.cell? ⟨gx, i, none⟩ = some (.int .i64 z) ∧ W.cell? ⟨gv, ov + i, none⟩ = some (.int .i64 z)) (by kernel_rfl) ⟨cX0, cV0⟩ (fun hHeld => ?_)
        have cX : WD.cell? ⟨gx, i, none⟩ = some (.int .i64 z) := by rw [← hWD]; exact cX0
        have cV : WD.cell? ⟨gv, ov + i, none⟩ = some (.int .i64 z) := by rw [← hWD]; exact cV0
        rw [hWD] at F10 hHeld ⊢
        clear hWD cX0 cV0 F9 FR b9
        have FD := F10
        have sl := FD.r
        have hBD := FD.hB
        have hgx : gx < WD.heap.size := by omega
        have hgv : gv < WD.heap.size := by omega
        clear F10
        refine takeH (i := 0) (some 70) (.bool false) rfl rfl (by kernel_rfl) (by kernel_rfl) (by kernel_rfl) (fun _ _ _ h => h) (Or.inl ⟨by rfl, fun w hSw => by (try dsimp only at hSw); go_simp⟩) (by assumption) ?_
        simp only [Act.put, List.setIfInBounds_toArray, List.set_cons_zero, List.set_cons_succ]
        refine takeH (i := 1) (some 71) (.bool false) rfl rfl (by kernel_rfl) (by kernel_rfl) (by kernel_rfl) (fun _ _ _ h => h) (Or.inl ⟨by rfl, fun w hSw => by (try dsimp only at hSw); go_simp⟩) (by assumption) ?_
        simp only [Act.put, List.setIfInBounds_toArray, List.set_cons_zero, List.set_cons_succ]
        refine takeH (i := 2) (some 72) (undef) rfl rfl (by kernel_rfl) (by kernel_rfl) (by kernel_rfl) (fun _ _ _ h => h) (Or.inr ⟨by rfl, rfl⟩) (by assumption) ?_
        simp only [Act.put, List.setIfInBounds_toArray, List.set_cons_zero, List.set_cons_succ]
        refine takeH (i := 3) (some 73) (undef) rfl rfl (by kernel_rfl) (by kernel_rfl) (by kernel_rfl) (fun _ _ _ h => h) (Or.inr ⟨by rfl, rfl⟩) (by assumption) ?_
        simp only [Act.put, List.setIfInBounds_toArray, List.set_cons_zero, List.set_cons_succ]
        refine takeH (i := 4) (some 74) (undef) rfl rfl (by kernel_rfl) (by kernel_rfl) (by kernel_rfl) (fun _ _ _ h => h) (Or.inr ⟨by rfl, rfl⟩) (by assumption) ?_
        simp only [Act.put, List.setIfInBounds_toArray, List.set_cons_zero, List.set_cons_succ]
        refine takeH (i := 5) (some 75) (undef) rfl rfl (by kernel_rfl) (by kernel_rfl) (by kernel_rfl) (fun _ _ _ h => h) (Or.inr ⟨by rfl, rfl⟩) (by assumption) ?_
        simp only [Act.put, List.setIfInBounds_toArray, List.set_cons_zero, List.set_cons_succ]
        refine takeH (i := 6) (some 76) (undef) rfl rfl (by kernel_rfl) (by kernel_rfl) (by kernel_rfl) (fun _ _ _ h => h) (Or.inr ⟨by rfl, rfl⟩) (by assumption) ?_
        simp only [Act.put, List.setIfInBounds_toArray, List.set_cons_zero, List.set_cons_succ]
        refine takeH (i := 7) (some 77) (undef) rfl rfl (by kernel_rfl) (by kernel_rfl) (by kernel_rfl) (fun _ _ _ h => h) (Or.inr ⟨by rfl, rfl⟩) (by assumption) ?_
        simp only [Act.put, List.setIfInBounds_toArray, List.set_cons_zero, List.set_cons_succ]
        refine takeH (i := 8) (some 78) (.bool false) rfl rfl (by kernel_rfl) (by kernel_rfl) (by kernel_rfl) (fun _ _ _ h => h) (Or.inl ⟨by rfl, fun w hSw => by (try dsimp only at hSw); go_simp⟩) (by assumption) ?_
        simp only [Act.put, List.setIfInBounds_toArray, List.set_cons_zero, List.set_cons_succ]
        refine takeH (i := 9) (some 79) (.bool false) rfl rfl (by kernel_rfl) (by kernel_rfl) (by kernel_rfl) (fun _ _ _ h => h) (Or.inl ⟨by rfl, fun w hSw => by (try dsimp only at hSw); go_simp⟩) (by assumption) ?_
        simp only [Act.put, List.setIfInBounds_toArray, List.set_cons_zero, List.set_cons_succ]
        refine takeH (i := 10) (some 80) (.bool false) rfl rfl (by kernel_rfl) (by kernel_rfl) (by kernel_rfl) (fun _ _ _ h => h) (Or.inl ⟨by rfl, fun w hSw => by (try dsimp only at hSw); go_simp⟩) (by assumption) ?_
        simp only [Act.put, List.setIfInBounds_toArray, List.set_cons_zero, List.set_cons_succ]
        refine takeH (i := 11) (some 81) (.bool true) rfl rfl (by kernel_rfl) (by kernel_rfl) (by kernel_rfl) (fun _ _ _ h => h) (Or.inl ⟨by rfl, fun w hSw => by (try dsimp only at hSw); go_simp⟩) (by assumption) ?_
        simp only [Act.put, List.setIfInBounds_toArray, List.set_cons_zero, List.set_cons_succ]
        refine takeH (i := 12) (some 82) (.bool true) rfl rfl (by kernel_rfl) (by kernel_rfl) (by kernel_rfl) (fun _ _ _ h => h) (Or.inl ⟨by rfl, fun w hSw => by (try dsimp only at hSw); go_simp⟩) (by assumption) ?_
        simp only [Act.put, List.setIfInBounds_toArray, List.set_cons_zero, List.set_cons_succ]
        refine takeH (i := 13) (some 83) (.slice (some ⟨gx, 0, none⟩) 8 cx) rfl rfl (by kernel_rfl) (by kernel_rfl) (by kernel_rfl) (fun _ _ _ h => h) (Or.inl ⟨by rfl, fun w hSw => by (try dsimp only at hSw); go_simp⟩) (by assumption) ?_
        simp only [Act.put, List.setIfInBounds_toArray, List.set_cons_zero, List.set_cons_succ]
        refine takeH (i := 14) (some 84) (.int .i64 (i : Int)) rfl rfl (by kernel_rfl) (by kernel_rfl) (by kernel_rfl) (fun _ _ _ h => h) (Or.inl ⟨by rfl, fun w hSw => by (try dsimp only at hSw); go_simp⟩) (by assumption) ?_
        simp only [Act.put, List.setIfInBounds_toArray, List.set_cons_zero, List.set_cons_succ]
        refine takeH (i := 15) (some 85) (.pointer (some ⟨gx, i, none⟩)) rfl rfl (by kernel_rfl) (by kernel_rfl) (by kernel_rfl) (fun _ _ _ h => h) (Or.inl ⟨by rfl, fun w hSw => by (try dsimp only at hSw); go_simp⟩) (by assumption) ?_
        simp only [Act.put, List.setIfInBounds_toArray, List.set_cons_zero, List.set_cons_succ]
        refine takeH (i := 16) (some 86) (.int .i64 z) rfl rfl (by kernel_rfl) (by kernel_rfl) (by kernel_rfl) (fun _ _ _ h => h) (Or.inl ⟨by rfl, fun w hSw => by (try dsimp only at hSw); go_simp⟩) (by assumption) ?_
        simp only [Act.put, List.setIfInBounds_toArray, List.set_cons_zero, List.set_cons_succ]
        refine takeH (i := 17) (some 87) (.slice (some ⟨gv, ov, none⟩) 8 c0) rfl rfl (by kernel_rfl) (by kernel_rfl) (by kernel_rfl) (fun _ _ _ h => h) (Or.inl ⟨by rfl, fun w hSw => by (try dsimp only at hSw); go_simp⟩) (by assumption) ?_
        simp only [Act.put, List.setIfInBounds_toArray, List.set_cons_zero, List.set_cons_succ]
        refine takeH (i := 18) (some 88) (.int .i64 (i : Int)) rfl rfl (by kernel_rfl) (by kernel_rfl) (by kernel_rfl) (fun _ _ _ h => h) (Or.inl ⟨by rfl, fun w hSw => by (try dsimp only at hSw); go_simp⟩) (by assumption) ?_
        simp only [Act.put, List.setIfInBounds_toArray, List.set_cons_zero, List.set_cons_succ]
        refine takeH (i := 19) (some 89) (.pointer (some ⟨gv, ov + i, none⟩)) rfl rfl (by kernel_rfl) (by kernel_rfl) (by kernel_rfl) (fun _ _ _ h => h) (Or.inl ⟨by rfl, fun w hSw => by (try dsimp only at hSw); go_simp⟩) (by assumption) ?_
        simp only [Act.put, List.setIfInBounds_toArray, List.set_cons_zero, List.set_cons_succ]
        refine takeH (i := 20) (some 90) (.int .i64 z) rfl rfl (by kernel_rfl) (by kernel_rfl) (by kernel_rfl) (fun _ _ _ h => h) (Or.inl ⟨by rfl, fun w hSw => by (try dsimp only at hSw); go_simp⟩) (by assumption) ?_
        simp only [Act.put, List.setIfInBounds_toArray, List.set_cons_zero, List.set_cons_succ]
        refine takeH (i := 21) (some 91) (.bool false) rfl rfl (by kernel_rfl) (by kernel_rfl) (by kernel_rfl) (fun _ _ _ h => h) (Or.inl ⟨by rfl, fun w hSw => by (try dsimp only at hSw); go_simp⟩) (by assumption) ?_
        simp only [Act.put, List.setIfInBounds_toArray, List.set_cons_zero, List.set_cons_succ]
        refine takeH (i := 22) (some 92) (.bool false) rfl rfl (by kernel_rfl) (by kernel_rfl) (by kernel_rfl) (fun _ _ _ h => h) (Or.inl ⟨by rfl, fun w hSw => by (try dsimp only at hSw); go_simp⟩) (by assumption) ?_
        simp only [Act.put, List.setIfInBounds_toArray, List.set_cons_zero, List.set_cons_succ]
        refine takeH (i := 23) (some 93) (.bool false) rfl rfl (by kernel_rfl) (by kernel_rfl) (by kernel_rfl) (fun _ _ _ h => h) (Or.inl ⟨by rfl, fun w hSw => by (try dsimp only at hSw); go_simp⟩) (by assumption) ?_
        simp only [Act.put, List.setIfInBounds_toArray, List.set_cons_zero, List.set_cons_succ]
        refine takeH (i := 24) (some 94) (.bool false) rfl rfl (by kernel_rfl) (by kernel_rfl) (by kernel_rfl) (fun _ _ _ h => h) (Or.inl ⟨by rfl, fun w hSw => by (try dsimp only at hSw); go_simp⟩) (by assumption) ?_
        simp only [Act.put, List.setIfInBounds_toArray, List.set_cons_zero, List.set_cons_succ]
        refine takeH (i := 25) (some 95) (.bool false) rfl rfl (by kernel_rfl) (by kernel_rfl) (by kernel_rfl) (fun _ _ _ h => h) (Or.inl ⟨by rfl, fun w hSw => by (try dsimp only at hSw); go_simp⟩) (by assumption) ?_
        simp only [Act.put, List.setIfInBounds_toArray, List.set_cons_zero, List.set_cons_succ]
        refine takeH (i := 26) (some 96) (.slice a n cap) rfl rfl (by kernel_rfl) (by kernel_rfl) (by kernel_rfl) (fun _ _ _ h => h) (Or.inl ⟨by rfl, fun w hSw => by (try dsimp only at hSw); go_simp⟩) (by assumption) ?_
        simp only [Act.put, List.setIfInBounds_toArray, List.set_cons_zero, List.set_cons_succ]
        refine takeH (i := 28) (some 98) (.int .i64 (i : Int)) rfl rfl (by kernel_rfl) (by kernel_rfl) (by kernel_rfl) (fun _ _ _ h => h) (Or.inl ⟨by rfl, fun w hSw => by (try dsimp only at hSw); go_simp⟩) (by assumption) ?_
        simp only [Act.put, List.setIfInBounds_toArray, List.set_cons_zero, List.set_cons_succ]
        refine wpAnyH_ready (rs := [27]) (by kernel_rfl) (by simp) ?_
        refine AllReadyH.cons rfl (fun K hK => ?_) AllReadyH.nil
        go_simp
        refine (implCellsOf (.slice a n cap) xs B WD sl hBD).mono ?_
        rintro e W2 ⟨vc, rfl, Oc, b2⟩
        have F2 := FD.on b2
        have sc := Oc.sees
        obtain ⟨ac, kc, rfl⟩ := Oc.form
        go_simp
        refine hK.out _ _ ⟨(b2.cell (p := ⟨gx, i, none⟩) hgx).trans cX, (b2.cell (p := ⟨gv, ov + i, none⟩) hgv).trans cV⟩ (fun hHeld27 => ?_)
        clear hK K
        refine wpAnyH_ready (rs := [29]) (by kernel_rfl) (by simp) ?_
        refine AllReadyH.cons rfl (fun K hK => ?_) AllReadyH.nil
        go_simp
        refine (hasC _ (cellsOf xs) (i : Int) W2.heap.size W2 sc).mono ?_
        rintro e W3 ⟨rfl, rfl⟩
        rw [HH.out]
        go_simp
        refine hK.out _ _ ⟨(b2.cell (p := ⟨gx, i, none⟩) hgx).trans cX, (b2.cell (p := ⟨gv, ov + i, none⟩) hgv).trans cV⟩ (fun hHeld29 => ?_)
        clear hK K
        refine takeH (i := 30) (some 100) (.bool false) rfl rfl (by kernel_rfl) (by kernel_rfl) (by kernel_rfl) (fun _ _ _ h => h) (Or.inl ⟨by rfl, fun w hSw => by (try dsimp only at hSw); go_simp⟩) (by assumption) ?_
        simp only [Act.put, List.setIfInBounds_toArray, List.set_cons_zero, List.set_cons_succ]
        refine takeH (i := 31) (some 101) (.bool false) rfl rfl (by kernel_rfl) (by kernel_rfl) (by kernel_rfl) (fun _ _ _ h => h) (Or.inl ⟨by rfl, fun w hSw => by (try dsimp only at hSw); go_simp⟩) (by assumption) ?_
        simp only [Act.put, List.setIfInBounds_toArray, List.set_cons_zero, List.set_cons_succ]
        refine wpAnyH_done (by kernel_rfl) ?_ _
        go_wp2
        go_roundw
        case rel => exact ⟨i + 1, by omega, by go_num, F2⟩
        case measure => simp [intOf]; omega

    · obtain rfl : i = 8 := by omega
      have i1 : ¬ ((8 : Nat) : Int) < 8 := by omega
      have hroom := FR.r.room
      have hnn : n ≤ maxLen := by rw [← HN.out]; exact hroom
      have hnI : (n : Int) ≤ 400 := by omega
      have key : ∀ k : Nat, k ≤ n → cutOf xs (k : Int) = xs.take k ∧ (xs.take k).length = k ∧ overOf zs (xs.take k) = putAll zs (xs.take k) ∧ overOf (putAll zs (xs.take k)) (xs.drop k) = X := fun k hk => by
        have hr := HR.out
        refine ⟨by unfold cutOf; rw [if_pos hr]; rfl, by rw [List.length_take, HN.out]; omega, over_yes (by rw [HZ.out, take_ok hr]; rfl), ?_⟩
        rw [over_yes (by rw [put_vals HZ.out (take_ok hr k), drop_ok hr k]; rfl), put_cut, HX.out]
      have HKEY := (show Hid _ from key)
      clear hlt key hi hroom
      by_cases hn0 : n = 0
      · have d0 : ¬ (0 : Int) < n := by omega
        clear hn0
        obtain ⟨k, hk0⟩ : ∃ k : Nat, (k : Int) = 0 := ⟨0, rfl⟩
        have hk : k ≤ n := by omega
        have hkI : (k : Int) ≤ n := by omega
        have hkz : (0 : Int) ≤ k := by omega
        obtain ⟨k1, k2, k3, k4⟩ := HKEY.out k hk
        have HK := (show Hid _ from k1)
        have HT := (show Hid _ from k2)
        have HO1 := (show Hid _ from k3)
        have HO2 := (show Hid _ from k4)
        have HZ0 := (show Hid _ from hk0)
        clear k1 k2 k3 k4 hk0
        go_wp2_with fail
        rw [← HZ0.out]
        go_wp2_with fail
        have F10 := FR.drew
        obtain ⟨WD, hWD⟩ : ∃ WD, wr.drew = WD := ⟨_, rfl⟩
        refine wp_region_held_drew (S := fun _ => True) (by kernel_rfl) trivial (fun hHeld => ?_)
        rw [hWD] at F10 ⊢
        clear hWD FR
        have FD := F10
        clear F10
        refine takeH (i := 0) (some 111) (.slice (some ⟨gv, ov, none⟩) 8 c0) rfl rfl (by kernel_rfl) (by kernel_rfl) (by kernel_rfl) (fun _ _ _ h => h) (Or.inl ⟨by rfl, fun w hSw => by (try dsimp only at hSw); go_simp⟩) (by assumption) ?_
        simp only [Act.put, List.setIfInBounds_toArray, List.set_cons_zero, List.set_cons_succ]
        refine takeH (i := 1) (some 112) (.slice a n cap) rfl rfl (by kernel_rfl) (by kernel_rfl) (by kernel_rfl) (fun _ _ _ h => h) (Or.inl ⟨by rfl, fun w hSw => by (try dsimp only at hSw); go_simp⟩) (by assumption) ?_
        simp only [Act.put, List.setIfInBounds_toArray, List.set_cons_zero, List.set_cons_succ]
        refine takeH (i := 2) (some 113) (.int .i64 (k : Int)) rfl rfl (by kernel_rfl) (by kernel_rfl) (by kernel_rfl) (fun _ _ _ h => h) (Or.inl ⟨by rfl, fun w hSw => by (try dsimp only at hSw); go_simp⟩) (by assumption) ?_
        simp only [Act.put, List.setIfInBounds_toArray, List.set_cons_zero, List.set_cons_succ]
        refine takeH (i := 5) (some 116) (.slice a n cap) rfl rfl (by kernel_rfl) (by kernel_rfl) (by kernel_rfl) (fun _ _ _ h => h) (Or.inl ⟨by rfl, fun w hSw => by (try dsimp only at hSw); go_simp⟩) (by assumption) ?_
        simp only [Act.put, List.setIfInBounds_toArray, List.set_cons_zero, List.set_cons_succ]
        refine takeH (i := 6) (some 117) (.int .i64 (k : Int)) rfl rfl (by kernel_rfl) (by kernel_rfl) (by kernel_rfl) (fun _ _ _ h => h) (Or.inl ⟨by rfl, fun w hSw => by (try dsimp only at hSw); go_simp⟩) (by assumption) ?_
        simp only [Act.put, List.setIfInBounds_toArray, List.set_cons_zero, List.set_cons_succ]
        refine takeH (i := 7) (some 118) (.slice (if cap = k then a else a.map (·.add (k * 2))) (n - k) (cap - k)) rfl rfl (by kernel_rfl) (by kernel_rfl) (by kernel_rfl) (fun _ _ _ h => h) (Or.inl ⟨by rfl, fun w hSw => by (try dsimp only at hSw); go_simp⟩) (by assumption) ?_
        simp only [Act.put, List.setIfInBounds_toArray, List.set_cons_zero, List.set_cons_succ]
        refine takeH (i := 9) (some 120) (.slice (some ⟨gx, 0, none⟩) 8 cx) rfl rfl (by kernel_rfl) (by kernel_rfl) (by kernel_rfl) (fun _ _ _ h => h) (Or.inl ⟨by rfl, fun w hSw => by (try dsimp only at hSw); go_simp⟩) (by assumption) ?_
        simp only [Act.put, List.setIfInBounds_toArray, List.set_cons_zero, List.set_cons_succ]
        refine wpAnyH_ready (rs := [3]) (by kernel_rfl) (by simp) ?_
        refine AllReadyH.cons rfl (fun K hK => ?_) AllReadyH.nil
        go_simp
        refine (implCut (.slice a n cap) xs (k : Int) B WD FD.r FD.hB).mono ?_
        rintro e W2 ⟨u2, rfl, O2, b2⟩
        have F2 := FD.on b2
        rw [HK.out] at O2
        go_simp
        refine hK.out _ _ trivial (fun hHeld3 => ?_)
        clear hK K
        refine wpAnyH_ready (rs := [4]) (by kernel_rfl) (by simp) ?_
        refine AllReadyH.cons rfl (fun K hK => ?_) AllReadyH.nil
        go_simp
        refine (implOver _ _ zs (xs.take k) W2.heap.size W2 (F2.z.up F2.hB) O2.sees (Nat.le_refl _)).mono ?_
        rintro e W3 ⟨u3, rfl, O3, b3⟩
        have F3 := F2.on b3
        rw [HO1.out] at O3
        go_simp
        refine hK.out _ _ trivial (fun hHeld4 => ?_)
        clear hK K
        refine wpAnyH_ready (rs := [8]) (by kernel_rfl) (by simp) ?_
        refine AllReadyH.cons rfl (fun K hK => ?_) AllReadyH.nil
        go_simp
        refine (implOver _ _ (putAll zs (xs.take k)) (xs.drop k) W3.heap.size W3 O3.sees ((sees_drop F3.r HN.out hk).up F3.hB) (Nat.le_refl _)).mono ?_
        rintro e W4 ⟨u4, rfl, O4, b4⟩
        have F4 := F3.on b4
        rw [HO2.out] at O4
        go_simp
        refine hK.out _ _ trivial (fun hHeld8 => ?_)
        clear hK K
        refine wpAnyH_ready (rs := [10]) (by kernel_rfl) (by simp) ?_
        refine AllReadyH.cons rfl (fun K hK => ?_) AllReadyH.nil
        go_simp
        refine (Ints.sameIntsC _ _ X W4.heap.size W4 O4.sees (F4.x.up F4.hB) (Nat.le_refl _)).mono ?_
        rintro e W5 ⟨rfl, b5⟩
        have F5 := F4.on b5
        go_simp
        refine hK.out _ _ trivial (fun hHeld10 => ?_)
        clear hK K
        refine takeH (i := 11) (some 122) (.bool true) rfl rfl (by kernel_rfl) (by kernel_rfl) (by kernel_rfl) (fun _ _ _ h => h) (Or.inl ⟨by rfl, fun w hSw => by (try dsimp only at hSw); go_simp⟩) (by assumption) ?_
        simp only [Act.put, List.setIfInBounds_toArray, List.set_cons_zero, List.set_cons_succ]
        refine takeH (i := 12) (some 123) (.slice a n cap) rfl rfl (by kernel_rfl) (by kernel_rfl) (by kernel_rfl) (fun _ _ _ h => h) (Or.inl ⟨by rfl, fun w hSw => by (try dsimp only at hSw); go_simp⟩) (by assumption) ?_
        simp only [Act.put, List.setIfInBounds_toArray, List.set_cons_zero, List.set_cons_succ]
        refine takeH (i := 13) (some 124) (.int .i64 (k : Int)) rfl rfl (by kernel_rfl) (by kernel_rfl) (by kernel_rfl) (fun _ _ _ h => h) (Or.inl ⟨by rfl, fun w hSw => by (try dsimp only at hSw); go_simp⟩) (by assumption) ?_
        simp only [Act.put, List.setIfInBounds_toArray, List.set_cons_zero, List.set_cons_succ]
        refine takeH (i := 16) (some 127) (.int .i64 (k : Int)) rfl rfl (by kernel_rfl) (by kernel_rfl) (by kernel_rfl) (fun _ _ _ h => h) (Or.inl ⟨by rfl, fun w hSw => by (try dsimp only at hSw); go_simp⟩) (by assumption) ?_
        simp only [Act.put, List.setIfInBounds_toArray, List.set_cons_zero, List.set_cons_succ]
        refine wpAnyH_ready (rs := [14]) (by kernel_rfl) (by simp) ?_
        refine AllReadyH.cons rfl (fun K hK => ?_) AllReadyH.nil
        go_simp
        refine (implCut (.slice a n cap) xs (k : Int) B W5 F5.r F5.hB).mono ?_
        rintro e W6 ⟨u6, rfl, O6, b6⟩
        have F6 := F5.on b6
        rw [HK.out] at O6
        obtain ⟨a6, c6, rfl⟩ := O6.form
        rw [HT.out]
        go_simp
        refine hK.out _ _ trivial (fun hHeld14 => ?_)
        clear hK K
        refine takeH (i := 15) (some 126) (.int .i64 (k : Int)) rfl rfl (by kernel_rfl) (by kernel_rfl) (by kernel_rfl) (fun _ _ _ h => h) (Or.inl ⟨by rfl, fun w hSw => by (try dsimp only at hSw); go_simp⟩) (by assumption) ?_
        simp only [Act.put, List.setIfInBounds_toArray, List.set_cons_zero, List.set_cons_succ]
        refine takeH (i := 17) (some 128) (.bool true) rfl rfl (by kernel_rfl) (by kernel_rfl) (by kernel_rfl) (fun _ _ _ h => h) (Or.inl ⟨by rfl, fun w hSw => by (try dsimp only at hSw); go_simp⟩) (by assumption) ?_
        simp only [Act.put, List.setIfInBounds_toArray, List.set_cons_zero, List.set_cons_succ]
        refine takeH (i := 18) (some 129) (.bool true) rfl rfl (by kernel_rfl) (by kernel_rfl) (by kernel_rfl) (fun _ _ _ h => h) (Or.inl ⟨by rfl, fun w hSw => by (try dsimp only at hSw); go_simp⟩) (by assumption) ?_
        simp only [Act.put, List.setIfInBounds_toArray, List.set_cons_zero, List.set_cons_succ]
        refine takeH (i := 19) (some 2) (.bool true) rfl rfl (by kernel_rfl) (by kernel_rfl) (by kernel_rfl) (fun _ _ _ h => h) (Or.inl ⟨by rfl, fun w hSw => by (try dsimp only at hSw); go_simp⟩) (by assumption) ?_
        simp only [Act.put, List.setIfInBounds_toArray, List.set_cons_zero, List.set_cons_succ]
        refine wpAnyH_done (by kernel_rfl) ?_ _
        go_wp2
        all_goals (go_ret; exact ⟨rfl, F6.b⟩)

      · have d0 : (0 : Int) < n := by omega
        go_wp2_with fail
        refine (atC B _ l wr FR.c (by rw [HQ.out]; exact hl)).mono ?_
        rintro e w11 ⟨q, rfl, q0, q1, rfl⟩
        obtain ⟨k, hk0⟩ : ∃ k : Nat, q % ((n : Int) + 1) = (k : Int) := Int.eq_ofNat_of_zero_le (Int.emod_nonneg _ (by omega))
        have hk : k ≤ n := by
          have := Int.emod_lt_of_pos q (show (0 : Int) < (n : Int) + 1 by omega)
          omega
        have hkI : (k : Int) ≤ n := by omega
        have hkz : (0 : Int) ≤ k := by omega
        obtain ⟨k1, k2, k3, k4⟩ := HKEY.out k hk
        have HK := (show Hid _ from k1)
        have HT := (show Hid _ from k2)
        have HO1 := (show Hid _ from k3)
        have HO2 := (show Hid _ from k4)
        clear k1 k2 k3 k4
        go_wp2_with fail
        rw [hk0]
        clear hk0 q0 q1
        go_wp2_with fail
        have F10 := FR.drew
        obtain ⟨WD, hWD⟩ : ∃ WD, wr.drew = WD := ⟨_, rfl⟩
        refine wp_region_held_drew (S := fun _ => True) (by kernel_rfl) trivial (fun hHeld => ?_)
        rw [hWD] at F10 ⊢
        clear hWD FR
        have FD := F10
        clear F10
        refine takeH (i := 0) (some 111) (.slice (some ⟨gv, ov, none⟩) 8 c0) rfl rfl (by kernel_rfl) (by kernel_rfl) (by kernel_rfl) (fun _ _ _ h => h) (Or.inl ⟨by rfl, fun w hSw => by (try dsimp only at hSw); go_simp⟩) (by assumption) ?_
        simp only [Act.put, List.setIfInBounds_toArray, List.set_cons_zero, List.set_cons_succ]
        refine takeH (i := 1) (some 112) (.slice a n cap) rfl rfl (by kernel_rfl) (by kernel_rfl) (by kernel_rfl) (fun _ _ _ h => h) (Or.inl ⟨by rfl, fun w hSw => by (try dsimp only at hSw); go_simp⟩) (by assumption) ?_
        simp only [Act.put, List.setIfInBounds_toArray, List.set_cons_zero, List.set_cons_succ]
        refine takeH (i := 2) (some 113) (.int .i64 (k : Int)) rfl rfl (by kernel_rfl) (by kernel_rfl) (by kernel_rfl) (fun _ _ _ h => h) (Or.inl ⟨by rfl, fun w hSw => by (try dsimp only at hSw); go_simp⟩) (by assumption) ?_
        simp only [Act.put, List.setIfInBounds_toArray, List.set_cons_zero, List.set_cons_succ]
        refine takeH (i := 5) (some 116) (.slice a n cap) rfl rfl (by kernel_rfl) (by kernel_rfl) (by kernel_rfl) (fun _ _ _ h => h) (Or.inl ⟨by rfl, fun w hSw => by (try dsimp only at hSw); go_simp⟩) (by assumption) ?_
        simp only [Act.put, List.setIfInBounds_toArray, List.set_cons_zero, List.set_cons_succ]
        refine takeH (i := 6) (some 117) (.int .i64 (k : Int)) rfl rfl (by kernel_rfl) (by kernel_rfl) (by kernel_rfl) (fun _ _ _ h => h) (Or.inl ⟨by rfl, fun w hSw => by (try dsimp only at hSw); go_simp⟩) (by assumption) ?_
        simp only [Act.put, List.setIfInBounds_toArray, List.set_cons_zero, List.set_cons_succ]
        refine takeH (i := 7) (some 118) (.slice (if cap = k then a else a.map (·.add (k * 2))) (n - k) (cap - k)) rfl rfl (by kernel_rfl) (by kernel_rfl) (by kernel_rfl) (fun _ _ _ h => h) (Or.inl ⟨by rfl, fun w hSw => by (try dsimp only at hSw); go_simp⟩) (by assumption) ?_
        simp only [Act.put, List.setIfInBounds_toArray, List.set_cons_zero, List.set_cons_succ]
        refine takeH (i := 9) (some 120) (.slice (some ⟨gx, 0, none⟩) 8 cx) rfl rfl (by kernel_rfl) (by kernel_rfl) (by kernel_rfl) (fun _ _ _ h => h) (Or.inl ⟨by rfl, fun w hSw => by (try dsimp only at hSw); go_simp⟩) (by assumption) ?_
        simp only [Act.put, List.setIfInBounds_toArray, List.set_cons_zero, List.set_cons_succ]
        refine wpAnyH_ready (rs := [3]) (by kernel_rfl) (by simp) ?_
        refine AllReadyH.cons rfl (fun K hK => ?_) AllReadyH.nil
        go_simp
        refine (implCut (.slice a n cap) xs (k : Int) B WD FD.r FD.hB).mono ?_
        rintro e W2 ⟨u2, rfl, O2, b2⟩
        have F2 := FD.on b2
        rw [HK.out] at O2
        go_simp
        refine hK.out _ _ trivial (fun hHeld3 => ?_)
        clear hK K
        refine wpAnyH_ready (rs := [4]) (by kernel_rfl) (by simp) ?_
        refine AllReadyH.cons rfl (fun K hK => ?_) AllReadyH.nil
        go_simp
        refine (implOver _ _ zs (xs.take k) W2.heap.size W2 (F2.z.up F2.hB) O2.sees (Nat.le_refl _)).mono ?_
        rintro e W3 ⟨u3, rfl, O3, b3⟩
        have F3 := F2.on b3
        rw [HO1.out] at O3
        go_simp
        refine hK.out _ _ trivial (fun hHeld4 => ?_)
        clear hK K
        refine wpAnyH_ready (rs := [8]) (by kernel_rfl) (by simp) ?_
        refine AllReadyH.cons rfl (fun K hK => ?_) AllReadyH.nil
        go_simp
        refine (implOver _ _ (putAll zs (xs.take k)) (xs.drop k) W3.heap.size W3 O3.sees ((sees_drop F3.r HN.out hk).up F3.hB) (Nat.le_refl _)).mono ?_
        rintro e W4 ⟨u4, rfl, O4, b4⟩
        have F4 := F3.on b4
        rw [HO2.out] at O4
        go_simp
        refine hK.out _ _ trivial (fun hHeld8 => ?_)
        clear hK K
        refine wpAnyH_ready (rs := [10]) (by kernel_rfl) (by simp) ?_
        refine AllReadyH.cons rfl (fun K hK => ?_) AllReadyH.nil
        go_simp
        refine (Ints.sameIntsC _ _ X W4.heap.size W4 O4.sees (F4.x.up F4.hB) (Nat.le_refl _)).mono ?_
        rintro e W5 ⟨rfl, b5⟩
        have F5 := F4.on b5
        go_simp
        refine hK.out _ _ trivial (fun hHeld10 => ?_)
        clear hK K
        refine takeH (i := 11) (some 122) (.bool true) rfl rfl (by kernel_rfl) (by kernel_rfl) (by kernel_rfl) (fun _ _ _ h => h) (Or.inl ⟨by rfl, fun w hSw => by (try dsimp only at hSw); go_simp⟩) (by assumption) ?_
        simp only [Act.put, List.setIfInBounds_toArray, List.set_cons_zero, List.set_cons_succ]
        refine takeH (i := 12) (some 123) (.slice a n cap) rfl rfl (by kernel_rfl) (by kernel_rfl) (by kernel_rfl) (fun _ _ _ h => h) (Or.inl ⟨by rfl, fun w hSw => by (try dsimp only at hSw); go_simp⟩) (by assumption) ?_
        simp only [Act.put, List.setIfInBounds_toArray, List.set_cons_zero, List.set_cons_succ]
        refine takeH (i := 13) (some 124) (.int .i64 (k : Int)) rfl rfl (by kernel_rfl) (by kernel_rfl) (by kernel_rfl) (fun _ _ _ h => h) (Or.inl ⟨by rfl, fun w hSw => by (try dsimp only at hSw); go_simp⟩) (by assumption) ?_
        simp only [Act.put, List.setIfInBounds_toArray, List.set_cons_zero, List.set_cons_succ]
        refine takeH (i := 16) (some 127) (.int .i64 (k : Int)) rfl rfl (by kernel_rfl) (by kernel_rfl) (by kernel_rfl) (fun _ _ _ h => h) (Or.inl ⟨by rfl, fun w hSw => by (try dsimp only at hSw); go_simp⟩) (by assumption) ?_
        simp only [Act.put, List.setIfInBounds_toArray, List.set_cons_zero, List.set_cons_succ]
        refine wpAnyH_ready (rs := [14]) (by kernel_rfl) (by simp) ?_
        refine AllReadyH.cons rfl (fun K hK => ?_) AllReadyH.nil
        go_simp
        refine (implCut (.slice a n cap) xs (k : Int) B W5 F5.r F5.hB).mono ?_
        rintro e W6 ⟨u6, rfl, O6, b6⟩
        have F6 := F5.on b6
        rw [HK.out] at O6
        obtain ⟨a6, c6, rfl⟩ := O6.form
        rw [HT.out]
        go_simp
        refine hK.out _ _ trivial (fun hHeld14 => ?_)
        clear hK K
        refine takeH (i := 15) (some 126) (.int .i64 (k : Int)) rfl rfl (by kernel_rfl) (by kernel_rfl) (by kernel_rfl) (fun _ _ _ h => h) (Or.inl ⟨by rfl, fun w hSw => by (try dsimp only at hSw); go_simp⟩) (by assumption) ?_
        simp only [Act.put, List.setIfInBounds_toArray, List.set_cons_zero, List.set_cons_succ]
        refine takeH (i := 17) (some 128) (.bool true) rfl rfl (by kernel_rfl) (by kernel_rfl) (by kernel_rfl) (fun _ _ _ h => h) (Or.inl ⟨by rfl, fun w hSw => by (try dsimp only at hSw); go_simp⟩) (by assumption) ?_
        simp only [Act.put, List.setIfInBounds_toArray, List.set_cons_zero, List.set_cons_succ]
        refine takeH (i := 18) (some 129) (.bool true) rfl rfl (by kernel_rfl) (by kernel_rfl) (by kernel_rfl) (fun _ _ _ h => h) (Or.inl ⟨by rfl, fun w hSw => by (try dsimp only at hSw); go_simp⟩) (by assumption) ?_
        simp only [Act.put, List.setIfInBounds_toArray, List.set_cons_zero, List.set_cons_succ]
        refine takeH (i := 19) (some 2) (.bool true) rfl rfl (by kernel_rfl) (by kernel_rfl) (by kernel_rfl) (fun _ _ _ h => h) (Or.inl ⟨by rfl, fun w hSw => by (try dsimp only at hSw); go_simp⟩) (by assumption) ?_
        simp only [Act.put, List.setIfInBounds_toArray, List.set_cons_zero, List.set_cons_succ]
        refine wpAnyH_done (by kernel_rfl) ?_ _
        go_wp2
        all_goals (go_ret; exact ⟨rfl, F6.b⟩)

theorem walkLogs (a : Option Addr) (len cap : Nat) (zs : List Int) (w : World) (h : Args.IsRow .u8 w a len cap zs) :
    Calls Try.prog 3 #[.slice a len cap] w fun e w' => e = .returned (.bool true) ∧ Below w.heap.size w w' := by
  by_cases hb : 1048576 < len
  · exact logsBig a len cap w hb
  · obtain ⟨l, hl, hC⟩ := Args.code h
    subst hl
    exact logsFn l a cap w hC (by omega)
end Logs
end Go.Proofs.Ytocfnhlfjeilnaa
