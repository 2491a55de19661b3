/- The program's Calc. -/
import Derived.Test.YtppkohkcffnghaaCalcSpec
import Derived.Test.YtppkohkcffnghaaCalcFns
import Derived.Test.YtppkohkcffnghaaOpImpl
import Derived.Deep.RegionHeld3
set_option linter.unusedVariables false
namespace Go.Proofs.Ytppkohkcffnghaa
open Go.RowKit
namespace Ops
open Bas

theorem undrew {B : Nat} {w w' : World} (h : Below B w.drew w') : Below B w w' := ⟨h.os, h.tape, h.output, h.size, h.block⟩
theorem past {W : World} {p g : Nat} {cs : Array Value} {t : TypeId} (h : Blk W p cs t) (hne : p < g) (j : Nat) (u : Value) : Blk (W.setCell ⟨g, j, none⟩ u) p cs t :=
  h.on ((Below.refl (p + 1) W).setCell (show p + 1 ≤ g from hne) u) (Nat.lt_succ_self _)
theorem isFn_no {k a b c : Int} {zs : List Int} (h : isFn k = false) : calcMay k a b c zs = false := by
  unfold calcMay
  by_cases h4 : k ≤ 4
  · have : k < 1 := by
      unfold isFn at h; rw [decide_eq_true h4, Bool.and_true] at h
      have := of_decide_eq_false h; omega
    have e : opOk k a b c = false := by unfold opOk; rw [spans_none (.inl this)]
    rw [e]; rfl
  · rw [decide_eq_false h4, Bool.and_false]
theorem isFn_yes {k : Int} (h : isFn k = true) : k = 1 ∨ k = 2 ∨ k = 3 ∨ k = 4 := by
  unfold isFn at h; simp at h; omega

set_option maxRecDepth 100000 in
set_option maxHeartbeats 4000000 in
theorem calcImplC (k a b c : Int) (v : Value) (zs : List Int) (B : Nat) (w : World) (hwf : (Lit.int .i64 k).wf = true) (hv : Ints.Sees B w v zs) (hB : B ≤ w.heap.size) (hlen : zs.length ≤ 1048576) :
    Calls Try.prog 128 #[opV k a b c, v] w fun e w' => ∃ v', e = .returned (.tuple #[v', .bool (calcMay k a b c zs)]) ∧ Ints.Owns w.heap.size w' v' (calcTo k a b c zs) ∧ Below w.heap.size w w' := by
  obtain ⟨r, cap, rfl⟩ := hv.form
  have O0 := Blk.new w #[.int .i64 k, .int .i64 a, .int .i64 b, .int .i64 c] 30
  have b0 := alloc_below w (.cells #[.int .i64 k, .int .i64 a, .int .i64 b, .int .i64 c] 30)
  have hv0 := hv.on b0 hB
  have hs0 := O0.lt
  show Calls _ _ #[.agg #[.int .i64 k, .int .i64 a, .int .i64 b, .int .i64 c], _] _ _
  obtain ⟨n, hn⟩ : ∃ n, zs.length = n := ⟨_, rfl⟩
  obtain ⟨W0, hW0⟩ : ∃ W0, w.alloc (.cells #[.int .i64 k, .int .i64 a, .int .i64 b, .int .i64 c] 30) = W0 := ⟨_, rfl⟩
  rw [hW0] at O0 b0 hv0 hs0
  obtain ⟨v1, w1, hr, P1, b1⟩ := Ints.appNil _ 25 zs B W0 hv0 hlen
  obtain ⟨g1, cap1, rfl⟩ := P1.form
  have O1 := O0.on b1 hs0
  have hv1 := hv0.on b1 (by omega)
  have bb := b0.trans (b1.mono b0.size)
  have P1 := P1.mono (show w.heap.size + 1 ≤ W0.heap.size from hs0)
  rw [hn] at hr hv1 P1 ⊢
  have c0 := O1.cell 0
  clear O0 hv0
  go_enter Try.func128, Try.ntmps128
  go_wp2_with (at_builtin; refine wpList_app _ rfl _ _ 25 rfl _ _ _ _ rfl rfl hr ?_)
  clear hr hW0
  go_region_held3 (fun W => W.cell? ⟨w.heap.size, 0, none⟩ = some (.int .i64 k)) (go_keep) ((go_at_call 129; refine (tableC _).mono ?_; rintro e w2 ⟨bt, rfl, hlk, b2⟩; have hlk2 := hlk k hwf; have c0' := (O1.drew.on b2 O1.drew.lt).cell 0))
  have b2 : Below w1.heap.size w1 w2 := undrew b2
  have O2 := O1.on b2 O1.lt
  have hv2 := hv1.on b2 (by have := bb.size; omega)
  have P2 : Ints.Owns (w.heap.size + 1) w2 (.slice g1 n cap1) zs := P1.on b2 (Nat.le_refl _)
  have bb2 := bb.trans (b2.mono bb.size)
  clear hlk hlk2 c0 c0' O1 hv1 P1 b1 b2 bb
  rename_i hheld
  clear hheld
  obtain ⟨q, hq⟩ : ∃ q, isFn k = q := ⟨_, rfl⟩
  rw [hq]
  have HF : Hid (isFn k = q) := hq
  clear hq
  cases q
  · go_wp2
    go_ret2
    exact calc_no (isFn_no HF.out) (P2.mono (Nat.le_succ _)) bb2
  have c0 := O2.cell 0; have c1 := O2.cell 1; have c2 := O2.cell 2; have c3 := O2.cell 3
  have cS := implC k a b c w2
  have eV : opV k a b c = .agg #[.int .i64 k, .int .i64 a, .int .i64 b, .int .i64 c] := rfl
  rw [eV] at cS
  go_wp2_with fail
  refine cS.mono ?_
  rintro e w3 ⟨rfl, b3⟩
  have O3 := O2.on b3 O2.lt
  have hv3 := hv2.on b3 (by have := bb2.size; omega)
  have P3 : Ints.Owns (w.heap.size + 1) w3 (.slice g1 n cap1) zs := P2.on b3 (Nat.le_refl _)
  have bb3 := bb2.trans (b3.mono bb2.size)
  clear cS eV O2 hv2 P2 b3 bb2 c0 c1 c2 c3
  obtain ⟨p, hp⟩ : ∃ p, opOk k a b c = p := ⟨_, rfl⟩
  rw [hp]
  have HP : Hid (opOk k a b c = p) := hp
  clear hp
  cases p
  · go_wp2
    go_ret2
    exact calc_no (may_ff HP.out) (P3.mono (Nat.le_succ _)) bb3
  have cR := regsImpl _ zs _ w3 (hn ▸ hv3)
  rw [hn] at cR
  go_wp2_with fail
  refine cR.mono ?_
  rintro e w4 ⟨rfl, rfl⟩
  clear cR
  obtain ⟨q, hq⟩ : ∃ q, regsOk zs = q := ⟨_, rfl⟩
  rw [hq]
  have HQ : Hid (regsOk zs = q) := hq
  clear hq
  cases q
  · go_wp2
    go_ret2
    exact calc_no (may_tf HP.out HQ.out) (P3.mono (Nat.le_succ _)) bb3
  have c0 := O3.cell 0; have c1 := O3.cell 1; have c2 := O3.cell 2; have c3 := O3.cell 3
  have hK := isFn_yes HF.out
  have HY : Hid (calcMay k a b c zs = true) := may_ttt HP.out HQ.out (by omega)
  obtain ⟨h4, hval⟩ := regsOk_out HQ.out
  obtain rfl : n = 4 := by omega
  obtain ⟨g, rfl⟩ : ∃ g, g1 = some ⟨g, 0, none⟩ := by
    obtain ⟨g, cp, e, -, -⟩ := owns_form P3 (by omega)
    simp only [Value.slice.injEq] at e
    exact ⟨g, e.1⟩
  have Q3 : w3.ownsRow (w.heap.size + 1) 3 1 (.slice (some ⟨g, 0, none⟩) 4 cap1) 4 (Ints.iv zs) := h4 ▸ P3
  have hg' := owns_low Q3
  have hg : w.heap.size ≤ g := by omega
  obtain ⟨-, -, -, hsee⟩ := sees_out hv3 h4
  obtain ⟨rb, ro, rfl, hrb, hcell⟩ := hsee
  have hrb' : rb < w3.heap.size := by have := bb3.size; omega
  clear P3 hv3 hv
  rcases hK with rfl | hK
  · obtain ⟨ha, -, -⟩ := ok_set HP.out
    obtain ⟨j, rfl, hj⟩ := place ha
    clear hcell
    have i1 : (0 : Int) ≤ j := by omega
    have i2 : (j : Int) < 4 := by omega
    have eF : fnV 1 = .func (.func 130) #[] #[] := rfl
    rw [eF]
    go_wp2_with fail
    go_region_held3 (fun W => W.cell? ⟨w.heap.size, 0, none⟩ = some (.int .i64 1) ∧ W.cell? ⟨w.heap.size, 1, none⟩ = some (.int .i64 j) ∧ W.cell? ⟨w.heap.size, 2, none⟩ = some (.int .i64 b) ∧ W.cell? ⟨w.heap.size, 3, none⟩ = some (.int .i64 c)) (go_keep) ((go_at_call 130; refine (clo1C 1 _ _ _ _ _).mono ?_; rintro e w5 ⟨rfl, b5⟩; have O5 := O3.drew.on b5 O3.drew.lt; have e0 := O5.cell 0; have e1 := O5.cell 1; have e2 := O5.cell 2; have e3 := O5.cell 3; have Q5 := owns_on Q3 (undrew b5) (Nat.le_refl _); have i0 := Ints.owns_at Q5 j (by omega); have hfz := fun j => Q5.frozenAt j; have Z := fun u => past O5 (show w.heap.size < g by omega) j u; have z0 := fun u => (Z u).cell 0; have z1 := fun u => (Z u).cell 1; have z2 := fun u => (Z u).cell 2; have z3 := fun u => (Z u).cell 3))
    rename_i hheld
    clear hheld e0 e1 e2 e3 i0 hfz z0 z1 z2 z3 Z c0 c1 c2 c3
    have bb5 := bb3.trans ((undrew b5).mono bb3.size)
    have HO := Ints.owns_set Q5 j (b)
    go_wp2
    go_ret2
    refine calc_yes HY.out rfl (show reck 1 b c zs = b from rfl) ?_ (bb5.setCell hg _)
    exact Ints.Owns.mono (by unfold Ints.Owns; rw [set_len zs j _ 4 h4]; exact HO) (Nat.le_succ _)
  · obtain ⟨ha, hb, hc⟩ := ok_regs hK HP.out
    obtain ⟨j, rfl, hj⟩ := place ha
    obtain ⟨jb, rfl, hjb⟩ := place hb
    obtain ⟨jc, rfl, hjc⟩ := place hc
    have x0 := hcell jb (by omega)
    have y0 := hcell jc (by omega)
    obtain ⟨x1, x2⟩ := hval jb (by omega)
    obtain ⟨y1, y2⟩ := hval jc (by omega)
    have HX : Hid (zs.getD ((jb : Int)).toNat 0 = zs[jb]) := getD_at (by omega)
    have HY' : Hid (zs.getD ((jc : Int)).toNat 0 = zs[jc]) := getD_at (by omega)
    obtain ⟨x, hx⟩ : ∃ x, zs[jb] = x := ⟨_, rfl⟩
    obtain ⟨y, hy⟩ : ∃ y, zs[jc] = y := ⟨_, rfl⟩
    rw [hx] at x0 x1 x2 HX
    rw [hy] at y0 y1 y2 HY'
    clear hx hy hval hcell ha hb hc
    have i1 : (0 : Int) ≤ j := by omega
    have i2 : (j : Int) < 4 := by omega
    rcases hK with rfl | rfl | rfl
    · have HR : Hid (reck 2 (jb : Int) (jc : Int) zs = (x + y) % 65536) := by show reck _ _ _ _ = _; unfold reck; rw [HX.out, HY'.out]; rfl
      have eF : fnV 2 = .func (.func 131) #[] #[] := rfl
      rw [eF]
      go_wp2_with fail
      go_region_held3 (fun W => W.cell? ⟨w.heap.size, 0, none⟩ = some (.int .i64 2) ∧ W.cell? ⟨w.heap.size, 1, none⟩ = some (.int .i64 j) ∧ W.cell? ⟨w.heap.size, 2, none⟩ = some (.int .i64 jb) ∧ W.cell? ⟨w.heap.size, 3, none⟩ = some (.int .i64 jc)) (go_keep) ((go_at_call 131; refine (clo2C 2 _ jb jc hjb hjc rb ro cap x y _ ?_ ?_ ?_ x1 x2 y1 y2).mono ?_; exact hrb'; exact x0; exact y0; rintro e w5 ⟨rfl, b5⟩; have O5 := O3.drew.on b5 O3.drew.lt; have e0 := O5.cell 0; have e1 := O5.cell 1; have e2 := O5.cell 2; have e3 := O5.cell 3; have Q5 := owns_on Q3 (undrew b5) (Nat.le_refl _); have i0 := Ints.owns_at Q5 j (by omega); have hfz := fun j => Q5.frozenAt j; have Z := fun u => past O5 (show w.heap.size < g by omega) j u; have z0 := fun u => (Z u).cell 0; have z1 := fun u => (Z u).cell 1; have z2 := fun u => (Z u).cell 2; have z3 := fun u => (Z u).cell 3))
      rename_i hheld
      clear hheld e0 e1 e2 e3 i0 hfz z0 z1 z2 z3 Z c0 c1 c2 c3
      have bb5 := bb3.trans ((undrew b5).mono bb3.size)
      have HO := Ints.owns_set Q5 j ((x + y) % 65536)
      go_wp2
      go_ret2
      refine calc_yes HY.out rfl (HR.out) ?_ (bb5.setCell hg _)
      exact Ints.Owns.mono (by unfold Ints.Owns; rw [set_len zs j _ 4 h4]; exact HO) (Nat.le_succ _)
    · have HR : Hid (reck 3 (jb : Int) (jc : Int) zs = (x - y) % 65536) := by show reck _ _ _ _ = _; unfold reck; rw [HX.out, HY'.out]; simp
      have eF : fnV 3 = .func (.func 132) #[] #[] := rfl
      rw [eF]
      go_wp2_with fail
      go_region_held3 (fun W => W.cell? ⟨w.heap.size, 0, none⟩ = some (.int .i64 3) ∧ W.cell? ⟨w.heap.size, 1, none⟩ = some (.int .i64 j) ∧ W.cell? ⟨w.heap.size, 2, none⟩ = some (.int .i64 jb) ∧ W.cell? ⟨w.heap.size, 3, none⟩ = some (.int .i64 jc)) (go_keep) ((go_at_call 132; refine (clo3C 3 _ jb jc hjb hjc rb ro cap x y _ ?_ ?_ ?_ x1 x2 y1 y2).mono ?_; exact hrb'; exact x0; exact y0; rintro e w5 ⟨rfl, b5⟩; have O5 := O3.drew.on b5 O3.drew.lt; have e0 := O5.cell 0; have e1 := O5.cell 1; have e2 := O5.cell 2; have e3 := O5.cell 3; have Q5 := owns_on Q3 (undrew b5) (Nat.le_refl _); have i0 := Ints.owns_at Q5 j (by omega); have hfz := fun j => Q5.frozenAt j; have Z := fun u => past O5 (show w.heap.size < g by omega) j u; have z0 := fun u => (Z u).cell 0; have z1 := fun u => (Z u).cell 1; have z2 := fun u => (Z u).cell 2; have z3 := fun u => (Z u).cell 3))
      rename_i hheld
      clear hheld e0 e1 e2 e3 i0 hfz z0 z1 z2 z3 Z c0 c1 c2 c3
      have bb5 := bb3.trans ((undrew b5).mono bb3.size)
      have HO := Ints.owns_set Q5 j ((x - y) % 65536)
      go_wp2
      go_ret2
      refine calc_yes HY.out rfl (HR.out) ?_ (bb5.setCell hg _)
      exact Ints.Owns.mono (by unfold Ints.Owns; rw [set_len zs j _ 4 h4]; exact HO) (Nat.le_succ _)
    · have HR : Hid (reck 4 (jb : Int) (jc : Int) zs = lt01 x y) := by show reck _ _ _ _ = _; unfold reck; rw [HX.out, HY'.out]; rfl
      have eF : fnV 4 = .func (.func 133) #[] #[] := rfl
      rw [eF]
      go_wp2_with fail
      go_region_held3 (fun W => W.cell? ⟨w.heap.size, 0, none⟩ = some (.int .i64 4) ∧ W.cell? ⟨w.heap.size, 1, none⟩ = some (.int .i64 j) ∧ W.cell? ⟨w.heap.size, 2, none⟩ = some (.int .i64 jb) ∧ W.cell? ⟨w.heap.size, 3, none⟩ = some (.int .i64 jc)) (go_keep) ((go_at_call 133; refine (clo4C 4 _ jb jc hjb hjc rb ro cap x y _ ?_ ?_ ?_ x1 x2 y1 y2).mono ?_; exact hrb'; exact x0; exact y0; rintro e w5 ⟨rfl, b5⟩; have O5 := O3.drew.on b5 O3.drew.lt; have e0 := O5.cell 0; have e1 := O5.cell 1; have e2 := O5.cell 2; have e3 := O5.cell 3; have Q5 := owns_on Q3 (undrew b5) (Nat.le_refl _); have i0 := Ints.owns_at Q5 j (by omega); have hfz := fun j => Q5.frozenAt j; have Z := fun u => past O5 (show w.heap.size < g by omega) j u; have z0 := fun u => (Z u).cell 0; have z1 := fun u => (Z u).cell 1; have z2 := fun u => (Z u).cell 2; have z3 := fun u => (Z u).cell 3))
      rename_i hheld
      clear hheld e0 e1 e2 e3 i0 hfz z0 z1 z2 z3 Z c0 c1 c2 c3
      have bb5 := bb3.trans ((undrew b5).mono bb3.size)
      have HO := Ints.owns_set Q5 j (lt01 x y)
      go_wp2
      go_ret2
      refine calc_yes HY.out rfl (HR.out) ?_ (bb5.setCell hg _)
      exact Ints.Owns.mono (by unfold Ints.Owns; rw [set_len zs j _ 4 h4]; exact HO) (Nat.le_succ _)
end Ops
end Go.Proofs.Ytppkohkcffnghaa
