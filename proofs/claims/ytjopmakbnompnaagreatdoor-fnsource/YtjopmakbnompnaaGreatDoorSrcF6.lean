/- Several texts of one proof, in build order: AnyProgDraw2, SourceDraw3, ShapeSpec5, ShapeSpec6, ShapeTrue, IntRow, IntSame, Args. -/
import Derived.Laws.StructEq
import Derived.Deep.Slices
import Derived.Test.YtjopmakbnompnaaGreatDoorRdPr1
import Derived.Test.YtjopmakbnompnaaGreatDoorRdPr2
import Derived.Test.YtjopmakbnompnaaGreatDoorRdPr4
import Derived.Test.YtjopmakbnompnaaGreatDoorRdPr6
import Derived.Test.YtjopmakbnompnaaGreatDoorSrcF1
import Derived.Test.YtjopmakbnompnaaGreatDoorSrcF4
import Derived.Test.YtjopmakbnompnaaGreatDoorSrcF5
/- Some program is drawn, right or spoilt: the walk. -/
set_option linter.unusedVariables false
set_option linter.unusedSimpArgs false
namespace Go.Proofs.YtjopmakbnompnaaGreatDoor
open Go.RowKit
namespace Ops
open Bas Flat Draw

set_option maxRecDepth 100000 in
set_option maxHeartbeats 8000000 in
theorem anyProgE {B g : Nat} {v : Value} {l : List UInt8} {w : World} (h : Dr B g v l w) :
    Calls Tryz.prog 20 #[.pointer (some ⟨g, 0, none⟩)] w (AnyPost B g v l w) := by
  have hlt := h.lt
  have D0 := h.alloc (.cells #[.slice none 0 0, .slice none 0 0] 27)
  have G0 : w.grownBy (w.alloc (.cells #[.slice none 0 0, .slice none 0 0] 27)) (some g) := World.grownBy_alloc w _ _
  have R0 := Blk.new w #[.slice none 0 0, .slice none 0 0] 27
  have hz0 : (w.alloc (.cells #[.slice none 0 0, .slice none 0 0] 27)).heap.size = w.heap.size + 1 := by simp
  obtain ⟨W0, hW0⟩ : ∃ W0, w.alloc (.cells #[.slice none 0 0, .slice none 0 0] 27) = W0 := ⟨_, rfl⟩
  have HW := (show Hid _ from hW0)
  rw [hW0] at D0 G0 R0 hz0
  clear hW0 h
  go_enter Tryz.func20, Tryz.ntmps20
  go_wp2_with fail
  rw [HW.out]
  refine (onceE D0 2).mono ?_
  rintro e w1 ⟨z, rfl, D1, G1⟩
  clear D0
  go_wp2_with fail
  refine (progE D1 z).mono ?_
  rintro e w2 ⟨vc, vk, xs, kss, rfl, O2, hx, hk, hks, D2, G2⟩
  obtain ⟨ac, cc, rfl⟩ := O2.c.form
  obtain ⟨ak, ck, rfl⟩ := O2.k.form
  have hw1 := G1.size
  obtain ⟨n, hn⟩ : ∃ n, xs.length = n := ⟨_, rfl⟩
  obtain ⟨m, hm⟩ : ∃ m, kss.length = m := ⟨_, rfl⟩
  rw [hn, hm] at O2 ⊢
  have Q : PSt B g v l W0 (w2.alloc (.cells #[.slice ac n cc, .slice ak m ck] 27)) w2.heap.size (.slice ac n cc) (.slice ak m ck) xs kss :=
    { D := D2.alloc _, G := grown_new (grown_trans G1 G2) _, P := Blk.new _ _ _, O := (O2.mono hw1).on (alloc_below _ _), lt := by omega, hp := by have := G2.size; omega }
  obtain ⟨p, hp⟩ : ∃ p, w2.heap.size = p := ⟨_, rfl⟩
  rw [hp] at Q
  have HKS := (show Hid _ from hks)
  clear O2 D1 D2 G1 G2 hks
  go_wp2_with fail
  refine (belowE Q.D 10 (by omega)).mono ?_
  rintro e w3 ⟨c, rfl, c0, c1, D, G⟩
  have Q := Q.draw D G
  clear D G hp
  by_cases e0 : c = 0
  · subst e0
    have p0 := Q.P.cell 0
    go_wp2_with fail
    refine (bendE Q.D _ xs w3.heap.size Q.O.c.sees (Nat.le_refl _) (by omega)).mono ?_
    rintro e w4 ⟨v4, ys, rfl, C4, hy, D, G⟩
    have hw3 : W0.heap.size ≤ w3.heap.size := Q.G.size
    have Q := Q.draw D G
    clear D G p0
    have q0 := Q.P.cell 0; have q1 := Q.P.cell 1; have z0 := Q.P.froz 0
    have Q := Q.code (C4.mono hw3)
    obtain ⟨a4, c4, rfl⟩ := C4.form
    obtain ⟨n4, hn4⟩ : ∃ n, ys.length = n := ⟨_, rfl⟩
    rw [hn4] at Q hy ⊢
    have R := R0.grown Q.G (fun e => by injection e; omega)
    have r0 := R.cell 0; have r1 := R.cell 1; have f0 := R.froz 0; have f1 := R.froz 1
    have p0 := Q.P.cell 0; have p1 := Q.P.cell 1
    have GG := grown_trans G0 Q.G
    have C := Q.O.other R (by decide) (by decide) 0 (.slice a4 n4 c4)
    have C := (C.other (R.set 0 _) (by decide) (by decide) 1 (.slice ak m ck)).mono (show w.heap.size ≤ W0.heap.size by omega)
    have Dz := (Q.D.set (show g < w.heap.size by omega) 0 (.slice a4 n4 c4)).set (show g < w.heap.size by omega) 1 (.slice ak m ck)
    have Gz := grown_store (grown_store GG (Nat.le_refl _) 0 (.slice a4 n4 c4)) (Nat.le_refl _) 1 (.slice ak m ck)
    clear Q GG R
    go_wp2
    refine bodyPost_ret (v := .agg #[.slice a4 n4 c4, .slice ak m ck]) (by simp [results, Tryz.results20, go_sem, r0, r1, f0, f1]) rfl ?_
    exact ⟨_, _, _, _, rfl, C, by omega, by omega, (fun ks hk' => by have := HKS.out ks hk'; omega), Dz, Gz⟩
  by_cases e1 : c = 1
  · subst e1
    by_cases hm0 : m = 0
    · subst hm0
      have R := R0.grown Q.G (fun e => by injection e; omega)
      have r0 := R.cell 0; have r1 := R.cell 1; have f0 := R.froz 0; have f1 := R.froz 1
      have p0 := Q.P.cell 0; have p1 := Q.P.cell 1
      have GG := grown_trans G0 Q.G
      have C := Q.O.other R (by decide) (by decide) 0 (.slice ac n cc)
      have C := (C.other (R.set 0 _) (by decide) (by decide) 1 (.slice ak 0 ck)).mono (show w.heap.size ≤ W0.heap.size by omega)
      have Dz := (Q.D.set (show g < w.heap.size by omega) 0 (.slice ac n cc)).set (show g < w.heap.size by omega) 1 (.slice ak 0 ck)
      have Gz := grown_store (grown_store GG (Nat.le_refl _) 0 (.slice ac n cc)) (Nat.le_refl _) 1 (.slice ak 0 ck)
      clear Q GG R
      go_wp2
      refine bodyPost_ret (v := .agg #[.slice ac n cc, .slice ak 0 ck]) (by simp [results, Tryz.results20, go_sem, r0, r1, f0, f1]) rfl ?_
      exact ⟨_, _, _, _, rfl, C, by omega, by omega, (fun ks hk' => by have := HKS.out ks hk'; omega), Dz, Gz⟩
    · have dm : (0 : Int) < m := by omega
      have p1 := Q.P.cell 1
      go_wp2_with fail
      refine (belowE Q.D m dm).mono ?_
      rintro e w4 ⟨j', rfl, j0, j1, D, G⟩
      obtain ⟨j, rfl⟩ := Int.eq_ofNat_of_zero_le j0
      have Q := Q.draw D G
      clear D G p1
      have hj : j < kss.length := by omega
      obtain ⟨q, m', cap', ss, hvk, hm', hsl, hgq, hcell, hfz, hput⟩ := Q.row (by omega)
      simp only [Value.slice.injEq] at hvk
      obtain ⟨rfl, rfl, rfl⟩ := hvk
      obtain ⟨y0, y1⟩ := hcell j (by omega) hj
      have p1 := Q.P.cell 1
      obtain ⟨s, hs⟩ : ∃ s, ss[j] = s := ⟨_, rfl⟩
      rw [hs] at y0 y1
      have hlj := HKS.out _ (List.getElem_mem hj)
      have cB := bendE Q.D.drew (.slice s.a s.n s.cap) kss[j] w4.heap.size (y1.sees : Sees4 _ _ _ _) (Nat.le_refl _) (by omega)
      have hw4 : W0.heap.size ≤ w4.heap.size := Q.G.size
      have hPq := Q.P
      clear hcell hfz hput hs y1 hm' hsl
      go_wp2_with fail
      refine wp_region_held_drew (S := fun W => W.cell? ⟨p, 1, none⟩ = some (.slice (some ⟨q, 0, none⟩) m ck)) (by kernel_rfl) p1 (fun hHeld => ?_)
      refine takeH (i := 0) (some 29) (.pointer (some ⟨p, 1, none⟩)) rfl rfl (by kernel_rfl) (by kernel_rfl) (by kernel_rfl) (fun _ _ _ h => h) (Or.inl ⟨by rfl, fun w hSw => by (try dsimp only at hSw); go_simp⟩) (by assumption) ?_
      try simp only [Act.put, List.setIfInBounds_toArray, List.set_cons_zero, List.set_cons_succ]
      refine takeH (i := 1) (some 30) (.slice (some ⟨q, 0, none⟩) m ck) rfl rfl (by kernel_rfl) (by kernel_rfl) (by kernel_rfl) (fun _ _ _ h => h) (Or.inl ⟨by rfl, fun w hSw => by (try dsimp only at hSw); go_simp⟩) (by assumption) ?_
      try simp only [Act.put, List.setIfInBounds_toArray, List.set_cons_zero, List.set_cons_succ]
      refine takeH (i := 2) (some 31) (.int .i64 j) rfl rfl (by kernel_rfl) (by kernel_rfl) (by kernel_rfl) (fun _ _ _ h => h) (Or.inl ⟨by rfl, fun w hSw => by (try dsimp only at hSw); go_simp⟩) (by assumption) ?_
      try simp only [Act.put, List.setIfInBounds_toArray, List.set_cons_zero, List.set_cons_succ]
      refine takeH (i := 3) (some 32) (.pointer (some ⟨g, 0, none⟩)) rfl rfl (by kernel_rfl) (by kernel_rfl) (by kernel_rfl) (fun _ _ _ h => h) (Or.inl ⟨by rfl, fun w hSw => by (try dsimp only at hSw); go_simp⟩) (by assumption) ?_
      try simp only [Act.put, List.setIfInBounds_toArray, List.set_cons_zero, List.set_cons_succ]
      refine takeH (i := 4) (some 33) (.pointer (some ⟨p, 1, none⟩)) rfl rfl (by kernel_rfl) (by kernel_rfl) (by kernel_rfl) (fun _ _ _ h => h) (Or.inl ⟨by rfl, fun w hSw => by (try dsimp only at hSw); go_simp⟩) (by assumption) ?_
      try simp only [Act.put, List.setIfInBounds_toArray, List.set_cons_zero, List.set_cons_succ]
      refine takeH (i := 5) (some 34) (.slice (some ⟨q, 0, none⟩) m ck) rfl rfl (by kernel_rfl) (by kernel_rfl) (by kernel_rfl) (fun _ _ _ h => h) (Or.inl ⟨by rfl, fun w hSw => by (try dsimp only at hSw); go_simp⟩) (by assumption) ?_
      try simp only [Act.put, List.setIfInBounds_toArray, List.set_cons_zero, List.set_cons_succ]
      refine takeH (i := 6) (some 35) (.int .i64 j) rfl rfl (by kernel_rfl) (by kernel_rfl) (by kernel_rfl) (fun _ _ _ h => h) (Or.inl ⟨by rfl, fun w hSw => by (try dsimp only at hSw); go_simp⟩) (by assumption) ?_
      try simp only [Act.put, List.setIfInBounds_toArray, List.set_cons_zero, List.set_cons_succ]
      refine takeH (i := 7) (some 36) (.pointer (some ⟨q, j, none⟩)) rfl rfl (by kernel_rfl) (by kernel_rfl) (by kernel_rfl) (fun _ _ _ h => h) (Or.inl ⟨by rfl, fun w hSw => by (try dsimp only at hSw); go_simp⟩) (by assumption) ?_
      try simp only [Act.put, List.setIfInBounds_toArray, List.set_cons_zero, List.set_cons_succ]
      refine takeH (i := 8) (some 37) (.pointer (some ⟨q, j, none⟩)) rfl rfl (by kernel_rfl) (by kernel_rfl) (by kernel_rfl) (fun _ _ _ h => h) (Or.inl ⟨by rfl, fun w hSw => by (try dsimp only at hSw); go_simp⟩) (by assumption) ?_
      try simp only [Act.put, List.setIfInBounds_toArray, List.set_cons_zero, List.set_cons_succ]
      refine wpAnyH_ready (rs := [9]) (by kernel_rfl) (by simp) ?_
      refine AllReadyH.cons rfl (fun K hK => ?_) AllReadyH.nil
      go_simp
      refine hK.out _ _ hHeld (fun hHeld1 => ?_)
      clear hK K hHeld
      try simp only [Act.put, List.setIfInBounds_toArray, List.set_cons_zero, List.set_cons_succ]
      refine wpAnyH_ready (rs := [10]) (by kernel_rfl) (by simp) ?_
      refine AllReadyH.cons rfl (fun K hK => ?_) AllReadyH.nil
      go_simp
      refine cB.mono ?_
      rintro e w5 ⟨v5, ys, rfl, C5, hy, D, G⟩
      clear cB y0
      have Q := Q.drew.draw D G
      clear D G
      obtain ⟨q', m', cap', ss, hvk, hm', hsl, hgq', hcell, hfz, hput⟩ := Q.row (by omega)
      simp only [Value.slice.injEq, Option.some.injEq, Addr.mk.injEq, and_true] at hvk
      obtain ⟨rfl, rfl, rfl⟩ := hvk
      obtain ⟨y0, -⟩ := hcell j (by omega) hj
      obtain ⟨s', hs'⟩ : ∃ s, ss[j] = s := ⟨_, rfl⟩
      rw [hs'] at y0
      have zf := hfz j (by omega)
      have C5 := C5.mono hw4
      obtain ⟨a5, c5, rfl⟩ := C5.form
      have Q6 := hput j hj ⟨a5, ys.length, c5⟩ ys C5
      obtain ⟨n5, hn5⟩ : ∃ n, ys.length = n := ⟨_, rfl⟩
      rw [hn5] at Q6 hy ⊢
      clear hcell hfz hput hs' hm' hsl
      go_simp
      refine hK.out _ _ (Q.P.cell 1) (fun hHeld2 => ?_)
      clear hK K hHeld1
      try simp only [Act.put, List.setIfInBounds_toArray, List.set_cons_zero, List.set_cons_succ]
      refine takeH (i := 11) (some 40) (.pointer (some ⟨q, j, none⟩)) rfl rfl (by kernel_rfl) (by kernel_rfl) (by kernel_rfl) (fun _ _ _ h => h) (Or.inl ⟨by rfl, fun w hSw => by (try dsimp only at hSw); go_simp⟩) (by assumption) ?_
      try simp only [Act.put, List.setIfInBounds_toArray, List.set_cons_zero, List.set_cons_succ]
      refine takeH (i := 12) (some 41) (.pointer (some ⟨q, j, none⟩)) rfl rfl (by kernel_rfl) (by kernel_rfl) (by kernel_rfl) (fun _ _ _ h => h) (Or.inl ⟨by rfl, fun w hSw => by (try dsimp only at hSw); go_simp⟩) (by assumption) ?_
      try simp only [Act.put, List.setIfInBounds_toArray, List.set_cons_zero, List.set_cons_succ]
      refine wpAnyH_ready (rs := [13]) (by kernel_rfl) (by simp) ?_
      refine AllReadyH.cons rfl (fun K hK => ?_) AllReadyH.nil
      go_simp
      refine hK.out _ _ (Q6.P.cell 1) (fun hHeld3 => ?_)
      clear hK K hHeld2 hHeld3
      try simp only [Act.put, List.setIfInBounds_toArray, List.set_cons_zero, List.set_cons_succ]
      refine wpAnyH_done (by kernel_rfl) ?_ _
      have Q := Q6
      clear Q6 y0 zf
      have R := R0.grown Q.G (fun e => by injection e; omega)
      have r0 := R.cell 0; have r1 := R.cell 1; have f0 := R.froz 0; have f1 := R.froz 1
      have p0 := Q.P.cell 0; have p1 := Q.P.cell 1
      have GG := grown_trans G0 Q.G
      have C := Q.O.other R (by decide) (by decide) 0 (.slice ac n cc)
      have C := (C.other (R.set 0 _) (by decide) (by decide) 1 (.slice (some ⟨q, 0, none⟩) m ck)).mono (show w.heap.size ≤ W0.heap.size by omega)
      have Dz := (Q.D.set (show g < w.heap.size by omega) 0 (.slice ac n cc)).set (show g < w.heap.size by omega) 1 (.slice (some ⟨q, 0, none⟩) m ck)
      have Gz := grown_store (grown_store GG (Nat.le_refl _) 0 (.slice ac n cc)) (Nat.le_refl _) 1 (.slice (some ⟨q, 0, none⟩) m ck)
      clear Q GG R
      go_wp2
      refine bodyPost_ret (v := .agg #[.slice ac n cc, .slice (some ⟨q, 0, none⟩) m ck]) (by simp [results, Tryz.results20, go_sem, r0, r1, f0, f1]) rfl ?_
      exact ⟨_, _, _, _, rfl, C, by omega, by simp; omega, (fun ks hk' => by rcases List.mem_or_eq_of_mem_set hk' with h' | rfl; have := HKS.out ks h'; omega; omega), Dz, Gz⟩
  by_cases e2 : c = 2
  · subst e2
    obtain ⟨v5, W5, hr5, z1, z2, Q5⟩ := Q.kid ⟨none, 0, 0⟩ [] (Owns.nil _ _ _ _) (by omega)
    obtain ⟨a5, c5, rfl⟩ := Q5.O.k.form
    obtain ⟨n5, hn5⟩ : ∃ n, (kss ++ [[]]).length = n := ⟨_, rfl⟩
    rw [hn5] at Q5 hr5
    have p1' := Q.P.cell 1
    have Q := Q5
    clear Q5
    have R := R0.grown Q.G (fun e => by injection e; omega)
    have r0 := R.cell 0; have r1 := R.cell 1; have f0 := R.froz 0; have f1 := R.froz 1
    have p0 := Q.P.cell 0; have p1 := Q.P.cell 1
    have GG := grown_trans G0 Q.G
    have C := Q.O.other R (by decide) (by decide) 0 (.slice ac n cc)
    have C := (C.other (R.set 0 _) (by decide) (by decide) 1 (.slice a5 n5 c5)).mono (show w.heap.size ≤ W0.heap.size by omega)
    have Dz := (Q.D.set (show g < w.heap.size by omega) 0 (.slice ac n cc)).set (show g < w.heap.size by omega) 1 (.slice a5 n5 c5)
    have Gz := grown_store (grown_store GG (Nat.le_refl _) 0 (.slice ac n cc)) (Nat.le_refl _) 1 (.slice a5 n5 c5)
    clear Q GG R
    go_wp2_with (at_builtin; refine wpList_app _ rfl _ _ 25 rfl _ _ _ _ rfl rfl hr5 ?_)
    refine bodyPost_ret (v := .agg #[.slice ac n cc, .slice a5 n5 c5]) (by simp [results, Tryz.results20, go_sem, r0, r1, f0, f1]) rfl ?_
    exact ⟨_, _, _, _, rfl, C, by omega, by simp; omega, (fun ks hk' => by rcases List.mem_append.1 hk' with h' | h'; have := HKS.out ks h'; omega; have : ks = [] := (by simpa using h'); subst this; simp), Dz, Gz⟩
  by_cases e3 : c = 3
  · subst e3
    have z1 := Q.P.cell 1
    have z2 := Q.P.froz 1
    have Q := Q.noKids
    have R := R0.grown Q.G (fun e => by injection e; omega)
    have r0 := R.cell 0; have r1 := R.cell 1; have f0 := R.froz 0; have f1 := R.froz 1
    have p0 := Q.P.cell 0; have p1 := Q.P.cell 1
    have GG := grown_trans G0 Q.G
    have C := Q.O.other R (by decide) (by decide) 0 (.slice ac n cc)
    have C := (C.other (R.set 0 _) (by decide) (by decide) 1 (.slice none 0 0)).mono (show w.heap.size ≤ W0.heap.size by omega)
    have Dz := (Q.D.set (show g < w.heap.size by omega) 0 (.slice ac n cc)).set (show g < w.heap.size by omega) 1 (.slice none 0 0)
    have Gz := grown_store (grown_store GG (Nat.le_refl _) 0 (.slice ac n cc)) (Nat.le_refl _) 1 (.slice none 0 0)
    clear Q GG R
    go_wp2
    refine bodyPost_ret (v := .agg #[.slice ac n cc, .slice none 0 0]) (by simp [results, Tryz.results20, go_sem, r0, r1, f0, f1]) rfl ?_
    exact ⟨_, _, _, _, rfl, C, by omega, by simp, (by simp), Dz, Gz⟩
  have d0 : (c == 0) = false := by simp [e0]
  have d1 : (c == 1) = false := by simp [e1]
  have d2 : (c == 2) = false := by simp [e2]
  have d3 : (c == 3) = false := by simp [e3]
  have R := R0.grown Q.G (fun e => by injection e; omega)
  have r0 := R.cell 0; have r1 := R.cell 1; have f0 := R.froz 0; have f1 := R.froz 1
  have p0 := Q.P.cell 0; have p1 := Q.P.cell 1
  have GG := grown_trans G0 Q.G
  have C := Q.O.other R (by decide) (by decide) 0 (.slice ac n cc)
  have C := (C.other (R.set 0 _) (by decide) (by decide) 1 (.slice ak m ck)).mono (show w.heap.size ≤ W0.heap.size by omega)
  have Dz := (Q.D.set (show g < w.heap.size by omega) 0 (.slice ac n cc)).set (show g < w.heap.size by omega) 1 (.slice ak m ck)
  have Gz := grown_store (grown_store GG (Nat.le_refl _) 0 (.slice ac n cc)) (Nat.le_refl _) 1 (.slice ak m ck)
  clear Q GG R
  go_wp2
  refine bodyPost_ret (v := .agg #[.slice ac n cc, .slice ak m ck]) (by simp [results, Tryz.results20, go_sem, r0, r1, f0, f1]) rfl ?_
  exact ⟨_, _, _, _, rfl, C, by omega, by omega, (fun ks hk' => by have := HKS.out ks hk'; omega), Dz, Gz⟩
end Ops
end Go.Proofs.YtjopmakbnompnaaGreatDoor
/- A program and the text of one are drawn: spec.DrawShowProg, spec.DrawReadProg. -/
set_option linter.unusedVariables false
namespace Go.Proofs.YtjopmakbnompnaaGreatDoor
open Go.RowKit
namespace Ops
open Bas Draw
open Num (below belowSt below_range spoil spoilSt spoil_size)
theorem prog_len (xs : List O4) (kss : List (List O4)) : (showProg xs kss).length ≤ 4000 := by
  unfold showProg
  split
  · rename_i h
    obtain ⟨h1, h2, h3⟩ := prog_codes h
    have a := kids_len h3
    have b := lines_len xs
    have c := code_len h1
    unfold progText
    rw [List.length_append]
    omega
  · simp
def ProgDrawn (w : World) (e : Ending) (w' : World) : Prop := ∃ vc vk xs kss, e = .returned (.agg #[vc, vk]) ∧ OwnP w.heap.size w' vc vk xs kss ∧ xs.length ≤ 1030 ∧ kss.length ≤ 4 ∧ (∀ ks ∈ kss, ks.length ≤ 1030) ∧ Below w.heap.size w w'
set_option maxRecDepth 100000 in
set_option maxHeartbeats 400000 in
theorem drawShowProgC (B : Nat) (v : Value) (l : List UInt8) (w : World) (hC : Draw.Code B w v l) (hB : B ≤ w.heap.size) (hl : l.length ≤ 1048576) :
    Calls Tryz.prog 6 #[v] w (ProgDrawn w) := by
  have R0 := Blk.new w #[.slice none 0 0, .slice none 0 0] 27
  have b0 := alloc_below w (.cells #[.slice none 0 0, .slice none 0 0] 27)
  have hz0 : (w.alloc (.cells #[.slice none 0 0, .slice none 0 0] 27)).heap.size = w.heap.size + 1 := by simp
  have c0 := newC B v l (w.alloc (.cells #[.slice none 0 0, .slice none 0 0] 27)) (hC.below ((Below.refl B w).alloc hB _)) (by rw [hz0]; omega) hl
  obtain ⟨W0, hW0⟩ : ∃ W0, w.alloc (.cells #[.slice none 0 0, .slice none 0 0] 27) = W0 := ⟨_, rfl⟩
  have HW := (show Hid _ from hW0)
  rw [hW0] at R0 b0 hz0 c0
  have z0 := b0.size
  obtain ⟨g, hg⟩ : ∃ g, W0.heap.size = g := ⟨_, rfl⟩
  have HG := (show Hid _ from hg)
  rw [hg] at c0 hz0
  have hz : w.heap.size < g := by omega
  clear hW0 hg hz0
  go_enter Tryz.func6, Tryz.ntmps6
  go_wp2_with fail
  rw [HW.out]
  refine c0.mono ?_
  rintro e w1 ⟨rfl, C1, G1⟩
  clear c0
  have D1 : Dr B g v l w1 := ⟨_, C1⟩
  have R1 := R0.grown G1 (fun e => by cases e)
  have b1 := b0.grown G1 z0 (fun k hk => by cases hk)
  have z1 := D1.lt
  go_wp2_with fail
  refine (anyProgE D1).mono ?_
  rintro e w2 ⟨vc, vk, xs, kss, rfl, O2, hx, hk, hks, D2, G2⟩
  have HKS := (show Hid _ from hks)
  obtain ⟨ac, cc, rfl⟩ := O2.c.form
  obtain ⟨ak, ck, rfl⟩ := O2.k.form
  obtain ⟨n, hn⟩ : ∃ n, xs.length = n := ⟨_, rfl⟩
  obtain ⟨m, hm⟩ : ∃ m, kss.length = m := ⟨_, rfl⟩
  rw [hn, hm] at O2 ⊢
  have R := R1.grown G2 (fun e => by injection e; omega)
  have b2 := b1.grown G2 b1.size (fun k hk => by cases hk; omega)
  have r0 := R.cell 0; have r1 := R.cell 1; have f0 := R.froz 0; have f1 := R.froz 1
  have z2 := D2.lt
  have C := O2.other R (by decide) (by decide) 0 (.slice ac n cc)
  have C := (C.other (R.set 0 _) (by decide) (by decide) 1 (.slice ak m ck)).mono (show w.heap.size ≤ w1.heap.size by omega)
  have bz := (b2.grown (grown_set w2 w.heap.size 0 (.slice ac n cc)) b2.size (fun k hk => by cases hk; exact Nat.le_refl _))
  have bz := (bz.grown (grown_set _ w.heap.size 1 (.slice ak m ck)) bz.size (fun k hk => by cases hk; exact Nat.le_refl _))
  clear hks C1 D1 G1 G2 D2 O2 R R0 R1 b0 b1 b2
  go_wp2
  refine bodyPost_ret (v := .agg #[.slice ac n cc, .slice ak m ck]) (by simp [results, Tryz.results6, go_sem, r0, r1]) rfl ?_
  exact ⟨_, _, xs, kss, rfl, C, hx, hk, HKS.out, bz⟩
/-- ends of texts -/
def moreProg : List ByteArray := [⟨#[107, 105, 100, 10]⟩, ⟨#[107, 105, 100, 10, 115, 101, 116, 32, 48, 32, 49, 10]⟩, ⟨#[107, 105, 100]⟩, ⟨#[115, 101, 116, 32, 48, 32, 49, 10]⟩, ⟨#[102, 111, 114, 107, 10]⟩]
theorem moreProg_small (j : Nat) : (moreProg.getD j ByteArray.empty).size ≤ 40 := by
  match j with
  | 0 => decide
  | 1 => decide
  | 2 => decide
  | 3 => decide
  | 4 => decide
  | j + 5 => exact Nat.zero_le _
def TextDrawn (w : World) (e : Ending) (w' : World) : Prop := ∃ t : ByteArray, e = .returned (.string t) ∧ t.size ≤ 5000 ∧ Below w.heap.size w w'
set_option maxRecDepth 100000 in
set_option maxHeartbeats 1600000 in
theorem drawReadProgC (B : Nat) (v : Value) (l : List UInt8) (w : World) (hC : Draw.Code B w v l) (hB : B ≤ w.heap.size) (hl : l.length ≤ 1048576) :
    Calls Tryz.prog 11 #[v] w (TextDrawn w) := by
  have c0 := newC B v l w hC hB hl
  go_enter Tryz.func11, Tryz.ntmps11
  go_wp2_with fail
  refine c0.mono ?_
  rintro e w1 ⟨rfl, C1, G1⟩
  clear c0
  obtain ⟨g, hg⟩ : ∃ g, w.heap.size = g := ⟨_, rfl⟩
  have b1 : Below w.heap.size w w1 := (Below.refl _ _).grown G1 (Nat.le_refl _) (fun k hk => by cases hk)
  have HG := (show Hid _ from hg)
  rw [hg] at C1 b1 ⊢
  clear hg G1
  have D1 : Dr B g v l w1 := ⟨_, C1⟩
  clear C1
  go_wp2_with fail
  refine (onceE D1 2).mono ?_
  rintro e w2 ⟨z, rfl, D2, G2⟩
  have z1 : g ≤ w1.heap.size := Nat.le_of_lt D1.lt
  have b2 := b1.grown G2 z1 (fun k hk => by cases hk; exact Nat.le_refl _)
  clear D1 b1 G2
  go_wp2_with fail
  refine (progE D2 z).mono ?_
  rintro e w3 ⟨vc, vk, xs, kss, rfl, O3, hx, hk, hks, D3, G3⟩
  have z2 : g ≤ w2.heap.size := Nat.le_of_lt D2.lt
  have b3 := b2.grown G3 z2 (fun k hk => by cases hk; exact Nat.le_refl _)
  clear D2 b2 G3
  have cS := showProgC vc vk xs kss w3.heap.size w3 ⟨O3.c.sees, O3.k.sees⟩ (Nat.le_refl _) ⟨by omega, by omega, fun ks h => by have := hks ks h; omega⟩
  have hL := prog_len xs kss
  obtain ⟨P, hP⟩ : ∃ P : ByteArray, (⟨(showProg xs kss).toArray⟩ : ByteArray) = P := ⟨_, rfl⟩
  have hPs : P.size ≤ 4000 := by rw [← hP]; show (showProg _ _).toArray.size ≤ 4000; simpa using hL
  rw [hP] at cS
  clear hP hL O3 hks hx hk
  go_wp2_with fail
  refine cS.mono ?_
  rintro e w4 ⟨rfl, B4⟩
  clear cS
  have D4 := D3.grown (grown_of_below B4 none) (fun k hk => by cases hk)
  have z3 : g ≤ w3.heap.size := Nat.le_of_lt D3.lt
  have b4 := b3.grown (grown_of_below B4 none) z3 (fun k hk => by cases hk)
  clear D3 b3 B4
  go_wp2_with fail
  refine (belowE D4 7 (by omega)).mono ?_
  rintro e w5 ⟨r, rfl, r0, r1, D5, G5⟩
  have z4 : g ≤ w4.heap.size := Nat.le_of_lt D4.lt
  have b5 := b4.grown G5 z4 (fun k hk => by cases hk; exact Nat.le_refl _)
  have z5 : g ≤ w5.heap.size := Nat.le_of_lt D5.lt
  clear D4 b4 G5
  obtain ⟨s5, C5⟩ := D5
  by_cases e0 : r = 0
  · subst e0
    have hz := spoil_size l s5 P
    obtain ⟨t, ht⟩ : ∃ t, spoil l s5 P = t := ⟨_, rfl⟩
    rw [ht] at hz
    go_wp2_with fail
    refine (spoilC B g v l s5 P (by omega) _ C5).mono ?_
    rw [ht]
    clear ht
    rintro e w6 ⟨rfl, C6, G6⟩
    go_wp2
    go_ret
    exact ⟨_, rfl, by omega, by rw [HG.out]; exact b5.grown G6 z5 (fun k hk => by cases hk; exact Nat.le_refl _)⟩
  by_cases e1 : r = 1
  · subst e1
    have hz := moreProg_small (below l s5 (5 : Nat)).toNat
    obtain ⟨t, ht⟩ : ∃ t, moreProg.getD (below l s5 (5 : Nat)).toNat ByteArray.empty = t := ⟨_, rfl⟩
    rw [ht] at hz
    go_wp2_with fail
    refine (pickS C5 moreProg 5 rfl (by omega) (by omega) _ rfl).mono ?_
    rw [ht]
    clear ht
    rintro e w6 ⟨rfl, C6, G6⟩
    go_wp2
    go_ret
    exact ⟨_, rfl, by simp; omega, by rw [HG.out]; exact b5.grown G6 z5 (fun k hk => by cases hk; exact Nat.le_refl _)⟩
  have d0 : (r == 0) = false := by simp [e0]
  have d1 : (r == 1) = false := by simp [e1]
  go_wp2
  go_ret
  exact ⟨_, rfl, by omega, by rw [HG.out]; exact b5⟩
end Ops
end Go.Proofs.YtjopmakbnompnaaGreatDoor
/- What the specification's SameProg answers. -/
set_option linter.unusedVariables false
set_option linter.unusedSimpArgs false
namespace Go.Proofs.YtjopmakbnompnaaGreatDoor
open Go.RowKit
namespace Ops
open Bas Flat

theorem same4_yes {x y : O4} (h : same4 x y = true) : x = y := by
  unfold same4 at h
  obtain ⟨h1, h2, h3, h4⟩ := of_decide_eq_true h
  cases x; cases y; simp_all
set_option maxRecDepth 100000 in
theorem eqOp4 (x y : O4) (W : World) : (Op.equalIn 10000 36 x.val y.val).run Tryz.prog W = .ok (same4 x y) W := by
  have hu : Tryz.prog.underlying 36 = some (.struct (Tryz.prog.fieldsOf 36)) := by kernel_rfl
  have hp : Tryz.prog.stoodInHeld 36 = false := by kernel_rfl
  show (Op.equalIn 10000 36 (.agg #[.int .i64 x.k, .int .i64 x.a, .int .i64 x.b, .int .i64 x.c]) (.agg #[.int .i64 y.k, .int .i64 y.a, .int .i64 y.b, .int .i64 y.c])).run Tryz.prog W = .ok (same4 x y) W
  rw [run_equalIn_agg (d := 9999) (ht := hu) (hp := hp)]
  have h1 := hu.symm.trans Tryz.underlying36
  simp only [Option.some.injEq, TypeDesc.struct.injEq] at h1
  rw [h1]
  obtain ⟨x0, x1, x2, x3⟩ := x
  obtain ⟨y0, y1, y2, y3⟩ := y
  unfold same4
  by_cases h0 : x0 = y0 <;> by_cases h1 : x1 = y1 <;> by_cases h2 : x2 = y2 <;> by_cases h3 : x3 = y3 <;> simp [Op.eqFields, go_sem, h0, h1, h2, h3]

theorem sameGo_len {xs ys : List O4} (h : ¬ xs.length = ys.length) : sameGo xs ys = false := by
  induction xs generalizing ys with
  | nil => cases ys with
    | nil => simp at h
    | cons y t => rfl
  | cons x r ih => cases ys with
    | nil => rfl
    | cons y t =>
      show (same4 x y && sameGo r t) = false
      rw [ih (by simpa using h), Bool.and_false]
theorem sameGo_step {xs ys : List O4} {k : Nat} (h : k < xs.length) (h' : k < ys.length) : sameGo (xs.drop k) (ys.drop k) = (same4 xs[k] ys[k] && sameGo (xs.drop (k + 1)) (ys.drop (k + 1))) := by
  rw [List.drop_eq_getElem_cons h, List.drop_eq_getElem_cons h']; rfl

set_option maxRecDepth 100000 in
set_option maxHeartbeats 1600000 in
theorem sameSpec (v u : Value) (xs ys : List O4) (B : Nat) (w : World) (hv : Sees4 B w v xs) (hu : Sees4 B w u ys) (hB : B ≤ w.heap.size) :
    Calls Tryz.prog 28 #[v, u] w fun e w' => e = .returned (.bool (sameGo xs ys)) ∧ Below w.heap.size w w' := by
  have r1 := hv.room; have r2 := hu.room
  obtain ⟨a, cap, rfl⟩ := hv.form
  obtain ⟨a', cap', rfl⟩ := hu.form
  obtain ⟨n, hn⟩ : ∃ n, xs.length = n := ⟨_, rfl⟩
  obtain ⟨n', hn'⟩ : ∃ n, ys.length = n := ⟨_, rfl⟩
  rw [hn] at hv r1 ⊢
  rw [hn'] at hu r2 ⊢
  have q1 : (n : Int) ≤ 9223372036854775807 := by unfold maxLen at r1; omega
  have q2 : (n' : Int) ≤ 9223372036854775807 := by unfold maxLen at r2; omega
  clear r1 r2
  by_cases hnn : n = n'
  · subst hnn
    have HE : Hid (sameGo xs ys = sameGo (xs.drop 0) (ys.drop 0)) := rfl
    obtain ⟨g, hg⟩ : ∃ g, w.heap.size = g := ⟨_, rfl⟩
    rw [hg] at hB ⊢
    have hb0 : Below g w w := Below.refl _ _
    go_enter Tryz.func28, Tryz.ntmps28
    go_wp2
    go_loopw [5] (fun i' wr => ∃ k : Nat, k ≤ n ∧ i' = .int .i64 k ∧ sameGo xs ys = sameGo (xs.drop k) (ys.drop k) ∧ Below g w wr) (fun i' _ => n - (intOf i').toNat)
    case atStart => exact ⟨0, Nat.zero_le _, rfl, HE.out, hb0⟩
    case round =>
      obtain ⟨k, hk, rfl, he, hb⟩ := hrel
      clear hb0 HE
      by_cases hlt : k < n
      · obtain ⟨b, off, rfl, hbB, hc⟩ := (hv.on hb hB).open (by omega)
        obtain ⟨b', off', rfl, hbB', hc'⟩ := (hu.on hb hB).open (by omega)
        obtain ⟨a0, a1, a2, a3⟩ := see4 (B := B) hc k (by omega)
        obtain ⟨d0, d1, d2, d3⟩ := see4 (B := B) hc' k (by omega)
        rw [sameGo_step (by omega) (by omega)] at he
        obtain ⟨x, hx⟩ : ∃ x, xs[k] = x := ⟨_, rfl⟩
        obtain ⟨y, hy⟩ : ∃ y, ys[k] = y := ⟨_, rfl⟩
        rw [hx, hy] at he
        rw [hx] at a0 a1 a2 a3
        rw [hy] at d0 d1 d2 d3
        have i1 : (k : Int) < n := by omega
        have i2 : (0 : Int) ≤ k := by omega
        have hq := fun W => eqOp4 x y W
        have eX : x.val = .agg #[.int .i64 x.k, .int .i64 x.a, .int .i64 x.b, .int .i64 x.c] := rfl
        have eY : y.val = .agg #[.int .i64 y.k, .int .i64 y.a, .int .i64 y.b, .int .i64 y.c] := rfl
        rw [eX, eY] at hq
        clear hx hy hc hc' eX eY
        obtain ⟨p, hp⟩ : ∃ p, same4 x y = p := ⟨_, rfl⟩
        rw [hp] at he hq
        clear hp
        cases p
        · have HF : Hid (false = sameGo xs ys) := by show _ = _; rw [he, Bool.false_and]
          clear he
          go_wp2_with fail
          go_region
          all_goals
            go_wp2
            go_ret
            exact ⟨ret_b HF.out, by first | exact hb.drew | exact hb.drew.drew | exact hb⟩
        · have HF := (show Hid _ from he)
          clear he
          go_wp2_with fail
          go_region
          all_goals
            go_wp2
            go_roundw
            case rel => exact ⟨k + 1, by omega, by go_num, by rw [HF.out, Bool.true_and], by first | exact hb.drew | exact hb.drew.drew | exact hb⟩
            case measure => simp [intOf]; omega
      · obtain rfl : k = n := by omega
        have HF : Hid (true = sameGo xs ys) := by
          show _ = _
          rw [he, List.drop_of_length_le (by omega), List.drop_of_length_le (by omega)]; rfl
        clear he
        go_wp2
        go_ret
        exact ⟨ret_b HF.out, hb⟩
  · have HF : Hid (false = sameGo xs ys) := (sameGo_len (by omega)).symm
    have dn : ((n : Int) != n') = true := by simp; omega
    clear hnn
    go_enter Tryz.func28, Tryz.ntmps28
    go_wp2
    go_ret
    exact ⟨ret_b HF.out, Below.refl _ _⟩
end Ops
end Go.Proofs.YtjopmakbnompnaaGreatDoor
/- What the specification's SameProg answers. -/
set_option linter.unusedVariables false
set_option linter.unusedSimpArgs false
namespace Go.Proofs.YtjopmakbnompnaaGreatDoor
open Go.RowKit
namespace Ops
open Bas Flat

theorem sp_no1 {xs ys : List O4} {kss lss : List (List O4)} (h : sameGo xs ys = false) : sameProg xs kss ys lss = false := by unfold sameProg; rw [h]; rfl
theorem sp_no2 {xs ys : List O4} {kss lss : List (List O4)} (h : ¬ kss.length = lss.length) : sameProg xs kss ys lss = false := by unfold sameProg; rw [decide_eq_false h]; simp
theorem sp_no3 {xs ys : List O4} {kss lss : List (List O4)} {k : Nat} (h1 : k < kss.length) (h2 : k < lss.length) (h : sameGo kss[k] lss[k] = false) : sameProg xs kss ys lss = false := by
  unfold sameProg
  have : ((kss.zip lss).all fun p => sameGo p.1 p.2) = false := List.all_eq_false.2 ⟨(kss[k], lss[k]), by
    have : (kss.zip lss)[k]'(by simp; omega) = (kss[k], lss[k]) := by simp
    rw [← this]; exact List.getElem_mem _, by simp [h]⟩
  rw [this, Bool.and_false]
theorem sp_yes {xs ys : List O4} {kss lss : List (List O4)} (h0 : sameGo xs ys = true) (h1 : kss.length = lss.length) (h : ∀ j (a : j < kss.length) (b : j < lss.length), sameGo kss[j] lss[j] = true) : sameProg xs kss ys lss = true := by
  unfold sameProg
  have : ((kss.zip lss).all fun p => sameGo p.1 p.2) = true := List.all_eq_true.2 fun p hp => by
    obtain ⟨j, hj, rfl⟩ := List.mem_iff_getElem.1 hp
    simp at hj
    simpa using h j (by omega) (by omega)
  rw [h0, this, decide_eq_true h1]; rfl

set_option maxRecDepth 100000 in
set_option maxHeartbeats 3200000 in
theorem sameProgSpec (vc vk uc uk : Value) (xs ys : List O4) (kss lss : List (List O4)) (B : Nat) (w : World) (hv : SeesP B w vc vk xs kss) (hu : SeesP B w uc uk ys lss) (hB : B ≤ w.heap.size) :
    Calls Tryz.prog 10 #[.agg #[vc, vk], .agg #[uc, uk]] w fun e w' => e = .returned (.bool (sameProg xs kss ys lss)) ∧ Below w.heap.size w w' := by
  have r1 := hv.k.room; have r2 := hu.k.room
  obtain ⟨a, cap, rfl⟩ := hv.c.form
  obtain ⟨ak, capk, rfl⟩ := hv.k.form
  obtain ⟨u, ucap, rfl⟩ := hu.c.form
  obtain ⟨uk', ucapk, rfl⟩ := hu.k.form
  obtain ⟨n, hn⟩ : ∃ n, xs.length = n := ⟨_, rfl⟩
  obtain ⟨m, hm⟩ : ∃ m, kss.length = m := ⟨_, rfl⟩
  obtain ⟨n', hn'⟩ : ∃ n, ys.length = n := ⟨_, rfl⟩
  obtain ⟨m', hm'⟩ : ∃ m, lss.length = m := ⟨_, rfl⟩
  rw [hn, hm] at hv ⊢
  rw [hn', hm'] at hu ⊢
  rw [hm] at r1
  rw [hm'] at r2
  have q1 : (m : Int) ≤ 9223372036854775807 := by unfold maxLen at r1; omega
  have q2 : (m' : Int) ≤ 9223372036854775807 := by unfold maxLen at r2; omega
  clear r1 r2
  have b0 := (alloc_below w (.cells #[.slice a n cap, .slice ak m capk] 27)).alloc (by simp) (.cells #[.slice u n' ucap, .slice uk' m' ucapk] 27)
  have X0 : Blk ((w.alloc (.cells #[.slice a n cap, .slice ak m capk] 27)).alloc (.cells #[.slice u n' ucap, .slice uk' m' ucapk] 27)) w.heap.size #[.slice a n cap, .slice ak m capk] 27 := (Blk.new w _ _).on (alloc_below _ _) (by simp)
  have Z0 : Blk ((w.alloc (.cells #[.slice a n cap, .slice ak m capk] 27)).alloc (.cells #[.slice u n' ucap, .slice uk' m' ucapk] 27)) (w.heap.size + 1) #[.slice u n' ucap, .slice uk' m' ucapk] 27 := by
    have := Blk.new (w.alloc (.cells #[.slice a n cap, .slice ak m capk] 27)) #[.slice u n' ucap, .slice uk' m' ucapk] 27
    simpa using this
  obtain ⟨W0, hW0⟩ : ∃ W0, (w.alloc (.cells #[.slice a n cap, .slice ak m capk] 27)).alloc (.cells #[.slice u n' ucap, .slice uk' m' ucapk] 27) = W0 := ⟨_, rfl⟩
  rw [hW0] at b0 X0 Z0
  have hs := Z0.lt
  have c0 := sameSpec _ _ xs ys B W0 (hv.c.on b0 hB) (hu.c.on b0 hB) (by omega)
  obtain ⟨p, hp⟩ : ∃ p, sameGo xs ys = p := ⟨_, rfl⟩
  rw [hp] at c0
  have HP : Hid (sameGo xs ys = p) := hp
  clear hp
  have x0 := X0.cell 0; have z0 := Z0.cell 0
  go_enter Tryz.func10, Tryz.ntmps10
  go_wp2_with fail
  clear hW0 x0 z0
  refine c0.mono ?_
  rintro e w1 ⟨rfl, b1⟩
  clear c0
  have bb1 := b0.trans (b1.mono b0.size)
  cases p
  · have HF : Hid (false = sameProg xs kss ys lss) := (sp_no1 HP.out).symm
    go_wp2
    go_ret
    exact ⟨ret_b HF.out, bb1⟩
  have X1 := X0.on b1 (by omega); have Z1 := Z0.on b1 hs
  have x1 := X1.cell 1; have z1 := Z1.cell 1
  by_cases hmm : m = m'
  · subst hmm
    have HV := (show Hid _ from hv.k)
    have HU := (show Hid _ from hu.k)
    clear X0 Z0
    obtain ⟨g, hg⟩ : ∃ g, w.heap.size = g := ⟨_, rfl⟩
    rw [hg] at hB bb1 X1 Z1 x1 z1 ⊢
    go_wp2
    clear x1 z1
    go_loopw [5] (fun i' wr => ∃ k : Nat, k ≤ m ∧ i' = .int .i64 k ∧ (∀ j (a : j < kss.length) (b : j < lss.length), j < k → sameGo kss[j] lss[j] = true) ∧ Below g w wr ∧ Blk wr g #[.slice a n cap, .slice ak m capk] 27 ∧ Blk wr (g + 1) #[.slice u n' ucap, .slice uk' m ucapk] 27) (fun i' _ => m - (intOf i').toNat)
    case atStart => exact ⟨0, Nat.zero_le _, rfl, fun j _ _ h => by omega, bb1, X1, Z1⟩
    case round =>
      obtain ⟨k, hk, rfl, hall, hb, X, Z⟩ := hrel
      have x1 := X.cell 1; have z1 := Z.cell 1
      have hsz : g ≤ wr.heap.size := by have := X.lt; omega
      by_cases hlt : k < m
      · obtain ⟨b, off, rfl, hbB, hc⟩ := SeesK.open HV.out (by omega)
        obtain ⟨b', off', rfl, hbB', hc'⟩ := SeesK.open HU.out (by omega)
        obtain ⟨s, p1, p2⟩ := hc k (by omega)
        obtain ⟨s', p1', p2'⟩ := hc' k (by omega)
        have a0 := (hb.cell (p := ⟨b, off + k, none⟩) (by show b < g; omega)).trans p1
        have a1 := (hb.cell (p := ⟨b', off' + k, none⟩) (by show b' < g; omega)).trans p1'
        have i1 : (k : Int) < m := by omega
        have i2 : (0 : Int) ≤ k := by omega
        have cT := sameSpec _ _ kss[k] lss[k] B wr.drew (p2.on hb.drew hB) (p2'.on hb.drew hB) (by show B ≤ wr.heap.size; omega)
        have HA := (show Hid _ from hall)
        have HG := (show Hid _ from (fun h : sameGo kss[k] lss[k] = false => sp_no3 (xs := xs) (ys := ys) (by omega) (by omega) h))
        obtain ⟨q, hq⟩ : ∃ q, sameGo kss[k] lss[k] = q := ⟨_, rfl⟩
        have HQ : Hid (sameGo kss[k] lss[k] = q) := hq
        rw [hq] at cT
        clear hall hc hc' p1 p1' p2 p2' hq
        cases q
        · have HF : Hid (false = sameProg xs kss ys lss) := (HG.out HQ.out).symm
          go_wp2_with fail
          go_region_held3 (fun W => W.cell? ⟨g, 1, none⟩ = some (.slice (some ⟨b, off, none⟩) m capk) ∧ W.cell? ⟨g + 1, 1, none⟩ = some (.slice (some ⟨b', off', none⟩) m ucapk) ∧ W.cell? ⟨b, off + k, none⟩ = some (.slice s.a s.n s.cap) ∧ W.cell? ⟨b', off' + k, none⟩ = some (.slice s'.a s'.n s'.cap)) (go_keep) ((go_at_call 28; refine cT.mono ?_; rintro e w2 ⟨rfl, hb2⟩; have hb2 := undrewB hb2; have X2 := X.on hb2 X.lt; have Z2 := Z.on hb2 Z.lt; have x2 := X2.cell 1; have z2 := Z2.cell 1; have d0 := (hb2.cell (p := ⟨b, off + k, none⟩) (by show b < wr.heap.size; omega)).trans a0; have d1 := (hb2.cell (p := ⟨b', off' + k, none⟩) (by show b' < wr.heap.size; omega)).trans a1))
          go_wp2
          go_ret
          exact ⟨ret_b HF.out, by rw [hg]; exact hb.trans (hb2.mono hsz)⟩
        · have HF : Hid (∀ j (a : j < kss.length) (b : j < lss.length), j < k + 1 → sameGo kss[j] lss[j] = true) := fun j ha hb hjk => by
            rcases Nat.lt_succ_iff_lt_or_eq.1 hjk with h | h
            · exact HA.out j ha hb h
            · subst h; exact HQ.out
          go_wp2_with fail
          go_region_held3 (fun W => W.cell? ⟨g, 1, none⟩ = some (.slice (some ⟨b, off, none⟩) m capk) ∧ W.cell? ⟨g + 1, 1, none⟩ = some (.slice (some ⟨b', off', none⟩) m ucapk) ∧ W.cell? ⟨b, off + k, none⟩ = some (.slice s.a s.n s.cap) ∧ W.cell? ⟨b', off' + k, none⟩ = some (.slice s'.a s'.n s'.cap)) (go_keep) ((go_at_call 28; refine cT.mono ?_; rintro e w2 ⟨rfl, hb2⟩; have hb2 := undrewB hb2; have X2 := X.on hb2 X.lt; have Z2 := Z.on hb2 Z.lt; have x2 := X2.cell 1; have z2 := Z2.cell 1; have d0 := (hb2.cell (p := ⟨b, off + k, none⟩) (by show b < wr.heap.size; omega)).trans a0; have d1 := (hb2.cell (p := ⟨b', off' + k, none⟩) (by show b' < wr.heap.size; omega)).trans a1))
          go_wp2
          go_roundw
          case rel => exact ⟨k + 1, by omega, by go_num, HF.out, hb.trans (hb2.mono hsz), X2, Z2⟩
          case measure => simp [intOf]; omega
      · have HF : Hid (true = sameProg xs kss ys lss) := (sp_yes HP.out (by omega) fun j ha hb => hall j ha hb (by omega)).symm
        obtain rfl : k = m := by omega
        clear hall
        go_wp2
        go_ret
        exact ⟨ret_b HF.out, by rw [hg]; exact hb⟩
  · have HF : Hid (false = sameProg xs kss ys lss) := (sp_no2 (by omega)).symm
    have dn : ((m : Int) != m') = true := by simp; omega
    clear hmm
    go_wp2
    go_ret
    exact ⟨ret_b HF.out, bb1⟩
end Ops
end Go.Proofs.YtjopmakbnompnaaGreatDoor
/- In right code each block that begins has an end, at which as many are open as ahead of it. -/
set_option linter.unusedVariables false
namespace Go.Proofs.YtjopmakbnompnaaGreatDoor
namespace Ops

theorem closed_dsum (ys : List O4) : ∀ d : Int, 0 ≤ d → closedGo ys d = true → (∀ k, 0 ≤ d + dsum (ys.take k)) ∧ d + dsum ys = 0 := by
  induction ys with
  | nil => intro d hd h; exact ⟨fun k => by simp [dsum]; exact hd, by simpa [closedGo, dsum] using h⟩
  | cons o r ih =>
    intro d hd h
    have h' : (decide (0 ≤ d + delta o) && closedGo r (d + delta o)) = true := h
    rw [Bool.and_eq_true] at h'
    have h0 := of_decide_eq_true h'.1
    obtain ⟨a, b⟩ := ih _ h0 h'.2
    have e : ∀ l, dsum (o :: l) = delta o + dsum l := fun l => by simp [dsum]
    refine ⟨fun k => ?_, by rw [e]; omega⟩
    cases k with
    | zero => simp [dsum]; exact hd
    | succ k => rw [List.take_succ_cons, e]; have := a k; omega
theorem code_closed {xs : List O4} (h : codeOk xs = true) : closedGo xs 0 = true := by
  rw [codeOk_split] at h
  simp only [Bool.and_eq_true] at h
  exact h.2.2.1
theorem delta_end {o : O4} (h : delta o < 0) : o.k = 9 := by
  unfold delta at h
  by_cases h8 : o.k = 8
  · rw [if_pos h8] at h; omega
  · rw [if_neg h8] at h
    by_cases h9 : o.k = 9
    · exact h9
    · rw [if_neg h9] at h; omega
/-- the search comes to an end -/
theorem end_found {xs : List O4} {D : Int} (hD : 0 ≤ D) (hlen : dsum xs = 0) : ∀ (n k : Nat) (q : Int), k + n = xs.length → q = dsum (xs.take k) - D → 1 ≤ q →
    ∃ e : Nat, endGo (xs.drop k) q k = (e : Int) ∧ k ≤ e ∧ e < xs.length ∧ (∀ h : e < xs.length, xs[e].k = 9) ∧ dsum (xs.take e) = D + 1 ∧ dsum (xs.take (e + 1)) = D := by
  intro n
  induction n with
  | zero =>
    intro k q hk hq h1
    rw [List.take_of_length_le (by omega), hlen] at hq
    omega
  | succ n ih =>
    intro k q hk hq h1
    have hlt : k < xs.length := by omega
    have hs := dsum_take hlt
    have hr := delta_range xs[k]
    rw [endGo_step hlt]
    by_cases hz : q + delta xs[k] = 0
    · rw [if_pos hz]
      exact ⟨k, rfl, Nat.le_refl _, hlt, fun _ => delta_end (by omega), by omega, by omega⟩
    · rw [if_neg hz]
      obtain ⟨e, a1, a2, a3⟩ := ih (k + 1) (q + delta xs[k]) (by omega) (by omega) (by omega)
      exact ⟨e, a1, by omega, a3⟩
/-- what EndOf and DepthAt say of a right code -/
theorem shapes8 {xs : List O4} (h : codeOk xs = true) {i : Nat} (hi : i < xs.length) (h8 : xs[i].k = 8) :
    ∃ e : Nat, endOf xs i = (e : Int) ∧ i < e ∧ e < xs.length ∧ (∀ h : e < xs.length, xs[e].k = 9) ∧ depthAt xs ((e : Int) + 1) = depthAt xs i ∧ depthAt xs e = depthAt xs i + 1 := by
  obtain ⟨p, z⟩ := closed_dsum xs 0 (Int.le_refl _) (code_closed h)
  have hD := p i
  have hg : xs.getD i z4 = xs[i] := by simp [List.getD, hi]
  have he : endOf xs i = endGo (xs.drop i) 0 i := by
    unfold endOf
    rw [Int.toNat_natCast, if_pos ⟨by omega, by omega, by rw [hg]; exact h8⟩]
  have hs := dsum_take hi
  rw [delta8 h8] at hs
  have hd8 := delta8 h8
  rw [endGo_step hi, hd8, if_neg (by omega)] at he
  obtain ⟨e, a1, a2, a3, a4, a5, a6⟩ := end_found (xs := xs) (D := dsum (xs.take i)) (by omega) (by omega) (xs.length - (i + 1)) (i + 1) (0 + 1) (by omega) (by omega) (by omega)
  refine ⟨e, he.trans a1, by omega, a3, a4, ?_, ?_⟩
  · show dsum (xs.take ((e : Int) + 1).toNat) = dsum (xs.take (i : Int).toNat)
    rw [show ((e : Int) + 1).toNat = e + 1 by omega, Int.toNat_natCast]; exact a6
  · show dsum (xs.take (e : Int).toNat) = dsum (xs.take (i : Int).toNat) + 1
    rw [Int.toNat_natCast, Int.toNat_natCast]; exact a5
theorem shapes0 {xs : List O4} {i : Nat} (hi : i < xs.length) (h8 : ¬ xs[i].k = 8) : endOf xs i = -1 := by
  have hg : xs.getD i z4 = xs[i] := by simp [List.getD, hi]
  unfold endOf
  rw [if_neg]
  rintro ⟨-, -, h⟩
  rw [Int.toNat_natCast, hg] at h
  exact h8 h
theorem shapesEnd {xs : List O4} (h : codeOk xs = true) : depthAt xs xs.length = 0 := by
  obtain ⟨p, z⟩ := closed_dsum xs 0 (Int.le_refl _) (code_closed h)
  show dsum (xs.take (xs.length : Int).toNat) = 0
  rw [Int.toNat_natCast, List.take_of_length_le (Nat.le_refl _)]; omega
theorem sameGo_self (xs : List O4) : sameGo xs xs = true := by
  induction xs with
  | nil => rfl
  | cons x r ih =>
    show (same4 x x && sameGo r r) = true
    rw [ih]; simp [same4]
theorem sameProg_self (xs : List O4) : sameProg xs [] xs [] = true := by unfold sameProg; rw [sameGo_self]; rfl
end Ops
end Go.Proofs.YtjopmakbnompnaaGreatDoor
/- Integers in memory: what a slice of them reads as, and what the call owns of them; the laws' own copies, comparisons and marks. -/
namespace Go.Proofs.YtjopmakbnompnaaGreatDoor
open Go.RowKit

theorem Tryz.infoInt : (Tryz.prog.info? 3).map (fun i => (i.zero, i.size, i.bytes)) = some (some (.int .i64 0), 1, 8) := by kernel_rfl

namespace Ints
open Bas (grownBy_trans)

def iv (zs : List Int) : List Value := zs.map (.int .i64)
theorem iv_length (zs : List Int) : (iv zs).length = zs.length := by simp [iv]
theorem iv_get (zs : List Int) (j : Nat) (h : j < zs.length) : (iv zs)[j]? = some (.int .i64 zs[j]) := by simp [iv, h]
theorem iv_one (zs : List Int) : ∀ v ∈ iv zs, v.oneCell' = true := by
  intro v hv; obtain ⟨x, _, rfl⟩ := List.mem_map.1 hv; rfl
theorem iv_append (a b : List Int) : iv (a ++ b) = iv a ++ iv b := by simp [iv]
theorem iv_set (zs : List Int) (j : Nat) (x : Int) : iv (zs.set j x) = (iv zs).set j (.int .i64 x) := by simp [iv, List.map_set]

def Sees (B : Nat) (w : World) (v : Value) (zs : List Int) : Prop :=
  ∃ a cap, v = .slice a zs.length cap ∧ zs.length ≤ cap ∧ cap ≤ maxLen ∧ (zs ≠ [] → ∃ b off, a = some ⟨b, off, none⟩ ∧ b < B ∧ ∀ j (h : j < zs.length), w.cell? ⟨b, off + j, none⟩ = some (.int .i64 zs[j]))
theorem Sees.on {B B' : Nat} {w w' : World} {v : Value} {zs : List Int} (h : Sees B w v zs) (hb : Below B' w w') (hB : B ≤ B') : Sees B w' v zs := by
  obtain ⟨a, cap, rfl, h1, h2, h3⟩ := h
  refine ⟨a, cap, rfl, h1, h2, fun hne => ?_⟩
  obtain ⟨b, off, rfl, hlt, hc⟩ := h3 hne
  exact ⟨b, off, rfl, hlt, fun j hj => (hb.cell (p := ⟨b, _, none⟩) (by show b < B'; omega)).trans (hc j hj)⟩
theorem Sees.up {B B' : Nat} {w : World} {v : Value} {zs : List Int} (h : Sees B w v zs) (hB : B ≤ B') : Sees B' w v zs := by
  obtain ⟨a, cap, rfl, h1, h2, h3⟩ := h
  refine ⟨a, cap, rfl, h1, h2, fun hne => ?_⟩
  obtain ⟨b, off, rfl, hlt, hc⟩ := h3 hne
  exact ⟨b, off, rfl, by omega, hc⟩
theorem Sees.form {B : Nat} {w : World} {v : Value} {zs : List Int} (h : Sees B w v zs) : ∃ a cap, v = .slice a zs.length cap := by
  obtain ⟨a, cap, h, -⟩ := h; exact ⟨a, cap, h⟩

def Owns (B : Nat) (w : World) (v : Value) (zs : List Int) : Prop := w.ownsRow B 3 1 v zs.length (iv zs)
theorem Owns.sees {B : Nat} {w : World} {v : Value} {zs : List Int} (h : Owns B w v zs) : Sees w.heap.size w v zs := by
  obtain ⟨h1, h2⟩ := h
  rcases h2 with ⟨rfl, h0⟩ | ⟨g, cap, cur, rfl, hB, hg, hle, hm, hsz, htk⟩
  · exact ⟨none, 0, by rw [h0], by omega, by simp, fun hne => absurd (List.eq_nil_of_length_eq_zero h0) hne⟩
  · refine ⟨_, cap, rfl, hle, hm, fun _ => ⟨g, 0, rfl, (Array.getElem?_eq_some_iff.1 hg).1, fun j hj => ?_⟩⟩
    have : w.cell? ⟨g, j, none⟩ = (iv zs)[j]? := by
      rw [← htk, List.getElem?_take, if_pos (by omega)]
      simp [World.cell?, hg]
    rw [Nat.zero_add, this, iv_get zs j hj]
theorem Owns.form {B : Nat} {w : World} {v : Value} {zs : List Int} (h : Owns B w v zs) : ∃ a cap, v = .slice a zs.length cap := h.sees.form
theorem Owns.on {B : Nat} {w w' : World} {v : Value} {zs : List Int} (h : Owns B w v zs) {B' : Nat} (hb : Below B' w w') (hB : w.heap.size ≤ B') : Owns B w' v zs := Bas.owns_on h hb hB
theorem Owns.mono {B B' : Nat} {w : World} {v : Value} {zs : List Int} (h : Owns B w v zs) (hB : B' ≤ B) : Owns B' w v zs := by
  obtain ⟨h1, h2⟩ := h
  refine ⟨h1, ?_⟩
  rcases h2 with h2 | ⟨g, cap, cur, hv, hg, hh, r⟩
  · exact .inl h2
  · exact .inr ⟨g, cap, cur, hv, by omega, hh, r⟩
theorem Owns.keep {B : Nat} {w w' : World} {v : Value} {zs : List Int} (h : Owns B w v zs) (hk : ∀ k, v.ownBlock = some k → w'.heap[k]? = w.heap[k]?) : Owns B w' v zs := by
  obtain ⟨h1, h2⟩ := h
  refine ⟨h1, ?_⟩
  rcases h2 with h2 | ⟨g, cap, cur, rfl, hg, hh, r⟩
  · exact .inl h2
  · exact .inr ⟨g, cap, cur, rfl, hg, by rw [hk g rfl]; exact hh, r⟩
theorem Owns.at {B : Nat} {w : World} {v : Value} {zs : List Int} (h : Owns B w v zs) : ∀ k, v.ownBlock = some k → B ≤ k ∧ k < w.heap.size := by
  intro k hk
  obtain ⟨h1, h2⟩ := h
  rcases h2 with ⟨rfl, h0⟩ | ⟨g, cap, cur, rfl, hg, hh, r⟩
  · cases hk
  · cases hk; exact ⟨hg, (Array.getElem?_eq_some_iff.1 hh).1⟩
theorem Owns.grown {B : Nat} {w w' : World} {v : Value} {zs : List Int} (h : Owns B w v zs) {row : Option Nat} (hg : w.grownBy w' row) (hr : ∀ k, v.ownBlock = some k → some k ≠ row) : Owns B w' v zs :=
  h.keep fun k hk => hg.block k (h.at k hk).2 (hr k hk)
theorem Sees.grown {B : Nat} {W W' : World} {v : Value} {zs : List Int} (h : Sees B W v zs) {row : Option Nat} (hg : W.grownBy W' row) (hB : B ≤ W.heap.size) (hr : ∀ k, row = some k → B ≤ k) : Sees B W' v zs :=
  h.on (B' := B) ((Below.refl B W).grown hg hB hr) (Nat.le_refl _)

theorem makeI (n : Nat) (h : n ≤ 1048576) (w : World) (B : Nat) (hB : B ≤ w.heap.size) : ∃ w1, Below B w w1 ∧ w.heap.size < w1.heap.size ∧
    (Instr.makeSlice 74 (.int .i64 (n : Int)) (.int .i64 (n : Int))).run Tryz.prog w = .ok (.slice (some ⟨w.heap.size, 0, none⟩) n n) w1 ∧
    w1.ownsRow w.heap.size 3 1 (.slice (some ⟨w.heap.size, 0, none⟩) n n) n (iv (List.replicate n 0)) := by
  obtain ⟨i, hi, hz, hs, hb⟩ := info_parts Tryz.infoInt
  obtain ⟨w1, h1, h2, h3⟩ := run_make_full (P := Tryz.prog) w w.heap.size 74 3 i _ 1 Tryz.underlying74 hi hz hs .i64 .i64 n (by rw [hb]; omega) (by unfold maxLen; omega) (Nat.le_refl _)
  refine ⟨w1, (Below.refl _ _).grown h3 hB (fun k hk => by cases hk), ?_, h1, ?_⟩
  · obtain ⟨-, h4⟩ := h2
    rcases h4 with ⟨h4, -⟩ | ⟨g, cap, cur, h4, -, hg, -⟩
    · cases h4
    · cases h4; exact (Array.getElem?_eq_some_iff.1 hg).1
  · have e : (madeCells (Value.int .i64 0).cells (n * 1)).toList = iv (List.replicate n 0) := by
      rw [show (Value.int .i64 0).cells = #[.int .i64 0] from rfl, Nat.mul_one, toList_madeCells_one]; simp [iv]
    rw [← e]; exact h2

/-- numbers put so far, noughts behind -/
def pad (zs : List Int) (k : Nat) : List Int := zs.take k ++ List.replicate (zs.length - k) 0
theorem pad_zero (zs : List Int) : pad zs 0 = List.replicate zs.length 0 := by simp [pad]
theorem pad_full (zs : List Int) : pad zs zs.length = zs := by simp [pad]
theorem pad_length (zs : List Int) (k : Nat) (h : k ≤ zs.length) : (pad zs k).length = zs.length := by simp [pad]; omega
theorem pad_set (zs : List Int) (k : Nat) (h : k < zs.length) : (pad zs k).set k zs[k] = pad zs (k + 1) := by
  unfold pad
  have e : List.replicate (zs.length - k) (0 : Int) = 0 :: List.replicate (zs.length - (k + 1)) 0 := by
    rw [show zs.length - k = (zs.length - (k + 1)) + 1 by omega, List.replicate_succ]
  have hl : (zs.take k).length = k := by simp; omega
  rw [e, List.set_append_right _ _ (by omega), hl, Nat.sub_self, List.set_cons_zero, List.take_succ_eq_append_getElem h, List.append_assoc]
  rfl
theorem owns_set {B g n cap : Nat} {w : World} {zs : List Int} (h : w.ownsRow B 3 1 (.slice (some ⟨g, 0, none⟩) n cap) n (iv zs)) (j : Nat) (x : Int) :
    (w.setCell ⟨g, j, none⟩ (.int .i64 x)).ownsRow B 3 1 (.slice (some ⟨g, 0, none⟩) n cap) n (iv (zs.set j x)) := by
  rw [iv_set]; exact (h.stored _ _).1
theorem owns_at {B g n cap : Nat} {w : World} {zs : List Int} (h : w.ownsRow B 3 1 (.slice (some ⟨g, 0, none⟩) n cap) n (iv zs)) (j : Nat) (hj : j < zs.length) : w.cell? ⟨g, j, none⟩ = some (.int .i64 zs[j]) := by
  have hl : zs.length = n := by have := h.1; rw [iv_length] at this; omega
  rw [h.cellAt _ (by omega), iv_get zs j hj]

/-- marks so far, the old numbers behind -/
def mark (i : Nat) : Int := 1 + (i : Int)
def marked (zs : List Int) (k : Nat) : List Int := (List.range k).map mark ++ zs.drop k
def marks (n : Nat) : List Int := (List.range n).map mark
theorem marked_zero (zs : List Int) : marked zs 0 = zs := by simp [marked]
theorem marked_full (zs : List Int) : marked zs zs.length = marks zs.length := by simp [marked, marks]
theorem marked_length (zs : List Int) (k : Nat) (h : k ≤ zs.length) : (marked zs k).length = zs.length := by simp [marked]; omega
theorem marked_set (zs : List Int) (k : Nat) (h : k < zs.length) : (marked zs k).set k (mark k) = marked zs (k + 1) := by
  unfold marked
  have hl : ((List.range k).map mark).length = k := by simp
  rw [List.drop_eq_getElem_cons h, List.set_append_right _ _ (by omega), hl, Nat.sub_self, List.set_cons_zero, List.range_succ, List.map_append, List.append_assoc]
  rfl
theorem marks_get (n k : Nat) (h : k < (marks n).length) : (marks n)[k] = mark k := by simp [marks]
theorem marks_length (n : Nat) : (marks n).length = n := by simp [marks]

/- what the frames tell of a slice of ints -/
section
open Go.ChangeShapes Go.WideShapes Go.Deep
variable {H : Type} {enc : TypeId × Value → H} {W : World}
set_option maxRecDepth 100000 in
theorem openInts {r : Reach} {b0 : Nat} {v : Value} {d : DataW H} {p : List MemPlace} (hv : Value.okWide Tryz.prog W r b0 74 v) (h : DataW.Trod enc Tryz.prog W 0 (fun _ => true) true 74 v d p) :
    ∃ zs, Sees W.heap.size W v zs := by
  obtain ⟨a, len, cap, rfl⟩ := okWide_slice Tryz.underlying74 hv
  obtain ⟨fuel, hf⟩ := h
  rcases open_ints Tryz.underlying74 Tryz.underlying3 (by kernel_rfl) hf with ⟨hcs, _⟩ | ⟨x, l, c, zs, hcs, _, hl, hm, hz, _, hcell, hwz⟩
  · simp [Value.cells] at hcs
    obtain ⟨rfl, rfl, rfl⟩ := hcs
    exact ⟨[], none, 0, rfl, Nat.zero_le _, by simp, fun h => absurd rfl h⟩
  · simp [Value.cells] at hcs
    obtain ⟨rfl, rfl, rfl⟩ := hcs
    have hz' : zs.length = cap := by simpa using hz
    have hln : (zs.take len).length = len := by simp; omega
    refine ⟨zs.take len, some x, cap, by rw [hln], by rw [hln]; exact hl, hm, fun hne => ?_⟩
    have hpos : 0 < len := by
      rcases Nat.eq_zero_or_pos len with h0 | h0
      · subst h0; simp at hne
      · exact h0
    obtain ⟨b, off, spot⟩ := x
    have h0 := hcell 0 (by omega)
    have hspot : spot = none := by simpa [Addr.add] using World.cell?_spot h0
    subst hspot
    have hb : b < W.heap.size := by
      have := World.block_lt_of_cell? _ _ h0
      simpa [Addr.add] using this
    refine ⟨b, off, rfl, hb, fun j hj => ?_⟩
    have ha : ∀ i, (⟨b, off, none⟩ : Addr).add i = ⟨b, off + i, none⟩ := fun i => by unfold Addr.add; split <;> simp_all
    have hj' : j < zs.length := by omega
    have hc := hcell j hj'
    rw [ha] at hc
    have hg : zs.getD j 0 = zs[j] := by simp [List.getD, hj']
    rw [hc, hg, List.getElem_take]
end
end Ints
end Go.Proofs.YtjopmakbnompnaaGreatDoor
/- The laws' own sameInts, of such as are equal; whether a code is great. -/
namespace Go.Proofs.YtjopmakbnompnaaGreatDoor
open Go.RowKit
namespace Ints
theorem bigC (a : Option Addr) (len cap : Nat) (w : World) : Calls Tryz.prog 5 #[.slice a len cap] w fun e w' => e = .returned (.bool (decide ((1048576 : Int) < (len : Int)))) ∧ w = w' := by
  go_enter Tryz.func5, Tryz.ntmps5
  go_wp2
  go_ret
  exact ⟨rfl, rfl⟩
end Ints
end Go.Proofs.YtjopmakbnompnaaGreatDoor
/- What the frames tell of a slice of integers that came in, and what a code of bytes is by it. -/
namespace Go.Proofs.YtjopmakbnompnaaGreatDoor
open Go.RowKit
namespace Args
/-- a slice of integers that came in: nil, or a row of 'cap' cells that hold the numbers -/
def IsRow (k : IntKind) (w : World) (a : Option Addr) (len cap : Nat) (zs : List Int) : Prop :=
  (a = none ∧ len = 0 ∧ cap = 0 ∧ zs = []) ∨
  ∃ x, a = some x ∧ len ≤ cap ∧ cap ≤ maxLen ∧ zs.length = cap ∧ (∀ i, i < zs.length → w.cell? (x.add i) = some (.int k (zs.getD i 0))) ∧ ∀ n ∈ zs, (Lit.int k n).wf = true

theorem code {w : World} {a : Option Addr} {len cap : Nat} {zs : List Int} (h : IsRow .u8 w a len cap zs) : ∃ l : List UInt8, l.length = len ∧ Draw.Code w.heap.size w (.slice a len cap) l := by
  rcases h with ⟨rfl, rfl, rfl, rfl⟩ | ⟨x, rfl, hl, hm, hz, hcell, hwf⟩
  · exact ⟨[], rfl, none, 0, rfl, Nat.zero_le _, fun h => absurd rfl h⟩
  · refine ⟨(zs.take len).map fun n => UInt8.ofNat n.toNat, by simp; omega, some x, cap, by simp; omega, by simp; omega, fun hne => ?_⟩
    have hpos : 0 < len := by
      rcases Nat.eq_zero_or_pos len with h0 | h0
      · subst h0; simp at hne
      · exact h0
    obtain ⟨b, off, spot⟩ := x
    have h0 := hcell 0 (by omega)
    have hspot : spot = none := by simpa [Addr.add] using World.cell?_spot h0
    subst hspot
    have hb : b < w.heap.size := by
      rcases Nat.lt_or_ge b w.heap.size with h1 | h1
      · exact h1
      · exfalso
        simp [Addr.add, World.cell?, Array.getElem?_eq_none h1] at h0
    refine ⟨b, off, rfl, hb, fun j hj => ?_⟩
    have hj2 : j < min len zs.length := by simpa using hj
    have hj' : j < len := by omega
    have hc := hcell j (by omega)
    have ha : (⟨b, off, none⟩ : Addr).add j = ⟨b, off + j, none⟩ := by unfold Addr.add; split <;> simp_all
    rw [ha] at hc
    have hjz : j < zs.length := by omega
    have hg : zs.getD j 0 = zs[j] := by simp [List.getD, hjz]
    rw [hg] at hc
    have hw := hwf zs[j] (List.getElem_mem hjz)
    have hbd := bounds_u8 hw
    rw [hc]
    congr 2
    simp
    omega
end Args
end Go.Proofs.YtjopmakbnompnaaGreatDoor
