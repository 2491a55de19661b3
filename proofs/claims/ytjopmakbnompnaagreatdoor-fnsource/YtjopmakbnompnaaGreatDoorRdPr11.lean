/- Several texts of one proof, in build order: ProgImpl, ImplProg, ImplReadProg, SourceLawZ, WordsLaid. -/
import Derived.Deep.LoopGhost
import Derived.Lib.LaidTab
import Derived.Test.YtjopmakbnompnaaGreatDoorRdPr4
import Derived.Test.YtjopmakbnompnaaGreatDoorRdPr5
import Derived.Test.YtjopmakbnompnaaGreatDoorRdPr6
import Derived.Test.YtjopmakbnompnaaGreatDoorRdPr7
import Derived.Test.YtjopmakbnompnaaGreatDoorRdPr8
import Derived.Test.YtjopmakbnompnaaGreatDoorRdPr10
/- What the program's ProgOk answers. -/
set_option linter.unusedVariables false
set_option linter.unusedSimpArgs false
namespace Go.Proofs.YtjopmakbnompnaaGreatDoor
open Go.RowKit
namespace Ops
open Bas Flat

theorem prog_no1I {xs : List O4} {kss : List (List O4)} (h : codeOk xs = false) : progOk xs kss = false := by unfold progOk; rw [h]; rfl
theorem prog_no2I {xs : List O4} {kss : List (List O4)} (h : ¬ kss.length ≤ 3) : progOk xs kss = false := by unfold progOk; rw [decide_eq_false h]; simp
theorem prog_no3I {xs : List O4} {kss : List (List O4)} (h : ¬ hasFork xs = decide (0 < kss.length)) : progOk xs kss = false := by unfold progOk; rw [beq_eq_false_iff_ne.2 h]; simp
theorem prog_allI {xs : List O4} {kss : List (List O4)} (h1 : codeOk xs = true) (h2 : kss.length ≤ 3) (h3 : hasFork xs = decide (0 < kss.length)) : progOk xs kss = kss.all kidOk := by unfold progOk; rw [h1, decide_eq_true h2, h3]; simp

set_option maxRecDepth 100000 in
set_option maxHeartbeats 3200000 in
theorem progImpl (vc vk : Value) (xs : List O4) (kss : List (List O4)) (B : Nat) (w : World) (hv : SeesP B w vc vk xs kss) (hB : B ≤ w.heap.size) (hf : Fits xs kss) :
    Calls Tryz.prog 21 #[.agg #[vc, vk]] w fun e w' => e = .returned (.bool (progOk xs kss)) ∧ Below w.heap.size w w' := by
  obtain ⟨a, cap, rfl⟩ := hv.c.form
  obtain ⟨ak, capk, rfl⟩ := hv.k.form
  obtain ⟨n, hn⟩ : ∃ n, xs.length = n := ⟨_, rfl⟩
  obtain ⟨m, hm⟩ : ∃ m, kss.length = m := ⟨_, rfl⟩
  obtain ⟨hf1, hf2, hf3⟩ := hf
  rw [hn, hm] at hv ⊢
  rw [hm] at hf2
  have HA3 := (show Hid _ from hf3)
  clear hf3
  have b0 := alloc_below w (.cells #[.slice a n cap, .slice ak m capk] 27)
  have X0 := Blk.new w #[.slice a n cap, .slice ak m capk] 27
  obtain ⟨W0, hW0⟩ : ∃ W0, w.alloc (.cells #[.slice a n cap, .slice ak m capk] 27) = W0 := ⟨_, rfl⟩
  rw [hW0] at b0 X0
  have hs := X0.lt
  have hv0 := hv.on b0 hB
  have c0 := codeImpl _ xs B W0.drew hv0.c.drew (by show B ≤ W0.heap.size; omega) hf1
  obtain ⟨p, hp⟩ : ∃ p, codeOk xs = p := ⟨_, rfl⟩
  rw [hp] at c0
  have HP : Hid (codeOk xs = p) := hp
  clear hp
  have x0 := X0.cell 0; have x1 := X0.cell 1
  have f1 : (0 : Int) ≤ m := by omega
  cases p
  · have HF : Hid (false = progOk xs kss) := (prog_no1I HP.out).symm
    go_enter Tryz.func21, Tryz.ntmps21
    go_wp2_with fail
    clear hW0
    refine wp_region_held_drew (S := fun W => W.cell? ⟨w.heap.size, 0, none⟩ = some (.slice a n cap) ∧ W.cell? ⟨w.heap.size, 1, none⟩ = some (.slice ak m capk)) (by kernel_rfl) ⟨x0, x1⟩ (fun hHeld => ?_)
    refine takeH (i := 0) (some 5) (.pointer (some ⟨w.heap.size, 0, none⟩)) rfl rfl (by kernel_rfl) (by kernel_rfl) (by kernel_rfl) (fun _ _ _ h => h) (Or.inl ⟨by rfl, fun w hSw => by (try dsimp only at hSw); go_simp⟩) (by assumption) ?_
    simp only [Act.put, List.setIfInBounds_toArray, List.set_cons_zero, List.set_cons_succ]
    refine takeH (i := 1) (some 6) (.slice a n cap) rfl rfl (by kernel_rfl) (by kernel_rfl) (by kernel_rfl) (fun _ _ _ h => h) (Or.inl ⟨by rfl, fun w hSw => by (try dsimp only at hSw); go_simp⟩) (by assumption) ?_
    simp only [Act.put, List.setIfInBounds_toArray, List.set_cons_zero, List.set_cons_succ]
    refine wpAnyH_ready (rs := [2]) (by kernel_rfl) (by simp) ?_
    refine AllReadyH.cons rfl (fun K hK => ?_) AllReadyH.nil
    go_simp
    refine c0.mono ?_
    rintro e w1 ⟨rfl, b1⟩
    have b1 := undrewB b1
    have X1 := X0.on b1 hs
    have bb1 := b0.trans (b1.mono b0.size)
    go_simp
    refine hK.out _ _ ⟨X1.cell 0, X1.cell 1⟩ (fun hHeld1 => ?_)
    clear hK K c0 hHeld x0 x1
    refine takeH (i := 3) (some 8) (.bool true) rfl rfl (by kernel_rfl) (by kernel_rfl) (by kernel_rfl) (fun _ _ _ h => h) (Or.inl ⟨by rfl, fun w hSw => by (try dsimp only at hSw); go_simp⟩) (by assumption) ?_
    simp only [Act.put, List.setIfInBounds_toArray, List.set_cons_zero, List.set_cons_succ]
    refine takeH (i := 4) (some 9) (.bool true) rfl rfl (by kernel_rfl) (by kernel_rfl) (by kernel_rfl) (fun _ _ _ h => h) (Or.inl ⟨by rfl, fun w hSw => by (try dsimp only at hSw); go_simp⟩) (by assumption) ?_
    simp only [Act.put, List.setIfInBounds_toArray, List.set_cons_zero, List.set_cons_succ]
    refine takeH (i := 5) (some 10) undef rfl rfl (by kernel_rfl) (by kernel_rfl) (by kernel_rfl) (fun _ _ _ h => h) (Or.inr ⟨by rfl, rfl⟩) (by assumption) ?_
    simp only [Act.put, List.setIfInBounds_toArray, List.set_cons_zero, List.set_cons_succ]
    refine takeH (i := 6) (some 11) undef rfl rfl (by kernel_rfl) (by kernel_rfl) (by kernel_rfl) (fun _ _ _ h => h) (Or.inr ⟨by rfl, rfl⟩) (by assumption) ?_
    simp only [Act.put, List.setIfInBounds_toArray, List.set_cons_zero, List.set_cons_succ]
    refine takeH (i := 7) (some 12) undef rfl rfl (by kernel_rfl) (by kernel_rfl) (by kernel_rfl) (fun _ _ _ h => h) (Or.inr ⟨by rfl, rfl⟩) (by assumption) ?_
    simp only [Act.put, List.setIfInBounds_toArray, List.set_cons_zero, List.set_cons_succ]
    refine takeH (i := 8) (some 13) undef rfl rfl (by kernel_rfl) (by kernel_rfl) (by kernel_rfl) (fun _ _ _ h => h) (Or.inr ⟨by rfl, rfl⟩) (by assumption) ?_
    simp only [Act.put, List.setIfInBounds_toArray, List.set_cons_zero, List.set_cons_succ]
    refine takeH (i := 9) (some 14) (.bool true) rfl rfl (by kernel_rfl) (by kernel_rfl) (by kernel_rfl) (fun _ _ _ h => h) (Or.inl ⟨by rfl, fun w hSw => by (try dsimp only at hSw); go_simp⟩) (by assumption) ?_
    simp only [Act.put, List.setIfInBounds_toArray, List.set_cons_zero, List.set_cons_succ]
    refine takeH (i := 10) (some 15) (.bool true) rfl rfl (by kernel_rfl) (by kernel_rfl) (by kernel_rfl) (fun _ _ _ h => h) (Or.inl ⟨by rfl, fun w hSw => by (try dsimp only at hSw); go_simp⟩) (by assumption) ?_
    simp only [Act.put, List.setIfInBounds_toArray, List.set_cons_zero, List.set_cons_succ]
    refine takeH (i := 11) (some 16) undef rfl rfl (by kernel_rfl) (by kernel_rfl) (by kernel_rfl) (fun _ _ _ h => h) (Or.inr ⟨by rfl, rfl⟩) (by assumption) ?_
    simp only [Act.put, List.setIfInBounds_toArray, List.set_cons_zero, List.set_cons_succ]
    refine takeH (i := 12) (some 17) undef rfl rfl (by kernel_rfl) (by kernel_rfl) (by kernel_rfl) (fun _ _ _ h => h) (Or.inr ⟨by rfl, rfl⟩) (by assumption) ?_
    simp only [Act.put, List.setIfInBounds_toArray, List.set_cons_zero, List.set_cons_succ]
    refine takeH (i := 13) (some 18) undef rfl rfl (by kernel_rfl) (by kernel_rfl) (by kernel_rfl) (fun _ _ _ h => h) (Or.inr ⟨by rfl, rfl⟩) (by assumption) ?_
    simp only [Act.put, List.setIfInBounds_toArray, List.set_cons_zero, List.set_cons_succ]
    refine takeH (i := 14) (some 19) undef rfl rfl (by kernel_rfl) (by kernel_rfl) (by kernel_rfl) (fun _ _ _ h => h) (Or.inr ⟨by rfl, rfl⟩) (by assumption) ?_
    simp only [Act.put, List.setIfInBounds_toArray, List.set_cons_zero, List.set_cons_succ]
    refine takeH (i := 15) (some 20) undef rfl rfl (by kernel_rfl) (by kernel_rfl) (by kernel_rfl) (fun _ _ _ h => h) (Or.inr ⟨by rfl, rfl⟩) (by assumption) ?_
    simp only [Act.put, List.setIfInBounds_toArray, List.set_cons_zero, List.set_cons_succ]
    refine takeH (i := 16) (some 21) undef rfl rfl (by kernel_rfl) (by kernel_rfl) (by kernel_rfl) (fun _ _ _ h => h) (Or.inr ⟨by rfl, rfl⟩) (by assumption) ?_
    simp only [Act.put, List.setIfInBounds_toArray, List.set_cons_zero, List.set_cons_succ]
    refine takeH (i := 17) (some 22) undef rfl rfl (by kernel_rfl) (by kernel_rfl) (by kernel_rfl) (fun _ _ _ h => h) (Or.inr ⟨by rfl, rfl⟩) (by assumption) ?_
    simp only [Act.put, List.setIfInBounds_toArray, List.set_cons_zero, List.set_cons_succ]
    refine takeH (i := 18) (some 23) undef rfl rfl (by kernel_rfl) (by kernel_rfl) (by kernel_rfl) (fun _ _ _ h => h) (Or.inr ⟨by rfl, rfl⟩) (by assumption) ?_
    simp only [Act.put, List.setIfInBounds_toArray, List.set_cons_zero, List.set_cons_succ]
    refine takeH (i := 19) (some 24) (.bool true) rfl rfl (by kernel_rfl) (by kernel_rfl) (by kernel_rfl) (fun _ _ _ h => h) (Or.inl ⟨by rfl, fun w hSw => by (try dsimp only at hSw); go_simp⟩) (by assumption) ?_
    simp only [Act.put, List.setIfInBounds_toArray, List.set_cons_zero, List.set_cons_succ]
    refine wpAnyH_done (by kernel_rfl) ?_ _
    go_wp2
    go_ret
    exact ⟨retB HF.out, bb1⟩
  · by_cases h3 : 3 < m
    · have HF : Hid (false = progOk xs kss) := (prog_no2I (by omega)).symm
      have d3 : decide ((3 : Int) < m) = true := decide_eq_true (by omega)
      go_enter Tryz.func21, Tryz.ntmps21
      go_wp2_with fail
      clear hW0
      refine wp_region_held_drew (S := fun W => W.cell? ⟨w.heap.size, 0, none⟩ = some (.slice a n cap) ∧ W.cell? ⟨w.heap.size, 1, none⟩ = some (.slice ak m capk)) (by kernel_rfl) ⟨x0, x1⟩ (fun hHeld => ?_)
      refine takeH (i := 0) (some 5) (.pointer (some ⟨w.heap.size, 0, none⟩)) rfl rfl (by kernel_rfl) (by kernel_rfl) (by kernel_rfl) (fun _ _ _ h => h) (Or.inl ⟨by rfl, fun w hSw => by (try dsimp only at hSw); go_simp⟩) (by assumption) ?_
      simp only [Act.put, List.setIfInBounds_toArray, List.set_cons_zero, List.set_cons_succ]
      refine takeH (i := 1) (some 6) (.slice a n cap) rfl rfl (by kernel_rfl) (by kernel_rfl) (by kernel_rfl) (fun _ _ _ h => h) (Or.inl ⟨by rfl, fun w hSw => by (try dsimp only at hSw); go_simp⟩) (by assumption) ?_
      simp only [Act.put, List.setIfInBounds_toArray, List.set_cons_zero, List.set_cons_succ]
      refine wpAnyH_ready (rs := [2]) (by kernel_rfl) (by simp) ?_
      refine AllReadyH.cons rfl (fun K hK => ?_) AllReadyH.nil
      go_simp
      refine c0.mono ?_
      rintro e w1 ⟨rfl, b1⟩
      have b1 := undrewB b1
      have X1 := X0.on b1 hs
      have bb1 := b0.trans (b1.mono b0.size)
      go_simp
      refine hK.out _ _ ⟨X1.cell 0, X1.cell 1⟩ (fun hHeld1 => ?_)
      clear hK K c0 hHeld x0 x1
      refine takeH (i := 3) (some 8) (.bool false) rfl rfl (by kernel_rfl) (by kernel_rfl) (by kernel_rfl) (fun _ _ _ h => h) (Or.inl ⟨by rfl, fun w hSw => by (try dsimp only at hSw); go_simp⟩) (by assumption) ?_
      simp only [Act.put, List.setIfInBounds_toArray, List.set_cons_zero, List.set_cons_succ]
      refine takeH (i := 4) (some 9) (.bool false) rfl rfl (by kernel_rfl) (by kernel_rfl) (by kernel_rfl) (fun _ _ _ h => h) (Or.inl ⟨by rfl, fun w hSw => by (try dsimp only at hSw); go_simp⟩) (by assumption) ?_
      simp only [Act.put, List.setIfInBounds_toArray, List.set_cons_zero, List.set_cons_succ]
      refine takeH (i := 5) (some 10) (.pointer (some ⟨w.heap.size, 1, none⟩)) rfl rfl (by kernel_rfl) (by kernel_rfl) (by kernel_rfl) (fun _ _ _ h => h) (Or.inl ⟨by rfl, fun w hSw => by (try dsimp only at hSw); go_simp⟩) (by assumption) ?_
      simp only [Act.put, List.setIfInBounds_toArray, List.set_cons_zero, List.set_cons_succ]
      refine takeH (i := 6) (some 11) (.slice ak m capk) rfl rfl (by kernel_rfl) (by kernel_rfl) (by kernel_rfl) (fun _ _ _ h => h) (Or.inl ⟨by rfl, fun w hSw => by (try dsimp only at hSw); go_simp⟩) (by assumption) ?_
      simp only [Act.put, List.setIfInBounds_toArray, List.set_cons_zero, List.set_cons_succ]
      refine takeH (i := 7) (some 12) (.int .i64 m) rfl rfl (by kernel_rfl) (by kernel_rfl) (by kernel_rfl) (fun _ _ _ h => h) (Or.inl ⟨by rfl, fun w hSw => by (try dsimp only at hSw); go_simp⟩) (by assumption) ?_
      simp only [Act.put, List.setIfInBounds_toArray, List.set_cons_zero, List.set_cons_succ]
      refine takeH (i := 8) (some 13) (.bool true) rfl rfl (by kernel_rfl) (by kernel_rfl) (by kernel_rfl) (fun _ _ _ h => h) (Or.inl ⟨by rfl, fun w hSw => by (try dsimp only at hSw); go_simp⟩) (by assumption) ?_
      simp only [Act.put, List.setIfInBounds_toArray, List.set_cons_zero, List.set_cons_succ]
      refine takeH (i := 9) (some 14) (.bool true) rfl rfl (by kernel_rfl) (by kernel_rfl) (by kernel_rfl) (fun _ _ _ h => h) (Or.inl ⟨by rfl, fun w hSw => by (try dsimp only at hSw); go_simp⟩) (by assumption) ?_
      simp only [Act.put, List.setIfInBounds_toArray, List.set_cons_zero, List.set_cons_succ]
      refine takeH (i := 10) (some 15) (.bool true) rfl rfl (by kernel_rfl) (by kernel_rfl) (by kernel_rfl) (fun _ _ _ h => h) (Or.inl ⟨by rfl, fun w hSw => by (try dsimp only at hSw); go_simp⟩) (by assumption) ?_
      simp only [Act.put, List.setIfInBounds_toArray, List.set_cons_zero, List.set_cons_succ]
      refine takeH (i := 11) (some 16) undef rfl rfl (by kernel_rfl) (by kernel_rfl) (by kernel_rfl) (fun _ _ _ h => h) (Or.inr ⟨by rfl, rfl⟩) (by assumption) ?_
      simp only [Act.put, List.setIfInBounds_toArray, List.set_cons_zero, List.set_cons_succ]
      refine takeH (i := 12) (some 17) undef rfl rfl (by kernel_rfl) (by kernel_rfl) (by kernel_rfl) (fun _ _ _ h => h) (Or.inr ⟨by rfl, rfl⟩) (by assumption) ?_
      simp only [Act.put, List.setIfInBounds_toArray, List.set_cons_zero, List.set_cons_succ]
      refine takeH (i := 13) (some 18) undef rfl rfl (by kernel_rfl) (by kernel_rfl) (by kernel_rfl) (fun _ _ _ h => h) (Or.inr ⟨by rfl, rfl⟩) (by assumption) ?_
      simp only [Act.put, List.setIfInBounds_toArray, List.set_cons_zero, List.set_cons_succ]
      refine takeH (i := 14) (some 19) undef rfl rfl (by kernel_rfl) (by kernel_rfl) (by kernel_rfl) (fun _ _ _ h => h) (Or.inr ⟨by rfl, rfl⟩) (by assumption) ?_
      simp only [Act.put, List.setIfInBounds_toArray, List.set_cons_zero, List.set_cons_succ]
      refine takeH (i := 15) (some 20) undef rfl rfl (by kernel_rfl) (by kernel_rfl) (by kernel_rfl) (fun _ _ _ h => h) (Or.inr ⟨by rfl, rfl⟩) (by assumption) ?_
      simp only [Act.put, List.setIfInBounds_toArray, List.set_cons_zero, List.set_cons_succ]
      refine takeH (i := 16) (some 21) undef rfl rfl (by kernel_rfl) (by kernel_rfl) (by kernel_rfl) (fun _ _ _ h => h) (Or.inr ⟨by rfl, rfl⟩) (by assumption) ?_
      simp only [Act.put, List.setIfInBounds_toArray, List.set_cons_zero, List.set_cons_succ]
      refine takeH (i := 17) (some 22) undef rfl rfl (by kernel_rfl) (by kernel_rfl) (by kernel_rfl) (fun _ _ _ h => h) (Or.inr ⟨by rfl, rfl⟩) (by assumption) ?_
      simp only [Act.put, List.setIfInBounds_toArray, List.set_cons_zero, List.set_cons_succ]
      refine takeH (i := 18) (some 23) undef rfl rfl (by kernel_rfl) (by kernel_rfl) (by kernel_rfl) (fun _ _ _ h => h) (Or.inr ⟨by rfl, rfl⟩) (by assumption) ?_
      simp only [Act.put, List.setIfInBounds_toArray, List.set_cons_zero, List.set_cons_succ]
      refine takeH (i := 19) (some 24) (.bool true) rfl rfl (by kernel_rfl) (by kernel_rfl) (by kernel_rfl) (fun _ _ _ h => h) (Or.inl ⟨by rfl, fun w hSw => by (try dsimp only at hSw); go_simp⟩) (by assumption) ?_
      simp only [Act.put, List.setIfInBounds_toArray, List.set_cons_zero, List.set_cons_succ]
      refine wpAnyH_done (by kernel_rfl) ?_ _
      go_wp2
      go_ret
      exact ⟨retB HF.out, bb1⟩
    · have d3 : decide ((3 : Int) < m) = false := decide_eq_false (by omega)
      obtain ⟨t, ht'⟩ : ∃ t, decide (0 < m) = t := ⟨_, rfl⟩
      have ht : decide ((0 : Int) < m) = t := by rw [← ht']; simp
      go_enter Tryz.func21, Tryz.ntmps21
      go_wp2_with fail
      clear hW0
      refine wp_region_held_drew (S := fun W => W.cell? ⟨w.heap.size, 0, none⟩ = some (.slice a n cap) ∧ W.cell? ⟨w.heap.size, 1, none⟩ = some (.slice ak m capk)) (by kernel_rfl) ⟨x0, x1⟩ (fun hHeld => ?_)
      refine takeH (i := 0) (some 5) (.pointer (some ⟨w.heap.size, 0, none⟩)) rfl rfl (by kernel_rfl) (by kernel_rfl) (by kernel_rfl) (fun _ _ _ h => h) (Or.inl ⟨by rfl, fun w hSw => by (try dsimp only at hSw); go_simp⟩) (by assumption) ?_
      simp only [Act.put, List.setIfInBounds_toArray, List.set_cons_zero, List.set_cons_succ]
      refine takeH (i := 1) (some 6) (.slice a n cap) rfl rfl (by kernel_rfl) (by kernel_rfl) (by kernel_rfl) (fun _ _ _ h => h) (Or.inl ⟨by rfl, fun w hSw => by (try dsimp only at hSw); go_simp⟩) (by assumption) ?_
      simp only [Act.put, List.setIfInBounds_toArray, List.set_cons_zero, List.set_cons_succ]
      refine wpAnyH_ready (rs := [2]) (by kernel_rfl) (by simp) ?_
      refine AllReadyH.cons rfl (fun K hK => ?_) AllReadyH.nil
      go_simp
      refine c0.mono ?_
      rintro e w1 ⟨rfl, b1⟩
      have b1 := undrewB b1
      have X1 := X0.on b1 hs
      have bb1 := b0.trans (b1.mono b0.size)
      go_simp
      refine hK.out _ _ ⟨X1.cell 0, X1.cell 1⟩ (fun hHeld1 => ?_)
      clear hK K c0 hHeld x0 x1
      refine takeH (i := 3) (some 8) (.bool false) rfl rfl (by kernel_rfl) (by kernel_rfl) (by kernel_rfl) (fun _ _ _ h => h) (Or.inl ⟨by rfl, fun w hSw => by (try dsimp only at hSw); go_simp⟩) (by assumption) ?_
      simp only [Act.put, List.setIfInBounds_toArray, List.set_cons_zero, List.set_cons_succ]
      refine takeH (i := 4) (some 9) (.bool false) rfl rfl (by kernel_rfl) (by kernel_rfl) (by kernel_rfl) (fun _ _ _ h => h) (Or.inl ⟨by rfl, fun w hSw => by (try dsimp only at hSw); go_simp⟩) (by assumption) ?_
      simp only [Act.put, List.setIfInBounds_toArray, List.set_cons_zero, List.set_cons_succ]
      refine takeH (i := 5) (some 10) (.pointer (some ⟨w.heap.size, 1, none⟩)) rfl rfl (by kernel_rfl) (by kernel_rfl) (by kernel_rfl) (fun _ _ _ h => h) (Or.inl ⟨by rfl, fun w hSw => by (try dsimp only at hSw); go_simp⟩) (by assumption) ?_
      simp only [Act.put, List.setIfInBounds_toArray, List.set_cons_zero, List.set_cons_succ]
      refine takeH (i := 6) (some 11) (.slice ak m capk) rfl rfl (by kernel_rfl) (by kernel_rfl) (by kernel_rfl) (fun _ _ _ h => h) (Or.inl ⟨by rfl, fun w hSw => by (try dsimp only at hSw); go_simp⟩) (by assumption) ?_
      simp only [Act.put, List.setIfInBounds_toArray, List.set_cons_zero, List.set_cons_succ]
      refine takeH (i := 7) (some 12) (.int .i64 m) rfl rfl (by kernel_rfl) (by kernel_rfl) (by kernel_rfl) (fun _ _ _ h => h) (Or.inl ⟨by rfl, fun w hSw => by (try dsimp only at hSw); go_simp⟩) (by assumption) ?_
      simp only [Act.put, List.setIfInBounds_toArray, List.set_cons_zero, List.set_cons_succ]
      refine takeH (i := 8) (some 13) (.bool false) rfl rfl (by kernel_rfl) (by kernel_rfl) (by kernel_rfl) (fun _ _ _ h => h) (Or.inl ⟨by rfl, fun w hSw => by (try dsimp only at hSw); go_simp⟩) (by assumption) ?_
      simp only [Act.put, List.setIfInBounds_toArray, List.set_cons_zero, List.set_cons_succ]
      refine takeH (i := 9) (some 14) (.bool false) rfl rfl (by kernel_rfl) (by kernel_rfl) (by kernel_rfl) (fun _ _ _ h => h) (Or.inl ⟨by rfl, fun w hSw => by (try dsimp only at hSw); go_simp⟩) (by assumption) ?_
      simp only [Act.put, List.setIfInBounds_toArray, List.set_cons_zero, List.set_cons_succ]
      refine takeH (i := 10) (some 15) (.bool false) rfl rfl (by kernel_rfl) (by kernel_rfl) (by kernel_rfl) (fun _ _ _ h => h) (Or.inl ⟨by rfl, fun w hSw => by (try dsimp only at hSw); go_simp⟩) (by assumption) ?_
      simp only [Act.put, List.setIfInBounds_toArray, List.set_cons_zero, List.set_cons_succ]
      refine takeH (i := 11) (some 16) (.pointer (some ⟨w.heap.size, 0, none⟩)) rfl rfl (by kernel_rfl) (by kernel_rfl) (by kernel_rfl) (fun _ _ _ h => h) (Or.inl ⟨by rfl, fun w hSw => by (try dsimp only at hSw); go_simp⟩) (by assumption) ?_
      simp only [Act.put, List.setIfInBounds_toArray, List.set_cons_zero, List.set_cons_succ]
      refine takeH (i := 12) (some 17) (.slice a n cap) rfl rfl (by kernel_rfl) (by kernel_rfl) (by kernel_rfl) (fun _ _ _ h => h) (Or.inl ⟨by rfl, fun w hSw => by (try dsimp only at hSw); go_simp⟩) (by assumption) ?_
      simp only [Act.put, List.setIfInBounds_toArray, List.set_cons_zero, List.set_cons_succ]
      refine takeH (i := 14) (some 19) (.pointer (some ⟨w.heap.size, 1, none⟩)) rfl rfl (by kernel_rfl) (by kernel_rfl) (by kernel_rfl) (fun _ _ _ h => h) (Or.inl ⟨by rfl, fun w hSw => by (try dsimp only at hSw); go_simp⟩) (by assumption) ?_
      simp only [Act.put, List.setIfInBounds_toArray, List.set_cons_zero, List.set_cons_succ]
      refine takeH (i := 15) (some 20) (.slice ak m capk) rfl rfl (by kernel_rfl) (by kernel_rfl) (by kernel_rfl) (fun _ _ _ h => h) (Or.inl ⟨by rfl, fun w hSw => by (try dsimp only at hSw); go_simp⟩) (by assumption) ?_
      simp only [Act.put, List.setIfInBounds_toArray, List.set_cons_zero, List.set_cons_succ]
      refine takeH (i := 16) (some 21) (.int .i64 m) rfl rfl (by kernel_rfl) (by kernel_rfl) (by kernel_rfl) (fun _ _ _ h => h) (Or.inl ⟨by rfl, fun w hSw => by (try dsimp only at hSw); go_simp⟩) (by assumption) ?_
      simp only [Act.put, List.setIfInBounds_toArray, List.set_cons_zero, List.set_cons_succ]
      refine takeH (i := 17) (some 22) (.bool t) rfl rfl (by kernel_rfl) (by kernel_rfl) (by kernel_rfl) (fun _ _ _ h => h) (Or.inl ⟨by rfl, fun w hSw => by (try dsimp only at hSw); go_simp⟩) (by assumption) ?_
      simp only [Act.put, List.setIfInBounds_toArray, List.set_cons_zero, List.set_cons_succ]
      refine wpAnyH_ready (rs := [13]) (by kernel_rfl) (by simp) ?_
      refine AllReadyH.cons rfl (fun K hK => ?_) AllReadyH.nil
      go_simp
      refine (forkImpl _ xs B w1 (hv.c.on bb1 hB) (by have := bb1.size; omega) (by omega)).mono ?_
      rintro e w2 ⟨rfl, b2⟩
      have X1 := X1.on b2 X1.lt
      have bb1 := bb1.trans (b2.mono (by have := bb1.size; omega))
      go_simp
      refine hK.out _ _ ⟨X1.cell 0, X1.cell 1⟩ (fun hHeld2 => ?_)
      clear hK K hHeld1
      obtain ⟨q, hq⟩ : ∃ q, hasFork xs = q := ⟨_, rfl⟩
      rw [hq]
      by_cases hqt : q = t
      · have HE : Hid (progOk xs kss = kss.all kidOk) := prog_allI HP.out (by omega) (by rw [hq, hqt, hm]; exact ht'.symm)
        subst hqt
        have d4 : (q != q) = false := by simp
        clear hq ht ht'
        refine takeH (i := 18) (some 23) (.bool false) rfl rfl (by kernel_rfl) (by kernel_rfl) (by kernel_rfl) (fun _ _ _ h => h) (Or.inl ⟨by rfl, fun w hSw => by (try dsimp only at hSw); go_simp⟩) (by assumption) ?_
        simp only [Act.put, List.setIfInBounds_toArray, List.set_cons_zero, List.set_cons_succ]
        refine takeH (i := 19) (some 24) (.bool false) rfl rfl (by kernel_rfl) (by kernel_rfl) (by kernel_rfl) (fun _ _ _ h => h) (Or.inl ⟨by rfl, fun w hSw => by (try dsimp only at hSw); go_simp⟩) (by assumption) ?_
        simp only [Act.put, List.setIfInBounds_toArray, List.set_cons_zero, List.set_cons_succ]
        refine wpAnyH_done (by kernel_rfl) ?_ _
        clear hHeld2
        have hvk := hv.k
        have HV := (show Hid _ from hvk)
        clear hvk
        obtain ⟨g, hg⟩ : ∃ g, w.heap.size = g := ⟨_, rfl⟩
        rw [hg] at hB bb1 X1 ⊢
        have hgw : g < w2.heap.size := X1.lt
        have y0 := X1.cell 1
        go_wp2
        clear y0
        go_loopw [28] (fun i' wr => ∃ k : Nat, k ≤ m ∧ i' = .int .i64 k ∧ (∀ j (h : j < kss.length), j < k → kidOk kss[j] = true) ∧ Below g w wr ∧ Blk wr g #[.slice a n cap, .slice ak m capk] 27) (fun i' _ => m - (intOf i').toNat)
        case atStart => exact ⟨0, Nat.zero_le _, rfl, fun j _ h => by omega, bb1, X1⟩
        case round =>
          obtain ⟨k, hk, rfl, hall, hb, X⟩ := hrel
          have y1 := X.cell 1
          have hsz : g ≤ wr.heap.size := by have := X.lt; omega
          by_cases hlt : k < m
          · obtain ⟨b, off, rfl, hbB, hc⟩ := SeesK.open HV.out (by omega)
            obtain ⟨s, hs1, hs2⟩ := hc k (by omega)
            have a0 := (hb.cell (p := ⟨b, off + k, none⟩) (by show b < g; omega)).trans hs1
            have bA := alloc_below wr (.cells #[.slice s.a s.n s.cap] 47)
            have cK := kidImpl _ _ B (wr.alloc (.cells #[.slice s.a s.n s.cap] 47)) (hs2.on (hb.trans (bA.mono hsz)) hB) (by simp; omega) (HA3.out _ (List.getElem_mem (show k < kss.length by omega)))
            have HAl := (show Hid _ from hall)
            have i1 : (k : Int) < m := by omega
            by_cases hko : kidOk kss[k] = true
            · have HF : Hid (∀ j (h : j < kss.length), j < k + 1 → kidOk kss[j] = true) := fun j hj hjk => by
                rcases Nat.lt_succ_iff_lt_or_eq.1 hjk with h | h
                · exact HAl.out j hj h
                · subst h; exact hko
              rw [hko] at cK
              clear hall hc hs1 hs2 hko
              go_wp2_with fail
              refine cK.mono ?_
              rintro e w3 ⟨rfl, hb3⟩
              clear cK
              go_wp2
              go_roundw
              case rel => exact ⟨k + 1, by omega, by go_num, HF.out, hb.trans ((bA.trans (hb3.mono bA.size)).mono hsz), X.on (bA.trans (hb3.mono bA.size)) X.lt⟩
              case measure => simp [intOf]; omega
            · have hko' : kidOk kss[k] = false := by simpa using hko
              have HF : Hid (false = progOk xs kss) := by
                show _ = _
                rw [HE.out]
                exact (List.all_eq_false.2 ⟨kss[k], List.getElem_mem (by omega), by simp [hko']⟩).symm
              rw [hko'] at cK
              clear hall hc hs1 hs2 hko hko'
              go_wp2_with fail
              refine cK.mono ?_
              rintro e w3 ⟨rfl, hb3⟩
              clear cK
              go_wp2
              go_ret
              exact ⟨retB HF.out, by rw [hg]; exact hb.trans ((bA.trans (hb3.mono bA.size)).mono hsz)⟩
          · have HF : Hid (true = progOk xs kss) := by
              show _ = _
              rw [HE.out]
              exact (List.all_eq_true.2 fun ks hks => by
                obtain ⟨j, hj, rfl⟩ := List.mem_iff_getElem.1 hks
                exact hall j hj (by omega)).symm
            obtain rfl : k = m := by omega
            clear hall
            go_wp2
            go_ret
            exact ⟨retB HF.out, by rw [hg]; exact hb⟩
      · have HF : Hid (false = progOk xs kss) := (prog_no3I (by rw [hq, hm, ht']; exact hqt)).symm
        have d4 : (q != t) = true := by simp [hqt]
        clear hq ht ht'
        refine takeH (i := 18) (some 23) (.bool true) rfl rfl (by kernel_rfl) (by kernel_rfl) (by kernel_rfl) (fun _ _ _ h => h) (Or.inl ⟨by rfl, fun w hSw => by (try dsimp only at hSw); go_simp⟩) (by assumption) ?_
        simp only [Act.put, List.setIfInBounds_toArray, List.set_cons_zero, List.set_cons_succ]
        refine takeH (i := 19) (some 24) (.bool true) rfl rfl (by kernel_rfl) (by kernel_rfl) (by kernel_rfl) (fun _ _ _ h => h) (Or.inl ⟨by rfl, fun w hSw => by (try dsimp only at hSw); go_simp⟩) (by assumption) ?_
        simp only [Act.put, List.setIfInBounds_toArray, List.set_cons_zero, List.set_cons_succ]
        refine wpAnyH_done (by kernel_rfl) ?_ _
        clear hHeld2
        go_wp2
        go_ret
        exact ⟨retB HF.out, bb1⟩

end Ops
end Go.Proofs.YtjopmakbnompnaaGreatDoor
/- What the program's ShowProg answers. -/
set_option linter.unusedVariables false
set_option linter.unusedSimpArgs false
namespace Go.Proofs.YtjopmakbnompnaaGreatDoor
open Go.RowKit
namespace Ops
open Bas Flat Strs Num

set_option maxRecDepth 100000 in
set_option maxHeartbeats 3200000 in
theorem showProgI (vc vk : Value) (xs : List O4) (kss : List (List O4)) (B : Nat) (w : World) (hv : SeesP B w vc vk xs kss) (hB : B ≤ w.heap.size) (hf : Fits xs kss) (hT : WTab w) (ht : Dec.Tab w) :
    Calls Tryz.prog 7 #[.agg #[vc, vk]] w fun e w' => e = .returned (.string ⟨(showProg xs kss).toArray⟩) ∧ Below w.heap.size w w' := by
  have HTb : Hid (∀ W, Below w.heap.size w W → WTab W ∧ Dec.Tab W) := fun W hb => ⟨hT.on hb, ht.on hb⟩
  clear hT ht
  obtain ⟨a, cap, rfl⟩ := hv.c.form
  obtain ⟨ak, capk, rfl⟩ := hv.k.form
  obtain ⟨n, hn⟩ : ∃ n, xs.length = n := ⟨_, rfl⟩
  obtain ⟨m, hm⟩ : ∃ m, kss.length = m := ⟨_, rfl⟩
  rw [hn, hm] at hv ⊢
  have b0 := alloc_below w (.cells #[.slice a n cap, .slice ak m capk] 27)
  have X0 := Blk.new w #[.slice a n cap, .slice ak m capk] 27
  obtain ⟨W0, hW0⟩ : ∃ W0, w.alloc (.cells #[.slice a n cap, .slice ak m capk] 27) = W0 := ⟨_, rfl⟩
  rw [hW0] at b0 X0
  have hs := X0.lt
  have hv0 := hv.on b0 hB
  have c0 := progImpl _ _ xs kss B W0 hv0 (by omega) hf
  obtain ⟨p, hp⟩ : ∃ p, progOk xs kss = p := ⟨_, rfl⟩
  rw [hp] at c0
  have HP : Hid (progOk xs kss = p) := hp
  clear hp
  have x0 := X0.cell 0; have x1 := X0.cell 1
  obtain ⟨g, hg⟩ : ∃ g, w.heap.size = g := ⟨_, rfl⟩
  rw [hg] at hB b0 X0 hs x0 x1 HTb ⊢
  cases p
  · have HF : Hid ([] = showProg xs kss) := (sp_none HP.out).symm
    go_enter Tryz.func7, Tryz.ntmps7
    go_wp2_with fail
    refine c0.mono ?_
    rintro e w1 ⟨rfl, b1⟩
    clear hW0 x0 x1
    go_wp2
    go_ret
    exact ⟨ret_s HF.out, b0.trans (b1.mono (by omega))⟩
  obtain ⟨hc, h3, hks⟩ := prog_codes HP.out
  rw [hm] at h3
  have HS : Hid (showProg xs kss = linesOf xs ++ kidsText kss) := sp_text HP.out
  have HKs := (show Hid _ from hks)
  have lx := lines_len xs
  have lx2 := code_len hc
  have HC : Hid (showCode xs = linesOf xs) := sc_yes hc
  clear hc hks
  go_enter Tryz.func7, Tryz.ntmps7
  go_wp2_with fail
  refine c0.mono ?_
  rintro e w1 ⟨rfl, b1⟩
  clear c0 hW0 x0 x1
  have X1 := X0.on b1 (by omega)
  have bb1 := b0.trans (b1.mono (by omega : g ≤ W0.heap.size))
  have hz1 : g < w1.heap.size := X1.lt
  have x0 := X1.cell 0
  have c1 := showCodeI _ xs B w1 (hv.c.on bb1 hB) (by omega) (by omega) (HTb.out w1 bb1).1 (HTb.out w1 bb1).2
  rw [HC.out] at c1
  go_wp2_with fail
  refine c1.mono ?_
  rintro e w2 ⟨rfl, b2⟩
  clear c1 x0
  have X2 := X1.on b2 hz1
  have bb2 := bb1.trans (b2.mono (by omega : g ≤ w1.heap.size))
  have hvk := (show Hid _ from hv.k)
  have x1 := X2.cell 1
  clear X0 b0 X1 b1 bb1 b2
  go_wp2
  clear x1
  go_loopw [3, 15] (fun sv iv wr => ∃ (k : Nat) (T : Txt), k ≤ m ∧ iv = .int .i64 k ∧ sv = .string ⟨T.toArray⟩ ∧ T = linesOf xs ++ kidsText (kss.take k) ∧ Below g w wr) (fun _ iv _ => m - (intOf iv).toNat)
  case atStart => exact ⟨0, linesOf xs, Nat.zero_le _, rfl, rfl, by simp [kidsText], bb2⟩
  case round =>
    obtain ⟨k, T, hk, rfl, rfl, hT, hb⟩ := hrel
    clear bb2 X2
    have hsz : g ≤ wr.heap.size := by have := hb.size; omega
    by_cases hlt : k < m
    · obtain ⟨b, off, rfl, hbB, hcc⟩ := SeesK.open hvk.out (by omega)
      obtain ⟨s, hs1, hs2⟩ := hcc k (by omega)
      have a0 := (hb.cell (p := ⟨b, off + k, none⟩) (by show b < g; omega)).trans hs1
      have hkx : k < kss.length := by omega
      have hko := HKs.out _ (List.getElem_mem hkx)
      have h24 := code_len hko
      have bA := alloc_below wr (.cells #[.slice s.a s.n s.cap] 47)
      have XA := Blk.new wr #[.slice s.a s.n s.cap] 47
      have bbA := hb.trans (bA.mono hsz)
      have hzA := XA.lt
      have cK := showCodeI _ kss[k] B (wr.alloc (.cells #[.slice s.a s.n s.cap] 47)) (hs2.on bbA hB) (by omega) (by omega) (HTb.out _ bbA).1 (HTb.out _ bbA).2
      rw [sc_yes hko] at cK
      have HL : Hid (kidsText (kss.take (k + 1)) = kidsText (kss.take k) ++ kidL ++ linesOf kss[k]) := kids_take hkx
      have l1 := lines_len kss[k]
      have l2 := kids_len (kss := kss.take k) (fun q hq => HKs.out q (List.mem_of_mem_take hq))
      have l3 : (kss.take k).length ≤ k := List.length_take_le _ _
      have lT : T.length ≤ 10000 := by rw [hT]; simp; omega
      have HT : Hid (T = linesOf xs ++ kidsText (kss.take k)) := hT
      obtain ⟨U, hU⟩ : ∃ U, linesOf kss[k] = U := ⟨_, rfl⟩
      rw [hU] at cK HL l1
      obtain ⟨lt, hlt'⟩ : ∃ l, T.length = l := ⟨_, rfl⟩
      obtain ⟨lu, hlu⟩ : ∃ l, U.length = l := ⟨_, rfl⟩
      rw [hlt'] at lT
      rw [hlu] at l1
      have lu' : lu ≤ 1000 := by omega
      have i1 : (k : Int) < m := by omega
      have i2 : (0 : Int) ≤ k := by omega
      clear hcc hs1 hs2 hU hT l1 l2 l3 hko h24 lx lx2
      go_wp2_with fail
      refine cK.mono ?_
      rintro e w3 ⟨rfl, b3⟩
      clear cK a0
      go_wp2
      go_roundw
      case rel =>
        refine ⟨k + 1, T ++ kidL ++ U, by omega, by go_num, ?_, by rw [HL.out, HT.out]; simp, bbA.trans (b3.mono (by omega))⟩
        simp [ByteArray.mk_append_mk, kidL]
      case measure => simp [intOf]; omega
    · obtain rfl : k = m := by omega
      have HF : Hid (T = showProg xs kss) := by show _ = _; rw [HS.out, hT, List.take_of_length_le (by omega)]
      have i1 : ¬ (k : Int) < k := by omega
      clear hT
      go_wp2
      go_ret
      exact ⟨ret_s HF.out, hb⟩
end Ops
end Go.Proofs.YtjopmakbnompnaaGreatDoor
/- What the program's ReadProg answers: a program of which no two lists share memory. -/
set_option linter.unusedVariables false
set_option linter.unusedSimpArgs false
namespace Go.Proofs.YtjopmakbnompnaaGreatDoor
open Go.RowKit
namespace Ops
open Bas Flat Strs Num AsErr

/-- the program that is being read, the result's place -/
structure IPr (w W : World) (p : Nat) (vc vk : Value) (ss : List S3) (xs : List O4) (kss : List (List O4)) : Prop where
  R : Blk W w.heap.size #[.slice none 0 0, .slice none 0 0] 27
  X : Blk W p #[vc, vk] 27
  Q : OwnQ w.heap.size W vc vk ss xs kss
  ne : w.heap.size < p
  b : Below w.heap.size w W
section
variable {w W W' : World} {p : Nat} {vc vk : Value} {ss : List S3} {xs : List O4} {kss : List (List O4)}
theorem IPr.on (h : IPr w W p vc vk ss xs kss) (hb : Below W.heap.size W W') : IPr w W' p vc vk ss xs kss :=
  { R := h.R.on hb h.R.lt, X := h.X.on hb h.X.lt, Q := h.Q.on hb, ne := h.ne, b := h.b.trans (hb.mono h.b.size) }
theorem IPr.two (h : IPr w W p vc vk ss xs kss) (u v : Value) : Below w.heap.size w ((W.setCell ⟨w.heap.size, 0, none⟩ u).setCell ⟨w.heap.size, 1, none⟩ v) :=
  (h.b.setCell (p := ⟨w.heap.size, 0, none⟩) (Nat.le_refl _) u).setCell (p := ⟨w.heap.size, 1, none⟩) (Nat.le_refl _) v
/-- rows of other types are not touched by a store into a program -/
theorem OwnQ.other {B : Nat} (h : OwnQ B W vc vk ss xs kss) {q : Nat} {cs : Array Value} {t : TypeId} (hb : Blk W q cs t) (h1 : 36 ≠ t) (h2 : 47 ≠ t) (i : Nat) (u : Value) : OwnQ B (W.setCell ⟨q, i, none⟩ u) vc vk ss xs kss :=
  { c := h.c.other (own_ne h.c hb h1) u
    k := { row := h.k.row.other (own_ne h.k.row hb h2) u, len := h.k.len, each := fun j hj hj' => (h.k.each j hj hj').other (own_ne (h.k.each j hj hj') hb h1) u }
    d := h.d }
/-- append(p.Kids, Kid{Code: s}) -/
theorem IPr.kid (h : IPr w W p vc vk ss xs kss) (s : S3) (ys : List O4) (hs : Owns4 w.heap.size W s.val ys) (hd : ∀ v ∈ vc :: ss.map S3.val, Dis v s.val) (hlen : kss.length ≤ 1000) :
    ∃ v' W', (Builtin.append_ #[25, 25] 25 #[vk, .slice (some ⟨W.heap.size, 0, none⟩) 1 1]).run Tryz.prog (W.alloc (.cells #[.slice s.a s.n s.cap] 47)) = .ok v' W' ∧ W'.cell? ⟨p, 1, none⟩ = some vk ∧ W'.frozen? ⟨p, 1, none⟩ = false ∧ IPr w (W'.setCell ⟨p, 1, none⟩ v') p vc v' (ss ++ [s]) xs (kss ++ [ys]) := by
  have hne := h.ne
  have k1 := h.Q.k.row
  have bA := alloc_below W (.cells #[.slice s.a s.n s.cap] 47)
  have k1' := k1.on bA (Nat.le_refl _)
  have hkl := h.Q.k.len
  have hbs := h.b.size
  obtain ⟨v', W', hr, hO, hG, -⟩ := app rowKid vk _ 25 ss [s] _ w.heap.size (W.alloc (.cells #[.slice s.a s.n s.cap] 47)) k1' (by simp; omega) (Ops.seesOneS W s _) (by simp; omega)
  have off : ∀ {q : Nat} {cur : Array Value} {t : TypeId}, (W.alloc (.cells #[.slice s.a s.n s.cap] 47)).heap[q]? = some (.cells cur t (0, 0)) → t ≠ 47 → some q ≠ vk.ownBlock := fun hq ht e => by
    obtain ⟨cur', hc⟩ := own_block k1' _ e.symm
    rw [hq] at hc
    simp only [Option.some.injEq, Obj.cells.injEq] at hc
    exact ht hc.2.1
  have own4 : ∀ {v : Value} {l : List O4}, Owns4 w.heap.size W v l → Owns4 w.heap.size W' v l := fun ho =>
    (ho.on bA (Nat.le_refl _)).grown hG (fun k hk => own_apart (ho.on bA (Nat.le_refl _)) k1' (by decide) k hk)
  have XA := h.X.on bA h.X.lt
  have RA := h.R.on bA h.R.lt
  have X' := XA.grown hG (off XA (by decide))
  have R' := RA.grown hG (off RA (by decide))
  have bb := h.b.trans (bA.mono h.b.size)
  have b' : Below w.heap.size w W' := bb.grown hG bb.size (fun k hk => (k1'.at k hk).1)
  have Q' : OwnQ w.heap.size W' vc v' (ss ++ [s]) xs (kss ++ [ys]) :=
    { c := own4 h.Q.c
      k := { row := hO
             len := by simp [h.Q.k.len]
             each := fun j hj hj' => by
               have hlen' := h.Q.k.len
               by_cases hlt : j < ss.length
               · have := own4 (h.Q.k.each j hlt (by omega))
                 rw [List.getElem_append_left hlt, List.getElem_append_left (by omega)]; exact this
               · have hj0 : j = ss.length := by simp at hj; omega
                 subst hj0
                 rw [List.getElem_append_right (Nat.le_refl _), List.getElem_append_right (by omega)]
                 simp only [Nat.sub_self, List.getElem_cons_zero, hlen']; exact own4 hs }
      d := by
        rw [List.map_append, ← List.cons_append, List.pairwise_append]
        exact ⟨h.Q.d, by simp, fun a ha b hb => by simp at hb; rw [hb]; exact hd a ha⟩ }
  exact ⟨v', W', hr, X'.cell 1, X'.froz 1, { R := R'.other (by omega) _ _, X := X'.set 1 v', Q := Q'.other X' (by decide) (by decide) 1 v', ne := hne, b := b'.setCell (by show w.heap.size ≤ p; omega) _ }⟩
end
theorem told_noI {B : Nat} {L : Txt} {w' : World} (h : RdProg L [] [] false) {e : Ending} (he : e = .returned (.tuple #[.agg #[.slice none 0 0, .slice none 0 0], .bool false])) : ToldProgI B L e w' :=
  ⟨_, _, [], [], [], false, he, ⟨Owns.nil _ _ _ _, { row := Owns.nil _ _ _ _, len := rfl, each := fun j hj => by simp at hj }, by simp⟩, h⟩
/-- what is held of the pieces that were read -/
structure Pcs (L : Txt) (xs : List O4) (kss : List (List O4)) (rest : Txt) (er : Option Txt) : Prop where
  ok : AllsOk (xs :: kss)
  len : ∀ c ∈ xs :: kss, c.length ≤ 25
  rl : rest.length ≤ L.length
  told : ∃ cs c T, cs ++ [c] = xs :: kss ∧ L = preText cs ++ T ∧ ToldOps T c rest er
section
variable {L : Txt} {xs : List O4} {kss : List (List O4)} {rest : Txt} {er : Option Txt}
theorem Pcs.parts (h : Pcs L xs kss rest er) : ∃ cs c T, cs ++ [c] = xs :: kss ∧ L = preText cs ++ T ∧ ToldOps T c rest er ∧ AllsOk cs ∧ AllOk c ∧ cs.length = kss.length := by
  obtain ⟨cs, c, T, h1, h2, h3⟩ := h.told
  refine ⟨cs, c, T, h1, h2, h3, fun q hq => h.ok q (by rw [← h1]; simp [hq]), h.ok c (by rw [← h1]; simp), ?_⟩
  have := congrArg List.length h1
  simp at this; exact this
theorem Pcs.start (h : ToldOps L xs rest er) (ho : AllOk xs) (hl : xs.length ≤ 25) (hr : rest.length ≤ L.length) : Pcs L xs [] rest er :=
  { ok := fun c hc => by simp at hc; rw [hc]; exact ho
    len := fun c hc => by simp at hc; rw [hc]; exact hl
    rl := hr
    told := ⟨[], xs, L, rfl, rfl, h⟩ }
theorem Pcs.kid (h : Pcs L xs kss rest (some kidL)) {ys : List O4} {rest' : Txt} {er' : Option Txt} (ht : ToldOps rest ys rest' er') (ho : AllOk ys) (hl : ys.length ≤ 25) (hr : rest'.length ≤ rest.length) : Pcs L xs (kss ++ [ys]) rest' er' := by
  obtain ⟨cs, c, T, h1, h2, h3, -⟩ := h.parts
  refine { ok := fun q hq => ?_, len := fun q hq => ?_, rl := Nat.le_trans hr h.rl, told := ⟨cs ++ [c], ys, rest, by rw [h1]; rfl, told_kid h3 h2, ht⟩ }
  · rw [← List.cons_append] at hq
    rcases List.mem_append.1 hq with hq | hq
    · exact h.ok q hq
    · simp at hq; rw [hq]; exact ho
  · rw [← List.cons_append] at hq
    rcases List.mem_append.1 hq with hq | hq
    · exact h.len q hq
    · simp at hq; rw [hq]; exact hl
theorem Pcs.none (h : Pcs L xs kss rest none) : (progOk xs kss = true → RdProg L xs kss true) ∧ (progOk xs kss = false → RdProg L [] [] false) := by
  obtain ⟨cs, c, T, h1, h2, h3, h4, h5, -⟩ := h.parts
  exact rp_none h4 h5 h3 h2 h1
theorem Pcs.wrong {ln : Txt} (h : Pcs L xs kss rest (some ln)) (hk : ln ≠ kidL) : RdProg L [] [] false := by
  obtain ⟨cs, c, T, h1, h2, h3, h4, h5, -⟩ := h.parts
  exact rp_wrong h4 h5 h3 h2 hk
theorem Pcs.full (h : Pcs L xs kss rest (some kidL)) (hl : kss.length = 3) : RdProg L [] [] false := by
  obtain ⟨cs, c, T, h1, h2, h3, h4, h5, h6⟩ := h.parts
  exact rp_full h4 h5 (by omega) h3 h2
end

set_option maxRecDepth 100000 in
set_option maxHeartbeats 8000000 in
theorem readProgI (L : Txt) (hs : L.length ≤ 1048576) (w : World) (hl : Laid w) (hE : EType w) :
    Calls Tryz.prog 9 #[.string ⟨L.toArray⟩] w fun e w' => ToldProgI w.heap.size L e w' ∧ Below w.heap.size w w' := by
  have b0 := alloc_below w (.cells #[.slice none 0 0, .slice none 0 0] 27)
  have R0 := Blk.new w #[.slice none 0 0, .slice none 0 0] 27
  have c1 := readOpsI L hs _ (hl.on b0)
  have HLd : Hid (∀ W, Below w.heap.size w W → Laid W) := fun W hb => hl.on hb
  have HEd : Hid (∀ W, Below w.heap.size w W → EType W) := fun W hb => hE.on hb
  clear hl hE
  go_enter Tryz.func9, Tryz.ntmps9
  go_wp2_with fail
  refine c1.mono ?_
  rintro e w1 ⟨⟨v1, xs, rest, er, rfl, O1, hok, hlen, hrl, ht⟩, b1⟩
  clear c1
  have HP0 := Pcs.start ht hok hlen hrl
  clear ht hok hrl
  have R1 := R0.on b1 R0.lt
  have bb1 := b0.trans (b1.mono b0.size)
  have hz1 : w.heap.size < w1.heap.size := R1.lt
  obtain ⟨a, cp, rfl⟩ := O1.form
  obtain ⟨n, hn⟩ : ∃ n, xs.length = n := ⟨_, rfl⟩
  rw [hn] at O1 hlen ⊢
  have bA := alloc_below w1 (.cells #[.slice a n cp, .slice none 0 0] 27)
  have XA := Blk.new w1 #[.slice a n cp, .slice none 0 0] 27
  have S0 : IPr w (w1.alloc (.cells #[.slice a n cp, .slice none 0 0] 27)) w1.heap.size (.slice a n cp) (.slice none 0 0) [] xs [] :=
    { R := R1.on bA R1.lt
      X := XA
      Q := { c := (O1.mono b0.size).on bA (Nat.le_refl _), k := { row := Owns.nil _ _ _ _, len := rfl, each := fun j hj => by simp at hj }, d := by simp }
      ne := hz1
      b := bb1.trans (bA.mono bb1.size) }
  clear b0 R0 b1 R1 bb1 hz1 O1 bA XA
  go_wp2
  obtain ⟨W0, hW0⟩ : ∃ W, w1.alloc (.cells #[.slice a n cp, .slice none 0 0] 27) = W := ⟨_, rfl⟩
  rw [hW0] at S0 ⊢
  clear hW0
  obtain ⟨p, hp⟩ : ∃ p, w1.heap.size = p := ⟨_, rfl⟩
  rw [hp] at S0 ⊢
  clear hp
  go_loopg [4, 5, 6] 3 (fun g _ rv ev wr => ∃ (rest : Txt) (er : Option Txt) (ss : List S3) (kss : List (List O4)) (ak : Option Addr) (m ck : Nat), rv = .string ⟨rest.toArray⟩ ∧ ev = errV er ∧ kss.length = m ∧ m ≤ 3 ∧ g = 3 - m ∧ Hid (Pcs L xs kss rest er) ∧ IPr w wr p (.slice a n cp) (.slice ak m ck) ss xs kss)
  case atStart => exact ⟨rest, er, [], [], none, 0, 0, rfl, rfl, rfl, by omega, rfl, HP0, S0⟩
  case round =>
    obtain ⟨rest, er, ss, kss, ak, m, ck, rfl, rfl, hkm, hm3, rfl, HP, S⟩ := hrel
    clear HP0 S0
    have cB := beginsC er wr (HEd.out wr S.b)
    by_cases hk : er = some kidL
    · subst hk
      have eb : ((some kidL : Option Txt) == some kidL) = true := by simp
      rw [eb] at cB
      clear eb
      by_cases hm : m = 3
      · have HF : Hid (RdProg L [] [] false) := HP.out.full (by omega)
        subst hm
        have eE : errV (some kidL) = .iface 89 (.agg #[.string ⟨kidL.toArray⟩]) := rfl
        rw [eE] at cB ⊢
        go_wp2_with fail
        refine cB.mono ?_
        rintro e w2 ⟨rfl, b2⟩
        clear cB
        have S := S.on b2
        have x1 := S.X.cell 1
        have r0 := S.R.cell 0; have r1 := S.R.cell 1
        have z0 := S.R.froz 0; have z1 := S.R.froz 1
        have bz := S.two (.slice none 0 0) (.slice none 0 0)
        go_wp2
        refine bodyPost_ret (v := .tuple #[.agg #[.slice none 0 0, .slice none 0 0], .bool false]) (by simp [results, Tryz.results9, go_sem, r0, r1, z0, z1]) rfl ?_
        exact ⟨told_noI HF.out rfl, bz⟩
      · have hm2 : (m : Int) < 3 := by omega
        go_wp2_with fail
        refine cB.mono ?_
        rintro e w2 ⟨rfl, b2⟩
        clear cB
        have S := S.on b2
        have x1 := S.X.cell 1
        have c3 := readOpsI rest (Nat.le_trans HP.out.rl hs) w2 (HLd.out w2 S.b)
        go_wp2_with fail
        refine c3.mono ?_
        rintro e w3 ⟨⟨v3, ys, rest', er', rfl, O3, hok3, hlen3, hrl3, ht3⟩, b3⟩
        clear c3 x1
        have HP' : Hid (Pcs L xs (kss ++ [ys]) rest' er') := HP.out.kid ht3 hok3 hlen3 hrl3
        have hsz := S.b.size
        have hlow : ∀ v ∈ Value.slice a n cp :: ss.map S3.val, ∀ k, v.ownBlock = some k → k < w2.heap.size := by
          intro v hv k hk
          rcases List.mem_cons.1 hv with rfl | hv
          · exact (S.Q.c.at k hk).2
          · obtain ⟨s, hs', rfl⟩ := List.mem_map.1 hv
            obtain ⟨j, hj, rfl⟩ := List.mem_iff_getElem.1 hs'
            exact ((S.Q.k.each j hj (by have := S.Q.k.len; omega)).at k hk).2
        have hhigh := O3.at
        have S3' := S.on b3
        obtain ⟨a3, c3, rfl⟩ := O3.form
        obtain ⟨n3, hn3⟩ : ∃ n, ys.length = n := ⟨_, rfl⟩
        rw [hn3] at O3 hhigh ⊢
        obtain ⟨v4, W4, hr4, x4, f4, S4⟩ := S3'.kid ⟨a3, n3, c3⟩ ys (O3.mono hsz) (fun v hv k hk e => by have := hlow v hv k hk; have := (hhigh k e).1; omega) (by omega)
        have x3 := S3'.X.cell 1
        obtain ⟨a4, c4, e4⟩ := S4.Q.k.ownK.form
        have hx1 : (kss ++ [ys]).length = m + 1 := by simp [hkm]
        rw [hx1] at e4
        subst e4
        clear ht3 hok3 hlow hhigh O3 S S3' HP b2 b3
        go_wp2_with (at_builtin; refine wpList_app _ rfl _ _ 25 rfl _ _ _ _ rfl rfl hr4 ?_)
        clear hr4 x3 x4 f4
        go_roundg (3 - (m + 1))
        case measure => omega
        case rel => exact ⟨rest', er', _, _, _, _, _, rfl, rfl, hx1, by omega, rfl, HP', S4⟩
    · have eb : (er == some kidL) = false := by simpa using hk
      rw [eb] at cB
      clear eb
      cases er with
      | some ln =>
        have HF : Hid (RdProg L [] [] false) := HP.out.wrong (fun e => hk (by rw [e]))
        have eE : errV (some ln) = .iface 89 (.agg #[.string ⟨ln.toArray⟩]) := rfl
        rw [eE] at cB ⊢
        go_wp2_with fail
        refine cB.mono ?_
        rintro e w2 ⟨rfl, b2⟩
        clear cB
        have S := S.on b2
        have r0 := S.R.cell 0; have r1 := S.R.cell 1
        have z0 := S.R.froz 0; have z1 := S.R.froz 1
        have bz := S.two (.slice none 0 0) (.slice none 0 0)
        go_wp2
        refine bodyPost_ret (v := .tuple #[.agg #[.slice none 0 0, .slice none 0 0], .bool false]) (by simp [results, Tryz.results9, go_sem, r0, r1, z0, z1]) rfl ?_
        exact ⟨told_noI HF.out rfl, bz⟩
      | none =>
        have HR := (show Hid _ from HP.out.none)
        have HFt : Hid (Fits xs kss) := ⟨by omega, by omega, fun ks hk => by have := HP.out.len ks (by simp [hk]); omega⟩
        have eE : errV none = .nilIface := rfl
        rw [eE] at cB ⊢
        obtain ⟨q, hq⟩ : ∃ q, progOk xs kss = q := ⟨_, rfl⟩
        rw [hq] at HR
        go_wp2_with fail
        refine cB.mono ?_
        rintro e w2 ⟨rfl, b2⟩
        clear cB
        have S := S.on b2
        have c5 := progImpl _ _ xs kss w2.heap.size w2 S.Q.seesP (Nat.le_refl _) HFt.out
        rw [hq] at c5
        have x0 := S.X.cell 0
        have x1 := S.X.cell 1
        go_wp2_with fail
        refine c5.mono ?_
        rintro e w5 ⟨rfl, b5⟩
        clear c5 x0 x1 hq
        have S := S.on b5
        have r0 := S.R.cell 0; have r1 := S.R.cell 1
        have z0 := S.R.froz 0; have z1 := S.R.froz 1
        cases q
        · have HF : Hid (RdProg L [] [] false) := HR.out.2 rfl
          have bz := S.two (.slice none 0 0) (.slice none 0 0)
          go_wp2
          refine bodyPost_ret (v := .tuple #[.agg #[.slice none 0 0, .slice none 0 0], .bool false]) (by simp [results, Tryz.results9, go_sem, r0, r1, z0, z1]) rfl ?_
          exact ⟨told_noI HF.out rfl, bz⟩
        · have HF : Hid (RdProg L xs kss true) := HR.out.1 rfl
          have x0 := S.X.cell 0
          have x1 := S.X.cell 1
          have bz := S.two (.slice a n cp) (.slice ak m ck)
          have Qz := (S.Q.other S.R (by decide) (by decide) 0 (.slice a n cp)).other (S.R.set 0 _) (by decide) (by decide) 1 (.slice ak m ck)
          go_wp2
          refine bodyPost_ret (v := .tuple #[.agg #[.slice a n cp, .slice ak m ck], .bool true]) (by simp [results, Tryz.results9, go_sem, r0, r1, z0, z1]) rfl ?_
          exact ⟨⟨_, _, ss, xs, kss, true, rfl, Qz, HF.out⟩, bz⟩
end Ops
end Go.Proofs.YtjopmakbnompnaaGreatDoor
/- The law of ReadProg, out of what both functions answer. -/
set_option linter.unusedVariables false
namespace Go.Proofs.YtjopmakbnompnaaGreatDoor
open Go.RowKit
namespace Ops
open Bas Flat AsErr
theorem ba_txt (s : ByteArray) : (⟨s.data.toList.toArray⟩ : ByteArray) = s := by cases s; simp
theorem ba_len (s : ByteArray) : s.data.toList.length = s.size := by show _ = s.data.size; simp
theorem lawReadProg (s : ByteArray) (w : World) (hs : s.size ≤ maxLen) (hT : WTab w) (ht : Dec.Tab w) (he : ReadDec.Errs w) (hE : EType w) : Calls Tryz.prog 4 #[.string s] w fun e w' => e = .returned (.bool true) ∧ Below w.heap.size w w' :=
  walkReadProg s w hs
    (fun h W => by have := readProgC s.data.toList (by rw [ba_len]; exact h) W; rw [ba_txt] at this; exact this)
    (fun h W hb => by have := readProgI s.data.toList (by rw [ba_len]; exact h) W ⟨hT.on hb, ht.on hb, he.on hb⟩ (hE.on hb); rw [ba_txt] at this; exact this)
end Ops
end Go.Proofs.YtjopmakbnompnaaGreatDoor
/- The table of the words, out of what a row lists: a variable that reads as an array of texts holds them, cell for cell. -/
set_option linter.unusedVariables false
namespace Go.Proofs.YtjopmakbnompnaaGreatDoor
open Go.RowKit
namespace Ops

/-- an array of texts, as a row lists it -/
def strData {H : Type} (ls : List Txt) : DataW H := .agg (ls.map fun l => .lit (.string l))
theorem cells_of_strs {H : Type} {enc : TypeId × Value → H} {P : Program} {w : World} {base : Nat} {sp : Nat → Bool} {held : Bool} {fuel : Nat} {t e : TypeId} {n : Nat} {cs : List Value} {ls : List Txt} {p : List MemPlace}
    (ht : P.underlying t = some (.array n e)) (he : P.underlying e = some .string) (hce : P.cellsOf e = 1) (hct : P.cellsOf t = n)
    (h : DataW.trod enc P w base sp held fuel t cs = some (strData ls, p)) : cs = ls.map fun l => Value.string ⟨l.toArray⟩ := by
  cases fuel with
  | zero => simp [DataW.trod] at h
  | succ fuel =>
    simp only [DataW.trod, ht, hce, hct, Nat.mul_one] at h
    split at h
    case isFalse => cases h
    rename_i hl
    obtain ⟨xs, hm, hx⟩ := Option.map_eq_some_iff.1 h
    have hxs : xs.map Prod.fst = ls.map fun l => (DataW.lit (.string l) : DataW H) := by
      have := congrArg Prod.fst hx
      simpa [strData] using this
    have hxl : xs.length = n := by simpa using Lib.mapM_length hm
    have hll : ls.length = n := by
      have := congrArg List.length hxs
      rw [List.length_map, List.length_map] at this
      omega
    refine List.ext_getElem (by rw [List.length_map]; omega) fun i h1 h2 => ?_
    obtain ⟨b, hb, hf⟩ := Lib.mapM_at hm i i (by rw [List.getElem?_range (by omega)])
    obtain ⟨s, hc, rfl, -⟩ := DataW.trod_string he hf
    have c1 : cs[i]? = some (.string s) := by
      have := congrArg (fun l => l[0]?) hc
      simpa [List.getElem?_take, List.getElem?_drop] using this
    have c2 : (xs.map Prod.fst)[i]? = some (DataW.lit (.string s.data.toList) : DataW H) := by rw [List.getElem?_map, hb]; rfl
    rw [hxs, List.getElem?_map] at c2
    have hi : i < ls.length := by omega
    rw [List.getElem?_eq_getElem hi] at c2
    simp only [Option.map_some, Option.some.injEq, DataW.lit.injEq, Lit.string.injEq] at c2
    rw [List.getElem?_eq_getElem h1] at c1
    rw [Option.some.inj c1, List.getElem_map, c2]
/-- from the row's condition to the words -/
theorem gWords : Tryz.prog.globalNamed "loop.example/g01277/impl.opWords" = some 0 := by kernel_rfl
theorem gWordsType : (Tryz.prog.globals[0]?).map (·.type) = some 73 := by kernel_rfl
theorem cellsStr1 : Tryz.prog.cellsOf 9 = 1 := by kernel_rfl
theorem cellsTab : Tryz.prog.cellsOf 73 = 17 := by kernel_rfl
theorem wtab_of_head {W : World} {rest : List (String × DataW Unit)} (h : laidMet Tryz.prog (("loop.example/g01277/impl.opWords", strData words) :: rest) W) : WTab W := by
  obtain ⟨ps, ⟨g', t', cs, fuel, p, q, hg', ht', hvar, hd, _, _⟩, _⟩ := h
  obtain rfl := Option.some.inj (gWords.symm.trans hg')
  obtain rfl := Option.some.inj (gWordsType.symm.trans ht')
  have hcs := cells_of_strs Tryz.underlying73 Tryz.underlying9 cellsStr1 cellsTab hd
  intro i hi
  have := World.var?_cell gWords hvar i
  rw [this]
  have h2 : cs[i]? = some (.string ⟨words[i].toArray⟩) := by rw [← Array.getElem?_toList, hcs, List.getElem?_map, List.getElem?_eq_getElem hi]; rfl
  simpa using h2
end Ops
end Go.Proofs.YtjopmakbnompnaaGreatDoor
