/- FnShapes answers true at every code. -/
import Derived.Test.YthmkijbokfiljaaCodeDraw
import Derived.Test.YthmkijbokfiljaaEndImpl
import Derived.Test.YthmkijbokfiljaaProgImpl
import Derived.Test.YthmkijbokfiljaaSameImpl
import Derived.Test.YthmkijbokfiljaaShapeSpec3
import Derived.Test.YthmkijbokfiljaaShapeTrue
import Derived.Test.YthmkijbokfiljaaIntSame
import Derived.Test.YthmkijbokfiljaaArgs
import Derived.Deep.QuietTactic
import Derived.BigQuiet
set_option linter.unusedVariables false
set_option linter.unusedSimpArgs false
namespace Go.Proofs.Ythmkijbokfiljaa
open Go.RowKit
namespace Ops
open Bas Flat Draw

set_option maxRecDepth 100000 in
theorem shapesBig (a : Option Addr) (len cap : Nat) (w : World) (hb : 1048576 < len) :
    Calls Try.prog 3 #[.slice a len cap] w fun e w' => e = .returned (.bool true) ∧ Below w.heap.size w w' := by
  have hbg : decide ((1048576 : Int) < (len : Int)) = true := by simp; omega
  go_enter Try.func3, Try.ntmps3
  go_wp2_with fail
  refine (Ints.bigC a len cap w).mono ?_
  rw [hbg]
  rintro e w0 ⟨rfl, rfl⟩
  go_wp2
  go_ret
  exact ⟨rfl, Below.refl _ _⟩

theorem kid_noS {xs : List O4} (h : codeOk xs = false) : kidOk xs = false := kid_no1I h
theorem prog_noS {xs : List O4} (h : codeOk xs = false) : progOk xs [] = false := prog_no1I h
theorem seesP1 {B : Nat} {w : World} {v : Value} {xs : List O4} (h : Sees4 B w v xs) : SeesP B w v (.slice none 0 0) xs [] := ⟨h, ⟨[], Sees.nil _ _ _, rfl, fun j hj => by simp at hj⟩⟩
theorem fits1 {xs : List O4} (h : xs.length ≤ 1048576) : Fits xs [] := ⟨h, by simp, by simp⟩

set_option maxRecDepth 100000 in
set_option maxHeartbeats 8000000 in
theorem shapesFn (l : List UInt8) (a : Option Addr) (cap : Nat) (w : World) (hC : Draw.Code w.heap.size w (.slice a l.length cap) l) (hl : l.length ≤ 1048576) :
    Calls Try.prog 3 #[.slice a l.length cap] w fun e w' => e = .returned (.bool true) ∧ Below w.heap.size w w' := by
  have hbg : decide ((1048576 : Int) < (l.length : Int)) = false := by simp; omega
  have c0 := drawCodeOkC w.heap.size _ l w hC (Nat.le_refl _) hl
  obtain ⟨ln, hln⟩ : ∃ n, l.length = n := ⟨_, rfl⟩
  rw [hln] at hbg c0 ⊢
  clear hC hl
  go_enter Try.func3, Try.ntmps3
  go_wp2_with fail
  refine (Ints.bigC a ln cap w).mono ?_
  rw [hbg]
  rintro e w0 ⟨rfl, rfl⟩
  go_wp2_with fail
  refine c0.mono ?_
  rintro e w1 ⟨v1, xs, rfl, O1, hx, b1⟩
  clear c0 hbg
  have hw1 := b1.size
  obtain ⟨ax, cx, rfl⟩ := O1.form
  obtain ⟨n, hn⟩ : ∃ n, xs.length = n := ⟨_, rfl⟩
  rw [hn] at O1 hx ⊢
  have s1 := O1.sees
  clear O1
  have c1 := codeImpl _ xs w1.heap.size w1 s1 (Nat.le_refl _) (by omega)
  obtain ⟨p, hp⟩ : ∃ p, codeOk xs = p := ⟨_, rfl⟩
  have HP : Hid (codeOk xs = p) := hp
  rw [hp] at c1
  go_wp2_with fail
  refine c1.mono ?_
  rintro e w2 ⟨rfl, b2⟩
  clear c1
  have c2 := codeSpec _ xs w1.heap.size w2 (s1.on b2 (Nat.le_refl _)) b2.size (by omega)
  rw [hp] at c2
  clear hp
  go_wp2_with fail
  refine c2.mono ?_
  rintro e w3 ⟨rfl, b3⟩
  clear c2
  have bb3 : Below w1.heap.size w1 w3 := b2.trans (b3.mono b2.size)
  have hw3 := bb3.size
  have dpp : (p != p) = false := by simp
  clear b2 b3
  cases p
  · have c3 := kidImpl _ xs w1.heap.size w3 (s1.on bb3 (Nat.le_refl _)) hw3 (by omega)
    rw [kid_noS HP.out] at c3
    go_wp2_with fail
    refine c3.mono ?_
    rintro e w4 ⟨rfl, b4⟩
    clear c3
    have bb4 : Below w1.heap.size w1 w4 := bb3.trans (b4.mono hw3)
    have hw4 := bb4.size
    have c4 := progImpl _ _ xs [] w1.heap.size w4 (seesP1 (s1.on bb4 (Nat.le_refl _))) hw4 (fits1 (by omega))
    rw [prog_noS HP.out] at c4
    go_wp2_with fail
    refine c4.mono ?_
    rintro e w5 ⟨rfl, b5⟩
    clear c4
    go_wp2
    go_ret
    exact ⟨rfl, b1.trans ((bb4.trans (b5.mono hw4)).mono hw1)⟩
  · go_wp2
    go_loopw [5] (fun iv wr => ∃ k : Nat, k ≤ n ∧ iv = .int .i64 k ∧ Below w1.heap.size w1 wr) (fun iv _ => n - (intOf iv).toNat)
    case atStart => exact ⟨0, Nat.zero_le _, rfl, bb3⟩
    case round =>
      obtain ⟨k, hk, rfl, hb⟩ := hrel
      clear bb3 hw3
      have hwr := hb.size
      by_cases hlt : k < n
      · have i1 : (k : Int) < n := by omega
        have i2 : (0 : Int) ≤ k := by omega
        have hkx : k < xs.length := by omega
        have c3 := endImpl _ xs k w1.heap.size wr (s1.on hb (Nat.le_refl _)) hwr (by omega)
        by_cases h8 : xs[k].k = 8
        · obtain ⟨ee, he, h1, h2, h3, h4, h5⟩ := shapes8 HP.out hkx h8
          have h3 := h3 h2
          rw [he] at c3
          clear he
          obtain ⟨d, hd⟩ : ∃ d, depthAt xs k = d := ⟨_, rfl⟩
          rw [hd] at h4 h5
          have hdr : -2000 ≤ d ∧ d ≤ 2000 := by
            have := dsum_take_range xs (k : Int).toNat
            have e1 : dsum (xs.take (k : Int).toNat) = d := hd
            rw [e1] at this
            have e2 : ((k : Int).toNat : Int) = k := by omega
            omega
          have H4 : Hid (depthAt xs ((ee : Int) + 1) = d) := h4
          have H5 : Hid (depthAt xs ee = d + 1) := h5
          have HD : Hid (depthAt xs k = d) := hd
          have j1 : (ee : Int) < n := by omega
          have j2 : (0 : Int) ≤ ee := by omega
          have j3 : (k : Int) < ee := by omega
          have j4 : k < ee := by omega
          have j5 : ee < n := by omega
          have h2' : ee < xs.length := h2
          clear h4 h5 hd
          go_wp2_with fail
          refine c3.mono ?_
          rintro e w4 ⟨rfl, b4⟩
          clear c3
          have bb4 : Below w1.heap.size w1 w4 := hb.trans (b4.mono hwr)
          have hw4 := bb4.size
          have s4 := s1.on bb4 (Nat.le_refl _)
          obtain ⟨bq, off, rfl, hbq, hcc⟩ := s4.open (by omega)
          obtain ⟨a0, -, -, -⟩ := seeI hcc k hkx
          obtain ⟨z0, -, -, -⟩ := seeI hcc ee h2
          rw [h8] at a0
          rw [h3] at z0
          have c4 := depthImpl _ xs ((ee : Int) + 1) w1.heap.size w4 s4 hw4 (by omega)
          rw [H4.out] at c4
          clear hcc h3 h8
          go_wp2_with fail
          refine c4.mono ?_
          rintro e w5 ⟨rfl, b5⟩
          clear c4 a0 z0
          have bb5 : Below w1.heap.size w1 w5 := bb4.trans (b5.mono hw4)
          have hw5 := bb5.size
          have c5 := depthImpl _ xs k w1.heap.size w5 (s1.on bb5 (Nat.le_refl _)) hw5 (by omega)
          rw [HD.out] at c5
          go_wp2_with fail
          refine c5.mono ?_
          rintro e w6 ⟨rfl, b6⟩
          clear c5
          have bb6 : Below w1.heap.size w1 w6 := bb5.trans (b6.mono hw5)
          have hw6 := bb6.size
          have c6 := depthImpl _ xs ee w1.heap.size w6 (s1.on bb6 (Nat.le_refl _)) hw6 (by omega)
          rw [H5.out] at c6
          go_wp2_with fail
          refine c6.mono ?_
          rintro e w7 ⟨rfl, b7⟩
          clear c6
          have bb7 : Below w1.heap.size w1 w7 := bb6.trans (b7.mono hw6)
          have hw7 := bb7.size
          have c7 := depthImpl _ xs k w1.heap.size w7 (s1.on bb7 (Nat.le_refl _)) hw7 (by omega)
          rw [HD.out] at c7
          go_wp2_with fail
          refine c7.mono ?_
          rintro e w8 ⟨rfl, b8⟩
          clear c7
          have bb8 : Below w1.heap.size w1 w8 := bb7.trans (b8.mono hw7)
          go_wp2
          go_roundw
          case rel => exact ⟨k + 1, by omega, by go_num, bb8⟩
          case measure => simp [intOf]; omega
        · rw [shapes0 hkx h8] at c3
          go_wp2_with fail
          refine c3.mono ?_
          rintro e w4 ⟨rfl, b4⟩
          clear c3
          have bb4 : Below w1.heap.size w1 w4 := hb.trans (b4.mono hwr)
          have s4 := s1.on bb4 (Nat.le_refl _)
          obtain ⟨bq, off, rfl, hbq, hcc⟩ := s4.open (by omega)
          obtain ⟨a0, -, -, -⟩ := seeI hcc k hkx
          have d8 : (xs[k].k == 8) = false := by simp [h8]
          obtain ⟨q, hq⟩ : ∃ q, xs[k].k = q := ⟨_, rfl⟩
          rw [hq] at a0 d8
          clear hcc h8 hq
          go_wp2
          go_roundw
          case rel => exact ⟨k + 1, by omega, by go_num, bb4⟩
          case measure => simp [intOf]; omega
      · obtain rfl : k = n := by omega
        have i1 : ¬ (k : Int) < k := by omega
        have c3 := depthImpl _ xs k w1.heap.size wr (s1.on hb (Nat.le_refl _)) hwr (by omega)
        have hz := shapesEnd HP.out
        rw [hn] at hz
        rw [hz] at c3
        go_wp2_with fail
        refine c3.mono ?_
        rintro e w4 ⟨rfl, b4⟩
        clear c3
        have bb4 : Below w1.heap.size w1 w4 := hb.trans (b4.mono hwr)
        have hw4 := bb4.size
        have s4 := s1.on bb4 (Nat.le_refl _)
        have c4 := sameProgImpl _ _ _ _ xs xs [] [] w1.heap.size w4 (seesP1 s4) (seesP1 s4) hw4
        rw [sameProg_self] at c4
        go_wp2_with fail
        refine c4.mono ?_
        rintro e w5 ⟨rfl, b5⟩
        clear c4
        go_wp2
        go_ret
        exact ⟨rfl, b1.trans ((bb4.trans (b5.mono hw4)).mono hw1)⟩

theorem walkShapes (a : Option Addr) (len cap : Nat) (zs : List Int) (w : World) (h : Args.IsRow .u8 w a len cap zs) :
    Calls Try.prog 3 #[.slice a len cap] w fun e w' => e = .returned (.bool true) ∧ Below w.heap.size w w' := by
  by_cases hb : 1048576 < len
  · exact shapesBig a len cap w hb
  · obtain ⟨l, hl, hC⟩ := Args.code h
    subst hl
    exact shapesFn l a cap w hC (by omega)
end Ops
end Go.Proofs.Ythmkijbokfiljaa
