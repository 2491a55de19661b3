/- What the specification's SerialKid answers. -/
import Derived.Test.YtppkohkcffnghaaKidImpl
import Derived.Test.YtppkohkcffnghaaWalkNo
import Derived.Test.YtppkohkcffnghaaShapeSpec4
set_option linter.unusedVariables false
set_option linter.unusedSimpArgs false
namespace Go.Proofs.Ytppkohkcffnghaa
open Go.RowKit
namespace Ops
open Bas Flat

/-- two new empty rows -/
theorem kid_bad2 {xs : List O4} {zs cs : List Int} {w w' : World} {q : Nat} (hq : w'.heap.size = q) (h : (kidOk xs && regsOk zs && cellsOk cs) = false) (hb : Below w.heap.size w w') : KidAns xs zs cs w (.returned (.tuple #[.int .i64 0, .slice (some ⟨q, 0, none⟩) 0 0, .slice (some ⟨q + 1, 0, none⟩) 0 0])) ((w'.alloc (.cells #[] 3)).alloc (.cells #[] 3)) := by
  subst hq
  have u1 := Ints.owns_lit w' (B := w.heap.size) hb.size
  have z1 : (w'.alloc (.cells #[] 3)).heap.size = w'.heap.size + 1 := by simp
  have b2 := alloc_below (w'.alloc (.cells #[] 3)) (.cells #[] 3)
  have u2 := Ints.owns_lit (w'.alloc (.cells #[] 3)) (B := w.heap.size) (by rw [z1]; have := hb.size; omega)
  rw [z1] at u2
  refine ⟨0, [], [], _, _, rfl, .inr ⟨h, rfl, rfl, rfl⟩, u1.on b2 (Nat.le_refl _), u2, fun k h1 h2 => ?_, (hb.trans ((alloc_below w' _).mono hb.size)).trans (b2.mono (by rw [z1]; have := hb.size; omega))⟩
  have a := ob_eq h1
  have b := ob_eq h2
  omega

set_option maxRecDepth 100000 in
set_option maxHeartbeats 3200000 in
theorem kidSpecC (vC vr vc : Value) (xs : List O4) (zs cs : List Int) (B : Nat) (w : World) (hx : Sees4 B w vC xs) (hr : Ints.Sees B w vr zs) (hc : Ints.Sees B w vc cs) (hB : B ≤ w.heap.size) (hlen : xs.length ≤ 1048576) :
    Calls Try.prog 38 #[vC, vr, vc] w (KidAns xs zs cs w) := by
  have cK := kidSpec vC xs B w hx hB hlen
  obtain ⟨bK, hbK⟩ : ∃ b, kidOk xs = b := ⟨_, rfl⟩
  rw [hbK] at cK
  cases bK with
  | false =>
    have HF : Hid ((kidOk xs && regsOk zs && cellsOk cs) = false) := by show _ = _; rw [hbK]; rfl
    go_enter Try.func38, Try.ntmps38
    go_wp2_with (go_at_call 11; refine cK.mono ?_; rintro e w1 ⟨rfl, b1⟩; obtain ⟨q, hq⟩ : ∃ q, w1.heap.size = q := ⟨_, rfl⟩)
    go_ret3
    exact kid_bad2 hq HF.out b1
  | true =>
    obtain ⟨bR, hbR⟩ : ∃ b, regsOk zs = b := ⟨_, rfl⟩
    obtain ⟨bC, hbC⟩ : ∃ b, cellsOk cs = b := ⟨_, rfl⟩
    have cR : ∀ w1, Below w.heap.size w w1 → Calls Try.prog 83 #[vr] w1 fun e w' => e = .returned (.bool bR) ∧ w1 = w' := fun w1 b1 => by
      have := regsSpec vr zs B w1 (hr.on b1 hB)
      rw [hbR] at this; exact this
    have cV : ∀ w1, Below w.heap.size w w1 → Calls Try.prog 69 #[vc] w1 fun e w' => e = .returned (.bool bC) ∧ w1 = w' := fun w1 b1 => by
      have := Ths.specCells vc cs B w1 (hc.on b1 hB)
      rw [hbC] at this; exact this
    cases bR with
    | false =>
      have HF : Hid ((kidOk xs && regsOk zs && cellsOk cs) = false) := by show _ = _; rw [hbK, hbR]; rfl
      go_enter Try.func38, Try.ntmps38
      go_wp2_with (first | (go_at_call 11; refine cK.mono ?_; rintro e w1 ⟨rfl, b1⟩; obtain ⟨q, hq⟩ : ∃ q, w1.heap.size = q := ⟨_, rfl⟩) | (go_at_call 83; refine (cR _ b1).mono ?_; rintro e w2 ⟨rfl, rfl⟩))
      go_ret3
      exact kid_bad2 hq HF.out b1
    | true =>
      cases bC with
      | false =>
        have HF : Hid ((kidOk xs && regsOk zs && cellsOk cs) = false) := by show _ = _; rw [hbK, hbR, hbC]; rfl
        go_enter Try.func38, Try.ntmps38
        go_wp2_with (first | (go_at_call 11; refine cK.mono ?_; rintro e w1 ⟨rfl, b1⟩; obtain ⟨q, hq⟩ : ∃ q, w1.heap.size = q := ⟨_, rfl⟩) | (go_at_call 83; refine (cR _ b1).mono ?_; rintro e w2 ⟨rfl, rfl⟩) | (go_at_call 69; refine (cV _ b1).mono ?_; rintro e w2 ⟨rfl, rfl⟩))
        go_ret3
        exact kid_bad2 hq HF.out b1
      | true =>
        have HF : Hid ((kidOk xs && regsOk zs && cellsOk cs) = true) := by show _ = _; rw [hbK, hbR, hbC]; rfl
        have HK : Hid (kidOk xs = true) := hbK
        have HR : Hid (regsOk zs = true) := hbR
        have HC : Hid (cellsOk cs = true) := hbC
        obtain ⟨aC, cC, rfl⟩ := hx.form
        obtain ⟨ar, cr, rfl⟩ := hr.form
        obtain ⟨ac, cc, rfl⟩ := hc.form
        clear hbK hbR hbC
        go_enter Try.func38, Try.ntmps38
        go_wp2_with (first | (go_at_call 11; refine cK.mono ?_; rintro e w1 ⟨rfl, b1⟩; obtain ⟨w2, m1, m2, m3, m4⟩ := Ints.makeI 8 (by omega) w1 w1.heap.size (Nat.le_refl _); obtain ⟨q, hq⟩ : ∃ q, w1.heap.size = q := ⟨_, rfl⟩; rw [hq] at m3 m4 m2; have m3 : (Instr.makeSlice 25 (.int .i64 8) (.int .i64 8)).run Try.prog w1 = .ok (.slice (some ⟨q, 0, none⟩) 8 8) w2 := m3) | (go_at_call 83; refine (cR _ b1).mono ?_; rintro e w2' ⟨rfl, rfl⟩) | (go_at_call 69; refine (cV _ b1).mono ?_; rintro e w2' ⟨rfl, rfl⟩))
        have b2 := b1.trans (m1.mono b1.size)
        have OM : Ints.Owns q w2 (.slice (some ⟨q, 0, none⟩) 8 8) (zeros 8) := m4
        have z2 : w.heap.size ≤ w2.heap.size := b2.size
        have cW := walkNo (.slice aC xs.length cC) xs w2.heap.size w2 ((hx.on b2 hB).up (by omega)) (Nat.le_refl _) (kid_dry HK.out).1 (kid_dry HK.out).2.1 (.slice ar zs.length cr) zs ((hr.on b2 hB).up (by omega)) HR.out (.slice ac cs.length cc) (.slice (some ⟨q, 0, none⟩) 8 8) ⟨cs, zeros 8, 0⟩ ⟨(hc.on b2 hB).up (by omega), OM.sees⟩ (zeros_ok HC.out)
        refine cW.mono ?_
        rintro e w3 ⟨⟨v', vc', vm', qq, rfl, hE, o1, o2, o3, o4, o5, o6, o7⟩, b3⟩
        have HA : Hid (KidTold xs zs cs qq.out qq.r qq.t.c) := .inl ⟨HF.out, ⟨qq, hE, rfl, rfl, rfl, o7⟩, o5, o6⟩
        obtain ⟨qo, qr, qt⟩ := qq
        obtain ⟨a1, k1, rfl⟩ := o1.form
        obtain ⟨a2, k2, rfl⟩ := o2.c.form
        obtain ⟨a3, k3, rfl⟩ := o2.m.form
        have X4 := Blk.new w3 #[.int .i64 qo, .slice a1 qr.length k1, .slice a2 qt.c.length k2, .slice a3 qt.m.length k3, .int .i64 qt.n] 45
        have b4 := alloc_below w3 (.cells #[.int .i64 qo, .slice a1 qr.length k1, .slice a2 qt.c.length k2, .slice a3 qt.m.length k3, .int .i64 qt.n] 45)
        obtain ⟨w4, hw4⟩ : ∃ W, w3.alloc (.cells #[.int .i64 qo, .slice a1 qr.length k1, .slice a2 qt.c.length k2, .slice a3 qt.m.length k3, .int .i64 qt.n] 45) = W := ⟨_, rfl⟩
        rw [hw4] at X4 b4
        have x0 := X4.cell 0; have x1 := X4.cell 1; have x2 := X4.cell 2
        have bF := (b2.trans (b3.mono z2)).trans (b4.mono (Nat.le_trans z2 b3.size))
        have Oa := ((o1.on b4 (Nat.le_refl _)).mono z2)
        have Ob := ((o2.c.on b4 (Nat.le_refl _)).mono z2)
        clear cK cR cV cW m1 m2 m3 m4 hE o5 o6 o7
        go_wp2
        go_region
        all_goals
          go_wp2
          go_ret3
          exact ⟨qo, qr, qt.c, _, _, rfl, HA.out, Oa, Ob, o3, bF.drew⟩
end Ops
end Go.Proofs.Ytppkohkcffnghaa
