/- What reaches answers, if step does what it should. -/
import Derived.Test.YtppkohkcffnghaaDoCatch
set_option linter.unusedVariables false
set_option linter.unusedSimpArgs false
namespace Go.Proofs.Ytppkohkcffnghaa
open Go.RowKit
namespace Ops
open Bas Flat

/-- a doing on its way: its block, its code -/
structure Dc (B : Nat) (W : World) (p : Nat) (vC vK vO : Value) (xs : List O4) (r : List Int) (t : Th) : Prop where
  d : Dn W p vC vK vO (nums r t)
  c : Sees4 B W vC xs
  hB : B ≤ p
section
variable {B p : Nat} {W W' : World} {vC vK vO : Value} {xs : List O4} {r : List Int} {t : Th}
theorem Dc.on (h : Dc B W p vC vK vO xs r t) {B' : Nat} (hb : Below B' W W') (hp : p < B') : Dc B W' p vC vK vO xs r t :=
  { d := h.d.on hb hp, c := h.c.on hb (by have := h.hB; omega), hB := h.hB }
theorem Dc.drew (h : Dc B W p vC vK vO xs r t) : Dc B W.drew p vC vK vO xs r t := { d := h.d, c := h.c, hB := h.hB }
theorem Dc.code (h : Dc B W p vC vK vO xs r t) (ho : Only p W W') : Sees4 B W' vC xs := h.c.on (ho.below (B := B) (by have := h.hB; have := h.d.lt; omega) h.hB) (Nat.le_refl _)
end
/-- a premise about worlds that stays while p alone changes -/
def Stays (p : Nat) (Q : World → Prop) : Prop := ∀ W W', Q W → Only p W W' → Q W'
/-- what step does -/
def StepTo (B p : Nat) (vC vK vO : Value) (xs : List O4) (t0 : Th) (F : List Int → Th → List Int × Th) (s : Cf) (W : World) : Ending → World → Prop := fun e W' =>
  (∃ (i : Nat) (r : List Int) (t : Th), e = .returned (.int .i64 (i : Int)) ∧ s.pc < i ∧ Leads xs t0 F s ⟨i, r, t, s.k⟩ ∧ CfOk xs ⟨i, r, t, s.k⟩ ∧ Dc B W' p vC vK vO xs r t ∧ Only p W W') ∨
  ((∃ h : s.pc < xs.length, xs[s.pc].k = 10) ∧ e = .panicked [{ v := gave, recovered := false }] ∧ Dc B W' p vC vK vO xs s.r s.t ∧ Only p W W')
/-- what reaches does -/
def ReachTo (B p : Nat) (vC vK vO : Value) (xs : List O4) (t0 : Th) (F : List Int → Th → List Int × Th) (s : Cf) (to : Nat) (W : World) : Ending → World → Prop := fun e W' =>
  ∃ (b : Bool) (r : List Int) (t : Th), e = .returned (.bool b) ∧ SegEnds xs t0 F s to b r t ∧ Dc B W' p vC vK vO xs r t ∧ Only p W W'

set_option maxRecDepth 100000 in
set_option maxHeartbeats 3200000 in
theorem reachOf (B p : Nat) (vC vK vO : Value) (xs : List O4) (t0 : Th) (F : List Int → Th → List Int × Th) (Q : World → Prop) (hQ : Stays p Q) (fr to : Nat) (hseg : Seg xs fr to) (hlen : xs.length ≤ 1048576)
    (hstep : ∀ (s : Cf) (W : World), fr ≤ s.pc → s.pc < to → CfOk xs s → stAt xs s.pc = stAt xs fr → Dc B W p vC vK vO xs s.r s.t → Q W →
      Calls Try.prog 114 #[.pointer (some ⟨p, 0, none⟩), .int .i64 (s.pc : Int)] W (StepTo B p vC vK vO xs t0 F s W))
    (s : Cf) (hs : CfOk xs s) (hpc : s.pc = fr) (W : World) (hd : Dc B W p vC vK vO xs s.r s.t) (hq : Q W) :
    Calls Try.prog 95 #[.pointer (some ⟨p, 0, none⟩), .int .i64 (fr : Int), .int .i64 (to : Int)] W (ReachTo B p vC vK vO xs t0 F s to W) := by
  have hmf : ∀ (fn : Fn) (first cap : Array Value) (w : World), (Instr.makeFunc fn first cap).run Try.prog w = .ok (.func fn first cap) w := fun _ _ _ _ => rfl
  obtain ⟨q, hqq⟩ : ∃ q, W.heap.size = q := ⟨_, rfl⟩
  have hp := hd.d.lt
  have R1 := Blk.new W #[.bool false] 4
  have b1 := alloc_below W (.cells #[.bool false] 4)
  have d1 := hd.on b1 hp
  have o1 : Only p W (W.alloc (.cells #[.bool false] 4)) := Only.of b1
  have q1 := hQ _ _ hq o1
  rw [hqq] at R1 hp
  obtain ⟨W1, hW1⟩ : ∃ W1, W.alloc (.cells #[.bool false] 4) = W1 := ⟨_, rfl⟩
  have HW1 := (show Hid _ from hW1)
  rw [hW1] at R1 d1 o1 q1
  clear hW1 b1
  go_enter_defers Try.func95, Try.ntmps95
  go_wp2
  rw [HW1.out]
  go_loopw [7] (fun iv wr => ∃ (k : Nat) (r : List Int) (t : Th), iv = .int .i64 (k : Int) ∧ fr ≤ k ∧ k ≤ to ∧ Leads xs t0 F s ⟨k, r, t, s.k⟩ ∧ CfOk xs ⟨k, r, t, s.k⟩ ∧ Dc B wr p vC vK vO xs r t ∧ Only p W wr ∧ Q wr ∧ Blk wr q #[.bool false] 4) (fun iv _ => to - (intOf iv).toNat)
  case atStart => exact ⟨fr, s.r, s.t, rfl, Nat.le_refl _, hseg.le, by rw [← hpc]; exact Leads.refl _, by rw [← hpc]; exact hs, d1, o1, q1, R1⟩
  case round =>
    obtain ⟨k, r, t, rfl, h1, h2, hl, hok, hd2, ho, hq2, hR⟩ := hrel
    clear d1 o1 q1 R1 hd hq HW1
    by_cases hlt : k < to
    · have i1 : (k : Int) < to := by omega
      have hst : stAt xs k = stAt xs fr := by
        have a := hok.st
        have b := hs.st
        rw [hpc] at b
        exact a.trans b.symm
      have cS := hstep ⟨k, r, t, s.k⟩ wr h1 hlt hok hst hd2 hq2
      go_wp2_with fail
      refine cS.mono ?_
      rintro e w2 (⟨i2, r2, t2, rfl, hi2, hl2, hok2, hd3, ho3⟩ | ⟨⟨hk, h10⟩, rfl, hd3, ho3⟩)
      · have hle : i2 ≤ to := hseg.cap i2 hok2.pc (by
          have a := hok2.st
          have b := hok.st
          exact (a.trans b.symm).trans hst)
        have hR2 : Blk w2 q #[.bool false] 4 := (ho3.block q hR.lt (by omega)).trans hR
        have hi2' : k < i2 := hi2
        go_wp2
        go_roundw
        case rel => exact ⟨i2, r2, t2, rfl, by omega, hle, hl.trans hl2, hok2, hd3, ho.trans ho3, hQ _ _ hq2 ho3, hR2⟩
        case measure => simp [intOf]; omega
      · have hR2 : Blk w2 q #[.bool false] 4 := (ho3.block q hR.lt (by omega)).trans hR
        have r0 := hR2.cell 0
        have f0 := hR2.froz 0
        have h0 : w2.cell? ⟨q, 0, none⟩ = some (.bool false) := r0
        have bF : Below q w2 ((w2.alloc (.cells #[] 144)).setCell ⟨q, 0, none⟩ (.bool false)) := ((alloc_below w2 _).mono (Nat.le_of_lt hR2.lt)).setCell (p := ⟨q, 0, none⟩) (Nat.le_refl _) _
        have oF : Only p W ((w2.alloc (.cells #[] 144)).setCell ⟨q, 0, none⟩ (.bool false)) := ((ho.trans ho3).alloc _).setNew (by omega) _ _
        have dF := hd3.on bF hp
        have hE : SegEnds xs t0 F s to false r t := .gave hk h10 hl hok
        have HR3 : Blk ((w2.alloc (.cells #[] 144)).setCell ⟨q, 0, none⟩ (.bool false)) q #[.bool false] 4 := ((hR2.on (alloc_below w2 _) hR2.lt).set 0 (.bool false))
        go_wp2
        refine leaves_cons (f := 113) (args := #[.pointer (some ⟨q, 0, none⟩)]) (by simp) (by simp [go_sem]) ?_
        refine (catchPanic q w2 false h0 f0).mono ?_
        rintro e u' w'' ⟨rfl, rfl, rfl⟩
        have r3 := HR3.cell 0
        have f3 := HR3.froz 0
        have r3 : ((w2.alloc (.cells #[] 144)).setCell ⟨q, 0, none⟩ (.bool false)).cell? ⟨q, 0, none⟩ = some (.bool false) := r3
        obtain ⟨wf, hwf⟩ : ∃ wf, (w2.alloc (.cells #[] 144)).setCell ⟨q, 0, none⟩ (.bool false) = wf := ⟨_, rfl⟩
        rw [hwf] at r3 oF dF ⊢
        clear hwf
        simp [Leaves, settle, results, Try.results95, go_sem, r3]
        exact ⟨_, _, _, rfl, hE, dF, oF⟩
    · obtain rfl : k = to := by omega
      have r0 := hR.cell 0
      have f0 := hR.froz 0
      have h0 : wr.cell? ⟨q, 0, none⟩ = some (.bool false) := r0
      have R2 := hR.set 0 (.bool true)
      have bF : Below q wr (((wr.setCell ⟨q, 0, none⟩ (.bool true)).alloc (.cells #[] 144)).setCell ⟨q, 0, none⟩ (.bool true)) :=
        (((Below.refl q wr).setCell (p := ⟨q, 0, none⟩) (Nat.le_refl _) (.bool true)).trans ((alloc_below _ _).mono (Nat.le_of_lt R2.lt))).setCell (p := ⟨q, 0, none⟩) (Nat.le_refl _) _
      have oF : Only p W (((wr.setCell ⟨q, 0, none⟩ (.bool true)).alloc (.cells #[] 144)).setCell ⟨q, 0, none⟩ (.bool true)) := ((ho.setNew (by omega) _ _).alloc _).setNew (by omega) _ _
      have dF := hd2.on bF hp
      have hE : SegEnds xs t0 F s k true r t := .done hl hok
      have HR3 : Blk (((wr.setCell ⟨q, 0, none⟩ (.bool true)).alloc (.cells #[] 144)).setCell ⟨q, 0, none⟩ (.bool true)) q #[.bool true] 4 := ((R2.on (alloc_below _ _) R2.lt).set 0 (.bool true))
      have r2 : (wr.setCell ⟨q, 0, none⟩ (.bool true)).cell? ⟨q, 0, none⟩ = some (.bool true) := R2.cell 0
      have f2 : (wr.setCell ⟨q, 0, none⟩ (.bool true)).frozen? ⟨q, 0, none⟩ = false := R2.froz 0
      go_wp2
      refine leaves_cons (f := 113) (args := #[.pointer (some ⟨q, 0, none⟩)]) (by simp) (by simp [go_sem]) ?_
      refine (catchIdle q _ true r2 f2).mono ?_
      rintro e u' w'' ⟨rfl, rfl, rfl⟩
      have r3 : (((wr.setCell ⟨q, 0, none⟩ (.bool true)).alloc (.cells #[] 144)).setCell ⟨q, 0, none⟩ (.bool true)).cell? ⟨q, 0, none⟩ = some (.bool true) := HR3.cell 0
      obtain ⟨wf, hwf⟩ : ∃ wf, (((wr.setCell ⟨q, 0, none⟩ (.bool true)).alloc (.cells #[] 144)).setCell ⟨q, 0, none⟩ (.bool true)) = wf := ⟨_, rfl⟩
      rw [hwf] at r3 oF dF ⊢
      clear hwf
      simp [Leaves, settle, results, Try.results95, go_sem, r3]
      exact ⟨_, _, _, rfl, hE, dF, oF⟩
end Ops
end Go.Proofs.Ytppkohkcffnghaa
