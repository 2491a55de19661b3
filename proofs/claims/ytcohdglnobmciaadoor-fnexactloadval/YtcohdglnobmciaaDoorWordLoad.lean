/- The specification's LoadLock and LoadVal. -/
import Derived.Test.YtcohdglnobmciaaDoorWordFind
namespace Go.Proofs.YtcohdglnobmciaaDoor
open Go.RowKit
namespace Words

set_option maxRecDepth 100000 in
set_option maxHeartbeats 800000 in
theorem specLoadLock (c : Int) (v : Value) (ws : List W3) (i : Int) (B : Nat) (w : World) (hv : Sees B w v ws) (hB : B ≤ w.heap.size) :
    Calls Tryd.prog 10 #[.agg #[.int .i64 c, v], .int .i64 i] w fun e w' => e = .returned (.tuple #[.int .i64 (verAt c ws i), .int .i64 (ownAt c ws i), .bool (canAt c ws i)]) ∧ Below w.heap.size w w' := by
  obtain ⟨a, cap, rfl⟩ := hv.form
  have hb0 := (Below.refl w.heap.size w).alloc (Nat.le_refl _) (.cells #[.int .i64 c, .slice a ws.length cap] 30)
  have hv0 := hv.on hb0 hB
  have X0 := Box.new w c (.slice a ws.length cap) 30
  have cO := specOk c _ ws B _ hv0 (by simp; omega)
  by_cases h : canAt c ws i = true
  · have e1 : verAt c ws i = (wAt ws i).ver := by unfold verAt; rw [if_pos h]
    have e2 : ownAt c ws i = (wAt ws i).own := by unfold ownAt; rw [if_pos h]
    rw [e1, e2, h]
    obtain ⟨hok, h0, h8⟩ := canAt_out h
    have hl := (memOk_out hok).1
    rw [hok] at cO
    obtain ⟨k, rfl⟩ := Int.eq_ofNat_of_zero_le h0
    rw [hl] at cO hb0 hv0 X0 ⊢
    obtain ⟨x, hx⟩ : ∃ x, wAt ws (k : Int) = x := ⟨_, rfl⟩
    have HX : Hid (wAt ws (k : Int) = x) := hx
    have h7 : (k : Int) ≤ 7 := by omega
    rw [hx]
    clear h e1 e2 hx hok
    go_enter Tryd.func10, Tryd.ntmps10
    go_wp2_with fail
    refine cO.mono ?_
    rintro e w1 ⟨rfl, b1⟩
    have hv1 := hv0.on b1 (by simp; omega)
    obtain ⟨b, off, rfl, hb, a0, a1, a2⟩ := at_of hv1 k (by omega)
    rw [HX.out] at a0 a1 a2
    have X1 := X0.on b1 (by simp); have k0 := X1.c0; have k1 := X1.c1
    have hbw := hb0.trans (b1.mono hb0.size)
    clear cO
    go_wp2
    go_region
    all_goals
      go_wp2
      go_ret3
      exact ⟨rfl, by first | exact hbw.drew | exact hbw⟩
  · have h' : canAt c ws i = false := by simpa using h
    have e1 : verAt c ws i = 0 := by unfold verAt; rw [if_neg h]
    have e2 : ownAt c ws i = 0 := by unfold ownAt; rw [if_neg h]
    rw [e1, e2, h']
    have hcase := canAt_no h
    clear h h' e1 e2
    rcases hcase with hok | ⟨hok, h1⟩ | ⟨hok, h1, h2⟩
    all_goals
      try have h7 : decide (i ≤ 7) = false := by (simp; omega)
      rw [hok] at cO
      clear hok
      go_enter Tryd.func10, Tryd.ntmps10
      go_wp2_with fail
      refine cO.mono ?_
      rintro e w1 ⟨rfl, b1⟩
      have hbw := hb0.trans (b1.mono hb0.size)
      clear cO
      go_wp2
      go_ret3
      exact ⟨rfl, hbw⟩

set_option maxRecDepth 100000 in
set_option maxHeartbeats 800000 in
theorem specLoadVal (c : Int) (v : Value) (ws : List W3) (i : Int) (B : Nat) (w : World) (hv : Sees B w v ws) (hB : B ≤ w.heap.size) :
    Calls Tryd.prog 14 #[.agg #[.int .i64 c, v], .int .i64 i] w fun e w' => e = .returned (.tuple #[.int .i64 (valAt c ws i), .bool (canAt c ws i)]) ∧ Below w.heap.size w w' := by
  obtain ⟨a, cap, rfl⟩ := hv.form
  have hb0 := (Below.refl w.heap.size w).alloc (Nat.le_refl _) (.cells #[.int .i64 c, .slice a ws.length cap] 30)
  have hv0 := hv.on hb0 hB
  have X0 := Box.new w c (.slice a ws.length cap) 30
  have cO := specOk c _ ws B _ hv0 (by simp; omega)
  by_cases h : canAt c ws i = true
  · have e1 : valAt c ws i = (wAt ws i).val := by unfold valAt; rw [if_pos h]
    rw [e1, h]
    obtain ⟨hok, h0, h8⟩ := canAt_out h
    have hl := (memOk_out hok).1
    rw [hok] at cO
    obtain ⟨k, rfl⟩ := Int.eq_ofNat_of_zero_le h0
    rw [hl] at cO hb0 hv0 X0 ⊢
    obtain ⟨x, hx⟩ : ∃ x, wAt ws (k : Int) = x := ⟨_, rfl⟩
    have HX : Hid (wAt ws (k : Int) = x) := hx
    have h7 : (k : Int) ≤ 7 := by omega
    rw [hx]
    clear h e1 hx hok
    go_enter Tryd.func14, Tryd.ntmps14
    go_wp2_with fail
    refine cO.mono ?_
    rintro e w1 ⟨rfl, b1⟩
    have hv1 := hv0.on b1 (by simp; omega)
    obtain ⟨b, off, rfl, hb, a0, a1, a2⟩ := at_of hv1 k (by omega)
    rw [HX.out] at a0 a1 a2
    have X1 := X0.on b1 (by simp); have k0 := X1.c0; have k1 := X1.c1
    have hbw := hb0.trans (b1.mono hb0.size)
    clear cO
    go_wp2
    go_ret2
    exact ⟨rfl, hbw⟩
  · have h' : canAt c ws i = false := by simpa using h
    have e1 : valAt c ws i = 0 := by unfold valAt; rw [if_neg h]
    rw [e1, h']
    have hcase := canAt_no h
    clear h h' e1
    rcases hcase with hok | ⟨hok, h1⟩ | ⟨hok, h1, h2⟩
    all_goals
      try have h7 : decide (i ≤ 7) = false := by (simp; omega)
      rw [hok] at cO
      clear hok
      go_enter Tryd.func14, Tryd.ntmps14
      go_wp2_with fail
      refine cO.mono ?_
      rintro e w1 ⟨rfl, b1⟩
      have hbw := hb0.trans (b1.mono hb0.size)
      clear cO
      go_wp2
      go_ret2
      exact ⟨rfl, hbw⟩
end Words
end Go.Proofs.YtcohdglnobmciaaDoor
