/- spec.l3Any draws a memory that may be none. -/
import Derived.Test.YtpjcbdanahiapaaWordDrawMem
import Derived.Deep.RegionHeld3
namespace Go.Proofs.Ytpjcbdanahiapaa
open Go.RowKit
namespace Words
open Draw (Ctx belowC onceC pickC)
open Num (below belowSt below_range)

/-- one number of a word turned: some words still -/
theorem wv_turn (ws : List W3) : ∀ (k f : Nat) (y : Int), k < ws.length → f < 3 → ∃ ws' : List W3, ws'.length = ws.length ∧ (wv ws).set (k * 3 + f) (.int .i64 y) = wv ws' := by
  induction ws with
  | nil => intro k f y h; simp at h
  | cons x r ih =>
    intro k f y h hf
    match k, h with
    | 0, _ =>
      match f, hf with
      | 0, _ => exact ⟨⟨y, x.ver, x.own⟩ :: r, rfl, rfl⟩
      | 1, _ => exact ⟨⟨x.val, y, x.own⟩ :: r, rfl, rfl⟩
      | 2, _ => exact ⟨⟨x.val, x.ver, y⟩ :: r, rfl, rfl⟩
    | k + 1, h =>
      obtain ⟨ws', h1, h2⟩ := ih k f y (by simpa using h) hf
      refine ⟨x :: ws', by simp [h1], ?_⟩
      rw [show (k + 1) * 3 + f = k * 3 + f + 3 by omega, wv_cons, wv_cons, ← h2]
      rfl
theorem wv_take (ws : List W3) : ∀ k, (wv ws).take (k * 3) = wv (ws.take k) := by
  induction ws with
  | nil => intro k; simp [wv]
  | cons x r ih =>
    intro k
    match k with
    | 0 => simp [wv]
    | k + 1 =>
      rw [show (k + 1) * 3 = k * 3 + 3 by omega, wv_cons, List.take_succ_cons, List.take_succ_cons, List.take_succ_cons, ih k, List.take_succ_cons, wv_cons]
theorem turnW {B n cap gb : Nat} {W : World} {ws : List W3} (R : W.ownsRow B 37 3 (.slice (some ⟨gb, 0, none⟩) n cap) n (wv ws)) (k f : Nat) (y : Int) (hk : k < ws.length) (hf : f < 3) :
    ∃ ws' : List W3, ws'.length = ws.length ∧ (W.setCell ⟨gb, k * 3 + f, none⟩ (.int .i64 y)).ownsRow B 37 3 (.slice (some ⟨gb, 0, none⟩) n cap) n (wv ws') := by
  obtain ⟨ws', h1, h2⟩ := wv_turn ws k f y hk hf
  exact ⟨ws', h1, by rw [← h2]; exact (R.stored _ _).1⟩
theorem own_cut {B n cap g : Nat} {w : World} {ws : List W3} (h : w.ownsRow B 37 3 (.slice (some ⟨g, 0, none⟩) n cap) n (wv ws)) (k : Nat) (hk : k ≤ n) : w.ownsRow B 37 3 (.slice (some ⟨g, 0, none⟩) k cap) k (wv (ws.take k)) := by
  have hl := owns_len h
  rcases h.2 with ⟨h', _⟩ | ⟨g', cap', cur, h', hb, hg, hn, hm, hs, ht⟩
  · cases h'
  · cases h'
    refine ⟨by rw [wv_length]; simp; omega, .inr ⟨g, cap, cur, rfl, hb, hg, by omega, hm, hs, ?_⟩⟩
    rw [← wv_take, ← ht, List.take_take, Nat.min_eq_left (by omega)]

set_option maxRecDepth 100000 in
set_option maxHeartbeats 4000000 in
theorem anyC (B g : Nat) (v : Value) (l : List UInt8) (s : Num.St) (w : World) (h : Ctx B g v l s w) :
    Calls Try.prog 48 #[.pointer (some ⟨g, 0, none⟩)] w fun e w' => ∃ (c : Int) (v' : Value) (ws : List W3) (s' : Num.St), e = .returned (.agg #[.int .i64 c, v']) ∧ Owns w.heap.size w' v' ws ∧ ws.length ≤ 8 ∧ 0 ≤ c ∧ c ≤ 1000001 ∧ Ctx B g v l s' w' ∧ w.grownBy w' (some g) := by
  have hlt := h.cur.lt
  have Y0 := Box.new w 0 (.slice none 0 0) 26
  have C0 := Ctx.alloc h (.cells #[.int .i64 0, .slice none 0 0] 26)
  go_enter Try.func48, Try.ntmps48
  go_wp2_with fail
  refine (memC B g v l s _ C0).mono ?_
  rintro e w1 ⟨c, v1, ws, s1, rfl, O1, hl, hc0, hc1, C1, g1⟩
  obtain ⟨gb, cap, rfl⟩ : ∃ gb cap, v1 = .slice (some ⟨gb, 0, none⟩) 8 cap := by
    rcases O1.2 with ⟨_, h0⟩ | ⟨gb, cap, cur, rfl, _⟩
    · omega
    · exact ⟨gb, cap, by rw [hl]⟩
  obtain ⟨hgb, hgb'⟩ := O1.at gb rfl
  have hgb : w.heap.size + 1 ≤ gb := by simpa using hgb
  have R1 : w1.ownsRow (w.heap.size + 1) 37 3 (.slice (some ⟨gb, 0, none⟩) 8 cap) 8 (wv ws) := by have := O1; unfold Owns at this; rw [hl] at this; simpa using this
  have Y1 := Y0.grownG g1 (by omega)
  have gw1 : w.grownBy w1 (some g) := ⟨g1.os, g1.tape, g1.output, Nat.le_trans (by simp) g1.size, fun k hk hne => (g1.block k (by simp; omega) hne).trans (Below.heap_alloc w _ k hk)⟩
  have Bn := (Below.refl w1.heap.size w1).alloc (Nat.le_refl _) (.cells #[.int .i64 c, .slice (some ⟨gb, 0, none⟩) 8 cap] 26)
  have X2 := Box.new w1 c (.slice (some ⟨gb, 0, none⟩) 8 cap) 26
  have Y2 := Y1.on Bn Y1.lt
  have R2 := owns_on R1 Bn (Nat.le_refl _)
  have C2 := Ctx.alloc C1 (.cells #[.int .i64 c, .slice (some ⟨gb, 0, none⟩) 8 cap] 26)
  have gw2 := grown_below gw1 Bn gw1.size
  obtain ⟨W2, hW2⟩ : ∃ W2, w1.alloc (.cells #[.int .i64 c, .slice (some ⟨gb, 0, none⟩) 8 cap] 26) = W2 := ⟨_, rfl⟩
  obtain ⟨p, hp⟩ : ∃ p, w1.heap.size = p := ⟨_, rfl⟩
  rw [hW2] at X2 Y2 R2 C2 gw2
  rw [hp] at X2 hgb'
  have hwp : w.heap.size < p := by omega
  clear C0 Y0 C1 g1 Y1 gw1 Bn h O1 R1
  go_wp2_with fail
  clear hW2 hp
  refine (belowC B g v l s1 8 W2 C2).mono ?_
  rintro e w3 ⟨rfl, C3, g3⟩
  have hkr := below_range l s1 8 (by omega)
  obtain ⟨kk, hkk⟩ : ∃ kk, below l s1 8 = kk := ⟨_, rfl⟩
  rw [hkk] at hkr ⊢
  clear hkk
  obtain ⟨k, rfl⟩ := Int.eq_ofNat_of_zero_le hkr.1
  have hk8 : k < 8 := by omega
  have X3 := X2.grownG g3 (by omega); have Y3 := Y2.grownG g3 (by omega); have R3 := own_grown R2 g3 (by omega); have gw3 := Draw.grown_trans gw2 g3
  clear X2 Y2 R2 C2 gw2 g3
  go_wp2_with fail
  refine (belowC B g v l _ 30 w3 C3).mono ?_
  rintro e w4 ⟨rfl, C4, g4⟩
  have hdr := below_range l (belowSt l s1 8) 30 (by omega)
  obtain ⟨d, hd⟩ : ∃ d, below l (belowSt l s1 8) 30 = d := ⟨_, rfl⟩
  rw [hd] at hdr ⊢
  clear hd
  have X4 := X3.grownG g4 (by omega); have Y4 := Y3.grownG g4 (by omega); have R4 := own_grown R3 g4 (by omega); have gw4 := Draw.grown_trans gw3 g4
  obtain ⟨s4, hs4⟩ : ∃ s4, belowSt l (belowSt l s1 8) 30 = s4 := ⟨_, rfl⟩
  rw [hs4] at C4
  clear X3 Y3 R3 C3 gw3 g4 hs4
  have x0 := X4.c0; have x1 := X4.c1; have xf := fun j => frozen_of_row w4 p j _ _ X4
  have y0 := Y4.c0; have y1 := Y4.c1; have yf := fun j => frozen_of_row w4 w.heap.size j _ _ Y4
  have fg := fun j => R4.frozenAt j
  obtain ⟨z0, z1, z2⟩ := owns_at R4 k (by omega)
  have n1 : gb ≠ p := by omega
  have n2 : p ≠ gb := by omega
  have n3 : w.heap.size ≠ gb := by omega
  have n4 : gb ≠ w.heap.size := by omega
  have n5 : w.heap.size ≠ p := by omega
  have n6 : p ≠ w.heap.size := by omega
  have pk : (k : Int) ≤ 8 := by omega
  have hcap : 8 ≤ cap := by
    rcases R4.2 with ⟨h', _⟩ | ⟨g', cap', cur, h', hb, hg, hn, _⟩
    · cases h'
    · cases h'; exact hn
  have pc : (k : Int) ≤ (cap : Int) := by omega
  have pc' : k ≤ cap := by omega
  have O4 : Owns (w.heap.size + 1) w4 (.slice (some ⟨gb, 0, none⟩) 8 cap) ws := by unfold Owns; rw [hl]; exact R4
  have turn : ∀ f y, f < 3 → ∃ ws' : List W3, ws'.length = 8 ∧ (w4.setCell ⟨gb, k * 3 + f, none⟩ (.int .i64 y)).ownsRow (w.heap.size + 1) 37 3 (.slice (some ⟨gb, 0, none⟩) 8 cap) 8 (wv ws') := by
    intro f y hf
    obtain ⟨ws', h1, h2⟩ := wv_turn ws k f y (by omega) hf
    exact ⟨ws', by omega, by rw [← h2]; exact (R4.stored _ _).1⟩
  rcases (show d = 0 ∨ d = 1 ∨ d = 2 ∨ d = 3 ∨ d = 4 ∨ d = 5 ∨ 6 ≤ d by omega) with rfl | rfl | rfl | rfl | rfl | rfl | hd6
  · have RC := own_cut R4 k (by omega)
    go_wp2
    refine bodyPost_ret (v := .agg #[.int .i64 c, .slice (some ⟨gb, 0, none⟩) k cap]) (by simp [results, Try.results48, go_sem, y0, y1]) rfl ⟨_, _, ws.take k, s4, rfl, ?_, by simp; omega, by omega, by omega, ?_, ?_⟩
    · have O5 : Owns (w.heap.size + 1) w4 (.slice (some ⟨gb, 0, none⟩) k cap) (ws.take k) := by unfold Owns; rw [show (ws.take k).length = k by simp; omega]; exact RC
      exact (((O5.other (p := ⟨p, 1, none⟩) (fun j hj => by cases hj; exact n1) _).setCell (by simp) _).setCell (by simp) _).mono (by omega)
    · exact Ctx.setFar (Ctx.setFar (Ctx.setFar C4 (by omega) 1 _) (by omega) 0 _) (by omega) 1 _
    · exact grown_setNew (grown_setNew (grown_setNew gw4 (by omega)) (by omega)) (by omega)
  · obtain ⟨ws', hl', RT⟩ := turn 1 (c + 1) (by omega)
    go_wp2
    refine bodyPost_ret (v := .agg #[.int .i64 c, .slice (some ⟨gb, 0, none⟩) 8 cap]) (by simp [results, Try.results48, go_sem, y0, y1]) rfl ⟨_, _, ws', s4, rfl, ?_, by omega, by omega, by omega, ?_, ?_⟩
    · have O5 : Owns (w.heap.size + 1) (w4.setCell ⟨gb, k * 3 + 1, none⟩ (.int .i64 (c + 1))) (.slice (some ⟨gb, 0, none⟩) 8 cap) ws' := by unfold Owns; rw [hl']; exact RT
      exact ((O5.setCell (by simp) _).setCell (by simp) _).mono (by omega)
    · exact Ctx.setFar (Ctx.setFar (Ctx.setFar C4 (by omega) _ _) (by omega) 0 _) (by omega) 1 _
    · exact grown_setNew (grown_setNew (grown_setNew gw4 (by omega)) (by omega)) (by omega)
  · obtain ⟨ws', hl', RT⟩ := turn 0 (65536) (by omega)
    go_wp2
    refine bodyPost_ret (v := .agg #[.int .i64 c, .slice (some ⟨gb, 0, none⟩) 8 cap]) (by simp [results, Try.results48, go_sem, y0, y1]) rfl ⟨_, _, ws', s4, rfl, ?_, by omega, by omega, by omega, ?_, ?_⟩
    · have O5 : Owns (w.heap.size + 1) (w4.setCell ⟨gb, k * 3 + 0, none⟩ (.int .i64 (65536))) (.slice (some ⟨gb, 0, none⟩) 8 cap) ws' := by unfold Owns; rw [hl']; exact RT
      exact ((O5.setCell (by simp) _).setCell (by simp) _).mono (by omega)
    · exact Ctx.setFar (Ctx.setFar (Ctx.setFar C4 (by omega) _ _) (by omega) 0 _) (by omega) 1 _
    · exact grown_setNew (grown_setNew (grown_setNew gw4 (by omega)) (by omega)) (by omega)
  · have hd2 := below_range l s4 2 (by omega)
    obtain ⟨d2, hd2'⟩ : ∃ d2, below l s4 2 = d2 := ⟨_, rfl⟩
    rw [hd2'] at hd2
    have hw1 : IntKind.i64.wrap (d2 * 101) = d2 * 101 := by rw [IntKind.wrap_i64]; omega
    have hw2 : IntKind.i64.wrap (100 - d2 * 101) = 100 - d2 * 101 := by rw [IntKind.wrap_i64]; omega
    have cB := belowC B g v l s4 2 w4.drew ⟨C4.code, C4.cur, C4.low, C4.len, C4.at_⟩
    rw [hd2'] at cB
    clear hd2' turn O4
    go_wp2_with fail
    go_region_held3 (fun W => W.cell? ⟨p, 1, none⟩ = some (.slice (some ⟨gb, 0, none⟩) 8 cap)) (go_keep) ((go_at_call 50; refine cB.mono ?_; rintro e w5 ⟨rfl, C5, g5⟩; have X5 := (Box.drew X4).grownG g5 (by omega); have Y5 := (Box.drew Y4).grownG g5 (by omega); have R5 := own_grown (w := w4.drew) R4 g5 (by omega); have xx0 := X5.c0; have xx1 := X5.c1; have fg5 := fun j => R5.frozenAt j; obtain ⟨u0, u1, u2⟩ := owns_at R5 k (by omega)))
    have yy0 := Y5.c0; have yy1 := Y5.c1; have yyf := fun j => frozen_of_row w5 w.heap.size j _ _ Y5
    obtain ⟨ws', hl', RT⟩ := turnW R5 k 2 (100 - d2 * 101) (by omega) (by omega)
    have gw5 : w.grownBy w5 (some g) := Draw.grown_trans gw4 ⟨g5.os, g5.tape, g5.output, g5.size, g5.block⟩
    clear x0 x1 xf y0 y1 yf fg z0 z1 z2
    go_wp2
    refine bodyPost_ret (v := .agg #[.int .i64 c, .slice (some ⟨gb, 0, none⟩) 8 cap]) (by simp [results, Try.results48, go_sem, yy0, yy1]) rfl ⟨_, _, ws', belowSt l s4 2, rfl, ?_, by omega, by omega, by omega, ?_, ?_⟩
    · have O5 : Owns (w.heap.size + 1) (w5.setCell ⟨gb, k * 3 + 2, none⟩ (.int .i64 (100 - d2 * 101))) (.slice (some ⟨gb, 0, none⟩) 8 cap) ws' := by unfold Owns; rw [hl', hl]; exact RT
      exact ((O5.setCell (by simp) _).setCell (by simp) _).mono (by omega)
    · exact Ctx.setFar (Ctx.setFar (Ctx.setFar C5 (by omega) _ _) (by omega) 0 _) (by omega) 1 _
    · exact grown_setNew (grown_setNew (grown_setNew gw5 (by omega)) (by omega)) (by omega)
  · go_wp2
    refine bodyPost_ret (v := .agg #[.int .i64 1000001, .slice (some ⟨gb, 0, none⟩) 8 cap]) (by simp [results, Try.results48, go_sem, y0, y1]) rfl ⟨_, _, ws, s4, rfl, ?_, by omega, by omega, by omega, ?_, ?_⟩
    · exact (((O4.other (p := ⟨p, 0, none⟩) (fun j hj => by cases hj; exact n1) _).setCell (by simp) _).setCell (by simp) _).mono (by omega)
    · exact Ctx.setFar (Ctx.setFar (Ctx.setFar C4 (by omega) 0 _) (by omega) 0 _) (by omega) 1 _
    · exact grown_setNew (grown_setNew (grown_setNew gw4 (by omega)) (by omega)) (by omega)
  · obtain ⟨ws', hl', RT⟩ := turn 1 (-1) (by omega)
    go_wp2
    refine bodyPost_ret (v := .agg #[.int .i64 c, .slice (some ⟨gb, 0, none⟩) 8 cap]) (by simp [results, Try.results48, go_sem, y0, y1]) rfl ⟨_, _, ws', s4, rfl, ?_, by omega, by omega, by omega, ?_, ?_⟩
    · have O5 : Owns (w.heap.size + 1) (w4.setCell ⟨gb, k * 3 + 1, none⟩ (.int .i64 (-1))) (.slice (some ⟨gb, 0, none⟩) 8 cap) ws' := by unfold Owns; rw [hl']; exact RT
      exact ((O5.setCell (by simp) _).setCell (by simp) _).mono (by omega)
    · exact Ctx.setFar (Ctx.setFar (Ctx.setFar C4 (by omega) _ _) (by omega) 0 _) (by omega) 1 _
    · exact grown_setNew (grown_setNew (grown_setNew gw4 (by omega)) (by omega)) (by omega)
  · have e0 : (d == 0) = false := by simp; omega
    have e1 : (d == 1) = false := by simp; omega
    have e2 : (d == 2) = false := by simp; omega
    have e3 : (d == 3) = false := by simp; omega
    have e4 : (d == 4) = false := by simp; omega
    have e5 : (d == 5) = false := by simp; omega
    go_wp2
    refine bodyPost_ret (v := .agg #[.int .i64 c, .slice (some ⟨gb, 0, none⟩) 8 cap]) (by simp [results, Try.results48, go_sem, y0, y1]) rfl ⟨_, _, ws, s4, rfl, ?_, by omega, by omega, by omega, ?_, ?_⟩
    · exact ((O4.setCell (by simp) _).setCell (by simp) _).mono (by omega)
    · exact Ctx.setFar (Ctx.setFar C4 (by omega) 0 _) (by omega) 1 _
    · exact grown_setNew (grown_setNew gw4 (by omega)) (by omega)
end Words
end Go.Proofs.Ytpjcbdanahiapaa
