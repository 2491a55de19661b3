/- Several texts of one proof, in build order: CommitPcheck. -/
import Derived.Test.YtppikpdphcfomaaDoorCB18
/- The program's steps of a commit. -/
set_option linter.unusedVariables false
set_option linter.unusedSimpArgs false
namespace Go.Proofs.YtppikpdphcfomaaDoor
open Go.RowKit
namespace Commits
open Bas Flat Logs
open Words (W3 lockMay lockTo storeMay storeTo unlockMay unlockTo tickC tickR Err wAt)



theorem word3_at {B : Nat} {w : World} {a : Option Addr} {n cap : Nat} {ws : List W3} (h : Words.Sees B w (.slice a n cap) ws) (k : Nat) (hk : k < n) : ∃ b off, a = some ⟨b, off, none⟩ ∧ b < B ∧ w.cell? ⟨b, off + k * 3, none⟩ = some (.int .i64 (wAt ws (k : Int)).val) ∧ w.cell? ⟨b, off + k * 3 + 1, none⟩ = some (.int .i64 (wAt ws (k : Int)).ver) ∧ w.cell? ⟨b, off + k * 3 + 2, none⟩ = some (.int .i64 (wAt ws (k : Int)).own) := by
  have hl : ws.length = n := by obtain ⟨a', cap', e, -⟩ := h; simp only [Value.slice.injEq] at e; exact e.2.1.symm
  obtain ⟨b, off, rfl, hb, hA⟩ := Words.at_of h k (by omega)
  exact ⟨b, off, rfl, hb, hA.1, hA.2.1, hA.2.2⟩
theorem int_at {B : Nat} {w : World} {a : Option Addr} {n cap : Nat} {zs : List Int} (h : Ints.Sees B w (.slice a n cap) zs) (k : Nat) (hk : k < n) : ∃ b off, a = some ⟨b, off, none⟩ ∧ b < B ∧ w.cell? ⟨b, off + k, none⟩ = some (.int .i64 (zs.getD k 0)) := by
  obtain ⟨a', cap', e, -, -, h3⟩ := h
  simp only [Value.slice.injEq] at e
  obtain ⟨rfl, hl, -⟩ := e
  obtain ⟨b, off, rfl, hb, hc⟩ := h3 (fun h => by simp [h] at hl; omega)
  refine ⟨b, off, rfl, hb, ?_⟩
  rw [hc k (by omega)]
  simp [List.getD, show k < zs.length by omega]
/-- does a cell that was read stand in the way? -/
def bad (x : W3) (who rv : Int) : Bool := (decide (x.own ≠ 0) && decide (x.own ≠ who)) || decide (rv < x.ver)

set_option maxRecDepth 100000 in
set_option maxHeartbeats 12800000 in
theorem checkI (who rv ph wv : Int) (k : Nat) (ap ar : Option Addr) (ps : List R2) (kp : Nat) (rs : List Int) (kr : Nat) (mc : Int) (ws : List W3) (av : Option Addr) (kv : Nat) (B : Nat) (w : World) (bE : Addr)
    (hM : Words.Sees B w (.slice av ws.length kv) ws) (hC : SeeC B w (.slice ap ps.length kp) (.slice ar rs.length kr) ps rs) (hE : Err w bE) (hB : B ≤ w.heap.size) (hl : ws.length ≤ 1048576) (hl1 : ps.length ≤ 300) (hl2 : rs.length ≤ 8) (hk : k < rs.length) (cn : Nat) (hcn : rs.getD k 0 = cn) (hcl : cn < ws.length) :
    Calls Tryd.prog 38 #[.agg #[.int .i64 who, .int .i64 rv, .int .i64 ph, .int .i64 k, .int .i64 wv, .slice ap ps.length kp, .slice ar rs.length kr], .agg #[.int .i64 mc, .slice av ws.length kv]] w fun e w' => e = .returned (.tuple #[.agg #[.int .i64 mc, .slice av ws.length kv], .agg #[.int .i64 who, .int .i64 rv, .int .i64 (if bad (wAt ws (rs.getD k 0)) who rv = true then phB ps.length else onPh ph k ps.length rs.length 4), .int .i64 (if bad (wAt ws (rs.getD k 0)) who rv = true then atB ps.length else onAt ph k ps.length rs.length), .int .i64 wv, .slice ap ps.length kp, .slice ar rs.length kr]]) ∧ Below w.heap.size w w' := by
  obtain ⟨g, hg⟩ : ∃ g, w.heap.size = g := ⟨_, rfl⟩
  obtain ⟨n, hn⟩ : ∃ n, ps.length = n := ⟨_, rfl⟩
  obtain ⟨m, hm⟩ : ∃ n, rs.length = n := ⟨_, rfl⟩
  obtain ⟨nw, hnw⟩ : ∃ n, ws.length = n := ⟨_, rfl⟩
  have hon := fun p (at' : Int) h0 h1 W => stepOnI who rv ph at' wv p ap ar ps kp rs kr W h0 h1
  have hbk := fun (x : Int) h0 h1 W => backI who rv ph k wv x ap ar n kp m kr W h0 h1
  rw [hn, hm] at hC hon
  rw [hn] at hl1
  rw [hm] at hl2 hk
  rw [hn, hm]
  rw [hnw] at hM hcl
  rw [hnw]
  rw [hcn]
  obtain ⟨bm, om, rfl, hbm, hwa, hwb, hwc⟩ := word3_at hM cn hcl
  obtain ⟨br, or', rfl, hbr, hrr⟩ := int_at hC.r k (by omega)
  rw [hcn] at hrr
  obtain ⟨x, hx⟩ : ∃ x, wAt ws (cn : Int) = x := ⟨_, rfl⟩
  rw [hx] at hwa hwb hwc
  rw [hx]
  obtain ⟨op, hop⟩ : ∃ y, (if bad x who rv = true then phB (n : Int) else onPh ph k n m 4) = y := ⟨_, rfl⟩
  obtain ⟨oa, hoa⟩ : ∃ y, (if bad x who rv = true then atB (n : Int) else onAt ph k n m) = y := ⟨_, rfl⟩
  rw [hop, hoa]
  have HOP := (show Hid _ from hop); have HOA := (show Hid _ from hoa)
  clear hop hoa hx hn hm
  have Cb := Blk.new w #[.int .i64 who, .int .i64 rv, .int .i64 ph, .int .i64 k, .int .i64 wv, .slice ap n kp, .slice (some ⟨br, or', none⟩) m kr] 36
  have b0 := alloc_below w (.cells #[.int .i64 who, .int .i64 rv, .int .i64 ph, .int .i64 k, .int .i64 wv, .slice ap n kp, .slice (some ⟨br, or', none⟩) m kr] 36)
  obtain ⟨w0, hw0⟩ : ∃ w0, w.alloc (.cells #[.int .i64 who, .int .i64 rv, .int .i64 ph, .int .i64 k, .int .i64 wv, .slice ap n kp, .slice (some ⟨br, or', none⟩) m kr] 36) = w0 := ⟨_, rfl⟩
  have hz0 : w0.heap.size = g + 1 := by rw [← hw0, ← hg]; simp
  rw [hw0] at Cb b0
  rw [hg] at Cb b0 hB ⊢
  obtain ⟨q1, hq1⟩ : ∃ q, w0.heap.size = q := ⟨_, rfl⟩
  have l01 : g < q1 := by omega
  clear hz0
  have Mb := Blk.new w0 #[.int .i64 mc, .slice (some ⟨bm, om, none⟩) nw kv] 33
  have b1 := alloc_below w0 (.cells #[.int .i64 mc, .slice (some ⟨bm, om, none⟩) nw kv] 33)
  obtain ⟨w1, hw1⟩ : ∃ w1, w0.alloc (.cells #[.int .i64 mc, .slice (some ⟨bm, om, none⟩) nw kv] 33) = w1 := ⟨_, rfl⟩
  have hz1 : w1.heap.size = q1 + 1 := by rw [← hw1, ← hq1]; simp
  rw [hw1] at Mb b1
  rw [hq1] at Mb b1
  obtain ⟨q2, hq2⟩ : ∃ q, w1.heap.size = q := ⟨_, rfl⟩
  have l12 : q1 < q2 := by omega
  clear hz1
  have R1 := Blk.new w1 #[.int .i64 0, .slice none 0 0] 33
  have b2 := alloc_below w1 (.cells #[.int .i64 0, .slice none 0 0] 33)
  obtain ⟨w2, hw2⟩ : ∃ w2, w1.alloc (.cells #[.int .i64 0, .slice none 0 0] 33) = w2 := ⟨_, rfl⟩
  have hz2 : w2.heap.size = q2 + 1 := by rw [← hw2, ← hq2]; simp
  rw [hw2] at R1 b2
  rw [hq2] at R1 b2
  obtain ⟨q3, hq3⟩ : ∃ q, w2.heap.size = q := ⟨_, rfl⟩
  have l23 : q2 < q3 := by omega
  clear hz2
  have R2 := Blk.new w2 #[.int .i64 0, .int .i64 0, .int .i64 0, .int .i64 0, .int .i64 0, .slice none 0 0, .slice none 0 0] 36
  have b3 := alloc_below w2 (.cells #[.int .i64 0, .int .i64 0, .int .i64 0, .int .i64 0, .int .i64 0, .slice none 0 0, .slice none 0 0] 36)
  obtain ⟨w3, hw3⟩ : ∃ w3, w2.alloc (.cells #[.int .i64 0, .int .i64 0, .int .i64 0, .int .i64 0, .int .i64 0, .slice none 0 0, .slice none 0 0] 36) = w3 := ⟨_, rfl⟩
  rw [hw3] at R2 b3
  rw [hq3] at R2 b3
  replace Cb := ((Cb.on b1 (by omega)).on b2 (by omega)).on b3 (by omega)
  replace Mb := (Mb.on b2 (by omega)).on b3 (by omega)
  replace R1 := R1.on b3 (by omega)
  have bb : Below g w w3 := ((b0.trans (b1.mono (by omega))).trans (b2.mono (by omega))).trans (b3.mono (by omega))
  have l3 : q3 < w3.heap.size := R2.lt
  replace hM := hM.on bb hB; replace hC := hC.on bb hB
  replace hE := hE.on bb (by omega)
  clear b0 b1 b2 b3
  have eR : w3.cell? ⟨br, or' + k, none⟩ = some (.int .i64 cn) := (bb.cell (p := ⟨br, or' + k, none⟩) (show br < g by omega)).trans hrr
  have eA : w3.cell? ⟨bm, om + cn * 3, none⟩ = some (.int .i64 x.val) := (bb.cell (p := ⟨bm, om + cn * 3, none⟩) (show bm < g by omega)).trans hwa
  have eB : w3.cell? ⟨bm, om + cn * 3 + 1, none⟩ = some (.int .i64 x.ver) := (bb.cell (p := ⟨bm, om + cn * 3 + 1, none⟩) (show bm < g by omega)).trans hwb
  have eC : w3.cell? ⟨bm, om + cn * 3 + 2, none⟩ = some (.int .i64 x.own) := (bb.cell (p := ⟨bm, om + cn * 3 + 2, none⟩) (show bm < g by omega)).trans hwc
  have hkI : (k : Int) < m := by omega
  have hk0 : (0 : Int) ≤ k := by omega
  have hcI : (cn : Int) < nw := by omega
  have hc0 : (0 : Int) ≤ cn := by omega
  clear hM hE hwa hwb hwc hrr
  go_enter Tryd.func38, Tryd.ntmps38
  go_wp2_with fail
  clear hw0 hw1 hw2 hw3
  have cCM : (w3.cell? ⟨g, 0, none⟩ = some (.int .i64 who) ∧ w3.cell? ⟨g, 1, none⟩ = some (.int .i64 rv) ∧ w3.cell? ⟨g, 2, none⟩ = some (.int .i64 ph) ∧ w3.cell? ⟨g, 3, none⟩ = some (.int .i64 (k : Int)) ∧ w3.cell? ⟨g, 4, none⟩ = some (.int .i64 wv) ∧ w3.cell? ⟨g, 5, none⟩ = some (.slice ap n kp) ∧ w3.cell? ⟨g, 6, none⟩ = some (.slice (some ⟨br, or', none⟩) m kr)) ∧ (w3.cell? ⟨q1, 0, none⟩ = some (.int .i64 mc) ∧ w3.cell? ⟨q1, 1, none⟩ = some (.slice (some ⟨bm, om, none⟩) nw kv)) ∧ w3.cell? ⟨br, or' + k, none⟩ = some (.int .i64 cn) ∧ w3.cell? ⟨bm, om + cn * 3, none⟩ = some (.int .i64 x.val) ∧ w3.cell? ⟨bm, om + cn * 3 + 1, none⟩ = some (.int .i64 x.ver) ∧ w3.cell? ⟨bm, om + cn * 3 + 2, none⟩ = some (.int .i64 x.own) := ⟨⟨Cb.cell 0, Cb.cell 1, Cb.cell 2, Cb.cell 3, Cb.cell 4, Cb.cell 5, Cb.cell 6⟩, ⟨Mb.cell 0, Mb.cell 1⟩, eR, eA, eB, eC⟩
  replace Cb := Cb.drew
  replace Mb := Mb.drew
  replace R1 := R1.drew
  replace R2 := R2.drew
  replace hC := hC.drew; replace bb := bb.drew
  replace eR : w3.drew.cell? ⟨br, or' + k, none⟩ = _ := eR; replace eA : w3.drew.cell? ⟨bm, om + cn * 3, none⟩ = _ := eA; replace eB : w3.drew.cell? ⟨bm, om + cn * 3 + 1, none⟩ = _ := eB; replace eC : w3.drew.cell? ⟨bm, om + cn * 3 + 2, none⟩ = _ := eC
  obtain ⟨WD, hWD⟩ : ∃ WD, w3.drew = WD := ⟨_, rfl⟩
  refine wp_region_held_drew (S := fun W => (W.cell? ⟨g, 0, none⟩ = some (.int .i64 who) ∧ W.cell? ⟨g, 1, none⟩ = some (.int .i64 rv) ∧ W.cell? ⟨g, 2, none⟩ = some (.int .i64 ph) ∧ W.cell? ⟨g, 3, none⟩ = some (.int .i64 (k : Int)) ∧ W.cell? ⟨g, 4, none⟩ = some (.int .i64 wv) ∧ W.cell? ⟨g, 5, none⟩ = some (.slice ap n kp) ∧ W.cell? ⟨g, 6, none⟩ = some (.slice (some ⟨br, or', none⟩) m kr)) ∧ (W.cell? ⟨q1, 0, none⟩ = some (.int .i64 mc) ∧ W.cell? ⟨q1, 1, none⟩ = some (.slice (some ⟨bm, om, none⟩) nw kv)) ∧ W.cell? ⟨br, or' + k, none⟩ = some (.int .i64 cn) ∧ W.cell? ⟨bm, om + cn * 3, none⟩ = some (.int .i64 x.val) ∧ W.cell? ⟨bm, om + cn * 3 + 1, none⟩ = some (.int .i64 x.ver) ∧ W.cell? ⟨bm, om + cn * 3 + 2, none⟩ = some (.int .i64 x.own)) (by kernel_rfl) cCM (fun hHeld => ?_)
  rw [hWD] at Cb Mb R1 R2 bb hC eR eA eB eC hHeld ⊢
  clear hWD cCM
  refine takeH (i := 0) (some 7) (.pointer (some ⟨q1, 1, none⟩)) rfl rfl (by kernel_rfl) (by kernel_rfl) (by kernel_rfl) (fun _ _ _ h => h) (Or.inl ⟨by rfl, fun w hSw => by (try dsimp only at hSw); go_simp⟩) (by assumption) ?_
  try simp only [Act.put, List.setIfInBounds_toArray, List.set_cons_zero, List.set_cons_succ]
  refine takeH (i := 1) (some 8) (.slice (some ⟨bm, om, none⟩) nw kv) rfl rfl (by kernel_rfl) (by kernel_rfl) (by kernel_rfl) (fun _ _ _ h => h) (Or.inl ⟨by rfl, fun w hSw => by (try dsimp only at hSw); go_simp⟩) (by assumption) ?_
  try simp only [Act.put, List.setIfInBounds_toArray, List.set_cons_zero, List.set_cons_succ]
  refine takeH (i := 2) (some 9) (.pointer (some ⟨g, 6, none⟩)) rfl rfl (by kernel_rfl) (by kernel_rfl) (by kernel_rfl) (fun _ _ _ h => h) (Or.inl ⟨by rfl, fun w hSw => by (try dsimp only at hSw); go_simp⟩) (by assumption) ?_
  try simp only [Act.put, List.setIfInBounds_toArray, List.set_cons_zero, List.set_cons_succ]
  refine takeH (i := 3) (some 10) (.slice (some ⟨br, or', none⟩) m kr) rfl rfl (by kernel_rfl) (by kernel_rfl) (by kernel_rfl) (fun _ _ _ h => h) (Or.inl ⟨by rfl, fun w hSw => by (try dsimp only at hSw); go_simp⟩) (by assumption) ?_
  try simp only [Act.put, List.setIfInBounds_toArray, List.set_cons_zero, List.set_cons_succ]
  refine takeH (i := 4) (some 11) (.pointer (some ⟨g, 3, none⟩)) rfl rfl (by kernel_rfl) (by kernel_rfl) (by kernel_rfl) (fun _ _ _ h => h) (Or.inl ⟨by rfl, fun w hSw => by (try dsimp only at hSw); go_simp⟩) (by assumption) ?_
  try simp only [Act.put, List.setIfInBounds_toArray, List.set_cons_zero, List.set_cons_succ]
  refine takeH (i := 5) (some 12) (.int .i64 k) rfl rfl (by kernel_rfl) (by kernel_rfl) (by kernel_rfl) (fun _ _ _ h => h) (Or.inl ⟨by rfl, fun w hSw => by (try dsimp only at hSw); go_simp⟩) (by assumption) ?_
  try simp only [Act.put, List.setIfInBounds_toArray, List.set_cons_zero, List.set_cons_succ]
  refine takeH (i := 6) (some 13) (.pointer (some ⟨br, or' + k, none⟩)) rfl rfl (by kernel_rfl) (by kernel_rfl) (by kernel_rfl) (fun _ _ _ h => h) (Or.inl ⟨by rfl, fun w hSw => by (try dsimp only at hSw); go_simp⟩) (by assumption) ?_
  try simp only [Act.put, List.setIfInBounds_toArray, List.set_cons_zero, List.set_cons_succ]
  refine takeH (i := 7) (some 14) (.int .i64 cn) rfl rfl (by kernel_rfl) (by kernel_rfl) (by kernel_rfl) (fun _ _ _ h => h) (Or.inl ⟨by rfl, fun w hSw => by (try dsimp only at hSw); go_simp⟩) (by assumption) ?_
  try simp only [Act.put, List.setIfInBounds_toArray, List.set_cons_zero, List.set_cons_succ]
  refine takeH (i := 8) (some 15) (.pointer (some ⟨bm, om + cn * 3, none⟩)) rfl rfl (by kernel_rfl) (by kernel_rfl) (by kernel_rfl) (fun _ _ _ h => h) (Or.inl ⟨by rfl, fun w hSw => by (try dsimp only at hSw); go_simp⟩) (by assumption) ?_
  try simp only [Act.put, List.setIfInBounds_toArray, List.set_cons_zero, List.set_cons_succ]
  refine takeH (i := 9) (some 16) (.agg #[.int .i64 x.val, .int .i64 x.ver, .int .i64 x.own]) rfl rfl (by kernel_rfl) (by kernel_rfl) (by kernel_rfl) (fun _ _ _ h => h) (Or.inl ⟨by rfl, fun w hSw => by (try dsimp only at hSw); go_simp⟩) (by assumption) ?_
  try simp only [Act.put, List.setIfInBounds_toArray, List.set_cons_zero, List.set_cons_succ]
  refine wpAnyH_ready (rs := [10]) (by kernel_rfl) (by simp) ?_
  refine AllReadyH.cons rfl (fun K hK => ?_) AllReadyH.nil
  go_simp
  have bA := alloc_below WD (.cells #[.int .i64 0, .int .i64 0, .int .i64 0] 61)
  have Wb := Blk.new WD #[.int .i64 0, .int .i64 0, .int .i64 0] 61
  have hlt3 : q3 < WD.heap.size := R2.lt
  replace eR := (bA.cell (p := ⟨br, or' + k, none⟩) (show br < WD.heap.size by omega)).trans eR; replace eA := (bA.cell (p := ⟨bm, om + cn * 3, none⟩) (show bm < WD.heap.size by omega)).trans eA; replace eB := (bA.cell (p := ⟨bm, om + cn * 3 + 1, none⟩) (show bm < WD.heap.size by omega)).trans eB; replace eC := (bA.cell (p := ⟨bm, om + cn * 3 + 2, none⟩) (show bm < WD.heap.size by omega)).trans eC
  replace Cb := Cb.on bA Cb.lt
  replace Mb := Mb.on bA Mb.lt
  replace R1 := R1.on bA R1.lt
  replace R2 := R2.on bA R2.lt
  replace hC := hC.on bA (by have := bb.size; omega)
  replace bb := bb.trans (bA.mono (by have := bb.size; omega))
  refine hK.out _ _ ⟨⟨Cb.cell 0, Cb.cell 1, Cb.cell 2, Cb.cell 3, Cb.cell 4, Cb.cell 5, Cb.cell 6⟩, ⟨Mb.cell 0, Mb.cell 1⟩, eR, eA, eB, eC⟩ (fun _ => ?_)
  clear hK K bA
  try simp only [Act.put, List.setIfInBounds_toArray, List.set_cons_zero, List.set_cons_succ]
  obtain ⟨q4, hq4⟩ : ∃ q, WD.heap.size = q := ⟨_, rfl⟩
  obtain ⟨wA, hwA⟩ : ∃ W, WD.alloc (.cells #[.int .i64 0, .int .i64 0, .int .i64 0] 61) = W := ⟨_, rfl⟩
  rw [hwA] at Wb Cb Mb R1 R2 hC bb eR eA eB eC ⊢
  rw [hq4] at Wb ⊢
  have l34 : q3 < q4 := by omega
  clear hwA hq4
  have v1 := fun i => Wb.cell i; have vf := fun i => Wb.froz i
  refine wpAnyH_ready (rs := [11]) (by kernel_rfl) (by simp) ?_
  refine AllReadyH.cons rfl (fun K hK => ?_) AllReadyH.nil
  go_simp
  replace Cb := (((Cb.other (show g ≠ q4 by omega) 0 (.int .i64 x.val)).other (show g ≠ q4 by omega) 1 (.int .i64 x.ver)).other (show g ≠ q4 by omega) 2 (.int .i64 x.own))
  replace Mb := (((Mb.other (show q1 ≠ q4 by omega) 0 (.int .i64 x.val)).other (show q1 ≠ q4 by omega) 1 (.int .i64 x.ver)).other (show q1 ≠ q4 by omega) 2 (.int .i64 x.own))
  replace R1 := (((R1.other (show q2 ≠ q4 by omega) 0 (.int .i64 x.val)).other (show q2 ≠ q4 by omega) 1 (.int .i64 x.ver)).other (show q2 ≠ q4 by omega) 2 (.int .i64 x.own))
  replace R2 := (((R2.other (show q3 ≠ q4 by omega) 0 (.int .i64 x.val)).other (show q3 ≠ q4 by omega) 1 (.int .i64 x.ver)).other (show q3 ≠ q4 by omega) 2 (.int .i64 x.own))
  have eR9 : (((wA.setCell ⟨q4, 0, none⟩ (.int .i64 x.val)).setCell ⟨q4, 1, none⟩ (.int .i64 x.ver)).setCell ⟨q4, 2, none⟩ (.int .i64 x.own)).cell? ⟨br, or' + k, none⟩ = _ := ((cell_ne (show br ≠ q4 by omega)).trans ((cell_ne (show br ≠ q4 by omega)).trans ((cell_ne (show br ≠ q4 by omega)).trans eR)))
  have eA9 : (((wA.setCell ⟨q4, 0, none⟩ (.int .i64 x.val)).setCell ⟨q4, 1, none⟩ (.int .i64 x.ver)).setCell ⟨q4, 2, none⟩ (.int .i64 x.own)).cell? ⟨bm, om + cn * 3, none⟩ = _ := ((cell_ne (show bm ≠ q4 by omega)).trans ((cell_ne (show bm ≠ q4 by omega)).trans ((cell_ne (show bm ≠ q4 by omega)).trans eA)))
  have eB9 : (((wA.setCell ⟨q4, 0, none⟩ (.int .i64 x.val)).setCell ⟨q4, 1, none⟩ (.int .i64 x.ver)).setCell ⟨q4, 2, none⟩ (.int .i64 x.own)).cell? ⟨bm, om + cn * 3 + 1, none⟩ = _ := ((cell_ne (show bm ≠ q4 by omega)).trans ((cell_ne (show bm ≠ q4 by omega)).trans ((cell_ne (show bm ≠ q4 by omega)).trans eB)))
  have eC9 : (((wA.setCell ⟨q4, 0, none⟩ (.int .i64 x.val)).setCell ⟨q4, 1, none⟩ (.int .i64 x.ver)).setCell ⟨q4, 2, none⟩ (.int .i64 x.own)).cell? ⟨bm, om + cn * 3 + 2, none⟩ = _ := ((cell_ne (show bm ≠ q4 by omega)).trans ((cell_ne (show bm ≠ q4 by omega)).trans ((cell_ne (show bm ≠ q4 by omega)).trans eC)))
  replace Wb := (((Wb.set 0 (.int .i64 x.val)).set 1 (.int .i64 x.ver)).set 2 (.int .i64 x.own))
  replace bb := (((bb.setCell (p := ⟨q4, 0, none⟩) (show g ≤ q4 by omega) (.int .i64 x.val)).setCell (p := ⟨q4, 1, none⟩) (show g ≤ q4 by omega) (.int .i64 x.ver)).setCell (p := ⟨q4, 2, none⟩) (show g ≤ q4 by omega) (.int .i64 x.own))
  obtain ⟨w8, hWN⟩ : ∃ W, (((wA.setCell ⟨q4, 0, none⟩ (.int .i64 x.val)).setCell ⟨q4, 1, none⟩ (.int .i64 x.ver)).setCell ⟨q4, 2, none⟩ (.int .i64 x.own)) = W := ⟨_, rfl⟩
  rw [hWN] at Cb Mb R1 R2 Wb bb eR9 eA9 eB9 eC9 ⊢
  clear hWN v1 vf eR eA eB eC hC
  refine hK.out _ _ ⟨⟨Cb.cell 0, Cb.cell 1, Cb.cell 2, Cb.cell 3, Cb.cell 4, Cb.cell 5, Cb.cell 6⟩, ⟨Mb.cell 0, Mb.cell 1⟩, eR9, eA9, eB9, eC9⟩ (fun _ => ?_)
  clear hK K eR9 eA9 eB9 eC9
  try simp only [Act.put, List.setIfInBounds_toArray, List.set_cons_zero, List.set_cons_succ]
  refine wpAnyH_done (by kernel_rfl) ?_ _
  clear hHeld
  have x0 := Wb.cell 0; have x1 := Wb.cell 1; have x2 := Wb.cell 2; have d0 := Cb.cell 0; have d1 := Cb.cell 1
  obtain ⟨xv, xw, xo⟩ := x
  dsimp only at x0 x1 x2 Wb HOP HOA
  clear Wb
  by_cases h1 : xo ≠ 0 ∧ xo ≠ who
  · have hbad : bad ⟨xv, xw, xo⟩ who rv = true := by unfold bad; simp [h1.1, h1.2]
    obtain rfl : phB (n : Int) = op := by rw [← HOP.out, if_pos hbad]
    obtain rfl : atB (n : Int) = oa := by rw [← HOA.out, if_pos hbad]
    have f1 : (xo != 0) = true := by simp [h1.1]
    have f2 : (xo != who) = true := by simp [h1.2]
    clear h1 hbad HOP HOA
    go_wp2_with fail
    clear x0 x1 x2 d0 d1
    have cCM : (w8.cell? ⟨g, 0, none⟩ = some (.int .i64 who) ∧ w8.cell? ⟨g, 1, none⟩ = some (.int .i64 rv) ∧ w8.cell? ⟨g, 2, none⟩ = some (.int .i64 ph) ∧ w8.cell? ⟨g, 3, none⟩ = some (.int .i64 (k : Int)) ∧ w8.cell? ⟨g, 4, none⟩ = some (.int .i64 wv) ∧ w8.cell? ⟨g, 5, none⟩ = some (.slice ap n kp) ∧ w8.cell? ⟨g, 6, none⟩ = some (.slice (some ⟨br, or', none⟩) m kr)) ∧ (w8.cell? ⟨q1, 0, none⟩ = some (.int .i64 mc) ∧ w8.cell? ⟨q1, 1, none⟩ = some (.slice (some ⟨bm, om, none⟩) nw kv)) := ⟨⟨Cb.cell 0, Cb.cell 1, Cb.cell 2, Cb.cell 3, Cb.cell 4, Cb.cell 5, Cb.cell 6⟩, ⟨Mb.cell 0, Mb.cell 1⟩⟩
    replace Cb := Cb.drew
    replace Mb := Mb.drew
    replace R1 := R1.drew
    replace R2 := R2.drew
    replace bb := bb.drew
    obtain ⟨WD2, hWD⟩ : ∃ WD, w8.drew = WD := ⟨_, rfl⟩
    refine wp_region_held_drew (S := fun W => (W.cell? ⟨g, 0, none⟩ = some (.int .i64 who) ∧ W.cell? ⟨g, 1, none⟩ = some (.int .i64 rv) ∧ W.cell? ⟨g, 2, none⟩ = some (.int .i64 ph) ∧ W.cell? ⟨g, 3, none⟩ = some (.int .i64 (k : Int)) ∧ W.cell? ⟨g, 4, none⟩ = some (.int .i64 wv) ∧ W.cell? ⟨g, 5, none⟩ = some (.slice ap n kp) ∧ W.cell? ⟨g, 6, none⟩ = some (.slice (some ⟨br, or', none⟩) m kr)) ∧ (W.cell? ⟨q1, 0, none⟩ = some (.int .i64 mc) ∧ W.cell? ⟨q1, 1, none⟩ = some (.slice (some ⟨bm, om, none⟩) nw kv))) (by kernel_rfl) cCM (fun hHeld => ?_)
    rw [hWD] at Cb Mb R1 R2 bb hHeld ⊢
    clear hWD cCM
    refine takeH (i := 0) (some 34) (.agg #[.int .i64 mc, .slice (some ⟨bm, om, none⟩) nw kv]) rfl rfl (by kernel_rfl) (by kernel_rfl) (by kernel_rfl) (fun _ _ _ h => h) (Or.inl ⟨by rfl, fun w hSw => by (try dsimp only at hSw); go_simp⟩) (by assumption) ?_
    try simp only [Act.put, List.setIfInBounds_toArray, List.set_cons_zero, List.set_cons_succ]
    refine takeH (i := 1) (some 35) (.agg #[.int .i64 who, .int .i64 rv, .int .i64 ph, .int .i64 (k : Int), .int .i64 wv, .slice ap n kp, .slice (some ⟨br, or', none⟩) m kr]) rfl rfl (by kernel_rfl) (by kernel_rfl) (by kernel_rfl) (fun _ _ _ h => h) (Or.inl ⟨by rfl, fun w hSw => by (try dsimp only at hSw); go_simp⟩) (by assumption) ?_
    try simp only [Act.put, List.setIfInBounds_toArray, List.set_cons_zero, List.set_cons_succ]
    refine takeH (i := 2) (some 36) (.pointer (some ⟨g, 5, none⟩)) rfl rfl (by kernel_rfl) (by kernel_rfl) (by kernel_rfl) (fun _ _ _ h => h) (Or.inl ⟨by rfl, fun w hSw => by (try dsimp only at hSw); go_simp⟩) (by assumption) ?_
    try simp only [Act.put, List.setIfInBounds_toArray, List.set_cons_zero, List.set_cons_succ]
    refine takeH (i := 3) (some 37) (.slice ap n kp) rfl rfl (by kernel_rfl) (by kernel_rfl) (by kernel_rfl) (fun _ _ _ h => h) (Or.inl ⟨by rfl, fun w hSw => by (try dsimp only at hSw); go_simp⟩) (by assumption) ?_
    try simp only [Act.put, List.setIfInBounds_toArray, List.set_cons_zero, List.set_cons_succ]
    refine takeH (i := 4) (some 38) (.int .i64 n) rfl rfl (by kernel_rfl) (by kernel_rfl) (by kernel_rfl) (fun _ _ _ h => h) (Or.inl ⟨by rfl, fun w hSw => by (try dsimp only at hSw); go_simp⟩) (by assumption) ?_
    try simp only [Act.put, List.setIfInBounds_toArray, List.set_cons_zero, List.set_cons_succ]
    refine wpAnyH_ready (rs := [5]) (by kernel_rfl) (by simp) ?_
    refine AllReadyH.cons rfl (fun K hK => ?_) AllReadyH.nil
    go_simp
    refine (hbk (n : Int) (by omega) (by omega) WD2).mono ?_
    rintro e w9 ⟨rfl, b9⟩
    replace Cb := Cb.on b9 Cb.lt
    replace Mb := Mb.on b9 Mb.lt
    replace R1 := R1.on b9 R1.lt
    replace R2 := R2.on b9 R2.lt
    replace bb := bb.trans (b9.mono (by have := bb.size; omega))
    clear b9
    go_simp
    refine hK.out _ _ ⟨⟨Cb.cell 0, Cb.cell 1, Cb.cell 2, Cb.cell 3, Cb.cell 4, Cb.cell 5, Cb.cell 6⟩, ⟨Mb.cell 0, Mb.cell 1⟩⟩ (fun _ => ?_)
    clear hK K
    try simp only [Act.put, List.setIfInBounds_toArray, List.set_cons_zero, List.set_cons_succ]
    have r1 := fun i => R1.cell i; have f1 := fun i => R1.froz i
    refine wpAnyH_ready (rs := [6]) (by kernel_rfl) (by simp) ?_
    refine AllReadyH.cons rfl (fun K hK => ?_) AllReadyH.nil
    go_simp
    replace Cb := ((Cb.other (show g ≠ q2 by omega) 0 (.int .i64 mc)).other (show g ≠ q2 by omega) 1 (.slice (some ⟨bm, om, none⟩) nw kv))
    replace Mb := ((Mb.other (show q1 ≠ q2 by omega) 0 (.int .i64 mc)).other (show q1 ≠ q2 by omega) 1 (.slice (some ⟨bm, om, none⟩) nw kv))
    replace R2 := ((R2.other (show q3 ≠ q2 by omega) 0 (.int .i64 mc)).other (show q3 ≠ q2 by omega) 1 (.slice (some ⟨bm, om, none⟩) nw kv))
    replace R1 := ((R1.set 0 (.int .i64 mc)).set 1 (.slice (some ⟨bm, om, none⟩) nw kv))
    replace bb := ((bb.setCell (p := ⟨q2, 0, none⟩) (show g ≤ q2 by omega) (.int .i64 mc)).setCell (p := ⟨q2, 1, none⟩) (show g ≤ q2 by omega) (.slice (some ⟨bm, om, none⟩) nw kv))
    obtain ⟨WA, hWA⟩ : ∃ W, ((w9.setCell ⟨q2, 0, none⟩ (.int .i64 mc)).setCell ⟨q2, 1, none⟩ (.slice (some ⟨bm, om, none⟩) nw kv)) = W := ⟨_, rfl⟩
    rw [hWA] at Cb Mb R1 R2 bb ⊢
    clear hWA r1 f1
    refine hK.out _ _ ⟨⟨Cb.cell 0, Cb.cell 1, Cb.cell 2, Cb.cell 3, Cb.cell 4, Cb.cell 5, Cb.cell 6⟩, ⟨Mb.cell 0, Mb.cell 1⟩⟩ (fun _ => ?_)
    clear hK K
    try simp only [Act.put, List.setIfInBounds_toArray, List.set_cons_zero, List.set_cons_succ]
    have r2 := fun i => R2.cell i; have f2 := fun i => R2.froz i
    refine wpAnyH_ready (rs := [7]) (by kernel_rfl) (by simp) ?_
    refine AllReadyH.cons rfl (fun K hK => ?_) AllReadyH.nil
    go_simp
    replace Cb := (((((((Cb.other (show g ≠ q3 by omega) 0 (.int .i64 who)).other (show g ≠ q3 by omega) 1 (.int .i64 rv)).other (show g ≠ q3 by omega) 2 (.int .i64 (phB (n : Int)))).other (show g ≠ q3 by omega) 3 (.int .i64 (atB (n : Int)))).other (show g ≠ q3 by omega) 4 (.int .i64 wv)).other (show g ≠ q3 by omega) 5 (.slice ap n kp)).other (show g ≠ q3 by omega) 6 (.slice (some ⟨br, or', none⟩) m kr))
    replace Mb := (((((((Mb.other (show q1 ≠ q3 by omega) 0 (.int .i64 who)).other (show q1 ≠ q3 by omega) 1 (.int .i64 rv)).other (show q1 ≠ q3 by omega) 2 (.int .i64 (phB (n : Int)))).other (show q1 ≠ q3 by omega) 3 (.int .i64 (atB (n : Int)))).other (show q1 ≠ q3 by omega) 4 (.int .i64 wv)).other (show q1 ≠ q3 by omega) 5 (.slice ap n kp)).other (show q1 ≠ q3 by omega) 6 (.slice (some ⟨br, or', none⟩) m kr))
    replace R1 := (((((((R1.other (show q2 ≠ q3 by omega) 0 (.int .i64 who)).other (show q2 ≠ q3 by omega) 1 (.int .i64 rv)).other (show q2 ≠ q3 by omega) 2 (.int .i64 (phB (n : Int)))).other (show q2 ≠ q3 by omega) 3 (.int .i64 (atB (n : Int)))).other (show q2 ≠ q3 by omega) 4 (.int .i64 wv)).other (show q2 ≠ q3 by omega) 5 (.slice ap n kp)).other (show q2 ≠ q3 by omega) 6 (.slice (some ⟨br, or', none⟩) m kr))
    replace R2 := (((((((R2.set 0 (.int .i64 who)).set 1 (.int .i64 rv)).set 2 (.int .i64 (phB (n : Int)))).set 3 (.int .i64 (atB (n : Int)))).set 4 (.int .i64 wv)).set 5 (.slice ap n kp)).set 6 (.slice (some ⟨br, or', none⟩) m kr))
    replace bb := (((((((bb.setCell (p := ⟨q3, 0, none⟩) (show g ≤ q3 by omega) (.int .i64 who)).setCell (p := ⟨q3, 1, none⟩) (show g ≤ q3 by omega) (.int .i64 rv)).setCell (p := ⟨q3, 2, none⟩) (show g ≤ q3 by omega) (.int .i64 (phB (n : Int)))).setCell (p := ⟨q3, 3, none⟩) (show g ≤ q3 by omega) (.int .i64 (atB (n : Int)))).setCell (p := ⟨q3, 4, none⟩) (show g ≤ q3 by omega) (.int .i64 wv)).setCell (p := ⟨q3, 5, none⟩) (show g ≤ q3 by omega) (.slice ap n kp)).setCell (p := ⟨q3, 6, none⟩) (show g ≤ q3 by omega) (.slice (some ⟨br, or', none⟩) m kr))
    obtain ⟨WB, hWB⟩ : ∃ W, (((((((WA.setCell ⟨q3, 0, none⟩ (.int .i64 who)).setCell ⟨q3, 1, none⟩ (.int .i64 rv)).setCell ⟨q3, 2, none⟩ (.int .i64 (phB (n : Int)))).setCell ⟨q3, 3, none⟩ (.int .i64 (atB (n : Int)))).setCell ⟨q3, 4, none⟩ (.int .i64 wv)).setCell ⟨q3, 5, none⟩ (.slice ap n kp)).setCell ⟨q3, 6, none⟩ (.slice (some ⟨br, or', none⟩) m kr)) = W := ⟨_, rfl⟩
    rw [hWB] at Cb Mb R1 R2 bb ⊢
    clear hWB r2 f2
    refine hK.out _ _ ⟨⟨Cb.cell 0, Cb.cell 1, Cb.cell 2, Cb.cell 3, Cb.cell 4, Cb.cell 5, Cb.cell 6⟩, ⟨Mb.cell 0, Mb.cell 1⟩⟩ (fun _ => ?_)
    clear hK K
    try simp only [Act.put, List.setIfInBounds_toArray, List.set_cons_zero, List.set_cons_succ]
    refine wpAnyH_done (by kernel_rfl) ?_ _
    have r1 := fun i => R1.cell i; have r2 := fun i => R2.cell i
    go_wp2
    refine bodyPost_ret (v := .tuple #[.agg #[.int .i64 mc, .slice (some ⟨bm, om, none⟩) nw kv], .agg #[.int .i64 who, .int .i64 rv, .int .i64 (phB (n : Int)), .int .i64 (atB (n : Int)), .int .i64 wv, .slice ap n kp, .slice (some ⟨br, or', none⟩) m kr]]) (by simp [results, Tryd.results38, go_sem, r1, r2]) rfl ?_
    exact ⟨rfl, bb⟩
  have hg3 : ((xo != 0) = false) ∨ ((xo != 0) = true ∧ (xo != who) = false) := by
    by_cases h0 : xo = 0
    · left; simp [h0]
    · right
      refine ⟨by simp [h0], ?_⟩
      by_cases h2 : xo = who
      · simp [h2]
      · exact absurd ⟨h0, h2⟩ h1
  by_cases h3 : rv < xw
  · have hbad : bad ⟨xv, xw, xo⟩ who rv = true := by unfold bad; simp [h3]
    obtain rfl : phB (n : Int) = op := by rw [← HOP.out, if_pos hbad]
    obtain rfl : atB (n : Int) = oa := by rw [← HOA.out, if_pos hbad]
    have hvr : ¬ xw ≤ rv := by omega
    clear h1 hbad HOP HOA
    rcases hg3 with f1 | ⟨f1, f2⟩
    all_goals
      go_wp2_with fail
      clear x0 x1 x2 d0 d1
      have cCM : (w8.cell? ⟨g, 0, none⟩ = some (.int .i64 who) ∧ w8.cell? ⟨g, 1, none⟩ = some (.int .i64 rv) ∧ w8.cell? ⟨g, 2, none⟩ = some (.int .i64 ph) ∧ w8.cell? ⟨g, 3, none⟩ = some (.int .i64 (k : Int)) ∧ w8.cell? ⟨g, 4, none⟩ = some (.int .i64 wv) ∧ w8.cell? ⟨g, 5, none⟩ = some (.slice ap n kp) ∧ w8.cell? ⟨g, 6, none⟩ = some (.slice (some ⟨br, or', none⟩) m kr)) ∧ (w8.cell? ⟨q1, 0, none⟩ = some (.int .i64 mc) ∧ w8.cell? ⟨q1, 1, none⟩ = some (.slice (some ⟨bm, om, none⟩) nw kv)) := ⟨⟨Cb.cell 0, Cb.cell 1, Cb.cell 2, Cb.cell 3, Cb.cell 4, Cb.cell 5, Cb.cell 6⟩, ⟨Mb.cell 0, Mb.cell 1⟩⟩
      replace Cb := Cb.drew
      replace Mb := Mb.drew
      replace R1 := R1.drew
      replace R2 := R2.drew
      replace bb := bb.drew
      obtain ⟨WD2, hWD⟩ : ∃ WD, w8.drew = WD := ⟨_, rfl⟩
      refine wp_region_held_drew (S := fun W => (W.cell? ⟨g, 0, none⟩ = some (.int .i64 who) ∧ W.cell? ⟨g, 1, none⟩ = some (.int .i64 rv) ∧ W.cell? ⟨g, 2, none⟩ = some (.int .i64 ph) ∧ W.cell? ⟨g, 3, none⟩ = some (.int .i64 (k : Int)) ∧ W.cell? ⟨g, 4, none⟩ = some (.int .i64 wv) ∧ W.cell? ⟨g, 5, none⟩ = some (.slice ap n kp) ∧ W.cell? ⟨g, 6, none⟩ = some (.slice (some ⟨br, or', none⟩) m kr)) ∧ (W.cell? ⟨q1, 0, none⟩ = some (.int .i64 mc) ∧ W.cell? ⟨q1, 1, none⟩ = some (.slice (some ⟨bm, om, none⟩) nw kv))) (by kernel_rfl) cCM (fun hHeld => ?_)
      rw [hWD] at Cb Mb R1 R2 bb hHeld ⊢
      clear hWD cCM
      refine takeH (i := 0) (some 34) (.agg #[.int .i64 mc, .slice (some ⟨bm, om, none⟩) nw kv]) rfl rfl (by kernel_rfl) (by kernel_rfl) (by kernel_rfl) (fun _ _ _ h => h) (Or.inl ⟨by rfl, fun w hSw => by (try dsimp only at hSw); go_simp⟩) (by assumption) ?_
      try simp only [Act.put, List.setIfInBounds_toArray, List.set_cons_zero, List.set_cons_succ]
      refine takeH (i := 1) (some 35) (.agg #[.int .i64 who, .int .i64 rv, .int .i64 ph, .int .i64 (k : Int), .int .i64 wv, .slice ap n kp, .slice (some ⟨br, or', none⟩) m kr]) rfl rfl (by kernel_rfl) (by kernel_rfl) (by kernel_rfl) (fun _ _ _ h => h) (Or.inl ⟨by rfl, fun w hSw => by (try dsimp only at hSw); go_simp⟩) (by assumption) ?_
      try simp only [Act.put, List.setIfInBounds_toArray, List.set_cons_zero, List.set_cons_succ]
      refine takeH (i := 2) (some 36) (.pointer (some ⟨g, 5, none⟩)) rfl rfl (by kernel_rfl) (by kernel_rfl) (by kernel_rfl) (fun _ _ _ h => h) (Or.inl ⟨by rfl, fun w hSw => by (try dsimp only at hSw); go_simp⟩) (by assumption) ?_
      try simp only [Act.put, List.setIfInBounds_toArray, List.set_cons_zero, List.set_cons_succ]
      refine takeH (i := 3) (some 37) (.slice ap n kp) rfl rfl (by kernel_rfl) (by kernel_rfl) (by kernel_rfl) (fun _ _ _ h => h) (Or.inl ⟨by rfl, fun w hSw => by (try dsimp only at hSw); go_simp⟩) (by assumption) ?_
      try simp only [Act.put, List.setIfInBounds_toArray, List.set_cons_zero, List.set_cons_succ]
      refine takeH (i := 4) (some 38) (.int .i64 n) rfl rfl (by kernel_rfl) (by kernel_rfl) (by kernel_rfl) (fun _ _ _ h => h) (Or.inl ⟨by rfl, fun w hSw => by (try dsimp only at hSw); go_simp⟩) (by assumption) ?_
      try simp only [Act.put, List.setIfInBounds_toArray, List.set_cons_zero, List.set_cons_succ]
      refine wpAnyH_ready (rs := [5]) (by kernel_rfl) (by simp) ?_
      refine AllReadyH.cons rfl (fun K hK => ?_) AllReadyH.nil
      go_simp
      refine (hbk (n : Int) (by omega) (by omega) WD2).mono ?_
      rintro e w9 ⟨rfl, b9⟩
      replace Cb := Cb.on b9 Cb.lt
      replace Mb := Mb.on b9 Mb.lt
      replace R1 := R1.on b9 R1.lt
      replace R2 := R2.on b9 R2.lt
      replace bb := bb.trans (b9.mono (by have := bb.size; omega))
      clear b9
      go_simp
      refine hK.out _ _ ⟨⟨Cb.cell 0, Cb.cell 1, Cb.cell 2, Cb.cell 3, Cb.cell 4, Cb.cell 5, Cb.cell 6⟩, ⟨Mb.cell 0, Mb.cell 1⟩⟩ (fun _ => ?_)
      clear hK K
      try simp only [Act.put, List.setIfInBounds_toArray, List.set_cons_zero, List.set_cons_succ]
      have r1 := fun i => R1.cell i; have f1 := fun i => R1.froz i
      refine wpAnyH_ready (rs := [6]) (by kernel_rfl) (by simp) ?_
      refine AllReadyH.cons rfl (fun K hK => ?_) AllReadyH.nil
      go_simp
      replace Cb := ((Cb.other (show g ≠ q2 by omega) 0 (.int .i64 mc)).other (show g ≠ q2 by omega) 1 (.slice (some ⟨bm, om, none⟩) nw kv))
      replace Mb := ((Mb.other (show q1 ≠ q2 by omega) 0 (.int .i64 mc)).other (show q1 ≠ q2 by omega) 1 (.slice (some ⟨bm, om, none⟩) nw kv))
      replace R2 := ((R2.other (show q3 ≠ q2 by omega) 0 (.int .i64 mc)).other (show q3 ≠ q2 by omega) 1 (.slice (some ⟨bm, om, none⟩) nw kv))
      replace R1 := ((R1.set 0 (.int .i64 mc)).set 1 (.slice (some ⟨bm, om, none⟩) nw kv))
      replace bb := ((bb.setCell (p := ⟨q2, 0, none⟩) (show g ≤ q2 by omega) (.int .i64 mc)).setCell (p := ⟨q2, 1, none⟩) (show g ≤ q2 by omega) (.slice (some ⟨bm, om, none⟩) nw kv))
      obtain ⟨WA, hWA⟩ : ∃ W, ((w9.setCell ⟨q2, 0, none⟩ (.int .i64 mc)).setCell ⟨q2, 1, none⟩ (.slice (some ⟨bm, om, none⟩) nw kv)) = W := ⟨_, rfl⟩
      rw [hWA] at Cb Mb R1 R2 bb ⊢
      clear hWA r1 f1
      refine hK.out _ _ ⟨⟨Cb.cell 0, Cb.cell 1, Cb.cell 2, Cb.cell 3, Cb.cell 4, Cb.cell 5, Cb.cell 6⟩, ⟨Mb.cell 0, Mb.cell 1⟩⟩ (fun _ => ?_)
      clear hK K
      try simp only [Act.put, List.setIfInBounds_toArray, List.set_cons_zero, List.set_cons_succ]
      have r2 := fun i => R2.cell i; have f2 := fun i => R2.froz i
      refine wpAnyH_ready (rs := [7]) (by kernel_rfl) (by simp) ?_
      refine AllReadyH.cons rfl (fun K hK => ?_) AllReadyH.nil
      go_simp
      replace Cb := (((((((Cb.other (show g ≠ q3 by omega) 0 (.int .i64 who)).other (show g ≠ q3 by omega) 1 (.int .i64 rv)).other (show g ≠ q3 by omega) 2 (.int .i64 (phB (n : Int)))).other (show g ≠ q3 by omega) 3 (.int .i64 (atB (n : Int)))).other (show g ≠ q3 by omega) 4 (.int .i64 wv)).other (show g ≠ q3 by omega) 5 (.slice ap n kp)).other (show g ≠ q3 by omega) 6 (.slice (some ⟨br, or', none⟩) m kr))
      replace Mb := (((((((Mb.other (show q1 ≠ q3 by omega) 0 (.int .i64 who)).other (show q1 ≠ q3 by omega) 1 (.int .i64 rv)).other (show q1 ≠ q3 by omega) 2 (.int .i64 (phB (n : Int)))).other (show q1 ≠ q3 by omega) 3 (.int .i64 (atB (n : Int)))).other (show q1 ≠ q3 by omega) 4 (.int .i64 wv)).other (show q1 ≠ q3 by omega) 5 (.slice ap n kp)).other (show q1 ≠ q3 by omega) 6 (.slice (some ⟨br, or', none⟩) m kr))
      replace R1 := (((((((R1.other (show q2 ≠ q3 by omega) 0 (.int .i64 who)).other (show q2 ≠ q3 by omega) 1 (.int .i64 rv)).other (show q2 ≠ q3 by omega) 2 (.int .i64 (phB (n : Int)))).other (show q2 ≠ q3 by omega) 3 (.int .i64 (atB (n : Int)))).other (show q2 ≠ q3 by omega) 4 (.int .i64 wv)).other (show q2 ≠ q3 by omega) 5 (.slice ap n kp)).other (show q2 ≠ q3 by omega) 6 (.slice (some ⟨br, or', none⟩) m kr))
      replace R2 := (((((((R2.set 0 (.int .i64 who)).set 1 (.int .i64 rv)).set 2 (.int .i64 (phB (n : Int)))).set 3 (.int .i64 (atB (n : Int)))).set 4 (.int .i64 wv)).set 5 (.slice ap n kp)).set 6 (.slice (some ⟨br, or', none⟩) m kr))
      replace bb := (((((((bb.setCell (p := ⟨q3, 0, none⟩) (show g ≤ q3 by omega) (.int .i64 who)).setCell (p := ⟨q3, 1, none⟩) (show g ≤ q3 by omega) (.int .i64 rv)).setCell (p := ⟨q3, 2, none⟩) (show g ≤ q3 by omega) (.int .i64 (phB (n : Int)))).setCell (p := ⟨q3, 3, none⟩) (show g ≤ q3 by omega) (.int .i64 (atB (n : Int)))).setCell (p := ⟨q3, 4, none⟩) (show g ≤ q3 by omega) (.int .i64 wv)).setCell (p := ⟨q3, 5, none⟩) (show g ≤ q3 by omega) (.slice ap n kp)).setCell (p := ⟨q3, 6, none⟩) (show g ≤ q3 by omega) (.slice (some ⟨br, or', none⟩) m kr))
      obtain ⟨WB, hWB⟩ : ∃ W, (((((((WA.setCell ⟨q3, 0, none⟩ (.int .i64 who)).setCell ⟨q3, 1, none⟩ (.int .i64 rv)).setCell ⟨q3, 2, none⟩ (.int .i64 (phB (n : Int)))).setCell ⟨q3, 3, none⟩ (.int .i64 (atB (n : Int)))).setCell ⟨q3, 4, none⟩ (.int .i64 wv)).setCell ⟨q3, 5, none⟩ (.slice ap n kp)).setCell ⟨q3, 6, none⟩ (.slice (some ⟨br, or', none⟩) m kr)) = W := ⟨_, rfl⟩
      rw [hWB] at Cb Mb R1 R2 bb ⊢
      clear hWB r2 f2
      refine hK.out _ _ ⟨⟨Cb.cell 0, Cb.cell 1, Cb.cell 2, Cb.cell 3, Cb.cell 4, Cb.cell 5, Cb.cell 6⟩, ⟨Mb.cell 0, Mb.cell 1⟩⟩ (fun _ => ?_)
      clear hK K
      try simp only [Act.put, List.setIfInBounds_toArray, List.set_cons_zero, List.set_cons_succ]
      refine wpAnyH_done (by kernel_rfl) ?_ _
      have r1 := fun i => R1.cell i; have r2 := fun i => R2.cell i
      go_wp2
      refine bodyPost_ret (v := .tuple #[.agg #[.int .i64 mc, .slice (some ⟨bm, om, none⟩) nw kv], .agg #[.int .i64 who, .int .i64 rv, .int .i64 (phB (n : Int)), .int .i64 (atB (n : Int)), .int .i64 wv, .slice ap n kp, .slice (some ⟨br, or', none⟩) m kr]]) (by simp [results, Tryd.results38, go_sem, r1, r2]) rfl ?_
      exact ⟨rfl, bb⟩
  · have hbad : ¬ bad ⟨xv, xw, xo⟩ who rv = true := by intro hb; unfold bad at hb; simp at hb; omega
    obtain rfl : onPh ph k n m 4 = op := by rw [← HOP.out, if_neg hbad]
    obtain rfl : onAt ph k n m = oa := by rw [← HOA.out, if_neg hbad]
    have hvr : ¬ rv < xw := h3
    have hvd : decide (rv < xw) = false := decide_eq_false h3
    clear h1 hbad HOP HOA h3
    rcases hg3 with f1 | ⟨f1, f2⟩
    all_goals
      go_wp2_with fail
      clear x0 x1 x2 d0 d1
      have cCM : (w8.cell? ⟨g, 0, none⟩ = some (.int .i64 who) ∧ w8.cell? ⟨g, 1, none⟩ = some (.int .i64 rv) ∧ w8.cell? ⟨g, 2, none⟩ = some (.int .i64 ph) ∧ w8.cell? ⟨g, 3, none⟩ = some (.int .i64 (k : Int)) ∧ w8.cell? ⟨g, 4, none⟩ = some (.int .i64 wv) ∧ w8.cell? ⟨g, 5, none⟩ = some (.slice ap n kp) ∧ w8.cell? ⟨g, 6, none⟩ = some (.slice (some ⟨br, or', none⟩) m kr)) ∧ (w8.cell? ⟨q1, 0, none⟩ = some (.int .i64 mc) ∧ w8.cell? ⟨q1, 1, none⟩ = some (.slice (some ⟨bm, om, none⟩) nw kv)) := ⟨⟨Cb.cell 0, Cb.cell 1, Cb.cell 2, Cb.cell 3, Cb.cell 4, Cb.cell 5, Cb.cell 6⟩, ⟨Mb.cell 0, Mb.cell 1⟩⟩
      replace Cb := Cb.drew
      replace Mb := Mb.drew
      replace R1 := R1.drew
      replace R2 := R2.drew
      replace bb := bb.drew
      obtain ⟨WD2, hWD⟩ : ∃ WD, w8.drew = WD := ⟨_, rfl⟩
      refine wp_region_held_drew (S := fun W => (W.cell? ⟨g, 0, none⟩ = some (.int .i64 who) ∧ W.cell? ⟨g, 1, none⟩ = some (.int .i64 rv) ∧ W.cell? ⟨g, 2, none⟩ = some (.int .i64 ph) ∧ W.cell? ⟨g, 3, none⟩ = some (.int .i64 (k : Int)) ∧ W.cell? ⟨g, 4, none⟩ = some (.int .i64 wv) ∧ W.cell? ⟨g, 5, none⟩ = some (.slice ap n kp) ∧ W.cell? ⟨g, 6, none⟩ = some (.slice (some ⟨br, or', none⟩) m kr)) ∧ (W.cell? ⟨q1, 0, none⟩ = some (.int .i64 mc) ∧ W.cell? ⟨q1, 1, none⟩ = some (.slice (some ⟨bm, om, none⟩) nw kv))) (by kernel_rfl) cCM (fun hHeld => ?_)
      rw [hWD] at Cb Mb R1 R2 bb hHeld ⊢
      clear hWD cCM
      refine takeH (i := 0) (some 40) (.agg #[.int .i64 mc, .slice (some ⟨bm, om, none⟩) nw kv]) rfl rfl (by kernel_rfl) (by kernel_rfl) (by kernel_rfl) (fun _ _ _ h => h) (Or.inl ⟨by rfl, fun w hSw => by (try dsimp only at hSw); go_simp⟩) (by assumption) ?_
      try simp only [Act.put, List.setIfInBounds_toArray, List.set_cons_zero, List.set_cons_succ]
      refine takeH (i := 1) (some 41) (.agg #[.int .i64 who, .int .i64 rv, .int .i64 ph, .int .i64 (k : Int), .int .i64 wv, .slice ap n kp, .slice (some ⟨br, or', none⟩) m kr]) rfl rfl (by kernel_rfl) (by kernel_rfl) (by kernel_rfl) (fun _ _ _ h => h) (Or.inl ⟨by rfl, fun w hSw => by (try dsimp only at hSw); go_simp⟩) (by assumption) ?_
      try simp only [Act.put, List.setIfInBounds_toArray, List.set_cons_zero, List.set_cons_succ]
      refine wpAnyH_ready (rs := [2]) (by kernel_rfl) (by simp) ?_
      refine AllReadyH.cons rfl (fun K hK => ?_) AllReadyH.nil
      go_simp
      refine (hon 4 k (by omega) (by omega) WD2).mono ?_
      rintro e w9 ⟨rfl, b9⟩
      replace Cb := Cb.on b9 Cb.lt
      replace Mb := Mb.on b9 Mb.lt
      replace R1 := R1.on b9 R1.lt
      replace R2 := R2.on b9 R2.lt
      replace bb := bb.trans (b9.mono (by have := bb.size; omega))
      clear b9
      go_simp
      refine hK.out _ _ ⟨⟨Cb.cell 0, Cb.cell 1, Cb.cell 2, Cb.cell 3, Cb.cell 4, Cb.cell 5, Cb.cell 6⟩, ⟨Mb.cell 0, Mb.cell 1⟩⟩ (fun _ => ?_)
      clear hK K
      try simp only [Act.put, List.setIfInBounds_toArray, List.set_cons_zero, List.set_cons_succ]
      have r1 := fun i => R1.cell i; have f1 := fun i => R1.froz i
      refine wpAnyH_ready (rs := [3]) (by kernel_rfl) (by simp) ?_
      refine AllReadyH.cons rfl (fun K hK => ?_) AllReadyH.nil
      go_simp
      replace Cb := ((Cb.other (show g ≠ q2 by omega) 0 (.int .i64 mc)).other (show g ≠ q2 by omega) 1 (.slice (some ⟨bm, om, none⟩) nw kv))
      replace Mb := ((Mb.other (show q1 ≠ q2 by omega) 0 (.int .i64 mc)).other (show q1 ≠ q2 by omega) 1 (.slice (some ⟨bm, om, none⟩) nw kv))
      replace R2 := ((R2.other (show q3 ≠ q2 by omega) 0 (.int .i64 mc)).other (show q3 ≠ q2 by omega) 1 (.slice (some ⟨bm, om, none⟩) nw kv))
      replace R1 := ((R1.set 0 (.int .i64 mc)).set 1 (.slice (some ⟨bm, om, none⟩) nw kv))
      replace bb := ((bb.setCell (p := ⟨q2, 0, none⟩) (show g ≤ q2 by omega) (.int .i64 mc)).setCell (p := ⟨q2, 1, none⟩) (show g ≤ q2 by omega) (.slice (some ⟨bm, om, none⟩) nw kv))
      obtain ⟨WA, hWA⟩ : ∃ W, ((w9.setCell ⟨q2, 0, none⟩ (.int .i64 mc)).setCell ⟨q2, 1, none⟩ (.slice (some ⟨bm, om, none⟩) nw kv)) = W := ⟨_, rfl⟩
      rw [hWA] at Cb Mb R1 R2 bb ⊢
      clear hWA r1 f1
      refine hK.out _ _ ⟨⟨Cb.cell 0, Cb.cell 1, Cb.cell 2, Cb.cell 3, Cb.cell 4, Cb.cell 5, Cb.cell 6⟩, ⟨Mb.cell 0, Mb.cell 1⟩⟩ (fun _ => ?_)
      clear hK K
      try simp only [Act.put, List.setIfInBounds_toArray, List.set_cons_zero, List.set_cons_succ]
      have r2 := fun i => R2.cell i; have f2 := fun i => R2.froz i
      refine wpAnyH_ready (rs := [4]) (by kernel_rfl) (by simp) ?_
      refine AllReadyH.cons rfl (fun K hK => ?_) AllReadyH.nil
      go_simp
      replace Cb := (((((((Cb.other (show g ≠ q3 by omega) 0 (.int .i64 who)).other (show g ≠ q3 by omega) 1 (.int .i64 rv)).other (show g ≠ q3 by omega) 2 (.int .i64 (onPh ph k n m 4))).other (show g ≠ q3 by omega) 3 (.int .i64 (onAt ph k n m))).other (show g ≠ q3 by omega) 4 (.int .i64 wv)).other (show g ≠ q3 by omega) 5 (.slice ap n kp)).other (show g ≠ q3 by omega) 6 (.slice (some ⟨br, or', none⟩) m kr))
      replace Mb := (((((((Mb.other (show q1 ≠ q3 by omega) 0 (.int .i64 who)).other (show q1 ≠ q3 by omega) 1 (.int .i64 rv)).other (show q1 ≠ q3 by omega) 2 (.int .i64 (onPh ph k n m 4))).other (show q1 ≠ q3 by omega) 3 (.int .i64 (onAt ph k n m))).other (show q1 ≠ q3 by omega) 4 (.int .i64 wv)).other (show q1 ≠ q3 by omega) 5 (.slice ap n kp)).other (show q1 ≠ q3 by omega) 6 (.slice (some ⟨br, or', none⟩) m kr))
      replace R1 := (((((((R1.other (show q2 ≠ q3 by omega) 0 (.int .i64 who)).other (show q2 ≠ q3 by omega) 1 (.int .i64 rv)).other (show q2 ≠ q3 by omega) 2 (.int .i64 (onPh ph k n m 4))).other (show q2 ≠ q3 by omega) 3 (.int .i64 (onAt ph k n m))).other (show q2 ≠ q3 by omega) 4 (.int .i64 wv)).other (show q2 ≠ q3 by omega) 5 (.slice ap n kp)).other (show q2 ≠ q3 by omega) 6 (.slice (some ⟨br, or', none⟩) m kr))
      replace R2 := (((((((R2.set 0 (.int .i64 who)).set 1 (.int .i64 rv)).set 2 (.int .i64 (onPh ph k n m 4))).set 3 (.int .i64 (onAt ph k n m))).set 4 (.int .i64 wv)).set 5 (.slice ap n kp)).set 6 (.slice (some ⟨br, or', none⟩) m kr))
      replace bb := (((((((bb.setCell (p := ⟨q3, 0, none⟩) (show g ≤ q3 by omega) (.int .i64 who)).setCell (p := ⟨q3, 1, none⟩) (show g ≤ q3 by omega) (.int .i64 rv)).setCell (p := ⟨q3, 2, none⟩) (show g ≤ q3 by omega) (.int .i64 (onPh ph k n m 4))).setCell (p := ⟨q3, 3, none⟩) (show g ≤ q3 by omega) (.int .i64 (onAt ph k n m))).setCell (p := ⟨q3, 4, none⟩) (show g ≤ q3 by omega) (.int .i64 wv)).setCell (p := ⟨q3, 5, none⟩) (show g ≤ q3 by omega) (.slice ap n kp)).setCell (p := ⟨q3, 6, none⟩) (show g ≤ q3 by omega) (.slice (some ⟨br, or', none⟩) m kr))
      obtain ⟨WB, hWB⟩ : ∃ W, (((((((WA.setCell ⟨q3, 0, none⟩ (.int .i64 who)).setCell ⟨q3, 1, none⟩ (.int .i64 rv)).setCell ⟨q3, 2, none⟩ (.int .i64 (onPh ph k n m 4))).setCell ⟨q3, 3, none⟩ (.int .i64 (onAt ph k n m))).setCell ⟨q3, 4, none⟩ (.int .i64 wv)).setCell ⟨q3, 5, none⟩ (.slice ap n kp)).setCell ⟨q3, 6, none⟩ (.slice (some ⟨br, or', none⟩) m kr)) = W := ⟨_, rfl⟩
      rw [hWB] at Cb Mb R1 R2 bb ⊢
      clear hWB r2 f2
      refine hK.out _ _ ⟨⟨Cb.cell 0, Cb.cell 1, Cb.cell 2, Cb.cell 3, Cb.cell 4, Cb.cell 5, Cb.cell 6⟩, ⟨Mb.cell 0, Mb.cell 1⟩⟩ (fun _ => ?_)
      clear hK K
      try simp only [Act.put, List.setIfInBounds_toArray, List.set_cons_zero, List.set_cons_succ]
      refine wpAnyH_done (by kernel_rfl) ?_ _
      have r1 := fun i => R1.cell i; have r2 := fun i => R2.cell i
      go_wp2
      refine bodyPost_ret (v := .tuple #[.agg #[.int .i64 mc, .slice (some ⟨bm, om, none⟩) nw kv], .agg #[.int .i64 who, .int .i64 rv, .int .i64 (onPh ph k n m 4), .int .i64 (onAt ph k n m), .int .i64 wv, .slice ap n kp, .slice (some ⟨br, or', none⟩) m kr]]) (by simp [results, Tryd.results38, go_sem, r1, r2]) rfl ?_
      exact ⟨rfl, bb⟩
end Commits
end Go.Proofs.YtppikpdphcfomaaDoor
