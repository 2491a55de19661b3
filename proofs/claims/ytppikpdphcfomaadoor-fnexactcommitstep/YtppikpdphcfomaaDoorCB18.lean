/- Several texts of one proof, in build order: CommitPback. -/
import Derived.Test.YtppikpdphcfomaaDoorCB17
/- The program's steps of a commit. -/
set_option linter.unusedVariables false
set_option linter.unusedSimpArgs false
namespace Go.Proofs.YtppikpdphcfomaaDoor
open Go.RowKit
namespace Commits
open Bas Flat Logs
open Words (W3 lockMay lockTo storeMay storeTo unlockMay unlockTo tickC tickR Err wAt)


theorem word_at {B : Nat} {w : World} {a : Option Addr} {n cap : Nat} {ws : List W3} (h : Words.Sees B w (.slice a n cap) ws) (k : Nat) (hk : k < n) : ∃ b off, a = some ⟨b, off, none⟩ ∧ b < B ∧ w.cell? ⟨b, off + k * 3 + 1, none⟩ = some (.int .i64 (wAt ws (k : Int)).ver) := by
  have hl : ws.length = n := by obtain ⟨a', cap', e, -⟩ := h; simp only [Value.slice.injEq] at e; exact e.2.1.symm
  obtain ⟨b, off, rfl, hb, hA⟩ := Words.at_of h k (by omega)
  exact ⟨b, off, rfl, hb, hA.2.1⟩

set_option maxRecDepth 100000 in
set_option maxHeartbeats 12800000 in
theorem backStepI (who rv ph wv : Int) (k : Nat) (ap ar : Option Addr) (ps : List R2) (kp : Nat) (rs : List Int) (kr : Nat) (mc : Int) (ws : List W3) (av : Option Addr) (kv : Nat) (B : Nat) (w : World) (bE : Addr)
    (hM : Words.Sees B w (.slice av ws.length kv) ws) (hC : SeeC B w (.slice ap ps.length kp) (.slice ar rs.length kr) ps rs) (hE : Err w bE) (hB : B ≤ w.heap.size) (hl : ws.length ≤ 1048576) (hl1 : ps.length ≤ 300) (hl2 : rs.length ≤ 8) (hk : k < ps.length) (cn : Nat) (hcn : (ps.getD k z2).c = cn) (hcl : cn < ws.length) :
    Calls Tryd.prog 42 #[.agg #[.int .i64 who, .int .i64 rv, .int .i64 ph, .int .i64 k, .int .i64 wv, .slice ap ps.length kp, .slice ar rs.length kr], .agg #[.int .i64 mc, .slice av ws.length kv]] w fun e w' => ∃ v', e = .returned (.tuple #[.agg #[.int .i64 mc, v'], .agg #[.int .i64 who, .int .i64 rv, .int .i64 (phB k), .int .i64 (atB k), .int .i64 wv, .slice ap ps.length kp, .slice ar rs.length kr]]) ∧ Words.Owns w.heap.size w' v' (unlockTo mc ws (ps.getD k z2).c who (wAt ws (ps.getD k z2).c).ver) ∧ Below w.heap.size w w' := by
  obtain ⟨g, hg⟩ : ∃ g, w.heap.size = g := ⟨_, rfl⟩
  obtain ⟨n, hn⟩ : ∃ n, ps.length = n := ⟨_, rfl⟩
  obtain ⟨m, hm⟩ : ∃ n, rs.length = n := ⟨_, rfl⟩
  obtain ⟨nw, hnw⟩ : ∃ n, ws.length = n := ⟨_, rfl⟩
  have hon := fun p (at' : Int) h0 h1 W => stepOnI who rv ph at' wv p ap ar ps kp rs kr W h0 h1
  have hbk := fun (x : Int) h0 h1 W => backI who rv ph k wv x ap ar n kp m kr W h0 h1
  rw [hn, hm] at hC hon
  rw [hn] at hl1 hk
  rw [hm] at hl2
  rw [hn, hm]
  have HN := (show Hid (ps.length = n) from hn)
  obtain ⟨c, hc⟩ : ∃ c, (ps.getD k z2).c = c := ⟨_, rfl⟩
  obtain ⟨y, hy⟩ : ∃ c, (ps.getD k z2).v = c := ⟨_, rfl⟩
  try rw [hc]
  try rw [hy]
  have hrow := fun W (b : Below w.heap.size w W) => row_at (hC.p.on b hB) hn k (by omega)
  rw [hc, hy] at hrow
  rw [hc] at hcn
  subst hcn
  obtain ⟨vr, hvr⟩ : ∃ x, (wAt ws (cn : Int)).ver = x := ⟨_, rfl⟩
  obtain ⟨bm, om, rfl, hbm, hwd⟩ := word_at hM cn hcl
  rw [hvr] at hwd
  rw [hvr]
  have hul := fun B v W (h : Words.Sees B W v ws) (hB : B ≤ W.heap.size) (hE : Err W bE) => Words.implUnlock mc v ws (cn : Int) who vr B W bE h hB hE hl
  obtain ⟨lm, hlm⟩ : ∃ b, unlockMay mc ws (cn : Int) who vr = b := ⟨_, rfl⟩
  obtain ⟨zs, hzs⟩ : ∃ l, unlockTo mc ws (cn : Int) who vr = l := ⟨_, rfl⟩
  rw [hlm, hzs] at hul
  rw [hzs]
  clear hlm hzs hvr hc hy hn hm
  have Cb := Blk.new w #[.int .i64 who, .int .i64 rv, .int .i64 ph, .int .i64 k, .int .i64 wv, .slice ap n kp, .slice ar m kr] 36
  have b0 := alloc_below w (.cells #[.int .i64 who, .int .i64 rv, .int .i64 ph, .int .i64 k, .int .i64 wv, .slice ap n kp, .slice ar m kr] 36)
  obtain ⟨w0, hw0⟩ : ∃ w0, w.alloc (.cells #[.int .i64 who, .int .i64 rv, .int .i64 ph, .int .i64 k, .int .i64 wv, .slice ap n kp, .slice ar m kr] 36) = w0 := ⟨_, rfl⟩
  have hz0 : w0.heap.size = g + 1 := by rw [← hw0, ← hg]; simp
  rw [hw0] at Cb b0
  rw [hg] at Cb b0 hB ⊢
  obtain ⟨q1, hq1⟩ : ∃ q, w0.heap.size = q := ⟨_, rfl⟩
  have l01 : g < q1 := by omega
  clear hz0
  rw [hnw] at hM hcl
  rw [hnw]
  have Mb := Blk.new w0 #[.int .i64 mc, .slice (some ⟨bm, om, none⟩) nw kv] 33
  have b1 := alloc_below w0 (.cells #[.int .i64 mc, .slice (some ⟨bm, om, none⟩) nw kv] 33)
  obtain ⟨w1, hw1⟩ : ∃ w1, w0.alloc (.cells #[.int .i64 mc, .slice (some ⟨bm, om, none⟩) nw kv] 33) = w1 := ⟨_, rfl⟩
  have hz1 : w1.heap.size = q1 + 1 := by rw [← hw1, ← hq1]; simp
  rw [hw1] at Mb b1
  rw [hq1] at Mb b1
  obtain ⟨q2, hq2⟩ : ∃ q, w1.heap.size = q := ⟨_, rfl⟩
  have l12 : q1 < q2 := by omega
  clear hz1
  have R1 := Blk.new w1 #[.int .i64 0, .slice none 0 0] 33
  have b2 := alloc_below w1 (.cells #[.int .i64 0, .slice none 0 0] 33)
  obtain ⟨w2, hw2⟩ : ∃ w2, w1.alloc (.cells #[.int .i64 0, .slice none 0 0] 33) = w2 := ⟨_, rfl⟩
  have hz2 : w2.heap.size = q2 + 1 := by rw [← hw2, ← hq2]; simp
  rw [hw2] at R1 b2
  rw [hq2] at R1 b2
  obtain ⟨q3, hq3⟩ : ∃ q, w2.heap.size = q := ⟨_, rfl⟩
  have l23 : q2 < q3 := by omega
  clear hz2
  have R2 := Blk.new w2 #[.int .i64 0, .int .i64 0, .int .i64 0, .int .i64 0, .int .i64 0, .slice none 0 0, .slice none 0 0] 36
  have b3 := alloc_below w2 (.cells #[.int .i64 0, .int .i64 0, .int .i64 0, .int .i64 0, .int .i64 0, .slice none 0 0, .slice none 0 0] 36)
  obtain ⟨w3, hw3⟩ : ∃ w3, w2.alloc (.cells #[.int .i64 0, .int .i64 0, .int .i64 0, .int .i64 0, .int .i64 0, .slice none 0 0, .slice none 0 0] 36) = w3 := ⟨_, rfl⟩
  rw [hw3] at R2 b3
  rw [hq3] at R2 b3
  replace Cb := ((Cb.on b1 (by omega)).on b2 (by omega)).on b3 (by omega)
  replace Mb := (Mb.on b2 (by omega)).on b3 (by omega)
  replace R1 := R1.on b3 (by omega)
  have bb : Below g w w3 := ((b0.trans (b1.mono (by omega))).trans (b2.mono (by omega))).trans (b3.mono (by omega))
  have l3 : q3 < w3.heap.size := R2.lt
  replace hM := hM.on bb hB; replace hC := hC.on bb hB
  replace hE := hE.on bb (by omega)
  clear b0 b1 b2 b3
  obtain ⟨b, off, rfl, hbB, e0, e1⟩ := hrow w3 (hg ▸ bb)
  have eW : w3.cell? ⟨bm, om + cn * 3 + 1, none⟩ = some (.int .i64 vr) := (bb.cell (p := ⟨bm, om + cn * 3 + 1, none⟩) (show bm < g by omega)).trans hwd
  have hkI : (k : Int) < n := by omega
  have hk0 : (0 : Int) ≤ k := by omega
  have hcI : (cn : Int) < nw := by omega
  have hc0 : (0 : Int) ≤ cn := by omega
  have c5 := Cb.cell 5; have c3 := Cb.cell 3
  clear hrow e1
  go_enter Tryd.func42, Tryd.ntmps42
  go_wp2_with fail
  clear hw0 hw1 hw2 hw3 c5 c3
  have cCM : (w3.cell? ⟨g, 0, none⟩ = some (.int .i64 who) ∧ w3.cell? ⟨g, 1, none⟩ = some (.int .i64 rv) ∧ w3.cell? ⟨g, 2, none⟩ = some (.int .i64 ph) ∧ w3.cell? ⟨g, 3, none⟩ = some (.int .i64 (k : Int)) ∧ w3.cell? ⟨g, 4, none⟩ = some (.int .i64 wv) ∧ w3.cell? ⟨g, 5, none⟩ = some (.slice (some ⟨b, off, none⟩) n kp) ∧ w3.cell? ⟨g, 6, none⟩ = some (.slice ar m kr)) ∧ w3.cell? ⟨bm, om + cn * 3 + 1, none⟩ = some (.int .i64 vr) := ⟨⟨Cb.cell 0, Cb.cell 1, Cb.cell 2, Cb.cell 3, Cb.cell 4, Cb.cell 5, Cb.cell 6⟩, eW⟩
  replace Cb := Cb.drew
  replace Mb := Mb.drew
  replace R1 := R1.drew
  replace R2 := R2.drew
  replace hC := hC.drew; replace bb := bb.drew
  replace eW : w3.drew.cell? ⟨bm, om + cn * 3 + 1, none⟩ = _ := eW; replace hE : Err _ _ := hE.on (drew_lowC w3) (Nat.le_refl _); replace hM := hM.on (drew_lowC w3) (show B ≤ w3.heap.size by have := bb.size; omega)
  obtain ⟨WD, hWD⟩ : ∃ WD, w3.drew = WD := ⟨_, rfl⟩
  refine wp_region_held_drew (S := fun W => (W.cell? ⟨g, 0, none⟩ = some (.int .i64 who) ∧ W.cell? ⟨g, 1, none⟩ = some (.int .i64 rv) ∧ W.cell? ⟨g, 2, none⟩ = some (.int .i64 ph) ∧ W.cell? ⟨g, 3, none⟩ = some (.int .i64 (k : Int)) ∧ W.cell? ⟨g, 4, none⟩ = some (.int .i64 wv) ∧ W.cell? ⟨g, 5, none⟩ = some (.slice (some ⟨b, off, none⟩) n kp) ∧ W.cell? ⟨g, 6, none⟩ = some (.slice ar m kr)) ∧ W.cell? ⟨bm, om + cn * 3 + 1, none⟩ = some (.int .i64 vr)) (by kernel_rfl) cCM (fun hHeld => ?_)
  rw [hWD] at Cb Mb R1 R2 bb hC eW hE hM hHeld ⊢
  clear hWD cCM
  refine takeH (i := 1) (some 16) (.int .i64 cn) rfl rfl (by kernel_rfl) (by kernel_rfl) (by kernel_rfl) (fun _ _ _ h => h) (Or.inl ⟨by rfl, fun w hSw => by (try dsimp only at hSw); go_simp⟩) (by assumption) ?_
  try simp only [Act.put, List.setIfInBounds_toArray, List.set_cons_zero, List.set_cons_succ]
  refine takeH (i := 2) (some 17) (.pointer (some ⟨g, 0, none⟩)) rfl rfl (by kernel_rfl) (by kernel_rfl) (by kernel_rfl) (fun _ _ _ h => h) (Or.inl ⟨by rfl, fun w hSw => by (try dsimp only at hSw); go_simp⟩) (by assumption) ?_
  try simp only [Act.put, List.setIfInBounds_toArray, List.set_cons_zero, List.set_cons_succ]
  refine takeH (i := 3) (some 18) (.int .i64 who) rfl rfl (by kernel_rfl) (by kernel_rfl) (by kernel_rfl) (fun _ _ _ h => h) (Or.inl ⟨by rfl, fun w hSw => by (try dsimp only at hSw); go_simp⟩) (by assumption) ?_
  try simp only [Act.put, List.setIfInBounds_toArray, List.set_cons_zero, List.set_cons_succ]
  refine takeH (i := 4) (some 19) (.pointer (some ⟨q1, 1, none⟩)) rfl rfl (by kernel_rfl) (by kernel_rfl) (by kernel_rfl) (fun _ _ _ h => h) (Or.inl ⟨by rfl, fun w hSw => by (try dsimp only at hSw); go_simp⟩) (by assumption) ?_
  try simp only [Act.put, List.setIfInBounds_toArray, List.set_cons_zero, List.set_cons_succ]
  refine takeH (i := 6) (some 21) (.int .i64 cn) rfl rfl (by kernel_rfl) (by kernel_rfl) (by kernel_rfl) (fun _ _ _ h => h) (Or.inl ⟨by rfl, fun w hSw => by (try dsimp only at hSw); go_simp⟩) (by assumption) ?_
  try simp only [Act.put, List.setIfInBounds_toArray, List.set_cons_zero, List.set_cons_succ]
  have m0 := Mb.cell 0; have m1 := Mb.cell 1
  refine wpAnyH_ready (rs := [0, 5]) (by kernel_rfl) (by simp) ?_
  refine AllReadyH.cons rfl (fun K hK => ?_) (AllReadyH.cons rfl (fun K hK => ?_) AllReadyH.nil)
  · go_simp
    refine hK.out _ _ ⟨⟨Cb.cell 0, Cb.cell 1, Cb.cell 2, Cb.cell 3, Cb.cell 4, Cb.cell 5, Cb.cell 6⟩, eW⟩ (fun _ => ?_)
    clear hK K
    try simp only [Act.put, List.setIfInBounds_toArray, List.set_cons_zero, List.set_cons_succ]
    refine wpAnyH_ready (rs := [5]) (by kernel_rfl) (by simp) ?_
    refine AllReadyH.cons rfl (fun K hK => ?_) AllReadyH.nil
    go_simp
    go_simp
    refine hK.out _ _ ⟨⟨Cb.cell 0, Cb.cell 1, Cb.cell 2, Cb.cell 3, Cb.cell 4, Cb.cell 5, Cb.cell 6⟩, eW⟩ (fun _ => ?_)
    clear hK K
    try simp only [Act.put, List.setIfInBounds_toArray, List.set_cons_zero, List.set_cons_succ]
    clear m0 m1
    refine takeH (i := 7) (some 22) (.pointer (some ⟨bm, om + cn * 3, none⟩)) rfl rfl (by kernel_rfl) (by kernel_rfl) (by kernel_rfl) (fun _ _ _ h => h) (Or.inl ⟨by rfl, fun w hSw => by (try dsimp only at hSw); go_simp⟩) (by assumption) ?_
    try simp only [Act.put, List.setIfInBounds_toArray, List.set_cons_zero, List.set_cons_succ]
    refine takeH (i := 8) (some 23) (.pointer (some ⟨bm, om + cn * 3 + 1, none⟩)) rfl rfl (by kernel_rfl) (by kernel_rfl) (by kernel_rfl) (fun _ _ _ h => h) (Or.inl ⟨by rfl, fun w hSw => by (try dsimp only at hSw); go_simp⟩) (by assumption) ?_
    try simp only [Act.put, List.setIfInBounds_toArray, List.set_cons_zero, List.set_cons_succ]
    refine takeH (i := 9) (some 24) (.int .i64 vr) rfl rfl (by kernel_rfl) (by kernel_rfl) (by kernel_rfl) (fun _ _ _ h => h) (Or.inl ⟨by rfl, fun w hSw => by (try dsimp only at hSw); go_simp⟩) (by assumption) ?_
    try simp only [Act.put, List.setIfInBounds_toArray, List.set_cons_zero, List.set_cons_succ]
    refine wpAnyH_ready (rs := [10]) (by kernel_rfl) (by simp) ?_
    refine AllReadyH.cons rfl (fun K hK => ?_) AllReadyH.nil
    go_simp
    refine (hul _ _ WD hM (by have := bb.size; omega) hE).mono ?_
    rintro e w7 ⟨v2, rfl, OM, b7⟩
    obtain ⟨av2, kv2, rfl⟩ := OM.form
    obtain ⟨nz, hnz⟩ : ∃ n, zs.length = n := ⟨_, rfl⟩
    rw [hnz] at OM ⊢
    have hq3 : q3 < WD.heap.size := R2.lt
    have oM := OM.at
    have oM1 : ∀ k, (Value.slice av2 nz kv2).ownBlock = some k → k ≠ q1 := fun k hk => by have := (oM k hk).1; omega
    have oM2 : ∀ k, (Value.slice av2 nz kv2).ownBlock = some k → k ≠ q2 := fun k hk => by have := (oM k hk).1; omega
    have oM3 : ∀ k, (Value.slice av2 nz kv2).ownBlock = some k → k ≠ q3 := fun k hk => by have := (oM k hk).1; omega
    replace OM := OM.mono (show g ≤ WD.heap.size by have := bb.size; omega)
    replace eW := (b7.cell (p := ⟨bm, om + cn * 3 + 1, none⟩) (show bm < WD.heap.size by have := bb.size; omega)).trans eW
    replace Cb := Cb.on b7 Cb.lt
    replace Mb := Mb.on b7 Mb.lt
    replace R1 := R1.on b7 R1.lt
    replace R2 := R2.on b7 R2.lt
    replace hC := hC.on b7 (by have := bb.size; omega)
    replace bb := bb.trans (b7.mono (by have := bb.size; omega))
    clear b7
    clear hM hE hC
    go_simp
    refine hK.out _ _ ⟨⟨Cb.cell 0, Cb.cell 1, Cb.cell 2, Cb.cell 3, Cb.cell 4, Cb.cell 5, Cb.cell 6⟩, eW⟩ (fun _ => ?_)
    clear hK K
    try simp only [Act.put, List.setIfInBounds_toArray, List.set_cons_zero, List.set_cons_succ]
    refine takeH (i := 11) (some 14) (.tuple #[.agg #[.int .i64 mc, .slice av2 nz kv2], .bool lm]) rfl rfl (by kernel_rfl) (by kernel_rfl) (by kernel_rfl) (fun _ _ _ h => h) (Or.inl ⟨by rfl, fun w hSw => by (try dsimp only at hSw); go_simp⟩) (by assumption) ?_
    try simp only [Act.put, List.setIfInBounds_toArray, List.set_cons_zero, List.set_cons_succ]
    refine takeH (i := 12) (some 26) (.agg #[.int .i64 mc, .slice av2 nz kv2]) rfl rfl (by kernel_rfl) (by kernel_rfl) (by kernel_rfl) (fun _ _ _ h => h) (Or.inl ⟨by rfl, fun w hSw => by (try dsimp only at hSw); go_simp⟩) (by assumption) ?_
    try simp only [Act.put, List.setIfInBounds_toArray, List.set_cons_zero, List.set_cons_succ]
    refine takeH (i := 13) (some 27) (.bool lm) rfl rfl (by kernel_rfl) (by kernel_rfl) (by kernel_rfl) (fun _ _ _ h => h) (Or.inl ⟨by rfl, fun w hSw => by (try dsimp only at hSw); go_simp⟩) (by assumption) ?_
    try simp only [Act.put, List.setIfInBounds_toArray, List.set_cons_zero, List.set_cons_succ]
    have r1 := fun i => Mb.cell i; have f1 := fun i => Mb.froz i
    refine wpAnyH_ready (rs := [14]) (by kernel_rfl) (by simp) ?_
    refine AllReadyH.cons rfl (fun K hK => ?_) AllReadyH.nil
    go_simp
    replace Cb := ((Cb.other (show g ≠ q1 by omega) 0 (.int .i64 mc)).other (show g ≠ q1 by omega) 1 (.slice av2 nz kv2))
    replace R1 := ((R1.other (show q2 ≠ q1 by omega) 0 (.int .i64 mc)).other (show q2 ≠ q1 by omega) 1 (.slice av2 nz kv2))
    replace R2 := ((R2.other (show q3 ≠ q1 by omega) 0 (.int .i64 mc)).other (show q3 ≠ q1 by omega) 1 (.slice av2 nz kv2))
    replace Mb := ((Mb.set 0 (.int .i64 mc)).set 1 (.slice av2 nz kv2))
    replace OM := (Words.Owns.other (Words.Owns.other OM (p := ⟨q1, 0, none⟩) oM1 (.int .i64 mc)) (p := ⟨q1, 1, none⟩) oM1 (.slice av2 nz kv2))
    replace eW : ((w7.setCell ⟨q1, 0, none⟩ (.int .i64 mc)).setCell ⟨q1, 1, none⟩ (.slice av2 nz kv2)).cell? ⟨bm, om + cn * 3 + 1, none⟩ = _ := ((cell_ne (show bm ≠ q1 by omega)).trans ((cell_ne (show bm ≠ q1 by omega)).trans eW))
    replace bb := ((bb.setCell (p := ⟨q1, 0, none⟩) (show g ≤ q1 by omega) (.int .i64 mc)).setCell (p := ⟨q1, 1, none⟩) (show g ≤ q1 by omega) (.slice av2 nz kv2))
    obtain ⟨w8, hWN⟩ : ∃ W, ((w7.setCell ⟨q1, 0, none⟩ (.int .i64 mc)).setCell ⟨q1, 1, none⟩ (.slice av2 nz kv2)) = W := ⟨_, rfl⟩
    rw [hWN] at Cb Mb R1 R2 OM bb eW ⊢
    clear hWN r1 f1
    refine hK.out _ _ ⟨⟨Cb.cell 0, Cb.cell 1, Cb.cell 2, Cb.cell 3, Cb.cell 4, Cb.cell 5, Cb.cell 6⟩, eW⟩ (fun _ => ?_)
    clear hK K
    try simp only [Act.put, List.setIfInBounds_toArray, List.set_cons_zero, List.set_cons_succ]
    refine wpAnyH_done (by kernel_rfl) ?_ _
    clear hHeld
    go_wp2_with fail
    have cCM : (w8.cell? ⟨g, 0, none⟩ = some (.int .i64 who) ∧ w8.cell? ⟨g, 1, none⟩ = some (.int .i64 rv) ∧ w8.cell? ⟨g, 2, none⟩ = some (.int .i64 ph) ∧ w8.cell? ⟨g, 3, none⟩ = some (.int .i64 (k : Int)) ∧ w8.cell? ⟨g, 4, none⟩ = some (.int .i64 wv) ∧ w8.cell? ⟨g, 5, none⟩ = some (.slice (some ⟨b, off, none⟩) n kp) ∧ w8.cell? ⟨g, 6, none⟩ = some (.slice ar m kr)) ∧ (w8.cell? ⟨q1, 0, none⟩ = some (.int .i64 mc) ∧ w8.cell? ⟨q1, 1, none⟩ = some (.slice av2 nz kv2)) := ⟨⟨Cb.cell 0, Cb.cell 1, Cb.cell 2, Cb.cell 3, Cb.cell 4, Cb.cell 5, Cb.cell 6⟩, ⟨Mb.cell 0, Mb.cell 1⟩⟩
    replace Cb := Cb.drew
    replace Mb := Mb.drew
    replace R1 := R1.drew
    replace R2 := R2.drew
    replace bb := bb.drew
    replace OM := OM.drew
    obtain ⟨WD, hWD⟩ : ∃ WD, w8.drew = WD := ⟨_, rfl⟩
    refine wp_region_held_drew (S := fun W => (W.cell? ⟨g, 0, none⟩ = some (.int .i64 who) ∧ W.cell? ⟨g, 1, none⟩ = some (.int .i64 rv) ∧ W.cell? ⟨g, 2, none⟩ = some (.int .i64 ph) ∧ W.cell? ⟨g, 3, none⟩ = some (.int .i64 (k : Int)) ∧ W.cell? ⟨g, 4, none⟩ = some (.int .i64 wv) ∧ W.cell? ⟨g, 5, none⟩ = some (.slice (some ⟨b, off, none⟩) n kp) ∧ W.cell? ⟨g, 6, none⟩ = some (.slice ar m kr)) ∧ (W.cell? ⟨q1, 0, none⟩ = some (.int .i64 mc) ∧ W.cell? ⟨q1, 1, none⟩ = some (.slice av2 nz kv2))) (by kernel_rfl) cCM (fun hHeld => ?_)
    rw [hWD] at Cb Mb R1 R2 bb OM hHeld ⊢
    clear hWD cCM
    refine takeH (i := 0) (some 28) (.agg #[.int .i64 mc, .slice av2 nz kv2]) rfl rfl (by kernel_rfl) (by kernel_rfl) (by kernel_rfl) (fun _ _ _ h => h) (Or.inl ⟨by rfl, fun w hSw => by (try dsimp only at hSw); go_simp⟩) (by assumption) ?_
    try simp only [Act.put, List.setIfInBounds_toArray, List.set_cons_zero, List.set_cons_succ]
    refine takeH (i := 1) (some 29) (.agg #[.int .i64 who, .int .i64 rv, .int .i64 ph, .int .i64 (k : Int), .int .i64 wv, .slice (some ⟨b, off, none⟩) n kp, .slice ar m kr]) rfl rfl (by kernel_rfl) (by kernel_rfl) (by kernel_rfl) (fun _ _ _ h => h) (Or.inl ⟨by rfl, fun w hSw => by (try dsimp only at hSw); go_simp⟩) (by assumption) ?_
    try simp only [Act.put, List.setIfInBounds_toArray, List.set_cons_zero, List.set_cons_succ]
    refine takeH (i := 2) (some 30) (.pointer (some ⟨g, 3, none⟩)) rfl rfl (by kernel_rfl) (by kernel_rfl) (by kernel_rfl) (fun _ _ _ h => h) (Or.inl ⟨by rfl, fun w hSw => by (try dsimp only at hSw); go_simp⟩) (by assumption) ?_
    try simp only [Act.put, List.setIfInBounds_toArray, List.set_cons_zero, List.set_cons_succ]
    refine takeH (i := 3) (some 31) (.int .i64 k) rfl rfl (by kernel_rfl) (by kernel_rfl) (by kernel_rfl) (fun _ _ _ h => h) (Or.inl ⟨by rfl, fun w hSw => by (try dsimp only at hSw); go_simp⟩) (by assumption) ?_
    try simp only [Act.put, List.setIfInBounds_toArray, List.set_cons_zero, List.set_cons_succ]
    refine wpAnyH_ready (rs := [4]) (by kernel_rfl) (by simp) ?_
    refine AllReadyH.cons rfl (fun K hK => ?_) AllReadyH.nil
    go_simp
    refine (hbk k (by omega) (by omega) WD).mono ?_
    rintro e w9 ⟨rfl, b9⟩
    replace Cb := Cb.on b9 Cb.lt
    replace Mb := Mb.on b9 Mb.lt
    replace R1 := R1.on b9 R1.lt
    replace R2 := R2.on b9 R2.lt
    replace OM := OM.on b9 (Nat.le_refl _)
    replace bb := bb.trans (b9.mono (by have := bb.size; omega))
    clear b9
    go_simp
    refine hK.out _ _ ⟨⟨Cb.cell 0, Cb.cell 1, Cb.cell 2, Cb.cell 3, Cb.cell 4, Cb.cell 5, Cb.cell 6⟩, ⟨Mb.cell 0, Mb.cell 1⟩⟩ (fun _ => ?_)
    clear hK K
    try simp only [Act.put, List.setIfInBounds_toArray, List.set_cons_zero, List.set_cons_succ]
    have r1 := fun i => R1.cell i; have f1 := fun i => R1.froz i
    refine wpAnyH_ready (rs := [5]) (by kernel_rfl) (by simp) ?_
    refine AllReadyH.cons rfl (fun K hK => ?_) AllReadyH.nil
    go_simp
    replace Cb := ((Cb.other (show g ≠ q2 by omega) 0 (.int .i64 mc)).other (show g ≠ q2 by omega) 1 (.slice av2 nz kv2))
    replace Mb := ((Mb.other (show q1 ≠ q2 by omega) 0 (.int .i64 mc)).other (show q1 ≠ q2 by omega) 1 (.slice av2 nz kv2))
    replace R2 := ((R2.other (show q3 ≠ q2 by omega) 0 (.int .i64 mc)).other (show q3 ≠ q2 by omega) 1 (.slice av2 nz kv2))
    replace R1 := ((R1.set 0 (.int .i64 mc)).set 1 (.slice av2 nz kv2))
    replace OM := (Words.Owns.other (Words.Owns.other OM (p := ⟨q2, 0, none⟩) oM2 (.int .i64 mc)) (p := ⟨q2, 1, none⟩) oM2 (.slice av2 nz kv2))
    replace bb := ((bb.setCell (p := ⟨q2, 0, none⟩) (show g ≤ q2 by omega) (.int .i64 mc)).setCell (p := ⟨q2, 1, none⟩) (show g ≤ q2 by omega) (.slice av2 nz kv2))
    obtain ⟨WA, hWA⟩ : ∃ W, ((w9.setCell ⟨q2, 0, none⟩ (.int .i64 mc)).setCell ⟨q2, 1, none⟩ (.slice av2 nz kv2)) = W := ⟨_, rfl⟩
    rw [hWA] at Cb Mb R1 R2 OM bb ⊢
    clear hWA r1 f1
    refine hK.out _ _ ⟨⟨Cb.cell 0, Cb.cell 1, Cb.cell 2, Cb.cell 3, Cb.cell 4, Cb.cell 5, Cb.cell 6⟩, ⟨Mb.cell 0, Mb.cell 1⟩⟩ (fun _ => ?_)
    clear hK K
    try simp only [Act.put, List.setIfInBounds_toArray, List.set_cons_zero, List.set_cons_succ]
    have r2 := fun i => R2.cell i; have f2 := fun i => R2.froz i
    refine wpAnyH_ready (rs := [6]) (by kernel_rfl) (by simp) ?_
    refine AllReadyH.cons rfl (fun K hK => ?_) AllReadyH.nil
    go_simp
    replace Cb := (((((((Cb.other (show g ≠ q3 by omega) 0 (.int .i64 who)).other (show g ≠ q3 by omega) 1 (.int .i64 rv)).other (show g ≠ q3 by omega) 2 (.int .i64 (phB k))).other (show g ≠ q3 by omega) 3 (.int .i64 (atB k))).other (show g ≠ q3 by omega) 4 (.int .i64 wv)).other (show g ≠ q3 by omega) 5 (.slice (some ⟨b, off, none⟩) n kp)).other (show g ≠ q3 by omega) 6 (.slice ar m kr))
    replace Mb := (((((((Mb.other (show q1 ≠ q3 by omega) 0 (.int .i64 who)).other (show q1 ≠ q3 by omega) 1 (.int .i64 rv)).other (show q1 ≠ q3 by omega) 2 (.int .i64 (phB k))).other (show q1 ≠ q3 by omega) 3 (.int .i64 (atB k))).other (show q1 ≠ q3 by omega) 4 (.int .i64 wv)).other (show q1 ≠ q3 by omega) 5 (.slice (some ⟨b, off, none⟩) n kp)).other (show q1 ≠ q3 by omega) 6 (.slice ar m kr))
    replace R1 := (((((((R1.other (show q2 ≠ q3 by omega) 0 (.int .i64 who)).other (show q2 ≠ q3 by omega) 1 (.int .i64 rv)).other (show q2 ≠ q3 by omega) 2 (.int .i64 (phB k))).other (show q2 ≠ q3 by omega) 3 (.int .i64 (atB k))).other (show q2 ≠ q3 by omega) 4 (.int .i64 wv)).other (show q2 ≠ q3 by omega) 5 (.slice (some ⟨b, off, none⟩) n kp)).other (show q2 ≠ q3 by omega) 6 (.slice ar m kr))
    replace R2 := (((((((R2.set 0 (.int .i64 who)).set 1 (.int .i64 rv)).set 2 (.int .i64 (phB k))).set 3 (.int .i64 (atB k))).set 4 (.int .i64 wv)).set 5 (.slice (some ⟨b, off, none⟩) n kp)).set 6 (.slice ar m kr))
    replace OM := (Words.Owns.other (Words.Owns.other (Words.Owns.other (Words.Owns.other (Words.Owns.other (Words.Owns.other (Words.Owns.other OM (p := ⟨q3, 0, none⟩) oM3 (.int .i64 who)) (p := ⟨q3, 1, none⟩) oM3 (.int .i64 rv)) (p := ⟨q3, 2, none⟩) oM3 (.int .i64 (phB k))) (p := ⟨q3, 3, none⟩) oM3 (.int .i64 (atB k))) (p := ⟨q3, 4, none⟩) oM3 (.int .i64 wv)) (p := ⟨q3, 5, none⟩) oM3 (.slice (some ⟨b, off, none⟩) n kp)) (p := ⟨q3, 6, none⟩) oM3 (.slice ar m kr))
    replace bb := (((((((bb.setCell (p := ⟨q3, 0, none⟩) (show g ≤ q3 by omega) (.int .i64 who)).setCell (p := ⟨q3, 1, none⟩) (show g ≤ q3 by omega) (.int .i64 rv)).setCell (p := ⟨q3, 2, none⟩) (show g ≤ q3 by omega) (.int .i64 (phB k))).setCell (p := ⟨q3, 3, none⟩) (show g ≤ q3 by omega) (.int .i64 (atB k))).setCell (p := ⟨q3, 4, none⟩) (show g ≤ q3 by omega) (.int .i64 wv)).setCell (p := ⟨q3, 5, none⟩) (show g ≤ q3 by omega) (.slice (some ⟨b, off, none⟩) n kp)).setCell (p := ⟨q3, 6, none⟩) (show g ≤ q3 by omega) (.slice ar m kr))
    obtain ⟨WB, hWB⟩ : ∃ W, (((((((WA.setCell ⟨q3, 0, none⟩ (.int .i64 who)).setCell ⟨q3, 1, none⟩ (.int .i64 rv)).setCell ⟨q3, 2, none⟩ (.int .i64 (phB k))).setCell ⟨q3, 3, none⟩ (.int .i64 (atB k))).setCell ⟨q3, 4, none⟩ (.int .i64 wv)).setCell ⟨q3, 5, none⟩ (.slice (some ⟨b, off, none⟩) n kp)).setCell ⟨q3, 6, none⟩ (.slice ar m kr)) = W := ⟨_, rfl⟩
    rw [hWB] at Cb Mb R1 R2 OM bb ⊢
    clear hWB r2 f2
    refine hK.out _ _ ⟨⟨Cb.cell 0, Cb.cell 1, Cb.cell 2, Cb.cell 3, Cb.cell 4, Cb.cell 5, Cb.cell 6⟩, ⟨Mb.cell 0, Mb.cell 1⟩⟩ (fun _ => ?_)
    clear hK K
    try simp only [Act.put, List.setIfInBounds_toArray, List.set_cons_zero, List.set_cons_succ]
    refine wpAnyH_done (by kernel_rfl) ?_ _
    have r1 := fun i => R1.cell i; have r2 := fun i => R2.cell i
    go_wp2
    refine bodyPost_ret (v := .tuple #[.agg #[.int .i64 mc, .slice av2 nz kv2], .agg #[.int .i64 who, .int .i64 rv, .int .i64 (phB k), .int .i64 (atB k), .int .i64 wv, .slice (some ⟨b, off, none⟩) n kp, .slice ar m kr]]) (by simp [results, Tryd.results42, go_sem, r1, r2]) rfl ?_
    exact ⟨_, rfl, OM, bb⟩
  · go_simp
    refine hK.out _ _ ⟨⟨Cb.cell 0, Cb.cell 1, Cb.cell 2, Cb.cell 3, Cb.cell 4, Cb.cell 5, Cb.cell 6⟩, eW⟩ (fun _ => ?_)
    clear hK K
    try simp only [Act.put, List.setIfInBounds_toArray, List.set_cons_zero, List.set_cons_succ]
    refine takeH (i := 7) (some 22) (.pointer (some ⟨bm, om + cn * 3, none⟩)) rfl rfl (by kernel_rfl) (by kernel_rfl) (by kernel_rfl) (fun _ _ _ h => h) (Or.inl ⟨by rfl, fun w hSw => by (try dsimp only at hSw); go_simp⟩) (by assumption) ?_
    try simp only [Act.put, List.setIfInBounds_toArray, List.set_cons_zero, List.set_cons_succ]
    refine takeH (i := 8) (some 23) (.pointer (some ⟨bm, om + cn * 3 + 1, none⟩)) rfl rfl (by kernel_rfl) (by kernel_rfl) (by kernel_rfl) (fun _ _ _ h => h) (Or.inl ⟨by rfl, fun w hSw => by (try dsimp only at hSw); go_simp⟩) (by assumption) ?_
    try simp only [Act.put, List.setIfInBounds_toArray, List.set_cons_zero, List.set_cons_succ]
    refine takeH (i := 9) (some 24) (.int .i64 vr) rfl rfl (by kernel_rfl) (by kernel_rfl) (by kernel_rfl) (fun _ _ _ h => h) (Or.inl ⟨by rfl, fun w hSw => by (try dsimp only at hSw); go_simp⟩) (by assumption) ?_
    try simp only [Act.put, List.setIfInBounds_toArray, List.set_cons_zero, List.set_cons_succ]
    refine wpAnyH_ready (rs := [0]) (by kernel_rfl) (by simp) ?_
    refine AllReadyH.cons rfl (fun K hK => ?_) AllReadyH.nil
    go_simp
    go_simp
    refine hK.out _ _ ⟨⟨Cb.cell 0, Cb.cell 1, Cb.cell 2, Cb.cell 3, Cb.cell 4, Cb.cell 5, Cb.cell 6⟩, eW⟩ (fun _ => ?_)
    clear hK K
    try simp only [Act.put, List.setIfInBounds_toArray, List.set_cons_zero, List.set_cons_succ]
    clear m0 m1
    refine wpAnyH_ready (rs := [10]) (by kernel_rfl) (by simp) ?_
    refine AllReadyH.cons rfl (fun K hK => ?_) AllReadyH.nil
    go_simp
    refine (hul _ _ WD hM (by have := bb.size; omega) hE).mono ?_
    rintro e w7 ⟨v2, rfl, OM, b7⟩
    obtain ⟨av2, kv2, rfl⟩ := OM.form
    obtain ⟨nz, hnz⟩ : ∃ n, zs.length = n := ⟨_, rfl⟩
    rw [hnz] at OM ⊢
    have hq3 : q3 < WD.heap.size := R2.lt
    have oM := OM.at
    have oM1 : ∀ k, (Value.slice av2 nz kv2).ownBlock = some k → k ≠ q1 := fun k hk => by have := (oM k hk).1; omega
    have oM2 : ∀ k, (Value.slice av2 nz kv2).ownBlock = some k → k ≠ q2 := fun k hk => by have := (oM k hk).1; omega
    have oM3 : ∀ k, (Value.slice av2 nz kv2).ownBlock = some k → k ≠ q3 := fun k hk => by have := (oM k hk).1; omega
    replace OM := OM.mono (show g ≤ WD.heap.size by have := bb.size; omega)
    replace eW := (b7.cell (p := ⟨bm, om + cn * 3 + 1, none⟩) (show bm < WD.heap.size by have := bb.size; omega)).trans eW
    replace Cb := Cb.on b7 Cb.lt
    replace Mb := Mb.on b7 Mb.lt
    replace R1 := R1.on b7 R1.lt
    replace R2 := R2.on b7 R2.lt
    replace hC := hC.on b7 (by have := bb.size; omega)
    replace bb := bb.trans (b7.mono (by have := bb.size; omega))
    clear b7
    clear hM hE hC
    go_simp
    refine hK.out _ _ ⟨⟨Cb.cell 0, Cb.cell 1, Cb.cell 2, Cb.cell 3, Cb.cell 4, Cb.cell 5, Cb.cell 6⟩, eW⟩ (fun _ => ?_)
    clear hK K
    try simp only [Act.put, List.setIfInBounds_toArray, List.set_cons_zero, List.set_cons_succ]
    refine takeH (i := 11) (some 14) (.tuple #[.agg #[.int .i64 mc, .slice av2 nz kv2], .bool lm]) rfl rfl (by kernel_rfl) (by kernel_rfl) (by kernel_rfl) (fun _ _ _ h => h) (Or.inl ⟨by rfl, fun w hSw => by (try dsimp only at hSw); go_simp⟩) (by assumption) ?_
    try simp only [Act.put, List.setIfInBounds_toArray, List.set_cons_zero, List.set_cons_succ]
    refine takeH (i := 12) (some 26) (.agg #[.int .i64 mc, .slice av2 nz kv2]) rfl rfl (by kernel_rfl) (by kernel_rfl) (by kernel_rfl) (fun _ _ _ h => h) (Or.inl ⟨by rfl, fun w hSw => by (try dsimp only at hSw); go_simp⟩) (by assumption) ?_
    try simp only [Act.put, List.setIfInBounds_toArray, List.set_cons_zero, List.set_cons_succ]
    refine takeH (i := 13) (some 27) (.bool lm) rfl rfl (by kernel_rfl) (by kernel_rfl) (by kernel_rfl) (fun _ _ _ h => h) (Or.inl ⟨by rfl, fun w hSw => by (try dsimp only at hSw); go_simp⟩) (by assumption) ?_
    try simp only [Act.put, List.setIfInBounds_toArray, List.set_cons_zero, List.set_cons_succ]
    have r1 := fun i => Mb.cell i; have f1 := fun i => Mb.froz i
    refine wpAnyH_ready (rs := [14]) (by kernel_rfl) (by simp) ?_
    refine AllReadyH.cons rfl (fun K hK => ?_) AllReadyH.nil
    go_simp
    replace Cb := ((Cb.other (show g ≠ q1 by omega) 0 (.int .i64 mc)).other (show g ≠ q1 by omega) 1 (.slice av2 nz kv2))
    replace R1 := ((R1.other (show q2 ≠ q1 by omega) 0 (.int .i64 mc)).other (show q2 ≠ q1 by omega) 1 (.slice av2 nz kv2))
    replace R2 := ((R2.other (show q3 ≠ q1 by omega) 0 (.int .i64 mc)).other (show q3 ≠ q1 by omega) 1 (.slice av2 nz kv2))
    replace Mb := ((Mb.set 0 (.int .i64 mc)).set 1 (.slice av2 nz kv2))
    replace OM := (Words.Owns.other (Words.Owns.other OM (p := ⟨q1, 0, none⟩) oM1 (.int .i64 mc)) (p := ⟨q1, 1, none⟩) oM1 (.slice av2 nz kv2))
    replace eW : ((w7.setCell ⟨q1, 0, none⟩ (.int .i64 mc)).setCell ⟨q1, 1, none⟩ (.slice av2 nz kv2)).cell? ⟨bm, om + cn * 3 + 1, none⟩ = _ := ((cell_ne (show bm ≠ q1 by omega)).trans ((cell_ne (show bm ≠ q1 by omega)).trans eW))
    replace bb := ((bb.setCell (p := ⟨q1, 0, none⟩) (show g ≤ q1 by omega) (.int .i64 mc)).setCell (p := ⟨q1, 1, none⟩) (show g ≤ q1 by omega) (.slice av2 nz kv2))
    obtain ⟨w8, hWN⟩ : ∃ W, ((w7.setCell ⟨q1, 0, none⟩ (.int .i64 mc)).setCell ⟨q1, 1, none⟩ (.slice av2 nz kv2)) = W := ⟨_, rfl⟩
    rw [hWN] at Cb Mb R1 R2 OM bb eW ⊢
    clear hWN r1 f1
    refine hK.out _ _ ⟨⟨Cb.cell 0, Cb.cell 1, Cb.cell 2, Cb.cell 3, Cb.cell 4, Cb.cell 5, Cb.cell 6⟩, eW⟩ (fun _ => ?_)
    clear hK K
    try simp only [Act.put, List.setIfInBounds_toArray, List.set_cons_zero, List.set_cons_succ]
    refine wpAnyH_done (by kernel_rfl) ?_ _
    clear hHeld
    go_wp2_with fail
    have cCM : (w8.cell? ⟨g, 0, none⟩ = some (.int .i64 who) ∧ w8.cell? ⟨g, 1, none⟩ = some (.int .i64 rv) ∧ w8.cell? ⟨g, 2, none⟩ = some (.int .i64 ph) ∧ w8.cell? ⟨g, 3, none⟩ = some (.int .i64 (k : Int)) ∧ w8.cell? ⟨g, 4, none⟩ = some (.int .i64 wv) ∧ w8.cell? ⟨g, 5, none⟩ = some (.slice (some ⟨b, off, none⟩) n kp) ∧ w8.cell? ⟨g, 6, none⟩ = some (.slice ar m kr)) ∧ (w8.cell? ⟨q1, 0, none⟩ = some (.int .i64 mc) ∧ w8.cell? ⟨q1, 1, none⟩ = some (.slice av2 nz kv2)) := ⟨⟨Cb.cell 0, Cb.cell 1, Cb.cell 2, Cb.cell 3, Cb.cell 4, Cb.cell 5, Cb.cell 6⟩, ⟨Mb.cell 0, Mb.cell 1⟩⟩
    replace Cb := Cb.drew
    replace Mb := Mb.drew
    replace R1 := R1.drew
    replace R2 := R2.drew
    replace bb := bb.drew
    replace OM := OM.drew
    obtain ⟨WD, hWD⟩ : ∃ WD, w8.drew = WD := ⟨_, rfl⟩
    refine wp_region_held_drew (S := fun W => (W.cell? ⟨g, 0, none⟩ = some (.int .i64 who) ∧ W.cell? ⟨g, 1, none⟩ = some (.int .i64 rv) ∧ W.cell? ⟨g, 2, none⟩ = some (.int .i64 ph) ∧ W.cell? ⟨g, 3, none⟩ = some (.int .i64 (k : Int)) ∧ W.cell? ⟨g, 4, none⟩ = some (.int .i64 wv) ∧ W.cell? ⟨g, 5, none⟩ = some (.slice (some ⟨b, off, none⟩) n kp) ∧ W.cell? ⟨g, 6, none⟩ = some (.slice ar m kr)) ∧ (W.cell? ⟨q1, 0, none⟩ = some (.int .i64 mc) ∧ W.cell? ⟨q1, 1, none⟩ = some (.slice av2 nz kv2))) (by kernel_rfl) cCM (fun hHeld => ?_)
    rw [hWD] at Cb Mb R1 R2 bb OM hHeld ⊢
    clear hWD cCM
    refine takeH (i := 0) (some 28) (.agg #[.int .i64 mc, .slice av2 nz kv2]) rfl rfl (by kernel_rfl) (by kernel_rfl) (by kernel_rfl) (fun _ _ _ h => h) (Or.inl ⟨by rfl, fun w hSw => by (try dsimp only at hSw); go_simp⟩) (by assumption) ?_
    try simp only [Act.put, List.setIfInBounds_toArray, List.set_cons_zero, List.set_cons_succ]
    refine takeH (i := 1) (some 29) (.agg #[.int .i64 who, .int .i64 rv, .int .i64 ph, .int .i64 (k : Int), .int .i64 wv, .slice (some ⟨b, off, none⟩) n kp, .slice ar m kr]) rfl rfl (by kernel_rfl) (by kernel_rfl) (by kernel_rfl) (fun _ _ _ h => h) (Or.inl ⟨by rfl, fun w hSw => by (try dsimp only at hSw); go_simp⟩) (by assumption) ?_
    try simp only [Act.put, List.setIfInBounds_toArray, List.set_cons_zero, List.set_cons_succ]
    refine takeH (i := 2) (some 30) (.pointer (some ⟨g, 3, none⟩)) rfl rfl (by kernel_rfl) (by kernel_rfl) (by kernel_rfl) (fun _ _ _ h => h) (Or.inl ⟨by rfl, fun w hSw => by (try dsimp only at hSw); go_simp⟩) (by assumption) ?_
    try simp only [Act.put, List.setIfInBounds_toArray, List.set_cons_zero, List.set_cons_succ]
    refine takeH (i := 3) (some 31) (.int .i64 k) rfl rfl (by kernel_rfl) (by kernel_rfl) (by kernel_rfl) (fun _ _ _ h => h) (Or.inl ⟨by rfl, fun w hSw => by (try dsimp only at hSw); go_simp⟩) (by assumption) ?_
    try simp only [Act.put, List.setIfInBounds_toArray, List.set_cons_zero, List.set_cons_succ]
    refine wpAnyH_ready (rs := [4]) (by kernel_rfl) (by simp) ?_
    refine AllReadyH.cons rfl (fun K hK => ?_) AllReadyH.nil
    go_simp
    refine (hbk k (by omega) (by omega) WD).mono ?_
    rintro e w9 ⟨rfl, b9⟩
    replace Cb := Cb.on b9 Cb.lt
    replace Mb := Mb.on b9 Mb.lt
    replace R1 := R1.on b9 R1.lt
    replace R2 := R2.on b9 R2.lt
    replace OM := OM.on b9 (Nat.le_refl _)
    replace bb := bb.trans (b9.mono (by have := bb.size; omega))
    clear b9
    go_simp
    refine hK.out _ _ ⟨⟨Cb.cell 0, Cb.cell 1, Cb.cell 2, Cb.cell 3, Cb.cell 4, Cb.cell 5, Cb.cell 6⟩, ⟨Mb.cell 0, Mb.cell 1⟩⟩ (fun _ => ?_)
    clear hK K
    try simp only [Act.put, List.setIfInBounds_toArray, List.set_cons_zero, List.set_cons_succ]
    have r1 := fun i => R1.cell i; have f1 := fun i => R1.froz i
    refine wpAnyH_ready (rs := [5]) (by kernel_rfl) (by simp) ?_
    refine AllReadyH.cons rfl (fun K hK => ?_) AllReadyH.nil
    go_simp
    replace Cb := ((Cb.other (show g ≠ q2 by omega) 0 (.int .i64 mc)).other (show g ≠ q2 by omega) 1 (.slice av2 nz kv2))
    replace Mb := ((Mb.other (show q1 ≠ q2 by omega) 0 (.int .i64 mc)).other (show q1 ≠ q2 by omega) 1 (.slice av2 nz kv2))
    replace R2 := ((R2.other (show q3 ≠ q2 by omega) 0 (.int .i64 mc)).other (show q3 ≠ q2 by omega) 1 (.slice av2 nz kv2))
    replace R1 := ((R1.set 0 (.int .i64 mc)).set 1 (.slice av2 nz kv2))
    replace OM := (Words.Owns.other (Words.Owns.other OM (p := ⟨q2, 0, none⟩) oM2 (.int .i64 mc)) (p := ⟨q2, 1, none⟩) oM2 (.slice av2 nz kv2))
    replace bb := ((bb.setCell (p := ⟨q2, 0, none⟩) (show g ≤ q2 by omega) (.int .i64 mc)).setCell (p := ⟨q2, 1, none⟩) (show g ≤ q2 by omega) (.slice av2 nz kv2))
    obtain ⟨WA, hWA⟩ : ∃ W, ((w9.setCell ⟨q2, 0, none⟩ (.int .i64 mc)).setCell ⟨q2, 1, none⟩ (.slice av2 nz kv2)) = W := ⟨_, rfl⟩
    rw [hWA] at Cb Mb R1 R2 OM bb ⊢
    clear hWA r1 f1
    refine hK.out _ _ ⟨⟨Cb.cell 0, Cb.cell 1, Cb.cell 2, Cb.cell 3, Cb.cell 4, Cb.cell 5, Cb.cell 6⟩, ⟨Mb.cell 0, Mb.cell 1⟩⟩ (fun _ => ?_)
    clear hK K
    try simp only [Act.put, List.setIfInBounds_toArray, List.set_cons_zero, List.set_cons_succ]
    have r2 := fun i => R2.cell i; have f2 := fun i => R2.froz i
    refine wpAnyH_ready (rs := [6]) (by kernel_rfl) (by simp) ?_
    refine AllReadyH.cons rfl (fun K hK => ?_) AllReadyH.nil
    go_simp
    replace Cb := (((((((Cb.other (show g ≠ q3 by omega) 0 (.int .i64 who)).other (show g ≠ q3 by omega) 1 (.int .i64 rv)).other (show g ≠ q3 by omega) 2 (.int .i64 (phB k))).other (show g ≠ q3 by omega) 3 (.int .i64 (atB k))).other (show g ≠ q3 by omega) 4 (.int .i64 wv)).other (show g ≠ q3 by omega) 5 (.slice (some ⟨b, off, none⟩) n kp)).other (show g ≠ q3 by omega) 6 (.slice ar m kr))
    replace Mb := (((((((Mb.other (show q1 ≠ q3 by omega) 0 (.int .i64 who)).other (show q1 ≠ q3 by omega) 1 (.int .i64 rv)).other (show q1 ≠ q3 by omega) 2 (.int .i64 (phB k))).other (show q1 ≠ q3 by omega) 3 (.int .i64 (atB k))).other (show q1 ≠ q3 by omega) 4 (.int .i64 wv)).other (show q1 ≠ q3 by omega) 5 (.slice (some ⟨b, off, none⟩) n kp)).other (show q1 ≠ q3 by omega) 6 (.slice ar m kr))
    replace R1 := (((((((R1.other (show q2 ≠ q3 by omega) 0 (.int .i64 who)).other (show q2 ≠ q3 by omega) 1 (.int .i64 rv)).other (show q2 ≠ q3 by omega) 2 (.int .i64 (phB k))).other (show q2 ≠ q3 by omega) 3 (.int .i64 (atB k))).other (show q2 ≠ q3 by omega) 4 (.int .i64 wv)).other (show q2 ≠ q3 by omega) 5 (.slice (some ⟨b, off, none⟩) n kp)).other (show q2 ≠ q3 by omega) 6 (.slice ar m kr))
    replace R2 := (((((((R2.set 0 (.int .i64 who)).set 1 (.int .i64 rv)).set 2 (.int .i64 (phB k))).set 3 (.int .i64 (atB k))).set 4 (.int .i64 wv)).set 5 (.slice (some ⟨b, off, none⟩) n kp)).set 6 (.slice ar m kr))
    replace OM := (Words.Owns.other (Words.Owns.other (Words.Owns.other (Words.Owns.other (Words.Owns.other (Words.Owns.other (Words.Owns.other OM (p := ⟨q3, 0, none⟩) oM3 (.int .i64 who)) (p := ⟨q3, 1, none⟩) oM3 (.int .i64 rv)) (p := ⟨q3, 2, none⟩) oM3 (.int .i64 (phB k))) (p := ⟨q3, 3, none⟩) oM3 (.int .i64 (atB k))) (p := ⟨q3, 4, none⟩) oM3 (.int .i64 wv)) (p := ⟨q3, 5, none⟩) oM3 (.slice (some ⟨b, off, none⟩) n kp)) (p := ⟨q3, 6, none⟩) oM3 (.slice ar m kr))
    replace bb := (((((((bb.setCell (p := ⟨q3, 0, none⟩) (show g ≤ q3 by omega) (.int .i64 who)).setCell (p := ⟨q3, 1, none⟩) (show g ≤ q3 by omega) (.int .i64 rv)).setCell (p := ⟨q3, 2, none⟩) (show g ≤ q3 by omega) (.int .i64 (phB k))).setCell (p := ⟨q3, 3, none⟩) (show g ≤ q3 by omega) (.int .i64 (atB k))).setCell (p := ⟨q3, 4, none⟩) (show g ≤ q3 by omega) (.int .i64 wv)).setCell (p := ⟨q3, 5, none⟩) (show g ≤ q3 by omega) (.slice (some ⟨b, off, none⟩) n kp)).setCell (p := ⟨q3, 6, none⟩) (show g ≤ q3 by omega) (.slice ar m kr))
    obtain ⟨WB, hWB⟩ : ∃ W, (((((((WA.setCell ⟨q3, 0, none⟩ (.int .i64 who)).setCell ⟨q3, 1, none⟩ (.int .i64 rv)).setCell ⟨q3, 2, none⟩ (.int .i64 (phB k))).setCell ⟨q3, 3, none⟩ (.int .i64 (atB k))).setCell ⟨q3, 4, none⟩ (.int .i64 wv)).setCell ⟨q3, 5, none⟩ (.slice (some ⟨b, off, none⟩) n kp)).setCell ⟨q3, 6, none⟩ (.slice ar m kr)) = W := ⟨_, rfl⟩
    rw [hWB] at Cb Mb R1 R2 OM bb ⊢
    clear hWB r2 f2
    refine hK.out _ _ ⟨⟨Cb.cell 0, Cb.cell 1, Cb.cell 2, Cb.cell 3, Cb.cell 4, Cb.cell 5, Cb.cell 6⟩, ⟨Mb.cell 0, Mb.cell 1⟩⟩ (fun _ => ?_)
    clear hK K
    try simp only [Act.put, List.setIfInBounds_toArray, List.set_cons_zero, List.set_cons_succ]
    refine wpAnyH_done (by kernel_rfl) ?_ _
    have r1 := fun i => R1.cell i; have r2 := fun i => R2.cell i
    go_wp2
    refine bodyPost_ret (v := .tuple #[.agg #[.int .i64 mc, .slice av2 nz kv2], .agg #[.int .i64 who, .int .i64 rv, .int .i64 (phB k), .int .i64 (atB k), .int .i64 wv, .slice (some ⟨b, off, none⟩) n kp, .slice ar m kr]]) (by simp [results, Tryd.results42, go_sem, r1, r2]) rfl ?_
    exact ⟨_, rfl, OM, bb⟩
end Commits
end Go.Proofs.YtppikpdphcfomaaDoor
