/- Several texts of one proof, in build order: CommitStepOn, WordRow. -/
import Derived.Test.YtppikpdphcfomaaDoorProg
import Derived.WalkKit
import Derived.WalkLawsBesides
import Derived.WalkSpells
import Derived.Laws.OwnMore
import Derived.Laws.StructEq
import Derived.Deep.OwnRows
import Derived.Deep.AppendLies
import Derived.Deep.RegionWith
import Derived.Outline
import Derived.OpenShut
import Derived.Test.YtppikpdphcfomaaDoorCB7
import Derived.Test.YtppikpdphcfomaaDoorCB10
/- A step on. -/
set_option linter.unusedVariables false
set_option linter.unusedSimpArgs false
namespace Go.Proofs.YtppikpdphcfomaaDoor
open Go.RowKit
namespace Commits
open Bas Flat Logs
def stepsN (ph : Int) (n m : Nat) : Int := if ph = 1 ∨ ph = 4 ∨ ph = 5 ∨ ph = 7 then n else if ph = 3 then m else if ph = 2 ∨ ph = 6 ∨ ph = 8 then 1 else 0
def onPh (ph at' : Int) (n m : Nat) (p : Int) : Int := if at' + 1 < stepsN ph n m then ph else goPh n m p
def onAt (ph at' : Int) (n m : Nat) : Int := if at' + 1 < stepsN ph n m then at' + 1 else 0
set_option maxRecDepth 100000 in
set_option maxHeartbeats 12800000 in
theorem stepOnI (who rv ph at' wv p : Int) (ap ar : Option Addr) (ps : List R2) (kp : Nat) (rs : List Int) (kr : Nat) (w : World) (h0 : 0 ≤ at') (h1 : at' ≤ 1000000) :
    Calls Tryd.prog 71 #[.agg #[.int .i64 who, .int .i64 rv, .int .i64 ph, .int .i64 at', .int .i64 wv, .slice ap ps.length kp, .slice ar rs.length kr], .int .i64 p] w fun e w' => e = .returned (.agg #[.int .i64 who, .int .i64 rv, .int .i64 (onPh ph at' ps.length rs.length p), .int .i64 (onAt ph at' ps.length rs.length), .int .i64 wv, .slice ap ps.length kp, .slice ar rs.length kr]) ∧ Below w.heap.size w w' := by
  have HL : ∀ W, Calls Tryd.prog 68 #[.agg #[.int .i64 who, .int .i64 rv, .int .i64 ph, .int .i64 (at' + 1), .int .i64 wv, .slice ap ps.length kp, .slice ar rs.length kr]] W fun e w' => e = .returned (.int .i64 (stepsN ph ps.length rs.length)) ∧ Below W.heap.size W w' := fun W => stepsC ⟨who, rv, ph, at' + 1, wv, ps, rs⟩ ap ar kp kr W
  obtain ⟨n, hn⟩ : ∃ n, ps.length = n := ⟨_, rfl⟩
  obtain ⟨m, hm⟩ : ∃ n, rs.length = n := ⟨_, rfl⟩
  rw [hn, hm] at HL ⊢
  have HG := fun W => onI who rv ph (at' + 1) wv p ap ar n kp m kr W
  have hA : Hid (at' + 1 < stepsN ph n m → ph = onPh ph at' n m p ∧ at' + 1 = onAt ph at' n m) := fun h => ⟨(if_pos h).symm, (if_pos h).symm⟩
  have hB : Hid (¬ at' + 1 < stepsN ph n m → goPh n m p = onPh ph at' n m p ∧ 0 = onAt ph at' n m) := fun h => ⟨(if_neg h).symm, (if_neg h).symm⟩
  obtain ⟨s, hs⟩ : ∃ s, stepsN ph n m = s := ⟨_, rfl⟩
  rw [hs] at HL hA hB
  obtain ⟨op, hop⟩ : ∃ x, onPh ph at' n m p = x := ⟨_, rfl⟩
  obtain ⟨oa, hoa⟩ : ∃ x, onAt ph at' n m = x := ⟨_, rfl⟩
  rw [hop, hoa] at hA hB ⊢
  clear hs hop hoa hn hm
  obtain ⟨q, hq⟩ : ∃ q, w.heap.size = q := ⟨_, rfl⟩
  have X0 := Blk.new w #[.int .i64 who, .int .i64 rv, .int .i64 ph, .int .i64 at', .int .i64 wv, .slice ap n kp, .slice ar m kr] 36
  have b0 := alloc_below w (.cells #[.int .i64 who, .int .i64 rv, .int .i64 ph, .int .i64 at', .int .i64 wv, .slice ap n kp, .slice ar m kr] 36)
  obtain ⟨w0, hw0⟩ : ∃ w0, w.alloc (.cells #[.int .i64 who, .int .i64 rv, .int .i64 ph, .int .i64 at', .int .i64 wv, .slice ap n kp, .slice ar m kr] 36) = w0 := ⟨_, rfl⟩
  have hz0 : w0.heap.size = q + 1 := by rw [← hw0, ← hq]; simp
  rw [hw0] at X0 b0
  rw [hq] at X0 b0 ⊢
  obtain ⟨q1, hq1⟩ : ∃ q, w0.heap.size = q := ⟨_, rfl⟩
  have l01 : q < q1 := by omega
  clear hz0
  have S1 := Blk.new w0 #[.int .i64 0, .int .i64 0, .int .i64 0, .int .i64 0, .int .i64 0, .slice none 0 0, .slice none 0 0] 36
  have b1 := alloc_below w0 (.cells #[.int .i64 0, .int .i64 0, .int .i64 0, .int .i64 0, .int .i64 0, .slice none 0 0, .slice none 0 0] 36)
  obtain ⟨w1, hw1⟩ : ∃ w1, w0.alloc (.cells #[.int .i64 0, .int .i64 0, .int .i64 0, .int .i64 0, .int .i64 0, .slice none 0 0, .slice none 0 0] 36) = w1 := ⟨_, rfl⟩
  rw [hw1] at S1 b1
  rw [hq1] at S1 b1
  have X1 := X0.on b1 (by omega)
  have bb : Below q w w1 := b0.trans (b1.mono (by omega))
  have x3 := X1.cell 3; have f1 := fun i => X1.froz i
  have X2 := X1.set 3 (.int .i64 (at' + 1))
  have S2 := S1.other (show q1 ≠ q by omega) 3 (.int .i64 (at' + 1))
  have b2 := bb.setCell (p := ⟨q, 3, none⟩) (Nat.le_refl q) (.int .i64 (at' + 1))
  obtain ⟨w2, hw2⟩ : ∃ W, w1.setCell ⟨q, 3, none⟩ (.int .i64 (at' + 1)) = W := ⟨_, rfl⟩
  rw [hw2] at X2 S2 b2
  have hwr : IntKind.i64.wrap (at' + 1) = at' + 1 := by rw [IntKind.wrap_i64]; omega
  have c2 : w2.cell? ⟨q, 0, none⟩ = some (.int .i64 who) ∧ w2.cell? ⟨q, 1, none⟩ = some (.int .i64 rv) ∧ w2.cell? ⟨q, 2, none⟩ = some (.int .i64 ph) ∧ w2.cell? ⟨q, 3, none⟩ = some (.int .i64 (at' + 1)) ∧ w2.cell? ⟨q, 4, none⟩ = some (.int .i64 wv) ∧ w2.cell? ⟨q, 5, none⟩ = some (.slice ap n kp) ∧ w2.cell? ⟨q, 6, none⟩ = some (.slice ar m kr) := ⟨X2.cell 0, X2.cell 1, X2.cell 2, X2.cell 3, X2.cell 4, X2.cell 5, X2.cell 6⟩
  clear X0 X1 S1 b0 b1 bb
  go_enter Tryd.func71, Tryd.ntmps71
  go_wp2_with fail
  try rw [hw2]
  have XD := X2.drew; have SD := S2.drew; have bD : Below q w w2.drew := b2.drew
  obtain ⟨WD, hWD⟩ : ∃ WD, w2.drew = WD := ⟨_, rfl⟩
  refine wp_region_held_drew (S := fun W => W.cell? ⟨q, 0, none⟩ = some (.int .i64 who) ∧ W.cell? ⟨q, 1, none⟩ = some (.int .i64 rv) ∧ W.cell? ⟨q, 2, none⟩ = some (.int .i64 ph) ∧ W.cell? ⟨q, 3, none⟩ = some (.int .i64 (at' + 1)) ∧ W.cell? ⟨q, 4, none⟩ = some (.int .i64 wv) ∧ W.cell? ⟨q, 5, none⟩ = some (.slice ap n kp) ∧ W.cell? ⟨q, 6, none⟩ = some (.slice ar m kr)) (by kernel_rfl) c2 (fun hHeld => ?_)
  rw [hWD] at XD SD bD hHeld ⊢
  clear hWD c2 X2 S2 b2 hw2 x3 f1
  refine takeH (i := 0) (some 9) (.pointer (some ⟨q, 3, none⟩)) rfl rfl (by kernel_rfl) (by kernel_rfl) (by kernel_rfl) (fun _ _ _ h => h) (Or.inl ⟨by rfl, fun w hSw => by (try dsimp only at hSw); go_simp⟩) (by assumption) ?_
  simp only [Act.put, List.setIfInBounds_toArray, List.set_cons_zero, List.set_cons_succ]
  refine takeH (i := 1) (some 10) (.int .i64 (at' + 1)) rfl rfl (by kernel_rfl) (by kernel_rfl) (by kernel_rfl) (fun _ _ _ h => h) (Or.inl ⟨by rfl, fun w hSw => by (try dsimp only at hSw); go_simp⟩) (by assumption) ?_
  simp only [Act.put, List.setIfInBounds_toArray, List.set_cons_zero, List.set_cons_succ]
  refine takeH (i := 2) (some 11) (.agg #[.int .i64 who, .int .i64 rv, .int .i64 ph, .int .i64 (at' + 1), .int .i64 wv, .slice ap n kp, .slice ar m kr]) rfl rfl (by kernel_rfl) (by kernel_rfl) (by kernel_rfl) (fun _ _ _ h => h) (Or.inl ⟨by rfl, fun w hSw => by (try dsimp only at hSw); go_simp⟩) (by assumption) ?_
  simp only [Act.put, List.setIfInBounds_toArray, List.set_cons_zero, List.set_cons_succ]
  refine wpAnyH_ready (rs := [3]) (by kernel_rfl) (by simp) ?_
  refine AllReadyH.cons rfl (fun K hK => ?_) AllReadyH.nil
  go_simp
  refine (HL WD).mono ?_
  rintro e w7 ⟨rfl, b7⟩
  replace XD := XD.on b7 XD.lt; replace SD := SD.on b7 SD.lt
  replace bD := bD.trans (b7.mono (by have := bD.size; omega))
  go_simp
  refine hK.out _ _ ⟨XD.cell 0, XD.cell 1, XD.cell 2, XD.cell 3, XD.cell 4, XD.cell 5, XD.cell 6⟩ (fun _ => ?_)
  clear hK K
  try simp only [Act.put, List.setIfInBounds_toArray, List.set_cons_zero, List.set_cons_succ]
  refine takeH (i := 4) (some 13) (.bool (decide (at' + 1 < s))) rfl rfl (by kernel_rfl) (by kernel_rfl) (by kernel_rfl) (fun _ _ _ h => h) (Or.inl ⟨by rfl, fun w hSw => by (try dsimp only at hSw); go_simp⟩) (by assumption) ?_
  try simp only [Act.put, List.setIfInBounds_toArray, List.set_cons_zero, List.set_cons_succ]
  refine wpAnyH_done (by kernel_rfl) ?_ _
  clear hHeld
  by_cases hlt : at' + 1 < s
  · obtain ⟨rfl, rfl⟩ := hA.out hlt
    clear hA hB
    have y0 := XD.cell 0; have y1 := XD.cell 1; have y2 := XD.cell 2; have y3 := XD.cell 3; have y4 := XD.cell 4; have y5 := XD.cell 5; have y6 := XD.cell 6
    have s2 := fun i => SD.cell i; have g2 := fun i => SD.froz i
    have S9 := (((((((SD.set 0 (.int .i64 who)).set 1 (.int .i64 rv)).set 2 (.int .i64 ph)).set 3 (.int .i64 (at' + 1))).set 4 (.int .i64 wv)).set 5 (.slice ap n kp)).set 6 (.slice ar m kr))
    have s9 := fun i => S9.cell i
    have b9 := (((((((bD.setCell (p := ⟨q1, 0, none⟩) (show q ≤ q1 by omega) (.int .i64 who)).setCell (p := ⟨q1, 1, none⟩) (show q ≤ q1 by omega) (.int .i64 rv)).setCell (p := ⟨q1, 2, none⟩) (show q ≤ q1 by omega) (.int .i64 ph)).setCell (p := ⟨q1, 3, none⟩) (show q ≤ q1 by omega) (.int .i64 (at' + 1))).setCell (p := ⟨q1, 4, none⟩) (show q ≤ q1 by omega) (.int .i64 wv)).setCell (p := ⟨q1, 5, none⟩) (show q ≤ q1 by omega) (.slice ap n kp)).setCell (p := ⟨q1, 6, none⟩) (show q ≤ q1 by omega) (.slice ar m kr))
    clear XD SD bD S9
    go_wp2
    refine bodyPost_ret (v := .agg #[.int .i64 who, .int .i64 rv, .int .i64 ph, .int .i64 (at' + 1), .int .i64 wv, .slice ap n kp, .slice ar m kr]) (by simp [results, Tryd.results71, go_sem, s9]) rfl ⟨rfl, b9⟩
  · obtain ⟨rfl, rfl⟩ := hB.out (by omega)
    clear hA hB
    have y0 := XD.cell 0; have y1 := XD.cell 1; have y2 := XD.cell 2; have y3 := XD.cell 3; have y4 := XD.cell 4; have y5 := XD.cell 5; have y6 := XD.cell 6
    go_wp2_with fail
    clear y0 y1 y2 y3 y4 y5 y6
    refine (HG w7).mono ?_
    rintro e w8 ⟨rfl, b8⟩
    replace SD := SD.on b8 SD.lt
    replace bD := bD.trans (b8.mono (by have := bD.size; omega))
    have s2 := fun i => SD.cell i; have g2 := fun i => SD.froz i
    have S9 := (((((((SD.set 0 (.int .i64 who)).set 1 (.int .i64 rv)).set 2 (.int .i64 (goPh n m p))).set 3 (.int .i64 0)).set 4 (.int .i64 wv)).set 5 (.slice ap n kp)).set 6 (.slice ar m kr))
    have s9 := fun i => S9.cell i
    have b9 := (((((((bD.setCell (p := ⟨q1, 0, none⟩) (show q ≤ q1 by omega) (.int .i64 who)).setCell (p := ⟨q1, 1, none⟩) (show q ≤ q1 by omega) (.int .i64 rv)).setCell (p := ⟨q1, 2, none⟩) (show q ≤ q1 by omega) (.int .i64 (goPh n m p))).setCell (p := ⟨q1, 3, none⟩) (show q ≤ q1 by omega) (.int .i64 0)).setCell (p := ⟨q1, 4, none⟩) (show q ≤ q1 by omega) (.int .i64 wv)).setCell (p := ⟨q1, 5, none⟩) (show q ≤ q1 by omega) (.slice ap n kp)).setCell (p := ⟨q1, 6, none⟩) (show q ≤ q1 by omega) (.slice ar m kr))
    clear XD SD bD S9
    go_wp2
    refine bodyPost_ret (v := .agg #[.int .i64 who, .int .i64 rv, .int .i64 (goPh n m p), .int .i64 0, .int .i64 wv, .slice ap n kp, .slice ar m kr]) (by simp [results, Tryd.results71, go_sem, s9]) rfl ⟨rfl, b9⟩
end Commits
end Go.Proofs.YtppikpdphcfomaaDoor
/- Words (three numbers each) in memory: what a slice of them reads as, and what the call owns of them. -/
namespace Go.Proofs.YtppikpdphcfomaaDoor
open Go.RowKit

theorem Tryd.infoWord : (Tryd.prog.info? 61).map (fun i => (i.zero, i.size, i.bytes)) = some (some (.agg #[.int .i64 0, .int .i64 0, .int .i64 0]), 3, 24) := by kernel_rfl

theorem bcell {W w1 : World} (hb : Below W.heap.size W w1) : (∀ b o, b < W.heap.size → w1.cell? ⟨b, o, none⟩ = W.cell? ⟨b, o, none⟩) ∧ (∀ b o, b < W.heap.size → w1.frozen? ⟨b, o, none⟩ = W.frozen? ⟨b, o, none⟩) :=
  ⟨fun b o h => hb.cell (p := ⟨b, o, none⟩) h, fun b o h => hb.frozen (p := ⟨b, o, none⟩) h⟩

namespace Words

/-- a word -/
structure W3 where
  val : Int
  ver : Int
  own : Int
/-- are they the same? -/
def W3.same (x y : W3) : Bool := decide (x.val = y.val ∧ x.ver = y.ver ∧ x.own = y.own)
theorem W3.same_self (x : W3) : x.same x = true := decide_eq_true ⟨rfl, rfl, rfl⟩
theorem W3.same_not {x y : W3} (h : ¬ x = y) : x.same y = false := decide_eq_false fun ⟨h1, h2, h3⟩ => h (by cases x; cases y; simp_all)

/-- its three cells -/
def W3.cells (x : W3) : List Value := [.int .i64 x.val, .int .i64 x.ver, .int .i64 x.own]
def wv (ws : List W3) : List Value := ws.flatMap W3.cells
theorem wv_length (ws : List W3) : (wv ws).length = ws.length * 3 := by
  induction ws with
  | nil => rfl
  | cons x r ih => simp [wv, W3.cells] at *; omega
theorem wv_cons (x : W3) (r : List W3) : wv (x :: r) = .int .i64 x.val :: .int .i64 x.ver :: .int .i64 x.own :: wv r := rfl
theorem wv_append (a b : List W3) : wv (a ++ b) = wv a ++ wv b := by simp [wv]
theorem wv_get (ws : List W3) : ∀ (j : Nat) (h : j < ws.length), (wv ws)[j * 3]? = some (.int .i64 ws[j].val) ∧ (wv ws)[j * 3 + 1]? = some (.int .i64 ws[j].ver) ∧ (wv ws)[j * 3 + 2]? = some (.int .i64 ws[j].own) := by
  induction ws with
  | nil => intro j h; simp at h
  | cons x r ih =>
    intro j h
    match j, h with
    | 0, _ => exact ⟨rfl, rfl, rfl⟩
    | j + 1, h =>
      have := ih j (by simpa using h)
      rw [wv_cons, show (j + 1) * 3 = j * 3 + 3 by omega]
      simpa using this
theorem wv_one (ws : List W3) : ∀ v ∈ wv ws, v.oneCell' = true := by
  intro v hv
  obtain ⟨x, _, hx⟩ := List.mem_flatMap.1 hv
  simp [W3.cells] at hx
  rcases hx with rfl | rfl | rfl <;> rfl

/-- the word that lies at a place -/
def At (w : World) (b o : Nat) (x : W3) : Prop :=
  w.cell? ⟨b, o, none⟩ = some (.int .i64 x.val) ∧ w.cell? ⟨b, o + 1, none⟩ = some (.int .i64 x.ver) ∧ w.cell? ⟨b, o + 2, none⟩ = some (.int .i64 x.own)

/-- a slice of words that lie below block B -/
def Sees (B : Nat) (w : World) (v : Value) (ws : List W3) : Prop :=
  ∃ a cap, v = .slice a ws.length cap ∧ ws.length ≤ cap ∧ cap ≤ maxLen ∧ (ws ≠ [] → ∃ b off, a = some ⟨b, off, none⟩ ∧ b < B ∧ ∀ j (h : j < ws.length), At w b (off + j * 3) ws[j])

theorem Sees.on {B B' : Nat} {w w' : World} {v : Value} {ws : List W3} (h : Sees B w v ws) (hb : Below B' w w') (hB : B ≤ B') : Sees B w' v ws := by
  obtain ⟨a, cap, rfl, h1, h2, h3⟩ := h
  refine ⟨a, cap, rfl, h1, h2, fun hne => ?_⟩
  obtain ⟨b, off, rfl, hlt, hc⟩ := h3 hne
  refine ⟨b, off, rfl, hlt, fun j hj => ?_⟩
  obtain ⟨c0, c1, c2⟩ := hc j hj
  exact ⟨(hb.cell (p := ⟨b, _, none⟩) (by show b < B'; omega)).trans c0, (hb.cell (p := ⟨b, _, none⟩) (by show b < B'; omega)).trans c1, (hb.cell (p := ⟨b, _, none⟩) (by show b < B'; omega)).trans c2⟩
theorem Sees.mono {B B' : Nat} {w : World} {v : Value} {ws : List W3} (h : Sees B w v ws) (hB : B ≤ B') : Sees B' w v ws := by
  obtain ⟨a, cap, rfl, h1, h2, h3⟩ := h
  refine ⟨a, cap, rfl, h1, h2, fun hne => ?_⟩
  obtain ⟨b, off, rfl, hlt, hc⟩ := h3 hne
  exact ⟨b, off, rfl, by omega, hc⟩

/-- words that the call owns, from block B on -/
def Owns (B : Nat) (w : World) (v : Value) (ws : List W3) : Prop := w.ownsRow B 61 3 v ws.length (wv ws)

theorem Owns.sees {B : Nat} {w : World} {v : Value} {ws : List W3} (h : Owns B w v ws) : Sees w.heap.size w v ws := by
  obtain ⟨h1, h2⟩ := h
  rcases h2 with ⟨rfl, h0⟩ | ⟨g, cap, cur, rfl, hB, hg, hle, hm, hsz, htk⟩
  · exact ⟨none, 0, by rw [h0], by omega, by simp, fun hne => absurd (List.eq_nil_of_length_eq_zero h0) hne⟩
  · refine ⟨_, cap, rfl, hle, hm, fun _ => ⟨g, 0, rfl, (Array.getElem?_eq_some_iff.1 hg).1, fun j hj => ?_⟩⟩
    have key : ∀ i, i < ws.length * 3 → w.cell? ⟨g, i, none⟩ = (wv ws)[i]? := by
      intro i hi
      rw [← htk, List.getElem?_take, if_pos hi]
      simp [World.cell?, hg]
    obtain ⟨c0, c1, c2⟩ := wv_get ws j hj
    refine ⟨?_, ?_, ?_⟩
    · rw [key _ (by omega)]; simpa using c0
    · rw [key _ (by omega)]; simpa using c1
    · rw [key _ (by omega)]; simpa using c2
/-- the value of a word -/
abbrev W3.agg (x : W3) : Value := .agg #[.int .i64 x.val, .int .i64 x.ver, .int .i64 x.own]
/-- a word of noughts -/
def nought : W3 := ⟨0, 0, 0⟩

theorem wv_set (ws : List W3) : ∀ (j : Nat) (x : W3), wv (ws.set j x) = (((wv ws).set (j * 3) (.int .i64 x.val)).set (j * 3 + 1) (.int .i64 x.ver)).set (j * 3 + 2) (.int .i64 x.own) := by
  induction ws with
  | nil => intro j x; rfl
  | cons y r ih =>
    intro j x
    match j with
    | 0 => rfl
    | j + 1 =>
      rw [show (j + 1) * 3 = j * 3 + 3 by omega, List.set_cons_succ, wv_cons, wv_cons, ih j x]
      rfl
theorem wv_nought (n : Nat) : (madeCells #[Value.int .i64 0, .int .i64 0, .int .i64 0] (n * 3)).toList = wv (List.replicate n nought) := by
  have key : ∀ m, m % 3 = 0 ∨ m % 3 = 1 ∨ m % 3 = 2 := by intro m; omega
  apply List.ext_getElem?
  intro j
  by_cases hj : j < n * 3
  · have hq : j / 3 < (List.replicate n nought).length := by simp; omega
    obtain ⟨c0, c1, c2⟩ := wv_get (List.replicate n nought) (j / 3) hq
    have hl : (madeCells #[Value.int .i64 0, .int .i64 0, .int .i64 0] (n * 3)).toList[j]? = some (.int .i64 0) := by
      rcases key j with h | h | h <;> simp [madeCells, hj, h]
    rw [hl]
    simp only [List.getElem_replicate, nought] at c0 c1 c2
    rcases key j with h | h | h
    · rw [show j = j / 3 * 3 by omega]; exact c0.symm
    · rw [show j = j / 3 * 3 + 1 by omega]; exact c1.symm
    · rw [show j = j / 3 * 3 + 2 by omega]; exact c2.symm
  · rw [List.getElem?_eq_none (by simp [madeCells]; omega), List.getElem?_eq_none (by rw [wv_length]; simp; omega)]

theorem makeW (n : Nat) (h : n ≤ 1048576) (w : World) (B : Nat) (hB : B ≤ w.heap.size) : ∃ w1, Below B w w1 ∧ w.heap.size < w1.heap.size ∧
    (Instr.makeSlice 31 (.int .i64 (n : Int)) (.int .i64 (n : Int))).run Tryd.prog w = .ok (.slice (some ⟨w.heap.size, 0, none⟩) n n) w1 ∧
    w1.ownsRow w.heap.size 61 3 (.slice (some ⟨w.heap.size, 0, none⟩) n n) n (wv (List.replicate n nought)) := by
  obtain ⟨i, hi, hz, hs, hb⟩ := info_parts Tryd.infoWord
  obtain ⟨w1, h1, h2, h3⟩ := run_make_full (P := Tryd.prog) w w.heap.size 31 61 i _ 3 Tryd.underlying31 hi hz hs .i64 .i64 n (by rw [hb]; omega) (by unfold maxLen; omega) (Nat.le_refl _)
  refine ⟨w1, (Below.refl _ _).grown h3 hB (fun k hk => by cases hk), ?_, h1, ?_⟩
  · obtain ⟨-, h4⟩ := h2
    rcases h4 with ⟨h4, -⟩ | ⟨g, cap, cur, h4, -, hg, -⟩
    · cases h4
    · cases h4; exact (Array.getElem?_eq_some_iff.1 hg).1
  · rw [← wv_nought]; exact h2

/-- words put so far, noughts behind -/
def pad (ws : List W3) (k : Nat) : List W3 := ws.take k ++ List.replicate (ws.length - k) nought
theorem pad_zero (ws : List W3) : pad ws 0 = List.replicate ws.length nought := by simp [pad]
theorem pad_full (ws : List W3) : pad ws ws.length = ws := by simp [pad]
theorem pad_length (ws : List W3) (k : Nat) (h : k ≤ ws.length) : (pad ws k).length = ws.length := by simp [pad]; omega
theorem pad_set (ws : List W3) (k : Nat) (h : k < ws.length) : (pad ws k).set k ws[k] = pad ws (k + 1) := by
  unfold pad
  have e : List.replicate (ws.length - k) nought = nought :: List.replicate (ws.length - (k + 1)) nought := by
    rw [show ws.length - k = (ws.length - (k + 1)) + 1 by omega, List.replicate_succ]
  have hl : (ws.take k).length = k := by simp; omega
  rw [e, List.set_append_right _ _ (by omega), hl, Nat.sub_self, List.set_cons_zero, List.take_succ_eq_append_getElem h, List.append_assoc]
  rfl

/-- the world behind a word's store -/
def set3 (w : World) (g j : Nat) (x : W3) : World := ((w.setCell ⟨g, j * 3, none⟩ (.int .i64 x.val)).setCell ⟨g, j * 3 + 1, none⟩ (.int .i64 x.ver)).setCell ⟨g, j * 3 + 2, none⟩ (.int .i64 x.own)
theorem below_set3 {B g : Nat} {a w : World} (h : Below B a w) (hg : B ≤ g) (j : Nat) (x : W3) : Below B a (set3 w g j x) := ((h.setCell hg _).setCell hg _).setCell hg _
theorem owns_set3 {B g n cap : Nat} {w : World} {ws : List W3} (h : w.ownsRow B 61 3 (.slice (some ⟨g, 0, none⟩) n cap) n (wv ws)) (j : Nat) (x : W3) :
    (set3 w g j x).ownsRow B 61 3 (.slice (some ⟨g, 0, none⟩) n cap) n (wv (ws.set j x)) := by
  rw [wv_set]
  exact (((h.stored _ _).1.stored _ _).1.stored _ _).1
/-- what a word's place in an owned row reads as -/
theorem owns_at {B g n cap : Nat} {w : World} {ws : List W3} (h : w.ownsRow B 61 3 (.slice (some ⟨g, 0, none⟩) n cap) n (wv ws)) (j : Nat) (hj : j < ws.length) : At w g (j * 3) ws[j] := by
  have hl : ws.length = n := by have := h.1; rw [wv_length] at this; omega
  obtain ⟨c0, c1, c2⟩ := wv_get ws j hj
  exact ⟨(h.cellAt _ (by omega)).trans c0, (h.cellAt _ (by omega)).trans c1, (h.cellAt _ (by omega)).trans c2⟩
theorem owns_len {B n : Nat} {w : World} {v : Value} {ws : List W3} (h : w.ownsRow B 61 3 v n (wv ws)) : ws.length = n := by have := h.1; rw [wv_length] at this; omega
theorem owns_on {B n e size : Nat} {w w' : World} {v : Value} {xs : List Value} (h : w.ownsRow B e size v n xs) {B' : Nat} (hb : Below B' w w') (hB : w.heap.size ≤ B') : w'.ownsRow B e size v n xs := by
  obtain ⟨h1, h2⟩ := h
  refine ⟨h1, ?_⟩
  rcases h2 with h2 | ⟨g, cap, cur, hv, hg, hh, r⟩
  · exact .inl h2
  · have := (Array.getElem?_eq_some_iff.1 hh).1
    exact .inr ⟨g, cap, cur, hv, hg, by rw [hb.block g (by omega)]; exact hh, r⟩
theorem owns_lt {B n e size g cap : Nat} {w : World} {xs : List Value} (h : w.ownsRow B e size (.slice (some ⟨g, 0, none⟩) n cap) n xs) : B ≤ g ∧ g < w.heap.size := by
  rcases h.2 with ⟨h', _⟩ | ⟨g', cap', cur, h', hb, hg, _⟩
  · cases h'
  · cases h'; exact ⟨hb, (Array.getElem?_eq_some_iff.1 hg).1⟩
theorem Owns.on {B : Nat} {w w' : World} {v : Value} {ws : List W3} (h : Owns B w v ws) {B' : Nat} (hb : Below B' w w') (hB : w.heap.size ≤ B') : Owns B w' v ws := owns_on h hb hB
theorem At.on {B b o : Nat} {w w' : World} {x : W3} (h : At w b o x) (hb : Below B w w') (hB : b < B) : At w' b o x :=
  ⟨(hb.cell (p := ⟨b, o, none⟩) hB).trans h.1, (hb.cell (p := ⟨b, o + 1, none⟩) hB).trans h.2.1, (hb.cell (p := ⟨b, o + 2, none⟩) hB).trans h.2.2⟩
theorem Sees.form {B : Nat} {w : World} {v : Value} {ws : List W3} (h : Sees B w v ws) : ∃ a cap, v = .slice a ws.length cap := by
  obtain ⟨a, cap, h, -⟩ := h; exact ⟨a, cap, h⟩
theorem Owns.form {B : Nat} {w : World} {v : Value} {ws : List W3} (h : Owns B w v ws) : ∃ a cap, v = .slice a ws.length cap := h.sees.form
theorem Owns.mono {B B' : Nat} {w : World} {v : Value} {ws : List W3} (h : Owns B w v ws) (hB : B' ≤ B) : Owns B' w v ws := by
  obtain ⟨h1, h2⟩ := h
  refine ⟨h1, ?_⟩
  rcases h2 with h2 | ⟨g, cap, cur, hv, hg, hh, r⟩
  · exact .inl h2
  · exact .inr ⟨g, cap, cur, hv, by omega, hh, r⟩
theorem Owns.setCell {B : Nat} {w : World} {v : Value} {ws : List W3} (h : Owns B w v ws) {p : Addr} (hp : p.block < B) (u : Value) : Owns B (w.setCell p u) v ws := ownsRow_setCell_below h hp u
/-- a variable that holds a memory -/
def Box (W : World) (p : Nat) (c : Int) (v : Value) (t : TypeId) : Prop := W.heap[p]? = some (.cells #[.int .i64 c, v] t (0, 0))
theorem Box.c0 {W : World} {p : Nat} {c : Int} {v : Value} {t : TypeId} (h : Box W p c v t) : W.cell? ⟨p, 0, none⟩ = some (.int .i64 c) := cell_of_row W p 0 _ _ _ h
theorem Box.c1 {W : World} {p : Nat} {c : Int} {v : Value} {t : TypeId} (h : Box W p c v t) : W.cell? ⟨p, 1, none⟩ = some v := cell_of_row W p 1 _ _ _ h
theorem Box.lt {W : World} {p : Nat} {c : Int} {v : Value} {t : TypeId} (h : Box W p c v t) : p < W.heap.size := (Array.getElem?_eq_some_iff.1 h).1
theorem Box.on {W W' : World} {p B : Nat} {c : Int} {v : Value} {t : TypeId} (h : Box W p c v t) (hb : Below B W W') (hB : p < B) : Box W' p c v t := (hb.block p hB).trans h
theorem Box.new (w : World) (c : Int) (v : Value) (t : TypeId) : Box (w.alloc (.cells #[.int .i64 c, v] t)) w.heap.size c v t := heap_alloc_new w _
theorem Box.drew {W : World} {p : Nat} {c : Int} {v : Value} {t : TypeId} (h : Box W p c v t) : Box W.drew p c v t := h
end Words
end Go.Proofs.YtppikpdphcfomaaDoor
