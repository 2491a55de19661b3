/- Several texts of one proof, in build order: CommitStepL, CommitTold, CommitE, WordTo, WordEq, WordMark. -/
import Derived.Test.YtppikpdphcfomaaDoorCB9
import Derived.Test.YtppikpdphcfomaaDoorCB11
import Derived.Test.YtppikpdphcfomaaDoorCB19
/- What a step makes of a memory and a commit. -/
set_option linter.unusedVariables false
namespace Go.Proofs.YtppikpdphcfomaaDoor
open Go.RowKit
namespace Commits
open Bas Flat Logs
open Words (W3 lockMay lockTo storeMay storeTo unlockMay unlockTo tickC tickR Err wAt memOk)
/-- a memory, and what of a commit changes -/
structure Ot where
  mc : Int
  ws : List W3
  ph : Int
  at' : Int
  wv : Int
/-- a step of a right commit over a right memory -/
def stepY (mc : Int) (ws : List W3) (C : Cm) : Ot :=
  let k := C.at'.toNat
  let n := C.ps.length
  let m := C.rs.length
  let c := (C.ps.getD k z2).c
  if C.ph = 1 then ⟨mc, lockTo mc ws c C.who, if lockMay mc ws c C.who = true then onPh C.ph k n m 2 else phB k, if lockMay mc ws c C.who = true then onAt C.ph k n m else atB k, C.wv⟩
  else if C.ph = 2 then ⟨tickC mc ws, ws, if tickR mc ws = 0 then phB n else onPh C.ph k n m 3, if tickR mc ws = 0 then atB n else onAt C.ph k n m, if tickR mc ws = 0 then C.wv else tickR mc ws⟩
  else if C.ph = 3 then ⟨mc, ws, if bad (wAt ws (C.rs.getD k 0)) C.who C.rv = true then phB n else onPh C.ph k n m 4, if bad (wAt ws (C.rs.getD k 0)) C.who C.rv = true then atB n else onAt C.ph k n m, C.wv⟩
  else if C.ph = 4 then ⟨mc, storeTo mc ws c C.who (C.ps.getD k z2).v, onPh C.ph k n m 5, onAt C.ph k n m, C.wv⟩
  else if C.ph = 5 then ⟨mc, unlockTo mc ws c C.who C.wv, onPh C.ph k n m 6, onAt C.ph k n m, C.wv⟩
  else if C.ph = 7 then ⟨mc, unlockTo mc ws c C.who (wAt ws c).ver, phB k, atB k, C.wv⟩
  else ⟨mc, ws, C.ph, C.at', C.wv⟩
def stepO (mc : Int) (ws : List W3) (C : Cm) : Ot := if (memOk mc ws && commitOk C) = true then stepY mc ws C else ⟨mc, ws, C.ph, C.at', C.wv⟩
theorem stepO_no {mc : Int} {ws : List W3} {C : Cm} (h : (memOk mc ws && commitOk C) = false) : stepO mc ws C = ⟨mc, ws, C.ph, C.at', C.wv⟩ := by unfold stepO; rw [h]; rfl
theorem stepO_yes {mc : Int} {ws : List W3} {C : Cm} (h1 : memOk mc ws = true) (h2 : commitOk C = true) : stepO mc ws C = stepY mc ws C := by unfold stepO; rw [h1, h2]; rfl
/-- what a step wants to know of its cells -/
theorem step_row {C : Cm} (h : commitOk C = true) (hp : C.ph = 1 ∨ C.ph = 4 ∨ C.ph = 5 ∨ C.ph = 7) : C.at'.toNat < C.ps.length ∧ ∃ cn : Nat, (C.ps.getD C.at'.toNat z2).c = (cn : Int) ∧ cn < 8 := by
  obtain ⟨-, -, -, d, -, -, g0, g1⟩ := commit_out h
  have hs : C.steps = C.ps.length := if_pos hp
  rw [hs] at g1
  have hk : C.at'.toNat < C.ps.length := by omega
  refine ⟨hk, ?_⟩
  have hr := rowsOk_at d (List.getElem_mem hk)
  have e : C.ps.getD C.at'.toNat z2 = C.ps[C.at'.toNat] := by simp [List.getD, hk]
  rw [e]
  exact ⟨(C.ps[C.at'.toNat]).c.toNat, by omega, by omega⟩
theorem step_read {C : Cm} (h : commitOk C = true) (hp : C.ph = 3) : C.at'.toNat < C.rs.length ∧ ∃ cn : Nat, C.rs.getD C.at'.toNat 0 = (cn : Int) ∧ cn < 8 := by
  obtain ⟨-, -, -, -, -, f, g0, g1⟩ := commit_out h
  have hs : C.steps = C.rs.length := by unfold Cm.steps; rw [if_neg (by omega), if_pos hp]
  rw [hs] at g1
  have hk : C.at'.toNat < C.rs.length := by omega
  refine ⟨hk, ?_⟩
  have hr := rises_cell f (List.getElem_mem hk)
  have e : C.rs.getD C.at'.toNat 0 = C.rs[C.at'.toNat] := by simp [List.getD, hk]
  rw [e]
  exact ⟨(C.rs[C.at'.toNat]).toNat, by omega, by omega⟩
end Commits
end Go.Proofs.YtppikpdphcfomaaDoor
/- What CommitStep is told to answer; rows apart from boxes. -/
set_option linter.unusedVariables false
set_option linter.unusedSimpArgs false
namespace Go.Proofs.YtppikpdphcfomaaDoor
open Go.RowKit
namespace Commits
open Bas Flat Logs
open Words (W3 Err)
/-- what CommitStep is told to answer -/
abbrev StepTold (who rv : Int) (ps : List R2) (rs : List Int) (Z : Ot) (w : World) (e : Ending) (w' : World) : Prop := ∃ mv v a c a' c', e = .returned (.tuple #[.agg #[.int .i64 Z.mc, .slice mv Z.ws.length v], .agg #[.int .i64 who, .int .i64 rv, .int .i64 Z.ph, .int .i64 Z.at', .int .i64 Z.wv, .slice a ps.length c, .slice a' rs.length c']]) ∧ Words.Owns w.heap.size w' (.slice mv Z.ws.length v) Z.ws ∧ OwnC w.heap.size w' (.slice a ps.length c) (.slice a' rs.length c') ps rs ∧ Below w.heap.size w w'
theorem told_mk {who rv : Int} {ps : List R2} {rs : List Int} {Z : Ot} {w w' : World} {g : Nat} {mc ph at' wv : Int} {ws : List W3} {nz n m kv k l : Nat} {av a d : Option Addr} (hz : Z = ⟨mc, ws, ph, at', wv⟩) (h1 : ws.length = nz) (h2 : ps.length = n) (h3 : rs.length = m) (hg : w.heap.size = g)
    (OM : Words.Owns g w' (.slice av nz kv) ws) (OC : OwnC g w' (.slice a n k) (.slice d m l) ps rs) (bb : Below g w w') : StepTold who rv ps rs Z w (.returned (.tuple #[.agg #[.int .i64 mc, .slice av nz kv], .agg #[.int .i64 who, .int .i64 rv, .int .i64 ph, .int .i64 at', .int .i64 wv, .slice a n k, .slice d m l]])) w' := by
  subst hz h1 h2 h3 hg
  exact ⟨_, _, _, _, _, _, rfl, OM, OC, bb⟩
theorem ownC_other {B q i : Nat} {w : World} {vP vR u : Value} {ps : List R2} {rs : List Int} (h : OwnC B w vP vR ps rs) (hq : ∀ k, Two vP vR k → k ≠ q) : OwnC B (w.setCell ⟨q, i, none⟩ u) vP vR ps rs :=
  ⟨Owns.other h.p (fun k hk => hq k (.inl hk)) u, ownI_other h.r (fun k hk => hq k (.inr hk)) i u⟩
theorem err_set {w : World} {bE : Addr} {q : Nat} (h : Err w bE) (hq : 0 ≠ q) (i : Nat) (u : Value) : Err (w.setCell ⟨q, i, none⟩ u) bE := (cell_ne hq).trans h

theorem wordsOff {B p : Nat} {w : World} {v : Value} {ws : List W3} {cs : Array Value} {t : TypeId} (h : Words.Owns B w v ws) (hb : Blk w p cs t) (hne : 61 ≠ t) : ∀ k, v.ownBlock = some k → k ≠ p := by
  intro k hk
  unfold Words.Owns at h
  obtain ⟨k1, k2⟩ := h
  rcases k2 with ⟨rfl, h0⟩ | ⟨g, cap, cur, rfl, hg, hh, r⟩
  · cases hk
  · cases hk
    rintro rfl
    unfold Blk at hb
    rw [hb] at hh
    simp at hh
    exact hne hh.2.symm
theorem twoOff {B p : Nat} {w : World} {a b : Value} {ps : List R2} {rs : List Int} {cs : Array Value} {t : TypeId} (h : OwnC B w a b ps rs) (hb : Blk w p cs t) (h1 : 56 ≠ t) (h2 : 3 ≠ t) : ∀ k, Two a b k → k ≠ p := by
  rintro k (hk | hk)
  · exact h.p.off hb h1 k hk
  · have hr := h.r
    unfold Ints.Owns at hr
    obtain ⟨k1, k2⟩ := hr
    rcases k2 with ⟨rfl, h0⟩ | ⟨g, cap, cur, rfl, hg, hh, r⟩
    · cases hk
    · cases hk
      rintro rfl
      unfold Blk at hb
      rw [hb] at hh
      simp at hh
      exact h2 hh.2.symm
theorem lock_same {c : Int} {ws : List W3} {i who : Int} (h : Words.lockMay c ws i who = false) : Words.lockTo c ws i who = ws := by unfold Words.lockTo; rw [h]; rfl
theorem tick_same {c : Int} {ws : List W3} (hc : 0 ≤ c) (h : Words.tickR c ws = 0) : Words.tickC c ws = c := by
  unfold Words.tickR at h
  unfold Words.tickC
  split
  · rename_i hm
    rw [if_pos hm] at h
    omega
  · rfl
end Commits
end Go.Proofs.YtppikpdphcfomaaDoor
/- The laws' own copies, comparisons, sizes and marks of commits, written out. -/
set_option linter.unusedVariables false
set_option linter.unusedSimpArgs false
namespace Go.Proofs.YtppikpdphcfomaaDoor
open Go.RowKit
namespace Commits
open Bas Flat Logs
theorem toE (who rv ph at' wv : Int) (ps : List R2) (rs : List Int) (vP vR : Value) (B : Nat) (w : World) (hv : SeeC B w vP vR ps rs) (hB : B ≤ w.heap.size) (h1 : ps.length ≤ 1048576) (h2 : rs.length ≤ 1048576) :
    Calls Tryd.prog 8 #[.agg #[.int .i64 who, .int .i64 rv, .int .i64 ph, .int .i64 at', .int .i64 wv, vP, vR]] w fun e w' => ∃ a k a' k', e = .returned (.agg #[.int .i64 who, .int .i64 rv, .int .i64 ph, .int .i64 at', .int .i64 wv, .slice a ps.length k, .slice a' rs.length k']) ∧ OwnC w.heap.size w' (.slice a ps.length k) (.slice a' rs.length k') ps rs ∧ Below w.heap.size w w' := by
  refine (toCommitC ⟨who, rv, ph, at', wv, ps, rs⟩ vP vR B w hv hB ⟨h1, h2⟩).mono ?_
  rintro e w' ⟨u, v, rfl, O, b⟩
  obtain ⟨a, k, rfl⟩ := O.p.form
  obtain ⟨a', k', rfl⟩ := O.r.form
  exact ⟨a, k, a', k', rfl, O, b⟩
theorem eqE (who rv ph at' wv : Int) (ps : List R2) (rs : List Int) (vP vR vP' vR' : Value) (B : Nat) (w : World) (hv : SeeC B w vP vR ps rs) (hv' : SeeC B w vP' vR' ps rs) (hB : B ≤ w.heap.size) :
    Calls Tryd.prog 11 #[.agg #[.int .i64 who, .int .i64 rv, .int .i64 ph, .int .i64 at', .int .i64 wv, vP, vR], .agg #[.int .i64 who, .int .i64 rv, .int .i64 ph, .int .i64 at', .int .i64 wv, vP', vR']] w fun e w' => e = .returned (.bool true) ∧ Below w.heap.size w w' := eqCommitC ⟨who, rv, ph, at', wv, ps, rs⟩ vP vR vP' vR' B w hv hv' hB
theorem szE (who rv ph at' wv : Int) (ps : List R2) (rs : List Int) (vP vR : Value) (left : Int) (B : Nat) (w : World) (hv : SeeC B w vP vR ps rs) (h0 : 0 ≤ left) (h1 : left ≤ 1048576) :
    Calls Tryd.prog 5 #[.agg #[.int .i64 who, .int .i64 rv, .int .i64 ph, .int .i64 at', .int .i64 wv, vP, vR], .int .i64 left] w fun e w' => ∃ r, e = .returned (.int .i64 r) ∧ Left left r (ps.length ≤ 1048576 ∧ rs.length ≤ 1048576) ∧ Below w.heap.size w w' := szCommitC ⟨who, rv, ph, at', wv, ps, rs⟩ vP vR left B w hv h0 h1
theorem markE (who rv ph at' wv : Int) (ps : List R2) (rs : List Int) (vP vR : Value) (k : Int) (hk0 : 0 ≤ k) (hk1 : k ≤ 500000000) (B : Nat) (w : World) (hv : OwnC B w vP vR ps rs) (h1 : ps.length ≤ 1048576) (h2 : rs.length ≤ 1048576) :
    Calls Tryd.prog 13 #[.agg #[.int .i64 who, .int .i64 rv, .int .i64 ph, .int .i64 at', .int .i64 wv, vP, vR], .int .i64 k] w fun e w' => e = .returned (.int .i64 (k + 2 * (ps.length : Int) + (rs.length : Int))) ∧ OwnC B w' vP vR (marksR k ps.length) (Ints.marksK (k + 2 * (ps.length : Int)) rs.length) ∧ Chg (Two vP vR) w w' := markCommitC ⟨who, rv, ph, at', wv, ps, rs⟩ vP vR k hk0 hk1 B w hv ⟨h1, h2⟩
end Commits
end Go.Proofs.YtppikpdphcfomaaDoor
/- The laws' own conversions of a memory that came in. -/
namespace Go.Proofs.YtppikpdphcfomaaDoor
open Go.RowKit
namespace Words

set_option maxRecDepth 100000 in
set_option maxHeartbeats 400000 in
theorem toWordC (x : W3) (w : World) :
    Calls Tryd.prog 59 #[x.agg] w fun e w' => e = .returned x.agg ∧ Below w.heap.size w w' := by
  go_enter Tryd.func59, Tryd.ntmps59
  go_wp2
  exact bodyPost_ret (v := x.agg) (by simp [results, Tryd.results59, go_sem]) rfl ⟨rfl, (((Below.refl _ _).alloc (Nat.le_refl _) _).alloc (by simp) _).alloc (by simp; omega) _⟩

set_option maxRecDepth 100000 in
set_option maxHeartbeats 400000 in
theorem szMem_le (c : Int) (v : Value) (ws : List W3) (B : Nat) (w : World) (hv : Sees B w v ws) (h : ws.length ≤ 1048576) :
    Calls Tryd.prog 4 #[.agg #[.int .i64 c, v], .int .i64 1048576] w fun e w' => e = .returned (.int .i64 (1048576 - (ws.length : Int))) ∧ Below w.heap.size w w' := by
  obtain ⟨a, cap, rfl, h1, h2, -⟩ := hv
  obtain ⟨n, hn⟩ : ∃ n, ws.length = n := ⟨_, rfl⟩
  rw [hn] at h ⊢
  clear hn h1 h2
  have h' : (n : Int) ≤ 1048576 := by omega
  go_enter Tryd.func4, Tryd.ntmps4
  go_wp2
  go_ret
  exact ⟨rfl, (Below.refl _ _).alloc (Nat.le_refl _) _⟩

set_option maxRecDepth 100000 in
set_option maxHeartbeats 400000 in
theorem szMem_gt (c : Int) (v : Value) (ws : List W3) (B : Nat) (w : World) (hv : Sees B w v ws) (h : ¬ ws.length ≤ 1048576) :
    Calls Tryd.prog 4 #[.agg #[.int .i64 c, v], .int .i64 1048576] w fun e w' => e = .returned (.int .i64 (-1)) ∧ Below w.heap.size w w' := by
  obtain ⟨a, cap, rfl, h1, h2, -⟩ := hv
  have h3 : (ws.length : Int) ≤ 9223372036854775807 := by unfold maxLen at h2; omega
  obtain ⟨n, hn⟩ : ∃ n, ws.length = n := ⟨_, rfl⟩
  rw [hn] at h h3 ⊢
  clear hn h1 h2
  have h' : 1048576 < (n : Int) := by omega
  go_enter Tryd.func4, Tryd.ntmps4
  go_wp2
  go_ret
  exact ⟨rfl, (Below.refl _ _).alloc (Nat.le_refl _) _⟩

set_option maxRecDepth 100000 in
set_option maxHeartbeats 800000 in
theorem toWordsC (v : Value) (ws : List W3) (B : Nat) (w : World) (hv : Sees B w v ws) (hB : B ≤ w.heap.size) (hlen : ws.length ≤ 1048576) :
    Calls Tryd.prog 29 #[v] w fun e w' => ∃ v', e = .returned v' ∧ Owns w.heap.size w' v' ws ∧ Below w.heap.size w w' := by
  obtain ⟨a, cap, rfl, h1, h2, h3⟩ := hv
  obtain ⟨n, hn⟩ : ∃ n, ws.length = n := ⟨_, rfl⟩
  rw [hn] at h1 hlen ⊢
  obtain ⟨w1, hB1, hs1, hmk, hO⟩ := makeW n hlen w w.heap.size (Nat.le_refl _)
  obtain ⟨g, hg⟩ : ∃ g, w.heap.size = g := ⟨_, rfl⟩
  rw [hg] at hmk hO hB1 hs1 hB ⊢
  go_enter Tryd.func29, Tryd.ntmps29
  go_wp2
  go_loopw [4] (fun i wr => ∃ k : Nat, k ≤ n ∧ i = .int .i64 k ∧ wr.ownsRow g 61 3 (.slice (some ⟨g, 0, none⟩) n n) n (wv (pad ws k)) ∧ Below g w wr) (fun i _ => n - (intOf i).toNat)
  case atStart => exact ⟨0, Nat.zero_le _, rfl, by rw [pad_zero, hn]; exact hO, hB1⟩
  case round =>
    obtain ⟨k, hk, rfl, hR, hb⟩ := hrel
    clear hmk hO hB1 hs1
    by_cases hlt : k < n
    · obtain ⟨b, off, rfl, hbB, hc⟩ := h3 (fun h => by simp [h] at hn; omega)
      obtain ⟨a0, a1, a2⟩ := (hc k (by omega)).on hb (by omega)
      obtain ⟨hgg, hgs⟩ := owns_lt hR
      obtain ⟨x, hx⟩ : ∃ x, ws[k] = x := ⟨_, rfl⟩
      have HP : Hid ((pad ws k).set k x = pad ws (k + 1)) := by rw [← hx]; exact pad_set ws k (by omega)
      have hpl : (pad ws k).length = n := by rw [pad_length ws k (by omega)]; exact hn
      rw [hx] at a0 a1 a2
      clear hx hc h3 hgg
      go_wp2_with (go_at_call 59; refine (toWordC x _).mono ?_; rintro e w2 ⟨rfl, hb2⟩; have hR2 := owns_on hR hb2 (Nat.le_refl _); obtain ⟨c0, c1, c2⟩ := owns_at hR2 k (by omega); have hfz := fun j => hR2.frozenAt j)
      have hR3 := owns_set3 hR2 k x
      rw [HP.out] at hR3
      unfold set3 at hR3
      go_roundw
      case rel => exact ⟨k + 1, by omega, by go_num, hR3, (((hb.trans (hb2.mono (by omega))).setCell (Nat.le_refl _) _).setCell (Nat.le_refl _) _).setCell (Nat.le_refl _) _⟩
      case measure => simp [intOf]; omega
    · obtain rfl : k = n := by omega
      go_wp2
      go_ret
      rw [← hn, pad_full] at hR
      exact ⟨_, rfl, hn ▸ hR, hb⟩

set_option maxRecDepth 100000 in
set_option maxHeartbeats 800000 in
theorem toMemC (c : Int) (v : Value) (ws : List W3) (B : Nat) (w : World) (hv : Sees B w v ws) (hB : B ≤ w.heap.size) (hlen : ws.length ≤ 1048576) :
    Calls Tryd.prog 7 #[.agg #[.int .i64 c, v]] w fun e w' => ∃ v', e = .returned (.agg #[.int .i64 c, v']) ∧ Owns w.heap.size w' v' ws ∧ Below w.heap.size w w' := by
  obtain ⟨a, cap, rfl⟩ := hv.form
  have hv1 := hv.on ((((Below.refl w.heap.size w).alloc (Nat.le_refl _) (.cells #[.int .i64 c, .slice a ws.length cap] 24)).alloc (by simp) (.cells #[.int .i64 0, .slice none 0 0] 33)).alloc (by simp; omega) (.cells #[.int .i64 c, .slice none 0 0] 33)) hB
  go_enter Tryd.func7, Tryd.ntmps7
  go_wp2_with fail
  refine (toWordsC _ ws B _ hv1 (by simp; omega) hlen).mono ?_
  rintro e w1 ⟨v', rfl, hO, hb⟩
  obtain ⟨a', cap', rfl⟩ := hO.form
  obtain ⟨hc, hf⟩ := bcell hb
  have hz : w.heap.size + 3 ≤ w1.heap.size := by have := hb.size; simp at this; omega
  go_wp2_with fail
  refine bodyPost_ret (v := .agg #[.int .i64 c, .slice a' ws.length cap']) (by simp [results, Tryd.results7, go_sem, hc]) rfl ⟨_, rfl, ?_, ?_⟩
  · exact (((hO.setCell (by simp) _).setCell (by simp) _).setCell (by simp) _).mono (by simp; omega)
  · exact (((((((Below.refl _ _).alloc (Nat.le_refl _) _).alloc (by simp) _).alloc (by simp; omega) _).trans (hb.mono (by simp; omega))).setCell (by simp; omega) _).setCell (by simp) _).setCell (by simp) _
end Words
end Go.Proofs.YtppikpdphcfomaaDoor
/- The laws' own comparison of memories, of such as are equal. -/
namespace Go.Proofs.YtppikpdphcfomaaDoor
open Go.RowKit
namespace Words

set_option maxRecDepth 100000 in
set_option maxHeartbeats 400000 in
theorem eqWordC (x : W3) (w : World) :
    Calls Tryd.prog 75 #[x.agg, x.agg] w fun e w' => e = .returned (.bool true) ∧ Below w.heap.size w w' := by
  go_enter Tryd.func75, Tryd.ntmps75
  go_wp2
  go_ret
  exact ⟨rfl, ((Below.refl _ _).alloc (Nat.le_refl _) _).alloc (by simp) _⟩

set_option maxRecDepth 100000 in
set_option maxHeartbeats 800000 in
theorem eqWordsC (v v' : Value) (ws : List W3) (B : Nat) (w : World) (hv : Sees B w v ws) (hv' : Sees B w v' ws) (hB : B ≤ w.heap.size) :
    Calls Tryd.prog 43 #[v, v'] w fun e w' => e = .returned (.bool true) ∧ Below w.heap.size w w' := by
  obtain ⟨a, cap, rfl, h1, h2, h3⟩ := hv
  obtain ⟨a', cap', rfl, h1', h2', h3'⟩ := hv'
  obtain ⟨n, hn⟩ : ∃ n, ws.length = n := ⟨_, rfl⟩
  have hm : (n : Int) ≤ 9223372036854775807 := by unfold maxLen at h2; omega
  rw [hn]
  obtain ⟨g, hg⟩ : ∃ g, w.heap.size = g := ⟨_, rfl⟩
  rw [hg] at hB ⊢
  clear h1 h2 h1' h2'
  go_enter Tryd.func43, Tryd.ntmps43
  go_wp2
  go_loopw [5] (fun i wr => ∃ k : Nat, k ≤ n ∧ i = .int .i64 k ∧ Below g w wr) (fun i _ => n - (intOf i).toNat)
  case atStart => exact ⟨0, Nat.zero_le _, rfl, Below.refl _ _⟩
  case round =>
    obtain ⟨k, hk, rfl, hb⟩ := hrel
    by_cases hlt : k < n
    · obtain ⟨b, off, rfl, hbB, hc⟩ := h3 (fun h => by simp [h] at hn; omega)
      obtain ⟨b', off', rfl, hbB', hc'⟩ := h3' (fun h => by simp [h] at hn; omega)
      obtain ⟨a0, a1, a2⟩ := (hc k (by omega)).on hb (by omega)
      obtain ⟨a0', a1', a2'⟩ := (hc' k (by omega)).on hb (by omega)
      obtain ⟨x, hx⟩ : ∃ x, ws[k] = x := ⟨_, rfl⟩
      rw [hx] at a0 a1 a2 a0' a1' a2'
      clear hx hc h3 hc' h3'
      go_wp2_with fail
      go_region_with (go_at_call 75; refine (eqWordC x _).mono ?_; rintro e w2 ⟨rfl, hb2⟩)
      all_goals
        go_wp2
        go_roundw
        case rel =>
          have hle : g ≤ wr.heap.size := by have := hb.size; omega
          refine ⟨k + 1, by omega, by go_num, ?_⟩
          first | exact hb.trans (hb2.mono hle) | exact hb.drew.trans (hb2.mono hle) | exact hb.drew.drew.trans (hb2.mono hle)
        case measure => simp [intOf]; omega
    · obtain rfl : k = n := by omega
      go_wp2
      go_ret
      exact ⟨rfl, hb⟩

set_option maxRecDepth 100000 in
set_option maxHeartbeats 400000 in
theorem eqMemC (c : Int) (v v' : Value) (ws : List W3) (B : Nat) (w : World) (hv : Sees B w v ws) (hv' : Sees B w v' ws) (hB : B ≤ w.heap.size) :
    Calls Tryd.prog 10 #[.agg #[.int .i64 c, v], .agg #[.int .i64 c, v']] w fun e w' => e = .returned (.bool true) ∧ Below w.heap.size w w' := by
  obtain ⟨a, cap, rfl⟩ := hv.form
  obtain ⟨a', cap', rfl⟩ := hv'.form
  have hb0 := ((Below.refl w.heap.size w).alloc (Nat.le_refl _) (.cells #[.int .i64 c, .slice a ws.length cap] 33)).alloc (by simp) (.cells #[.int .i64 c, .slice a' ws.length cap'] 33)
  have hv1 := hv.on hb0 hB
  have hv1' := hv'.on hb0 hB
  go_enter Tryd.func10, Tryd.ntmps10
  go_wp2_with fail
  refine (eqWordsC _ _ ws B _ hv1 hv1' (by simp; omega)).mono ?_
  rintro e w1 ⟨rfl, hb⟩
  go_wp2
  go_ret
  exact ⟨rfl, hb0.trans (hb.mono (by simp; omega))⟩
end Words
end Go.Proofs.YtppikpdphcfomaaDoor
/- The laws' own marks in a memory, and that they are held. -/
namespace Go.Proofs.YtppikpdphcfomaaDoor
open Go.RowKit
namespace Words

def mark (i : Nat) : W3 := ⟨1 + 3 * (i : Int), 1 + 3 * (i : Int) + 1, 1 + 3 * (i : Int) + 1 + 1⟩
/-- marks so far, the old words behind -/
def marked (ws : List W3) (k : Nat) : List W3 := (List.range k).map mark ++ ws.drop k
def marks (n : Nat) : List W3 := (List.range n).map mark
theorem marked_zero (ws : List W3) : marked ws 0 = ws := by simp [marked]
theorem marked_full (ws : List W3) : marked ws ws.length = marks ws.length := by simp [marked, marks]
theorem marked_length (ws : List W3) (k : Nat) (h : k ≤ ws.length) : (marked ws k).length = ws.length := by simp [marked]; omega
theorem marked_set (ws : List W3) (k : Nat) (h : k < ws.length) : (marked ws k).set k (mark k) = marked ws (k + 1) := by
  unfold marked
  have hl : ((List.range k).map mark).length = k := by simp
  rw [List.drop_eq_getElem_cons h, List.set_append_right _ _ (by omega), hl, Nat.sub_self, List.set_cons_zero, List.range_succ, List.map_append, List.append_assoc]
  rfl
theorem grownBy_trans {w w1 w2 : World} {row : Option Nat} (h : w.grownBy w1 row) (k : w1.grownBy w2 row) : w.grownBy w2 row :=
  ⟨k.os.trans h.os, k.tape.trans h.tape, k.output.trans h.output, Nat.le_trans h.size k.size, fun i hi hn => (k.block i (Nat.lt_of_lt_of_le hi h.size) hn).trans (h.block i hi hn)⟩
theorem marks_get (n k : Nat) (h : k < (marks n).length) : (marks n)[k] = mark k := by simp [marks]
theorem marks_length (n : Nat) : (marks n).length = n := by simp [marks]

set_option maxRecDepth 100000 in
set_option maxHeartbeats 800000 in
theorem markWordsC (v : Value) (ws : List W3) (B : Nat) (w : World) (hv : Owns B w v ws) (hlen : ws.length ≤ 1048576) :
    Calls Tryd.prog 46 #[v, .int .i64 1] w fun e w' => e = .returned (.int .i64 (1 + 3 * (ws.length : Int))) ∧ Owns B w' v (marks ws.length) ∧ w.grownBy w' v.ownBlock := by
  obtain ⟨n, hn⟩ : ∃ n, ws.length = n := ⟨_, rfl⟩
  obtain ⟨hv1, hv2⟩ := id hv
  rcases hv2 with ⟨rfl, h0⟩ | ⟨g, cap, cur, rfl, hBg, hg, hle, hm, -, -⟩
  · obtain rfl : ws = [] := List.eq_nil_of_length_eq_zero h0
    clear hn hv1 h0
    go_enter Tryd.func46, Tryd.ntmps46
    go_wp2
    go_loop [1, 5] (fun q i => q = .int .i64 1 ∧ i = .int .i64 0) (fun _ _ => 0)
    case atStart => exact ⟨rfl, rfl⟩
    case round =>
      obtain ⟨rfl, rfl⟩ := hrel
      go_wp2
      go_ret
      exact ⟨rfl, hv, ⟨rfl, rfl, rfl, Nat.le_refl _, fun _ _ _ => rfl⟩⟩
  · unfold Owns at hv
    rw [hn] at hv hlen hle ⊢
    clear hv1 hg hm
    go_enter Tryd.func46, Tryd.ntmps46
    go_wp2
    go_loopw [1, 5] (fun q i wr => ∃ k : Nat, k ≤ n ∧ q = .int .i64 (1 + 3 * (k : Int)) ∧ i = .int .i64 k ∧ wr.ownsRow B 61 3 (.slice (some ⟨g, 0, none⟩) n cap) n (wv (marked ws k)) ∧ w.grownBy wr (some g)) (fun _ i _ => n - (intOf i).toNat)
    case atStart => exact ⟨0, Nat.zero_le _, rfl, rfl, by rw [marked_zero]; exact hv, ⟨rfl, rfl, rfl, Nat.le_refl _, fun _ _ _ => rfl⟩⟩
    case round =>
      obtain ⟨k, hk, rfl, rfl, hR, hgr⟩ := hrel
      by_cases hlt : k < n
      · have hpl : (marked ws k).length = n := by rw [marked_length ws k (by omega)]; exact hn
        have HP : Hid ((marked ws k).set k (mark k) = marked ws (k + 1)) := marked_set ws k (by omega)
        obtain ⟨c0, c1, c2⟩ := owns_at hR k (by omega)
        have hfz := fun j => hR.frozenAt j
        go_wp2
        have hR3 := owns_set3 hR k (mark k)
        rw [HP.out] at hR3
        unfold set3 mark at hR3
        have s1 := (hR.stored (k * 3) (.int .i64 (1 + 3 * (k : Int)))).1
        have s2 := (s1.stored (k * 3 + 1) (.int .i64 (1 + 3 * (k : Int) + 1))).1
        have t1 := (hR.stored (k * 3) (.int .i64 (1 + 3 * (k : Int)))).2
        have t2 := (s1.stored (k * 3 + 1) (.int .i64 (1 + 3 * (k : Int) + 1))).2
        have t3 := (s2.stored (k * 3 + 2) (.int .i64 (1 + 3 * (k : Int) + 1 + 1))).2
        go_roundw
        case rel => exact ⟨k + 1, by omega, by go_num, by go_num, hR3, grownBy_trans (grownBy_trans (grownBy_trans hgr t1) t2) t3⟩
        case measure => simp [intOf]; omega
      · obtain rfl : k = n := by omega
        go_wp2
        go_ret
        rw [← hn, marked_full, hn] at hR
        refine ⟨rfl, ?_, hgr⟩
        unfold Owns
        rw [marks_length]
        exact hR

set_option maxRecDepth 100000 in
set_option maxHeartbeats 800000 in
theorem heldWordsC (v : Value) (n : Nat) (B : Nat) (w : World) (hv : Sees B w v (marks n)) (hlen : n ≤ 1048576) :
    Calls Tryd.prog 49 #[v, .int .i64 1] w fun e w' => e = .returned (.int .i64 (1 + 3 * (n : Int))) ∧ w = w' := by
  obtain ⟨a, cap, rfl, h1, h2, h3⟩ := hv
  rw [marks_length]
  clear h1 h2
  go_enter Tryd.func49, Tryd.ntmps49
  go_wp2
  go_loop [1, 5] (fun q i => ∃ k : Nat, k ≤ n ∧ q = .int .i64 (1 + 3 * (k : Int)) ∧ i = .int .i64 k) (fun _ i => n - (intOf i).toNat)
  case atStart => exact ⟨0, Nat.zero_le _, rfl, rfl⟩
  case round =>
    obtain ⟨k, hk, rfl, rfl⟩ := hrel
    by_cases hlt : k < n
    · obtain ⟨b, off, rfl, hbB, hc⟩ := h3 (fun h => by have := congrArg List.length h; rw [marks_length] at this; simp at this; omega)
      obtain ⟨a0, a1, a2⟩ := hc k (by rw [marks_length]; omega)
      simp only [marks_get, mark] at a0 a1 a2
      clear hc h3
      go_wp2
      go_round
      case rel => exact ⟨k + 1, by omega, by go_num, by go_num⟩
      case measure => simp [intOf]; omega
    · obtain rfl : k = n := by omega
      go_wp2
      go_ret
      exact ⟨rfl, rfl⟩
end Words
end Go.Proofs.YtppikpdphcfomaaDoor
