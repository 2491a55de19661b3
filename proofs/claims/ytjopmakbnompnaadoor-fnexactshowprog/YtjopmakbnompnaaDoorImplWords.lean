/- The program's words: the table, how many fields a kind names, the kinds by their words. -/
import Derived.Test.YtjopmakbnompnaaDoorReadOpL
import Derived.Test.YtjopmakbnompnaaDoorOpImpl
import Derived.Maps.OwnSet
import Derived.Maps.Views
set_option linter.unusedVariables false
set_option linter.unusedSimpArgs false
namespace Go.Proofs.YtjopmakbnompnaaDoor
open Go.RowKit Go.Maps
namespace Ops
open Bas

/-- the table of the words -/
def WTab (w : World) : Prop := ∀ i (h : i < words.length), w.cell? ⟨0, i, none⟩ = some (.string ⟨words[i].toArray⟩)
theorem WTab.on {w w' : World} (h : WTab w) (hb : Below w.heap.size w w') : WTab w' := fun i hi => (hb.cell (World.block_lt_of_cell? _ _ (h i hi))).trans (h i hi)
theorem WTab.below {w w' : World} {B : Nat} (h : WTab w) (hb : Below B w w') (hB : w.heap.size ≤ B) : WTab w' := h.on (hb.mono hB)

/-! ### how many fields a kind names -/
def one01 (p : Int × Int) : Nat := if p = (0, 0) then 0 else 1
theorem named_nargs {k : Int} (h : 1 ≤ k ∧ k ≤ 16) : ∃ p q r, spans k = some (p, q, r) ∧ nargs k = one01 p + one01 q + one01 r := by
  rcases kinds k with rfl | rfl | rfl | rfl | rfl | rfl | rfl | rfl | rfl | rfl | rfl | rfl | rfl | rfl | rfl | rfl | h'
  case inr.inr.inr.inr.inr.inr.inr.inr.inr.inr.inr.inr.inr.inr.inr.inr => omega
  all_goals exact ⟨_, _, _, rfl, by decide⟩
def cnt3 (p q r : Int × Int) : Nat → Nat
  | 0 => 0
  | 1 => one01 p
  | 2 => one01 p + one01 q
  | _ => one01 p + one01 q + one01 r
set_option maxRecDepth 100000 in
theorem spAt0 (p0 p1 q0 q1 r0 r1 : Int) (W : World) : (Instr.index 86 (.agg #[.int .i64 p0, .int .i64 p1, .int .i64 q0, .int .i64 q1, .int .i64 r0, .int .i64 r1]) (.int .i64 0)).run Tryd.prog W = .ok (.agg #[.int .i64 p0, .int .i64 p1]) W := by kernel_rfl
set_option maxRecDepth 100000 in
theorem spAt1 (p0 p1 q0 q1 r0 r1 : Int) (W : World) : (Instr.index 86 (.agg #[.int .i64 p0, .int .i64 p1, .int .i64 q0, .int .i64 q1, .int .i64 r0, .int .i64 r1]) (.int .i64 1)).run Tryd.prog W = .ok (.agg #[.int .i64 q0, .int .i64 q1]) W := by kernel_rfl
set_option maxRecDepth 100000 in
theorem spAt2 (p0 p1 q0 q1 r0 r1 : Int) (W : World) : (Instr.index 86 (.agg #[.int .i64 p0, .int .i64 p1, .int .i64 q0, .int .i64 q1, .int .i64 r0, .int .i64 r1]) (.int .i64 2)).run Tryd.prog W = .ok (.agg #[.int .i64 r0, .int .i64 r1]) W := by kernel_rfl
set_option maxRecDepth 100000 in
set_option maxHeartbeats 1600000 in
theorem namedC (k : Int) (h : 1 ≤ k ∧ k ≤ 16) (w : World) : Calls Tryd.prog 33 #[.int .i64 k] w fun e w' => e = .returned (.int .i64 (nargs k)) ∧ Below w.heap.size w w' := by
  obtain ⟨⟨p0, p1⟩, ⟨q0, q1⟩, ⟨r0, r1⟩, hs, hn⟩ := named_nargs h
  have hS := spansC k w
  rw [hs] at hS
  change Calls _ _ _ _ (fun e w' => e = .returned (.tuple #[.agg #[.int .i64 p0, .int .i64 p1, .int .i64 q0, .int .i64 q1, .int .i64 r0, .int .i64 r1], .bool true]) ∧ Below w.heap.size w w') at hS
  rw [hn]
  clear hn hs h
  obtain ⟨g, hg⟩ : ∃ g, w.heap.size = g := ⟨_, rfl⟩
  rw [hg] at hS ⊢
  go_enter Tryd.func33, Tryd.ntmps33
  go_wp2_with fail
  refine hS.mono ?_
  rintro e w1 ⟨rfl, b1⟩
  go_wp2
  have b2 := b1.alloc (by have := b1.size; omega) (.cells #[.int .i64 p0, .int .i64 p1, .int .i64 q0, .int .i64 q1, .int .i64 r0, .int .i64 r1] 86)
  go_loopw [3, 14] (fun nv iv wr => ∃ (i m : Nat), i ≤ 3 ∧ iv = .int .i64 i ∧ nv = .int .i64 m ∧ m ≤ i ∧ m = cnt3 (p0, p1) (q0, q1) (r0, r1) i ∧ Below g w wr) (fun _ iv _ => 3 - (intOf iv).toNat)
  case atStart => exact ⟨0, 0, by omega, rfl, rfl, by omega, rfl, b2⟩
  case round =>
    obtain ⟨i, m, hi, rfl, rfl, hm, hc, hb⟩ := hrel
    clear b2
    have x0 := spAt0 p0 p1 q0 q1 r0 r1
    have x1 := spAt1 p0 p1 q0 q1 r0 r1
    have x2 := spAt2 p0 p1 q0 q1 r0 r1
    have hsz : g ≤ wr.heap.size := by have := hb.size; omega
    have HC : Hid (m = cnt3 (p0, p1) (q0, q1) (r0, r1) i) := hc
    clear hc
    match i, hi with
    | 0, _ =>
      by_cases hz : p0 = 0 ∧ p1 = 0
      · obtain ⟨hx0, hy0⟩ := hz
        have HN : Hid (m = cnt3 (p0, p1) (q0, q1) (r0, r1) 1) := by
          have h := HC.out
          show m = _
          simp only [cnt3] at h ⊢
          rw [h, hx0, hy0]; simp [one01]
        subst hx0
        subst hy0
        go_wp2
        go_roundw
        case rel => exact ⟨1, m, by omega, by go_num, rfl, by omega, HN.out, hb.alloc hsz _⟩
        case measure => simp [intOf]
      · have HN : Hid (m + 1 = cnt3 (p0, p1) (q0, q1) (r0, r1) 1) := by
          have h := HC.out
          have h1 : one01 (p0, p1) = 1 := by unfold one01; rw [if_neg]; simpa using hz
          show m + 1 = _
          simp only [cnt3] at h ⊢
          rw [h, h1]
        by_cases hx : p0 = 0
        · have hy : ¬ p1 = 0 := fun h => hz ⟨hx, h⟩
          clear hz
          subst hx
          go_wp2
          go_roundw
          case rel => exact ⟨1, m + 1, by omega, by go_num, by go_num, by omega, HN.out, hb.alloc hsz _⟩
          case measure => simp [intOf]
        · clear hz
          go_wp2
          go_roundw
          case rel => exact ⟨1, m + 1, by omega, by go_num, by go_num, by omega, HN.out, hb.alloc hsz _⟩
          case measure => simp [intOf]
    | 1, _ =>
      by_cases hz : q0 = 0 ∧ q1 = 0
      · obtain ⟨hx0, hy0⟩ := hz
        have HN : Hid (m = cnt3 (p0, p1) (q0, q1) (r0, r1) 2) := by
          have h := HC.out
          show m = _
          simp only [cnt3] at h ⊢
          rw [h, hx0, hy0]; simp [one01]
        subst hx0
        subst hy0
        go_wp2
        go_roundw
        case rel => exact ⟨2, m, by omega, by go_num, rfl, by omega, HN.out, hb.alloc hsz _⟩
        case measure => simp [intOf]
      · have HN : Hid (m + 1 = cnt3 (p0, p1) (q0, q1) (r0, r1) 2) := by
          have h := HC.out
          have h1 : one01 (q0, q1) = 1 := by unfold one01; rw [if_neg]; simpa using hz
          show m + 1 = _
          simp only [cnt3] at h ⊢
          rw [h, h1]
        by_cases hx : q0 = 0
        · have hy : ¬ q1 = 0 := fun h => hz ⟨hx, h⟩
          clear hz
          subst hx
          go_wp2
          go_roundw
          case rel => exact ⟨2, m + 1, by omega, by go_num, by go_num, by omega, HN.out, hb.alloc hsz _⟩
          case measure => simp [intOf]
        · clear hz
          go_wp2
          go_roundw
          case rel => exact ⟨2, m + 1, by omega, by go_num, by go_num, by omega, HN.out, hb.alloc hsz _⟩
          case measure => simp [intOf]
    | 2, _ =>
      by_cases hz : r0 = 0 ∧ r1 = 0
      · obtain ⟨hx0, hy0⟩ := hz
        have HN : Hid (m = cnt3 (p0, p1) (q0, q1) (r0, r1) 3) := by
          have h := HC.out
          show m = _
          simp only [cnt3] at h ⊢
          rw [h, hx0, hy0]; simp [one01]
        subst hx0
        subst hy0
        go_wp2
        go_roundw
        case rel => exact ⟨3, m, by omega, by go_num, rfl, by omega, HN.out, hb.alloc hsz _⟩
        case measure => simp [intOf]
      · have HN : Hid (m + 1 = cnt3 (p0, p1) (q0, q1) (r0, r1) 3) := by
          have h := HC.out
          have h1 : one01 (r0, r1) = 1 := by unfold one01; rw [if_neg]; simpa using hz
          show m + 1 = _
          simp only [cnt3] at h ⊢
          rw [h, h1]
        by_cases hx : r0 = 0
        · have hy : ¬ r1 = 0 := fun h => hz ⟨hx, h⟩
          clear hz
          subst hx
          go_wp2
          go_roundw
          case rel => exact ⟨3, m + 1, by omega, by go_num, by go_num, by omega, HN.out, hb.alloc hsz _⟩
          case measure => simp [intOf]
        · clear hz
          go_wp2
          go_roundw
          case rel => exact ⟨3, m + 1, by omega, by go_num, by go_num, by omega, HN.out, hb.alloc hsz _⟩
          case measure => simp [intOf]
    | 3, _ =>
      have HF : Hid (m = one01 (p0, p1) + one01 (q0, q1) + one01 (r0, r1)) := HC.out
      go_wp2
      go_ret
      exact ⟨by rw [HF.out]; rfl, hb⟩

/-! ### the kinds by their words -/
def tabTo : Nat → DataW Unit
  | 0 => .map []
  | k + 1 => if k = 0 then .map [] else (tabTo k).put (.string (words.getD k [])) (.lit (.int .i64 k))
theorem tab_map : ∀ k, IsMap (tabTo k)
  | 0 => isMap_empty
  | k + 1 => by
    unfold tabTo
    split
    · exact isMap_empty
    · exact (tab_map k).put _ _
theorem kindTo_succ (p : Txt) (k : Nat) : kindTo p (k + 1) = if 1 ≤ k ∧ words.getD k [] = p then k else kindTo p k := rfl
theorem tab_look (p : Txt) (z : DataW Unit) : ∀ k, (tabTo k).atKey (.string p) z = (if kindTo p k = 0 then z else .lit (.int .i64 (kindTo p k))) ∧ has (tabTo k) (.string p) = decide (kindTo p k ≠ 0)
  | 0 => ⟨rfl, rfl⟩
  | k + 1 => by
    obtain ⟨h1, h2⟩ := tab_look p z k
    by_cases hk : k = 0
    · subst hk
      have e2 : tabTo (0 + 1) = .map [] := rfl
      have e : kindTo p (0 + 1) = 0 := kindTo_one p
      rw [e, e2]
      exact ⟨rfl, rfl⟩
    · have e2 : tabTo (k + 1) = (tabTo k).put (.string (words.getD k [])) (.lit (.int .i64 k)) := by
        show (if k = 0 then _ else _) = _
        rw [if_neg hk]
      by_cases hw : words.getD k [] = p
      · have e : kindTo p (k + 1) = k := by rw [kindTo_succ, if_pos ⟨by omega, hw⟩]
        rw [e, e2, hw, if_neg hk]
        exact ⟨atKey_put_same (tab_map k) (by simp [WideAt.IsKeyLit]) _ _, by rw [has_put_same (tab_map k) (by simp [WideAt.IsKeyLit])]; simp [hk]⟩
      · have hne : Lit.string p ≠ Lit.string (words.getD k []) := fun e => hw (by injection e with e; exact e.symm)
        have e : kindTo p (k + 1) = kindTo p k := by rw [kindTo_succ, if_neg (fun h => hw h.2)]
        rw [e, e2, atKey_put_other hne, has_put_other hne]
        exact ⟨h1, h2⟩
theorem lawStr : Keyed Tryd.prog 9 := string_keyed Tryd.underlying9
theorem zeroInt (w : World) : (zeroValue 3).run Tryd.prog w = .ok (.int .i64 0) w := by kernel_rfl
theorem wfSmall {k : Nat} (h : k ≤ 1000) : (Lit.int .i64 (k : Int)).wf = true := WalkArith.wf_i64 (by omega)
/-- what the map answers -/
def KindsAt (w : World) (b : Nat) : Prop := ∀ L : Txt, L.length ≤ 1048576 → (Instr.lookup 66 (.map (some b)) (.string ⟨L.toArray⟩) true).run Tryd.prog w = .ok (.tuple #[.int .i64 (kindTo L 17), .bool (decide (kindTo L 17 ≠ 0))]) w
theorem kinds_at {w : World} {b n : Nat} (h : w.ownsMap Tryd.prog 9 (plainElem Tryd.prog 3) b n (tabTo 17)) : KindsAt w b := by
  intro L hL
  have hkey : keyOf Tryd.prog 9 (.string ⟨L.toArray⟩) = some (.string L) := by
    have := Go.WideMaps.keyOf_string_mk (P := Tryd.prog) Tryd.underlying9 (s := ⟨L.toArray⟩) (by unfold maxLen; show L.toArray.size ≤ _; simp; omega)
    simpa using this
  obtain ⟨v, ps, hr, hv⟩ := h.look_ok lawStr Tryd.underlying66 (zeroInt w) (zd := .lit (.int .i64 0)) (zp := []) (plainElem_int Tryd.underlying3 (by decide)) hkey
  obtain ⟨h1, h2⟩ := tab_look L (.lit (.int .i64 0)) 17
  obtain ⟨a, rfl, hz, -⟩ := plainElem_int_inv Tryd.underlying3 hv
  obtain ⟨kk, hkk⟩ : ∃ kk, kindTo L 17 = kk := ⟨_, rfl⟩
  rw [hkk] at h1 h2 ⊢
  clear hkk
  rw [h1] at hz
  rw [hr, h2]
  have : a = (kk : Int) := by
    clear hr h1 h2 hv
    split at hz
    · rename_i h0
      simp only [Prod.mk.injEq, DataW.lit.injEq, Lit.int.injEq, true_and] at hz
      rw [h0, ← hz.1]; rfl
    · simp only [Prod.mk.injEq, DataW.lit.injEq, Lit.int.injEq, true_and] at hz
      exact hz.1.symm
  rw [this]
set_option maxRecDepth 100000 in
set_option maxHeartbeats 1600000 in
theorem kindsC (w : World) (hT : WTab w) : Calls Tryd.prog 38 #[] w fun e w' => ∃ b, e = .returned (.map (some b)) ∧ KindsAt w' b ∧ Below w.heap.size w w' := by
  have o0 := World.ownsMap_made w Tryd.prog 9 (plainElem (H := Unit) Tryd.prog 3)
  have b0 := alloc_below w (.map #[] 0)
  obtain ⟨g, hg⟩ : ∃ g, w.heap.size = g := ⟨_, rfl⟩
  rw [hg] at o0 b0 ⊢
  have hmm := @run_makeMap Tryd.prog
  have HT := (show Hid _ from hT)
  clear hT
  go_enter Tryd.func38, Tryd.ntmps38
  go_wp2
  clear hmm
  go_loopw [2] (fun iv wr => ∃ k : Nat, 1 ≤ k ∧ k ≤ 17 ∧ iv = .int .i64 k ∧ wr.ownsMap Tryd.prog 9 (plainElem Tryd.prog 3) g k (tabTo k) ∧ Below g w wr) (fun iv _ => 17 - (intOf iv).toNat)
  case atStart => exact ⟨1, by omega, by omega, rfl, o0.mono (by omega), b0⟩
  case round =>
    obtain ⟨k, hk1, hk2, rfl, o, b⟩ := hrel
    clear o0 b0
    have hsz : g ≤ wr.heap.size := by have := b.size; omega
    by_cases hlt : k < 17
    · have hkl : k < words.length := by rw [words_length]; exact hlt
      have cw := WTab.on HT.out (w' := wr) (by rw [hg]; exact b) k hkl
      have i1 : (k : Int) ≤ 16 := by omega
      have i2 : (0 : Int) ≤ k := by omega
      have i3 : (k : Int) < 17 := by omega
      have hgw : words.getD k [] = words[k] := by rw [List.getD_eq_getElem?_getD, List.getElem?_eq_getElem hkl]; rfl
      have hkey : keyOf Tryd.prog 9 (.string ⟨words[k].toArray⟩) = some (.string (words.getD k [])) := by
        have hl5 : words[k].length ≤ 5 := by
          have : ∀ q ∈ words, q.length ≤ 5 := by decide
          exact this _ (List.getElem_mem hkl)
        have := Go.WideMaps.keyOf_string_mk (P := Tryd.prog) Tryd.underlying9 (s := ⟨words[k].toArray⟩) (by unfold maxLen; show words[k].toArray.size ≤ _; simp; omega)
        rw [hgw]
        simpa using this
      obtain ⟨wd, hwd⟩ : ∃ wd, words[k] = wd := ⟨_, rfl⟩
      rw [hwd] at cw hkey
      obtain ⟨w1, r1, o1, g1⟩ := o.update lawStr Tryd.underlying66 (by unfold maxLen; omega) hkey (plainElem_int (H := Unit) Tryd.underlying3 (wfSmall (k := k) (by omega)))
      have o2 : w1.ownsMap Tryd.prog 9 (plainElem Tryd.prog 3) g (k + 1) (tabTo (k + 1)) := by
        have e : tabTo (k + 1) = (tabTo k).put (.string (words.getD k [])) (.lit (.int .i64 k)) := by
          show (if k = 0 then _ else _) = _
          rw [if_neg (by omega)]
        rw [e]; exact o1
      have b2 := b.grown g1 hsz (fun q hq => by injection hq with e; omega)
      clear o o1 g1 hgw hkey hwd b
      go_wp2
      clear r1 cw
      go_roundw
      case rel => exact ⟨k + 1, by omega, by omega, by go_num, o2, b2⟩
      case measure => simp [intOf]; omega
    · obtain rfl : k = 17 := by omega
      have HL := (show Hid _ from kinds_at o)
      clear o
      go_wp2
      go_ret
      exact ⟨_, rfl, HL.out, b⟩
end Ops
end Go.Proofs.YtjopmakbnompnaaDoor
