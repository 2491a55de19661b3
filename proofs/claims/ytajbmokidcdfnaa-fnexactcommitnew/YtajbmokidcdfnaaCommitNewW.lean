/- CommitNew: what both answer. -/
import Derived.Test.YtajbmokidcdfnaaCommitBreakW
import Derived.Test.YtajbmokidcdfnaaLogNet
import Derived.Test.YtajbmokidcdfnaaLogSpec
set_option linter.unusedVariables false
set_option linter.unusedSimpArgs false
namespace Go.Proofs.Ytajbmokidcdfnaa
open Go.RowKit
namespace Commits
open Bas Flat Logs
def newOk (who rv : Int) (ps qs : List R2) : Bool := Ops.inn 1 99 who && (Ops.inn 0 1000000 rv && (rowsOk ps && rowsOk qs))
/-- the commit that is new -/
def newC (who rv : Int) (ps qs : List R2) : Cm := if newOk who rv ps qs = true then ⟨who, rv, if (netOf ps).length = 0 then 2 else 1, 0, 0, netOf ps, cellsOf qs⟩ else Cm.zero
theorem newC_no {who rv : Int} {ps qs : List R2} (h : newOk who rv ps qs = false) : newC who rv ps qs = Cm.zero := by unfold newC; rw [h]; rfl
theorem newC_yes {who rv : Int} {ps qs : List R2} (h : newOk who rv ps qs = true) : newC who rv ps qs = ⟨who, rv, if (netOf ps).length = 0 then 2 else 1, 0, 0, netOf ps, cellsOf qs⟩ := by unfold newC; rw [h]; rfl

theorem own1 {B q : Nat} {w : World} {vP vR : Value} {ps : List R2} {rs : List Int} {cs : Array Value} (h : OwnC B w vP vR ps rs) (hb : Blk w q cs 30) (i : Nat) (u : Value) : OwnC B (w.setCell ⟨q, i, none⟩ u) vP vR ps rs := by
  have d1 : ∀ k, vP.ownBlock = some k → k ≠ q := h.p.off hb (by decide)
  have d2 : ∀ k, vR.ownBlock = some k → k ≠ q := by
    intro k hk
    have hr := h.r
    unfold Ints.Owns at hr
    obtain ⟨k1, k2⟩ := hr
    rcases k2 with ⟨rfl, h0⟩ | ⟨g, cap, cur, rfl, hg, hh, r⟩
    · cases hk
    · cases hk
      rintro rfl
      unfold Blk at hb
      rw [hb] at hh
      simp at hh
  exact ⟨Owns.other h.p d1 u, ownI_other h.r d2 i u⟩

set_option maxRecDepth 100000 in
set_option maxHeartbeats 12800000 in
theorem specNew (who rv : Int) (ps qs : List R2) (vP vQ : Value) (B : Nat) (w : World) (hP : Sees2 B w vP ps) (hQ : Sees2 B w vQ qs) (hB : B ≤ w.heap.size) :
    Calls Try.prog 15 #[.int .i64 who, .int .i64 rv, vP, vQ] w fun e w' => ∃ a k a' k', e = .returned (.tuple #[(newC who rv ps qs).agg (.slice a (newC who rv ps qs).ps.length k) (.slice a' (newC who rv ps qs).rs.length k'), .bool (newOk who rv ps qs)]) ∧
      OwnC w.heap.size w' (.slice a (newC who rv ps qs).ps.length k) (.slice a' (newC who rv ps qs).rs.length k') (newC who rv ps qs).ps (newC who rv ps qs).rs ∧ Below w.heap.size w w' := by
  obtain ⟨g, hg⟩ : ∃ g, w.heap.size = g := ⟨_, rfl⟩
  have S0 := Blk.new w #[.int .i64 0, .int .i64 0, .int .i64 0, .int .i64 0, .int .i64 0, .slice none 0 0, .slice none 0 0] 30
  have b0 := alloc_below w (.cells #[.int .i64 0, .int .i64 0, .int .i64 0, .int .i64 0, .int .i64 0, .slice none 0 0, .slice none 0 0] 30)
  obtain ⟨w0, hw0⟩ : ∃ w0, w.alloc (.cells #[.int .i64 0, .int .i64 0, .int .i64 0, .int .i64 0, .int .i64 0, .slice none 0 0, .slice none 0 0] 30) = w0 := ⟨_, rfl⟩
  rw [hw0] at S0 b0
  rw [hg] at S0 b0 hB ⊢
  have z0 : g < w0.heap.size := S0.lt
  have iw := fun W => Ops.innC who 1 99 W
  have ir := fun W => Ops.innC rv 0 1000000 W
  obtain ⟨p0, h0⟩ : ∃ q, Ops.inn 1 99 who = q := ⟨_, rfl⟩
  obtain ⟨p1, h1⟩ : ∃ q, Ops.inn 0 1000000 rv = q := ⟨_, rfl⟩
  obtain ⟨p2, h2⟩ : ∃ q, rowsOk ps = q := ⟨_, rfl⟩
  obtain ⟨p3, h3⟩ : ∃ q, rowsOk qs = q := ⟨_, rfl⟩
  have c2 := Logs.specOk vP ps B w0 (hP.on b0 hB)
  have c3 := fun W (b : Below g w W) => Logs.specOk vQ qs B W (hQ.on b hB)
  rw [h2] at c2; rw [h3] at c3; rw [h0] at iw; rw [h1] at ir
  have hN : newOk who rv ps qs = (p0 && (p1 && (p2 && p3))) := by unfold newOk; rw [h0, h1, h2, h3]
  have s0 := fun i => S0.cell i; have sf := fun i => S0.froz i
  cases p0
  · have hno : newOk who rv ps qs = false := by rw [hN]; rfl
    rw [newC_no hno, hno]
    clear hN hno h0 h1 h2 h3
    have S9 := (((((((S0.set 0 (.int .i64 0)).set 1 (.int .i64 0)).set 2 (.int .i64 0)).set 3 (.int .i64 0)).set 4 (.int .i64 0)).set 5 (.slice none 0 0)).set 6 (.slice none 0 0))
    have s9 := fun i => S9.cell i
    have b9 := (((((((b0.setCell (p := ⟨g, 0, none⟩) (show g ≤ g by omega) (.int .i64 0)).setCell (p := ⟨g, 1, none⟩) (show g ≤ g by omega) (.int .i64 0)).setCell (p := ⟨g, 2, none⟩) (show g ≤ g by omega) (.int .i64 0)).setCell (p := ⟨g, 3, none⟩) (show g ≤ g by omega) (.int .i64 0)).setCell (p := ⟨g, 4, none⟩) (show g ≤ g by omega) (.int .i64 0)).setCell (p := ⟨g, 5, none⟩) (show g ≤ g by omega) (.slice none 0 0)).setCell (p := ⟨g, 6, none⟩) (show g ≤ g by omega) (.slice none 0 0))
    go_enter Try.func15, Try.ntmps15
    go_wp2_with (first | (go_at_call_of 50 who; refine (iw _).mono ?_; rintro e w1 ⟨rfl, rfl⟩))
    refine bodyPost_ret (v := .tuple #[.agg #[.int .i64 0, .int .i64 0, .int .i64 0, .int .i64 0, .int .i64 0, .slice none 0 0, .slice none 0 0], .bool false]) (by simp [results, Try.results15, go_sem, s9]) rfl ?_
    exact ⟨_, _, _, _, rfl, ⟨Owns.nil _ _ _ _, Ints.own_nil _ _⟩, b9⟩
  cases p1
  · have hno : newOk who rv ps qs = false := by rw [hN]; rfl
    rw [newC_no hno, hno]
    clear hN hno h0 h1 h2 h3
    have S9 := (((((((S0.set 0 (.int .i64 0)).set 1 (.int .i64 0)).set 2 (.int .i64 0)).set 3 (.int .i64 0)).set 4 (.int .i64 0)).set 5 (.slice none 0 0)).set 6 (.slice none 0 0))
    have s9 := fun i => S9.cell i
    have b9 := (((((((b0.setCell (p := ⟨g, 0, none⟩) (show g ≤ g by omega) (.int .i64 0)).setCell (p := ⟨g, 1, none⟩) (show g ≤ g by omega) (.int .i64 0)).setCell (p := ⟨g, 2, none⟩) (show g ≤ g by omega) (.int .i64 0)).setCell (p := ⟨g, 3, none⟩) (show g ≤ g by omega) (.int .i64 0)).setCell (p := ⟨g, 4, none⟩) (show g ≤ g by omega) (.int .i64 0)).setCell (p := ⟨g, 5, none⟩) (show g ≤ g by omega) (.slice none 0 0)).setCell (p := ⟨g, 6, none⟩) (show g ≤ g by omega) (.slice none 0 0))
    go_enter Try.func15, Try.ntmps15
    go_wp2_with (first | (go_at_call_of 50 who; refine (iw _).mono ?_; rintro e w1 ⟨rfl, rfl⟩) | (go_at_call_of 50 rv; refine (ir _).mono ?_; rintro e w1 ⟨rfl, rfl⟩))
    refine bodyPost_ret (v := .tuple #[.agg #[.int .i64 0, .int .i64 0, .int .i64 0, .int .i64 0, .int .i64 0, .slice none 0 0, .slice none 0 0], .bool false]) (by simp [results, Try.results15, go_sem, s9]) rfl ?_
    exact ⟨_, _, _, _, rfl, ⟨Owns.nil _ _ _ _, Ints.own_nil _ _⟩, b9⟩
  cases p2
  · have hno : newOk who rv ps qs = false := by rw [hN]; rfl
    rw [newC_no hno, hno]
    clear hN hno h0 h1 h2 h3
    go_enter Try.func15, Try.ntmps15
    go_wp2_with (first | (go_at_call_of 50 who; refine (iw _).mono ?_; rintro e w1 ⟨rfl, rfl⟩) | (go_at_call_of 50 rv; refine (ir _).mono ?_; rintro e w1 ⟨rfl, rfl⟩) | (go_at_call 51; fail))
    refine c2.mono ?_
    rintro e w1 ⟨rfl, rfl⟩
    have S1 := S0; have bb1 := b0
    clear s0 sf
    have s0 := fun i => S1.cell i; have sf := fun i => S1.froz i
    have S9 := (((((((S1.set 0 (.int .i64 0)).set 1 (.int .i64 0)).set 2 (.int .i64 0)).set 3 (.int .i64 0)).set 4 (.int .i64 0)).set 5 (.slice none 0 0)).set 6 (.slice none 0 0))
    have s9 := fun i => S9.cell i
    have b9 := (((((((bb1.setCell (p := ⟨g, 0, none⟩) (show g ≤ g by omega) (.int .i64 0)).setCell (p := ⟨g, 1, none⟩) (show g ≤ g by omega) (.int .i64 0)).setCell (p := ⟨g, 2, none⟩) (show g ≤ g by omega) (.int .i64 0)).setCell (p := ⟨g, 3, none⟩) (show g ≤ g by omega) (.int .i64 0)).setCell (p := ⟨g, 4, none⟩) (show g ≤ g by omega) (.int .i64 0)).setCell (p := ⟨g, 5, none⟩) (show g ≤ g by omega) (.slice none 0 0)).setCell (p := ⟨g, 6, none⟩) (show g ≤ g by omega) (.slice none 0 0))
    go_wp2
    refine bodyPost_ret (v := .tuple #[.agg #[.int .i64 0, .int .i64 0, .int .i64 0, .int .i64 0, .int .i64 0, .slice none 0 0, .slice none 0 0], .bool false]) (by simp [results, Try.results15, go_sem, s9]) rfl ?_
    exact ⟨_, _, _, _, rfl, ⟨Owns.nil _ _ _ _, Ints.own_nil _ _⟩, b9⟩
  cases p3
  · have hno : newOk who rv ps qs = false := by rw [hN]; rfl
    rw [newC_no hno, hno]
    clear hN hno h0 h1 h2 h3
    go_enter Try.func15, Try.ntmps15
    go_wp2_with (first | (go_at_call_of 50 who; refine (iw _).mono ?_; rintro e w1 ⟨rfl, rfl⟩) | (go_at_call_of 50 rv; refine (ir _).mono ?_; rintro e w1 ⟨rfl, rfl⟩) | (go_at_call 51; fail))
    refine c2.mono ?_
    rintro e w1 ⟨rfl, rfl⟩
    have S1 := S0; have bb1 := b0
    clear s0 sf
    have s0 := fun i => S1.cell i; have sf := fun i => S1.froz i
    go_wp2_with fail
    refine (c3 _ bb1).mono ?_
    rintro e w2 ⟨rfl, rfl⟩
    have S2 := S1; have bb2 := bb1
    clear s0 sf
    have s0 := fun i => S2.cell i; have sf := fun i => S2.froz i
    have S9 := (((((((S2.set 0 (.int .i64 0)).set 1 (.int .i64 0)).set 2 (.int .i64 0)).set 3 (.int .i64 0)).set 4 (.int .i64 0)).set 5 (.slice none 0 0)).set 6 (.slice none 0 0))
    have s9 := fun i => S9.cell i
    have b9 := (((((((bb2.setCell (p := ⟨g, 0, none⟩) (show g ≤ g by omega) (.int .i64 0)).setCell (p := ⟨g, 1, none⟩) (show g ≤ g by omega) (.int .i64 0)).setCell (p := ⟨g, 2, none⟩) (show g ≤ g by omega) (.int .i64 0)).setCell (p := ⟨g, 3, none⟩) (show g ≤ g by omega) (.int .i64 0)).setCell (p := ⟨g, 4, none⟩) (show g ≤ g by omega) (.int .i64 0)).setCell (p := ⟨g, 5, none⟩) (show g ≤ g by omega) (.slice none 0 0)).setCell (p := ⟨g, 6, none⟩) (show g ≤ g by omega) (.slice none 0 0))
    go_wp2
    refine bodyPost_ret (v := .tuple #[.agg #[.int .i64 0, .int .i64 0, .int .i64 0, .int .i64 0, .int .i64 0, .slice none 0 0, .slice none 0 0], .bool false]) (by simp [results, Try.results15, go_sem, s9]) rfl ?_
    exact ⟨_, _, _, _, rfl, ⟨Owns.nil _ _ _ _, Ints.own_nil _ _⟩, b9⟩
  have hyes : newOk who rv ps qs = true := by rw [hN]; rfl
  rw [newC_yes hyes, hyes]
  dsimp only
  have cN := fun W (b : Below g w W) => Logs.specNet vP ps B W (hP.on b hB) (by have := b.size; omega)
  have cC := fun W (b : Below g w W) => Logs.specCellsOf vQ qs B W (hQ.on b hB) (by have := b.size; omega)
  obtain ⟨ns, hns⟩ : ∃ l, netOf ps = l := ⟨_, rfl⟩
  obtain ⟨cs, hcs⟩ : ∃ l, cellsOf qs = l := ⟨_, rfl⟩
  have hl8 := netOf_length ps
  rw [hns] at cN hl8 ⊢
  rw [hcs] at cC ⊢
  obtain ⟨n, hn⟩ : ∃ n, ns.length = n := ⟨_, rfl⟩
  obtain ⟨m, hm⟩ : ∃ m, cs.length = m := ⟨_, rfl⟩
  rw [hn] at hl8
  rw [hn, hm]
  obtain ⟨ph, hph⟩ : ∃ x : Int, (if n = 0 then 2 else 1) = x := ⟨_, rfl⟩
  rw [hph]
  have HPH := (show Hid _ from hph)
  clear hph
  clear hN hyes h0 h1 h2 h3 hns hcs
  go_enter Try.func15, Try.ntmps15
  go_wp2_with (first | (go_at_call_of 50 who; refine (iw _).mono ?_; rintro e w1 ⟨rfl, rfl⟩) | (go_at_call_of 50 rv; refine (ir _).mono ?_; rintro e w1 ⟨rfl, rfl⟩) | (go_at_call 51; fail))
  refine c2.mono ?_
  rintro e w1 ⟨rfl, rfl⟩
  have S1 := S0; have bb1 := b0
  clear s0 sf
  have s0 := fun i => S1.cell i; have sf := fun i => S1.froz i
  go_wp2_with fail
  refine (c3 _ bb1).mono ?_
  rintro e w2 ⟨rfl, rfl⟩
  have S2 := S1; have bb2 := bb1
  clear s0 sf
  have s0 := fun i => S2.cell i; have sf := fun i => S2.froz i
  clear iw ir c2 c3 s0 sf
  go_wp2_with fail
  refine (cN _ bb2).mono ?_
  rintro e w3 ⟨v3, rfl, O3, b3⟩
  obtain ⟨a3, c3, rfl⟩ := O3.form
  rw [hn] at O3 ⊢
  have hlo : g ≤ w0.heap.size := by have := bb2.size; omega
  replace O3 := O3.mono hlo
  have S3 := S2.on b3 S2.lt; have bb3 := bb2.trans (b3.mono hlo)
  clear cN S2 bb2 b3
  go_wp2_with fail
  refine (cC _ bb3).mono ?_
  rintro e w4 ⟨v5, rfl, O5, b4⟩
  obtain ⟨a5, c5, rfl⟩ := O5.form
  rw [hm] at O5 ⊢
  have hlo3 : g ≤ w3.heap.size := by have := bb3.size; omega
  replace O5 := O5.mono hlo3
  replace O3 := O3.on b4 (Nat.le_refl _)
  have S4 := S3.on b4 S3.lt; have bb4 := bb3.trans (b4.mono hlo3)
  clear cC S3 bb3 b4
  have X5 := Blk.new w4 #[.int .i64 who, .int .i64 rv, .int .i64 1, .int .i64 0, .int .i64 0, .slice a3 n c3, .slice a5 m c5] 30
  have b5 := alloc_below w4 (.cells #[.int .i64 who, .int .i64 rv, .int .i64 1, .int .i64 0, .int .i64 0, .slice a3 n c3, .slice a5 m c5] 30)
  obtain ⟨p, hp⟩ : ∃ p, w4.heap.size = p := ⟨_, rfl⟩
  have S5 := S4.on b5 S4.lt; have OC : OwnC g _ _ _ ns cs := ⟨O3.on b5 (Nat.le_refl _), O5.on b5 (Nat.le_refl _)⟩
  have bb5 := bb4.trans (b5.mono (by have := bb4.size; omega))
  have hgp : g < p := by have := S4.lt; omega
  obtain ⟨w5, hw5⟩ : ∃ W, w4.alloc (.cells #[.int .i64 who, .int .i64 rv, .int .i64 1, .int .i64 0, .int .i64 0, .slice a3 n c3, .slice a5 m c5] 30) = W := ⟨_, rfl⟩
  rw [hw5] at X5 S5 OC bb5
  rw [hp] at X5
  clear S4 bb4 b5 O3 O5
  by_cases hz : n = 0
  · have hz' : ((n : Int) == 0) = true := by simp [hz]
    obtain rfl : ph = 2 := by rw [← HPH.out, if_pos hz]
    have X6 := X5.set 2 (.int .i64 2)
    have S6 := S5.other (show g ≠ p by omega) 2 (.int .i64 2)
    have O6 : OwnC g (w5.setCell ⟨p, 2, none⟩ (.int .i64 2)) _ _ ns cs := own1 OC X5 2 (.int .i64 2)
    have b6 := bb5.setCell (p := ⟨p, 2, none⟩) (show g ≤ p by omega) (.int .i64 2)
    have y5 := X5.cell 5; have y2 := X5.cell 2; have yf := fun i => X5.froz i; have ya := fun i => X5.cell i
    obtain ⟨w6, hw6⟩ : ∃ W, w5.setCell ⟨p, 2, none⟩ (.int .i64 2) = W := ⟨_, rfl⟩
    rw [hw6] at X6 S6 O6 b6
    have x0 := X6.cell 0; have x1 := X6.cell 1; have x2 := X6.cell 2; have x3 := X6.cell 3; have x4 := X6.cell 4; have x5 := X6.cell 5; have x6 := X6.cell 6
    have S9 := (((((((S6.set 0 (.int .i64 who)).set 1 (.int .i64 rv)).set 2 (.int .i64 2)).set 3 (.int .i64 0)).set 4 (.int .i64 0)).set 5 (.slice a3 n c3)).set 6 (.slice a5 m c5))
    have s9 := fun i => S9.cell i
    have O9 := own7 (u0 := .int .i64 who) (u1 := .int .i64 rv) (u2 := .int .i64 2) (u3 := .int .i64 0) (u4 := .int .i64 0) (u5 := .slice a3 n c3) (u6 := .slice a5 m c5) O6 S6
    have b9 := (((((((b6.setCell (p := ⟨g, 0, none⟩) (show g ≤ g by omega) (.int .i64 who)).setCell (p := ⟨g, 1, none⟩) (show g ≤ g by omega) (.int .i64 rv)).setCell (p := ⟨g, 2, none⟩) (show g ≤ g by omega) (.int .i64 2)).setCell (p := ⟨g, 3, none⟩) (show g ≤ g by omega) (.int .i64 0)).setCell (p := ⟨g, 4, none⟩) (show g ≤ g by omega) (.int .i64 0)).setCell (p := ⟨g, 5, none⟩) (show g ≤ g by omega) (.slice a3 n c3)).setCell (p := ⟨g, 6, none⟩) (show g ≤ g by omega) (.slice a5 m c5))
    have s8 := fun i => S6.cell i; have g8 := fun i => S6.froz i
    clear X5 X6 S5 S6 O6 OC b6 bb5 hz
    go_wp2
    refine bodyPost_ret (v := .tuple #[.agg #[.int .i64 who, .int .i64 rv, .int .i64 2, .int .i64 0, .int .i64 0, .slice a3 n c3, .slice a5 m c5], .bool true]) (by simp [results, Try.results15, go_sem, s9]) rfl ?_
    exact ⟨_, _, _, _, rfl, O9, b9⟩
  · have hz' : ((n : Int) == 0) = false := by simp [hz]
    obtain rfl : ph = 1 := by rw [← HPH.out, if_neg hz]
    have ya := fun i => X5.cell i; have yf := fun i => X5.froz i
    have x0 := X5.cell 0; have x1 := X5.cell 1; have x2 := X5.cell 2; have x3 := X5.cell 3; have x4 := X5.cell 4; have x5 := X5.cell 5; have x6 := X5.cell 6
    have S9 := (((((((S5.set 0 (.int .i64 who)).set 1 (.int .i64 rv)).set 2 (.int .i64 1)).set 3 (.int .i64 0)).set 4 (.int .i64 0)).set 5 (.slice a3 n c3)).set 6 (.slice a5 m c5))
    have s9 := fun i => S9.cell i
    have O9 := own7 (u0 := .int .i64 who) (u1 := .int .i64 rv) (u2 := .int .i64 1) (u3 := .int .i64 0) (u4 := .int .i64 0) (u5 := .slice a3 n c3) (u6 := .slice a5 m c5) OC S5
    have b9 := (((((((bb5.setCell (p := ⟨g, 0, none⟩) (show g ≤ g by omega) (.int .i64 who)).setCell (p := ⟨g, 1, none⟩) (show g ≤ g by omega) (.int .i64 rv)).setCell (p := ⟨g, 2, none⟩) (show g ≤ g by omega) (.int .i64 1)).setCell (p := ⟨g, 3, none⟩) (show g ≤ g by omega) (.int .i64 0)).setCell (p := ⟨g, 4, none⟩) (show g ≤ g by omega) (.int .i64 0)).setCell (p := ⟨g, 5, none⟩) (show g ≤ g by omega) (.slice a3 n c3)).setCell (p := ⟨g, 6, none⟩) (show g ≤ g by omega) (.slice a5 m c5))
    have s8 := fun i => S5.cell i; have g8 := fun i => S5.froz i
    clear X5 S5 OC bb5 hz
    go_wp2
    refine bodyPost_ret (v := .tuple #[.agg #[.int .i64 who, .int .i64 rv, .int .i64 1, .int .i64 0, .int .i64 0, .slice a3 n c3, .slice a5 m c5], .bool true]) (by simp [results, Try.results15, go_sem, s9]) rfl ?_
    exact ⟨_, _, _, _, rfl, O9, b9⟩

set_option maxRecDepth 100000 in
set_option maxHeartbeats 12800000 in
theorem implNew (who rv : Int) (ps qs : List R2) (vP vQ : Value) (B : Nat) (w : World) (hP : Sees2 B w vP ps) (hQ : Sees2 B w vQ qs) (hB : B ≤ w.heap.size) :
    Calls Try.prog 17 #[.int .i64 who, .int .i64 rv, vP, vQ] w fun e w' => ∃ a k a' k', e = .returned (.tuple #[(newC who rv ps qs).agg (.slice a (newC who rv ps qs).ps.length k) (.slice a' (newC who rv ps qs).rs.length k'), .bool (newOk who rv ps qs)]) ∧
      OwnC w.heap.size w' (.slice a (newC who rv ps qs).ps.length k) (.slice a' (newC who rv ps qs).rs.length k') (newC who rv ps qs).ps (newC who rv ps qs).rs ∧ Below w.heap.size w w' := by
  obtain ⟨g, hg⟩ : ∃ g, w.heap.size = g := ⟨_, rfl⟩
  have S0 := Blk.new w #[.int .i64 0, .int .i64 0, .int .i64 0, .int .i64 0, .int .i64 0, .slice none 0 0, .slice none 0 0] 30
  have b0 := alloc_below w (.cells #[.int .i64 0, .int .i64 0, .int .i64 0, .int .i64 0, .int .i64 0, .slice none 0 0, .slice none 0 0] 30)
  obtain ⟨w0, hw0⟩ : ∃ w0, w.alloc (.cells #[.int .i64 0, .int .i64 0, .int .i64 0, .int .i64 0, .int .i64 0, .slice none 0 0, .slice none 0 0] 30) = w0 := ⟨_, rfl⟩
  rw [hw0] at S0 b0
  rw [hg] at S0 b0 hB ⊢
  have z0 : g < w0.heap.size := S0.lt
  have iw := fun W => ownerC who W
  have ir := fun W => clockC rv W
  obtain ⟨p0, h0⟩ : ∃ q, Ops.inn 1 99 who = q := ⟨_, rfl⟩
  obtain ⟨p1, h1⟩ : ∃ q, Ops.inn 0 1000000 rv = q := ⟨_, rfl⟩
  obtain ⟨p2, h2⟩ : ∃ q, rowsOk ps = q := ⟨_, rfl⟩
  obtain ⟨p3, h3⟩ : ∃ q, rowsOk qs = q := ⟨_, rfl⟩
  have c2 := Logs.implOk vP ps B w0 (hP.on b0 hB) (by omega)
  have c3 := fun W (b : Below g w W) => Logs.implOk vQ qs B W (hQ.on b hB) (by have := b.size; omega)
  rw [h2] at c2; rw [h3] at c3; rw [h0] at iw; rw [h1] at ir
  have hN : newOk who rv ps qs = (p0 && (p1 && (p2 && p3))) := by unfold newOk; rw [h0, h1, h2, h3]
  have s0 := fun i => S0.cell i; have sf := fun i => S0.froz i
  cases p0
  · have hno : newOk who rv ps qs = false := by rw [hN]; rfl
    rw [newC_no hno, hno]
    clear hN hno h0 h1 h2 h3
    have S9 := (((((((S0.set 0 (.int .i64 0)).set 1 (.int .i64 0)).set 2 (.int .i64 0)).set 3 (.int .i64 0)).set 4 (.int .i64 0)).set 5 (.slice none 0 0)).set 6 (.slice none 0 0))
    have s9 := fun i => S9.cell i
    have b9 := (((((((b0.setCell (p := ⟨g, 0, none⟩) (show g ≤ g by omega) (.int .i64 0)).setCell (p := ⟨g, 1, none⟩) (show g ≤ g by omega) (.int .i64 0)).setCell (p := ⟨g, 2, none⟩) (show g ≤ g by omega) (.int .i64 0)).setCell (p := ⟨g, 3, none⟩) (show g ≤ g by omega) (.int .i64 0)).setCell (p := ⟨g, 4, none⟩) (show g ≤ g by omega) (.int .i64 0)).setCell (p := ⟨g, 5, none⟩) (show g ≤ g by omega) (.slice none 0 0)).setCell (p := ⟨g, 6, none⟩) (show g ≤ g by omega) (.slice none 0 0))
    go_enter Try.func17, Try.ntmps17
    go_wp2_with (first | (go_at_call 54; refine (iw _).mono ?_; rintro e w1 ⟨rfl, rfl⟩))
    refine bodyPost_ret (v := .tuple #[.agg #[.int .i64 0, .int .i64 0, .int .i64 0, .int .i64 0, .int .i64 0, .slice none 0 0, .slice none 0 0], .bool false]) (by simp [results, Try.results17, go_sem, s9]) rfl ?_
    exact ⟨_, _, _, _, rfl, ⟨Owns.nil _ _ _ _, Ints.own_nil _ _⟩, b9⟩
  cases p1
  · have hno : newOk who rv ps qs = false := by rw [hN]; rfl
    rw [newC_no hno, hno]
    clear hN hno h0 h1 h2 h3
    have S9 := (((((((S0.set 0 (.int .i64 0)).set 1 (.int .i64 0)).set 2 (.int .i64 0)).set 3 (.int .i64 0)).set 4 (.int .i64 0)).set 5 (.slice none 0 0)).set 6 (.slice none 0 0))
    have s9 := fun i => S9.cell i
    have b9 := (((((((b0.setCell (p := ⟨g, 0, none⟩) (show g ≤ g by omega) (.int .i64 0)).setCell (p := ⟨g, 1, none⟩) (show g ≤ g by omega) (.int .i64 0)).setCell (p := ⟨g, 2, none⟩) (show g ≤ g by omega) (.int .i64 0)).setCell (p := ⟨g, 3, none⟩) (show g ≤ g by omega) (.int .i64 0)).setCell (p := ⟨g, 4, none⟩) (show g ≤ g by omega) (.int .i64 0)).setCell (p := ⟨g, 5, none⟩) (show g ≤ g by omega) (.slice none 0 0)).setCell (p := ⟨g, 6, none⟩) (show g ≤ g by omega) (.slice none 0 0))
    go_enter Try.func17, Try.ntmps17
    go_wp2_with (first | (go_at_call 54; refine (iw _).mono ?_; rintro e w1 ⟨rfl, rfl⟩) | (go_at_call 55; refine (ir _).mono ?_; rintro e w1 ⟨rfl, rfl⟩))
    refine bodyPost_ret (v := .tuple #[.agg #[.int .i64 0, .int .i64 0, .int .i64 0, .int .i64 0, .int .i64 0, .slice none 0 0, .slice none 0 0], .bool false]) (by simp [results, Try.results17, go_sem, s9]) rfl ?_
    exact ⟨_, _, _, _, rfl, ⟨Owns.nil _ _ _ _, Ints.own_nil _ _⟩, b9⟩
  cases p2
  · have hno : newOk who rv ps qs = false := by rw [hN]; rfl
    rw [newC_no hno, hno]
    clear hN hno h0 h1 h2 h3
    go_enter Try.func17, Try.ntmps17
    go_wp2_with (first | (go_at_call 54; refine (iw _).mono ?_; rintro e w1 ⟨rfl, rfl⟩) | (go_at_call 55; refine (ir _).mono ?_; rintro e w1 ⟨rfl, rfl⟩) | (go_at_call 56; fail))
    refine c2.mono ?_
    rintro e w1 ⟨rfl, b1⟩
    have S1 := S0.on b1 S0.lt; have bb1 := b0.trans (b1.mono (by omega))
    clear s0 sf
    have s0 := fun i => S1.cell i; have sf := fun i => S1.froz i
    have S9 := (((((((S1.set 0 (.int .i64 0)).set 1 (.int .i64 0)).set 2 (.int .i64 0)).set 3 (.int .i64 0)).set 4 (.int .i64 0)).set 5 (.slice none 0 0)).set 6 (.slice none 0 0))
    have s9 := fun i => S9.cell i
    have b9 := (((((((bb1.setCell (p := ⟨g, 0, none⟩) (show g ≤ g by omega) (.int .i64 0)).setCell (p := ⟨g, 1, none⟩) (show g ≤ g by omega) (.int .i64 0)).setCell (p := ⟨g, 2, none⟩) (show g ≤ g by omega) (.int .i64 0)).setCell (p := ⟨g, 3, none⟩) (show g ≤ g by omega) (.int .i64 0)).setCell (p := ⟨g, 4, none⟩) (show g ≤ g by omega) (.int .i64 0)).setCell (p := ⟨g, 5, none⟩) (show g ≤ g by omega) (.slice none 0 0)).setCell (p := ⟨g, 6, none⟩) (show g ≤ g by omega) (.slice none 0 0))
    go_wp2
    refine bodyPost_ret (v := .tuple #[.agg #[.int .i64 0, .int .i64 0, .int .i64 0, .int .i64 0, .int .i64 0, .slice none 0 0, .slice none 0 0], .bool false]) (by simp [results, Try.results17, go_sem, s9]) rfl ?_
    exact ⟨_, _, _, _, rfl, ⟨Owns.nil _ _ _ _, Ints.own_nil _ _⟩, b9⟩
  cases p3
  · have hno : newOk who rv ps qs = false := by rw [hN]; rfl
    rw [newC_no hno, hno]
    clear hN hno h0 h1 h2 h3
    go_enter Try.func17, Try.ntmps17
    go_wp2_with (first | (go_at_call 54; refine (iw _).mono ?_; rintro e w1 ⟨rfl, rfl⟩) | (go_at_call 55; refine (ir _).mono ?_; rintro e w1 ⟨rfl, rfl⟩) | (go_at_call 56; fail))
    refine c2.mono ?_
    rintro e w1 ⟨rfl, b1⟩
    have S1 := S0.on b1 S0.lt; have bb1 := b0.trans (b1.mono (by omega))
    clear s0 sf
    have s0 := fun i => S1.cell i; have sf := fun i => S1.froz i
    go_wp2_with fail
    refine (c3 _ bb1).mono ?_
    rintro e w2 ⟨rfl, b2⟩
    have S2 := S1.on b2 S1.lt; have bb2 := bb1.trans (b2.mono (by have := bb1.size; omega))
    clear s0 sf
    have s0 := fun i => S2.cell i; have sf := fun i => S2.froz i
    have S9 := (((((((S2.set 0 (.int .i64 0)).set 1 (.int .i64 0)).set 2 (.int .i64 0)).set 3 (.int .i64 0)).set 4 (.int .i64 0)).set 5 (.slice none 0 0)).set 6 (.slice none 0 0))
    have s9 := fun i => S9.cell i
    have b9 := (((((((bb2.setCell (p := ⟨g, 0, none⟩) (show g ≤ g by omega) (.int .i64 0)).setCell (p := ⟨g, 1, none⟩) (show g ≤ g by omega) (.int .i64 0)).setCell (p := ⟨g, 2, none⟩) (show g ≤ g by omega) (.int .i64 0)).setCell (p := ⟨g, 3, none⟩) (show g ≤ g by omega) (.int .i64 0)).setCell (p := ⟨g, 4, none⟩) (show g ≤ g by omega) (.int .i64 0)).setCell (p := ⟨g, 5, none⟩) (show g ≤ g by omega) (.slice none 0 0)).setCell (p := ⟨g, 6, none⟩) (show g ≤ g by omega) (.slice none 0 0))
    go_wp2
    refine bodyPost_ret (v := .tuple #[.agg #[.int .i64 0, .int .i64 0, .int .i64 0, .int .i64 0, .int .i64 0, .slice none 0 0, .slice none 0 0], .bool false]) (by simp [results, Try.results17, go_sem, s9]) rfl ?_
    exact ⟨_, _, _, _, rfl, ⟨Owns.nil _ _ _ _, Ints.own_nil _ _⟩, b9⟩
  have hyes : newOk who rv ps qs = true := by rw [hN]; rfl
  rw [newC_yes hyes, hyes]
  dsimp only
  have cN := fun W (b : Below g w W) => Logs.implNet vP ps B W (hP.on b hB) (by have := b.size; omega)
  have cC := fun W (b : Below g w W) => Logs.implCellsOf vQ qs B W (hQ.on b hB) (by have := b.size; omega)
  obtain ⟨ns, hns⟩ : ∃ l, netOf ps = l := ⟨_, rfl⟩
  obtain ⟨cs, hcs⟩ : ∃ l, cellsOf qs = l := ⟨_, rfl⟩
  have hl8 := netOf_length ps
  rw [hns] at cN hl8 ⊢
  rw [hcs] at cC ⊢
  obtain ⟨n, hn⟩ : ∃ n, ns.length = n := ⟨_, rfl⟩
  obtain ⟨m, hm⟩ : ∃ m, cs.length = m := ⟨_, rfl⟩
  rw [hn] at hl8
  rw [hn, hm]
  obtain ⟨ph, hph⟩ : ∃ x : Int, (if n = 0 then 2 else 1) = x := ⟨_, rfl⟩
  rw [hph]
  have HPH := (show Hid _ from hph)
  clear hph
  clear hN hyes h0 h1 h2 h3 hns hcs
  go_enter Try.func17, Try.ntmps17
  go_wp2_with (first | (go_at_call 54; refine (iw _).mono ?_; rintro e w1 ⟨rfl, rfl⟩) | (go_at_call 55; refine (ir _).mono ?_; rintro e w1 ⟨rfl, rfl⟩) | (go_at_call 56; fail))
  refine c2.mono ?_
  rintro e w1 ⟨rfl, b1⟩
  have S1 := S0.on b1 S0.lt; have bb1 := b0.trans (b1.mono (by omega))
  clear s0 sf
  have s0 := fun i => S1.cell i; have sf := fun i => S1.froz i
  go_wp2_with fail
  refine (c3 _ bb1).mono ?_
  rintro e w2 ⟨rfl, b2⟩
  have S2 := S1.on b2 S1.lt; have bb2 := bb1.trans (b2.mono (by have := bb1.size; omega))
  clear s0 sf
  have s0 := fun i => S2.cell i; have sf := fun i => S2.froz i
  clear iw ir c2 c3 s0 sf
  go_wp2_with fail
  refine (cN _ bb2).mono ?_
  rintro e w3 ⟨v3, rfl, O3, b3⟩
  obtain ⟨a3, c3, rfl⟩ := O3.form
  rw [hn] at O3 ⊢
  have hlo : g ≤ w2.heap.size := by have := bb2.size; omega
  replace O3 := O3.mono hlo
  have S3 := S2.on b3 S2.lt; have bb3 := bb2.trans (b3.mono hlo)
  clear cN S2 bb2 b3
  go_wp2_with fail
  refine (cC _ bb3).mono ?_
  rintro e w4 ⟨v5, rfl, O5, b4⟩
  obtain ⟨a5, c5, rfl⟩ := O5.form
  rw [hm] at O5 ⊢
  have hlo3 : g ≤ w3.heap.size := by have := bb3.size; omega
  replace O5 := O5.mono hlo3
  replace O3 := O3.on b4 (Nat.le_refl _)
  have S4 := S3.on b4 S3.lt; have bb4 := bb3.trans (b4.mono hlo3)
  clear cC S3 bb3 b4
  have X5 := Blk.new w4 #[.int .i64 who, .int .i64 rv, .int .i64 1, .int .i64 0, .int .i64 0, .slice a3 n c3, .slice a5 m c5] 30
  have b5 := alloc_below w4 (.cells #[.int .i64 who, .int .i64 rv, .int .i64 1, .int .i64 0, .int .i64 0, .slice a3 n c3, .slice a5 m c5] 30)
  obtain ⟨p, hp⟩ : ∃ p, w4.heap.size = p := ⟨_, rfl⟩
  have S5 := S4.on b5 S4.lt; have OC : OwnC g _ _ _ ns cs := ⟨O3.on b5 (Nat.le_refl _), O5.on b5 (Nat.le_refl _)⟩
  have bb5 := bb4.trans (b5.mono (by have := bb4.size; omega))
  have hgp : g < p := by have := S4.lt; omega
  obtain ⟨w5, hw5⟩ : ∃ W, w4.alloc (.cells #[.int .i64 who, .int .i64 rv, .int .i64 1, .int .i64 0, .int .i64 0, .slice a3 n c3, .slice a5 m c5] 30) = W := ⟨_, rfl⟩
  rw [hw5] at X5 S5 OC bb5
  rw [hp] at X5
  clear S4 bb4 b5 O3 O5
  by_cases hz : n = 0
  · have hz' : ((n : Int) == 0) = true := by simp [hz]
    obtain rfl : ph = 2 := by rw [← HPH.out, if_pos hz]
    have X6 := X5.set 2 (.int .i64 2)
    have S6 := S5.other (show g ≠ p by omega) 2 (.int .i64 2)
    have O6 : OwnC g (w5.setCell ⟨p, 2, none⟩ (.int .i64 2)) _ _ ns cs := own1 OC X5 2 (.int .i64 2)
    have b6 := bb5.setCell (p := ⟨p, 2, none⟩) (show g ≤ p by omega) (.int .i64 2)
    have y5 := X5.cell 5; have y2 := X5.cell 2; have yf := fun i => X5.froz i; have ya := fun i => X5.cell i
    obtain ⟨w6, hw6⟩ : ∃ W, w5.setCell ⟨p, 2, none⟩ (.int .i64 2) = W := ⟨_, rfl⟩
    rw [hw6] at X6 S6 O6 b6
    have x0 := X6.cell 0; have x1 := X6.cell 1; have x2 := X6.cell 2; have x3 := X6.cell 3; have x4 := X6.cell 4; have x5 := X6.cell 5; have x6 := X6.cell 6
    have S9 := (((((((S6.set 0 (.int .i64 who)).set 1 (.int .i64 rv)).set 2 (.int .i64 2)).set 3 (.int .i64 0)).set 4 (.int .i64 0)).set 5 (.slice a3 n c3)).set 6 (.slice a5 m c5))
    have s9 := fun i => S9.cell i
    have O9 := own7 (u0 := .int .i64 who) (u1 := .int .i64 rv) (u2 := .int .i64 2) (u3 := .int .i64 0) (u4 := .int .i64 0) (u5 := .slice a3 n c3) (u6 := .slice a5 m c5) O6 S6
    have b9 := (((((((b6.setCell (p := ⟨g, 0, none⟩) (show g ≤ g by omega) (.int .i64 who)).setCell (p := ⟨g, 1, none⟩) (show g ≤ g by omega) (.int .i64 rv)).setCell (p := ⟨g, 2, none⟩) (show g ≤ g by omega) (.int .i64 2)).setCell (p := ⟨g, 3, none⟩) (show g ≤ g by omega) (.int .i64 0)).setCell (p := ⟨g, 4, none⟩) (show g ≤ g by omega) (.int .i64 0)).setCell (p := ⟨g, 5, none⟩) (show g ≤ g by omega) (.slice a3 n c3)).setCell (p := ⟨g, 6, none⟩) (show g ≤ g by omega) (.slice a5 m c5))
    have s8 := fun i => S6.cell i; have g8 := fun i => S6.froz i
    clear X5 X6 S5 S6 O6 OC b6 bb5 hz
    go_wp2
    refine bodyPost_ret (v := .tuple #[.agg #[.int .i64 who, .int .i64 rv, .int .i64 2, .int .i64 0, .int .i64 0, .slice a3 n c3, .slice a5 m c5], .bool true]) (by simp [results, Try.results17, go_sem, s9]) rfl ?_
    exact ⟨_, _, _, _, rfl, O9, b9⟩
  · have hz' : ((n : Int) == 0) = false := by simp [hz]
    obtain rfl : ph = 1 := by rw [← HPH.out, if_neg hz]
    have ya := fun i => X5.cell i; have yf := fun i => X5.froz i
    have x0 := X5.cell 0; have x1 := X5.cell 1; have x2 := X5.cell 2; have x3 := X5.cell 3; have x4 := X5.cell 4; have x5 := X5.cell 5; have x6 := X5.cell 6
    have S9 := (((((((S5.set 0 (.int .i64 who)).set 1 (.int .i64 rv)).set 2 (.int .i64 1)).set 3 (.int .i64 0)).set 4 (.int .i64 0)).set 5 (.slice a3 n c3)).set 6 (.slice a5 m c5))
    have s9 := fun i => S9.cell i
    have O9 := own7 (u0 := .int .i64 who) (u1 := .int .i64 rv) (u2 := .int .i64 1) (u3 := .int .i64 0) (u4 := .int .i64 0) (u5 := .slice a3 n c3) (u6 := .slice a5 m c5) OC S5
    have b9 := (((((((bb5.setCell (p := ⟨g, 0, none⟩) (show g ≤ g by omega) (.int .i64 who)).setCell (p := ⟨g, 1, none⟩) (show g ≤ g by omega) (.int .i64 rv)).setCell (p := ⟨g, 2, none⟩) (show g ≤ g by omega) (.int .i64 1)).setCell (p := ⟨g, 3, none⟩) (show g ≤ g by omega) (.int .i64 0)).setCell (p := ⟨g, 4, none⟩) (show g ≤ g by omega) (.int .i64 0)).setCell (p := ⟨g, 5, none⟩) (show g ≤ g by omega) (.slice a3 n c3)).setCell (p := ⟨g, 6, none⟩) (show g ≤ g by omega) (.slice a5 m c5))
    have s8 := fun i => S5.cell i; have g8 := fun i => S5.froz i
    clear X5 S5 OC bb5 hz
    go_wp2
    refine bodyPost_ret (v := .tuple #[.agg #[.int .i64 who, .int .i64 rv, .int .i64 1, .int .i64 0, .int .i64 0, .slice a3 n c3, .slice a5 m c5], .bool true]) (by simp [results, Try.results17, go_sem, s9]) rfl ?_
    exact ⟨_, _, _, _, rfl, O9, b9⟩
end Commits
end Go.Proofs.Ytajbmokidcdfnaa
