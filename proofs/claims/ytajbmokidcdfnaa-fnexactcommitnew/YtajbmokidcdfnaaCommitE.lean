/- The laws' own copies, comparisons, sizes and marks of commits, written out. -/
import Derived.Test.YtajbmokidcdfnaaCommitLeftW
set_option linter.unusedVariables false
set_option linter.unusedSimpArgs false
namespace Go.Proofs.Ytajbmokidcdfnaa
open Go.RowKit
namespace Commits
open Bas Flat Logs
theorem toE (who rv ph at' wv : Int) (ps : List R2) (rs : List Int) (vP vR : Value) (B : Nat) (w : World) (hv : SeeC B w vP vR ps rs) (hB : B ≤ w.heap.size) (h1 : ps.length ≤ 1048576) (h2 : rs.length ≤ 1048576) :
    Calls Try.prog 11 #[.agg #[.int .i64 who, .int .i64 rv, .int .i64 ph, .int .i64 at', .int .i64 wv, vP, vR]] w fun e w' => ∃ a k a' k', e = .returned (.agg #[.int .i64 who, .int .i64 rv, .int .i64 ph, .int .i64 at', .int .i64 wv, .slice a ps.length k, .slice a' rs.length k']) ∧ OwnC w.heap.size w' (.slice a ps.length k) (.slice a' rs.length k') ps rs ∧ Below w.heap.size w w' := by
  refine (toCommitC ⟨who, rv, ph, at', wv, ps, rs⟩ vP vR B w hv hB ⟨h1, h2⟩).mono ?_
  rintro e w' ⟨u, v, rfl, O, b⟩
  obtain ⟨a, k, rfl⟩ := O.p.form
  obtain ⟨a', k', rfl⟩ := O.r.form
  exact ⟨a, k, a', k', rfl, O, b⟩
theorem eqE (who rv ph at' wv : Int) (ps : List R2) (rs : List Int) (vP vR vP' vR' : Value) (B : Nat) (w : World) (hv : SeeC B w vP vR ps rs) (hv' : SeeC B w vP' vR' ps rs) (hB : B ≤ w.heap.size) :
    Calls Try.prog 13 #[.agg #[.int .i64 who, .int .i64 rv, .int .i64 ph, .int .i64 at', .int .i64 wv, vP, vR], .agg #[.int .i64 who, .int .i64 rv, .int .i64 ph, .int .i64 at', .int .i64 wv, vP', vR']] w fun e w' => e = .returned (.bool true) ∧ Below w.heap.size w w' := eqCommitC ⟨who, rv, ph, at', wv, ps, rs⟩ vP vR vP' vR' B w hv hv' hB
theorem szE (who rv ph at' wv : Int) (ps : List R2) (rs : List Int) (vP vR : Value) (left : Int) (B : Nat) (w : World) (hv : SeeC B w vP vR ps rs) (h0 : 0 ≤ left) (h1 : left ≤ 1048576) :
    Calls Try.prog 9 #[.agg #[.int .i64 who, .int .i64 rv, .int .i64 ph, .int .i64 at', .int .i64 wv, vP, vR], .int .i64 left] w fun e w' => ∃ r, e = .returned (.int .i64 r) ∧ Left left r (ps.length ≤ 1048576 ∧ rs.length ≤ 1048576) ∧ Below w.heap.size w w' := szCommitC ⟨who, rv, ph, at', wv, ps, rs⟩ vP vR left B w hv h0 h1
theorem markE (who rv ph at' wv : Int) (ps : List R2) (rs : List Int) (vP vR : Value) (k : Int) (hk0 : 0 ≤ k) (hk1 : k ≤ 500000000) (B : Nat) (w : World) (hv : OwnC B w vP vR ps rs) (h1 : ps.length ≤ 1048576) (h2 : rs.length ≤ 1048576) :
    Calls Try.prog 20 #[.agg #[.int .i64 who, .int .i64 rv, .int .i64 ph, .int .i64 at', .int .i64 wv, vP, vR], .int .i64 k] w fun e w' => e = .returned (.int .i64 (k + 2 * (ps.length : Int) + (rs.length : Int))) ∧ OwnC B w' vP vR (marksR k ps.length) (Ints.marksK (k + 2 * (ps.length : Int)) rs.length) ∧ Chg (Two vP vR) w w' := markCommitC ⟨who, rv, ph, at', wv, ps, rs⟩ vP vR k hk0 hk1 B w hv ⟨h1, h2⟩
end Commits
end Go.Proofs.Ytajbmokidcdfnaa
