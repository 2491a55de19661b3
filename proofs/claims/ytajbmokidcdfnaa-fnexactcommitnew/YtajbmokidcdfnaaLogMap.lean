/- The last rows in a map: what it tells, and what lastRows answers. -/
import Derived.Test.YtajbmokidcdfnaaLogImpl
import Derived.Maps.RangeWalk
import Derived.Maps.Ext
import Derived.Maps.OwnSet
set_option linter.unusedVariables false
set_option linter.unusedSimpArgs false
namespace Go.Proofs.Ytajbmokidcdfnaa
open Go.RowKit Go.Maps
namespace Logs
open Bas Flat

def rowD (x : R2) : DataW Unit := .agg [.lit (.int .i64 x.c), .lit (.int .i64 x.v)]
theorem rowD_inj {x y : R2} (h : rowD x = rowD y) : x = y := by
  unfold rowD at h
  simp at h
  exact R2.ext' h.1 h.2
/-- how a row in the map reads -/
def rowElem : Value → Option (DataW Unit × List MemPlace)
  | .agg a => match a.toList with
    | [.int .i64 c, .int .i64 v] => some (rowD ⟨c, v⟩, [])
    | _ => none
  | _ => none
theorem rowElem_mk (x : R2) : rowElem (.agg #[.int .i64 x.c, .int .i64 x.v]) = some (rowD x, []) := rfl
theorem rowElem_inv {v : Value} {y : DataW Unit × List MemPlace} (h : rowElem v = some y) : ∃ x : R2, v = .agg #[.int .i64 x.c, .int .i64 x.v] ∧ y = (rowD x, []) := by
  unfold rowElem at h
  split at h
  · rename_i a
    split at h
    · rename_i c u he
      exact ⟨⟨c, u⟩, by rw [← Array.toArray_toList (xs := a), he], by simpa using h.symm⟩
    · cases h
  · cases h
theorem lawC : Keyed Try.prog 3 := int_keyed Try.underlying3

/-- the map of the last rows -/
def mapD (xs : List R2) : DataW Unit := xs.foldl (fun D x => D.put (.int .i64 x.c) (rowD x)) (.map [])
theorem mapD_snoc (xs : List R2) (x : R2) : mapD (xs ++ [x]) = (mapD xs).put (.int .i64 x.c) (rowD x) := by simp [mapD]
theorem mapD_take (xs : List R2) (k : Nat) (h : k < xs.length) : mapD (xs.take (k + 1)) = (mapD (xs.take k)).put (.int .i64 xs[k].c) (rowD xs[k]) := by
  rw [List.take_succ_eq_append_getElem h, mapD_snoc]
theorem snoc_ind {α : Type} {P : List α → Prop} (h0 : P []) (hs : ∀ xs x, P xs → P (xs ++ [x])) : ∀ xs, P xs := by
  have h : ∀ l : List α, P l.reverse := by
    intro l
    induction l with
    | nil => exact h0
    | cons x r ih => rw [List.reverse_cons]; exact hs _ _ ih
  intro xs
  have := h xs.reverse
  rwa [List.reverse_reverse] at this
theorem mapD_isMap (xs : List R2) : IsMap (mapD xs) := snoc_ind (P := fun xs => IsMap (mapD xs)) ⟨[], rfl⟩ (fun xs x h => by rw [mapD_snoc]; exact h.put _ _) xs
theorem mapD_has (xs : List R2) (c : Int) : Maps.has (mapD xs) (.int .i64 c) = (lastV xs c).isSome := by
  refine snoc_ind (P := fun xs => Maps.has (mapD xs) (.int .i64 c) = (lastV xs c).isSome) rfl (fun xs x h => ?_) xs
  rw [mapD_snoc, lastV_snoc]
  by_cases hc : x.c = c
  · rw [if_pos hc, hc, has_put_same (mapD_isMap xs) (show WideAt.IsKeyLit (.int .i64 c) from trivial)]; rfl
  · rw [if_neg hc, has_put_other (fun e => hc (by simpa using e.symm))]; exact h
theorem mapD_at (xs : List R2) (c v : Int) (z : DataW Unit) (h : lastV xs c = some v) : (mapD xs).atKey (.int .i64 c) z = rowD ⟨c, v⟩ := by
  revert h
  refine snoc_ind (P := fun xs => lastV xs c = some v → (mapD xs).atKey (.int .i64 c) z = rowD ⟨c, v⟩) (fun h => by cases h) (fun xs x ih h => ?_) xs
  rw [lastV_snoc] at h
  rw [mapD_snoc]
  by_cases hc : x.c = c
  · rw [if_pos hc] at h
    rw [hc, atKey_put_same (mapD_isMap xs) (show WideAt.IsKeyLit (.int .i64 c) from trivial)]
    congr 1
    exact R2.ext' hc (by simpa using h)
  · rw [if_neg hc] at h
    rw [atKey_put_other (fun e => hc (by simpa using e.symm))]; exact ih h

theorem wf7 {c : Int} (h0 : 0 ≤ c) (h1 : c ≤ 7) : (Lit.int .i64 c).wf = true := by
  simp [Lit.wf, IntKind.min, IntKind.max, IntKind.signed, IntKind.bits]
  omega

set_option maxRecDepth 100000 in
set_option maxHeartbeats 3200000 in
theorem lastRowsC (v : Value) (xs : List R2) (B : Nat) (w : World) (hv : Sees2 B w v xs) (hB : B ≤ w.heap.size) (hok : rowsOk xs = true) :
    Calls Try.prog 107 #[v] w fun e w' => e = .returned (.map (some w.heap.size)) ∧ w'.ownsMap Try.prog 3 rowElem w.heap.size xs.length (mapD xs) ∧ Below w.heap.size w w' := by
  obtain ⟨a, cap, rfl⟩ := hv.form
  have h3 := rowsOk_out hok
  have HA := (show Hid _ from (fun x (hx : x ∈ xs) => rowsOk_at hok hx))
  obtain ⟨n, hn⟩ : ∃ n, xs.length = n := ⟨_, rfl⟩
  rw [hn] at hv h3 ⊢
  obtain ⟨g, hg⟩ : ∃ g, w.heap.size = g := ⟨_, rfl⟩
  have o0 := World.ownsMap_made w Try.prog 3 rowElem
  have b0 := alloc_below w (.map #[] 0)
  rw [hg] at o0 b0 hB ⊢
  have hnI : (n : Int) ≤ 300 := by omega
  have hmm := @run_makeMap Try.prog
  clear hok
  go_enter Try.func107, Try.ntmps107
  go_wp2
  go_loopw [9] (fun iv wr => ∃ k : Nat, k ≤ n ∧ iv = .int .i64 k ∧ wr.ownsMap Try.prog 3 rowElem g k (mapD (xs.take k)) ∧ Below g w wr) (fun iv _ => n - (intOf iv).toNat)
  case atStart => exact ⟨0, Nat.zero_le _, rfl, o0, b0⟩
  case round =>
    obtain ⟨k, hk, rfl, hO, hb⟩ := hrel
    clear o0 b0
    have hsz : g ≤ wr.heap.size := by have := hb.size; omega
    by_cases hlt : k < n
    · have hkx : k < xs.length := by omega
      obtain ⟨b, off, rfl, hbB, hc⟩ := (hv.on hb hB).open (by omega)
      obtain ⟨e0, e1⟩ := at2 (hc k hkx)
      have HP : Hid (mapD (xs.take (k + 1)) = (mapD (xs.take k)).put (.int .i64 xs[k].c) (rowD xs[k])) := mapD_take xs k hkx
      obtain ⟨r0, r1, r2, r3⟩ := HA.out xs[k] (List.getElem_mem hkx)
      obtain ⟨x, hx⟩ : ∃ x, xs[k] = x := ⟨_, rfl⟩
      rw [hx] at e0 e1 HP r0 r1 r2 r3
      change wr.cell? ⟨b, off + k * 2, none⟩ = _ at e0
      change wr.cell? ⟨b, off + k * 2 + 1, none⟩ = _ at e1
      have i1 : (k : Int) < n := by omega
      have X0 := Blk.new wr #[.int .i64 x.c, .int .i64 x.v] 88
      have x0 := X0.cell 0; have x1 := X0.cell 1
      have bA := alloc_below wr (.cells #[.int .i64 x.c, .int .i64 x.v] 88)
      have bb := hb.trans (bA.mono hsz)
      obtain ⟨w2, hr2, o2, g2⟩ := (hO.alloc (.cells #[.int .i64 x.c, .int .i64 x.v] 88)).update lawC Try.underlying131 (by unfold maxLen; omega) (keyOf_int_mk Try.underlying3 (wf7 r0 r1)) (rowElem_mk x)
      rw [← HP.out] at o2
      have b2 := bb.grown g2 (Nat.le_trans hsz bA.size) (fun q hq => by cases hq; exact Nat.le_refl _)
      clear hc hx hO HP X0 r0 r1 r2 r3
      go_wp2
      clear hr2
      go_roundw
      case rel => exact ⟨k + 1, by omega, by go_num, o2, b2⟩
      case measure => simp [intOf]; omega
    · obtain rfl : k = n := by omega
      have i1 : ¬ (k : Int) < k := by omega
      have hT : xs.take k = xs := List.take_of_length_le (by omega)
      rw [hT] at hO
      clear hT
      go_wp2
      go_ret
      exact ⟨rfl, hO, hb⟩
end Logs
end Go.Proofs.Ytajbmokidcdfnaa
