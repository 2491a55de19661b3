/- The laws' own marks in a history. -/
import Derived.Test.YtppikpdphcfomaaHistRow
set_option linter.unusedVariables false
set_option linter.unusedSimpArgs false
namespace Go.Proofs.Ytppikpdphcfomaa
open Go.RowKit
namespace Hist
open Bas Flat Logs

def markW : Int → List Nat → List Wr
  | _, [] => []
  | k, n :: r => ⟨k, k + 1, marksR (k + 2) n⟩ :: markW (k + 2 + 2 * (n : Int)) r
def endW : Int → List Nat → Int
  | k, [] => k
  | k, n :: r => endW (k + 2 + 2 * (n : Int)) r
theorem endW_eq : ∀ (l : List Nat) (k : Int), endW k l = k + 2 * (l.length : Int) + 2 * (l.sum : Int)
  | [], k => by simp [endW]
  | n :: r, k => by rw [endW, endW_eq r]; simp; omega
theorem markW_length : ∀ (l : List Nat) (k : Int), (markW k l).length = l.length
  | [], k => rfl
  | n :: r, k => by rw [markW, List.length_cons, markW_length r, List.length_cons]
theorem markW_snoc : ∀ (l : List Nat) (k : Int) (n : Nat), markW k (l ++ [n]) = markW k l ++ [⟨endW k l, endW k l + 1, marksR (endW k l + 2) n⟩]
  | [], k, n => rfl
  | m :: r, k, n => by rw [List.cons_append, markW, markW, markW_snoc r, endW]; rfl
theorem endW_snoc : ∀ (l : List Nat) (k : Int) (n : Nat), endW k (l ++ [n]) = endW k l + 2 + 2 * (n : Int)
  | [], k, n => rfl
  | m :: r, k, n => by rw [List.cons_append, endW, endW_snoc r, endW]
def lensW (ls : List Wr) : List Nat := ls.map (fun e => e.ps.length)
theorem lensW_length (ls : List Wr) : (lensW ls).length = ls.length := by simp [lensW]
/-- the first i entries are marked -/
def mixW (k0 : Int) (ls : List Wr) (i : Nat) : List Wr := markW k0 ((lensW ls).take i) ++ ls.drop i
theorem mixW_zero (k0 : Int) (ls : List Wr) : mixW k0 ls 0 = ls := rfl
theorem mixW_full (k0 : Int) (ls : List Wr) : mixW k0 ls ls.length = markW k0 (lensW ls) := by
  unfold mixW; rw [← lensW_length ls, List.take_length, lensW_length, List.drop_length, List.append_nil]
theorem mixW_at {k0 : Int} {ls : List Wr} {i : Nat} (h : i < ls.length) (h' : i < (mixW k0 ls i).length) : (mixW k0 ls i)[i] = ls[i] := by
  have hl : (markW k0 ((lensW ls).take i)).length = i := by rw [markW_length, List.length_take, lensW_length]; omega
  have e : (mixW k0 ls i)[i]? = some ls[i] := by
    unfold mixW
    rw [List.getElem?_append_right (by omega), hl, Nat.sub_self, List.getElem?_drop]
    simp [h]
  rw [List.getElem?_eq_getElem h'] at e
  exact Option.some.inj e
theorem mixW_length {k0 : Int} {ls : List Wr} {i : Nat} (h : i ≤ ls.length) : (mixW k0 ls i).length = ls.length := by
  unfold mixW; rw [List.length_append, markW_length, List.length_take, lensW_length, List.length_drop]; omega
theorem mixW_set {k0 : Int} {ls : List Wr} {i : Nat} (h : i < ls.length) {k : Int} (hk : k = endW k0 ((lensW ls).take i)) : (mixW k0 ls i).set i ⟨k, k + 1, marksR (k + 2) ls[i].ps.length⟩ = mixW k0 ls (i + 1) := by
  have hl : (markW k0 ((lensW ls).take i)).length = i := by rw [markW_length, List.length_take, lensW_length]; omega
  unfold mixW
  rw [List.set_append_right _ _ (by omega), hl, Nat.sub_self, List.drop_eq_getElem_cons h, List.set_cons_zero, List.take_succ_eq_append_getElem (by rw [lensW_length]; exact h), markW_snoc, List.append_assoc]
  have e : (lensW ls)[i]'(by rw [lensW_length]; exact h) = ls[i].ps.length := by simp [lensW]
  rw [e, ← hk]; rfl
theorem endW_step {k0 : Int} {ls : List Wr} {i : Nat} (h : i < ls.length) : endW k0 ((lensW ls).take (i + 1)) = endW k0 ((lensW ls).take i) + 2 + 2 * (ls[i].ps.length : Int) := by
  rw [List.take_succ_eq_append_getElem (by rw [lensW_length]; exact h), endW_snoc]
  simp [lensW]
theorem endW_le {k0 : Int} {ls : List Wr} (i : Nat) : endW k0 ((lensW ls).take i) ≤ k0 + 2 * (total ls : Int) ∧ k0 ≤ endW k0 ((lensW ls).take i) := by
  rw [endW_eq]
  have h1 := sum_take_le (lensW ls) i
  have h2 : ((lensW ls).take i).length ≤ ls.length := by rw [List.length_take, lensW_length]; omega
  have h3 : total ls = ls.length + (lensW ls).sum := rfl
  omega
/-- an entry is marked, and its rows with it -/
theorem OwnX.put {lo hi : Nat} {w w3 : World} {q n cap i : Nat} {xs : List Wx} {k k' : Int} {ps : List R2} (h : OwnX lo hi w (.slice (some ⟨q, 0, none⟩) n cap) xs) (hn : xs.length = n) (hi' : i < xs.length)
    (hm : Owns2 lo w3 xs[i].sl ps) (hg : ((w.setCell ⟨q, i * 3, none⟩ (.int .i64 k)).setCell ⟨q, i * 3 + 1, none⟩ (.int .i64 k')).grownBy w3 xs[i].sl.ownBlock) :
    OwnX lo hi w3 (.slice (some ⟨q, 0, none⟩) n cap) (xs.set i ⟨k, k', xs[i].a, xs[i].n, xs[i].cap, ps⟩) := by
  obtain ⟨x, hx⟩ : ∃ x, xs[i] = x := ⟨_, rfl⟩
  rw [hx] at hm hg ⊢
  have hmem : x ∈ xs := by rw [← hx]; exact List.getElem_mem hi'
  have hr := h.row
  unfold Owns at hr
  rw [hn] at hr
  have hcur := own_blk h.row q rfl
  have hne : ∀ y ∈ xs, ∀ b, y.sl.ownBlock = some b → b ≠ q := fun y hy b hb e => by
    subst e
    exact own_apt h.row (h.each y hy).1 (by decide) b rfl hb.symm
  have r0 := own_set (E := wxEl) hr i hi' 0 (by decide) (.int .i64 k) ⟨k, x.who, x.a, x.n, x.cap, []⟩ (by rw [hx]; rfl)
  have r1 := own_set (E := wxEl) r0 i (by simp; exact hi') 1 (by decide) (.int .i64 k') ⟨k, k', x.a, x.n, x.cap, ps⟩ (by simp; rfl)
  simp only [List.set_set] at r1
  change ((w.setCell ⟨q, i * 3, none⟩ _).setCell ⟨q, i * 3 + 1, none⟩ _).ownsRow _ _ _ _ _ _ at r1
  have r2 : Owns wxEl 33 lo ((w.setCell ⟨q, i * 3, none⟩ (.int .i64 k)).setCell ⟨q, i * 3 + 1, none⟩ (.int .i64 k')) (.slice (some ⟨q, 0, none⟩) n cap) (xs.set i ⟨k, k', x.a, x.n, x.cap, ps⟩) := by
    unfold Owns; rw [List.length_set, hn]; exact r1
  have hsl : (xs.set i ⟨k, k', x.a, x.n, x.cap, ps⟩).map Wx.sl = xs.map Wx.sl := by
    rw [List.map_set]
    apply List.ext_getElem (by simp)
    intro j h1 h2
    rw [List.getElem_set]
    split
    · rename_i e; subst e; rw [List.getElem_map, hx]; rfl
    · rfl
  refine ⟨r2.grown hg (fun b hb e => ?_), h.top, fun y hy => ?_, by rw [hsl]; exact h.dis⟩
  · cases hb
    exact hne x hmem _ e.symm rfl
  · obtain ⟨j, hj, rfl⟩ := List.mem_iff_getElem.1 hy
    have hj' : j < xs.length := by simpa using hj
    by_cases hji : i = j
    · subst hji
      rw [List.getElem_set_self]
      exact ⟨hm, fun b hb => (h.each x hmem).2 b hb⟩
    · rw [List.getElem_set_ne hji]
      have hjm := List.getElem_mem hj'
      refine ⟨((((h.each _ hjm).1.other (hne _ hjm) _).other (hne _ hjm) _).grown hg fun b hb e => ?_), (h.each _ hjm).2⟩
      have hd := List.pairwise_iff_getElem.1 h.dis
      rcases Nat.lt_or_gt_of_ne hji with hlt | hlt
      · have := hd i j (by simpa using hi') (by simpa using hj') hlt b
        rw [List.getElem_map, List.getElem_map, hx] at this
        exact this e.symm hb
      · have := hd j i (by simpa using hj') (by simpa using hi') hlt b
        rw [List.getElem_map, List.getElem_map, hx] at this
        exact this hb e.symm

set_option maxRecDepth 100000 in
set_option maxHeartbeats 6400000 in
theorem markWrotesC (v : Value) (ls : List Wr) (k0 : Int) (lo hi : Nat) (w : World) (hv : OwnW lo hi w v ls) (h0 : 0 ≤ k0) (h1 : k0 ≤ 900000000) (hlen : total ls ≤ 1048576) :
    Calls Try.prog 26 #[v, .int .i64 k0] w fun e w' => e = .returned (.int .i64 (endW k0 (lensW ls))) ∧ OwnW lo hi w' v (markW k0 (lensW ls)) ∧ ChgIn lo hi w w' := by
  have hln : ls.length ≤ 1048576 := by unfold total at hlen; omega
  have HLN : Hid (∀ i (h : i < ls.length), ls[i].ps.length ≤ 1048576) := fun i h => Nat.le_trans (total_at h) hlen
  have HE : Hid (∀ i, endW k0 ((lensW ls).take i) ≤ 1000000000 - 1000 ∧ 0 ≤ endW k0 ((lensW ls).take i)) := fun i => by have := endW_le (k0 := k0) (ls := ls) i; omega
  obtain ⟨a, cap, rfl⟩ := hv.form
  obtain ⟨n, hn⟩ : ∃ n, ls.length = n := ⟨_, rfl⟩
  have HN := (show Hid _ from hn)
  rw [hn] at hv hln ⊢
  have hC := ChgIn.refl lo hi w
  have hst : OwnW lo hi w (.slice a n cap) (mixW k0 ls 0) := by rw [mixW_zero]; exact hv
  clear hv hn
  go_enter Try.func26, Try.ntmps26
  go_wp2
  go_loopw [1, 5] (fun kv iv wr => ∃ (i : Nat) (k : Int), i ≤ n ∧ kv = .int .i64 k ∧ Hid (k = endW k0 ((lensW ls).take i)) ∧ iv = .int .i64 i ∧ OwnW lo hi wr (.slice a n cap) (mixW k0 ls i) ∧ ChgIn lo hi w wr) (fun _ iv _ => n - (intOf iv).toNat)
  case atStart => exact ⟨0, k0, Nat.zero_le _, rfl, rfl, rfl, hst, hC⟩
  case round =>
    obtain ⟨i, k, hi', rfl, HK, rfl, hO, hCh⟩ := hrel
    clear hst hC
    by_cases hlt : i < n
    · have hil : i < ls.length := by have := HN.out; omega
      obtain ⟨xs, X, hxm⟩ := hO
      have hxl : xs.length = n := by rw [← List.length_map (f := Wx.wr), hxm, mixW_length (by omega), HN.out]
      have hix : i < xs.length := by omega
      have hwr : xs[i].wr = ls[i] := by
        have h1 : (xs.map Wx.wr)[i]'(by simpa using hix) = (mixW k0 ls i)[i]'(by rw [mixW_length (by omega)]; exact hil) := by simp only [hxm]
        rw [mixW_at hil, List.getElem_map] at h1
        exact h1
      obtain ⟨q, off, eq, hqB, hqc⟩ := X.row.sees.open (by omega)
      subst eq
      have hoff : off = 0 := by
        rcases X.row.2 with ⟨h', _⟩ | ⟨g', cap', cur, h', _⟩
        · cases h'
        · simp only [Value.slice.injEq, Option.some.injEq, Addr.mk.injEq] at h'; omega
      subst hoff
      have hr := X.row
      unfold Owns at hr
      rw [hxl] at hr
      obtain ⟨c0, c1, c2⟩ := at3 (own_at (E := wxEl) hr i hix)
      have hfz := fun j => hr.frozenAt j
      have hin := X.each xs[i] (List.getElem_mem hix)
      have hqt := X.top q rfl
      have hql := (X.row.at q rfl).1
      have hpl : xs[i].ps.length = ls[i].ps.length := by rw [← hwr]; rfl
      have hpp : xs[i].ps.length ≤ 1048576 := by rw [hpl]; exact HLN.out i hil
      have hsn : xs[i].n = xs[i].ps.length := by
        obtain ⟨a', c', e⟩ := hin.1.form
        unfold Wx.sl at e
        simp only [Value.slice.injEq] at e; exact e.2.1
      have HPUT := (show Hid _ from fun (k k' : Int) (w3 : World) (ps : List R2) hm hg => OwnX.put (k := k) (k' := k') (w3 := w3) (ps := ps) X hxl hix hm hg)
      have HXM := (show Hid (xs.map Wx.wr = mixW k0 ls i) from hxm)
      have hne : ∀ b, xs[i].sl.ownBlock = some b → b ≠ q := fun b hb e => by
        subst e
        exact own_apt X.row hin.1 (by decide) b rfl hb.symm
      have hk1 := HE.out i
      rw [← HK.out] at hk1
      obtain ⟨hk1, hk2⟩ := hk1
      have HST : Hid (endW k0 ((lensW ls).take (i + 1)) = k + 2 + 2 * (xs[i].ps.length : Int)) := by show _ = _; rw [endW_step hil, ← HK.out, hpl]
      have HSET : Hid ((mixW k0 ls i).set i ⟨k, k + 1, marksR (k + 2) xs[i].ps.length⟩ = mixW k0 ls (i + 1)) := by rw [hpl]; exact mixW_set hil HK.out
      obtain ⟨x, hx⟩ : ∃ x, xs[i] = x := ⟨_, rfl⟩
      rw [hx] at c0 c1 c2 hin hpp hsn hne HST HSET HPUT
      change wr.cell? ⟨q, i * 3, none⟩ = _ at c0
      change wr.cell? ⟨q, i * 3 + 1, none⟩ = _ at c1
      change wr.cell? ⟨q, i * 3 + 2, none⟩ = _ at c2
      obtain ⟨kn, hkn⟩ : ∃ kn, k + 2 + 2 * (x.ps.length : Int) = kn := ⟨_, rfl⟩
      rw [hkn] at HST
      have cM := markRowsC x.sl x.ps (k + 2) lo ((wr.setCell ⟨q, i * 3, none⟩ (.int .i64 k)).setCell ⟨q, i * 3 + 1, none⟩ (.int .i64 (k + 1))) ((hin.1.other hne _).other hne _) (by omega) (by omega) hpp
      rw [hkn] at cM
      have eS : x.sl = .slice x.a x.n x.cap := rfl
      rw [eS] at cM
      have e2 : k + 1 + 1 = k + 2 := by omega
      have i1 : (i : Int) < n := by omega
      have i2 : (0 : Int) ≤ i := by omega
      have hC2 : ChgIn lo hi w ((wr.setCell ⟨q, i * 3, none⟩ (.int .i64 k)).setCell ⟨q, i * 3 + 1, none⟩ (.int .i64 (k + 1))) := (hCh.set hql hqt _ _).set hql hqt _ _
      have hat := fun b hb => (⟨(hin.1.at b hb).1, hin.2 b hb⟩ : lo ≤ b ∧ b < hi)
      have HAT := (show Hid _ from hat)
      clear hr hqc hqB hwr hpl hx hkn eS hsn hin hne X hxm hat hpp
      go_wp2_with fail
      refine cM.mono ?_
      rintro e w2 ⟨rfl, M2, G2⟩
      have X2 := HPUT.out k (k + 1) w2 (marksR (k + 2) x.ps.length) M2 G2
      have hO2 : OwnW lo hi w2 (.slice (some ⟨q, 0, none⟩) n cap) (mixW k0 ls (i + 1)) := ⟨_, X2, by rw [List.map_set, HXM.out, ← HSET.out]; rfl⟩
      have hC3 := hC2.trans (ChgIn.grown G2 HAT.out)
      clear cM M2 G2 X2 hC2
      go_wp2
      go_roundw
      case rel => exact ⟨i + 1, kn, by omega, rfl, HST.out.symm, by go_num, hO2, hC3⟩
      case measure => simp [intOf]; omega
    · obtain rfl : i = n := by omega
      have i1 : ¬ (i : Int) < i := by omega
      have HF : Hid (k = endW k0 (lensW ls)) := by show _ = _; rw [HK.out, List.take_of_length_le (by rw [lensW_length]; have := HN.out; omega)]
      rw [← HN.out, mixW_full, HN.out] at hO
      clear HK
      go_wp2
      go_ret
      exact ⟨ret_k HF.out, hO, hCh⟩
end Hist
end Go.Proofs.Ytppikpdphcfomaa
