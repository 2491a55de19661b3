/- What the program's LastWriter answers. -/
import Derived.Test.YtppikpdphcfomaaHistBack
import Derived.Test.YtppikpdphcfomaaHistL2
import Derived.Test.YtppikpdphcfomaaLogLast
set_option linter.unusedVariables false
set_option linter.unusedSimpArgs false
namespace Go.Proofs.Ytppikpdphcfomaa
open Go.RowKit Go.Shelf
namespace Hist
open Bas Flat Logs

attribute [local go_sem] Oper.semAt_some

theorem below_keeps {B n : Nat} {W W' : World} (h : Below n W W') (hn : W.heap.size ≤ n) : KeepsFrom B W W' :=
  ⟨h.size, fun k o _ hk _ => (h.block k (by have := (Array.getElem?_eq_some_iff.1 hk).1; omega)).trans hk⟩
theorem lastW_turned {ls : List Wr} {c n r : Int} (h : IsLw (turned ls) c n r) : r = lastW ls c n := by
  cases hh : histOk ls
  · rw [turned_no hh] at h
    rw [lastW_no hh]
    rcases h.is with ⟨h1, -⟩ | ⟨e, he, -⟩
    · exact h1
    · cases he
  · rw [turned_yes hh] at h
    exact lw_turn hh h
theorem turned_lt (ls : List Wr) : (turned ls).Pairwise (fun a b => a.s < b.s) := by
  cases hh : histOk ls
  · rw [turned_no hh]; exact List.Pairwise.nil
  · rw [turned_yes hh]; exact turn_lt hh
theorem turned_rows {ls : List Wr} {e : Wr} (he : e ∈ turned ls) : rowsOk e.ps = true := by
  cases hh : histOk ls
  · rw [turned_no hh] at he; cases he
  · rw [turned_yes hh] at he
    exact (entOk_out ((histOk_iff.1 hh).2.1 e ((turn_perm ls).mem_iff.1 he))).2.2
theorem down_snoc {n k last : Nat} {ini : List Nat} (hk : k ≤ n) (h : downW n k = ini ++ [last]) : last < n ∧ ∀ i, i < n → last < i → i ∈ ini := by
  cases k with
  | zero => rw [downW_zero] at h; simp at h
  | succ k =>
    rw [downW_succ] at h
    obtain ⟨e1, e2⟩ := List.append_inj' h rfl
    have e3 : n - 1 - k = last := by simpa using e2
    refine ⟨by omega, fun i hi hl => ?_⟩
    rw [← e1]
    exact List.mem_map.2 ⟨n - 1 - i, List.mem_range.2 (by omega), by omega⟩
theorem down_all {n i : Nat} (hi : i < n) : i ∈ downW n n := List.mem_map.2 ⟨n - 1 - i, List.mem_range.2 (by omega), by omega⟩

set_option maxRecDepth 100000 in
set_option maxHeartbeats 4000000 in
theorem lastWIn (F : Fence) (n : Nat) (h13 : F.fn 13) (h41 : F.fn 41) (h47 : F.fn 47) (h47b : F.fn 80) (h48 : F.fn 48) (hro : F.round = none) (hn : 12 ≤ n)
    (a : Option Addr) (len cap : Nat) (ls : List Wr) (c nn : Int) (w : World)
    (hT : ∀ W, Below w.heap.size w W → CallsIn F (n - 1) Try.prog 41 #[.slice a len cap] W fun e w' => ∃ v', e = .returned (.tuple #[v', .bool (histOk ls)]) ∧ SeesW w'.heap.size w' v' (turned ls) ∧ Below W.heap.size W w')
    (hL : ∀ W p m k ps, Sees2 W.heap.size W (.slice p m k) ps → CallsIn F (n - 1 - 1 - 1) Try.prog 48 #[.slice p m k, .int .i64 c] W fun e w' => e = .returned (.tuple #[.int .i64 ((lastOf ps c).getD 0), .bool (lastOf ps c).isSome]) ∧ Below W.heap.size W w') :
    CallsIn F n Try.prog 13 #[.slice a len cap, .int .i64 c, .int .i64 nn] w fun e w' => e = .returned (.int .i64 (lastW ls c nn)) ∧ Below w.heap.size w w' := by
  have h1 : 1 ≤ n := by omega
  obtain ⟨g, hg⟩ : ∃ g, w.heap.size = g := ⟨_, rfl⟩
  have B0 := ((Boxed.new w 3 (.int .i64 c)).alloc (.cells #[.int .i64 nn] 3)).alloc (.cells #[.int .i64 0] 3)
  have B1 := (Boxed.new (w.alloc (.cells #[.int .i64 c] 3)) 3 (.int .i64 nn)).alloc (.cells #[.int .i64 0] 3)
  have B2 := Boxed.new ((w.alloc (.cells #[.int .i64 c] 3)).alloc (.cells #[.int .i64 nn] 3)) 3 (.int .i64 0)
  simp only [World.size_alloc] at B1 B2
  have hb0 : Below w.heap.size w (((w.alloc (.cells #[.int .i64 c] 3)).alloc (.cells #[.int .i64 nn] 3)).alloc (.cells #[.int .i64 0] 3)) := (((Below.refl _ w).alloc (Nat.le_refl _) _).alloc (by simp) _).alloc (by simp; omega) _
  have hsz : (((w.alloc (.cells #[.int .i64 c] 3)).alloc (.cells #[.int .i64 nn] 3)).alloc (.cells #[.int .i64 0] 3)).heap.size = w.heap.size + 3 := by simp
  have cO := hT _ hb0
  refine callsIn_of_wp_marks Try.func13 rfl h13 ?_ hro
  simp only [Try.ntmps13, List.size_toArray, List.length_cons, List.length_nil, Nat.reduceAdd, Nat.reduceSub, Array.replicate_succ, Array.replicate_zero, List.push_toArray, List.append_toArray, List.nil_append, List.cons_append]
  gi_wp2_with (gi_at_call 41; refine cO.mono ?_; rintro e w1 ⟨v1, rfl, V1, b1⟩)
  obtain ⟨xs, S1, H1, hTm⟩ := V1
  obtain ⟨a1, c1, rfl⟩ := S1.form
  obtain ⟨N, hN⟩ : ∃ N, xs.length = N := ⟨_, rfl⟩
  have hN2 : N ≤ 200 := by rw [← hN, ← List.length_map (f := Wx.wr), hTm]; exact turned_len ls
  rw [hN] at S1 ⊢
  obtain ⟨okb, hokb⟩ : ∃ b, histOk ls = b := ⟨_, rfl⟩
  rw [hokb]
  gi_wp2_with (gi_at_call 47; refine (backW_in F (n - 1) h47 hro _ _ _ _).mono ?_; rintro e w2 ⟨rfl, rfl⟩)
  obtain ⟨W3, hW3⟩ : ∃ W3, ((w.alloc (.cells #[.int .i64 c] 3)).alloc (.cells #[.int .i64 nn] 3)).alloc (.cells #[.int .i64 0] 3) = W3 := ⟨_, rfl⟩
  rw [hW3] at B0 B1 B2 hb0 hsz b1
  have bb1 := hb0.trans (b1.mono (by omega))
  have C0 := (boxed_on B0 b1 (by omega)).alloc (.cells #[.slice a1 N c1] 25)
  have C1 := (boxed_on B1 b1 (by omega)).alloc (.cells #[.slice a1 N c1] 25)
  have C2 := (boxed_on B2 b1 (by omega)).alloc (.cells #[.slice a1 N c1] 25)
  have C3 := Boxed.new w1 25 (.slice a1 N c1)
  have hs1 : w.heap.size + 3 ≤ w1.heap.size := by have := b1.size; omega
  have bA := alloc_below w1 (.cells #[.slice a1 N c1] 25)
  have bb2 := bb1.alloc (Nat.le_trans (Nat.le_add_right _ 3) hs1) (.cells #[.slice a1 N c1] 25)
  have hz0 : (w1.alloc (.cells #[.slice a1 N c1] 25)).heap.size = w1.heap.size + 1 := by simp
  have S2 : Sees wxEl (w1.heap.size + 1) (w1.alloc (.cells #[.slice a1 N c1] 25)) (.slice a1 N c1) xs := (S1.on bA (Nat.le_refl _)).up (by omega)
  have H2 : ∀ x ∈ xs, Sees2 (w1.heap.size + 1) (w1.alloc (.cells #[.slice a1 N c1] 25)) x.sl x.ps := fun x hx => ((H1 x hx).on bA (Nat.le_refl _)).up (by omega)
  obtain ⟨W0, hW0⟩ : ∃ W0, w1.alloc (.cells #[.slice a1 N c1] 25) = W0 := ⟨_, rfl⟩
  rw [hW0] at C0 C1 C2 C3 bb2 hz0 S2 H2 ⊢
  rw [← hz0] at S2 H2
  obtain ⟨q, hq⟩ : ∃ q, w1.heap.size = q := ⟨_, rfl⟩
  rw [hq] at hs1 C3 hz0 ⊢
  have H3 : Hid (∀ j, Sees2 W0.heap.size W0 (xs.getD j zx).sl (xs.getD j zx).ps) := fun j => by
    by_cases h : j < xs.length
    · have e : xs.getD j zx = xs[j] := by simp [List.getD, h]
      rw [e]; exact H2 _ (List.getElem_mem h)
    · have e : xs.getD j zx = zx := by simp [List.getD, h]
      rw [e]; exact ⟨none, 0, rfl, by simp [zx], by simp, fun h => absurd rfl h⟩
  have HR : Hid (∀ j, rowsOk (xs.getD j zx).ps = true) := fun j => by
    by_cases h : j < xs.length
    · have e : xs.getD j zx = xs[j] := by simp [List.getD, h]
      rw [e]
      have : xs[j].wr ∈ turned ls := by rw [← hTm]; exact List.mem_map.2 ⟨_, List.getElem_mem h, rfl⟩
      exact turned_rows (e := xs[j].wr) this
    · have e : xs.getD j zx = zx := by simp [List.getD, h]
      rw [e]; rfl
  have HTM := (show Hid (xs.map Wx.wr = turned ls) from hTm)
  have HNN := (show Hid (xs.length = N) from hN)
  clear hW0 hW3 B0 B1 B2 b1 bb1 hb0 hsz cO hT hq S1 H1 H2 hTm hN hokb bA
  rw [hg] at C0 C1 C2 bb2 hs1
  have hgw : g ≤ w.heap.size := by omega
  have HG := (show Hid _ from hg)
  clear hg
  refine wpIn_rangeFunc_ownH hro h1 (gf := 80) (lb := #[.pointer (some ⟨q, 0, none⟩)]) rfl h47b (enters_of Try.func80 (by kernel_rfl) rfl)
    (backW_stops F (n - 1) h47b hro (by omega) q W0.heap.size a1 N c1 xs HNN.out (by omega) W0 (by omega) (Nat.le_refl _) C3.cell S2) belowK_t (belowK_b (Nat.le_refl _)) (Below.refl _ _) (fun _ => rfl)
    (fun pre W => (∀ y ∈ pre, hit c nn (xs.getD y zx).wr = false) ∧ Below W0.heap.size W0 W)
    (fun k pre W => (k = .ret ∧ ∃ ini last, pre = ini ++ [last] ∧ (∀ p ∈ ini, hit c nn (xs.getD p zx).wr = false) ∧ hit c nn (xs.getD last zx).wr = true ∧ Boxed W (g + 1 + 1) 3 (.int .i64 (xs.getD last zx).s)) ∧ Below g w W)
    (OwnFrom.and (ownFrom_pure _ _) (ownFrom_below (Nat.le_refl _) (Nat.le_refl _)))
    (fun k => OwnFrom.and (fun s X Y row hs hg' hr => by obtain ⟨e0, ini, last, e1, e2, e3, e4⟩ := hs; exact ⟨e0, ini, last, e1, e2, e3, boxed_own (g + 1 + 1) 3 (fun (_ : Unit) => Value.int .i64 (xs.getD last zx).s) () X Y row e4 hg' (fun r e => (hr r e).2)⟩) (ownFrom_below (by omega) (by omega)))
    ⟨by simp, Below.refl _ _⟩
    (fun x a' W => ∃ Bx, W0.heap.size ≤ Bx ∧ EntBox W Bx (xs.getD x zx) ∧ a' = { tmps := #[.slice a len cap, .int .i64 c, .int .i64 nn, undef, .pointer (some ⟨g, 0, none⟩), .pointer (some ⟨g + 1, 0, none⟩), .pointer (some ⟨g + 1 + 1, 0, none⟩), .slice a1 N c1, .bool okb, undef, .pointer (some ⟨Bx, 0, none⟩), undef, undef, .tuple #[.slice a1 N c1, .bool okb], .slice a len cap, .tuple #[.slice a1 N c1, .bool okb], .slice a1 N c1, .bool okb, .slice a1 N c1, .func (.func 80) #[] #[.pointer (some ⟨q, 0, none⟩)], .int .i64 (x : Int), (xs.getD x zx).agg, undef, undef, undef, undef, undef, undef, undef, undef, undef, undef, undef, undef, undef, undef, undef, undef], defers := [] })
    (fun x a' _ X Y row hs hg' hr => by obtain ⟨Bx, h1, h2, h3⟩ := hs; exact ⟨Bx, h1, entBox_own Bx _ () X Y row h2 hg' (fun r e => (hr r e).2), h3⟩)
    ?assign ?body ?done ?stop
  case assign =>
    rintro l pre x W K ⟨hp, hB⟩ hK
    unfold Wx.agg
    gi_wp2
    exact hK _ _ ((KeepsOthers.alloc _ _).from _) ((Below.refl _ W).alloc hB.size _) ⟨hp, hB.alloc hB.size _⟩ ⟨W.heap.size, hB.size, heap_alloc_new W _, rfl⟩
  case body =>
    rintro l pre x a' W hl ⟨r, hr⟩ ⟨hp, hB⟩ ⟨Bx, hBx, bX, rfl⟩ hlt
    obtain ⟨x0, x1, x2⟩ := bX.cells
    have D0 := boxed_on C0 hB (by omega); have D1 := boxed_on C1 hB (by omega); have D2 := boxed_on C2 hB (by omega)
    have c0 := D0.cell
    have hSee := ((H3.out x).on hB (Nat.le_refl _)).up hB.size
    have hBB : Below g w W := bb2.trans (hB.mono (by omega))
    have hWs := hB.size
    have HH : Hid (hit c nn (xs.getD x zx).wr = ((lastOf (xs.getD x zx).ps c).isSome && decide ((xs.getD x zx).s ≤ nn))) := hit_of (e := (xs.getD x zx).wr) (HR.out x)
    obtain ⟨e, he⟩ : ∃ e, xs.getD x zx = e := ⟨_, rfl⟩
    have HE := (show Hid (xs.getD x zx = e) from he)
    rw [he] at bX x0 x1 x2 hSee HH ⊢
    have cL := hL W e.a e.n e.cap e.ps hSee
    obtain ⟨y, hy⟩ : ∃ y, (lastOf e.ps c).getD 0 = y := ⟨_, rfl⟩
    obtain ⟨is, his⟩ : ∃ y, (lastOf e.ps c).isSome = y := ⟨_, rfl⟩
    rw [hy, his] at cL
    rw [his] at HH
    have hWg : g ≤ W.heap.size := by omega
    have hd1 : 1 ≤ n - 1 - 1 := by omega
    clear hy his he hSee
    unfold Wx.agg
    cases is
    · gi_wp2_with (gi_at_call 48; refine (CallsIn.inRound l cL).mono ?_; rintro e w4 ⟨rfl, b4⟩)
      exact ⟨below_keeps b4 (Nat.le_refl _), b4.mono hWs, ⟨fun p hp' => (List.mem_append.1 hp').elim (hp p) (fun e => by rw [List.mem_singleton.1 e, HE.out, HH.out]; rfl), hB.trans (b4.mono hWs)⟩⟩
    · by_cases q1 : e.s ≤ nn
      · have HY : Hid (hit c nn (xs.getD x zx).wr = true) := by show _ = _; rw [HE.out, HH.out]; simp [q1]
        gi_wp2_with (gi_at_call 48; refine (CallsIn.inRound l cL).mono ?_; rintro e w4 ⟨rfl, b4⟩; have y0 := (Bas.Blk.on bX b4 (Bas.Blk.lt bX)).cell 0; have E1 := boxed_on D1 b4 D1.lt; have n0 := E1.cell; have E2 := boxed_on D2 b4 D2.lt; have r0 := E2.cell; have f0 := E2.frozen)
        exact ⟨(below_keeps b4 (Nat.le_refl _)).trans ((KeepsOthers.setCell _ _ _).from _), ⟨⟨rfl, pre, x, rfl, hp, HY.out, by rw [HE.out]; exact E2.set _⟩, (hBB.trans (b4.mono hWg)).setCell (p := ⟨g + 1 + 1, 0, none⟩) (show g ≤ g + 1 + 1 by omega) _⟩⟩
      · have HY : Hid (hit c nn (xs.getD x zx).wr = false) := by show _ = _; rw [HE.out, HH.out]; simp [q1]
        have q2 : nn < e.s := by omega
        clear q1
        gi_wp2_with (gi_at_call 48; refine (CallsIn.inRound l cL).mono ?_; rintro e w4 ⟨rfl, b4⟩; have y0 := (Bas.Blk.on bX b4 (Bas.Blk.lt bX)).cell 0; have E1 := boxed_on D1 b4 D1.lt; have n0 := E1.cell)
        exact ⟨below_keeps b4 (Nat.le_refl _), b4.mono hWs, ⟨fun p hp' => (List.mem_append.1 hp').elim (hp p) (fun e => by rw [List.mem_singleton.1 e]; exact HY.out), hB.trans (b4.mono hWs)⟩⟩
  case done =>
    rintro D ys W hD rfl ⟨hne, hB⟩ hK
    have D2 := boxed_on C2 hB (by omega)
    have r0 := D2.cell; have f0 := D2.frozen
    have HN := (show Hid _ from hne)
    clear hne
    gi_wp2
    have hBB : Below g w W := bb2.trans (hB.mono (by omega))
    have E2 := D2.set (.int .i64 0)
    have hK' := ((KeepsOthers.setCell W ⟨g + 1 + 1, 0, none⟩ (.int .i64 0)).from 0).same D _ (Nat.zero_le _) hK rfl
    refine ⟨by simp, .inl ⟨_, _, rfl, run_takeDeferred hK', ?_⟩⟩
    have hc6 := cell_kept E2.cell (grownBy_putObj' _ D (.deferred none)) (fun r e => by cases e; exact ⟨_, hK', rfl⟩)
    have hF : (0 : Int) = lastW ls c nn := lastW_turned ⟨.inl ⟨rfl, fun e he => by
      rw [← HTM.out] at he
      obtain ⟨z, hz, rfl⟩ := List.mem_map.1 he
      obtain ⟨i, hi, rfl⟩ := List.mem_iff_getElem.1 hz
      have := HN.out i (down_all (by have := HNN.out; omega))
      have e : xs.getD i zx = xs[i] := by simp [List.getD, hi]
      rw [e] at this; exact this⟩⟩
    have b2 := hBB.setCell (p := ⟨g + 1 + 1, 0, none⟩) (show g ≤ g + 1 + 1 by omega) (.int .i64 0)
    refine ⟨.int .i64 0, ?_, by rw [hF], by rw [HG.out]; exact b2.trans (belowK_b (w := w) hgw _ D _ _ (by have := HG.out; omega) hK' rfl rfl)⟩
    simp [results, Try.f13, go_sem, hc6]
  case stop =>
    rintro D k pre W hD ⟨j, hj, hpre⟩ ⟨⟨rfl, ini, last, e1, e2, e3, d1⟩, hB⟩ hK
    have HE1 := (show Hid _ from e1); have HE2 := (show Hid _ from e2); have HE3 := (show Hid _ from e3); have HPR := (show Hid _ from hpre)
    clear e1 e2 e3 hpre
    gi_wp2
    refine ⟨by simp, .inl ⟨_, _, rfl, run_takeDeferred hK, ?_⟩⟩
    have hc6 := cell_kept d1.cell (grownBy_putObj' _ D (.deferred none)) (fun r e => by cases e; exact ⟨_, hK, rfl⟩)
    have hF : (xs.getD last zx).s = lastW ls c nn := by
      obtain ⟨k1, k2⟩ := down_snoc hj (HPR.out.symm.trans HE1.out)
      have hll : last < (turned ls).length := by rw [← HTM.out, List.length_map]; have := HNN.out; omega
      have hix : ∀ i (h : i < (turned ls).length), (turned ls)[i] = (xs.getD i zx).wr := fun i h => by
        have h' : i < xs.length := by rw [← HTM.out] at h; simpa using h
        have e : xs.getD i zx = xs[i] := by simp [List.getD, h']
        rw [e]
        simp only [← HTM.out, List.getElem_map]
      have := lastW_turned (isLw_last (turned_lt ls) hll (c := c) (n := nn) (by rw [hix last hll]; exact HE3.out) (fun i h hi => by rw [hix i h]; exact HE2.out i (k2 i (by rw [← HTM.out, List.length_map] at h; have := HNN.out; omega) hi)))
      rw [hix last hll] at this
      exact this
    refine ⟨.int .i64 (xs.getD last zx).s, ?_, by rw [hF], by rw [HG.out]; exact hB.trans (belowK_b (w := w) hgw _ D _ _ (by have := HG.out; omega) hK rfl rfl)⟩
    simp [results, Try.f13, go_sem, hc6]

set_option maxRecDepth 100000 in
theorem implLastW (v : Value) (ls : List Wr) (c nn : Int) (B : Nat) (w : World) (hv : SeesW B w v ls) (hB : B ≤ w.heap.size) :
    Calls Try.prog 13 #[v, .int .i64 c, .int .i64 nn] w fun e w' => e = .returned (.int .i64 (lastW ls c nn)) ∧ Below w.heap.size w w' := by
  obtain ⟨a, cap, rfl⟩ := hv.form
  refine (callsIn_wide (n := 12)).1 ?_
  exact lastWIn Fence.wide 12 trivial trivial trivial trivial trivial rfl (Nat.le_refl _) a _ cap ls c nn w
    (fun W b => callsIn_wide.2 (inTurnC _ ls B W (hv.on b hB) (by have := b.size; omega)))
    (fun W p m k ps h => callsIn_wide.2 (implLast _ ps c W h))
end Hist
end Go.Proofs.Ytppikpdphcfomaa
