/- What the program's Last answers. -/
import Derived.Test.YtppikpdphcfomaaLogBack
set_option linter.unusedVariables false
set_option linter.unusedSimpArgs false
namespace Go.Proofs.Ytppikpdphcfomaa
open Go.RowKit Go.Shelf
namespace Logs
open Bas Flat

attribute [local go_sem] Oper.semAt_some

theorem boxed_on {W W' : World} {B n : Nat} {t : TypeId} {v : Value} (h : Boxed W B t v) (hb : Below n W W') (hB : B < n) : Boxed W' B t v := (hb.block B hB).trans h
theorem ret_last2 {r : Int} {b : Bool} {o : Option Int} (h1 : r = o.getD 0) (h2 : b = o.isSome) : Ending.returned (.tuple #[.int .i64 r, .bool b]) = .returned (.tuple #[.int .i64 (o.getD 0), .bool o.isSome]) := by rw [h1, h2]

set_option maxRecDepth 100000 in
set_option maxHeartbeats 4000000 in
theorem lastIn (F : Fence) (n : Nat) (h20 : F.fn 48) (h26 : F.fn 75) (h68 : F.fn 81) (h108 : F.fn 102) (hro : F.round = none) (hn : 9 ≤ n)
    (a : Option Addr) (len cap : Nat) (xs : List R2) (c : Int) (w : World) (hlen : xs.length = len) (hmax : len ≤ 1000000) (hv : Sees2 w.heap.size w (.slice a len cap) xs)
    (hO : ∀ W, Below w.heap.size w W → CallsIn F (n - 1) Try.prog 75 #[.slice a len cap] W fun e w' => e = .returned (.bool true) ∧ Below W.heap.size W w') :
    CallsIn F n Try.prog 48 #[.slice a len cap, .int .i64 c] w fun e w' => e = .returned (.tuple #[.int .i64 ((lastV xs c).getD 0), .bool (lastV xs c).isSome]) ∧ Below w.heap.size w w' := by
  have h1 : 1 ≤ n := by omega
  obtain ⟨g, hg⟩ : ∃ g, w.heap.size = g := ⟨_, rfl⟩
  have B0 := ((Boxed.new w 3 (.int .i64 c)).alloc (.cells #[.int .i64 0] 3)).alloc (.cells #[.bool false] 4)
  have B1 := (Boxed.new (w.alloc (.cells #[.int .i64 c] 3)) 3 (.int .i64 0)).alloc (.cells #[.bool false] 4)
  have B2 := Boxed.new ((w.alloc (.cells #[.int .i64 c] 3)).alloc (.cells #[.int .i64 0] 3)) 4 (.bool false)
  simp only [World.size_alloc] at B1 B2
  have hb0 : Below w.heap.size w (((w.alloc (.cells #[.int .i64 c] 3)).alloc (.cells #[.int .i64 0] 3)).alloc (.cells #[.bool false] 4)) := (((Below.refl _ w).alloc (Nat.le_refl _) _).alloc (by simp) _).alloc (by simp; omega) _
  have hsz : (((w.alloc (.cells #[.int .i64 c] 3)).alloc (.cells #[.int .i64 0] 3)).alloc (.cells #[.bool false] 4)).heap.size = w.heap.size + 3 := by simp
  have cO := hO _ hb0
  refine callsIn_of_wp_marks Try.func48 rfl h20 ?_ hro
  simp only [Try.ntmps48, List.size_toArray, List.length_cons, List.length_nil, Nat.reduceAdd, Nat.reduceSub, Array.replicate_succ, Array.replicate_zero, List.push_toArray, List.append_toArray, List.nil_append, List.cons_append]
  gi_wp2_with (first
    | (gi_at_call 75; refine cO.mono ?_; rintro e w1 ⟨rfl, b1⟩)
    | (gi_at_call 81; refine (back_in F (n - 1) h68 hro _ _ _ _).mono ?_; rintro e w2 ⟨rfl, rfl⟩))
  obtain ⟨W3, hW3⟩ : ∃ W3, ((w.alloc (.cells #[.int .i64 c] 3)).alloc (.cells #[.int .i64 0] 3)).alloc (.cells #[.bool false] 4) = W3 := ⟨_, rfl⟩
  rw [hW3] at B0 B1 B2 hb0 hsz b1
  have bb1 := hb0.trans (b1.mono (by omega))
  have C0 := (boxed_on B0 b1 (by omega)).alloc (.cells #[.slice a len cap] 31)
  have C1 := (boxed_on B1 b1 (by omega)).alloc (.cells #[.slice a len cap] 31)
  have C2 := (boxed_on B2 b1 (by omega)).alloc (.cells #[.slice a len cap] 31)
  have C3 := Boxed.new w1 31 (.slice a len cap)
  have hs1 : w.heap.size + 3 ≤ w1.heap.size := by have := b1.size; omega
  have bb2 := bb1.alloc (Nat.le_trans (Nat.le_add_right _ 3) hs1) (.cells #[.slice a len cap] 31)
  have hz0 : (w1.alloc (.cells #[.slice a len cap] 31)).heap.size = w1.heap.size + 1 := by simp
  obtain ⟨W0, hW0⟩ : ∃ W0, w1.alloc (.cells #[.slice a len cap] 31) = W0 := ⟨_, rfl⟩
  rw [hW0] at C0 C1 C2 C3 bb2 hz0 ⊢
  obtain ⟨q, hq⟩ : ∃ q, w1.heap.size = q := ⟨_, rfl⟩
  rw [hq] at hs1 C3 hz0 ⊢
  clear hW0 hW3 B0 B1 B2 b1 bb1 hb0 hsz cO hO hq
  have hv0 : Sees2 W0.heap.size W0 (.slice a len cap) xs := (hv.on bb2 (Nat.le_refl _)).up (by omega)
  rw [hg] at C0 C1 C2 bb2 hs1 hv
  have hgw : g ≤ w.heap.size := by omega
  have HG := (show Hid _ from hg)
  clear hg
  refine wpIn_rangeFunc_ownH hro h1 (gf := 102) (lb := #[.pointer (some ⟨q, 0, none⟩)]) rfl h108 (enters_of Try.func102 (by kernel_rfl) rfl)
    (back_stops F (n - 1) h108 hro (by omega) q W0.heap.size a len cap xs hlen hmax W0 (by omega) (Nat.le_refl _) C3.cell hv0) belowK_t (belowK_b (by omega)) (Below.refl _ _) (fun _ => rfl)
    (fun pre W => ((∀ y ∈ pre, y.2.c ≠ c) ∧ (Boxed W g 3 (.int .i64 c) ∧ (Boxed W (g + 1) 3 (.int .i64 0) ∧ (Boxed W (g + 1 + 1) 4 (.bool false) ∧ Boxed W q 31 (.slice a len cap))))) ∧ Below g w W)
    (fun k pre W => ((k = .ret ∧ ∃ ini last, pre = ini ++ [last] ∧ (∀ p ∈ ini, p.2.c ≠ c) ∧ last.2.c = c ∧ Boxed W (g + 1) 3 (.int .i64 last.2.v)) ∧ Boxed W (g + 1 + 1) 4 (.bool true)) ∧ Below g w W)
    (OwnFrom.and (OwnFrom.and (ownFrom_pure _ _) (OwnFrom.and (Own.from (boxed_own _ _ _) _) (OwnFrom.and (Own.from (boxed_own _ _ _) _) (OwnFrom.and (Own.from (boxed_own _ _ _) _) (Own.from (boxed_own _ _ _) _))))) (ownFrom_below (by omega) (by omega)))
    (fun k => OwnFrom.and (OwnFrom.and (fun s X Y row hs hg' hr => by obtain ⟨e0, ini, last, e1, e2, e3, e4⟩ := hs; exact ⟨e0, ini, last, e1, e2, e3, boxed_own (g + 1) 3 (fun (_ : Unit) => Value.int .i64 last.2.v) () X Y row e4 hg' (fun r e => (hr r e).2)⟩) (Own.from (boxed_own _ _ _) _)) (ownFrom_below (by omega) (by omega)))
    ⟨⟨by simp, C0, C1, C2, C3⟩, bb2⟩
    (fun x a' W => ∃ Bx, g + 1 + 1 < Bx ∧ RowBox W Bx x.2 ∧ a' = { tmps := #[.slice a len cap, .int .i64 c, undef, .pointer (some ⟨g, 0, none⟩), .pointer (some ⟨g + 1, 0, none⟩), .pointer (some ⟨g + 1 + 1, 0, none⟩), undef, .pointer (some ⟨Bx, 0, none⟩), .slice a len cap, .bool true, .bool false, .slice a len cap, .func (.func 102) #[] #[.pointer (some ⟨q, 0, none⟩)], .int .i64 x.1, .agg #[.int .i64 x.2.c, .int .i64 x.2.v], undef, undef, undef, undef, undef, undef], defers := [] })
    (fun x a' _ X Y row hs hg' hr => by obtain ⟨Bx, h1, h2, h3⟩ := hs; exact ⟨Bx, h1, rowBox_own Bx x.2 () X Y row h2 hg' (fun r e => (hr r e).2), h3⟩)
    ?assign ?body ?done ?stop
  case assign =>
    rintro l pre x W K ⟨⟨hp, d0, d1, d2, d3⟩, hB⟩ hK
    have hsW : g ≤ W.heap.size := by have := hB.size; omega
    have hl2 := d2.lt
    gi_wp2
    exact hK _ _ ((KeepsOthers.alloc _ _).from _) ((Below.refl _ W).alloc (by have := d3.lt; omega) _) ⟨⟨hp, d0.alloc _, d1.alloc _, d2.alloc _, d3.alloc _⟩, hB.alloc hsW _⟩ ⟨W.heap.size, hl2, heap_alloc_new W _, rfl⟩
  case body =>
    rintro l pre x a' W hl ⟨r, hr⟩ ⟨⟨hp, d0, d1, d2, d3⟩, hB⟩ ⟨Bx, hBx, bX, rfl⟩ hlt
    obtain ⟨x0, x1⟩ := bX.cells
    have c0 := d0.cell
    have f1 := d1.frozen
    have f2 := d2.frozen
    have c1 := d1.cell
    have c2 := d2.cell
    by_cases hx : x.2.c = c
    · have h9 : (x.2.c == c) = true := by simpa using hx
      have HX : Hid (x.2.c = c) := hx
      clear hx
      gi_wp2
      exact ⟨((KeepsOthers.setCell _ _ _).from _).trans ((KeepsOthers.setCell _ _ _).from _), ⟨⟨rfl, pre, x, rfl, hp, HX.out, (d1.set _).other (by omega) _⟩, (d2.other (by omega) _).set _⟩, (hB.setCell (p := ⟨g + 1, 0, none⟩) (show g ≤ g + 1 by omega) _).setCell (p := ⟨g + 1 + 1, 0, none⟩) (show g ≤ g + 1 + 1 by omega) _⟩
    · have h9 : (x.2.c == c) = false := by simpa using hx
      have HX : Hid (¬ x.2.c = c) := hx
      clear hx
      gi_wp2
      exact ⟨KeepsFrom.refl _ _, Below.refl _ _, ⟨fun p hp' => (List.mem_append.1 hp').elim (hp p) (fun e => by rw [List.mem_singleton.1 e]; exact HX.out), d0, d1, d2, d3⟩, hB⟩
  case done =>
    rintro D ys W hD rfl ⟨⟨hne, d0, d1, d2, d3⟩, hB⟩ hK
    have f1 := d1.frozen
    have f2 := d2.frozen
    have c1 := d1.cell
    have c2 := d2.cell
    have HN := (show Hid _ from hne)
    clear hne
    gi_wp2
    have E1 := (d1.set (.int .i64 0)).other (B' := g + 1 + 1) (by omega) (.bool false)
    have E2 := (d2.other (B' := g + 1) (by omega) (.int .i64 0)).set (.bool false)
    have hK' := (((KeepsOthers.setCell W ⟨g + 1, 0, none⟩ (.int .i64 0)).from 0).trans ((KeepsOthers.setCell (W.setCell ⟨g + 1, 0, none⟩ (.int .i64 0)) ⟨g + 1 + 1, 0, none⟩ (.bool false)).from 0)).same D _ (Nat.zero_le _) hK rfl
    refine ⟨by simp, .inl ⟨_, _, rfl, run_takeDeferred hK', ?_⟩⟩
    have hc5 := cell_kept E1.cell (grownBy_putObj' _ D (.deferred none)) (fun r e => by cases e; exact ⟨_, hK', rfl⟩)
    have hc6 := cell_kept E2.cell (grownBy_putObj' _ D (.deferred none)) (fun r e => by cases e; exact ⟨_, hK', rfl⟩)
    have hF : lastV xs c = none := find_none (by rw [hlen]; exact HN.out)
    have b2 := (hB.setCell (p := ⟨g + 1, 0, none⟩) (show g ≤ g + 1 by omega) (.int .i64 0)).setCell (p := ⟨g + 1 + 1, 0, none⟩) (show g ≤ g + 1 + 1 by omega) (.bool false)
    refine ⟨.tuple #[.int .i64 0, .bool false], ?_, by rw [hF]; rfl, by rw [HG.out]; exact b2.trans (belowK_b (w := w) hgw _ D _ _ (by have := HG.out; omega) hK' rfl rfl)⟩
    simp [results, Try.f48, go_sem, hc5, hc6]
  case stop =>
    rintro D k pre W hD ⟨j, hj, rfl⟩ ⟨⟨⟨rfl, ini, last, e1, e2, e3, d1⟩, d2⟩, hB⟩ hK
    gi_wp2
    refine ⟨by simp, .inl ⟨_, _, rfl, run_takeDeferred hK, ?_⟩⟩
    have hc5 := cell_kept d1.cell (grownBy_putObj' _ D (.deferred none)) (fun r e => by cases e; exact ⟨_, hK, rfl⟩)
    have hc6 := cell_kept d2.cell (grownBy_putObj' _ D (.deferred none)) (fun r e => by cases e; exact ⟨_, hK, rfl⟩)
    have hF : lastV xs c = some last.2.v := find_some (by omega) e1 e2 e3
    refine ⟨.tuple #[.int .i64 last.2.v, .bool true], ?_, by rw [hF]; rfl, by rw [HG.out]; exact hB.trans (belowK_b (w := w) hgw _ D _ _ (by have := HG.out; omega) hK rfl rfl)⟩
    simp [results, Try.f48, go_sem, hc5, hc6]

set_option maxRecDepth 100000 in
set_option maxHeartbeats 3200000 in
theorem implLast (v : Value) (xs : List R2) (c : Int) (w : World) (hv : Sees2 w.heap.size w v xs) :
    Calls Try.prog 48 #[v, .int .i64 c] w fun e w' => e = .returned (.tuple #[.int .i64 ((lastOf xs c).getD 0), .bool (lastOf xs c).isSome]) ∧ Below w.heap.size w w' := by
  obtain ⟨a, cap, rfl⟩ := hv.form
  obtain ⟨n, hn⟩ : ∃ n, xs.length = n := ⟨_, rfl⟩
  obtain ⟨p, hp⟩ : ∃ p, rowsOk xs = p := ⟨_, rfl⟩
  have hO : ∀ W, Below w.heap.size w W → Calls Try.prog 75 #[.slice a n cap] W fun e w' => e = .returned (.bool p) ∧ Below W.heap.size W w' := fun W b => by
    have h := implOk (.slice a xs.length cap) xs w.heap.size W (hv.on b (Nat.le_refl _)) b.size
    rw [hp, hn] at h
    exact h
  rw [hn] at hv ⊢
  cases p
  · have HF : Hid (lastOf xs c = none) := lastOf_no hp c
    have B1 := (Boxed.new (w.alloc (.cells #[.int .i64 c] 3)) 3 (.int .i64 0)).alloc (.cells #[.bool false] 4)
    have B2 := Boxed.new ((w.alloc (.cells #[.int .i64 c] 3)).alloc (.cells #[.int .i64 0] 3)) 4 (.bool false)
    simp only [World.size_alloc] at B1 B2
    have hb0 : Below w.heap.size w (((w.alloc (.cells #[.int .i64 c] 3)).alloc (.cells #[.int .i64 0] 3)).alloc (.cells #[.bool false] 4)) := (((Below.refl _ w).alloc (Nat.le_refl _) _).alloc (by simp) _).alloc (by simp; omega) _
    have hsz : (((w.alloc (.cells #[.int .i64 c] 3)).alloc (.cells #[.int .i64 0] 3)).alloc (.cells #[.bool false] 4)).heap.size = w.heap.size + 3 := by simp
    have cO := hO _ hb0
    clear hO hp hv
    go_enter Try.func48, Try.ntmps48
    go_wp2_with fail
    refine cO.mono ?_
    rintro e w1 ⟨rfl, b1⟩
    obtain ⟨W3, hW3⟩ : ∃ W3, ((w.alloc (.cells #[.int .i64 c] 3)).alloc (.cells #[.int .i64 0] 3)).alloc (.cells #[.bool false] 4) = W3 := ⟨_, rfl⟩
    rw [hW3] at B1 B2 hb0 hsz b1
    have bb := hb0.trans (b1.mono (by omega))
    have C1 := boxed_on B1 b1 (by omega)
    have C2 := boxed_on B2 b1 (by omega)
    have c1 := C1.cell; have f1 := C1.frozen
    have c2 := C2.cell; have f2 := C2.frozen
    have E1 := (C1.set (.int .i64 0)).other (B' := w.heap.size + 1 + 1) (by omega) (.bool false)
    have E2 := (C2.other (B' := w.heap.size + 1) (by omega) (.int .i64 0)).set (.bool false)
    have e1 := E1.cell; have e2 := E2.cell
    have b2 := (bb.setCell (p := ⟨w.heap.size + 1, 0, none⟩) (show w.heap.size ≤ w.heap.size + 1 by omega) (.int .i64 0)).setCell (p := ⟨w.heap.size + 1 + 1, 0, none⟩) (show w.heap.size ≤ w.heap.size + 1 + 1 by omega) (.bool false)
    clear hW3 B1 B2 hb0 hsz b1 cO C1 C2 E1 E2
    go_wp2
    refine bodyPost_ret (v := .tuple #[.int .i64 0, .bool false]) (by simp [results, Try.f48, go_sem, e1, e2]) rfl ?_
    exact ⟨by rw [HF.out]; rfl, b2⟩
  · rw [lastOf_ok hp c]
    have h3 := rowsOk_out hp
    refine (callsIn_wide (n := 9)).1 ?_
    exact lastIn Fence.wide 9 trivial trivial trivial trivial rfl (Nat.le_refl _) a n cap xs c w hn (by omega) hv (fun W b => callsIn_wide.2 (hO W b))
end Logs
end Go.Proofs.Ytppikpdphcfomaa
