/- What the program's Net and CellsOf answer. -/
import Derived.Test.YtajbmokidcdfnaaLogSort
set_option linter.unusedVariables false
set_option linter.unusedSimpArgs false
namespace Go.Proofs.Ytajbmokidcdfnaa
open Go.RowKit Go.Maps
namespace Logs
open Bas Flat

/-- the rows that have come out of the map so far -/
structure Come (xs ns : List R2) (left : Lit → Bool) : Prop where
  is : ∀ x ∈ ns, lastV xs x.c = some x.v ∧ left (.int .i64 x.c) = false
  apart : ns.Pairwise (fun x y => x.c ≠ y.c)
  all : ∀ c, (lastV xs c).isSome = true → left (.int .i64 c) = false → ∃ x ∈ ns, x.c = c
theorem Come.start (xs : List R2) : Come xs [] (Maps.has (mapD xs)) where
  is x hx := by cases hx
  apart := List.Pairwise.nil
  all c h1 h2 := by rw [mapD_has, h1] at h2; cases h2
theorem Come.step {xs ns : List R2} {left : Lit → Bool} (h : Come xs ns left) {x : R2} {kl : Lit} (hk : kl = .int .i64 x.c) (hl : left kl = true) (hx : lastV xs x.c = some x.v) : Come xs (ns ++ [x]) (fun z => left z && !z.sameKey kl) where
  is y hy := by
    rcases List.mem_append.1 hy with hy | hy
    · exact ⟨(h.is y hy).1, by rw [(h.is y hy).2]; rfl⟩
    · obtain rfl := List.mem_singleton.1 hy
      refine ⟨hx, ?_⟩
      rw [hk]
      simp [Lit.sameKey]
  apart := by
    rw [List.pairwise_append]
    refine ⟨h.apart, List.pairwise_singleton _ _, fun y hy z hz => ?_⟩
    obtain rfl := List.mem_singleton.1 hz
    intro e
    have := (h.is y hy).2
    rw [e, ← hk, hl] at this
    cases this
  all c h1 h2 := by
    by_cases hc : x.c = c
    · exact ⟨x, by simp, hc⟩
    · have h3 : (Lit.int .i64 c).sameKey kl = false := by rw [hk]; exact sameKey_ne (fun e => hc (by simpa using e.symm))
      rw [h3] at h2
      obtain ⟨y, hy, e⟩ := h.all c h1 (by simpa using h2)
      exact ⟨y, List.mem_append_left _ hy, e⟩
theorem Come.done {xs ns ts : List R2} {left : Lit → Bool} (h : Come xs ns left) (hok : rowsOk xs = true) (hl : ∀ kl, left kl = false) (hp : ts.Perm ns) (hs : ts.Pairwise (fun x y => x.c ≤ y.c)) : ts = netOf xs := by
  have ha : ts.Pairwise (fun x y => x.c ≠ y.c) := (hp.pairwise_iff (fun h e => h e.symm)).2 h.apart
  refine net_unique hok ((List.Pairwise.and hs ha).imp fun h => by omega) (fun x hx => (h.is x (hp.mem_iff.1 hx)).1) (fun c hc => ?_)
  obtain ⟨x, hx, e⟩ := h.all c hc (hl _)
  exact ⟨x, hp.mem_iff.2 hx, e⟩

theorem invK3 {key : Value} {kl : Lit} (h : keyOf Try.prog 3 key = some kl) : ∃ x : Int, key = .int .i64 x := by
  obtain ⟨x, rfl, _⟩ := Maps.keyOf_int_inv Try.underlying3 h
  exact ⟨x, rfl⟩
theorem ob_of {a : Option Addr} {n c : Nat} {B : Nat} {w : World} {xs : List R2} (h : Owns2 B w (.slice a n c) xs) : n = xs.length := by
  obtain ⟨a', c', e⟩ := h.form
  simp only [Value.slice.injEq] at e
  exact e.2.1

set_option maxRecDepth 100000 in
set_option maxHeartbeats 6400000 in
theorem implNet (v : Value) (xs : List R2) (B : Nat) (w : World) (hv : Sees2 B w v xs) (hB : B ≤ w.heap.size) :
    Calls Try.prog 63 #[v] w fun e w' => ∃ v', e = .returned v' ∧ Owns2 w.heap.size w' v' (netOf xs) ∧ Below w.heap.size w w' := by
  have cO := implOk v xs B w hv hB
  obtain ⟨a, cap, rfl⟩ := hv.form
  obtain ⟨n, hn⟩ : ∃ n, xs.length = n := ⟨_, rfl⟩
  obtain ⟨p, hp⟩ : ∃ p, rowsOk xs = p := ⟨_, rfl⟩
  rw [hp] at cO
  obtain ⟨g, hg⟩ : ∃ g, w.heap.size = g := ⟨_, rfl⟩
  rw [hg] at cO hB ⊢
  cases p
  · have HF : Hid (netOf xs = []) := netOf_no hp
    rw [hn] at cO ⊢
    clear hp
    go_enter Try.func63, Try.ntmps63
    go_wp2_with (go_at_call 56; refine cO.mono ?_; rintro e w1 ⟨rfl, b1⟩)
    go_ret
    exact ⟨_, rfl, by rw [HF.out]; exact Owns.nil _ _ _ _, b1⟩
  have h3 := rowsOk_out hp
  have cL := fun w1 (b1 : Below g w w1) => lastRowsC (.slice a xs.length cap) xs B w1 (hv.on b1 hB) (by have := b1.size; omega) hp
  have HOK := (show Hid _ from hp)
  rw [hn] at cO cL h3 hv ⊢
  clear hp
  go_enter Try.func63, Try.ntmps63
  go_wp2_with (first
    | (go_at_call 56; refine cO.mono ?_; rintro e w1 ⟨rfl, b1⟩)
    | (go_at_call 107; refine (cL _ b1).mono ?_; rintro e w2 ⟨rfl, om, b2⟩)
    | (at_range; refine wpList_range_own _ rfl _ 131 rfl 3 88 lawC Try.underlying131 _ w1.heap.size n _ rfl om ?_; intro w3 hrg0 hg0 hs0)
    | go_in)
  go_frame
  have z1 := b1.size
  have z2 := b2.size
  have bb : Below g w w3 := (b1.trans (b2.mono (by omega))).grown hg0 (by omega) (fun j hj => by cases hj)
  obtain ⟨m, hm⟩ : ∃ m, w1.heap.size = m := ⟨_, rfl⟩
  obtain ⟨r, hr⟩ : ∃ r, w2.heap.size = r := ⟨_, rfl⟩
  rw [hm, hr] at hrg0
  rw [hr]
  have hmr : m < r := by have := om.lt; omega
  have hrs : r < w3.heap.size := by omega
  have hgm : g ≤ m := by omega
  have hD : Maps.size (mapD xs) ≤ 300 := by have := om.size_le; omega
  obtain ⟨D, hDD⟩ : ∃ D, mapD xs = D := ⟨_, rfl⟩
  have HD := (show Hid _ from hDD)
  rw [hDD] at hrg0 hD
  have HS : Hid (Come xs [] (Maps.has D)) := by rw [← hDD]; exact Come.start xs
  clear om cO cL hs0 hg0 b1 b2 hDD z1 z2
  go_loopw [3] (fun ov wr => ∃ (left : Lit → Bool) (cnt : Nat) (ns : List R2) (ax : Option Addr) (mx cx : Nat), wr.ranges Try.prog 3 rowElem m r n D left cnt ∧ ov = .slice ax mx cx ∧ Owns2 g wr (.slice ax mx cx) ns ∧ Come xs ns left ∧ ns.length + cnt ≤ 300 ∧ Below g w wr ∧ (∀ q, (Value.slice ax mx cx).ownBlock = some q → r < q)) (fun _ wr => wr.rangeLeft m r)
  case atStart => exact ⟨_, _, [], _, _, _, hrg0, rfl, Owns.nil _ _ _ _, HS.out, by simpa using hD, bb, fun q hq => by cases hq⟩
  case round =>
    obtain ⟨left, cnt, ns, ax, mx, cx, hrg, rfl, O, hC, hcs, hb, hob⟩ := hrel
    clear hrg0 bb
    have hsz : g ≤ wr.heap.size := by have := hb.size; omega
    have hrl := hrg.lt
    go_wp2_with (first
      | (at_next; refine wpList_next_ranges _ rfl _ rfl 3 lawC rowElem (Value.int .i64) (fun x : R2 => Value.agg #[.int .i64 x.c, .int .i64 x.v]) (fun key kl h => invK3 h) (fun v y h => by obtain ⟨x, rfl, -⟩ := rowElem_inv h; exact ⟨x, rfl⟩) m r n _ _ _ rfl hrg ?_ ?_)
      | go_in)
    · intro hc0 hl0
      have cS := sortC g mx cx ax wr ns O (by omega)
      have HC := (show Hid _ from (fun (ts : List R2) (h1 : ts.Perm ns) (h2 : ts.Pairwise (fun x y : R2 => x.c ≤ y.c)) => hC.done HOK.out hl0 h1 h2))
      clear hC hl0 hrg
      go_wp2_with (go_at_call 108; refine cS.mono ?_; rintro e w4 ⟨rfl, ts, t1, t2, O4, G4⟩)
      go_ret
      exact ⟨_, rfl, by rw [← HC.out ts t1 t2]; exact O4, hb.grown G4 hsz (fun q hq => (O.at q hq).1)⟩
    · intro x c kl y ys w4 cnt4 hkey hlk hy hat hrg4 hlt hg4 hs4 hen
      obtain ⟨x', ex, rfl, hwx⟩ := Maps.keyOf_int_inv Try.underlying3 hkey
      cases ex
      obtain ⟨c', ec, ey⟩ := rowElem_inv hy
      obtain ⟨rfl, -⟩ : y = rowD c' ∧ ys = [] := by simpa using ey
      have hcc : c = c' := by
        simp only [Value.agg.injEq, Array.mk.injEq, List.cons.injEq, Value.int.injEq, true_and, and_true] at ec
        exact R2.ext' ec.1 ec.2
      subst hcc
      have hhas : Maps.has (mapD xs) (.int .i64 x) = true := by rw [HD.out]; exact has_true_of_atKey hat
      rw [mapD_has] at hhas
      obtain ⟨u, hu⟩ := Option.isSome_iff_exists.1 hhas
      have e1 := mapD_at xs x u .nil hu
      rw [HD.out, hat] at e1
      have e2 := rowD_inj e1
      have hxc : c.c = x := by rw [e2]
      have hxv : lastV xs c.c = some c.v := by rw [e2]; exact hu
      have hC2 := hC.step (x := c) (by rw [hxc]) hlk hxv
      have HC2 := (show Hid _ from hC2)
      have a4 := alloc_below w4 (.cells #[.int .i64 c.c, .int .i64 c.v] 88)
      have X4 := Blk.new w4 #[.int .i64 c.c, .int .i64 c.v] 88
      have x40 := X4.cell 0; have x41 := X4.cell 1
      have b4 := hb.grown hg4 hsz (fun q hq => by cases hq; omega)
      have hsz4 : g ≤ w4.heap.size := by omega
      have O4 := O.grown hg4 (fun q hq e => by cases e; have := hob _ hq; omega)
      have O5 := O4.on a4 (Nat.le_refl _)
      have b5 := b4.trans (a4.mono hsz4)
      have hsz5 := Nat.le_trans hsz4 a4.size
      obtain ⟨v6, w6, hr6, O6, G6, L6⟩ := pushR _ ns g _ O5 hsz5 (by omega) c
      have b6 := b5.grown G6 hsz5 (fun q hq => (O5.at q hq).1)
      have hrg5 := (hrg4.alloc (.cells #[.int .i64 c.c, .int .i64 c.v] 88)).kept G6 (fun e => by have := hob _ e.symm; omega) (fun e => by have := hob _ e.symm; omega)
      have hzz : (w4.alloc (.cells #[.int .i64 c.c, .int .i64 c.v] 88)).heap.size = w4.heap.size + 1 := by simp
      rw [hzz] at hr6 L6
      obtain ⟨a6, c6, rfl⟩ := O6.form
      obtain ⟨m6, hm6⟩ : ∃ k, (ns ++ [c]).length = k := ⟨_, rfl⟩
      rw [hm6] at O6 hr6 L6
      have hob6 : ∀ q, (Value.slice a6 m6 c6).ownBlock = some q → r < q := fun q hq => by
        rcases L6 q hq with h | h
        · exact hob q h
        · omega
      have hln : (ns ++ [c]).length + cnt4 ≤ 300 := by simp; omega
      have HM := (show Hid _ from And.intro hrg5 (And.intro O6 (And.intro b6 (And.intro hob6 hln))))
      have hleq := hrg5.left_eq
      have hleq0 := hrg.left_eq
      have HL : Hid (w6.rangeLeft m r < wr.rangeLeft m r) := by show _ < _; rw [hleq, hleq0]; exact hlt
      have e3 : (Value.int .i64 x) = .int .i64 c.c := by rw [hxc]
      clear hhas hu e1 e2 hxv hC hC2 hat hlk hkey hy hrg4 hrg O4 O5 O6 X4 a4 b4 b5 G6 hrg5 hleq hleq0 hm6 hln hob6 ec hg4 hs4 O hob L6 hzz b6
      go_wp2_with (at_builtin; refine wpList_app _ rfl _ _ 28 rfl _ _ _ _ rfl rfl hr6 ?_)
      clear hr6
      go_roundw
      case rel => exact ⟨_, cnt4, HM.out.1, ns ++ [c], a6, m6, c6, ⟨rfl, rfl, rfl⟩, HM.out.2.1, HC2.out, HM.out.2.2.2.2, HM.out.2.2.1, HM.out.2.2.2.1⟩
      case measure => exact HL.out

set_option maxRecDepth 100000 in
set_option maxHeartbeats 3200000 in
theorem implCellsOf (v : Value) (xs : List R2) (B : Nat) (w : World) (hv : Sees2 B w v xs) (hB : B ≤ w.heap.size) :
    Calls Try.prog 64 #[v] w fun e w' => ∃ v', e = .returned v' ∧ Ints.Owns w.heap.size w' v' (cellsOf xs) ∧ Below w.heap.size w w' := by
  have cN := implNet v xs B w hv hB
  obtain ⟨a, cap, rfl⟩ := hv.form
  obtain ⟨g, hg⟩ : ∃ g, w.heap.size = g := ⟨_, rfl⟩
  rw [hg] at hB cN ⊢
  have hl8 := netOf_length xs
  obtain ⟨ns, hns⟩ : ∃ l, netOf xs = l := ⟨_, rfl⟩
  have HC : Hid (cellsOf xs = ns.map R2.c) := by show _ = _; unfold cellsOf; rw [hns]
  rw [hns] at cN hl8
  obtain ⟨m, hm⟩ : ∃ m, ns.length = m := ⟨_, rfl⟩
  have HM := (show Hid _ from hm)
  rw [hm] at hl8
  have hl8' : (m : Int) ≤ 8 := by omega
  clear hns
  go_enter Try.func64, Try.ntmps64
  go_wp2_with fail
  refine cN.mono ?_
  rintro e w1 ⟨vn, rfl, On, b1⟩
  clear cN
  have sN := On.sees
  have hgw1 : g ≤ w1.heap.size := by have := b1.size; omega
  obtain ⟨an, cn, rfl⟩ := sN.form
  rw [hm] at sN
  rw [hm]
  obtain ⟨q, hq⟩ : ∃ q, w1.heap.size = q := ⟨_, rfl⟩
  rw [hq] at sN hgw1
  have c0 : Below q w1 w1 := Below.refl _ _
  clear hm
  go_wp2
  go_loopw [3, 9] (fun ov iv wr => ∃ (k cx : Nat) (ax : Option Addr), k ≤ m ∧ iv = .int .i64 k ∧ ov = .slice ax k cx ∧ Ints.Owns q wr (.slice ax k cx) ((ns.map R2.c).take k) ∧ Below q w1 wr) (fun _ iv _ => m - (intOf iv).toNat)
  case atStart => exact ⟨0, _, _, Nat.zero_le _, rfl, rfl, ⟨by simp [Ints.iv], .inl ⟨rfl, rfl⟩⟩, c0⟩
  case round =>
    obtain ⟨k, cx, ax, hk, rfl, rfl, O, hb⟩ := hrel
    clear c0
    have hsz : q ≤ wr.heap.size := by have := hb.size; omega
    by_cases hlt : k < m
    · have hkm : k < ns.length := by rw [HM.out]; exact hlt
      obtain ⟨b, off, rfl, hbB, hc⟩ := (sN.on hb (Nat.le_refl _)).open (by omega)
      obtain ⟨a0, a1⟩ := at2 (hc k hkm)
      have i1 : (k : Int) < m := by omega
      have HE : Hid ((ns.map R2.c).take (k + 1) = (ns.map R2.c).take k ++ [ns[k].c]) := by
        show _ = _
        rw [List.take_succ_eq_append_getElem (by simpa using hkm)]; simp
      have hl : ((ns.map R2.c).take k).length = k := by rw [List.length_take, List.length_map]; omega
      have hl1 : ((ns.map R2.c).take (k + 1)).length = k + 1 := by rw [List.length_take, List.length_map]; omega
      obtain ⟨x, hx⟩ : ∃ x, ns[k] = x := ⟨_, rfl⟩
      rw [hx] at a0 a1 HE
      change wr.cell? ⟨b, off + k * 2, none⟩ = _ at a0
      change wr.cell? ⟨b, off + k * 2 + 1, none⟩ = _ at a1
      have X4 := Blk.new wr #[.int .i64 x.c, .int .i64 x.v] 88
      have x40 := X4.cell 0; have x41 := X4.cell 1
      have a4 := alloc_below wr (.cells #[.int .i64 x.c, .int .i64 x.v] 88)
      have O5 := O.on a4 (Nat.le_refl _)
      have b5 := hb.trans (a4.mono hsz)
      have hsz5 := Nat.le_trans hsz a4.size
      obtain ⟨v3, w3, hr3, O3, G3, L3⟩ := pushI _ _ q _ O5 hsz5 (by omega) x.c
      rw [← HE.out] at O3
      have b3 := b5.grown G3 hsz5 (fun q hq => (O5.at q hq).1)
      have hzz : (wr.alloc (.cells #[.int .i64 x.c, .int .i64 x.v] 88)).heap.size = wr.heap.size + 1 := by simp
      rw [hzz] at hr3
      obtain ⟨a3, c3, rfl⟩ := O3.form
      rw [hl1] at O3 hr3
      clear hc hx hl hl1 L3 G3 hzz X4 a4 O5 b5 hsz5 O
      go_wp2_with (at_builtin; refine wpList_app _ rfl _ _ 23 rfl _ _ _ _ rfl rfl hr3 ?_)
      clear hr3
      go_roundw
      case rel => exact ⟨k + 1, _, _, by omega, by go_num, rfl, O3, b3⟩
      case measure => simp [intOf]; omega
    · obtain rfl : k = m := by omega
      have hT : (ns.map R2.c).take k = cellsOf xs := by rw [HC.out, List.take_of_length_le (by rw [List.length_map, HM.out]; exact Nat.le_refl _)]
      rw [hT] at O
      have i1 : ¬ (k : Int) < k := by omega
      go_wp2
      go_ret
      exact ⟨_, rfl, O.mono hgw1, b1.trans (hb.mono hgw1)⟩
end Logs
end Go.Proofs.Ytajbmokidcdfnaa
