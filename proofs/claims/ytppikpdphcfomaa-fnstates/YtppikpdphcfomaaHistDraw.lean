/- What DrawStateAt and its like draw, told loosely: histories. -/
import Derived.Test.YtppikpdphcfomaaLogDraw
import Derived.Test.YtppikpdphcfomaaHistRow
set_option linter.unusedVariables false
set_option linter.unusedSimpArgs false
namespace Go.Proofs.Ytppikpdphcfomaa
open Go.RowKit
namespace Hist
open Bas Flat Logs Draw

set_option maxRecDepth 100000 in
set_option maxHeartbeats 1600000 in
/-- l8Rows -/
theorem rows4E {B g : Nat} {v : Value} {l : List UInt8} {w : World} (h : Dr B g v l w) :
    Calls Try.prog 97 #[.pointer (some ⟨g, 0, none⟩), .int .i64 4] w fun e w' => ∃ v' xs, e = .returned v' ∧ RSt B g v l w w' v' xs ∧ xs.length ≤ 4 := by
  have P0 : RSt B g v l w (w.alloc (.cells #[] 87)) (.slice (some ⟨w.heap.size, 0, none⟩) 0 0) [] :=
    { D := h.alloc _, G := World.grownBy_alloc w _ _, O := owns_litR w (Nat.le_refl _), lt := h.lt }
  clear h
  go_enter Try.func97, Try.ntmps97
  go_wp2_with fail
  refine (belowE P0.D 5 (by omega)).mono ?_
  rintro e w1 ⟨m, rfl, m1, m2, D, G⟩
  have P1 := P0.draw D G
  clear P0 D G
  obtain ⟨k, rfl⟩ := Int.eq_ofNat_of_zero_le m1
  go_wp2
  go_loopw [5, 6] (fun ov nv wr => ∃ (a : Option Addr) (n cap j : Nat) (xs : List R2), ov = .slice a n cap ∧ nv = .int .i64 (j : Int) ∧ xs.length = n ∧ n + j ≤ 4 ∧ RSt B g v l w wr (.slice a n cap) xs) (fun _ nv _ => (intOf nv).toNat)
  case atStart => exact ⟨some ⟨w.heap.size, 0, none⟩, 0, 0, k, [], rfl, rfl, rfl, by omega, P1⟩
  case round =>
    obtain ⟨a, n, cap, j, xs, rfl, rfl, hx, hnj, P⟩ := hrel
    clear P1
    have HX := (show Hid _ from hx)
    clear hx
    by_cases hlt : 0 < j
    · have i1 : (0 : Int) < j := by omega
      go_wp2_with fail
      refine (cellE P.D).mono ?_
      rintro e w2 ⟨x, rfl, x0, x1, D, G⟩
      have P := P.draw D G
      clear D G
      go_wp2_with fail
      refine (drawE P.D).mono ?_
      rintro e w3 ⟨y, rfl, y0, y1, D, G⟩
      have P := P.draw D G
      clear D G
      obtain ⟨o3, W3, hr, P⟩ := P.push (⟨x, y⟩ : R2) (by rw [HX.out]; omega)
      obtain ⟨a3, cap3, rfl⟩ := P.O.form
      have hl3 : (xs ++ [(⟨x, y⟩ : R2)]).length = n + 1 := by simp [HX.out]
      rw [hl3] at hr P
      have HL := (show Hid _ from hl3)
      clear hl3
      change (Builtin.append_ #[31, 31] 31 #[.slice a n cap, .slice (some ⟨w3.heap.size, 0, none⟩) 1 1]).run Try.prog (w3.alloc (.cells #[.int .i64 x, .int .i64 y] 87)) = _ at hr
      go_wp2_with (at_builtin; refine wpList_app _ rfl _ _ 31 rfl _ _ _ _ rfl rfl hr ?_)
      clear hr
      obtain ⟨j', rfl⟩ : ∃ j', j = j' + 1 := ⟨j - 1, by omega⟩
      go_roundw
      case rel => exact ⟨a3, n + 1, cap3, j', xs ++ [(⟨x, y⟩ : R2)], rfl, by go_num, HL.out, by omega, P⟩
      case measure => simp [intOf]
    · obtain rfl : j = 0 := by omega
      go_wp2
      go_ret
      exact ⟨_, xs, rfl, P, by rw [HX.out]; omega⟩


theorem OwnX.up {lo hi hi' : Nat} {w : World} {v : Value} {xs : List Wx} (h : OwnX lo hi w v xs) (hh : hi ≤ hi') : OwnX lo hi' w v xs :=
  ⟨h.row, fun k hk => Nat.lt_of_lt_of_le (h.top k hk) hh, fun x hx => ⟨(h.each x hx).1, fun k hk => Nat.lt_of_lt_of_le ((h.each x hx).2 k hk) hh⟩, h.dis⟩
/-- a history that is drawn, entry by entry -/
structure HSt (B g : Nat) (v : Value) (l : List UInt8) (w W : World) (out : Value) (xs : List Wx) : Prop where
  D : Dr B g v l W
  G : w.grownBy W (some g)
  X : OwnX w.heap.size W.heap.size W out xs
  lt : g < w.heap.size
section
variable {B g : Nat} {v : Value} {l : List UInt8} {w W W' : World} {out : Value} {xs : List Wx} {x : Wx}
theorem HSt.draw (h : HSt B g v l w W out xs) (D : Dr B g v l W') (G : W.grownBy W' (some g)) : HSt B g v l w W' out xs :=
  have a := h.lt
  { D := D, G := grown_trans h.G G, X := (h.X.keep fun k h1 h2 h3 => G.block k h3 (fun e => by injection e with e; omega)).up G.size, lt := a }
theorem HSt.new (h : HSt B g v l w W out xs) (o : Obj) : HSt B g v l w (W.alloc o) out xs :=
  { D := h.D.alloc o, G := grown_new h.G o, X := (h.X.keep fun k h1 h2 h3 => (alloc_below W o).block k h3).up (by simp), lt := h.lt }
theorem seesOneX (W : World) (x : Wx) : Sees wxEl (W.heap.size + 1) (W.alloc (.cells #[.int .i64 x.s, .int .i64 x.who, .slice x.a x.n x.cap] 33)) (.slice (some ⟨W.heap.size, 0, none⟩) 1 1) [x] :=
  ⟨_, 1, rfl, by simp, by unfold maxLen; omega, fun _ => ⟨W.heap.size, 0, rfl, by omega, fun j hj => by
    have hj0 : j = 0 := by simpa using hj
    subst hj0
    intro i u hu
    have hb : Blk (W.alloc (.cells #[.int .i64 x.s, .int .i64 x.who, .slice x.a x.n x.cap] 33)) W.heap.size #[.int .i64 x.s, .int .i64 x.who, .slice x.a x.n x.cap] 33 := Blk.new W _ _
    simp only [Nat.zero_mul, Nat.zero_add]
    rw [hb.cell]
    change [Value.int .i64 x.s, .int .i64 x.who, .slice x.a x.n x.cap][i]? = some u at hu
    simpa using hu⟩⟩
/-- append(out, x) -/
theorem HSt.snoc (h : HSt B g v l w W out xs) (hx : Owns2 w.heap.size W x.sl x.ps) (hd : ∀ y ∈ xs, Dis y.sl x.sl) (hlen : xs.length ≤ 1000) :
    ∃ out' W', (Builtin.append_ #[25, 25] 25 #[out, .slice (some ⟨W.heap.size, 0, none⟩) 1 1]).run Try.prog (W.alloc (.cells #[.int .i64 x.s, .int .i64 x.who, .slice x.a x.n x.cap] 33)) = .ok out' W' ∧ HSt B g v l w W' out' (xs ++ [x]) := by
  have h1 := h.new (.cells #[.int .i64 x.s, .int .i64 x.who, .slice x.a x.n x.cap] 33)
  have hx1 := hx.on (alloc_below W (.cells #[.int .i64 x.s, .int .i64 x.who, .slice x.a x.n x.cap] 33)) (Nat.le_refl _)
  have hlt := h1.lt
  have hsz := h1.G.size
  obtain ⟨out', W', hr, hO, hG, hL⟩ := app rowWx out _ 25 xs [x] _ w.heap.size _ h1.X.row hsz (seesOneX W x) (by simp; omega)
  have hxa := hx1.at
  refine ⟨out', W', hr, { D := h1.D.grown hG (fun k hk => by have := h1.X.row.at k hk; omega), G := ?_, X := ⟨hO, fun k hk => (hO.at k hk).2, fun y hy => ?_, ?_⟩, lt := hlt }⟩
  · exact ⟨hG.os.trans h1.G.os, hG.tape.trans h1.G.tape, hG.output.trans h1.G.output, Nat.le_trans hsz hG.size, fun i hi hne => (hG.block i (by omega) (fun e => by have := h1.X.row.at i e.symm; omega)).trans (h1.G.block i hi hne)⟩
  · rcases List.mem_append.1 hy with hy | hy
    · have := ((h1.X.each y hy).1).grown hG (fun k hk => own_apt (h1.X.each y hy).1 h1.X.row (by decide) k hk)
      exact ⟨this, fun k hk => (this.at k hk).2⟩
    · rw [List.mem_singleton.1 hy]
      have := hx1.grown hG (fun k hk => own_apt hx1 h1.X.row (by decide) k hk)
      exact ⟨this, fun k hk => (this.at k hk).2⟩
  · rw [List.map_append]
    exact List.pairwise_append.2 ⟨h.X.dis, List.pairwise_singleton _ _, fun a ha b hb => by
      obtain ⟨y, hy, rfl⟩ := List.mem_map.1 ha
      rw [List.mem_singleton.1 hb]; exact hd y hy⟩
/-- append([]Wrote{x}, out...) -/
theorem HSt.cons (h : HSt B g v l w W out xs) (hx : Owns2 w.heap.size W x.sl x.ps) (hd : ∀ y ∈ xs, Dis y.sl x.sl) (hlen : xs.length ≤ 1000) :
    ∃ out' W', (Builtin.append_ #[25, 25] 25 #[.slice (some ⟨W.heap.size, 0, none⟩) 1 1, out]).run Try.prog (W.alloc (.cells #[.int .i64 x.s, .int .i64 x.who, .slice x.a x.n x.cap] 33)) = .ok out' W' ∧ HSt B g v l w W' out' (x :: xs) := by
  have h1 := h.new (.cells #[.int .i64 x.s, .int .i64 x.who, .slice x.a x.n x.cap] 33)
  have hx1 := hx.on (alloc_below W (.cells #[.int .i64 x.s, .int .i64 x.who, .slice x.a x.n x.cap] 33)) (Nat.le_refl _)
  have hlt := h1.lt
  have hsz := h1.G.size
  have hwl := h.G.size
  have hL0 : Owns wxEl 33 w.heap.size (W.alloc (.cells #[.int .i64 x.s, .int .i64 x.who, .slice x.a x.n x.cap] 33)) (.slice (some ⟨W.heap.size, 0, none⟩) 1 1) [x] :=
    World.ownsRow_lit W #[.int .i64 x.s, .int .i64 x.who, .slice x.a x.n x.cap] 1 hwl (by simp [maxLen]) rfl
  obtain ⟨out', W', hr, hO, hG, hL⟩ := app rowWx (.slice (some ⟨W.heap.size, 0, none⟩) 1 1) out 25 [x] xs _ w.heap.size _ hL0 hsz h1.X.row.sees (by simp; omega)
  have hxa := hx1.at
  have hgl := h.D.lt
  have hbl : ∀ k, (Value.slice (some ⟨W.heap.size, 0, none⟩) 1 1).ownBlock = some k → k = W.heap.size := fun k hk => by cases hk; rfl
  refine ⟨out', W', hr, { D := h1.D.grown hG (fun k hk => by have := hbl k hk; omega), G := ?_, X := ⟨hO, fun k hk => (hO.at k hk).2, fun y hy => ?_, ?_⟩, lt := hlt }⟩
  · exact ⟨hG.os.trans h1.G.os, hG.tape.trans h1.G.tape, hG.output.trans h1.G.output, Nat.le_trans hsz hG.size, fun i hi hne => (hG.block i (by omega) (fun e => by have := hbl i e.symm; omega)).trans (h1.G.block i hi hne)⟩
  · rcases List.mem_cons.1 hy with rfl | hy
    · have := hx1.grown hG (fun k hk => own_apt hx1 hL0 (by decide) k hk)
      exact ⟨this, fun k hk => (this.at k hk).2⟩
    · have := ((h1.X.each y hy).1).grown hG (fun k hk => own_apt (h1.X.each y hy).1 hL0 (by decide) k hk)
      exact ⟨this, fun k hk => (this.at k hk).2⟩
  · exact List.pairwise_cons.2 ⟨fun b hb => by
      obtain ⟨y, hy, rfl⟩ := List.mem_map.1 hb
      exact (hd y hy).symm, h.X.dis⟩
end
set_option maxRecDepth 100000 in
set_option maxHeartbeats 3200000 in
/-- l11Hist -/
theorem histE {B g : Nat} {v : Value} {l : List UInt8} {w : World} (h : Dr B g v l w) :
    Calls Try.prog 70 #[.pointer (some ⟨g, 0, none⟩)] w fun e w' => ∃ v' xs, e = .returned v' ∧ HSt B g v l w w' v' xs ∧ xs.length ≤ 5 ∧ ∀ x ∈ xs, x.ps.length ≤ 4 := by
  have P0 : HSt B g v l w (w.alloc (.cells #[] 33)) (.slice (some ⟨w.heap.size, 0, none⟩) 0 0) [] :=
    { D := h.alloc _, G := World.grownBy_alloc w _ _, X := ⟨World.ownsRow_lit w #[] 0 (Nat.le_refl _) (by simp [maxLen]) rfl, fun k hk => (by cases hk; simp), fun x hx => absurd hx List.not_mem_nil, List.Pairwise.nil⟩, lt := h.lt }
  clear h
  go_enter Try.func70, Try.ntmps70
  go_wp2_with fail
  refine (belowE P0.D 6 (by omega)).mono ?_
  rintro e w1 ⟨m, rfl, m1, m2, D, G⟩
  have P1 := P0.draw D G
  clear P0 D G
  obtain ⟨k, rfl⟩ := Int.eq_ofNat_of_zero_le m1
  go_wp2
  go_loopw [3, 4, 5] (fun ov tv nv wr => ∃ (a : Option Addr) (n cap j : Nat) (t : Int) (xs : List Wx), ov = .slice a n cap ∧ tv = .int .i64 t ∧ nv = .int .i64 (j : Int) ∧ Hid (xs.length = n) ∧ Hid (∀ x ∈ xs, x.ps.length ≤ 4) ∧ n + j ≤ 5 ∧ 0 ≤ t ∧ t ≤ 1000 - 100 * (j : Int) ∧ HSt B g v l w wr (.slice a n cap) xs) (fun _ _ nv _ => (intOf nv).toNat)
  case atStart => exact ⟨some ⟨w.heap.size, 0, none⟩, 0, 0, k, 0, [], rfl, rfl, rfl, rfl, fun x hx => absurd hx List.not_mem_nil, by omega, by omega, by omega, P1⟩
  case round =>
    obtain ⟨a, n, cap, j, t, xs, rfl, rfl, rfl, HX, HR, hnj, t0, t1, P⟩ := hrel
    clear P1 m1 m2
    by_cases hlt : 0 < j
    · have i1 : (0 : Int) < j := by omega
      go_wp2_with fail
      refine (belowE P.D 3 (by omega)).mono ?_
      rintro e w2 ⟨x, rfl, x0, x1, D, G⟩
      replace P := P.draw D G
      clear D G
      obtain ⟨t', ht'⟩ : ∃ t', t + 1 + x = t' := ⟨_, rfl⟩
      have hw1 : IntKind.i64.wrap (t + 1) = t + 1 := by rw [IntKind.wrap_i64]; omega
      have hw2 : IntKind.i64.wrap (t + 1 + x) = t + 1 + x := by rw [IntKind.wrap_i64]; omega
      have t2 : 0 ≤ t' ∧ t' ≤ 1000 - 100 * ((j : Int) - 1) := by omega
      have HT := (show Hid (t + 1 + x = t') from ht')
      go_wp2_with fail
      refine (belowE P.D 4 (by omega)).mono ?_
      rintro e w3 ⟨y, rfl, y0, y1, D, G⟩
      replace P := P.draw D G
      clear D G
      have hw3 : IntKind.i64.wrap (1 + y) = 1 + y := by rw [IntKind.wrap_i64]; omega
      try rw [ht']
      clear ht' hw1 hw2
      go_wp2_with fail
      refine (rows4E P.D).mono ?_
      rintro e w4 ⟨v4, rs, rfl, R, hrl⟩
      obtain ⟨ar, cr, rfl⟩ := R.O.form
      have hd : ∀ y ∈ xs, Dis y.sl (.slice ar rs.length cr) := fun y hy q h1 h2 => by
        have a1 := (P.X.each y hy).2 q h1
        have a2 := (R.O.at q h2).1
        omega
      have hg := P.lt
      have O4 : Owns2 w.heap.size w4 (.slice ar rs.length cr) rs := R.O.mono P.G.size
      replace P := P.draw R.D R.G
      clear R
      obtain ⟨nr, hnr⟩ : ∃ n, rs.length = n := ⟨_, rfl⟩
      have HRL := (show Hid (rs.length ≤ 4) from hrl)
      clear hrl
      rw [hnr] at hd O4 ⊢
      have X0 := Blk.new w4 #[.int .i64 t', .int .i64 (1 + y), .slice ar nr cr] 33
      have O5 := O4.on (alloc_below w4 (.cells #[.int .i64 t', .int .i64 (1 + y), .slice ar nr cr] 33)) (Nat.le_refl _)
      have hgw2 : g < w4.heap.size := P.D.lt
      have hgw : g ≠ w4.heap.size := by omega
      replace P := P.new (.cells #[.int .i64 t', .int .i64 (1 + y), .slice ar nr cr] 33)
      obtain ⟨W5, hW5⟩ : ∃ W, w4.alloc (.cells #[.int .i64 t', .int .i64 (1 + y), .slice ar nr cr] 33) = W := ⟨_, rfl⟩
      rw [hW5] at X0 O5 P
      obtain ⟨pb, hpb⟩ : ∃ p, w4.heap.size = p := ⟨_, rfl⟩
      rw [hpb] at X0 hgw hgw2
      go_wp2_with fail
      try rw [hW5]
      refine (onceE P.D 3).mono ?_
      rintro e w6 ⟨b, rfl, D, G⟩
      have X6 := X0.grown G (fun e => by injection e with e; omega)
      have O6 := O5.grown G (fun k hk e => by injection e with e; have := O5.at k hk; omega)
      replace P := P.draw D G
      clear D G O5 X0 hW5 O4
      have c0 := X6.cell 0; have c1 := X6.cell 1; have c2 := X6.cell 2
      obtain ⟨j', rfl⟩ : ∃ j', j = j' + 1 := ⟨j - 1, by omega⟩
      cases b
      · obtain ⟨o3, W3, hr, P3⟩ := P.snoc (x := ⟨t', 1 + y, ar, nr, cr, rs⟩) O6 hd (by rw [HX.out]; omega)
        obtain ⟨a3, cap3, e3⟩ := P3.X.row.form
        have hl3 : (xs ++ [(⟨t', 1 + y, ar, nr, cr, rs⟩ : Wx)]).length = n + 1 := by simp [HX.out]
        rw [hl3] at e3
        subst e3
        have HL := (show Hid _ from hl3)
        clear hl3
        change (Builtin.append_ #[25, 25] 25 #[.slice a n cap, .slice (some ⟨w6.heap.size, 0, none⟩) 1 1]).run Try.prog (w6.alloc (.cells #[.int .i64 t', .int .i64 (1 + y), .slice ar nr cr] 33)) = _ at hr
        go_wp2_with (at_builtin; refine wpList_app _ rfl _ _ 25 rfl _ _ _ _ rfl rfl hr ?_)
        clear hr
        go_roundw
        case rel => exact ⟨a3, n + 1, cap3, j', t', _, rfl, rfl, by go_num, HL.out, fun y hy => (List.mem_append.1 hy).elim (HR.out y) (fun e => by rw [List.mem_singleton.1 e]; exact HRL.out), by omega, by omega, by omega, P3⟩
        case measure => simp [intOf]
      · obtain ⟨o3, W3, hr, P3⟩ := P.cons (x := ⟨t', 1 + y, ar, nr, cr, rs⟩) O6 hd (by rw [HX.out]; omega)
        obtain ⟨a3, cap3, e3⟩ := P3.X.row.form
        have hl3 : ((⟨t', 1 + y, ar, nr, cr, rs⟩ : Wx) :: xs).length = n + 1 := by simp [HX.out]
        rw [hl3] at e3
        subst e3
        have HL := (show Hid _ from hl3)
        clear hl3
        change (Builtin.append_ #[25, 25] 25 #[.slice (some ⟨w6.heap.size, 0, none⟩) 1 1, .slice a n cap]).run Try.prog (w6.alloc (.cells #[.int .i64 t', .int .i64 (1 + y), .slice ar nr cr] 33)) = _ at hr
        go_wp2_with (at_builtin; refine wpList_app _ rfl _ _ 25 rfl _ _ _ _ rfl rfl hr ?_)
        clear hr
        go_roundw
        case rel => exact ⟨a3, n + 1, cap3, j', t', _, rfl, rfl, by go_num, HL.out, fun y hy => (List.mem_cons.1 hy).elim (fun e => by rw [e]; exact HRL.out) (HR.out y), by omega, by omega, by omega, P3⟩
        case measure => simp [intOf]
    · obtain rfl : j = 0 := by omega
      go_wp2
      go_ret
      exact ⟨_, xs, rfl, P, by rw [HX.out]; omega, HR.out⟩

/-- a history in blocks from lo on -/
def HasW (lo : Nat) (w : World) (v : Value) (ls : List Wr) : Prop := ∃ xs : List Wx, Owns wxEl 33 lo w v xs ∧ (∀ x ∈ xs, Owns2 lo w x.sl x.ps) ∧ xs.map Wx.wr = ls
theorem HasW.sees {lo : Nat} {w : World} {v : Value} {ls : List Wr} (h : HasW lo w v ls) : SeesW w.heap.size w v ls := by
  obtain ⟨xs, h1, h2, h3⟩ := h
  exact ⟨xs, h1.sees, fun x hx => (h2 x hx).sees, h3⟩
theorem HasW.grown {lo g : Nat} {w w' : World} {v : Value} {ls : List Wr} (h : HasW lo w v ls) (hg : w.grownBy w' (some g)) (hlt : g < lo) : HasW lo w' v ls := by
  obtain ⟨xs, h1, h2, h3⟩ := h
  exact ⟨xs, h1.grown hg (fun k hk e => by injection e with e; have := h1.at k hk; omega), fun x hx => (h2 x hx).grown hg (fun k hk e => by injection e with e; have := (h2 x hx).at k hk; omega), h3⟩
/-- a field of an entry is stored -/
theorem fieldW {lo q n cap i : Nat} {w : World} {xs : List Wx} (hrow : Owns wxEl 33 lo w (.slice (some ⟨q, 0, none⟩) n cap) xs) (hn : xs.length = n) (hi' : i < xs.length) (hoth : ∀ j (h : j < xs.length), j ≠ i → Owns2 lo w xs[j].sl xs[j].ps)
    (c : Nat) (hc : c < 3) (u : Value) (y : Wx) (he : wxEl.cells y = (wxEl.cells xs[i]).set c u) (hy : Owns2 lo w y.sl y.ps) :
    HasW lo (w.setCell ⟨q, i * 3 + c, none⟩ u) (.slice (some ⟨q, 0, none⟩) n cap) ((xs.set i y).map Wx.wr) := by
  have hr := hrow
  unfold Owns at hr
  rw [hn] at hr
  have hr2 := own_set (E := wxEl) hr i hi' c hc u y he
  have hr3 : Owns wxEl 33 lo (w.setCell ⟨q, i * 3 + c, none⟩ u) (.slice (some ⟨q, 0, none⟩) n cap) (xs.set i y) := by unfold Owns; rw [List.length_set, hn]; exact hr2
  have keep : ∀ z : Wx, Owns2 lo w z.sl z.ps → Owns2 lo (w.setCell ⟨q, i * 3 + c, none⟩ u) z.sl z.ps := fun z h3 => h3.other (fun b hb e => by subst e; exact own_apt hrow h3 (by decide) b rfl hb.symm) u
  refine ⟨xs.set i y, hr3, fun z hz' => ?_, rfl⟩
  obtain ⟨j, hj, rfl⟩ := List.mem_iff_getElem.1 hz'
  have hj' : j < xs.length := by simpa using hj
  by_cases hji : i = j
  · subst hji
    rw [List.getElem_set_self]
    exact keep y hy
  · rw [List.getElem_set_ne hji]
    exact keep _ (hoth j hj' (fun e => hji e.symm))
theorem OwnX.has {lo hi : Nat} {w : World} {v : Value} {xs : List Wx} (h : OwnX lo hi w v xs) : HasW lo w v (xs.map Wx.wr) := ⟨xs, h.row, fun x hx => (h.each x hx).1, rfl⟩
theorem own_someX {B n cap : Nat} {w : World} {a : Option Addr} {xs : List Wx} (h : Owns wxEl 33 B w (.slice a n cap) xs) (hn : 0 < n) : ∃ q, a = some ⟨q, 0, none⟩ ∧ B ≤ q ∧ q < w.heap.size := by
  rcases h.2 with ⟨h', h0⟩ | ⟨q, c', cur, h', hB, hg, hle, _⟩
  · simp only [Value.slice.injEq] at h'; omega
  · simp only [Value.slice.injEq] at h'
    obtain ⟨rfl, -, -⟩ := h'
    exact ⟨q, rfl, hB, (Array.getElem?_eq_some_iff.1 hg).1⟩

set_option maxRecDepth 100000 in
set_option maxHeartbeats 3200000 in
/-- l11Any -/
theorem anyHistE {B g : Nat} {v : Value} {l : List UInt8} {w : World} (h : Dr B g v l w) :
    Calls Try.prog 39 #[.pointer (some ⟨g, 0, none⟩)] w fun e w' => ∃ v' ls, e = .returned v' ∧ HasW w.heap.size w' v' ls ∧ Dr B g v l w' ∧ w.grownBy w' (some g) := by
  go_enter Try.func39, Try.ntmps39
  go_wp2_with fail
  refine (histE h).mono ?_
  rintro e w1 ⟨v1, xs, rfl, P, hx, hps⟩
  have HPS := (show Hid _ from hps)
  clear h hps
  obtain ⟨a, cap, rfl⟩ := P.X.row.form
  obtain ⟨n, hn⟩ : ∃ n, xs.length = n := ⟨_, rfl⟩
  have HX := (show Hid _ from hn)
  rw [hn] at P hx ⊢
  clear hn
  by_cases h0 : n = 0
  · subst h0
    go_wp2
    go_ret
    exact ⟨_, _, rfl, P.X.has, P.D, P.G⟩
  have hnI : (0 : Int) < n := by omega
  have hd0 : ((n : Int) == 0) = false := by simpa using h0
  clear h0
  go_wp2_with fail
  refine (belowE P.D n hnI).mono ?_
  rintro e w2 ⟨m, rfl, m1, m2, D, G⟩
  replace P := P.draw D G
  clear D G
  obtain ⟨k, rfl⟩ := Int.eq_ofNat_of_zero_le m1
  go_wp2_with fail
  refine (belowE P.D 20 (by omega)).mono ?_
  rintro e w3 ⟨t, rfl, t1, t2, D, G⟩
  replace P := P.draw D G
  clear D G
  obtain ⟨q, rfl, hq1, hq2⟩ := own_someX P.X.row (by omega)
  have hkx : k < xs.length := by rw [HX.out]; omega
  have h0x : 0 < xs.length := by omega
  have hr := P.X.row
  unfold Owns at hr
  rw [HX.out] at hr
  obtain ⟨c0, c1, c2⟩ := at3 (own_at (E := wxEl) hr k hkx)
  obtain ⟨d0, -, -⟩ := at3 (own_at (E := wxEl) hr 0 h0x)
  change w3.cell? ⟨q, k * 3, none⟩ = _ at c0
  change w3.cell? ⟨q, k * 3 + 1, none⟩ = _ at c1
  change w3.cell? ⟨q, k * 3 + 2, none⟩ = _ at c2
  change w3.cell? ⟨q, 0 * 3, none⟩ = _ at d0
  rw [Nat.zero_mul] at d0
  have hfz := fun j => hr.frozenAt j
  have hoth : ∀ j (h : j < xs.length), j ≠ k → Owns2 w.heap.size w3 xs[j].sl xs[j].ps := fun j hj _ => (P.X.each _ (List.getElem_mem hj)).1
  have hxk := (P.X.each _ (List.getElem_mem hkx)).1
  have hgl := P.lt
  have hGq : ∀ (c : Nat) (u : Value), w.grownBy (w3.setCell ⟨q, c, none⟩ u) (some g) := fun c u => grown_store P.G hq1 c u
  have hDq : ∀ (c : Nat) (u : Value), Dr B g v l (w3.setCell ⟨q, c, none⟩ u) := fun c u => P.D.set (by omega) c u
  by_cases q0 : t = 0
  · subst q0
    have F := fieldW P.X.row HX.out hkx hoth 0 (by omega) (.int .i64 xs[0].s) ⟨xs[0].s, xs[k].who, xs[k].a, xs[k].n, xs[k].cap, xs[k].ps⟩ rfl hxk
    have HF := (show Hid _ from F)
    obtain ⟨s0, hs0⟩ : ∃ s, xs[0].s = s := ⟨_, rfl⟩
    rw [hs0] at d0
    have HS := (show Hid _ from hs0)
    clear F hs0 hxk hoth c1 c2
    go_wp2
    go_ret
    exact ⟨_, _, rfl, by have := HF.out; rw [HS.out] at this; exact this, hDq _ _, hGq _ _⟩
  have e0 : (t == 0) = false := by simpa using q0
  by_cases q1 : t = 1
  · subst q1
    have F := fieldW P.X.row HX.out hkx hoth 0 (by omega) (.int .i64 0) ⟨0, xs[k].who, xs[k].a, xs[k].n, xs[k].cap, xs[k].ps⟩ rfl hxk
    have HF := (show Hid _ from F)
    clear F hxk hoth c1 c2 q0 e0 d0
    go_wp2
    go_ret
    exact ⟨_, _, rfl, HF.out, hDq _ _, hGq _ _⟩
  have e1 : (t == 1) = false := by simpa using q1
  by_cases q2 : t = 2
  · subst q2
    have F := fieldW P.X.row HX.out hkx hoth 1 (by omega) (.int .i64 0) ⟨xs[k].s, 0, xs[k].a, xs[k].n, xs[k].cap, xs[k].ps⟩ rfl hxk
    have HF := (show Hid _ from F)
    clear F hxk hoth c0 c2 q0 e0 d0 q1 e1
    go_wp2
    go_ret
    exact ⟨_, _, rfl, HF.out, hDq _ _, hGq _ _⟩
  have e2 : (t == 2) = false := by simpa using q2
  by_cases q3 : t = 3
  · subst q3
    have hpl : xs[k].n = xs[k].ps.length := by
      obtain ⟨a', c', e⟩ := hxk.form
      unfold Wx.sl at e
      simp only [Value.slice.injEq] at e; exact e.2.1
    obtain ⟨o3, W3, hr3, O3, G3, -⟩ := pushR xs[k].sl xs[k].ps _ w3 hxk P.G.size (by have := HPS.out _ (List.getElem_mem hkx); omega) (⟨8, 0⟩ : R2)
    obtain ⟨a3, c3, rfl⟩ := O3.form
    have hg3 := fun y hy => own_apt hxk P.X.row (by decide) y hy
    have hkat := hxk.at
    have hrow3 := P.X.row.grown G3 (fun b hb e => hg3 b e.symm hb.symm)
    have hoth3 : ∀ j (h : j < xs.length), j ≠ k → Owns2 w.heap.size W3 xs[j].sl xs[j].ps := fun j hj hjk => (hoth j hj hjk).grown G3 (fun b hb e => by
      have hd := List.pairwise_iff_getElem.1 P.X.dis
      rcases Nat.lt_or_gt_of_ne hjk with h1 | h1
      · have := hd j k (by simpa using hj) (by simpa using hkx) h1 b
        rw [List.getElem_map, List.getElem_map] at this
        exact this hb e.symm
      · have := hd k j (by simpa using hkx) (by simpa using hj) h1 b
        rw [List.getElem_map, List.getElem_map] at this
        exact this e.symm hb)
    have F := fieldW hrow3 HX.out hkx hoth3 2 (by omega) (.slice a3 (xs[k].ps ++ [(⟨8, 0⟩ : R2)]).length c3) ⟨xs[k].s, xs[k].who, a3, _, c3, _⟩ rfl O3
    have HF := (show Hid _ from F)
    have D3 : Dr B g v l W3 := P.D.grown G3 (fun b hb => by have := hkat b hb; omega)
    have GG : w.grownBy W3 (some g) := ⟨G3.os.trans P.G.os, G3.tape.trans P.G.tape, G3.output.trans P.G.output, Nat.le_trans P.G.size G3.size, fun i hi hne => (G3.block i (by have := P.G.size; omega) (fun e => by have := hkat i e.symm; omega)).trans (P.G.block i hi hne)⟩
    have hr4 := hrow3
    unfold Owns at hr4
    rw [HX.out] at hr4
    obtain ⟨-, -, f2⟩ := at3 (own_at (E := wxEl) hr4 k hkx)
    change W3.cell? ⟨q, k * 3 + 2, none⟩ = _ at f2
    have hfz4 := fun j => hr4.frozenAt j
    change (Builtin.append_ #[31, 31] 31 #[.slice xs[k].a xs[k].n xs[k].cap, .slice (some ⟨w3.heap.size, 0, none⟩) 1 1]).run Try.prog (w3.alloc (.cells #[.int .i64 8, .int .i64 0] 87)) = _ at hr3
    obtain ⟨m3, hm3⟩ : ∃ m, (xs[k].ps ++ [(⟨8, 0⟩ : R2)]).length = m := ⟨_, rfl⟩
    rw [hm3] at hr3 HF
    obtain ⟨x, hx⟩ : ∃ x, xs[k] = x := ⟨_, rfl⟩
    rw [hx] at hr3 c2 f2
    clear F hxk hoth hoth3 O3 G3 hg3 hrow3 c0 c1 d0 q0 q1 q2 e0 e1 e2 hm3 hx hkat hpl hr4 hr
    go_wp2_with (at_builtin; refine wpList_app _ rfl _ _ 31 rfl _ _ _ _ rfl rfl hr3 ?_)
    go_ret
    exact ⟨_, _, rfl, HF.out, D3.set (by omega) _ _, grown_store GG hq1 _ _⟩
  · have e3 : (t == 3) = false := by simpa using q3
    clear q0 q1 q2 q3 c0 c1 c2 d0
    go_wp2
    go_ret
    exact ⟨_, _, rfl, P.X.has, P.D, P.G⟩

/-- what DrawStateAt draws: numbers, right where they are eight; a history; a number -/
def StDrawn (w : World) (e : Ending) (w' : World) : Prop := ∃ v0 v zs ls n, e = .returned (.tuple #[v0, v, .int .i64 n]) ∧ Ints.Sees w'.heap.size w' v0 zs ∧ SeesW w'.heap.size w' v ls ∧ (zs.length = 8 → Ops.cellsOk zs = true) ∧ zs.length ≤ 8 ∧ Below w.heap.size w w'
set_option maxRecDepth 100000 in
set_option maxHeartbeats 3200000 in
theorem drawStateC (B : Nat) (v : Value) (l : List UInt8) (w : World) (hC : Draw.Code B w v l) (hB : B ≤ w.heap.size) (hl : l.length ≤ 1048576) :
    Calls Try.prog 10 #[v] w fun e w' => StDrawn w e w' := by
  obtain ⟨q, hq⟩ : ∃ q, w.heap.size = q := ⟨_, rfl⟩
  go_enter Try.func10, Try.ntmps10
  go_wp2_with fail
  refine (newC B v l w hC hB hl).mono ?_
  rintro e w1 ⟨rfl, C, G⟩
  have D0 : Dr B w.heap.size v l w1 := ⟨_, C⟩
  have b1 : Below w.heap.size w w1 := (Below.refl _ _).grown G (Nat.le_refl _) (fun k hk => by cases hk)
  clear C G
  rw [hq] at D0 b1 ⊢
  go_wp2_with fail
  refine (valsE D0).mono ?_
  rintro e w2 ⟨v2, zs, rfl, O2, hzs, D2, G2⟩
  have hl1 := D0.lt
  clear D0
  have hz8 : zs.length = 8 := by
    unfold Ops.cellsOk at hzs
    rw [Bool.and_eq_true] at hzs
    exact of_decide_eq_true hzs.1
  have b2 := b1.grown G2 (by have := b1.size; omega) (fun k hk => by cases hk; omega)
  obtain ⟨a2, c2, rfl⟩ := O2.form
  have HZ := (show Hid _ from hzs)
  have H8 := (show Hid _ from hz8)
  rw [hz8] at O2 ⊢
  clear hzs hz8 G2
  have hcap : 8 ≤ c2 := by
    have h := O2.sees
    obtain ⟨a', c', e, h1, h2, -⟩ := h
    simp only [Value.slice.injEq] at e
    rw [H8.out] at h1; omega
  have hcapI : (1 : Int) ≤ c2 := by omega
  go_wp2_with fail
  refine (onceE D2 20).mono ?_
  rintro e w3 ⟨b, rfl, D3, G3⟩
  have b3 := b2.grown G3 (by have := b2.size; omega) (fun k hk => by cases hk; omega)
  have O3 := O2.grown G3 (fun k hk e => by injection e with e; have := O2.at k hk; have := D3.lt; omega)
  clear D2 O2 G3
  cases b
  · go_wp2_with fail
    refine (anyHistE D3).mono ?_
    rintro e w4 ⟨v4, ls, rfl, S4, D4, G4⟩
    have O4 := O3.grown G4 (fun k hk e => by injection e with e; have := O3.at k hk; omega)
    have b4 := b3.grown G4 (by have := b3.size; omega) (fun k hk => by cases hk; omega)
    go_wp2_with fail
    refine (belowE D4 20 (by omega)).mono ?_
    rintro e w5 ⟨t, rfl, t1, t2, D5, G5⟩
    have O5 := O4.grown G5 (fun k hk e => by injection e with e; have := O4.at k hk; omega)
    have b5 := b4.grown G5 (by have := b4.size; omega) (fun k hk => by cases hk; omega)
    have S5 : SeesW w5.heap.size w5 v4 ls := (S4.grown G5 D3.lt).sees
    go_wp2
    refine bodyPost_ret (v := .tuple #[.slice a2 8 c2, v4, .int .i64 (t - 2)]) (by simp [results, Try.results10, go_sem]) rfl ?_
    exact ⟨_, v4, zs, ls, _, rfl, O5.sees, S5, fun _ => HZ.out, Nat.le_of_eq H8.out, by rw [hq]; exact b5⟩
  · go_wp2_with fail
    refine (anyHistE D3).mono ?_
    rintro e w4 ⟨v4, ls, rfl, S4, D4, G4⟩
    have O4 := O3.grown G4 (fun k hk e => by injection e with e; have := O3.at k hk; omega)
    have b4 := b3.grown G4 (by have := b3.size; omega) (fun k hk => by cases hk; omega)
    go_wp2_with fail
    refine (belowE D4 20 (by omega)).mono ?_
    rintro e w5 ⟨t, rfl, t1, t2, D5, G5⟩
    have O5 := O4.grown G5 (fun k hk e => by injection e with e; have := O4.at k hk; omega)
    have b5 := b4.grown G5 (by have := b4.size; omega) (fun k hk => by cases hk; omega)
    have S5 : SeesW w5.heap.size w5 v4 ls := (S4.grown G5 D3.lt).sees
    have s5 := sees_takeI O5.sees H8.out (show 1 ≤ 8 by omega)
    go_wp2
    refine bodyPost_ret (v := .tuple #[.slice a2 1 c2, v4, .int .i64 (t - 2)]) (by simp [results, Try.results10, go_sem]) rfl ?_
    exact ⟨_, v4, zs.take 1, ls, _, rfl, s5, S5, fun h => by rw [List.length_take, H8.out] at h; omega, by rw [List.length_take]; omega, by rw [hq]; exact b5⟩
end Hist
end Go.Proofs.Ytppikpdphcfomaa
