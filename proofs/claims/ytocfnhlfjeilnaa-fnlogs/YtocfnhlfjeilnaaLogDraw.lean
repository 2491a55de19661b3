/- What DrawOverlay draws, told loosely: numbers, and rows of a log. -/
import Derived.Test.YtocfnhlfjeilnaaDrawE
import Derived.Test.YtocfnhlfjeilnaaLogPush
import Derived.Test.YtocfnhlfjeilnaaSerialL
set_option linter.unusedVariables false
set_option linter.unusedSimpArgs false
namespace Go.Proofs.Ytocfnhlfjeilnaa
open Go.RowKit
namespace Logs
open Bas Flat Draw

/-- numbers that are drawn one behind the other -/
structure ISt (B g : Nat) (v : Value) (l : List UInt8) (w W : World) (out : Value) (zs : List Int) : Prop where
  D : Dr B g v l W
  G : w.grownBy W (some g)
  O : Ints.Owns w.heap.size W out zs
  lt : g < w.heap.size
section
variable {B g : Nat} {v : Value} {l : List UInt8} {w W W' : World} {out : Value} {zs : List Int}
theorem ISt.draw (h : ISt B g v l w W out zs) (D : Dr B g v l W') (G : W.grownBy W' (some g)) : ISt B g v l w W' out zs :=
  have a := h.lt
  { D := D, G := grown_trans h.G G, O := h.O.grown G (fun k hk e => by injection e with e; have := h.O.at k hk; omega), lt := a }
theorem seesNum (W : World) (x : Int) : Ints.Sees (W.heap.size + 1) (W.alloc (.cells #[.int .i64 x] 3)) (.slice (some ⟨W.heap.size, 0, none⟩) 1 1) [x] :=
  ⟨_, 1, rfl, Nat.le_refl _, by unfold maxLen; omega, fun _ => ⟨W.heap.size, 0, rfl, by omega, fun j hj => by
    have hj0 : j = 0 := by simp at hj; exact hj
    subst hj0
    rw [Blk.cell (Blk.new W _ _)]; rfl⟩⟩
theorem ISt.new (h : ISt B g v l w W out zs) (o : Obj) : ISt B g v l w (W.alloc o) out zs :=
  { D := h.D.alloc o, G := grown_new h.G o, O := h.O.on (alloc_below W o) (Nat.le_refl _), lt := h.lt }
theorem ISt.push (h : ISt B g v l w W out zs) (x : Int) (hlen : zs.length ≤ 1000) :
    ∃ out' W', (Builtin.append_ #[24, 24] 24 #[out, .slice (some ⟨W.heap.size, 0, none⟩) 1 1]).run Try.prog (W.alloc (.cells #[.int .i64 x] 3)) = .ok out' W' ∧ ISt B g v l w W' out' (zs ++ [x]) := by
  have h1 := h.new (.cells #[.int .i64 x] 3)
  have hlt := h1.lt
  have hsz := h1.G.size
  obtain ⟨out', W', hr, hO, hG, -⟩ := Ints.appJ out _ 24 zs [x] _ w.heap.size _ h1.O hsz (seesNum W x) (by simp; omega)
  refine ⟨out', W', hr, { D := h1.D.grown hG (fun k hk => by have := h1.O.at k hk; omega), G := ?_, O := hO, lt := hlt }⟩
  exact ⟨hG.os.trans h1.G.os, hG.tape.trans h1.G.tape, hG.output.trans h1.G.output, Nat.le_trans hsz hG.size, fun i hi hne => (hG.block i (by omega) (fun e => by have := h1.O.at i e.symm; omega)).trans (h1.G.block i hi hne)⟩
end
set_option maxRecDepth 100000 in
set_option maxHeartbeats 1600000 in
/-- l3DrawVals -/
theorem valsE {B g : Nat} {v : Value} {l : List UInt8} {w : World} (h : Dr B g v l w) :
    Calls Try.prog 58 #[.pointer (some ⟨g, 0, none⟩)] w fun e w' => ∃ v' zs, e = .returned v' ∧ Ints.Owns w.heap.size w' v' zs ∧ Ops.cellsOk zs = true ∧ Dr B g v l w' ∧ w.grownBy w' (some g) := by
  have P0 : ISt B g v l w (w.alloc (.cells #[] 3)) (.slice (some ⟨w.heap.size, 0, none⟩) 0 0) [] :=
    { D := h.alloc _, G := World.grownBy_alloc w _ _, O := Ints.owns_lit w (Nat.le_refl _), lt := h.lt }
  clear h
  go_enter Try.func58, Try.ntmps58
  go_wp2
  go_loopw [3, 4] (fun ov nv wr => ∃ (a : Option Addr) (cap : Nat) (zs : List Int), ov = .slice a zs.length cap ∧ nv = .int .i64 (zs.length : Int) ∧ zs.length ≤ 8 ∧ zs.all (Ops.inn 0 65535) = true ∧ ISt B g v l w wr (.slice a zs.length cap) zs) (fun _ nv _ => 8 - (intOf nv).toNat)
  case atStart => exact ⟨some ⟨w.heap.size, 0, none⟩, 0, [], rfl, rfl, by simp, rfl, P0⟩
  case round =>
    obtain ⟨a, cap, zs, rfl, rfl, hx, hall, P⟩ := hrel
    clear P0
    obtain ⟨q, hq⟩ : ∃ q, zs.length = q := ⟨_, rfl⟩
    rw [hq] at hx P ⊢
    have HA := (show Hid _ from hall)
    clear hall
    by_cases hlt : q < 8
    · have i1 : (q : Int) < 8 := by omega
      go_wp2_with fail
      refine (drawE P.D).mono ?_
      rintro e w2 ⟨x, rfl, x0, x1, D, G⟩
      have P := P.draw D G
      clear D G
      obtain ⟨o3, W3, hr, P⟩ := P.push x (by omega)
      obtain ⟨a3, cap3, rfl⟩ := P.O.form
      have hl3 : (zs ++ [x]).length = q + 1 := by simp [hq]
      go_wp2_with (at_builtin; refine wpList_app _ rfl _ _ 24 rfl _ _ _ _ rfl rfl hr ?_)
      clear hr
      go_roundw
      case rel => exact ⟨a3, cap3, zs ++ [x], by rw [hl3], by rw [hl3]; go_num, by rw [hl3]; omega, by rw [List.all_append, HA.out]; simp [Ops.inn]; omega, by rw [hl3]; rw [hl3] at P; exact P⟩
      case measure => simp [intOf]; omega
    · obtain rfl : q = 8 := by omega
      have HC : Hid (Ops.cellsOk zs = true) := by
        show _ = _
        unfold Ops.cellsOk
        rw [HA.out, decide_eq_true hq]; rfl
      go_wp2
      go_ret
      exact ⟨_, zs, rfl, by rw [← hq]; rw [← hq] at P; exact P.O, HC.out, P.D, P.G⟩


/-- rows that are drawn one behind the other -/
structure RSt (B g : Nat) (v : Value) (l : List UInt8) (w W : World) (out : Value) (xs : List R2) : Prop where
  D : Dr B g v l W
  G : w.grownBy W (some g)
  O : Owns2 w.heap.size W out xs
  lt : g < w.heap.size
section
variable {B g : Nat} {v : Value} {l : List UInt8} {w W W' : World} {out : Value} {xs : List R2}
theorem RSt.draw (h : RSt B g v l w W out xs) (D : Dr B g v l W') (G : W.grownBy W' (some g)) : RSt B g v l w W' out xs :=
  have a := h.lt
  { D := D, G := grown_trans h.G G, O := h.O.grown G (fun k hk e => by injection e with e; have := h.O.at k hk; omega), lt := a }
theorem RSt.push (h : RSt B g v l w W out xs) (x : R2) (hlen : xs.length ≤ 1000) :
    ∃ out' W', (Builtin.append_ #[25, 25] 25 #[out, .slice (some ⟨W.heap.size, 0, none⟩) 1 1]).run Try.prog (W.alloc (.cells #[.int .i64 x.c, .int .i64 x.v] 90)) = .ok out' W' ∧ RSt B g v l w W' out' (xs ++ [x]) := by
  have hlt := h.lt
  have hsz := h.G.size
  obtain ⟨out', W', hr, hO, hG, -⟩ := pushR out xs w.heap.size W h.O hsz (by omega) x
  refine ⟨out', W', hr, { D := h.D.grown hG (fun k hk => by have := h.O.at k hk; omega), G := ?_, O := hO, lt := hlt }⟩
  exact ⟨hG.os.trans h.G.os, hG.tape.trans h.G.tape, hG.output.trans h.G.output, Nat.le_trans hsz hG.size, fun i hi hne => (hG.block i (by omega) (fun e => by have := h.O.at i e.symm; omega)).trans (h.G.block i hi hne)⟩
end

set_option maxRecDepth 100000 in
set_option maxHeartbeats 1600000 in
/-- l8Rows -/
theorem rowsE {B g : Nat} {v : Value} {l : List UInt8} {w : World} (h : Dr B g v l w) :
    Calls Try.prog 104 #[.pointer (some ⟨g, 0, none⟩), .int .i64 10] w fun e w' => ∃ v' xs, e = .returned v' ∧ RSt B g v l w w' v' xs ∧ xs.length ≤ 10 := by
  have P0 : RSt B g v l w (w.alloc (.cells #[] 90)) (.slice (some ⟨w.heap.size, 0, none⟩) 0 0) [] :=
    { D := h.alloc _, G := World.grownBy_alloc w _ _, O := owns_litR w (Nat.le_refl _), lt := h.lt }
  clear h
  go_enter Try.func104, Try.ntmps104
  go_wp2_with fail
  refine (belowE P0.D 11 (by omega)).mono ?_
  rintro e w1 ⟨m, rfl, m1, m2, D, G⟩
  have P1 := P0.draw D G
  clear P0 D G
  obtain ⟨k, rfl⟩ := Int.eq_ofNat_of_zero_le m1
  go_wp2
  go_loopw [5, 6] (fun ov nv wr => ∃ (a : Option Addr) (n cap j : Nat) (xs : List R2), ov = .slice a n cap ∧ nv = .int .i64 (j : Int) ∧ xs.length = n ∧ n + j ≤ 10 ∧ RSt B g v l w wr (.slice a n cap) xs) (fun _ nv _ => (intOf nv).toNat)
  case atStart => exact ⟨some ⟨w.heap.size, 0, none⟩, 0, 0, k, [], rfl, rfl, rfl, by omega, P1⟩
  case round =>
    obtain ⟨a, n, cap, j, xs, rfl, rfl, hx, hnj, P⟩ := hrel
    clear P1
    have HX := (show Hid _ from hx)
    clear hx
    by_cases hlt : 0 < j
    · have i1 : (0 : Int) < j := by omega
      go_wp2_with fail
      refine (cellE P.D).mono ?_
      rintro e w2 ⟨x, rfl, x0, x1, D, G⟩
      have P := P.draw D G
      clear D G
      go_wp2_with fail
      refine (drawE P.D).mono ?_
      rintro e w3 ⟨y, rfl, y0, y1, D, G⟩
      have P := P.draw D G
      clear D G
      obtain ⟨o3, W3, hr, P⟩ := P.push (⟨x, y⟩ : R2) (by rw [HX.out]; omega)
      obtain ⟨a3, cap3, rfl⟩ := P.O.form
      have hl3 : (xs ++ [(⟨x, y⟩ : R2)]).length = n + 1 := by simp [HX.out]
      rw [hl3] at hr P
      have HL := (show Hid _ from hl3)
      clear hl3
      change (Builtin.append_ #[25, 25] 25 #[.slice a n cap, .slice (some ⟨w3.heap.size, 0, none⟩) 1 1]).run Try.prog (w3.alloc (.cells #[.int .i64 x, .int .i64 y] 90)) = _ at hr
      go_wp2_with (at_builtin; refine wpList_app _ rfl _ _ 25 rfl _ _ _ _ rfl rfl hr ?_)
      clear hr
      obtain ⟨j', rfl⟩ : ∃ j', j = j' + 1 := ⟨j - 1, by omega⟩
      go_roundw
      case rel => exact ⟨a3, n + 1, cap3, j', xs ++ [(⟨x, y⟩ : R2)], rfl, by go_num, HL.out, by omega, P⟩
      case measure => simp [intOf]
    · obtain rfl : j = 0 := by omega
      go_wp2
      go_ret
      exact ⟨_, xs, rfl, P, by rw [HX.out]; omega⟩

set_option maxRecDepth 100000 in
set_option maxHeartbeats 3200000 in
/-- l8Any -/
theorem anyRowsE {B g : Nat} {v : Value} {l : List UInt8} {w : World} (h : Dr B g v l w) :
    Calls Try.prog 60 #[.pointer (some ⟨g, 0, none⟩)] w fun e w' => ∃ v' xs, e = .returned v' ∧ RSt B g v l w w' v' xs ∧ xs.length ≤ 400 := by
  go_enter Try.func60, Try.ntmps60
  go_wp2_with fail
  refine (rowsE h).mono ?_
  rintro e w1 ⟨v1, xs, rfl, P, hx⟩
  clear h
  obtain ⟨a, cap, rfl⟩ := P.O.form
  obtain ⟨n, hn⟩ : ∃ n, xs.length = n := ⟨_, rfl⟩
  have HX := (show Hid _ from hn)
  rw [hn] at P hx
  rw [hn]
  clear hn
  go_wp2_with fail
  refine (belowE P.D 20 (by omega)).mono ?_
  rintro e w2 ⟨m, rfl, m1, m2, D, G⟩
  have P := P.draw D G
  clear D G
  by_cases h0 : m = 0
  · subst h0
    clear m1 m2
    obtain ⟨o3, W3, hr, P⟩ := P.push (⟨8, 0⟩ : R2) (by rw [HX.out]; omega)
    change (Builtin.append_ #[25, 25] 25 #[.slice a n cap, .slice (some ⟨w2.heap.size, 0, none⟩) 1 1]).run Try.prog (w2.alloc (.cells #[.int .i64 8, .int .i64 0] 90)) = _ at hr
    have HL : Hid ((xs ++ [(⟨8, 0⟩ : R2)]).length ≤ 400) := by show _ ≤ 400; simp [HX.out]; omega
    go_wp2_with (at_builtin; refine wpList_app _ rfl _ _ 25 rfl _ _ _ _ rfl rfl hr ?_)
    go_ret
    exact ⟨_, _, rfl, P, HL.out⟩
  by_cases h1 : m = 1
  · subst h1
    clear m1 m2 h0
    obtain ⟨o3, W3, hr, P⟩ := P.push (⟨0, 65536⟩ : R2) (by rw [HX.out]; omega)
    change (Builtin.append_ #[25, 25] 25 #[.slice a n cap, .slice (some ⟨w2.heap.size, 0, none⟩) 1 1]).run Try.prog (w2.alloc (.cells #[.int .i64 0, .int .i64 65536] 90)) = _ at hr
    have HL : Hid ((xs ++ [(⟨0, 65536⟩ : R2)]).length ≤ 400) := by show _ ≤ 400; simp [HX.out]; omega
    go_wp2_with (at_builtin; refine wpList_app _ rfl _ _ 25 rfl _ _ _ _ rfl rfl hr ?_)
    go_ret
    exact ⟨_, _, rfl, P, HL.out⟩
  by_cases h3 : m = 3
  · subst h3
    clear m1 m2 h0 h1
    obtain ⟨o3, W3, hr, P⟩ := P.push (⟨-1, 0⟩ : R2) (by rw [HX.out]; omega)
    change (Builtin.append_ #[25, 25] 25 #[.slice a n cap, .slice (some ⟨w2.heap.size, 0, none⟩) 1 1]).run Try.prog (w2.alloc (.cells #[.int .i64 (-1), .int .i64 0] 90)) = _ at hr
    have HL : Hid ((xs ++ [(⟨-1, 0⟩ : R2)]).length ≤ 400) := by show _ ≤ 400; simp [HX.out]; omega
    go_wp2_with (at_builtin; refine wpList_app _ rfl _ _ 25 rfl _ _ _ _ rfl rfl hr ?_)
    go_ret
    exact ⟨_, _, rfl, P, HL.out⟩
  have d0 : (m == 0) = false := by simpa using h0
  have d1 : (m == 1) = false := by simpa using h1
  have d3 : (m == 3) = false := by simpa using h3
  by_cases h2 : m = 2
  · subst h2
    clear m1 m2 h0 h1 h3 d0 d1 d3
    go_wp2
    go_loopw [3] (fun ov wr => ∃ (a : Option Addr) (n cap : Nat) (xs : List R2), ov = .slice a n cap ∧ xs.length = n ∧ n ≤ 300 ∧ RSt B g v l w wr (.slice a n cap) xs) (fun ov _ => match ov with | .slice _ n _ => 300 - n | _ => 0)
    case atStart => exact ⟨a, n, cap, xs, rfl, HX.out, by omega, P⟩
    case round =>
      obtain ⟨a', n', cap', ys, rfl, hy, hn', P'⟩ := hrel
      clear P HX hx
      have HY := (show Hid _ from hy)
      clear hy
      by_cases hlt : n' < 300
      · have i1 : (n' : Int) < 300 := by omega
        obtain ⟨o3, W3, hr, P3⟩ := P'.push (⟨7, (n' : Int)⟩ : R2) (by rw [HY.out]; omega)
        obtain ⟨a3, cap3, rfl⟩ := P3.O.form
        have hl3 : (ys ++ [(⟨7, (n' : Int)⟩ : R2)]).length = n' + 1 := by simp [HY.out]
        rw [hl3] at hr P3
        have HL := (show Hid _ from hl3)
        clear hl3 P'
        change (Builtin.append_ #[25, 25] 25 #[.slice a' n' cap', .slice (some ⟨wr.heap.size, 0, none⟩) 1 1]).run Try.prog (wr.alloc (.cells #[.int .i64 7, .int .i64 (n' : Int)] 90)) = _ at hr
        go_wp2_with (at_builtin; refine wpList_app _ rfl _ _ 25 rfl _ _ _ _ rfl rfl hr ?_)
        clear hr
        go_roundw
        case rel => exact ⟨a3, n' + 1, cap3, _, rfl, HL.out, by omega, P3⟩
        case measure => show 300 - (n' + 1) < 300 - n'; omega
      · obtain rfl : n' = 300 := by omega
        go_wp2_with fail
        refine (onceE P'.D 2).mono ?_
        rintro e w4 ⟨b, rfl, D, G⟩
        have P4 := P'.draw D G
        clear D G P'
        cases b
        · have HL : Hid (ys.length ≤ 400) := by show _ ≤ 400; rw [HY.out]; omega
          go_wp2
          go_ret
          exact ⟨_, _, rfl, P4, HL.out⟩
        · obtain ⟨o3, W3, hr, P3⟩ := P4.push (⟨0, 0⟩ : R2) (by rw [HY.out]; omega)
          have HL : Hid ((ys ++ [(⟨0, 0⟩ : R2)]).length ≤ 400) := by show _ ≤ 400; simp [HY.out]
          change (Builtin.append_ #[25, 25] 25 #[.slice a' 300 cap', .slice (some ⟨w4.heap.size, 0, none⟩) 1 1]).run Try.prog (w4.alloc (.cells #[.int .i64 0, .int .i64 0] 90)) = _ at hr
          go_wp2_with (at_builtin; refine wpList_app _ rfl _ _ 25 rfl _ _ _ _ rfl rfl hr ?_)
          go_ret
          exact ⟨_, _, rfl, P3, HL.out⟩
  · have d2 : (m == 2) = false := by simpa using h2
    clear h0 h1 h2 h3
    have HL : Hid (xs.length ≤ 400) := by show _ ≤ 400; rw [HX.out]; omega
    go_wp2
    go_ret
    exact ⟨_, _, rfl, P, HL.out⟩

/-- what DrawOverlay draws: numbers, right where they are eight; rows -/
def OverDrawn (w : World) (e : Ending) (w' : World) : Prop := ∃ v0 v zs xs, e = .returned (.tuple #[v0, v]) ∧ Ints.Sees w'.heap.size w' v0 zs ∧ Sees2 w'.heap.size w' v xs ∧ (zs.length = 8 → Ops.cellsOk zs = true) ∧ xs.length ≤ 400 ∧ Below w.heap.size w w'
theorem sees_takeI {B n cap k : Nat} {w : World} {a : Option Addr} {zs : List Int} (h : Ints.Sees B w (.slice a n cap) zs) (hn : zs.length = n) (hk : k ≤ n) : Ints.Sees B w (.slice a k cap) (zs.take k) := by
  obtain ⟨a', cap', e, h1, h2, h3⟩ := h
  simp only [Value.slice.injEq] at e
  obtain ⟨rfl, -, rfl⟩ := e
  have hl : (zs.take k).length = k := by rw [List.length_take]; omega
  refine ⟨a, cap, by rw [hl], by omega, h2, fun hne => ?_⟩
  obtain ⟨b, off, rfl, hlt, hc⟩ := h3 (fun e => hne (by rw [e]; exact List.take_nil))
  exact ⟨b, off, rfl, hlt, fun j hj => by rw [List.getElem_take]; exact hc j (by omega)⟩

set_option maxRecDepth 100000 in
set_option maxHeartbeats 3200000 in
theorem drawOverC (B : Nat) (v : Value) (l : List UInt8) (w : World) (hC : Draw.Code B w v l) (hB : B ≤ w.heap.size) (hl : l.length ≤ 1048576) :
    Calls Try.prog 13 #[v] w fun e w' => OverDrawn w e w' := by
  obtain ⟨q, hq⟩ : ∃ q, w.heap.size = q := ⟨_, rfl⟩
  go_enter Try.func13, Try.ntmps13
  go_wp2_with fail
  refine (newC B v l w hC hB hl).mono ?_
  rintro e w1 ⟨rfl, C, G⟩
  have D0 : Dr B w.heap.size v l w1 := ⟨_, C⟩
  have b1 : Below w.heap.size w w1 := (Below.refl _ _).grown G (Nat.le_refl _) (fun k hk => by cases hk)
  clear C G
  rw [hq] at D0 b1 ⊢
  go_wp2_with fail
  refine (valsE D0).mono ?_
  rintro e w2 ⟨v2, zs, rfl, O2, hzs, D2, G2⟩
  have hl1 := D0.lt
  clear D0
  have hz8 : zs.length = 8 := by
    unfold Ops.cellsOk at hzs
    rw [Bool.and_eq_true] at hzs
    exact of_decide_eq_true hzs.1
  have b2 := b1.grown G2 (by have := b1.size; omega) (fun k hk => by cases hk; omega)
  obtain ⟨a2, c2, rfl⟩ := O2.form
  have HZ := (show Hid _ from hzs)
  have H8 := (show Hid _ from hz8)
  rw [hz8] at O2 ⊢
  clear hzs hz8 G2
  have hcap : 8 ≤ c2 := by
    have h := O2.sees
    obtain ⟨a', c', e, h1, h2, -⟩ := h
    simp only [Value.slice.injEq] at e
    rw [H8.out] at h1; omega
  have hcapI : (3 : Int) ≤ c2 := by omega
  go_wp2_with fail
  refine (onceE D2 10).mono ?_
  rintro e w3 ⟨b, rfl, D3, G3⟩
  have b3 := b2.grown G3 (by have := b2.size; omega) (fun k hk => by cases hk; omega)
  have O3 := O2.grown G3 (fun k hk e => by injection e with e; have := O2.at k hk; have := D3.lt; omega)
  clear D2 O2 G3
  cases b
  · go_wp2_with fail
    refine (anyRowsE D3).mono ?_
    rintro e w4 ⟨v4, xs, rfl, P, hx⟩
    go_wp2
    go_ret2
    have O4 := O3.grown P.G (fun k hk e => by injection e with e; have := O3.at k hk; omega)
    refine ⟨_, v4, zs, xs, rfl, O4.sees, P.O.sees, fun _ => HZ.out, hx, by rw [hq]; exact b3.grown P.G (by have := b3.size; omega) (fun k hk => by cases hk; omega)⟩
  · go_wp2_with fail
    refine (anyRowsE D3).mono ?_
    rintro e w4 ⟨v4, xs, rfl, P, hx⟩
    go_wp2
    go_ret2
    have O4 := O3.grown P.G (fun k hk e => by injection e with e; have := O3.at k hk; omega)
    have s4 := sees_takeI O4.sees H8.out (show 3 ≤ 8 by omega)
    refine ⟨_, v4, zs.take 3, xs, rfl, s4, P.O.sees, fun h => by rw [List.length_take, H8.out] at h; omega, hx, by rw [hq]; exact b3.grown P.G (by have := b3.size; omega) (fun k hk => by cases hk; omega)⟩
end Logs
end Go.Proofs.Ytocfnhlfjeilnaa
