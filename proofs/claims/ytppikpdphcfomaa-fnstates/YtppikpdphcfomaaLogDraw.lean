/- What DrawOverlay draws, told loosely: numbers, and rows of a log. -/
import Derived.Test.YtppikpdphcfomaaDrawE
import Derived.Test.YtppikpdphcfomaaLogPush
import Derived.Test.YtppikpdphcfomaaSerialL
set_option linter.unusedVariables false
set_option linter.unusedSimpArgs false
namespace Go.Proofs.Ytppikpdphcfomaa
open Go.RowKit
namespace Logs
open Bas Flat Draw

/-- numbers that are drawn one behind the other -/
structure ISt (B g : Nat) (v : Value) (l : List UInt8) (w W : World) (out : Value) (zs : List Int) : Prop where
  D : Dr B g v l W
  G : w.grownBy W (some g)
  O : Ints.Owns w.heap.size W out zs
  lt : g < w.heap.size
section
variable {B g : Nat} {v : Value} {l : List UInt8} {w W W' : World} {out : Value} {zs : List Int}
theorem ISt.draw (h : ISt B g v l w W out zs) (D : Dr B g v l W') (G : W.grownBy W' (some g)) : ISt B g v l w W' out zs :=
  have a := h.lt
  { D := D, G := grown_trans h.G G, O := h.O.grown G (fun k hk e => by injection e with e; have := h.O.at k hk; omega), lt := a }
theorem seesNum (W : World) (x : Int) : Ints.Sees (W.heap.size + 1) (W.alloc (.cells #[.int .i64 x] 3)) (.slice (some ⟨W.heap.size, 0, none⟩) 1 1) [x] :=
  ⟨_, 1, rfl, Nat.le_refl _, by unfold maxLen; omega, fun _ => ⟨W.heap.size, 0, rfl, by omega, fun j hj => by
    have hj0 : j = 0 := by simp at hj; exact hj
    subst hj0
    rw [Blk.cell (Blk.new W _ _)]; rfl⟩⟩
theorem ISt.new (h : ISt B g v l w W out zs) (o : Obj) : ISt B g v l w (W.alloc o) out zs :=
  { D := h.D.alloc o, G := grown_new h.G o, O := h.O.on (alloc_below W o) (Nat.le_refl _), lt := h.lt }
theorem ISt.push (h : ISt B g v l w W out zs) (x : Int) (hlen : zs.length ≤ 1000) :
    ∃ out' W', (Builtin.append_ #[24, 24] 24 #[out, .slice (some ⟨W.heap.size, 0, none⟩) 1 1]).run Try.prog (W.alloc (.cells #[.int .i64 x] 3)) = .ok out' W' ∧ ISt B g v l w W' out' (zs ++ [x]) := by
  have h1 := h.new (.cells #[.int .i64 x] 3)
  have hlt := h1.lt
  have hsz := h1.G.size
  obtain ⟨out', W', hr, hO, hG, -⟩ := Ints.appJ out _ 24 zs [x] _ w.heap.size _ h1.O hsz (seesNum W x) (by simp; omega)
  refine ⟨out', W', hr, { D := h1.D.grown hG (fun k hk => by have := h1.O.at k hk; omega), G := ?_, O := hO, lt := hlt }⟩
  exact ⟨hG.os.trans h1.G.os, hG.tape.trans h1.G.tape, hG.output.trans h1.G.output, Nat.le_trans hsz hG.size, fun i hi hne => (hG.block i (by omega) (fun e => by have := h1.O.at i e.symm; omega)).trans (h1.G.block i hi hne)⟩
end
set_option maxRecDepth 100000 in
set_option maxHeartbeats 1600000 in
/-- l3DrawVals -/
theorem valsE {B g : Nat} {v : Value} {l : List UInt8} {w : World} (h : Dr B g v l w) :
    Calls Try.prog 37 #[.pointer (some ⟨g, 0, none⟩)] w fun e w' => ∃ v' zs, e = .returned v' ∧ Ints.Owns w.heap.size w' v' zs ∧ Ops.cellsOk zs = true ∧ Dr B g v l w' ∧ w.grownBy w' (some g) := by
  have P0 : ISt B g v l w (w.alloc (.cells #[] 3)) (.slice (some ⟨w.heap.size, 0, none⟩) 0 0) [] :=
    { D := h.alloc _, G := World.grownBy_alloc w _ _, O := Ints.owns_lit w (Nat.le_refl _), lt := h.lt }
  clear h
  go_enter Try.func37, Try.ntmps37
  go_wp2
  go_loopw [3, 4] (fun ov nv wr => ∃ (a : Option Addr) (cap : Nat) (zs : List Int), ov = .slice a zs.length cap ∧ nv = .int .i64 (zs.length : Int) ∧ zs.length ≤ 8 ∧ zs.all (Ops.inn 0 65535) = true ∧ ISt B g v l w wr (.slice a zs.length cap) zs) (fun _ nv _ => 8 - (intOf nv).toNat)
  case atStart => exact ⟨some ⟨w.heap.size, 0, none⟩, 0, [], rfl, rfl, by simp, rfl, P0⟩
  case round =>
    obtain ⟨a, cap, zs, rfl, rfl, hx, hall, P⟩ := hrel
    clear P0
    obtain ⟨q, hq⟩ : ∃ q, zs.length = q := ⟨_, rfl⟩
    rw [hq] at hx P ⊢
    have HA := (show Hid _ from hall)
    clear hall
    by_cases hlt : q < 8
    · have i1 : (q : Int) < 8 := by omega
      go_wp2_with fail
      refine (drawE P.D).mono ?_
      rintro e w2 ⟨x, rfl, x0, x1, D, G⟩
      have P := P.draw D G
      clear D G
      obtain ⟨o3, W3, hr, P⟩ := P.push x (by omega)
      obtain ⟨a3, cap3, rfl⟩ := P.O.form
      have hl3 : (zs ++ [x]).length = q + 1 := by simp [hq]
      go_wp2_with (at_builtin; refine wpList_app _ rfl _ _ 24 rfl _ _ _ _ rfl rfl hr ?_)
      clear hr
      go_roundw
      case rel => exact ⟨a3, cap3, zs ++ [x], by rw [hl3], by rw [hl3]; go_num, by rw [hl3]; omega, by rw [List.all_append, HA.out]; simp [Ops.inn]; omega, by rw [hl3]; rw [hl3] at P; exact P⟩
      case measure => simp [intOf]; omega
    · obtain rfl : q = 8 := by omega
      have HC : Hid (Ops.cellsOk zs = true) := by
        show _ = _
        unfold Ops.cellsOk
        rw [HA.out, decide_eq_true hq]; rfl
      go_wp2
      go_ret
      exact ⟨_, zs, rfl, by rw [← hq]; rw [← hq] at P; exact P.O, HC.out, P.D, P.G⟩


/-- rows that are drawn one behind the other -/
structure RSt (B g : Nat) (v : Value) (l : List UInt8) (w W : World) (out : Value) (xs : List R2) : Prop where
  D : Dr B g v l W
  G : w.grownBy W (some g)
  O : Owns2 w.heap.size W out xs
  lt : g < w.heap.size
section
variable {B g : Nat} {v : Value} {l : List UInt8} {w W W' : World} {out : Value} {xs : List R2}
theorem RSt.draw (h : RSt B g v l w W out xs) (D : Dr B g v l W') (G : W.grownBy W' (some g)) : RSt B g v l w W' out xs :=
  have a := h.lt
  { D := D, G := grown_trans h.G G, O := h.O.grown G (fun k hk e => by injection e with e; have := h.O.at k hk; omega), lt := a }
theorem RSt.push (h : RSt B g v l w W out xs) (x : R2) (hlen : xs.length ≤ 1000) :
    ∃ out' W', (Builtin.append_ #[31, 31] 31 #[out, .slice (some ⟨W.heap.size, 0, none⟩) 1 1]).run Try.prog (W.alloc (.cells #[.int .i64 x.c, .int .i64 x.v] 87)) = .ok out' W' ∧ RSt B g v l w W' out' (xs ++ [x]) := by
  have hlt := h.lt
  have hsz := h.G.size
  obtain ⟨out', W', hr, hO, hG, -⟩ := pushR out xs w.heap.size W h.O hsz (by omega) x
  refine ⟨out', W', hr, { D := h.D.grown hG (fun k hk => by have := h.O.at k hk; omega), G := ?_, O := hO, lt := hlt }⟩
  exact ⟨hG.os.trans h.G.os, hG.tape.trans h.G.tape, hG.output.trans h.G.output, Nat.le_trans hsz hG.size, fun i hi hne => (hG.block i (by omega) (fun e => by have := h.O.at i e.symm; omega)).trans (h.G.block i hi hne)⟩
end

set_option maxRecDepth 100000 in
set_option maxHeartbeats 1600000 in
/-- l8Rows -/
theorem rowsE {B g : Nat} {v : Value} {l : List UInt8} {w : World} (h : Dr B g v l w) :
    Calls Try.prog 97 #[.pointer (some ⟨g, 0, none⟩), .int .i64 10] w fun e w' => ∃ v' xs, e = .returned v' ∧ RSt B g v l w w' v' xs ∧ xs.length ≤ 10 := by
  have P0 : RSt B g v l w (w.alloc (.cells #[] 87)) (.slice (some ⟨w.heap.size, 0, none⟩) 0 0) [] :=
    { D := h.alloc _, G := World.grownBy_alloc w _ _, O := owns_litR w (Nat.le_refl _), lt := h.lt }
  clear h
  go_enter Try.func97, Try.ntmps97
  go_wp2_with fail
  refine (belowE P0.D 11 (by omega)).mono ?_
  rintro e w1 ⟨m, rfl, m1, m2, D, G⟩
  have P1 := P0.draw D G
  clear P0 D G
  obtain ⟨k, rfl⟩ := Int.eq_ofNat_of_zero_le m1
  go_wp2
  go_loopw [5, 6] (fun ov nv wr => ∃ (a : Option Addr) (n cap j : Nat) (xs : List R2), ov = .slice a n cap ∧ nv = .int .i64 (j : Int) ∧ xs.length = n ∧ n + j ≤ 10 ∧ RSt B g v l w wr (.slice a n cap) xs) (fun _ nv _ => (intOf nv).toNat)
  case atStart => exact ⟨some ⟨w.heap.size, 0, none⟩, 0, 0, k, [], rfl, rfl, rfl, by omega, P1⟩
  case round =>
    obtain ⟨a, n, cap, j, xs, rfl, rfl, hx, hnj, P⟩ := hrel
    clear P1
    have HX := (show Hid _ from hx)
    clear hx
    by_cases hlt : 0 < j
    · have i1 : (0 : Int) < j := by omega
      go_wp2_with fail
      refine (cellE P.D).mono ?_
      rintro e w2 ⟨x, rfl, x0, x1, D, G⟩
      have P := P.draw D G
      clear D G
      go_wp2_with fail
      refine (drawE P.D).mono ?_
      rintro e w3 ⟨y, rfl, y0, y1, D, G⟩
      have P := P.draw D G
      clear D G
      obtain ⟨o3, W3, hr, P⟩ := P.push (⟨x, y⟩ : R2) (by rw [HX.out]; omega)
      obtain ⟨a3, cap3, rfl⟩ := P.O.form
      have hl3 : (xs ++ [(⟨x, y⟩ : R2)]).length = n + 1 := by simp [HX.out]
      rw [hl3] at hr P
      have HL := (show Hid _ from hl3)
      clear hl3
      change (Builtin.append_ #[31, 31] 31 #[.slice a n cap, .slice (some ⟨w3.heap.size, 0, none⟩) 1 1]).run Try.prog (w3.alloc (.cells #[.int .i64 x, .int .i64 y] 87)) = _ at hr
      go_wp2_with (at_builtin; refine wpList_app _ rfl _ _ 31 rfl _ _ _ _ rfl rfl hr ?_)
      clear hr
      obtain ⟨j', rfl⟩ : ∃ j', j = j' + 1 := ⟨j - 1, by omega⟩
      go_roundw
      case rel => exact ⟨a3, n + 1, cap3, j', xs ++ [(⟨x, y⟩ : R2)], rfl, by go_num, HL.out, by omega, P⟩
      case measure => simp [intOf]
    · obtain rfl : j = 0 := by omega
      go_wp2
      go_ret
      exact ⟨_, xs, rfl, P, by rw [HX.out]; omega⟩

/-- what DrawOverlay draws: numbers, right where they are eight; rows -/
def OverDrawn (w : World) (e : Ending) (w' : World) : Prop := ∃ v0 v zs xs, e = .returned (.tuple #[v0, v]) ∧ Ints.Sees w'.heap.size w' v0 zs ∧ Sees2 w'.heap.size w' v xs ∧ (zs.length = 8 → Ops.cellsOk zs = true) ∧ xs.length ≤ 400 ∧ Below w.heap.size w w'
theorem sees_takeI {B n cap k : Nat} {w : World} {a : Option Addr} {zs : List Int} (h : Ints.Sees B w (.slice a n cap) zs) (hn : zs.length = n) (hk : k ≤ n) : Ints.Sees B w (.slice a k cap) (zs.take k) := by
  obtain ⟨a', cap', e, h1, h2, h3⟩ := h
  simp only [Value.slice.injEq] at e
  obtain ⟨rfl, -, rfl⟩ := e
  have hl : (zs.take k).length = k := by rw [List.length_take]; omega
  refine ⟨a, cap, by rw [hl], by omega, h2, fun hne => ?_⟩
  obtain ⟨b, off, rfl, hlt, hc⟩ := h3 (fun e => hne (by rw [e]; exact List.take_nil))
  exact ⟨b, off, rfl, hlt, fun j hj => by rw [List.getElem_take]; exact hc j (by omega)⟩

end Logs
end Go.Proofs.Ytppikpdphcfomaa
