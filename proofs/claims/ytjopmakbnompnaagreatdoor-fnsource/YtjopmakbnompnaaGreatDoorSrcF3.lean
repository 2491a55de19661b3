/- Several texts of one proof, in build order: OpDrawX, SourceDraw, DrawText, DrawSpoil. -/
import Derived.Deep.RegionHeld3
import Derived.Deep.DrawnRows
import Derived.Deep.RegionWith
import Derived.Test.YtjopmakbnompnaaGreatDoorSrcF1
import Derived.Test.YtjopmakbnompnaaGreatDoorSrcF2
/- A right op is drawn, exactly: what is drawn hangs on the code and on the cursor's place alone. -/
set_option linter.unusedVariables false
namespace Go.Proofs.YtjopmakbnompnaaGreatDoor
open Go.RowKit
namespace Draw
open Num (below belowSt below_range)
open Bas (Blk)
/-- a draw of a number: its answer and the cursor's next place hang on the code and the place alone -/
def Tells (f : Nat) (l : List UInt8) (s : Num.St) (r : Int) (s' : Num.St) : Prop :=
  ∀ {B g : Nat} {v : Value} {w : World}, Ctx B g v l s w → Calls Tryz.prog f #[.pointer (some ⟨g, 0, none⟩)] w fun e w' => e = .returned (.int .i64 r) ∧ Ctx B g v l s' w' ∧ w.grownBy w' (some g)
theorem Ctx.lt {B g : Nat} {v : Value} {l : List UInt8} {s : Num.St} {w : World} (h : Ctx B g v l s w) : g < w.heap.size := h.cur.lt
theorem Ctx.set {B g : Nat} {v : Value} {l : List UInt8} {s : Num.St} {w : World} (h : Ctx B g v l s w) {p : Nat} (hp : g < p) (i : Nat) (u : Value) : Ctx B g v l s (w.setCell ⟨p, i, none⟩ u) :=
  h.grown (grown_set w p i u) (fun k hk => by cases hk; exact hp)
/-- one of a list that was just laid -/
theorem pickX {B g : Nat} {v : Value} {l : List UInt8} {s : Num.St} {w : World} (h : Ctx B g v l s w) (zs : List Int) (m : Nat) (hm : zs.length = m) (hm0 : 0 < m) (hm1 : m ≤ 1000) (cs : Array Value) (hcs : cs = (zs.map (Value.int .i64)).toArray) :
    Calls Tryz.prog 100 #[.pointer (some ⟨g, 0, none⟩), .slice (some ⟨w.heap.size, 0, none⟩) m m] (w.alloc (.cells cs 3)) fun e w' => e = .returned (.int .i64 (zs.getD (below l s m).toNat 0)) ∧ Ctx B g v l (belowSt l s m) w' ∧ w.grownBy w' (some g) := by
  have hlt := h.lt
  refine (pickC B g w.heap.size m v l s zs _ (h.alloc _) (by omega) (by simp) hm0 hm1 (fun j hj => ?_)).mono ?_
  · subst hcs
    rw [cell_of_row _ _ _ _ _ _ (heap_alloc_new w _)]
    simp [List.getD, show j < zs.length by omega]
  · rintro e w' ⟨rfl, C, G⟩
    exact ⟨rfl, C, grown_trans (World.grownBy_alloc w _ _) G⟩
set_option maxRecDepth 100000 in
theorem regX (l : List UInt8) (s : Num.St) : ∃ r s', Tells 73 l s r s' := by
  refine ⟨below l s 4, belowSt l s 4, fun {B g v w} h => ?_⟩
  go_enter Tryz.func73, Tryz.ntmps73
  go_wp2_with fail
  refine (belowC B g v l s 4 _ h).mono ?_
  rintro e w2 ⟨rfl, D2, G2⟩
  clear h
  go_wp2
  go_ret
  exact ⟨rfl, D2, G2⟩

set_option maxRecDepth 100000 in
set_option maxHeartbeats 800000 in
theorem drawX (l : List UInt8) (s : Num.St) : ∃ r s', Tells 74 l s r s' := by
  obtain ⟨b, hb⟩ : ∃ b, (below l s 6 == 0) = b := ⟨_, rfl⟩
  cases b
  · refine ⟨below l (belowSt l s 6) 9, belowSt l (belowSt l s 6) 9, fun {B g v w} h => ?_⟩
    obtain ⟨R, hR⟩ : ∃ R, below l (belowSt l s 6) 9 = R := ⟨_, rfl⟩
    have HR := (show Hid _ from hR)
    have HB := (show Hid _ from hb)
    rw [hR]
    clear hR hb
    go_enter Tryz.func74, Tryz.ntmps74
    go_wp2_with fail
    refine (onceC B g v l s 6 _ h).mono ?_
    rw [HB.out]
    rintro e w1 ⟨rfl, D1, G1⟩
    clear h
    go_wp2_with fail
    refine (belowC B g v l (belowSt l s 6) 9 _ D1).mono ?_
    rw [HR.out]
    rintro e w2 ⟨rfl, D2, G2⟩
    go_wp2
    go_ret
    exact ⟨rfl, D2, grown_trans G1 G2⟩
  · refine ⟨([0, 65535, 65534, 256] : List Int).getD (below l (belowSt l s 6) (4 : Nat)).toNat 0, belowSt l (belowSt l s 6) (4 : Nat), fun {B g v w} h => ?_⟩
    obtain ⟨R, hR⟩ : ∃ R, ([0, 65535, 65534, 256] : List Int).getD (below l (belowSt l s 6) (4 : Nat)).toNat 0 = R := ⟨_, rfl⟩
    have HR := (show Hid _ from hR)
    have HB := (show Hid _ from hb)
    rw [hR]
    clear hR hb
    go_enter Tryz.func74, Tryz.ntmps74
    go_wp2_with fail
    refine (onceC B g v l s 6 _ h).mono ?_
    rw [HB.out]
    rintro e w1 ⟨rfl, D1, G1⟩
    clear h
    go_wp2_with fail
    refine (pickX D1 [0, 65535, 65534, 256] 4 rfl (by omega) (by omega) _ rfl).mono ?_
    rw [HR.out]
    rintro e w2 ⟨rfl, D2, G2⟩
    go_wp2
    go_ret
    exact ⟨rfl, D2, grown_trans G1 G2⟩

set_option maxRecDepth 100000 in
set_option maxHeartbeats 800000 in
theorem cellX (l : List UInt8) (s : Num.St) : ∃ r s', Tells 75 l s r s' := by
  obtain ⟨b, hb⟩ : ∃ b, (below l s 8 == 0) = b := ⟨_, rfl⟩
  cases b
  · refine ⟨below l (belowSt l s 8) 3, belowSt l (belowSt l s 8) 3, fun {B g v w} h => ?_⟩
    obtain ⟨R, hR⟩ : ∃ R, below l (belowSt l s 8) 3 = R := ⟨_, rfl⟩
    have HR := (show Hid _ from hR)
    have HB := (show Hid _ from hb)
    rw [hR]
    clear hR hb
    go_enter Tryz.func75, Tryz.ntmps75
    go_wp2_with fail
    refine (onceC B g v l s 8 _ h).mono ?_
    rw [HB.out]
    rintro e w1 ⟨rfl, D1, G1⟩
    clear h
    go_wp2_with fail
    refine (belowC B g v l (belowSt l s 8) 3 _ D1).mono ?_
    rw [HR.out]
    rintro e w2 ⟨rfl, D2, G2⟩
    go_wp2
    go_ret
    exact ⟨rfl, D2, grown_trans G1 G2⟩
  · refine ⟨below l (belowSt l s 8) 8, belowSt l (belowSt l s 8) 8, fun {B g v w} h => ?_⟩
    obtain ⟨R, hR⟩ : ∃ R, below l (belowSt l s 8) 8 = R := ⟨_, rfl⟩
    have HR := (show Hid _ from hR)
    have HB := (show Hid _ from hb)
    rw [hR]
    clear hR hb
    go_enter Tryz.func75, Tryz.ntmps75
    go_wp2_with fail
    refine (onceC B g v l s 8 _ h).mono ?_
    rw [HB.out]
    rintro e w1 ⟨rfl, D1, G1⟩
    clear h
    go_wp2_with fail
    refine (belowC B g v l (belowSt l s 8) 8 _ D1).mono ?_
    rw [HR.out]
    rintro e w2 ⟨rfl, D2, G2⟩
    go_wp2
    go_ret
    exact ⟨rfl, D2, grown_trans G1 G2⟩

set_option maxRecDepth 100000 in
set_option maxHeartbeats 800000 in
theorem keyX (l : List UInt8) (s : Num.St) : ∃ r s', Tells 76 l s r s' := by
  obtain ⟨b, hb⟩ : ∃ b, (below l s 4 == 0) = b := ⟨_, rfl⟩
  cases b
  · refine ⟨([0, 4, 1] : List Int).getD (below l (belowSt l s 4) (3 : Nat)).toNat 0, belowSt l (belowSt l s 4) (3 : Nat), fun {B g v w} h => ?_⟩
    obtain ⟨R, hR⟩ : ∃ R, ([0, 4, 1] : List Int).getD (below l (belowSt l s 4) (3 : Nat)).toNat 0 = R := ⟨_, rfl⟩
    have HR := (show Hid _ from hR)
    have HB := (show Hid _ from hb)
    rw [hR]
    clear hR hb
    go_enter Tryz.func76, Tryz.ntmps76
    go_wp2_with fail
    refine (onceC B g v l s 4 _ h).mono ?_
    rw [HB.out]
    rintro e w1 ⟨rfl, D1, G1⟩
    clear h
    go_wp2_with fail
    refine (pickX D1 [0, 4, 1] 3 rfl (by omega) (by omega) _ rfl).mono ?_
    rw [HR.out]
    rintro e w2 ⟨rfl, D2, G2⟩
    go_wp2
    go_ret
    exact ⟨rfl, D2, grown_trans G1 G2⟩
  · refine ⟨below l (belowSt l s 4) 8, belowSt l (belowSt l s 4) 8, fun {B g v w} h => ?_⟩
    obtain ⟨R, hR⟩ : ∃ R, below l (belowSt l s 4) 8 = R := ⟨_, rfl⟩
    have HR := (show Hid _ from hR)
    have HB := (show Hid _ from hb)
    rw [hR]
    clear hR hb
    go_enter Tryz.func76, Tryz.ntmps76
    go_wp2_with fail
    refine (onceC B g v l s 4 _ h).mono ?_
    rw [HB.out]
    rintro e w1 ⟨rfl, D1, G1⟩
    clear h
    go_wp2_with fail
    refine (belowC B g v l (belowSt l s 4) 8 _ D1).mono ?_
    rw [HR.out]
    rintro e w2 ⟨rfl, D2, G2⟩
    go_wp2
    go_ret
    exact ⟨rfl, D2, grown_trans G1 G2⟩

/-- a draw that fills a struct of its own: the cursor at its place, the result's block, the struct's block -/
structure LocX (B g : Nat) (v : Value) (l : List UInt8) (s : Num.St) (w W : World) (p : Nat) (rs cs : Array Value) (t : TypeId) : Prop where
  D : Ctx B g v l s W
  G : w.grownBy W (some g)
  R : Blk W w.heap.size rs t
  O : Blk W p cs t
  lt : g < w.heap.size
  hp : w.heap.size < p
section
variable {B g p : Nat} {v : Value} {l : List UInt8} {s s' : Num.St} {w W W' : World} {rs cs : Array Value} {t : TypeId}
theorem LocX.start (h : Ctx B g v l s w) (rs cs : Array Value) (t : TypeId) : LocX B g v l s w ((w.alloc (.cells rs t)).alloc (.cells cs t)) (w.heap.size + 1) rs cs t :=
  { D := (h.alloc _).alloc _, G := grown_new (grown_new (grown_refl w _) _) _, R := (Blk.new w rs t).on (Bas.alloc_below _ _) (by simp), O := by have := Blk.new (w.alloc (.cells rs t)) cs t; simpa using this, lt := h.lt, hp := Nat.lt_succ_self _ }
theorem LocX.call (h : LocX B g v l s w W p rs cs t) (D : Ctx B g v l s' W') (G : W.grownBy W' (some g)) : LocX B g v l s' w W' p rs cs t :=
  have a := h.lt; have b := h.hp
  { D := D, G := grown_trans h.G G, R := h.R.grown G (fun e => by injection e; omega), O := h.O.grown G (fun e => by injection e; omega), lt := a, hp := b }
theorem LocX.set (h : LocX B g v l s w W p rs cs t) (i : Nat) (u : Value) : LocX B g v l s w (W.setCell ⟨p, i, none⟩ u) p rs (cs.setIfInBounds i u) t :=
  have a := h.lt; have b := h.hp
  { D := h.D.set (by omega) i u, G := grown_store h.G (by omega) i u, R := h.R.other (by omega) i u, O := h.O.set i u, lt := a, hp := b }
end
end Draw
namespace Ops
open Bas Draw
open Num (below belowSt below_range)
/-- a draw of an op of a kind -/
def TellsOp (k : Int) (l : List UInt8) (s : Num.St) (a b c : Int) (s' : Num.St) : Prop :=
  ∀ {B g : Nat} {v : Value} {w : World}, Ctx B g v l s w → Calls Tryz.prog 42 #[.pointer (some ⟨g, 0, none⟩), .int .i64 k] w fun e w' => e = .returned (opV k a b c) ∧ Ctx B g v l s' w' ∧ w.grownBy w' (some g)

set_option maxRecDepth 100000 in
set_option maxHeartbeats 800000 in
theorem plainX1 (l : List UInt8) (s : Num.St) : ∃ a b c s', TellsOp 1 l s a b c s' := by
  obtain ⟨r0, t0, T0⟩ := regX l s
  obtain ⟨r1, t1, T1⟩ := drawX l t0
  refine ⟨r0, r1, 0, t1, fun {B g v w} h => ?_⟩
  have P := LocX.start h #[.int .i64 0, .int .i64 0, .int .i64 0, .int .i64 0] #[.int .i64 1, .int .i64 0, .int .i64 0, .int .i64 0] 36
  have hlt := h.lt
  go_enter Tryz.func42, Tryz.ntmps42
  go_wp2_with fail
  refine (T0 P.D).mono ?_
  rintro e w0 ⟨rfl, D, G⟩
  have P := P.call D G
  clear D G
  have o0 := P.O.cell 0; have o1 := P.O.cell 1; have o2 := P.O.cell 2; have o3 := P.O.cell 3
  have f0 := P.O.froz 0; have f1 := P.O.froz 1; have f2 := P.O.froz 2; have f3 := P.O.froz 3
  have P := P.set 1 (.int .i64 (r0))
  go_wp2_with fail
  clear o0 o1 o2 o3 f0 f1 f2 f3
  refine (T1 P.D).mono ?_
  rintro e w1 ⟨rfl, D, G⟩
  have P := P.call D G
  clear D G
  have o0 := P.O.cell 0; have o1 := P.O.cell 1; have o2 := P.O.cell 2; have o3 := P.O.cell 3
  have f0 := P.O.froz 0; have f1 := P.O.froz 1; have f2 := P.O.froz 2; have f3 := P.O.froz 3
  have q0 := P.R.cell 0; have q1 := P.R.cell 1; have q2 := P.R.cell 2; have q3 := P.R.cell 3
  have e0 := P.R.froz 0; have e1 := P.R.froz 1; have e2 := P.R.froz 2; have e3 := P.R.froz 3
  have P := P.set 2 (.int .i64 (r1))
  go_wp2
  refine bodyPost_ret (v := .agg #[.int .i64 1, .int .i64 (r0), .int .i64 (r1), .int .i64 (0)]) (by simp [results, Tryz.results42, go_sem, *]) rfl ⟨rfl, ?_, ?_⟩
  · exact (((P.D.set (by omega) _ _).set (by omega) _ _).set (by omega) _ _).set (by omega) _ _
  · exact grown_store (grown_store (grown_store (grown_store P.G (by omega) _ _) (by omega) _ _) (by omega) _ _) (by omega) _ _

set_option maxRecDepth 100000 in
set_option maxHeartbeats 800000 in
theorem plainX2 (l : List UInt8) (s : Num.St) : ∃ a b c s', TellsOp 2 l s a b c s' := by
  obtain ⟨r0, t0, T0⟩ := regX l s
  obtain ⟨r1, t1, T1⟩ := regX l t0
  obtain ⟨r2, t2, T2⟩ := regX l t1
  refine ⟨r0, r1, r2, t2, fun {B g v w} h => ?_⟩
  have P := LocX.start h #[.int .i64 0, .int .i64 0, .int .i64 0, .int .i64 0] #[.int .i64 2, .int .i64 0, .int .i64 0, .int .i64 0] 36
  have hlt := h.lt
  go_enter Tryz.func42, Tryz.ntmps42
  go_wp2_with fail
  refine (T0 P.D).mono ?_
  rintro e w0 ⟨rfl, D, G⟩
  have P := P.call D G
  clear D G
  have o0 := P.O.cell 0; have o1 := P.O.cell 1; have o2 := P.O.cell 2; have o3 := P.O.cell 3
  have f0 := P.O.froz 0; have f1 := P.O.froz 1; have f2 := P.O.froz 2; have f3 := P.O.froz 3
  have P := P.set 1 (.int .i64 (r0))
  go_wp2_with fail
  clear o0 o1 o2 o3 f0 f1 f2 f3
  refine (T1 P.D).mono ?_
  rintro e w1 ⟨rfl, D, G⟩
  have P := P.call D G
  clear D G
  have o0 := P.O.cell 0; have o1 := P.O.cell 1; have o2 := P.O.cell 2; have o3 := P.O.cell 3
  have f0 := P.O.froz 0; have f1 := P.O.froz 1; have f2 := P.O.froz 2; have f3 := P.O.froz 3
  have P := P.set 2 (.int .i64 (r1))
  go_wp2_with fail
  clear o0 o1 o2 o3 f0 f1 f2 f3
  refine (T2 P.D).mono ?_
  rintro e w2 ⟨rfl, D, G⟩
  have P := P.call D G
  clear D G
  have o0 := P.O.cell 0; have o1 := P.O.cell 1; have o2 := P.O.cell 2; have o3 := P.O.cell 3
  have f0 := P.O.froz 0; have f1 := P.O.froz 1; have f2 := P.O.froz 2; have f3 := P.O.froz 3
  have q0 := P.R.cell 0; have q1 := P.R.cell 1; have q2 := P.R.cell 2; have q3 := P.R.cell 3
  have e0 := P.R.froz 0; have e1 := P.R.froz 1; have e2 := P.R.froz 2; have e3 := P.R.froz 3
  have P := P.set 3 (.int .i64 (r2))
  go_wp2
  refine bodyPost_ret (v := .agg #[.int .i64 2, .int .i64 (r0), .int .i64 (r1), .int .i64 (r2)]) (by simp [results, Tryz.results42, go_sem, *]) rfl ⟨rfl, ?_, ?_⟩
  · exact (((P.D.set (by omega) _ _).set (by omega) _ _).set (by omega) _ _).set (by omega) _ _
  · exact grown_store (grown_store (grown_store (grown_store P.G (by omega) _ _) (by omega) _ _) (by omega) _ _) (by omega) _ _

set_option maxRecDepth 100000 in
set_option maxHeartbeats 800000 in
theorem plainX3 (l : List UInt8) (s : Num.St) : ∃ a b c s', TellsOp 3 l s a b c s' := by
  obtain ⟨r0, t0, T0⟩ := regX l s
  obtain ⟨r1, t1, T1⟩ := regX l t0
  obtain ⟨r2, t2, T2⟩ := regX l t1
  refine ⟨r0, r1, r2, t2, fun {B g v w} h => ?_⟩
  have P := LocX.start h #[.int .i64 0, .int .i64 0, .int .i64 0, .int .i64 0] #[.int .i64 3, .int .i64 0, .int .i64 0, .int .i64 0] 36
  have hlt := h.lt
  go_enter Tryz.func42, Tryz.ntmps42
  go_wp2_with fail
  refine (T0 P.D).mono ?_
  rintro e w0 ⟨rfl, D, G⟩
  have P := P.call D G
  clear D G
  have o0 := P.O.cell 0; have o1 := P.O.cell 1; have o2 := P.O.cell 2; have o3 := P.O.cell 3
  have f0 := P.O.froz 0; have f1 := P.O.froz 1; have f2 := P.O.froz 2; have f3 := P.O.froz 3
  have P := P.set 1 (.int .i64 (r0))
  go_wp2_with fail
  clear o0 o1 o2 o3 f0 f1 f2 f3
  refine (T1 P.D).mono ?_
  rintro e w1 ⟨rfl, D, G⟩
  have P := P.call D G
  clear D G
  have o0 := P.O.cell 0; have o1 := P.O.cell 1; have o2 := P.O.cell 2; have o3 := P.O.cell 3
  have f0 := P.O.froz 0; have f1 := P.O.froz 1; have f2 := P.O.froz 2; have f3 := P.O.froz 3
  have P := P.set 2 (.int .i64 (r1))
  go_wp2_with fail
  clear o0 o1 o2 o3 f0 f1 f2 f3
  refine (T2 P.D).mono ?_
  rintro e w2 ⟨rfl, D, G⟩
  have P := P.call D G
  clear D G
  have o0 := P.O.cell 0; have o1 := P.O.cell 1; have o2 := P.O.cell 2; have o3 := P.O.cell 3
  have f0 := P.O.froz 0; have f1 := P.O.froz 1; have f2 := P.O.froz 2; have f3 := P.O.froz 3
  have q0 := P.R.cell 0; have q1 := P.R.cell 1; have q2 := P.R.cell 2; have q3 := P.R.cell 3
  have e0 := P.R.froz 0; have e1 := P.R.froz 1; have e2 := P.R.froz 2; have e3 := P.R.froz 3
  have P := P.set 3 (.int .i64 (r2))
  go_wp2
  refine bodyPost_ret (v := .agg #[.int .i64 3, .int .i64 (r0), .int .i64 (r1), .int .i64 (r2)]) (by simp [results, Tryz.results42, go_sem, *]) rfl ⟨rfl, ?_, ?_⟩
  · exact (((P.D.set (by omega) _ _).set (by omega) _ _).set (by omega) _ _).set (by omega) _ _
  · exact grown_store (grown_store (grown_store (grown_store P.G (by omega) _ _) (by omega) _ _) (by omega) _ _) (by omega) _ _

set_option maxRecDepth 100000 in
set_option maxHeartbeats 800000 in
theorem plainX4 (l : List UInt8) (s : Num.St) : ∃ a b c s', TellsOp 4 l s a b c s' := by
  obtain ⟨r0, t0, T0⟩ := regX l s
  obtain ⟨r1, t1, T1⟩ := regX l t0
  obtain ⟨r2, t2, T2⟩ := regX l t1
  refine ⟨r0, r1, r2, t2, fun {B g v w} h => ?_⟩
  have P := LocX.start h #[.int .i64 0, .int .i64 0, .int .i64 0, .int .i64 0] #[.int .i64 4, .int .i64 0, .int .i64 0, .int .i64 0] 36
  have hlt := h.lt
  go_enter Tryz.func42, Tryz.ntmps42
  go_wp2_with fail
  refine (T0 P.D).mono ?_
  rintro e w0 ⟨rfl, D, G⟩
  have P := P.call D G
  clear D G
  have o0 := P.O.cell 0; have o1 := P.O.cell 1; have o2 := P.O.cell 2; have o3 := P.O.cell 3
  have f0 := P.O.froz 0; have f1 := P.O.froz 1; have f2 := P.O.froz 2; have f3 := P.O.froz 3
  have P := P.set 1 (.int .i64 (r0))
  go_wp2_with fail
  clear o0 o1 o2 o3 f0 f1 f2 f3
  refine (T1 P.D).mono ?_
  rintro e w1 ⟨rfl, D, G⟩
  have P := P.call D G
  clear D G
  have o0 := P.O.cell 0; have o1 := P.O.cell 1; have o2 := P.O.cell 2; have o3 := P.O.cell 3
  have f0 := P.O.froz 0; have f1 := P.O.froz 1; have f2 := P.O.froz 2; have f3 := P.O.froz 3
  have P := P.set 2 (.int .i64 (r1))
  go_wp2_with fail
  clear o0 o1 o2 o3 f0 f1 f2 f3
  refine (T2 P.D).mono ?_
  rintro e w2 ⟨rfl, D, G⟩
  have P := P.call D G
  clear D G
  have o0 := P.O.cell 0; have o1 := P.O.cell 1; have o2 := P.O.cell 2; have o3 := P.O.cell 3
  have f0 := P.O.froz 0; have f1 := P.O.froz 1; have f2 := P.O.froz 2; have f3 := P.O.froz 3
  have q0 := P.R.cell 0; have q1 := P.R.cell 1; have q2 := P.R.cell 2; have q3 := P.R.cell 3
  have e0 := P.R.froz 0; have e1 := P.R.froz 1; have e2 := P.R.froz 2; have e3 := P.R.froz 3
  have P := P.set 3 (.int .i64 (r2))
  go_wp2
  refine bodyPost_ret (v := .agg #[.int .i64 4, .int .i64 (r0), .int .i64 (r1), .int .i64 (r2)]) (by simp [results, Tryz.results42, go_sem, *]) rfl ⟨rfl, ?_, ?_⟩
  · exact (((P.D.set (by omega) _ _).set (by omega) _ _).set (by omega) _ _).set (by omega) _ _
  · exact grown_store (grown_store (grown_store (grown_store P.G (by omega) _ _) (by omega) _ _) (by omega) _ _) (by omega) _ _

set_option maxRecDepth 100000 in
set_option maxHeartbeats 800000 in
theorem plainX5 (l : List UInt8) (s : Num.St) : ∃ a b c s', TellsOp 5 l s a b c s' := by
  obtain ⟨r0, t0, T0⟩ := regX l s
  obtain ⟨r1, t1, T1⟩ := cellX l t0
  refine ⟨r0, r1, 0, t1, fun {B g v w} h => ?_⟩
  have P := LocX.start h #[.int .i64 0, .int .i64 0, .int .i64 0, .int .i64 0] #[.int .i64 5, .int .i64 0, .int .i64 0, .int .i64 0] 36
  have hlt := h.lt
  go_enter Tryz.func42, Tryz.ntmps42
  go_wp2_with fail
  refine (T0 P.D).mono ?_
  rintro e w0 ⟨rfl, D, G⟩
  have P := P.call D G
  clear D G
  have o0 := P.O.cell 0; have o1 := P.O.cell 1; have o2 := P.O.cell 2; have o3 := P.O.cell 3
  have f0 := P.O.froz 0; have f1 := P.O.froz 1; have f2 := P.O.froz 2; have f3 := P.O.froz 3
  have P := P.set 1 (.int .i64 (r0))
  go_wp2_with fail
  clear o0 o1 o2 o3 f0 f1 f2 f3
  refine (T1 P.D).mono ?_
  rintro e w1 ⟨rfl, D, G⟩
  have P := P.call D G
  clear D G
  have o0 := P.O.cell 0; have o1 := P.O.cell 1; have o2 := P.O.cell 2; have o3 := P.O.cell 3
  have f0 := P.O.froz 0; have f1 := P.O.froz 1; have f2 := P.O.froz 2; have f3 := P.O.froz 3
  have q0 := P.R.cell 0; have q1 := P.R.cell 1; have q2 := P.R.cell 2; have q3 := P.R.cell 3
  have e0 := P.R.froz 0; have e1 := P.R.froz 1; have e2 := P.R.froz 2; have e3 := P.R.froz 3
  have P := P.set 2 (.int .i64 (r1))
  go_wp2
  refine bodyPost_ret (v := .agg #[.int .i64 5, .int .i64 (r0), .int .i64 (r1), .int .i64 (0)]) (by simp [results, Tryz.results42, go_sem, *]) rfl ⟨rfl, ?_, ?_⟩
  · exact (((P.D.set (by omega) _ _).set (by omega) _ _).set (by omega) _ _).set (by omega) _ _
  · exact grown_store (grown_store (grown_store (grown_store P.G (by omega) _ _) (by omega) _ _) (by omega) _ _) (by omega) _ _

set_option maxRecDepth 100000 in
set_option maxHeartbeats 800000 in
theorem plainX6 (l : List UInt8) (s : Num.St) : ∃ a b c s', TellsOp 6 l s a b c s' := by
  obtain ⟨r0, t0, T0⟩ := cellX l s
  obtain ⟨r1, t1, T1⟩ := regX l t0
  refine ⟨r0, r1, 0, t1, fun {B g v w} h => ?_⟩
  have P := LocX.start h #[.int .i64 0, .int .i64 0, .int .i64 0, .int .i64 0] #[.int .i64 6, .int .i64 0, .int .i64 0, .int .i64 0] 36
  have hlt := h.lt
  go_enter Tryz.func42, Tryz.ntmps42
  go_wp2_with fail
  refine (T0 P.D).mono ?_
  rintro e w0 ⟨rfl, D, G⟩
  have P := P.call D G
  clear D G
  have o0 := P.O.cell 0; have o1 := P.O.cell 1; have o2 := P.O.cell 2; have o3 := P.O.cell 3
  have f0 := P.O.froz 0; have f1 := P.O.froz 1; have f2 := P.O.froz 2; have f3 := P.O.froz 3
  have P := P.set 1 (.int .i64 (r0))
  go_wp2_with fail
  clear o0 o1 o2 o3 f0 f1 f2 f3
  refine (T1 P.D).mono ?_
  rintro e w1 ⟨rfl, D, G⟩
  have P := P.call D G
  clear D G
  have o0 := P.O.cell 0; have o1 := P.O.cell 1; have o2 := P.O.cell 2; have o3 := P.O.cell 3
  have f0 := P.O.froz 0; have f1 := P.O.froz 1; have f2 := P.O.froz 2; have f3 := P.O.froz 3
  have q0 := P.R.cell 0; have q1 := P.R.cell 1; have q2 := P.R.cell 2; have q3 := P.R.cell 3
  have e0 := P.R.froz 0; have e1 := P.R.froz 1; have e2 := P.R.froz 2; have e3 := P.R.froz 3
  have P := P.set 2 (.int .i64 (r1))
  go_wp2
  refine bodyPost_ret (v := .agg #[.int .i64 6, .int .i64 (r0), .int .i64 (r1), .int .i64 (0)]) (by simp [results, Tryz.results42, go_sem, *]) rfl ⟨rfl, ?_, ?_⟩
  · exact (((P.D.set (by omega) _ _).set (by omega) _ _).set (by omega) _ _).set (by omega) _ _
  · exact grown_store (grown_store (grown_store (grown_store P.G (by omega) _ _) (by omega) _ _) (by omega) _ _) (by omega) _ _

set_option maxRecDepth 100000 in
set_option maxHeartbeats 800000 in
theorem plainX7 (l : List UInt8) (s : Num.St) : ∃ a b c s', TellsOp 7 l s a b c s' := by
  obtain ⟨r0, t0, T0⟩ := regX l s
  obtain ⟨r1, t1, T1⟩ : ∃ r s', ∀ {B g : Nat} {v : Value} {w : World}, Ctx B g v l t0 w → Calls Tryz.prog 32 #[.pointer (some ⟨g, 0, none⟩), .int .i64 3] w fun e w' => e = .returned (.int .i64 r) ∧ 0 ≤ r ∧ r < 3 ∧ Ctx B g v l s' w' ∧ w.grownBy w' (some g) :=
    ⟨_, _, fun {B g v w} h => (belowC B g v l t0 3 w h).mono (fun e w' q => ⟨q.1, (below_range l t0 3 (by omega)).1, (below_range l t0 3 (by omega)).2, q.2⟩)⟩
  refine ⟨r0, 1 + r1, 0, t1, fun {B g v w} h => ?_⟩
  have P := LocX.start h #[.int .i64 0, .int .i64 0, .int .i64 0, .int .i64 0] #[.int .i64 7, .int .i64 0, .int .i64 0, .int .i64 0] 36
  have hlt := h.lt
  go_enter Tryz.func42, Tryz.ntmps42
  go_wp2_with fail
  refine (T0 P.D).mono ?_
  rintro e w0 ⟨rfl, D, G⟩
  have P := P.call D G
  clear D G
  have o0 := P.O.cell 0; have o1 := P.O.cell 1; have o2 := P.O.cell 2; have o3 := P.O.cell 3
  have f0 := P.O.froz 0; have f1 := P.O.froz 1; have f2 := P.O.froz 2; have f3 := P.O.froz 3
  have P := P.set 1 (.int .i64 (r0))
  go_wp2_with fail
  clear o0 o1 o2 o3 f0 f1 f2 f3
  refine (T1 P.D).mono ?_
  rintro e w1 ⟨rfl, x1, x2, D, G⟩
  have P := P.call D G
  clear D G
  have o0 := P.O.cell 0; have o1 := P.O.cell 1; have o2 := P.O.cell 2; have o3 := P.O.cell 3
  have f0 := P.O.froz 0; have f1 := P.O.froz 1; have f2 := P.O.froz 2; have f3 := P.O.froz 3
  have q0 := P.R.cell 0; have q1 := P.R.cell 1; have q2 := P.R.cell 2; have q3 := P.R.cell 3
  have e0 := P.R.froz 0; have e1 := P.R.froz 1; have e2 := P.R.froz 2; have e3 := P.R.froz 3
  have P := P.set 2 (.int .i64 (1 + r1))
  go_wp2
  refine bodyPost_ret (v := .agg #[.int .i64 7, .int .i64 (r0), .int .i64 (1 + r1), .int .i64 (0)]) (by simp [results, Tryz.results42, go_sem, *]) rfl ⟨rfl, ?_, ?_⟩
  · exact (((P.D.set (by omega) _ _).set (by omega) _ _).set (by omega) _ _).set (by omega) _ _
  · exact grown_store (grown_store (grown_store (grown_store P.G (by omega) _ _) (by omega) _ _) (by omega) _ _) (by omega) _ _

set_option maxRecDepth 100000 in
set_option maxHeartbeats 800000 in
theorem plainX8 (l : List UInt8) (s : Num.St) : ∃ a b c s', TellsOp 8 l s a b c s' := by
  obtain ⟨r0, t0, T0⟩ := regX l s
  refine ⟨r0, 0, 0, t0, fun {B g v w} h => ?_⟩
  have P := LocX.start h #[.int .i64 0, .int .i64 0, .int .i64 0, .int .i64 0] #[.int .i64 8, .int .i64 0, .int .i64 0, .int .i64 0] 36
  have hlt := h.lt
  go_enter Tryz.func42, Tryz.ntmps42
  go_wp2_with fail
  refine (T0 P.D).mono ?_
  rintro e w0 ⟨rfl, D, G⟩
  have P := P.call D G
  clear D G
  have o0 := P.O.cell 0; have o1 := P.O.cell 1; have o2 := P.O.cell 2; have o3 := P.O.cell 3
  have f0 := P.O.froz 0; have f1 := P.O.froz 1; have f2 := P.O.froz 2; have f3 := P.O.froz 3
  have q0 := P.R.cell 0; have q1 := P.R.cell 1; have q2 := P.R.cell 2; have q3 := P.R.cell 3
  have e0 := P.R.froz 0; have e1 := P.R.froz 1; have e2 := P.R.froz 2; have e3 := P.R.froz 3
  have P := P.set 1 (.int .i64 (r0))
  go_wp2
  refine bodyPost_ret (v := .agg #[.int .i64 8, .int .i64 (r0), .int .i64 (0), .int .i64 (0)]) (by simp [results, Tryz.results42, go_sem, *]) rfl ⟨rfl, ?_, ?_⟩
  · exact (((P.D.set (by omega) _ _).set (by omega) _ _).set (by omega) _ _).set (by omega) _ _
  · exact grown_store (grown_store (grown_store (grown_store P.G (by omega) _ _) (by omega) _ _) (by omega) _ _) (by omega) _ _

set_option maxRecDepth 100000 in
set_option maxHeartbeats 800000 in
theorem plainX9 (l : List UInt8) (s : Num.St) : ∃ a b c s', TellsOp 9 l s a b c s' := by
  refine ⟨0, 0, 0, s, fun {B g v w} h => ?_⟩
  have P := LocX.start h #[.int .i64 0, .int .i64 0, .int .i64 0, .int .i64 0] #[.int .i64 9, .int .i64 0, .int .i64 0, .int .i64 0] 36
  have hlt := h.lt
  go_enter Tryz.func42, Tryz.ntmps42
  go_wp2
  refine bodyPost_ret (v := .agg #[.int .i64 9, .int .i64 (0), .int .i64 (0), .int .i64 (0)]) (by simp [results, Tryz.results42, go_sem, *]) rfl ⟨rfl, ?_, ?_⟩
  · exact (h.alloc _).alloc _
  · exact grown_new (grown_new (grown_refl w _) _) _

set_option maxRecDepth 100000 in
set_option maxHeartbeats 800000 in
theorem plainX10 (l : List UInt8) (s : Num.St) : ∃ a b c s', TellsOp 10 l s a b c s' := by
  refine ⟨0, 0, 0, s, fun {B g v w} h => ?_⟩
  have P := LocX.start h #[.int .i64 0, .int .i64 0, .int .i64 0, .int .i64 0] #[.int .i64 10, .int .i64 0, .int .i64 0, .int .i64 0] 36
  have hlt := h.lt
  go_enter Tryz.func42, Tryz.ntmps42
  go_wp2
  refine bodyPost_ret (v := .agg #[.int .i64 10, .int .i64 (0), .int .i64 (0), .int .i64 (0)]) (by simp [results, Tryz.results42, go_sem, *]) rfl ⟨rfl, ?_, ?_⟩
  · exact (h.alloc _).alloc _
  · exact grown_new (grown_new (grown_refl w _) _) _

set_option maxRecDepth 100000 in
set_option maxHeartbeats 800000 in
theorem plainX11 (l : List UInt8) (s : Num.St) : ∃ a b c s', TellsOp 11 l s a b c s' := by
  refine ⟨0, 0, 0, s, fun {B g v w} h => ?_⟩
  have P := LocX.start h #[.int .i64 0, .int .i64 0, .int .i64 0, .int .i64 0] #[.int .i64 11, .int .i64 0, .int .i64 0, .int .i64 0] 36
  have hlt := h.lt
  go_enter Tryz.func42, Tryz.ntmps42
  go_wp2
  refine bodyPost_ret (v := .agg #[.int .i64 11, .int .i64 (0), .int .i64 (0), .int .i64 (0)]) (by simp [results, Tryz.results42, go_sem, *]) rfl ⟨rfl, ?_, ?_⟩
  · exact (h.alloc _).alloc _
  · exact grown_new (grown_new (grown_refl w _) _) _

set_option maxRecDepth 100000 in
set_option maxHeartbeats 800000 in
theorem plainX12 (l : List UInt8) (s : Num.St) : ∃ a b c s', TellsOp 12 l s a b c s' := by
  obtain ⟨r0, t0, T0⟩ := keyX l s
  obtain ⟨r1, t1, T1⟩ := regX l t0
  obtain ⟨r2, t2, T2⟩ := regX l t1
  refine ⟨r0, r1, r2, t2, fun {B g v w} h => ?_⟩
  have P := LocX.start h #[.int .i64 0, .int .i64 0, .int .i64 0, .int .i64 0] #[.int .i64 12, .int .i64 0, .int .i64 0, .int .i64 0] 36
  have hlt := h.lt
  go_enter Tryz.func42, Tryz.ntmps42
  go_wp2_with fail
  refine (T0 P.D).mono ?_
  rintro e w0 ⟨rfl, D, G⟩
  have P := P.call D G
  clear D G
  have o0 := P.O.cell 0; have o1 := P.O.cell 1; have o2 := P.O.cell 2; have o3 := P.O.cell 3
  have f0 := P.O.froz 0; have f1 := P.O.froz 1; have f2 := P.O.froz 2; have f3 := P.O.froz 3
  have P := P.set 1 (.int .i64 (r0))
  go_wp2_with fail
  clear o0 o1 o2 o3 f0 f1 f2 f3
  refine (T1 P.D).mono ?_
  rintro e w1 ⟨rfl, D, G⟩
  have P := P.call D G
  clear D G
  have o0 := P.O.cell 0; have o1 := P.O.cell 1; have o2 := P.O.cell 2; have o3 := P.O.cell 3
  have f0 := P.O.froz 0; have f1 := P.O.froz 1; have f2 := P.O.froz 2; have f3 := P.O.froz 3
  have P := P.set 2 (.int .i64 (r1))
  go_wp2_with fail
  clear o0 o1 o2 o3 f0 f1 f2 f3
  refine (T2 P.D).mono ?_
  rintro e w2 ⟨rfl, D, G⟩
  have P := P.call D G
  clear D G
  have o0 := P.O.cell 0; have o1 := P.O.cell 1; have o2 := P.O.cell 2; have o3 := P.O.cell 3
  have f0 := P.O.froz 0; have f1 := P.O.froz 1; have f2 := P.O.froz 2; have f3 := P.O.froz 3
  have q0 := P.R.cell 0; have q1 := P.R.cell 1; have q2 := P.R.cell 2; have q3 := P.R.cell 3
  have e0 := P.R.froz 0; have e1 := P.R.froz 1; have e2 := P.R.froz 2; have e3 := P.R.froz 3
  have P := P.set 3 (.int .i64 (r2))
  go_wp2
  refine bodyPost_ret (v := .agg #[.int .i64 12, .int .i64 (r0), .int .i64 (r1), .int .i64 (r2)]) (by simp [results, Tryz.results42, go_sem, *]) rfl ⟨rfl, ?_, ?_⟩
  · exact (((P.D.set (by omega) _ _).set (by omega) _ _).set (by omega) _ _).set (by omega) _ _
  · exact grown_store (grown_store (grown_store (grown_store P.G (by omega) _ _) (by omega) _ _) (by omega) _ _) (by omega) _ _

set_option maxRecDepth 100000 in
set_option maxHeartbeats 800000 in
theorem plainX13 (l : List UInt8) (s : Num.St) : ∃ a b c s', TellsOp 13 l s a b c s' := by
  obtain ⟨r0, t0, T0⟩ := regX l s
  obtain ⟨r1, t1, T1⟩ := keyX l t0
  refine ⟨r0, r1, 0, t1, fun {B g v w} h => ?_⟩
  have P := LocX.start h #[.int .i64 0, .int .i64 0, .int .i64 0, .int .i64 0] #[.int .i64 13, .int .i64 0, .int .i64 0, .int .i64 0] 36
  have hlt := h.lt
  go_enter Tryz.func42, Tryz.ntmps42
  go_wp2_with fail
  refine (T0 P.D).mono ?_
  rintro e w0 ⟨rfl, D, G⟩
  have P := P.call D G
  clear D G
  have o0 := P.O.cell 0; have o1 := P.O.cell 1; have o2 := P.O.cell 2; have o3 := P.O.cell 3
  have f0 := P.O.froz 0; have f1 := P.O.froz 1; have f2 := P.O.froz 2; have f3 := P.O.froz 3
  have P := P.set 1 (.int .i64 (r0))
  go_wp2_with fail
  clear o0 o1 o2 o3 f0 f1 f2 f3
  refine (T1 P.D).mono ?_
  rintro e w1 ⟨rfl, D, G⟩
  have P := P.call D G
  clear D G
  have o0 := P.O.cell 0; have o1 := P.O.cell 1; have o2 := P.O.cell 2; have o3 := P.O.cell 3
  have f0 := P.O.froz 0; have f1 := P.O.froz 1; have f2 := P.O.froz 2; have f3 := P.O.froz 3
  have q0 := P.R.cell 0; have q1 := P.R.cell 1; have q2 := P.R.cell 2; have q3 := P.R.cell 3
  have e0 := P.R.froz 0; have e1 := P.R.froz 1; have e2 := P.R.froz 2; have e3 := P.R.froz 3
  have P := P.set 2 (.int .i64 (r1))
  go_wp2
  refine bodyPost_ret (v := .agg #[.int .i64 13, .int .i64 (r0), .int .i64 (r1), .int .i64 (0)]) (by simp [results, Tryz.results42, go_sem, *]) rfl ⟨rfl, ?_, ?_⟩
  · exact (((P.D.set (by omega) _ _).set (by omega) _ _).set (by omega) _ _).set (by omega) _ _
  · exact grown_store (grown_store (grown_store (grown_store P.G (by omega) _ _) (by omega) _ _) (by omega) _ _) (by omega) _ _

set_option maxRecDepth 100000 in
set_option maxHeartbeats 800000 in
theorem plainX14 (l : List UInt8) (s : Num.St) : ∃ a b c s', TellsOp 14 l s a b c s' := by
  obtain ⟨r0, t0, T0⟩ := keyX l s
  obtain ⟨r1, t1, T1⟩ := regX l t0
  refine ⟨r0, r1, 0, t1, fun {B g v w} h => ?_⟩
  have P := LocX.start h #[.int .i64 0, .int .i64 0, .int .i64 0, .int .i64 0] #[.int .i64 14, .int .i64 0, .int .i64 0, .int .i64 0] 36
  have hlt := h.lt
  go_enter Tryz.func42, Tryz.ntmps42
  go_wp2_with fail
  refine (T0 P.D).mono ?_
  rintro e w0 ⟨rfl, D, G⟩
  have P := P.call D G
  clear D G
  have o0 := P.O.cell 0; have o1 := P.O.cell 1; have o2 := P.O.cell 2; have o3 := P.O.cell 3
  have f0 := P.O.froz 0; have f1 := P.O.froz 1; have f2 := P.O.froz 2; have f3 := P.O.froz 3
  have P := P.set 1 (.int .i64 (r0))
  go_wp2_with fail
  clear o0 o1 o2 o3 f0 f1 f2 f3
  refine (T1 P.D).mono ?_
  rintro e w1 ⟨rfl, D, G⟩
  have P := P.call D G
  clear D G
  have o0 := P.O.cell 0; have o1 := P.O.cell 1; have o2 := P.O.cell 2; have o3 := P.O.cell 3
  have f0 := P.O.froz 0; have f1 := P.O.froz 1; have f2 := P.O.froz 2; have f3 := P.O.froz 3
  have q0 := P.R.cell 0; have q1 := P.R.cell 1; have q2 := P.R.cell 2; have q3 := P.R.cell 3
  have e0 := P.R.froz 0; have e1 := P.R.froz 1; have e2 := P.R.froz 2; have e3 := P.R.froz 3
  have P := P.set 2 (.int .i64 (r1))
  go_wp2
  refine bodyPost_ret (v := .agg #[.int .i64 14, .int .i64 (r0), .int .i64 (r1), .int .i64 (0)]) (by simp [results, Tryz.results42, go_sem, *]) rfl ⟨rfl, ?_, ?_⟩
  · exact (((P.D.set (by omega) _ _).set (by omega) _ _).set (by omega) _ _).set (by omega) _ _
  · exact grown_store (grown_store (grown_store (grown_store P.G (by omega) _ _) (by omega) _ _) (by omega) _ _) (by omega) _ _

set_option maxRecDepth 100000 in
set_option maxHeartbeats 800000 in
theorem plainX15 (l : List UInt8) (s : Num.St) : ∃ a b c s', TellsOp 15 l s a b c s' := by
  obtain ⟨r0, t0, T0⟩ := regX l s
  refine ⟨r0, 0, 0, t0, fun {B g v w} h => ?_⟩
  have P := LocX.start h #[.int .i64 0, .int .i64 0, .int .i64 0, .int .i64 0] #[.int .i64 15, .int .i64 0, .int .i64 0, .int .i64 0] 36
  have hlt := h.lt
  go_enter Tryz.func42, Tryz.ntmps42
  go_wp2_with fail
  refine (T0 P.D).mono ?_
  rintro e w0 ⟨rfl, D, G⟩
  have P := P.call D G
  clear D G
  have o0 := P.O.cell 0; have o1 := P.O.cell 1; have o2 := P.O.cell 2; have o3 := P.O.cell 3
  have f0 := P.O.froz 0; have f1 := P.O.froz 1; have f2 := P.O.froz 2; have f3 := P.O.froz 3
  have q0 := P.R.cell 0; have q1 := P.R.cell 1; have q2 := P.R.cell 2; have q3 := P.R.cell 3
  have e0 := P.R.froz 0; have e1 := P.R.froz 1; have e2 := P.R.froz 2; have e3 := P.R.froz 3
  have P := P.set 1 (.int .i64 (r0))
  go_wp2
  refine bodyPost_ret (v := .agg #[.int .i64 15, .int .i64 (r0), .int .i64 (0), .int .i64 (0)]) (by simp [results, Tryz.results42, go_sem, *]) rfl ⟨rfl, ?_, ?_⟩
  · exact (((P.D.set (by omega) _ _).set (by omega) _ _).set (by omega) _ _).set (by omega) _ _
  · exact grown_store (grown_store (grown_store (grown_store P.G (by omega) _ _) (by omega) _ _) (by omega) _ _) (by omega) _ _

set_option maxRecDepth 100000 in
set_option maxHeartbeats 800000 in
theorem plainX16 (l : List UInt8) (s : Num.St) : ∃ a b c s', TellsOp 16 l s a b c s' := by
  obtain ⟨r0, t0, T0⟩ := regX l s
  refine ⟨r0, 0, 0, t0, fun {B g v w} h => ?_⟩
  have P := LocX.start h #[.int .i64 0, .int .i64 0, .int .i64 0, .int .i64 0] #[.int .i64 16, .int .i64 0, .int .i64 0, .int .i64 0] 36
  have hlt := h.lt
  go_enter Tryz.func42, Tryz.ntmps42
  go_wp2_with fail
  refine (T0 P.D).mono ?_
  rintro e w0 ⟨rfl, D, G⟩
  have P := P.call D G
  clear D G
  have o0 := P.O.cell 0; have o1 := P.O.cell 1; have o2 := P.O.cell 2; have o3 := P.O.cell 3
  have f0 := P.O.froz 0; have f1 := P.O.froz 1; have f2 := P.O.froz 2; have f3 := P.O.froz 3
  have q0 := P.R.cell 0; have q1 := P.R.cell 1; have q2 := P.R.cell 2; have q3 := P.R.cell 3
  have e0 := P.R.froz 0; have e1 := P.R.froz 1; have e2 := P.R.froz 2; have e3 := P.R.froz 3
  have P := P.set 1 (.int .i64 (r0))
  go_wp2
  refine bodyPost_ret (v := .agg #[.int .i64 16, .int .i64 (r0), .int .i64 (0), .int .i64 (0)]) (by simp [results, Tryz.results42, go_sem, *]) rfl ⟨rfl, ?_, ?_⟩
  · exact (((P.D.set (by omega) _ _).set (by omega) _ _).set (by omega) _ _).set (by omega) _ _
  · exact grown_store (grown_store (grown_store (grown_store P.G (by omega) _ _) (by omega) _ _) (by omega) _ _) (by omega) _ _

theorem plainX (l : List UInt8) (s : Num.St) (k : Int) (h1 : 1 ≤ k) (h2 : k ≤ 16) : ∃ a b c s', TellsOp k l s a b c s' := by
  rcases kinds k with rfl | rfl | rfl | rfl | rfl | rfl | rfl | rfl | rfl | rfl | rfl | rfl | rfl | rfl | rfl | rfl | hk
  · exact plainX1 l s
  · exact plainX2 l s
  · exact plainX3 l s
  · exact plainX4 l s
  · exact plainX5 l s
  · exact plainX6 l s
  · exact plainX7 l s
  · exact plainX8 l s
  · exact plainX9 l s
  · exact plainX10 l s
  · exact plainX11 l s
  · exact plainX12 l s
  · exact plainX13 l s
  · exact plainX14 l s
  · exact plainX15 l s
  · exact plainX16 l s
  · omega

end Ops
end Go.Proofs.YtjopmakbnompnaaGreatDoor
/- The text of an op is drawn, exactly. -/
set_option linter.unusedVariables false
namespace Go.Proofs.YtjopmakbnompnaaGreatDoor
open Go.RowKit
namespace Draw
open Num (below belowSt below_range)
open Bas (Blk)
theorem grown_of_below {w w' : World} (h : Below w.heap.size w w') (r : Option Nat) : w.grownBy w' r := ⟨h.os, h.tape, h.output, h.size, fun k hk _ => h.block k hk⟩
set_option maxRecDepth 100000 in
theorem pickS {B g : Nat} {v : Value} {l : List UInt8} {s : Num.St} {w : World} (h : Ctx B g v l s w) (zs : List ByteArray) (m : Nat) (hm : zs.length = m) (hm0 : 0 < m) (hm1 : m ≤ 1000) (cs : Array Value) (hcs : cs = (zs.map Value.string).toArray) :
    Calls Tryz.prog 34 #[.pointer (some ⟨g, 0, none⟩), .slice (some ⟨w.heap.size, 0, none⟩) m m] (w.alloc (.cells cs 9)) fun e w' => e = .returned (.string (zs.getD (below l s m).toNat ByteArray.empty)) ∧ Ctx B g v l (belowSt l s m) w' ∧ w.grownBy w' (some g) := by
  have hlt := h.lt
  have HC := (show Hid _ from h.alloc (.cells cs 9))
  have hr := below_range l s m (by omega)
  have HZ := (show Hid (∀ j, j < m → (w.alloc (.cells cs 9)).cell? ⟨w.heap.size, j, none⟩ = some (.string (zs.getD j ByteArray.empty))) from fun j hj => by
    subst hcs
    rw [cell_of_row _ _ _ _ _ _ (heap_alloc_new w _)]
    simp [List.getD, show j < zs.length by omega])
  have G0 : w.grownBy (w.alloc (.cells cs 9)) (some g) := World.grownBy_alloc w _ _
  obtain ⟨W, hW⟩ : ∃ W, w.alloc (.cells cs 9) = W := ⟨_, rfl⟩
  have hz : W.heap.size = w.heap.size + 1 := by rw [← hW]; simp
  obtain ⟨p, hp⟩ : ∃ p, w.heap.size = p := ⟨_, rfl⟩
  rw [hW, hp] at HZ
  rw [hW] at HC G0 ⊢
  rw [hp] at hz hlt ⊢
  clear h hcs hW hp
  go_enter Tryz.func34, Tryz.ntmps34
  go_wp2_with fail
  refine (belowC B g v l s m _ HC.out).mono ?_
  obtain ⟨d, hd⟩ := Int.eq_ofNat_of_zero_le hr.1
  rw [hd]
  rw [hd] at hr
  rintro e w1 ⟨rfl, hc, hg⟩
  have hcell : w1.cell? ⟨p, d, none⟩ = some (.string (zs.getD d ByteArray.empty)) := by
    rw [World.cell?_of_block (w := W) (hg.block p (by omega) (fun e => by injection e; omega))]
    exact HZ.out d (by omega)
  have HD : Hid (below l s m = (d : Int)) := hd
  obtain ⟨q, hq⟩ : ∃ q, zs.getD d ByteArray.empty = q := ⟨_, rfl⟩
  rw [hq] at hcell
  have HQ : Hid (zs.getD d ByteArray.empty = q) := hq
  have hdm : (d : Int) < (m : Int) := hr.2
  have hd0 : (0 : Int) ≤ (d : Int) := by omega
  clear hd hq hr
  go_wp2
  go_ret
  exact ⟨(show Ending.returned (.string q) = _ by rw [HD.out, Int.toNat_natCast, HQ.out]), hc, grown_trans G0 hg⟩
end Draw
end Go.Proofs.YtjopmakbnompnaaGreatDoor
/- A text drawn, byte by byte. -/
namespace Go.Proofs.YtjopmakbnompnaaGreatDoor
open Go.RowKit
namespace Draw
open Num Bytes

theorem grown_own {w wr w1 : World} {g : Nat} {r : Option Nat} (h : w.grownBy wr (some g)) (k : wr.grownBy w1 r) (hr : ∀ b, r = some b → w.heap.size ≤ b) : w.grownBy w1 (some g) :=
  ⟨k.os.trans h.os, k.tape.trans h.tape, k.output.trans h.output, Nat.le_trans h.size k.size, fun i hi hne => (k.block i (Nat.lt_of_lt_of_le hi h.size) (fun e => by have := hr i e.symm; omega)).trans (h.block i hi hne)⟩

set_option maxRecDepth 100000 in
set_option maxHeartbeats 1600000 in
theorem textC (B g : Nat) (v : Value) (l : List UInt8) (s : St) (most : Nat) (hmost : most ≤ 1000) (w : World) (h : Ctx B g v l s w) :
    Calls Tryz.prog 63 #[.pointer (some ⟨g, 0, none⟩), .int .i64 (most : Int)] w fun e w' => e = .returned (.string ⟨(text l s most).toArray⟩) ∧ Ctx B g v l (textSt l s most) w' ∧ w.grownBy w' (some g) := by
  obtain ⟨i0, hi, hz0, hz1, hz2⟩ := info_parts Tryz.infoByte
  have hO0 := own_lit w w.heap.size (Nat.le_refl _)
  have HC : Hid (Ctx B g v l s w) := h
  have hgw := h.cur.lt
  have hr1 := below_range l s 4 (by omega)
  have hr2 := below_range l (belowSt l s 4) ((most : Int) + 1) (by omega)
  have HT : Hid (text l s most = (tx l (belowSt l (belowSt l s 4) ((most : Int) + 1)) (below l s 4) (below l (belowSt l s 4) ((most : Int) + 1)).toNat).1) := rfl
  have HTS : Hid (textSt l s most = (tx l (belowSt l (belowSt l s 4) ((most : Int) + 1)) (below l s 4) (below l (belowSt l s 4) ((most : Int) + 1)).toNat).2) := rfl
  obtain ⟨sty, hsty⟩ : ∃ x, below l s 4 = x := ⟨_, rfl⟩
  obtain ⟨n, hn⟩ := Int.eq_ofNat_of_zero_le hr2.1
  rw [hn, Int.toNat_natCast, hsty] at HT HTS
  rw [hsty] at hr1
  rw [hn] at hr2
  have HY : Hid (below l s 4 = sty) := hsty
  have HNN : Hid (below l (belowSt l s 4) ((most : Int) + 1) = (n : Int)) := hn
  obtain ⟨s2, hs2⟩ : ∃ x, belowSt l (belowSt l s 4) ((most : Int) + 1) = x := ⟨_, rfl⟩
  rw [hs2] at HT HTS
  have HS2 : Hid (belowSt l (belowSt l s 4) ((most : Int) + 1) = s2) := hs2
  clear h hsty hn hs2
  go_enter Tryz.func63, Tryz.ntmps63
  go_wp2_with fail
  refine (belowC B g v l s 4 _ (HC.out.alloc _)).mono ?_
  rw [HY.out]
  rintro e w1 ⟨rfl, hc1, hg1⟩
  have hO1 := hO0.kept hg1 (.inr (by simp [Value.ownBlock]; omega))
  have hG1 : w.grownBy w1 (some g) := grown_trans (World.grownBy_alloc _ _ _) hg1
  clear hO0 hg1
  go_wp2_with fail
  refine (belowC B g v l _ ((most : Int) + 1) _ hc1).mono ?_
  rw [HNN.out, HS2.out]
  rintro e w2 ⟨rfl, hc2, hg2⟩
  have hO2 := hO1.kept hg2 (.inr (by simp [Value.ownBlock]; omega))
  have hG2 : w.grownBy w2 (some g) := grown_trans hG1 hg2
  clear hO1 hg2 hc1 hG1
  have HI : Hid (∃ k : Nat, k ≤ n ∧ w2.ownsRow w.heap.size 5 1 (.slice (some ⟨w.heap.size, 0, none⟩) 0 0) k (bv (tx l s2 sty k).1) ∧ Ctx B g v l (tx l s2 sty k).2 w2 ∧ w.grownBy w2 (some g) ∧ k = 0) := ⟨0, Nat.zero_le _, hO2, hc2, hG2, rfl⟩
  clear hO2 hc2 hG2
  go_wp2
  go_loopw [5, 7, 8] (fun x c _ wr => ∃ k : Nat, k ≤ n ∧ c = .int .i64 ((n : Int) - k) ∧ wr.ownsRow w.heap.size 5 1 x k (bv (tx l s2 sty k).1) ∧ Ctx B g v l (tx l s2 sty k).2 wr ∧ w.grownBy wr (some g)) (fun _ c _ _ => (intOf c).toNat)
  case atStart =>
    obtain ⟨k, _, h2, h3, h4, rfl⟩ := HI.out
    exact ⟨0, Nat.zero_le _, by simp, h2, h3, h4⟩
  case round =>
    obtain ⟨k, hk, rfl, hown, hc, hG⟩ := hrel
    clear HI
    by_cases hlt : k < n
    · have hxr := bx_range l (tx l s2 sty k).2
      obtain ⟨x, hx⟩ : ∃ x, bx l (tx l s2 sty k).2 = x := ⟨_, rfl⟩
      have HX : Hid (bx l (tx l s2 sty k).2 = x) := hx
      have HP : Hid ((tx l s2 sty (k + 1)).1 = (tx l s2 sty k).1 ++ [UInt8.ofNat (styled sty (bx l (tx l s2 sty k).2)).toNat]) := rfl
      have HP2 : Hid ((tx l s2 sty (k + 1)).2 = bst l (tx l s2 sty k).2) := rfl
      rw [hx] at HP hxr
      have hsr := styled_range sty x hxr
      have hVs : styled sty x = ((UInt8.ofNat (styled sty x).toNat).toNat : Int) := by simp; omega
      obtain ⟨b, hb⟩ : ∃ b, UInt8.ofNat (styled sty x).toNat = b := ⟨_, rfl⟩
      rw [hb] at HP hVs
      have HCC : Hid (Ctx B g v l (tx l s2 sty k).2 wr) := hc
      have HOW : Hid (wr.ownsRow w.heap.size 5 1 u5 k (bv (tx l s2 sty k).1)) := hown
      have HGG : Hid (w.grownBy wr (some g)) := hG
      have hob : u5.ownBlock = none ∨ u5.ownBlock ≠ some g := by
        right; intro e; have := (hown.lt g e).1; omega
      clear hx hb hc hown hG hsr
      by_cases h1 : sty = 1
      · have hs1 : (sty == 1) = true := by rw [beq_iff_eq]; exact h1
        have hs2' : (sty == 2) = false := by rw [beq_eq_false_iff_ne]; omega
        have HV : Hid (x % 2 = (b.toNat : Int)) := by
          show _ = _
          rw [← hVs]
          unfold styled
          rw [if_pos h1]
        clear hVs h1
        go_wp2_with fail
        refine (byteC B g v l (tx l s2 sty k).2 _ HCC.out).mono ?_
        rw [HX.out]
        rintro e w3 ⟨rfl, hc3, hg3⟩
        have hown3 := HOW.out.kept hg3 hob
        have hG3 : w.grownBy w3 (some g) := grown_trans HGG.out hg3
        have hsz : w.heap.size ≤ w3.heap.size := hG3.size
        have HC3 : Hid (Ctx B g v l (bst l (tx l s2 sty k).2) w3) := hc3
        have HG3 : Hid (w.grownBy w3 (some g)) := hG3
        clear hc3 hG3 hg3
        go_wp2_with (at_builtin; refine wpList_append_own _ rfl _ _ 22 rfl w.heap.size 5 i0 (.int .u8 0) 1 1 Tryz.underlying22 hi hz0 hz1 hz2 rfl (by decide) _ _ _ rfl (hown3.alloc _) ⟨w3.heap.size, 0, none⟩ 1 1 (bv [b]) rfl rfl ?ca1 ?ca2 ?ca3 ?ca4 ?ca5 ?_)
        case ca1 =>
          intro j u hj
          obtain ⟨c, hc, rfl⟩ := bv_get _ _ _ hj
          exact new1 _ _ _ HV.out j c hc
        case ca2 => exact bv_one _
        case ca3 => unfold maxLen; omega
        case ca4 => omega
        case ca5 => simp; omega
        intro v' w4 hown' hgr _
        have HOW4 : Hid (w4.ownsRow w.heap.size 5 1 v' (k + 1) (bv (tx l s2 sty (k + 1)).1)) := by
          show World.ownsRow _ _ _ _ _ _ _
          rw [HP.out]
          have e : bv ((tx l s2 sty k).1 ++ [b]) = bv (tx l s2 sty k).1 ++ bv [b] := by simp [bv]
          rw [e]; exact hown'
        have hob3 : ∀ b, u5.ownBlock = some b → w.heap.size ≤ b := fun b hb => (hown3.lt b hb).1
        have HG4 : Hid (w.grownBy w4 (some g)) := grown_own (grown_trans HG3.out (World.grownBy_alloc _ _ _)) hgr hob3
        have HC4 : Hid (Ctx B g v l (tx l s2 sty (k + 1)).2 w4) := by
          show Ctx _ _ _ _ _ _
          rw [HP2.out]
          exact (HC3.out.alloc _).grown hgr (fun b hb => by have := hob3 b hb; omega)
        clear hown' hgr hown3 hob3
        go_wp2
        go_roundw
        case rel =>
          have e1 : Value.int .i64 ((n : Int) - k - 1) = .int .i64 ((n : Int) - ((k + 1 : Nat) : Int)) := by go_num
          first | exact ⟨k + 1, by omega, e1, HOW4.out, HC4.out, HG4.out⟩ | ((repeat apply Exists.intro); exact ⟨⟨k + 1, by omega, e1, HOW4.out, HC4.out, HG4.out⟩, rfl⟩)
        case measure => simp only [intOf]; omega
      · have hs1 : (sty == 1) = false := by rw [beq_eq_false_iff_ne]; exact h1
        by_cases h2 : sty = 2
        · have hs2' : (sty == 2) = true := by rw [beq_iff_eq]; exact h2
          have HV : Hid (97 + x % 4 = (b.toNat : Int)) := by
            show _ = _
            rw [← hVs]
            unfold styled
            rw [if_neg h1, if_pos h2]
          clear hVs h1 h2
          go_wp2_with fail
          refine (byteC B g v l (tx l s2 sty k).2 _ HCC.out).mono ?_
          rw [HX.out]
          rintro e w3 ⟨rfl, hc3, hg3⟩
          have hown3 := HOW.out.kept hg3 hob
          have hG3 : w.grownBy w3 (some g) := grown_trans HGG.out hg3
          have hsz : w.heap.size ≤ w3.heap.size := hG3.size
          have HC3 : Hid (Ctx B g v l (bst l (tx l s2 sty k).2) w3) := hc3
          have HG3 : Hid (w.grownBy w3 (some g)) := hG3
          clear hc3 hG3 hg3
          go_wp2_with (at_builtin; refine wpList_append_own _ rfl _ _ 22 rfl w.heap.size 5 i0 (.int .u8 0) 1 1 Tryz.underlying22 hi hz0 hz1 hz2 rfl (by decide) _ _ _ rfl (hown3.alloc _) ⟨w3.heap.size, 0, none⟩ 1 1 (bv [b]) rfl rfl ?cb1 ?cb2 ?cb3 ?cb4 ?cb5 ?_)
          case cb1 =>
            intro j u hj
            obtain ⟨c, hc, rfl⟩ := bv_get _ _ _ hj
            exact new1 _ _ _ HV.out j c hc
          case cb2 => exact bv_one _
          case cb3 => unfold maxLen; omega
          case cb4 => omega
          case cb5 => simp; omega
          intro v' w4 hown' hgr _
          have HOW4 : Hid (w4.ownsRow w.heap.size 5 1 v' (k + 1) (bv (tx l s2 sty (k + 1)).1)) := by
            show World.ownsRow _ _ _ _ _ _ _
            rw [HP.out]
            have e : bv ((tx l s2 sty k).1 ++ [b]) = bv (tx l s2 sty k).1 ++ bv [b] := by simp [bv]
            rw [e]; exact hown'
          have hob3 : ∀ b, u5.ownBlock = some b → w.heap.size ≤ b := fun b hb => (hown3.lt b hb).1
          have HG4 : Hid (w.grownBy w4 (some g)) := grown_own (grown_trans HG3.out (World.grownBy_alloc _ _ _)) hgr hob3
          have HC4 : Hid (Ctx B g v l (tx l s2 sty (k + 1)).2 w4) := by
            show Ctx _ _ _ _ _ _
            rw [HP2.out]
            exact (HC3.out.alloc _).grown hgr (fun b hb => by have := hob3 b hb; omega)
          clear hown' hgr hown3 hob3
          go_wp2
          go_roundw
          case rel =>
            have e1 : Value.int .i64 ((n : Int) - k - 1) = .int .i64 ((n : Int) - ((k + 1 : Nat) : Int)) := by go_num
            first | exact ⟨k + 1, by omega, e1, HOW4.out, HC4.out, HG4.out⟩ | ((repeat apply Exists.intro); exact ⟨⟨k + 1, by omega, e1, HOW4.out, HC4.out, HG4.out⟩, rfl⟩)
          case measure => simp only [intOf]; omega
        · have hs2' : (sty == 2) = false := by rw [beq_eq_false_iff_ne]; exact h2
          have HV : Hid (x = (b.toNat : Int)) := by
            show _ = _
            rw [← hVs]
            unfold styled
            rw [if_neg h1, if_neg h2]
          clear hVs h1 h2
          go_wp2_with fail
          refine (byteC B g v l (tx l s2 sty k).2 _ HCC.out).mono ?_
          rw [HX.out]
          rintro e w3 ⟨rfl, hc3, hg3⟩
          have hown3 := HOW.out.kept hg3 hob
          have hG3 : w.grownBy w3 (some g) := grown_trans HGG.out hg3
          have hsz : w.heap.size ≤ w3.heap.size := hG3.size
          have HC3 : Hid (Ctx B g v l (bst l (tx l s2 sty k).2) w3) := hc3
          have HG3 : Hid (w.grownBy w3 (some g)) := hG3
          clear hc3 hG3 hg3
          go_wp2_with (at_builtin; refine wpList_append_own _ rfl _ _ 22 rfl w.heap.size 5 i0 (.int .u8 0) 1 1 Tryz.underlying22 hi hz0 hz1 hz2 rfl (by decide) _ _ _ rfl (hown3.alloc _) ⟨w3.heap.size, 0, none⟩ 1 1 (bv [b]) rfl rfl ?cd1 ?cd2 ?cd3 ?cd4 ?cd5 ?_)
          case cd1 =>
            intro j u hj
            obtain ⟨c, hc, rfl⟩ := bv_get _ _ _ hj
            exact new1 _ _ _ HV.out j c hc
          case cd2 => exact bv_one _
          case cd3 => unfold maxLen; omega
          case cd4 => omega
          case cd5 => simp; omega
          intro v' w4 hown' hgr _
          have HOW4 : Hid (w4.ownsRow w.heap.size 5 1 v' (k + 1) (bv (tx l s2 sty (k + 1)).1)) := by
            show World.ownsRow _ _ _ _ _ _ _
            rw [HP.out]
            have e : bv ((tx l s2 sty k).1 ++ [b]) = bv (tx l s2 sty k).1 ++ bv [b] := by simp [bv]
            rw [e]; exact hown'
          have hob3 : ∀ b, u5.ownBlock = some b → w.heap.size ≤ b := fun b hb => (hown3.lt b hb).1
          have HG4 : Hid (w.grownBy w4 (some g)) := grown_own (grown_trans HG3.out (World.grownBy_alloc _ _ _)) hgr hob3
          have HC4 : Hid (Ctx B g v l (tx l s2 sty (k + 1)).2 w4) := by
            show Ctx _ _ _ _ _ _
            rw [HP2.out]
            exact (HC3.out.alloc _).grown hgr (fun b hb => by have := hob3 b hb; omega)
          clear hown' hgr hown3 hob3
          go_wp2
          go_roundw
          case rel =>
            have e1 : Value.int .i64 ((n : Int) - k - 1) = .int .i64 ((n : Int) - ((k + 1 : Nat) : Int)) := by go_num
            first | exact ⟨k + 1, by omega, e1, HOW4.out, HC4.out, HG4.out⟩ | ((repeat apply Exists.intro); exact ⟨⟨k + 1, by omega, e1, HOW4.out, HC4.out, HG4.out⟩, rfl⟩)
          case measure => simp only [intOf]; omega
    · obtain rfl : k = n := by omega
      have hst := own_str hown
      rw [← HT.out] at hst
      rw [← HTS.out] at hc
      clear hown
      go_wp2
      go_ret
      exact ⟨rfl, hc, hG⟩
end Draw
end Go.Proofs.YtjopmakbnompnaaGreatDoor
/- A text spoilt at one place that is drawn. -/
namespace Go.Proofs.YtjopmakbnompnaaGreatDoor
open Go.RowKit
namespace Draw
open Num Bytes

theorem ret_s {a b : ByteArray} (h : a = b) : Ending.returned (.string a) = .returned (.string b) := by rw [h]

theorem Ctx.drewN {B g : Nat} {v : Value} {l : List UInt8} {s : St} {w : World} (h : Ctx B g v l s w) (n : Nat) : Ctx B g v l s (w.drewN n) := ⟨h.code, h.cur, h.low, h.len, h.at_⟩
theorem Ctx.drew {B g : Nat} {v : Value} {l : List UInt8} {s : St} {w : World} (h : Ctx B g v l s w) : Ctx B g v l s w.drew := ⟨h.code, h.cur, h.low, h.len, h.at_⟩
theorem grown_drew1 {a b : World} {r : Option Nat} (h : a.grownBy b r) : a.grownBy b.drew r := ⟨h.os, h.tape, h.output, h.size, h.block⟩

set_option maxRecDepth 100000 in
set_option maxHeartbeats 1600000 in
theorem spoilC (B g : Nat) (v : Value) (l : List UInt8) (s : St) (p : ByteArray) (hp : p.size ≤ 100000) (w : World) (h : Ctx B g v l s w) :
    Calls Tryz.prog 33 #[.pointer (some ⟨g, 0, none⟩), .string p] w fun e w' => e = .returned (.string (spoil l s p)) ∧ Ctx B g v l (spoilSt l s p) w' ∧ w.grownBy w' (some g) := by
  have HC : Hid (Ctx B g v l s w) := h
  clear h
  by_cases h0 : p.size = 0
  · have HX : Hid (spoil l s p = ⟨(text l s 3).toArray⟩) := by show _ = _; unfold spoil; rw [if_pos h0]
    have HS : Hid (spoilSt l s p = textSt l s 3) := by show _ = _; unfold spoilSt; rw [if_pos h0]
    have hz : ((p.size : Int) == 0) = true := by rw [beq_iff_eq]; omega
    clear h0
    go_enter Tryz.func33, Tryz.ntmps33
    go_wp2_with fail
    refine (textC B g v l s 3 (by omega) _ HC.out).mono ?_
    rintro e w1 ⟨rfl, hc, hg⟩
    go_wp2
    go_ret
    exact ⟨ret_s HX.out.symm, by rw [HS.out]; exact hc, hg⟩
  · have hz : ((p.size : Int) == 0) = false := by rw [beq_eq_false_iff_ne]; omega
    have hk := spK_lt l s p h0
    have HK : Hid (below l s (p.size : Int) = (spK l s p : Int)) := by
      show _ = _
      unfold spK
      have := below_range l s (p.size : Int) (by omega)
      omega
    have HD : Hid (below l (belowSt l s (p.size : Int)) 4 = spD l s p) := rfl
    have HSS : Hid (belowSt l (belowSt l s (p.size : Int)) 4 = spS l s p) := rfl
    have HSP : Hid (spoil l s p = if spD l s p = 0 then p.extract 0 (spK l s p) ++ p.extract (spK l s p + 1) p.size
        else if spD l s p = 1 then p.extract 0 (spK l s p) ++ ⟨#[UInt8.ofNat (bx l (spS l s p)).toNat]⟩ ++ p.extract (spK l s p) p.size
        else if spD l s p = 2 then p.extract 0 (spK l s p)
        else p.extract 0 (spK l s p) ++ ⟨#[UInt8.ofNat (bits .xor .i64 ((p.data.toList.getD (spK l s p) 0).toNat : Int) (1 + below l (spS l s p) 255) % 256).toNat]⟩ ++ p.extract (spK l s p + 1) p.size) := by show _ = _; unfold spoil; rw [if_neg h0]
    have HST : Hid (spoilSt l s p = if spD l s p = 0 then spS l s p else if spD l s p = 1 then bst l (spS l s p) else if spD l s p = 2 then spS l s p else belowSt l (spS l s p) 255) := by show _ = _; unfold spoilSt; rw [if_neg h0]
    obtain ⟨k, hkk⟩ : ∃ k, spK l s p = k := ⟨_, rfl⟩
    obtain ⟨d, hdd⟩ : ∃ d, spD l s p = d := ⟨_, rfl⟩
    obtain ⟨s2, hs2⟩ : ∃ s2, spS l s p = s2 := ⟨_, rfl⟩
    rw [hkk] at hk HK HSP
    rw [hdd] at HD HSP HST
    rw [hs2] at HSS HSP HST
    have hkI : (k : Int) < (p.size : Int) := by omega
    have hk0 : (0 : Int) ≤ (k : Int) := by omega
    have hk1 : (k : Int) + 1 ≤ (p.size : Int) := by omega
    have hkle : (k : Int) ≤ (p.size : Int) := by omega
    clear hkk hdd hs2 h0
    by_cases hd0 : d = 0
    · have hb0 : (d == 0) = true := by rw [beq_iff_eq]; exact hd0
      rw [if_pos hd0] at HSP HST
      clear hd0
      go_enter Tryz.func33, Tryz.ntmps33
      go_wp2_with fail
      refine (belowC B g v l s (p.size : Int) _ HC.out).mono ?_
      rw [HK.out]
      rintro e w1 ⟨rfl, hc1, hg1⟩
      go_wp2_with fail
      refine (belowC B g v l _ 4 _ hc1).mono ?_
      rw [HD.out, HSS.out]
      rintro e w2 ⟨rfl, hc2, hg2⟩
      go_wp2
      go_quiet (fail)
      go_wp2
      go_ret
      exact ⟨ret_s HSP.out.symm, by rw [HST.out]; exact hc2.drewN _, grown_drewN (grown_trans hg1 hg2) _⟩
    · have hb0 : (d == 0) = false := by rw [beq_eq_false_iff_ne]; exact hd0
      rw [if_neg hd0] at HSP HST
      by_cases hd1 : d = 1
      · have hb1 : (d == 1) = true := by rw [beq_iff_eq]; exact hd1
        rw [if_pos hd1] at HSP HST
        have hxr := bx_range l s2
        obtain ⟨x, hx⟩ : ∃ x, bx l s2 = x := ⟨_, rfl⟩
        have HX : Hid (bx l s2 = x) := hx
        rw [hx] at hxr HSP
        have HV : Hid (x = ((UInt8.ofNat x.toNat).toNat : Int)) := by show _ = _; simp; omega
        obtain ⟨b, hb⟩ : ∃ b, UInt8.ofNat x.toNat = b := ⟨_, rfl⟩
        rw [hb] at HSP HV
        have hwx : IntKind.u8.wrap x = x := by rw [IntKind.wrap_u8]; omega
        have hcv := str1 x b HV.out
        clear hd0 hd1 hx hb
        go_enter Tryz.func33, Tryz.ntmps33
        go_wp2_with fail
        refine (belowC B g v l s (p.size : Int) _ HC.out).mono ?_
        rw [HK.out]
        rintro e w1 ⟨rfl, hc1, hg1⟩
        go_wp2_with fail
        refine (belowC B g v l _ 4 _ hc1).mono ?_
        rw [HD.out, HSS.out]
        rintro e w2 ⟨rfl, hc2, hg2⟩
        have HC2 : Hid (Ctx B g v l s2 w2) := hc2
        have HG2 : Hid (w.grownBy w2 (some g)) := grown_trans hg1 hg2
        clear hc2 hc1 hg1 hg2
        go_wp2
        go_region_with (go_at_call 62; refine (byteC B g v l s2 _ ?_).mono ?_; exact HC2.out.drew; rw [HX.out]; rintro e w3 ⟨rfl, hc3, hg3⟩)
        go_wp2
        go_ret
        exact ⟨ret_s HSP.out.symm, by rw [HST.out]; exact hc3.alloc _, grown_trans (grown_drew1 HG2.out) (grown_trans hg3 (World.grownBy_alloc _ _ _))⟩
      · have hb1 : (d == 1) = false := by rw [beq_eq_false_iff_ne]; exact hd1
        rw [if_neg hd1] at HSP HST
        by_cases hd2 : d = 2
        · have hb2 : (d == 2) = true := by rw [beq_iff_eq]; exact hd2
          rw [if_pos hd2] at HSP HST
          clear hd0 hd1 hd2
          go_enter Tryz.func33, Tryz.ntmps33
          go_wp2_with fail
          refine (belowC B g v l s (p.size : Int) _ HC.out).mono ?_
          rw [HK.out]
          rintro e w1 ⟨rfl, hc1, hg1⟩
          go_wp2_with fail
          refine (belowC B g v l _ 4 _ hc1).mono ?_
          rw [HD.out, HSS.out]
          rintro e w2 ⟨rfl, hc2, hg2⟩
          go_wp2
          go_ret
          exact ⟨ret_s HSP.out.symm, by rw [HST.out]; exact hc2, grown_trans hg1 hg2⟩
        · have hb2 : (d == 2) = false := by rw [beq_eq_false_iff_ne]; exact hd2
          rw [if_neg hd2] at HSP HST
          have hxr := below_range l s2 255 (by omega)
          have hpk : p.data.toList.getD k 0 = p[k] := by
            have h2 : k < p.data.toList.length := by simpa using hk
            rw [List.getD, List.getElem?_eq_getElem h2]; rfl
          obtain ⟨x, hx⟩ : ∃ x, below l s2 255 = x := ⟨_, rfl⟩
          have HX : Hid (below l s2 255 = x) := hx
          rw [hx] at hxr HSP
          rw [hpk] at HSP
          obtain ⟨y, hy⟩ : ∃ y, bits .xor .i64 (p[k].toNat : Int) (1 + x) = y := ⟨_, rfl⟩
          rw [hy] at HSP
          have HV : Hid (y % 256 = ((UInt8.ofNat (y % 256).toNat).toNat : Int)) := by show _ = _; simp; omega
          obtain ⟨b, hb⟩ : ∃ b, UInt8.ofNat (y % 256).toNat = b := ⟨_, rfl⟩
          rw [hb] at HSP HV
          have hwx : IntKind.i64.wrap (1 + x) = 1 + x := by rw [IntKind.wrap_i64]; omega
          have hwp : IntKind.i64.wrap (p[k].toNat : Int) = (p[k].toNat : Int) := by have := p[k].toNat_lt; rw [IntKind.wrap_i64]; omega
          have hwk : IntKind.i64.wrap ((k : Int) + 1) = (k : Int) + 1 := by rw [IntKind.wrap_i64]; omega
          have hwy : IntKind.u8.wrap y = y % 256 := by rw [IntKind.wrap_u8]
          have hcv := str1 (y % 256) b HV.out
          clear hd0 hd1 hd2 hx hb hpk
          go_enter Tryz.func33, Tryz.ntmps33
          go_wp2_with fail
          refine (belowC B g v l s (p.size : Int) _ HC.out).mono ?_
          rw [HK.out]
          rintro e w1 ⟨rfl, hc1, hg1⟩
          go_wp2_with fail
          refine (belowC B g v l _ 4 _ hc1).mono ?_
          rw [HD.out, HSS.out]
          rintro e w2 ⟨rfl, hc2, hg2⟩
          have HC2 : Hid (Ctx B g v l s2 w2) := hc2
          have HG2 : Hid (w.grownBy w2 (some g)) := grown_trans hg1 hg2
          clear hc2 hc1 hg1 hg2
          go_wp2
          go_region_with (go_at_call 32; refine (belowC B g v l s2 255 _ ?_).mono ?_; exact HC2.out.drew; rw [HX.out]; rintro e w3 ⟨rfl, hc3, hg3⟩)
          all_goals
            go_wp2
            go_ret
            exact ⟨ret_s HSP.out.symm, by rw [HST.out]; exact hc3.alloc _, grown_trans (grown_drew1 HG2.out) (grown_trans hg3 (World.grownBy_alloc _ _ _))⟩
end Draw
end Go.Proofs.YtjopmakbnompnaaGreatDoor
