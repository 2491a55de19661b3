/- Several texts of one proof, in build order: OpDraw. -/
import Derived.Test.YtppkohkcffnghaaKB1
import Derived.Test.YtppkohkcffnghaaFB1
/- A right op is drawn: of what kind it is is all that is told. -/
set_option linter.unusedVariables false
namespace Go.Proofs.Ytppkohkcffnghaa
open Go.RowKit
namespace Draw
open Bas (Blk)
/-- a draw that fills a struct of its own: the cursor, the result's block, the struct's block -/
structure Loc (B g : Nat) (v : Value) (l : List UInt8) (w W : World) (p : Nat) (rs cs : Array Value) (t : TypeId) : Prop where
  D : Dr B g v l W
  G : w.grownBy W (some g)
  R : Blk W w.heap.size rs t
  O : Blk W p cs t
  lt : g < w.heap.size
  hp : w.heap.size < p
section
variable {B g p : Nat} {v : Value} {l : List UInt8} {w W W' : World} {rs cs : Array Value} {t : TypeId}
theorem Loc.start (h : Dr B g v l w) (rs cs : Array Value) (t : TypeId) : Loc B g v l w ((w.alloc (.cells rs t)).alloc (.cells cs t)) (w.heap.size + 1) rs cs t :=
  { D := (h.alloc _).alloc _, G := grown_new (grown_new (grown_refl w _) _) _, R := (Blk.new w rs t).on (Bas.alloc_below _ _) (by simp), O := by have := Blk.new (w.alloc (.cells rs t)) cs t; simpa using this, lt := h.lt, hp := Nat.lt_succ_self _ }
/-- the result's block was laid; then others drew; then the struct is laid -/
theorem Loc.later (lt : g < w.heap.size) (D : Dr B g v l W) (G : (w.alloc (.cells rs t)).grownBy W (some g)) (cs : Array Value) : Loc B g v l w (W.alloc (.cells cs t)) W.heap.size rs cs t :=
  { D := D.alloc _, G := grown_new (grown_trans (World.grownBy_alloc w _ _) G) _, R := ((Blk.new w rs t).grown G (fun e => by injection e; omega)).on (Bas.alloc_below _ _) (by have := G.size; simp at this; omega),
    O := Blk.new W cs t, lt := lt, hp := by have := G.size; simp at this; omega }
theorem Loc.call (h : Loc B g v l w W p rs cs t) (D : Dr B g v l W') (G : W.grownBy W' (some g)) : Loc B g v l w W' p rs cs t :=
  have a := h.lt; have b := h.hp
  { D := D, G := grown_trans h.G G, R := h.R.grown G (fun e => by injection e; omega), O := h.O.grown G (fun e => by injection e; omega), lt := a, hp := b }
theorem Loc.set (h : Loc B g v l w W p rs cs t) (i : Nat) (u : Value) : Loc B g v l w (W.setCell ⟨p, i, none⟩ u) p rs (cs.setIfInBounds i u) t :=
  have a := h.lt; have b := h.hp
  { D := h.D.set (by omega) i u, G := grown_store h.G (by omega) i u, R := h.R.other (by omega) i u, O := h.O.set i u, lt := a, hp := b }
/-- the struct is put into the result's block -/
theorem Loc.told (h : Loc B g v l w W p rs cs t) (a b c d : Value) : Dr B g v l ((((W.setCell ⟨w.heap.size, 0, none⟩ a).setCell ⟨w.heap.size, 1, none⟩ b).setCell ⟨w.heap.size, 2, none⟩ c).setCell ⟨w.heap.size, 3, none⟩ d) ∧
    w.grownBy ((((W.setCell ⟨w.heap.size, 0, none⟩ a).setCell ⟨w.heap.size, 1, none⟩ b).setCell ⟨w.heap.size, 2, none⟩ c).setCell ⟨w.heap.size, 3, none⟩ d) (some g) :=
  have lt := h.lt
  ⟨(((h.D.set (by omega) _ _).set (by omega) _ _).set (by omega) _ _).set (by omega) _ _, grown_store (grown_store (grown_store (grown_store h.G (by omega) _ _) (by omega) _ _) (by omega) _ _) (by omega) _ _⟩
end
end Draw
namespace Ops
open Bas Draw

set_option maxRecDepth 100000 in
set_option maxHeartbeats 800000 in
theorem plain1 {B g : Nat} {v : Value} {l : List UInt8} {w : World} (h : Dr B g v l w) :
    Calls Try.prog 86 #[.pointer (some ⟨g, 0, none⟩), .int .i64 1] w fun e w' => ∃ a b c, e = .returned (opV 1 a b c) ∧ Dr B g v l w' ∧ w.grownBy w' (some g) := by
  have P := Loc.start h #[.int .i64 0, .int .i64 0, .int .i64 0, .int .i64 0] #[.int .i64 1, .int .i64 0, .int .i64 0, .int .i64 0] 30
  have hlt := h.lt
  go_enter Try.func86, Try.ntmps86
  go_wp2_with fail
  refine (regE P.D).mono ?_
  rintro e w0 ⟨r0, rfl, -, -, D, G⟩
  have P := P.call D G
  clear D G
  have o0 := P.O.cell 0; have o1 := P.O.cell 1; have o2 := P.O.cell 2; have o3 := P.O.cell 3
  have f0 := P.O.froz 0; have f1 := P.O.froz 1; have f2 := P.O.froz 2; have f3 := P.O.froz 3
  have P := P.set 1 (.int .i64 (r0))
  go_wp2_with fail
  clear o0 o1 o2 o3 f0 f1 f2 f3
  refine (drawE P.D).mono ?_
  rintro e w1 ⟨r1, rfl, -, -, D, G⟩
  have P := P.call D G
  clear D G
  have o0 := P.O.cell 0; have o1 := P.O.cell 1; have o2 := P.O.cell 2; have o3 := P.O.cell 3
  have f0 := P.O.froz 0; have f1 := P.O.froz 1; have f2 := P.O.froz 2; have f3 := P.O.froz 3
  have q0 := P.R.cell 0; have q1 := P.R.cell 1; have q2 := P.R.cell 2; have q3 := P.R.cell 3
  have e0 := P.R.froz 0; have e1 := P.R.froz 1; have e2 := P.R.froz 2; have e3 := P.R.froz 3
  have P := P.set 2 (.int .i64 (r1))
  go_wp2
  refine bodyPost_ret (v := .agg #[.int .i64 1, .int .i64 (r0), .int .i64 (r1), .int .i64 (0)]) (by simp [results, Try.results86, go_sem, *]) rfl ⟨_, _, _, rfl, ?_, ?_⟩
  · exact (((P.D.set (by omega) _ _).set (by omega) _ _).set (by omega) _ _).set (by omega) _ _
  · exact grown_store (grown_store (grown_store (grown_store P.G (by omega) _ _) (by omega) _ _) (by omega) _ _) (by omega) _ _

set_option maxRecDepth 100000 in
set_option maxHeartbeats 800000 in
theorem plain2 {B g : Nat} {v : Value} {l : List UInt8} {w : World} (h : Dr B g v l w) :
    Calls Try.prog 86 #[.pointer (some ⟨g, 0, none⟩), .int .i64 2] w fun e w' => ∃ a b c, e = .returned (opV 2 a b c) ∧ Dr B g v l w' ∧ w.grownBy w' (some g) := by
  have P := Loc.start h #[.int .i64 0, .int .i64 0, .int .i64 0, .int .i64 0] #[.int .i64 2, .int .i64 0, .int .i64 0, .int .i64 0] 30
  have hlt := h.lt
  go_enter Try.func86, Try.ntmps86
  go_wp2_with fail
  refine (regE P.D).mono ?_
  rintro e w0 ⟨r0, rfl, -, -, D, G⟩
  have P := P.call D G
  clear D G
  have o0 := P.O.cell 0; have o1 := P.O.cell 1; have o2 := P.O.cell 2; have o3 := P.O.cell 3
  have f0 := P.O.froz 0; have f1 := P.O.froz 1; have f2 := P.O.froz 2; have f3 := P.O.froz 3
  have P := P.set 1 (.int .i64 (r0))
  go_wp2_with fail
  clear o0 o1 o2 o3 f0 f1 f2 f3
  refine (regE P.D).mono ?_
  rintro e w1 ⟨r1, rfl, -, -, D, G⟩
  have P := P.call D G
  clear D G
  have o0 := P.O.cell 0; have o1 := P.O.cell 1; have o2 := P.O.cell 2; have o3 := P.O.cell 3
  have f0 := P.O.froz 0; have f1 := P.O.froz 1; have f2 := P.O.froz 2; have f3 := P.O.froz 3
  have P := P.set 2 (.int .i64 (r1))
  go_wp2_with fail
  clear o0 o1 o2 o3 f0 f1 f2 f3
  refine (regE P.D).mono ?_
  rintro e w2 ⟨r2, rfl, -, -, D, G⟩
  have P := P.call D G
  clear D G
  have o0 := P.O.cell 0; have o1 := P.O.cell 1; have o2 := P.O.cell 2; have o3 := P.O.cell 3
  have f0 := P.O.froz 0; have f1 := P.O.froz 1; have f2 := P.O.froz 2; have f3 := P.O.froz 3
  have q0 := P.R.cell 0; have q1 := P.R.cell 1; have q2 := P.R.cell 2; have q3 := P.R.cell 3
  have e0 := P.R.froz 0; have e1 := P.R.froz 1; have e2 := P.R.froz 2; have e3 := P.R.froz 3
  have P := P.set 3 (.int .i64 (r2))
  go_wp2
  refine bodyPost_ret (v := .agg #[.int .i64 2, .int .i64 (r0), .int .i64 (r1), .int .i64 (r2)]) (by simp [results, Try.results86, go_sem, *]) rfl ⟨_, _, _, rfl, ?_, ?_⟩
  · exact (((P.D.set (by omega) _ _).set (by omega) _ _).set (by omega) _ _).set (by omega) _ _
  · exact grown_store (grown_store (grown_store (grown_store P.G (by omega) _ _) (by omega) _ _) (by omega) _ _) (by omega) _ _

set_option maxRecDepth 100000 in
set_option maxHeartbeats 800000 in
theorem plain3 {B g : Nat} {v : Value} {l : List UInt8} {w : World} (h : Dr B g v l w) :
    Calls Try.prog 86 #[.pointer (some ⟨g, 0, none⟩), .int .i64 3] w fun e w' => ∃ a b c, e = .returned (opV 3 a b c) ∧ Dr B g v l w' ∧ w.grownBy w' (some g) := by
  have P := Loc.start h #[.int .i64 0, .int .i64 0, .int .i64 0, .int .i64 0] #[.int .i64 3, .int .i64 0, .int .i64 0, .int .i64 0] 30
  have hlt := h.lt
  go_enter Try.func86, Try.ntmps86
  go_wp2_with fail
  refine (regE P.D).mono ?_
  rintro e w0 ⟨r0, rfl, -, -, D, G⟩
  have P := P.call D G
  clear D G
  have o0 := P.O.cell 0; have o1 := P.O.cell 1; have o2 := P.O.cell 2; have o3 := P.O.cell 3
  have f0 := P.O.froz 0; have f1 := P.O.froz 1; have f2 := P.O.froz 2; have f3 := P.O.froz 3
  have P := P.set 1 (.int .i64 (r0))
  go_wp2_with fail
  clear o0 o1 o2 o3 f0 f1 f2 f3
  refine (regE P.D).mono ?_
  rintro e w1 ⟨r1, rfl, -, -, D, G⟩
  have P := P.call D G
  clear D G
  have o0 := P.O.cell 0; have o1 := P.O.cell 1; have o2 := P.O.cell 2; have o3 := P.O.cell 3
  have f0 := P.O.froz 0; have f1 := P.O.froz 1; have f2 := P.O.froz 2; have f3 := P.O.froz 3
  have P := P.set 2 (.int .i64 (r1))
  go_wp2_with fail
  clear o0 o1 o2 o3 f0 f1 f2 f3
  refine (regE P.D).mono ?_
  rintro e w2 ⟨r2, rfl, -, -, D, G⟩
  have P := P.call D G
  clear D G
  have o0 := P.O.cell 0; have o1 := P.O.cell 1; have o2 := P.O.cell 2; have o3 := P.O.cell 3
  have f0 := P.O.froz 0; have f1 := P.O.froz 1; have f2 := P.O.froz 2; have f3 := P.O.froz 3
  have q0 := P.R.cell 0; have q1 := P.R.cell 1; have q2 := P.R.cell 2; have q3 := P.R.cell 3
  have e0 := P.R.froz 0; have e1 := P.R.froz 1; have e2 := P.R.froz 2; have e3 := P.R.froz 3
  have P := P.set 3 (.int .i64 (r2))
  go_wp2
  refine bodyPost_ret (v := .agg #[.int .i64 3, .int .i64 (r0), .int .i64 (r1), .int .i64 (r2)]) (by simp [results, Try.results86, go_sem, *]) rfl ⟨_, _, _, rfl, ?_, ?_⟩
  · exact (((P.D.set (by omega) _ _).set (by omega) _ _).set (by omega) _ _).set (by omega) _ _
  · exact grown_store (grown_store (grown_store (grown_store P.G (by omega) _ _) (by omega) _ _) (by omega) _ _) (by omega) _ _

set_option maxRecDepth 100000 in
set_option maxHeartbeats 800000 in
theorem plain4 {B g : Nat} {v : Value} {l : List UInt8} {w : World} (h : Dr B g v l w) :
    Calls Try.prog 86 #[.pointer (some ⟨g, 0, none⟩), .int .i64 4] w fun e w' => ∃ a b c, e = .returned (opV 4 a b c) ∧ Dr B g v l w' ∧ w.grownBy w' (some g) := by
  have P := Loc.start h #[.int .i64 0, .int .i64 0, .int .i64 0, .int .i64 0] #[.int .i64 4, .int .i64 0, .int .i64 0, .int .i64 0] 30
  have hlt := h.lt
  go_enter Try.func86, Try.ntmps86
  go_wp2_with fail
  refine (regE P.D).mono ?_
  rintro e w0 ⟨r0, rfl, -, -, D, G⟩
  have P := P.call D G
  clear D G
  have o0 := P.O.cell 0; have o1 := P.O.cell 1; have o2 := P.O.cell 2; have o3 := P.O.cell 3
  have f0 := P.O.froz 0; have f1 := P.O.froz 1; have f2 := P.O.froz 2; have f3 := P.O.froz 3
  have P := P.set 1 (.int .i64 (r0))
  go_wp2_with fail
  clear o0 o1 o2 o3 f0 f1 f2 f3
  refine (regE P.D).mono ?_
  rintro e w1 ⟨r1, rfl, -, -, D, G⟩
  have P := P.call D G
  clear D G
  have o0 := P.O.cell 0; have o1 := P.O.cell 1; have o2 := P.O.cell 2; have o3 := P.O.cell 3
  have f0 := P.O.froz 0; have f1 := P.O.froz 1; have f2 := P.O.froz 2; have f3 := P.O.froz 3
  have P := P.set 2 (.int .i64 (r1))
  go_wp2_with fail
  clear o0 o1 o2 o3 f0 f1 f2 f3
  refine (regE P.D).mono ?_
  rintro e w2 ⟨r2, rfl, -, -, D, G⟩
  have P := P.call D G
  clear D G
  have o0 := P.O.cell 0; have o1 := P.O.cell 1; have o2 := P.O.cell 2; have o3 := P.O.cell 3
  have f0 := P.O.froz 0; have f1 := P.O.froz 1; have f2 := P.O.froz 2; have f3 := P.O.froz 3
  have q0 := P.R.cell 0; have q1 := P.R.cell 1; have q2 := P.R.cell 2; have q3 := P.R.cell 3
  have e0 := P.R.froz 0; have e1 := P.R.froz 1; have e2 := P.R.froz 2; have e3 := P.R.froz 3
  have P := P.set 3 (.int .i64 (r2))
  go_wp2
  refine bodyPost_ret (v := .agg #[.int .i64 4, .int .i64 (r0), .int .i64 (r1), .int .i64 (r2)]) (by simp [results, Try.results86, go_sem, *]) rfl ⟨_, _, _, rfl, ?_, ?_⟩
  · exact (((P.D.set (by omega) _ _).set (by omega) _ _).set (by omega) _ _).set (by omega) _ _
  · exact grown_store (grown_store (grown_store (grown_store P.G (by omega) _ _) (by omega) _ _) (by omega) _ _) (by omega) _ _

set_option maxRecDepth 100000 in
set_option maxHeartbeats 800000 in
theorem plain5 {B g : Nat} {v : Value} {l : List UInt8} {w : World} (h : Dr B g v l w) :
    Calls Try.prog 86 #[.pointer (some ⟨g, 0, none⟩), .int .i64 5] w fun e w' => ∃ a b c, e = .returned (opV 5 a b c) ∧ Dr B g v l w' ∧ w.grownBy w' (some g) := by
  have P := Loc.start h #[.int .i64 0, .int .i64 0, .int .i64 0, .int .i64 0] #[.int .i64 5, .int .i64 0, .int .i64 0, .int .i64 0] 30
  have hlt := h.lt
  go_enter Try.func86, Try.ntmps86
  go_wp2_with fail
  refine (regE P.D).mono ?_
  rintro e w0 ⟨r0, rfl, -, -, D, G⟩
  have P := P.call D G
  clear D G
  have o0 := P.O.cell 0; have o1 := P.O.cell 1; have o2 := P.O.cell 2; have o3 := P.O.cell 3
  have f0 := P.O.froz 0; have f1 := P.O.froz 1; have f2 := P.O.froz 2; have f3 := P.O.froz 3
  have P := P.set 1 (.int .i64 (r0))
  go_wp2_with fail
  clear o0 o1 o2 o3 f0 f1 f2 f3
  refine (cellE P.D).mono ?_
  rintro e w1 ⟨r1, rfl, -, -, D, G⟩
  have P := P.call D G
  clear D G
  have o0 := P.O.cell 0; have o1 := P.O.cell 1; have o2 := P.O.cell 2; have o3 := P.O.cell 3
  have f0 := P.O.froz 0; have f1 := P.O.froz 1; have f2 := P.O.froz 2; have f3 := P.O.froz 3
  have q0 := P.R.cell 0; have q1 := P.R.cell 1; have q2 := P.R.cell 2; have q3 := P.R.cell 3
  have e0 := P.R.froz 0; have e1 := P.R.froz 1; have e2 := P.R.froz 2; have e3 := P.R.froz 3
  have P := P.set 2 (.int .i64 (r1))
  go_wp2
  refine bodyPost_ret (v := .agg #[.int .i64 5, .int .i64 (r0), .int .i64 (r1), .int .i64 (0)]) (by simp [results, Try.results86, go_sem, *]) rfl ⟨_, _, _, rfl, ?_, ?_⟩
  · exact (((P.D.set (by omega) _ _).set (by omega) _ _).set (by omega) _ _).set (by omega) _ _
  · exact grown_store (grown_store (grown_store (grown_store P.G (by omega) _ _) (by omega) _ _) (by omega) _ _) (by omega) _ _

set_option maxRecDepth 100000 in
set_option maxHeartbeats 800000 in
theorem plain6 {B g : Nat} {v : Value} {l : List UInt8} {w : World} (h : Dr B g v l w) :
    Calls Try.prog 86 #[.pointer (some ⟨g, 0, none⟩), .int .i64 6] w fun e w' => ∃ a b c, e = .returned (opV 6 a b c) ∧ Dr B g v l w' ∧ w.grownBy w' (some g) := by
  have P := Loc.start h #[.int .i64 0, .int .i64 0, .int .i64 0, .int .i64 0] #[.int .i64 6, .int .i64 0, .int .i64 0, .int .i64 0] 30
  have hlt := h.lt
  go_enter Try.func86, Try.ntmps86
  go_wp2_with fail
  refine (cellE P.D).mono ?_
  rintro e w0 ⟨r0, rfl, -, -, D, G⟩
  have P := P.call D G
  clear D G
  have o0 := P.O.cell 0; have o1 := P.O.cell 1; have o2 := P.O.cell 2; have o3 := P.O.cell 3
  have f0 := P.O.froz 0; have f1 := P.O.froz 1; have f2 := P.O.froz 2; have f3 := P.O.froz 3
  have P := P.set 1 (.int .i64 (r0))
  go_wp2_with fail
  clear o0 o1 o2 o3 f0 f1 f2 f3
  refine (regE P.D).mono ?_
  rintro e w1 ⟨r1, rfl, -, -, D, G⟩
  have P := P.call D G
  clear D G
  have o0 := P.O.cell 0; have o1 := P.O.cell 1; have o2 := P.O.cell 2; have o3 := P.O.cell 3
  have f0 := P.O.froz 0; have f1 := P.O.froz 1; have f2 := P.O.froz 2; have f3 := P.O.froz 3
  have q0 := P.R.cell 0; have q1 := P.R.cell 1; have q2 := P.R.cell 2; have q3 := P.R.cell 3
  have e0 := P.R.froz 0; have e1 := P.R.froz 1; have e2 := P.R.froz 2; have e3 := P.R.froz 3
  have P := P.set 2 (.int .i64 (r1))
  go_wp2
  refine bodyPost_ret (v := .agg #[.int .i64 6, .int .i64 (r0), .int .i64 (r1), .int .i64 (0)]) (by simp [results, Try.results86, go_sem, *]) rfl ⟨_, _, _, rfl, ?_, ?_⟩
  · exact (((P.D.set (by omega) _ _).set (by omega) _ _).set (by omega) _ _).set (by omega) _ _
  · exact grown_store (grown_store (grown_store (grown_store P.G (by omega) _ _) (by omega) _ _) (by omega) _ _) (by omega) _ _

set_option maxRecDepth 100000 in
set_option maxHeartbeats 800000 in
theorem plain7 {B g : Nat} {v : Value} {l : List UInt8} {w : World} (h : Dr B g v l w) :
    Calls Try.prog 86 #[.pointer (some ⟨g, 0, none⟩), .int .i64 7] w fun e w' => ∃ a b c, e = .returned (opV 7 a b c) ∧ Dr B g v l w' ∧ w.grownBy w' (some g) := by
  have P := Loc.start h #[.int .i64 0, .int .i64 0, .int .i64 0, .int .i64 0] #[.int .i64 7, .int .i64 0, .int .i64 0, .int .i64 0] 30
  have hlt := h.lt
  go_enter Try.func86, Try.ntmps86
  go_wp2_with fail
  refine (regE P.D).mono ?_
  rintro e w0 ⟨r0, rfl, -, -, D, G⟩
  have P := P.call D G
  clear D G
  have o0 := P.O.cell 0; have o1 := P.O.cell 1; have o2 := P.O.cell 2; have o3 := P.O.cell 3
  have f0 := P.O.froz 0; have f1 := P.O.froz 1; have f2 := P.O.froz 2; have f3 := P.O.froz 3
  have P := P.set 1 (.int .i64 (r0))
  go_wp2_with fail
  clear o0 o1 o2 o3 f0 f1 f2 f3
  refine (belowE P.D 3 (by omega)).mono ?_
  rintro e w1 ⟨r1, rfl, x1, x2, D, G⟩
  have P := P.call D G
  clear D G
  have o0 := P.O.cell 0; have o1 := P.O.cell 1; have o2 := P.O.cell 2; have o3 := P.O.cell 3
  have f0 := P.O.froz 0; have f1 := P.O.froz 1; have f2 := P.O.froz 2; have f3 := P.O.froz 3
  have q0 := P.R.cell 0; have q1 := P.R.cell 1; have q2 := P.R.cell 2; have q3 := P.R.cell 3
  have e0 := P.R.froz 0; have e1 := P.R.froz 1; have e2 := P.R.froz 2; have e3 := P.R.froz 3
  have P := P.set 2 (.int .i64 (1 + r1))
  go_wp2
  refine bodyPost_ret (v := .agg #[.int .i64 7, .int .i64 (r0), .int .i64 (1 + r1), .int .i64 (0)]) (by simp [results, Try.results86, go_sem, *]) rfl ⟨_, _, _, rfl, ?_, ?_⟩
  · exact (((P.D.set (by omega) _ _).set (by omega) _ _).set (by omega) _ _).set (by omega) _ _
  · exact grown_store (grown_store (grown_store (grown_store P.G (by omega) _ _) (by omega) _ _) (by omega) _ _) (by omega) _ _

set_option maxRecDepth 100000 in
set_option maxHeartbeats 800000 in
theorem plain8 {B g : Nat} {v : Value} {l : List UInt8} {w : World} (h : Dr B g v l w) :
    Calls Try.prog 86 #[.pointer (some ⟨g, 0, none⟩), .int .i64 8] w fun e w' => ∃ a b c, e = .returned (opV 8 a b c) ∧ Dr B g v l w' ∧ w.grownBy w' (some g) := by
  have P := Loc.start h #[.int .i64 0, .int .i64 0, .int .i64 0, .int .i64 0] #[.int .i64 8, .int .i64 0, .int .i64 0, .int .i64 0] 30
  have hlt := h.lt
  go_enter Try.func86, Try.ntmps86
  go_wp2_with fail
  refine (regE P.D).mono ?_
  rintro e w0 ⟨r0, rfl, -, -, D, G⟩
  have P := P.call D G
  clear D G
  have o0 := P.O.cell 0; have o1 := P.O.cell 1; have o2 := P.O.cell 2; have o3 := P.O.cell 3
  have f0 := P.O.froz 0; have f1 := P.O.froz 1; have f2 := P.O.froz 2; have f3 := P.O.froz 3
  have q0 := P.R.cell 0; have q1 := P.R.cell 1; have q2 := P.R.cell 2; have q3 := P.R.cell 3
  have e0 := P.R.froz 0; have e1 := P.R.froz 1; have e2 := P.R.froz 2; have e3 := P.R.froz 3
  have P := P.set 1 (.int .i64 (r0))
  go_wp2
  refine bodyPost_ret (v := .agg #[.int .i64 8, .int .i64 (r0), .int .i64 (0), .int .i64 (0)]) (by simp [results, Try.results86, go_sem, *]) rfl ⟨_, _, _, rfl, ?_, ?_⟩
  · exact (((P.D.set (by omega) _ _).set (by omega) _ _).set (by omega) _ _).set (by omega) _ _
  · exact grown_store (grown_store (grown_store (grown_store P.G (by omega) _ _) (by omega) _ _) (by omega) _ _) (by omega) _ _

set_option maxRecDepth 100000 in
set_option maxHeartbeats 800000 in
theorem plain9 {B g : Nat} {v : Value} {l : List UInt8} {w : World} (h : Dr B g v l w) :
    Calls Try.prog 86 #[.pointer (some ⟨g, 0, none⟩), .int .i64 9] w fun e w' => ∃ a b c, e = .returned (opV 9 a b c) ∧ Dr B g v l w' ∧ w.grownBy w' (some g) := by
  have P := Loc.start h #[.int .i64 0, .int .i64 0, .int .i64 0, .int .i64 0] #[.int .i64 9, .int .i64 0, .int .i64 0, .int .i64 0] 30
  have hlt := h.lt
  go_enter Try.func86, Try.ntmps86
  go_wp2
  refine bodyPost_ret (v := .agg #[.int .i64 9, .int .i64 (0), .int .i64 (0), .int .i64 (0)]) (by simp [results, Try.results86, go_sem, *]) rfl ⟨_, _, _, rfl, ?_, ?_⟩
  · exact (h.alloc _).alloc _
  · exact grown_new (grown_new (grown_refl w _) _) _

set_option maxRecDepth 100000 in
set_option maxHeartbeats 800000 in
theorem plain10 {B g : Nat} {v : Value} {l : List UInt8} {w : World} (h : Dr B g v l w) :
    Calls Try.prog 86 #[.pointer (some ⟨g, 0, none⟩), .int .i64 10] w fun e w' => ∃ a b c, e = .returned (opV 10 a b c) ∧ Dr B g v l w' ∧ w.grownBy w' (some g) := by
  have P := Loc.start h #[.int .i64 0, .int .i64 0, .int .i64 0, .int .i64 0] #[.int .i64 10, .int .i64 0, .int .i64 0, .int .i64 0] 30
  have hlt := h.lt
  go_enter Try.func86, Try.ntmps86
  go_wp2
  refine bodyPost_ret (v := .agg #[.int .i64 10, .int .i64 (0), .int .i64 (0), .int .i64 (0)]) (by simp [results, Try.results86, go_sem, *]) rfl ⟨_, _, _, rfl, ?_, ?_⟩
  · exact (h.alloc _).alloc _
  · exact grown_new (grown_new (grown_refl w _) _) _

set_option maxRecDepth 100000 in
set_option maxHeartbeats 800000 in
theorem plain11 {B g : Nat} {v : Value} {l : List UInt8} {w : World} (h : Dr B g v l w) :
    Calls Try.prog 86 #[.pointer (some ⟨g, 0, none⟩), .int .i64 11] w fun e w' => ∃ a b c, e = .returned (opV 11 a b c) ∧ Dr B g v l w' ∧ w.grownBy w' (some g) := by
  have P := Loc.start h #[.int .i64 0, .int .i64 0, .int .i64 0, .int .i64 0] #[.int .i64 11, .int .i64 0, .int .i64 0, .int .i64 0] 30
  have hlt := h.lt
  go_enter Try.func86, Try.ntmps86
  go_wp2
  refine bodyPost_ret (v := .agg #[.int .i64 11, .int .i64 (0), .int .i64 (0), .int .i64 (0)]) (by simp [results, Try.results86, go_sem, *]) rfl ⟨_, _, _, rfl, ?_, ?_⟩
  · exact (h.alloc _).alloc _
  · exact grown_new (grown_new (grown_refl w _) _) _

set_option maxRecDepth 100000 in
set_option maxHeartbeats 800000 in
theorem plain12 {B g : Nat} {v : Value} {l : List UInt8} {w : World} (h : Dr B g v l w) :
    Calls Try.prog 86 #[.pointer (some ⟨g, 0, none⟩), .int .i64 12] w fun e w' => ∃ a b c, e = .returned (opV 12 a b c) ∧ Dr B g v l w' ∧ w.grownBy w' (some g) := by
  have P := Loc.start h #[.int .i64 0, .int .i64 0, .int .i64 0, .int .i64 0] #[.int .i64 12, .int .i64 0, .int .i64 0, .int .i64 0] 30
  have hlt := h.lt
  go_enter Try.func86, Try.ntmps86
  go_wp2_with fail
  refine (keyE P.D).mono ?_
  rintro e w0 ⟨r0, rfl, -, -, D, G⟩
  have P := P.call D G
  clear D G
  have o0 := P.O.cell 0; have o1 := P.O.cell 1; have o2 := P.O.cell 2; have o3 := P.O.cell 3
  have f0 := P.O.froz 0; have f1 := P.O.froz 1; have f2 := P.O.froz 2; have f3 := P.O.froz 3
  have P := P.set 1 (.int .i64 (r0))
  go_wp2_with fail
  clear o0 o1 o2 o3 f0 f1 f2 f3
  refine (regE P.D).mono ?_
  rintro e w1 ⟨r1, rfl, -, -, D, G⟩
  have P := P.call D G
  clear D G
  have o0 := P.O.cell 0; have o1 := P.O.cell 1; have o2 := P.O.cell 2; have o3 := P.O.cell 3
  have f0 := P.O.froz 0; have f1 := P.O.froz 1; have f2 := P.O.froz 2; have f3 := P.O.froz 3
  have P := P.set 2 (.int .i64 (r1))
  go_wp2_with fail
  clear o0 o1 o2 o3 f0 f1 f2 f3
  refine (regE P.D).mono ?_
  rintro e w2 ⟨r2, rfl, -, -, D, G⟩
  have P := P.call D G
  clear D G
  have o0 := P.O.cell 0; have o1 := P.O.cell 1; have o2 := P.O.cell 2; have o3 := P.O.cell 3
  have f0 := P.O.froz 0; have f1 := P.O.froz 1; have f2 := P.O.froz 2; have f3 := P.O.froz 3
  have q0 := P.R.cell 0; have q1 := P.R.cell 1; have q2 := P.R.cell 2; have q3 := P.R.cell 3
  have e0 := P.R.froz 0; have e1 := P.R.froz 1; have e2 := P.R.froz 2; have e3 := P.R.froz 3
  have P := P.set 3 (.int .i64 (r2))
  go_wp2
  refine bodyPost_ret (v := .agg #[.int .i64 12, .int .i64 (r0), .int .i64 (r1), .int .i64 (r2)]) (by simp [results, Try.results86, go_sem, *]) rfl ⟨_, _, _, rfl, ?_, ?_⟩
  · exact (((P.D.set (by omega) _ _).set (by omega) _ _).set (by omega) _ _).set (by omega) _ _
  · exact grown_store (grown_store (grown_store (grown_store P.G (by omega) _ _) (by omega) _ _) (by omega) _ _) (by omega) _ _

set_option maxRecDepth 100000 in
set_option maxHeartbeats 800000 in
theorem plain13 {B g : Nat} {v : Value} {l : List UInt8} {w : World} (h : Dr B g v l w) :
    Calls Try.prog 86 #[.pointer (some ⟨g, 0, none⟩), .int .i64 13] w fun e w' => ∃ a b c, e = .returned (opV 13 a b c) ∧ Dr B g v l w' ∧ w.grownBy w' (some g) := by
  have P := Loc.start h #[.int .i64 0, .int .i64 0, .int .i64 0, .int .i64 0] #[.int .i64 13, .int .i64 0, .int .i64 0, .int .i64 0] 30
  have hlt := h.lt
  go_enter Try.func86, Try.ntmps86
  go_wp2_with fail
  refine (regE P.D).mono ?_
  rintro e w0 ⟨r0, rfl, -, -, D, G⟩
  have P := P.call D G
  clear D G
  have o0 := P.O.cell 0; have o1 := P.O.cell 1; have o2 := P.O.cell 2; have o3 := P.O.cell 3
  have f0 := P.O.froz 0; have f1 := P.O.froz 1; have f2 := P.O.froz 2; have f3 := P.O.froz 3
  have P := P.set 1 (.int .i64 (r0))
  go_wp2_with fail
  clear o0 o1 o2 o3 f0 f1 f2 f3
  refine (keyE P.D).mono ?_
  rintro e w1 ⟨r1, rfl, -, -, D, G⟩
  have P := P.call D G
  clear D G
  have o0 := P.O.cell 0; have o1 := P.O.cell 1; have o2 := P.O.cell 2; have o3 := P.O.cell 3
  have f0 := P.O.froz 0; have f1 := P.O.froz 1; have f2 := P.O.froz 2; have f3 := P.O.froz 3
  have q0 := P.R.cell 0; have q1 := P.R.cell 1; have q2 := P.R.cell 2; have q3 := P.R.cell 3
  have e0 := P.R.froz 0; have e1 := P.R.froz 1; have e2 := P.R.froz 2; have e3 := P.R.froz 3
  have P := P.set 2 (.int .i64 (r1))
  go_wp2
  refine bodyPost_ret (v := .agg #[.int .i64 13, .int .i64 (r0), .int .i64 (r1), .int .i64 (0)]) (by simp [results, Try.results86, go_sem, *]) rfl ⟨_, _, _, rfl, ?_, ?_⟩
  · exact (((P.D.set (by omega) _ _).set (by omega) _ _).set (by omega) _ _).set (by omega) _ _
  · exact grown_store (grown_store (grown_store (grown_store P.G (by omega) _ _) (by omega) _ _) (by omega) _ _) (by omega) _ _

set_option maxRecDepth 100000 in
set_option maxHeartbeats 800000 in
theorem plain14 {B g : Nat} {v : Value} {l : List UInt8} {w : World} (h : Dr B g v l w) :
    Calls Try.prog 86 #[.pointer (some ⟨g, 0, none⟩), .int .i64 14] w fun e w' => ∃ a b c, e = .returned (opV 14 a b c) ∧ Dr B g v l w' ∧ w.grownBy w' (some g) := by
  have P := Loc.start h #[.int .i64 0, .int .i64 0, .int .i64 0, .int .i64 0] #[.int .i64 14, .int .i64 0, .int .i64 0, .int .i64 0] 30
  have hlt := h.lt
  go_enter Try.func86, Try.ntmps86
  go_wp2_with fail
  refine (keyE P.D).mono ?_
  rintro e w0 ⟨r0, rfl, -, -, D, G⟩
  have P := P.call D G
  clear D G
  have o0 := P.O.cell 0; have o1 := P.O.cell 1; have o2 := P.O.cell 2; have o3 := P.O.cell 3
  have f0 := P.O.froz 0; have f1 := P.O.froz 1; have f2 := P.O.froz 2; have f3 := P.O.froz 3
  have P := P.set 1 (.int .i64 (r0))
  go_wp2_with fail
  clear o0 o1 o2 o3 f0 f1 f2 f3
  refine (regE P.D).mono ?_
  rintro e w1 ⟨r1, rfl, -, -, D, G⟩
  have P := P.call D G
  clear D G
  have o0 := P.O.cell 0; have o1 := P.O.cell 1; have o2 := P.O.cell 2; have o3 := P.O.cell 3
  have f0 := P.O.froz 0; have f1 := P.O.froz 1; have f2 := P.O.froz 2; have f3 := P.O.froz 3
  have q0 := P.R.cell 0; have q1 := P.R.cell 1; have q2 := P.R.cell 2; have q3 := P.R.cell 3
  have e0 := P.R.froz 0; have e1 := P.R.froz 1; have e2 := P.R.froz 2; have e3 := P.R.froz 3
  have P := P.set 2 (.int .i64 (r1))
  go_wp2
  refine bodyPost_ret (v := .agg #[.int .i64 14, .int .i64 (r0), .int .i64 (r1), .int .i64 (0)]) (by simp [results, Try.results86, go_sem, *]) rfl ⟨_, _, _, rfl, ?_, ?_⟩
  · exact (((P.D.set (by omega) _ _).set (by omega) _ _).set (by omega) _ _).set (by omega) _ _
  · exact grown_store (grown_store (grown_store (grown_store P.G (by omega) _ _) (by omega) _ _) (by omega) _ _) (by omega) _ _

set_option maxRecDepth 100000 in
set_option maxHeartbeats 800000 in
theorem plain15 {B g : Nat} {v : Value} {l : List UInt8} {w : World} (h : Dr B g v l w) :
    Calls Try.prog 86 #[.pointer (some ⟨g, 0, none⟩), .int .i64 15] w fun e w' => ∃ a b c, e = .returned (opV 15 a b c) ∧ Dr B g v l w' ∧ w.grownBy w' (some g) := by
  have P := Loc.start h #[.int .i64 0, .int .i64 0, .int .i64 0, .int .i64 0] #[.int .i64 15, .int .i64 0, .int .i64 0, .int .i64 0] 30
  have hlt := h.lt
  go_enter Try.func86, Try.ntmps86
  go_wp2_with fail
  refine (regE P.D).mono ?_
  rintro e w0 ⟨r0, rfl, -, -, D, G⟩
  have P := P.call D G
  clear D G
  have o0 := P.O.cell 0; have o1 := P.O.cell 1; have o2 := P.O.cell 2; have o3 := P.O.cell 3
  have f0 := P.O.froz 0; have f1 := P.O.froz 1; have f2 := P.O.froz 2; have f3 := P.O.froz 3
  have q0 := P.R.cell 0; have q1 := P.R.cell 1; have q2 := P.R.cell 2; have q3 := P.R.cell 3
  have e0 := P.R.froz 0; have e1 := P.R.froz 1; have e2 := P.R.froz 2; have e3 := P.R.froz 3
  have P := P.set 1 (.int .i64 (r0))
  go_wp2
  refine bodyPost_ret (v := .agg #[.int .i64 15, .int .i64 (r0), .int .i64 (0), .int .i64 (0)]) (by simp [results, Try.results86, go_sem, *]) rfl ⟨_, _, _, rfl, ?_, ?_⟩
  · exact (((P.D.set (by omega) _ _).set (by omega) _ _).set (by omega) _ _).set (by omega) _ _
  · exact grown_store (grown_store (grown_store (grown_store P.G (by omega) _ _) (by omega) _ _) (by omega) _ _) (by omega) _ _

set_option maxRecDepth 100000 in
set_option maxHeartbeats 800000 in
theorem plain16 {B g : Nat} {v : Value} {l : List UInt8} {w : World} (h : Dr B g v l w) :
    Calls Try.prog 86 #[.pointer (some ⟨g, 0, none⟩), .int .i64 16] w fun e w' => ∃ a b c, e = .returned (opV 16 a b c) ∧ Dr B g v l w' ∧ w.grownBy w' (some g) := by
  have P := Loc.start h #[.int .i64 0, .int .i64 0, .int .i64 0, .int .i64 0] #[.int .i64 16, .int .i64 0, .int .i64 0, .int .i64 0] 30
  have hlt := h.lt
  go_enter Try.func86, Try.ntmps86
  go_wp2_with fail
  refine (regE P.D).mono ?_
  rintro e w0 ⟨r0, rfl, -, -, D, G⟩
  have P := P.call D G
  clear D G
  have o0 := P.O.cell 0; have o1 := P.O.cell 1; have o2 := P.O.cell 2; have o3 := P.O.cell 3
  have f0 := P.O.froz 0; have f1 := P.O.froz 1; have f2 := P.O.froz 2; have f3 := P.O.froz 3
  have q0 := P.R.cell 0; have q1 := P.R.cell 1; have q2 := P.R.cell 2; have q3 := P.R.cell 3
  have e0 := P.R.froz 0; have e1 := P.R.froz 1; have e2 := P.R.froz 2; have e3 := P.R.froz 3
  have P := P.set 1 (.int .i64 (r0))
  go_wp2
  refine bodyPost_ret (v := .agg #[.int .i64 16, .int .i64 (r0), .int .i64 (0), .int .i64 (0)]) (by simp [results, Try.results86, go_sem, *]) rfl ⟨_, _, _, rfl, ?_, ?_⟩
  · exact (((P.D.set (by omega) _ _).set (by omega) _ _).set (by omega) _ _).set (by omega) _ _
  · exact grown_store (grown_store (grown_store (grown_store P.G (by omega) _ _) (by omega) _ _) (by omega) _ _) (by omega) _ _

theorem plainE {B g : Nat} {v : Value} {l : List UInt8} {w : World} (h : Dr B g v l w) (k : Int) (h1 : 1 ≤ k) (h2 : k ≤ 16) :
    Calls Try.prog 86 #[.pointer (some ⟨g, 0, none⟩), .int .i64 k] w fun e w' => ∃ a b c, e = .returned (opV k a b c) ∧ Dr B g v l w' ∧ w.grownBy w' (some g) := by
  rcases kinds k with rfl | rfl | rfl | rfl | rfl | rfl | rfl | rfl | rfl | rfl | rfl | rfl | rfl | rfl | rfl | rfl | hk
  · exact plain1 h
  · exact plain2 h
  · exact plain3 h
  · exact plain4 h
  · exact plain5 h
  · exact plain6 h
  · exact plain7 h
  · exact plain8 h
  · exact plain9 h
  · exact plain10 h
  · exact plain11 h
  · exact plain12 h
  · exact plain13 h
  · exact plain14 h
  · exact plain15 h
  · exact plain16 h
  · omega

set_option maxRecDepth 100000 in
set_option maxHeartbeats 1600000 in
theorem anyE {B g : Nat} {v : Value} {l : List UInt8} {w : World} (h : Dr B g v l w) :
    Calls Try.prog 106 #[.pointer (some ⟨g, 0, none⟩)] w fun e w' => ∃ k a b c, e = .returned (opV k a b c) ∧ (-10 ≤ k ∧ k ≤ 20) ∧ Dr B g v l w' ∧ w.grownBy w' (some g) := by
  have D0 := h.alloc (.cells #[.int .i64 0, .int .i64 0, .int .i64 0, .int .i64 0] 30)
  have hlt := h.lt
  go_enter Try.func106, Try.ntmps106
  go_wp2_with fail
  refine (belowE D0 16 (by omega)).mono ?_
  rintro e w1 ⟨r1, rfl, x1, x2, D1, G1⟩
  go_wp2_with fail
  refine (plainE D1 (1 + r1) (by omega) (by omega)).mono ?_
  rintro e w2 ⟨a, b, c, rfl, D2, G2⟩
  have eV : opV (1 + r1) a b c = .agg #[.int .i64 (1 + r1), .int .i64 a, .int .i64 b, .int .i64 c] := rfl
  rw [eV]
  clear eV
  have hk : -10 ≤ 1 + r1 ∧ 1 + r1 ≤ 20 := by omega
  obtain ⟨k, hk'⟩ : ∃ k, 1 + r1 = k := ⟨_, rfl⟩
  rw [hk'] at hk ⊢
  have P := Loc.later hlt D2 (grown_trans G1 G2) #[.int .i64 k, .int .i64 a, .int .i64 b, .int .i64 c]
  have hz : w.heap.size < w2.heap.size := P.hp
  clear D0 D1 D2 G1 G2 hk'
  obtain ⟨p, hp⟩ : ∃ p, w2.heap.size = p := ⟨_, rfl⟩
  obtain ⟨W2, hW2⟩ : ∃ W2, w2.alloc (.cells #[.int .i64 k, .int .i64 a, .int .i64 b, .int .i64 c] 30) = W2 := ⟨_, rfl⟩
  rw [hW2, hp] at P
  rw [hp] at hz
  go_wp2_with fail
  clear hW2 hp
  refine (belowE P.D 16 (by omega)).mono ?_
  rintro e w3 ⟨r, rfl, x3, x4, D, G⟩
  have P := P.call D G
  clear D G
  rcases (show r = 0 ∨ r = 1 ∨ r = 2 ∨ r = 3 ∨ 4 ≤ r by omega) with rfl | rfl | rfl | rfl | h4
  · go_wp2_with fail
    refine (pickE P.D [-1, 4, 8] (-1) 65536 (by simp) (by omega) 3 rfl (by omega) (by omega) _ rfl).mono ?_
    rintro e w4 ⟨r5, rfl, x5, x6, D, G⟩
    have P := P.call D G
    clear D G
    have o0 := P.O.cell 0; have o1 := P.O.cell 1; have o2 := P.O.cell 2; have o3 := P.O.cell 3
    have f0 := P.O.froz 0; have f1 := P.O.froz 1; have f2 := P.O.froz 2; have f3 := P.O.froz 3
    have q0 := P.R.cell 0; have q1 := P.R.cell 1; have q2 := P.R.cell 2; have q3 := P.R.cell 3
    have e0 := P.R.froz 0; have e1 := P.R.froz 1; have e2 := P.R.froz 2; have e3 := P.R.froz 3
    have P := P.set 1 (.int .i64 r5)
    have hne : p ≠ w.heap.size := by omega
    have hne' : w.heap.size ≠ p := by omega
    go_wp2
    refine bodyPost_ret (v := .agg #[.int .i64 k, .int .i64 r5, .int .i64 b, .int .i64 c]) (by simp [results, Try.results106, go_sem, *]) rfl ⟨_, _, _, _, rfl, by omega, ?_, ?_⟩
    · exact (P.told _ _ _ _).1
    · exact (P.told _ _ _ _).2
  · go_wp2_with fail
    refine (pickE P.D [-1, 4, 8, 65536, 21] (-1) 65536 (by simp) (by omega) 5 rfl (by omega) (by omega) _ rfl).mono ?_
    rintro e w4 ⟨r5, rfl, x5, x6, D, G⟩
    have P := P.call D G
    clear D G
    have o0 := P.O.cell 0; have o1 := P.O.cell 1; have o2 := P.O.cell 2; have o3 := P.O.cell 3
    have f0 := P.O.froz 0; have f1 := P.O.froz 1; have f2 := P.O.froz 2; have f3 := P.O.froz 3
    have q0 := P.R.cell 0; have q1 := P.R.cell 1; have q2 := P.R.cell 2; have q3 := P.R.cell 3
    have e0 := P.R.froz 0; have e1 := P.R.froz 1; have e2 := P.R.froz 2; have e3 := P.R.froz 3
    have P := P.set 2 (.int .i64 r5)
    have hne : p ≠ w.heap.size := by omega
    have hne' : w.heap.size ≠ p := by omega
    go_wp2
    refine bodyPost_ret (v := .agg #[.int .i64 k, .int .i64 a, .int .i64 r5, .int .i64 c]) (by simp [results, Try.results106, go_sem, *]) rfl ⟨_, _, _, _, rfl, by omega, ?_, ?_⟩
    · exact (P.told _ _ _ _).1
    · exact (P.told _ _ _ _).2
  · go_wp2_with fail
    refine (pickE P.D [-1, 4, 1] (-1) 65536 (by simp) (by omega) 3 rfl (by omega) (by omega) _ rfl).mono ?_
    rintro e w4 ⟨r5, rfl, x5, x6, D, G⟩
    have P := P.call D G
    clear D G
    have o0 := P.O.cell 0; have o1 := P.O.cell 1; have o2 := P.O.cell 2; have o3 := P.O.cell 3
    have f0 := P.O.froz 0; have f1 := P.O.froz 1; have f2 := P.O.froz 2; have f3 := P.O.froz 3
    have q0 := P.R.cell 0; have q1 := P.R.cell 1; have q2 := P.R.cell 2; have q3 := P.R.cell 3
    have e0 := P.R.froz 0; have e1 := P.R.froz 1; have e2 := P.R.froz 2; have e3 := P.R.froz 3
    have P := P.set 3 (.int .i64 r5)
    have hne : p ≠ w.heap.size := by omega
    have hne' : w.heap.size ≠ p := by omega
    go_wp2
    refine bodyPost_ret (v := .agg #[.int .i64 k, .int .i64 a, .int .i64 b, .int .i64 r5]) (by simp [results, Try.results106, go_sem, *]) rfl ⟨_, _, _, _, rfl, by omega, ?_, ?_⟩
    · exact (P.told _ _ _ _).1
    · exact (P.told _ _ _ _).2
  · go_wp2_with fail
    refine (pickE P.D [0, 17, -3] (-3) 17 (by simp) (by omega) 3 rfl (by omega) (by omega) _ rfl).mono ?_
    rintro e w4 ⟨r5, rfl, x5, x6, D, G⟩
    have P := P.call D G
    clear D G
    have o0 := P.O.cell 0; have o1 := P.O.cell 1; have o2 := P.O.cell 2; have o3 := P.O.cell 3
    have f0 := P.O.froz 0; have f1 := P.O.froz 1; have f2 := P.O.froz 2; have f3 := P.O.froz 3
    have q0 := P.R.cell 0; have q1 := P.R.cell 1; have q2 := P.R.cell 2; have q3 := P.R.cell 3
    have e0 := P.R.froz 0; have e1 := P.R.froz 1; have e2 := P.R.froz 2; have e3 := P.R.froz 3
    have P := P.set 0 (.int .i64 r5)
    have hne : p ≠ w.heap.size := by omega
    have hne' : w.heap.size ≠ p := by omega
    go_wp2
    refine bodyPost_ret (v := .agg #[.int .i64 r5, .int .i64 a, .int .i64 b, .int .i64 c]) (by simp [results, Try.results106, go_sem, *]) rfl ⟨_, _, _, _, rfl, by omega, ?_, ?_⟩
    · exact (P.told _ _ _ _).1
    · exact (P.told _ _ _ _).2
  · have d0 : (r == 0) = false := by simp; omega
    have d1 : (r == 1) = false := by simp; omega
    have d2 : (r == 2) = false := by simp; omega
    have d3 : (r == 3) = false := by simp; omega
    have o0 := P.O.cell 0; have o1 := P.O.cell 1; have o2 := P.O.cell 2; have o3 := P.O.cell 3
    have q0 := P.R.cell 0; have q1 := P.R.cell 1; have q2 := P.R.cell 2; have q3 := P.R.cell 3
    have e0 := P.R.froz 0; have e1 := P.R.froz 1; have e2 := P.R.froz 2; have e3 := P.R.froz 3
    go_wp2
    refine bodyPost_ret (v := .agg #[.int .i64 k, .int .i64 a, .int .i64 b, .int .i64 c]) (by simp [results, Try.results106, go_sem, *]) rfl ⟨_, _, _, _, rfl, hk, ?_, ?_⟩
    · exact (P.told _ _ _ _).1
    · exact (P.told _ _ _ _).2

end Ops
end Go.Proofs.Ytppkohkcffnghaa
