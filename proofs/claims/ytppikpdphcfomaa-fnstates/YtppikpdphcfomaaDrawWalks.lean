/- The cursor over a code's bytes: each step's answer is a function of the code and of the steps ahead of it. -/
import Derived.Test.YtppikpdphcfomaaDrawL
import Derived.Test.YtppikpdphcfomaaByt
import Derived.Outline
import Derived.OpenShut
import Derived.Deep.QuietTactic
import Derived.BigQuiet
namespace Go.Proofs.Ytppikpdphcfomaa
open Go.RowKit
namespace Draw
open Num Bytes

/-- a code that came in: a slice of bytes below block B -/
def Code (B : Nat) (w : World) (v : Value) (l : List UInt8) : Prop :=
  ∃ a cap, v = .slice a l.length cap ∧ l.length ≤ cap ∧ (l ≠ [] → ∃ b off, a = some ⟨b, off, none⟩ ∧ b < B ∧ ∀ j (h : j < l.length), w.cell? ⟨b, off + j, none⟩ = some (.int .u8 (l[j].toNat : Int)))
/-- the cursor lies in block g -/
def Cur (w : World) (g : Nat) (v : Value) (s : St) : Prop := w.heap[g]? = some (.cells #[v, .int .i64 (s.1 : Int), .int .i64 s.2] 113 (0, 0))

theorem Code.below {B : Nat} {w w' : World} {v : Value} {l : List UInt8} (h : Code B w v l) (hb : Below B w w') : Code B w' v l := by
  obtain ⟨a, cap, h1, h0, h2⟩ := h
  refine ⟨a, cap, h1, h0, fun hl => ?_⟩
  obtain ⟨b, off, e, hB, hc⟩ := h2 hl
  exact ⟨b, off, e, hB, fun j hj => by rw [hb.cell (p := ⟨b, off + j, none⟩) hB]; exact hc j hj⟩
theorem Cur.lt {w : World} {g : Nat} {v : Value} {s : St} (h : Cur w g v s) : g < w.heap.size := by
  unfold Cur at h
  rcases Nat.lt_or_ge g w.heap.size with h1 | h1
  · exact h1
  · rw [Array.getElem?_eq_none h1] at h; cases h
theorem Cur.cells {w : World} {g : Nat} {v : Value} {s : St} (h : Cur w g v s) :
    w.cell? ⟨g, 0, none⟩ = some v ∧ w.cell? ⟨g, 1, none⟩ = some (.int .i64 (s.1 : Int)) ∧ w.cell? ⟨g, 2, none⟩ = some (.int .i64 s.2) ∧ w.frozen? ⟨g, 1, none⟩ = false ∧ w.frozen? ⟨g, 2, none⟩ = false := by
  unfold Cur at h
  refine ⟨?_, ?_, ?_, ?_, ?_⟩ <;> simp [World.cell?, World.frozen?, h]
theorem Cur.grown {w w' : World} {g : Nat} {v : Value} {s : St} {r : Option Nat} (h : Cur w g v s) (hg : w.grownBy w' r) (hr : r ≠ some g) : Cur w' g v s := by
  unfold Cur at *
  rw [hg.block g (Cur.lt h) (fun e => hr e.symm)]; exact h

theorem Cur.set2 {w : World} {g : Nat} {v : Value} {i : Nat} {h : Int} (hc : Cur w g v (i, h)) (h' : Int) : Cur (w.setCell ⟨g, 2, none⟩ (.int .i64 h')) g v (i, h') := by
  unfold Cur at *; simp [World.setCell, Array.getElem?_modify, hc]
theorem Cur.set1 {w : World} {g : Nat} {v : Value} {i : Nat} {h : Int} (hc : Cur w g v (i, h)) (i' : Nat) : Cur (w.setCell ⟨g, 1, none⟩ (.int .i64 (i' : Int))) g v (i', h) := by
  unfold Cur at *; simp [World.setCell, Array.getElem?_modify, hc]
theorem grown_set (w : World) (g o : Nat) (x : Value) : w.grownBy (w.setCell ⟨g, o, none⟩ x) (some g) :=
  ⟨rfl, rfl, rfl, by simp [World.setCell], fun k _ hk => Below.heap_setCell _ _ _ _ (fun e => hk (by rw [e]))⟩
theorem grown_trans {a b c : World} {r : Option Nat} (h : a.grownBy b r) (k : b.grownBy c r) : a.grownBy c r :=
  ⟨k.os.trans h.os, k.tape.trans h.tape, k.output.trans h.output, Nat.le_trans h.size k.size, fun i hi hr => (k.block i (Nat.lt_of_lt_of_le hi h.size) hr).trans (h.block i hi hr)⟩
theorem Cur.drewN {w : World} {g : Nat} {v : Value} {s : St} (h : Cur w g v s) (n : Nat) : Cur (w.drewN n) g v s := h
theorem grown_drewN {a b : World} {r : Option Nat} (h : a.grownBy b r) (n : Nat) : a.grownBy (b.drewN n) r := ⟨h.os, h.tape, h.output, h.size, h.block⟩
theorem ret_i {a b : Int} (h : a = b) : Ending.returned (.int .i64 a) = .returned (.int .i64 b) := by rw [h]
theorem size_set (w : World) (a : Addr) (x : Value) : (w.setCell a x).heap.size = w.heap.size := by simp [World.setCell]

set_option maxRecDepth 100000 in
set_option maxHeartbeats 800000 in
theorem byte (B g : Nat) (v : Value) (l : List UInt8) (i : Nat) (h : Int) (w : World) (_hl : l.length ≤ 1048576) (hC : Code B w v l) (hK : Cur w g v (i, h)) (hB : B ≤ g) (hi : i ≤ l.length) :
    Calls Try.prog 71 #[.pointer (some ⟨g, 0, none⟩)] w
      fun e w' => e = .returned (.int .i64 (bx l (i, h))) ∧ Cur w' g v (bst l (i, h)) ∧ w.grownBy w' (some g) ∧ w'.heap.size = w.heap.size := by
  obtain ⟨c0, c1, c2, f1, f2⟩ := hK.cells
  obtain ⟨a, cap, rfl, hcap, hcode⟩ := hC
  have hh : wrap64 (wrap64 (h * 6364136223846793005) + 1442695040888963407) = hNext h := rfl
  have HH : Hid (wrap64 (wrap64 (h * 6364136223846793005) + 1442695040888963407) = hNext h) := hh
  have HK : Hid (Cur (w.setCell ⟨g, 2, none⟩ (.int .i64 (hNext h))) g (.slice a l.length cap) (i, hNext h)) := hK.set2 _
  have HG : Hid (w.grownBy (w.setCell ⟨g, 2, none⟩ (.int .i64 (hNext h))) (some g)) := grown_set _ _ _ _
  have HZ : Hid ((w.setCell ⟨g, 2, none⟩ (.int .i64 (hNext h))).heap.size = w.heap.size) := size_set _ _ _
  have HCo : Hid (l ≠ [] → ∃ b off, a = some ⟨b, off, none⟩ ∧ b < B ∧ ∀ j (h : j < l.length), w.cell? ⟨b, off + j, none⟩ = some (.int .u8 (l[j].toNat : Int))) := hcode
  clear hcode hh
  go_enter Try.func71, Try.ntmps71
  go_wp2
  rw [HH.out]
  generalize w.setCell ⟨g, 2, none⟩ (.int .i64 (hNext h)) = w2 at *
  clear c0 c1 c2 f1 f2 hK
  obtain ⟨c0, c1, c2, f1, f2⟩ := HK.out.cells
  have h255 := i64_and255
  by_cases hlt : i < l.length
  · have hltI : (i : Int) < (l.length : Int) := by omega
    have h0I : (0 : Int) ≤ (i : Int) := by omega
    obtain ⟨b, off, rfl, hbB, hcells⟩ := HCo.out (by intro e; rw [e] at hlt; simp at hlt)
    have hcw : w2.cell? ⟨b, off + i, none⟩ = some (.int .u8 (l[i].toNat : Int)) := by
      rw [World.cell?_of_block (w := w) (HG.out.block b (by have := HK.out.lt; rw [HZ.out] at this; omega) (by intro e; injection e with e; omega))]
      exact hcells i hlt
    have hby : l[i].toNat < 256 := l[i].toNat_lt
    have HX : Hid (bx l (i, h) = (bits .xor .i64 (hNext h / 8589934592) (hNext h / 35184372088832) + (l[i].toNat : Int)) % 256) := by
      show _ = _
      unfold bx mix
      rw [if_pos hlt]
      have e : l.getD i 0 = l[i] := by simp [List.getD, hlt]
      simp only [e]
      omega
    have HS : Hid (bst l (i, h) = (i + 1, hNext h)) := by show _ = _; unfold bst; rw [if_pos hlt]
    clear hcells HCo HH
    go_quiet (fail)
    go_wp2
    go_quiet (fail)
    go_wp2
    go_quiet (fail)
    go_wp2
    go_ret
    refine ⟨ret_i HX.out.symm, ?_, ?_, ?_⟩
    · rw [HS.out]
      have e : ((i + 1 : Nat) : Int) = (i : Int) + 1 := by omega
      rw [← e]
      exact Cur.set1 (Cur.drewN HK.out _) (i + 1)
    · exact grown_trans (grown_drewN HG.out _) (grown_set _ _ _ _)
    · rw [size_set]; exact HZ.out
  · have hltI : ¬ (i : Int) < (l.length : Int) := by omega
    have HX : Hid (bx l (i, h) = bits .xor .i64 (hNext h / 8589934592) (hNext h / 35184372088832) % 256) := by
      show _ = _
      unfold bx mix
      rw [if_neg hlt]
    have HS : Hid (bst l (i, h) = (i, hNext h)) := by show _ = _; unfold bst; rw [if_neg hlt]
    clear HCo HH
    go_quiet (fail)
    go_wp2
    go_quiet (fail)
    go_wp2
    go_ret
    refine ⟨ret_i HX.out.symm, ?_, ?_, ?_⟩
    · rw [HS.out]; exact Cur.drewN (Cur.drewN HK.out _) _
    · exact grown_drewN (grown_drewN HG.out _) _
    · exact HZ.out

/-- a cursor over a code, in a world -/
structure Ctx (B g : Nat) (v : Value) (l : List UInt8) (s : St) (w : World) : Prop where
  code : Code B w v l
  cur : Cur w g v s
  low : B ≤ g
  len : l.length ≤ 1048576
  at_ : s.1 ≤ l.length

theorem Ctx.grown {B g : Nat} {v : Value} {l : List UInt8} {s : St} {w w' : World} {r : Option Nat} (h : Ctx B g v l s w) (hg : w.grownBy w' r) (hr : ∀ k, r = some k → g < k) : Ctx B g v l s w' :=
  ⟨h.code.below ⟨hg.os, hg.tape, hg.output, hg.size, fun k hk => hg.block k (by have := h.cur.lt; have := h.low; omega) (fun e => by have := hr k e.symm; have := h.low; omega)⟩,
   h.cur.grown hg (fun e => by have := hr g e; omega), h.low, h.len, h.at_⟩
theorem Ctx.alloc {B g : Nat} {v : Value} {l : List UInt8} {s : St} {w : World} (h : Ctx B g v l s w) (o : Obj) : Ctx B g v l s (w.alloc o) :=
  h.grown (World.grownBy_alloc w o none) (fun k e => by cases e)
theorem below_of {B g : Nat} {w w' : World} (hg : w.grownBy w' (some g)) (hB : B ≤ g) (hs : g < w.heap.size) : Below B w w' :=
  ⟨hg.os, hg.tape, hg.output, hg.size, fun k hk => hg.block k (by omega) (fun e => by injection e with e; omega)⟩

theorem byteC (B g : Nat) (v : Value) (l : List UInt8) (s : St) (w : World) (h : Ctx B g v l s w) :
    Calls Try.prog 71 #[.pointer (some ⟨g, 0, none⟩)] w fun e w' => e = .returned (.int .i64 (bx l s)) ∧ Ctx B g v l (bst l s) w' ∧ w.grownBy w' (some g) := by
  obtain ⟨i, k⟩ := s
  refine (byte B g v l i k w h.len h.code h.cur h.low h.at_).mono ?_
  rintro e w' ⟨rfl, hc, hg, _⟩
  exact ⟨rfl, ⟨h.code.below (below_of hg h.low h.cur.lt), hc, h.low, h.len, bst_le l _ h.at_⟩, hg⟩

set_option maxRecDepth 100000 in
set_option maxHeartbeats 800000 in
theorem belowC (B g : Nat) (v : Value) (l : List UInt8) (s : St) (n : Int) (w : World) (h : Ctx B g v l s w) :
    Calls Try.prog 40 #[.pointer (some ⟨g, 0, none⟩), .int .i64 n] w fun e w' => e = .returned (.int .i64 (below l s n)) ∧ Ctx B g v l (belowSt l s n) w' ∧ w.grownBy w' (some g) := by
  by_cases h0 : n ≤ 0
  · have HX : Hid (below l s n = 0) := by show _ = _; unfold below; rw [if_pos h0]
    have HS : Hid (belowSt l s n = s) := by show _ = _; unfold belowSt; rw [if_pos h0]
    go_enter Try.func40, Try.ntmps40
    go_wp2
    go_ret
    exact ⟨ret_i HX.out.symm, by rw [HS.out]; exact h, World.grownBy.refl _ _⟩
  · by_cases h256 : n ≤ 256
    · have HX : Hid (below l s n = bx l s % n) := by show _ = _; unfold below; rw [if_neg h0, if_pos h256]
      have HS : Hid (belowSt l s n = bst l s) := by show _ = _; unfold belowSt; rw [if_neg h0, if_pos h256]
      have hr := bx_range l s
      obtain ⟨x, hx⟩ : ∃ x, bx l s = x := ⟨_, rfl⟩
      have HC : Hid (Ctx B g v l s w) := h
      have HX1 : Hid (bx l s = x) := hx
      rw [hx] at hr HX
      clear hx h
      go_enter Try.func40, Try.ntmps40
      go_wp2_with fail
      refine (byteC B g v l s _ HC.out).mono ?_
      rw [HX1.out]
      rintro e w1 ⟨rfl, hc, hg⟩
      go_wp2
      go_ret
      exact ⟨ret_i HX.out.symm, by rw [HS.out]; exact hc, hg⟩
    · have HX : Hid (below l s n = (bx l s * 16777216 + bx l (bst l s) * 65536 + bx l (bst l (bst l s)) * 256 + bx l (bst l (bst l (bst l s)))) % n) := by show _ = _; unfold below; rw [if_neg h0, if_neg h256]
      have HS : Hid (belowSt l s n = bst l (bst l (bst l (bst l s)))) := by show _ = _; unfold belowSt; rw [if_neg h0, if_neg h256]
      have hr1 := bx_range l s
      have hr2 := bx_range l (bst l s)
      have hr3 := bx_range l (bst l (bst l s))
      have hr4 := bx_range l (bst l (bst l (bst l s)))
      have HC : Hid (Ctx B g v l s w) := h
      obtain ⟨x1, hx1⟩ : ∃ x, bx l s = x := ⟨_, rfl⟩
      obtain ⟨x2, hx2⟩ : ∃ x, bx l (bst l s) = x := ⟨_, rfl⟩
      obtain ⟨x3, hx3⟩ : ∃ x, bx l (bst l (bst l s)) = x := ⟨_, rfl⟩
      obtain ⟨x4, hx4⟩ : ∃ x, bx l (bst l (bst l (bst l s))) = x := ⟨_, rfl⟩
      rw [hx1, hx2, hx3, hx4] at HX
      rw [hx1] at hr1
      rw [hx2] at hr2
      rw [hx3] at hr3
      rw [hx4] at hr4
      have HX1 : Hid (bx l s = x1) := hx1
      have HX2 : Hid (bx l (bst l s) = x2) := hx2
      have HX3 : Hid (bx l (bst l (bst l s)) = x3) := hx3
      have HX4 : Hid (bx l (bst l (bst l (bst l s))) = x4) := hx4
      clear hx1 hx2 hx3 hx4 h
      go_enter Try.func40, Try.ntmps40
      go_wp2_with fail
      refine (byteC B g v l s _ HC.out).mono ?_
      rw [HX1.out]
      rintro e w1 ⟨rfl, hc1, hg1⟩
      go_wp2_with fail
      refine (byteC B g v l _ _ hc1).mono ?_
      rw [HX2.out]
      rintro e w2 ⟨rfl, hc2, hg2⟩
      go_wp2_with fail
      refine (byteC B g v l _ _ hc2).mono ?_
      rw [HX3.out]
      rintro e w3 ⟨rfl, hc3, hg3⟩
      go_wp2_with fail
      refine (byteC B g v l _ _ hc3).mono ?_
      rw [HX4.out]
      rintro e w4 ⟨rfl, hc4, hg4⟩
      go_wp2
      go_ret
      exact ⟨ret_i HX.out.symm, by rw [HS.out]; exact hc4, grown_trans hg1 (grown_trans hg2 (grown_trans hg3 hg4))⟩
end Draw
end Go.Proofs.Ytppikpdphcfomaa
