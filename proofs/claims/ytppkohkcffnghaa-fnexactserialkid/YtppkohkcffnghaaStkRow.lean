/- The program's stack of blocks in memory. -/
import Derived.Test.YtppkohkcffnghaaShapeStk
set_option linter.unusedVariables false
set_option linter.unusedSimpArgs false
namespace Go.Proofs.Ytppkohkcffnghaa
open Go.RowKit
namespace Ops
open Bas Flat

def bEl : El B2 where
  sz := 2
  cells x := [.int .i64 x.b, .int .i64 x.d]
  len _ := rfl
  one x v hv := by simp at hv; rcases hv with rfl | rfl <;> rfl
  pos := by decide
def zB : B2 := ⟨0, 0⟩
theorem rowB : Row Try.prog bEl 139 156 (.agg #[.int .i64 0, .int .i64 0]) zB 16 := ⟨Try.underlying139, by kernel_rfl, rfl, by decide⟩
theorem rowO : Row Try.prog bEl 153 156 (.agg #[.int .i64 0, .int .i64 0]) zB 16 := ⟨Try.underlying153, by kernel_rfl, rfl, by decide⟩
abbrev OwnsB (B : Nat) (w : World) (v : Value) (xs : List B2) : Prop := Owns bEl 156 B w v xs
theorem atB {w : World} {b o : Nat} {x : B2} (h : At bEl w b o x) : w.cell? ⟨b, o, none⟩ = some (.int .i64 x.b) ∧ w.cell? ⟨b, o + 1, none⟩ = some (.int .i64 x.d) := ⟨h 0 _ rfl, h 1 _ rfl⟩
theorem seesOneB (W : World) (x : B2) (t : TypeId) : Sees bEl (W.heap.size + 1) (W.alloc (.cells #[.int .i64 x.b, .int .i64 x.d] t)) (.slice (some ⟨W.heap.size, 0, none⟩) 1 1) [x] :=
  ⟨_, 1, rfl, by simp, by unfold maxLen; omega, fun _ => ⟨W.heap.size, 0, rfl, by omega, fun j hj => by
    have hj0 : j = 0 := by simpa using hj
    subst hj0
    intro i u hu
    have hb : Blk (W.alloc (.cells #[.int .i64 x.b, .int .i64 x.d] t)) W.heap.size #[.int .i64 x.b, .int .i64 x.d] t := Blk.new W _ _
    simp only [Nat.zero_mul, Nat.zero_add]
    rw [hb.cell]
    change [Value.int .i64 x.b, .int .i64 x.d][i]? = some u at hu
    simpa using hu⟩⟩
theorem grown_allocd {W W' : World} {o : Obj} {row : Option Nat} (h : (W.alloc o).grownBy W' row) : W.grownBy W' row :=
  ⟨h.os, h.tape, h.output, Nat.le_trans (by simp) h.size, fun k hk hne => (h.block k (by simp; omega) hne).trans (Below.heap_alloc W o k hk)⟩
/-- append(v, x) -/
theorem pushB {t : TypeId} (R : Row Try.prog bEl t 156 (.agg #[.int .i64 0, .int .i64 0]) zB 16) (v : Value) (xs : List B2) (B : Nat) (w : World) (h : OwnsB B w v xs) (hB : B ≤ w.heap.size) (hlen : xs.length ≤ 4000000) (x : B2) :
    ∃ v' w', (Builtin.append_ #[t, t] t #[v, .slice (some ⟨w.heap.size, 0, none⟩) 1 1]).run Try.prog (w.alloc (.cells #[.int .i64 x.b, .int .i64 x.d] 156)) = .ok v' w' ∧ OwnsB B w' v' (xs ++ [x]) ∧ w.grownBy w' v.ownBlock ∧ (∀ k, v'.ownBlock = some k → v.ownBlock = some k ∨ w.heap.size ≤ k) := by
  obtain ⟨v', w', hr, hO, hG, hl⟩ := app R v _ t xs [x] _ B (w.alloc (.cells #[.int .i64 x.b, .int .i64 x.d] 156)) (h.on (alloc_below w _) (Nat.le_refl _)) (by simp; omega) (seesOneB w x _) (by simp; omega)
  refine ⟨v', w', hr, hO, grown_allocd hG, fun k hk => ?_⟩
  rcases hl k hk with h | h
  · exact .inl h
  · simp at h; exact .inr (by omega)
/-- the last one of a row that is owned -/
theorem popB {B g n cap : Nat} {w : World} {xs : List B2} {x : B2} (h : OwnsB B w (.slice (some ⟨g, 0, none⟩) (n + 1) cap) (xs ++ [x])) (hn : xs.length = n) : OwnsB B w (.slice (some ⟨g, 0, none⟩) n cap) xs := by
  obtain ⟨h1, h2⟩ := h
  rcases h2 with ⟨h', _⟩ | ⟨g', cap', cur, h', hb, hg, h3, h4, h5, h6⟩
  · cases h'
  · simp only [Value.slice.injEq, Option.some.injEq, Addr.mk.injEq, and_true] at h'
    obtain ⟨rfl, hl, rfl⟩ := h'
    refine ⟨by rw [fv_length], .inr ⟨g, cap, cur, by rw [hn], hb, hg, by omega, h4, h5, ?_⟩⟩
    have := congrArg (List.take (xs.length * bEl.sz)) h6
    rw [List.take_take, Nat.min_eq_left (Nat.mul_le_mul_right _ (by simp)), fv_append, List.take_append_of_le_length (by rw [fv_length]; exact Nat.le_refl _)] at this
    rw [this]
    exact List.take_of_length_le (by rw [fv_length]; exact Nat.le_refl _)

theorem fieldB0 (x y : Value) (W : World) : (Instr.field 156 (.agg #[x, y]) 0).run Try.prog W = .ok x W := by simp [Instr.field, asAgg, go_sem]
theorem fieldB1 (x y : Value) (W : World) : (Instr.field 156 (.agg #[x, y]) 1).run Try.prog W = .ok y W := by simp [Instr.field, asAgg, go_sem]

set_option maxRecDepth 100000 in
theorem noneC (w : World) : Calls Try.prog 118 #[] w fun e w' => ∃ v', e = .returned v' ∧ OwnsB w.heap.size w' v' (stk [-1]) ∧ Below w.heap.size w w' := by
  go_enter Try.func118, Try.ntmps118
  go_wp2
  go_ret
  exact ⟨_, rfl, World.ownsRow_lit w #[.int .i64 (-1), .int .i64 0] 1 (Nat.le_refl _) (by simp [maxLen]) rfl, alloc_below w _⟩

set_option maxRecDepth 100000 in
theorem begunC (v : Value) (s : List Int) (x : Int) (B : Nat) (w : World) (h : OwnsB B w v (stk s)) (hB : B ≤ w.heap.size) (hlen : s.length ≤ 2000000) :
    Calls Try.prog 120 #[v, .int .i64 x] w fun e w' => ∃ v', e = .returned v' ∧ OwnsB B w' v' (stk (x :: s)) ∧ w.grownBy w' v.ownBlock ∧ (∀ k, v'.ownBlock = some k → v.ownBlock = some k ∨ w.heap.size ≤ k) := by
  obtain ⟨v', w', hr, hO, hG, hl⟩ := pushB rowO v (stk s) B w h hB (by rw [stk_length]; omega) ⟨x, s.length⟩
  obtain ⟨a, cap, rfl⟩ := h.form
  rw [stk_length] at hr hG hl ⊢
  go_enter Try.func120, Try.ntmps120
  go_wp2_with (at_builtin; refine wpList_app _ rfl _ _ 153 rfl _ _ _ _ rfl rfl hr ?_)
  go_ret
  exact ⟨_, rfl, hO, hG, hl⟩

set_option maxRecDepth 100000 in
theorem innerC (v : Value) (x : Int) (r : List Int) (B : Nat) (w : World) (h : Sees bEl B w v (stk (x :: r))) (hB : B ≤ w.heap.size) :
    Calls Try.prog 119 #[v] w fun e w' => e = .returned (.agg #[.int .i64 x, .int .i64 r.length]) ∧ Below w.heap.size w w' := by
  have hr := h.room
  obtain ⟨a, cap, rfl⟩ := h.form
  obtain ⟨b, off, rfl, hb, hc⟩ := h.open (by rw [stk_length]; simp)
  have h0 := hc r.length (by rw [stk_length]; simp)
  rw [stk_last] at h0
  obtain ⟨a0, a1⟩ := atB h0
  rw [stk_length, List.length_cons] at hr ⊢
  obtain ⟨n, hn⟩ : ∃ n, r.length = n := ⟨_, rfl⟩
  rw [hn] at a0 a1 hr ⊢
  change w.cell? ⟨b, off + n * 2, none⟩ = _ at a0
  change w.cell? ⟨b, off + n * 2 + 1, none⟩ = _ at a1
  have q1 : ((n + 1 : Nat) : Int) ≤ 9223372036854775807 := by unfold maxLen at hr; omega
  have q2 : ((n + 1 : Nat) : Int) - 1 = n := by omega
  have a0 := ((alloc_below w (.cells #[.int .i64 0, .int .i64 0] 156)).cell (p := ⟨b, off + n * 2, none⟩) (by show b < w.heap.size; omega)).trans a0
  have a1 := ((alloc_below w (.cells #[.int .i64 0, .int .i64 0] 156)).cell (p := ⟨b, off + n * 2 + 1, none⟩) (by show b < w.heap.size; omega)).trans a1
  clear hc h0 hr
  go_enter Try.func119, Try.ntmps119
  go_wp2
  refine bodyPost_ret (v := .agg #[.int .i64 x, .int .i64 n]) (by simp [results, Try.results119, go_sem]) rfl ⟨rfl, ?_⟩
  exact alloc_below w _

set_option maxRecDepth 100000 in
theorem endedC (v : Value) (x : Int) (r : List Int) (B : Nat) (w : World) (h : OwnsB B w v (stk (x :: r))) :
    Calls Try.prog 121 #[v] w fun e w' => ∃ v', e = .returned v' ∧ OwnsB B w v' (stk r) ∧ v'.ownBlock = v.ownBlock ∧ w = w' := by
  have hr := h.sees.room
  obtain ⟨n, hn⟩ : ∃ n, r.length = n := ⟨_, rfl⟩
  have hl : (stk r).length = n := by rw [stk_length]; exact hn
  obtain ⟨g, cap, hv, hcap⟩ : ∃ g cap, v = .slice (some ⟨g, 0, none⟩) (n + 1) cap ∧ n + 1 ≤ cap := by
    obtain ⟨-, h2⟩ := h
    rw [stk_length, List.length_cons, hn] at h2
    rcases h2 with ⟨_, h'⟩ | ⟨g', cap', cur, h', hb, hg, h3, _⟩
    · omega
    · exact ⟨g', cap', h', h3⟩
  subst hv
  have h' := popB h hl
  rw [stk_length, List.length_cons, hn] at hr
  have q1 : ((n + 1 : Nat) : Int) ≤ 9223372036854775807 := by unfold maxLen at hr; omega
  have q2 : ((n + 1 : Nat) : Int) - 1 = n := by omega
  have q3 : (n : Int) ≤ cap := by omega
  clear hr
  go_enter Try.func121, Try.ntmps121
  go_wp2
  go_ret
  exact ⟨_, rfl, h', rfl, rfl⟩
end Ops
end Go.Proofs.Ytppkohkcffnghaa
