/- Things in memory: two rows of numbers and a number; what the specification's l7Copy answers. -/
import Derived.Test.YtppkohkcffnghaaSerialL
import Derived.Test.YtppkohkcffnghaaIntApp
import Derived.Test.YtppkohkcffnghaaTake
import Derived.Deep.RegionHeld3
set_option linter.unusedVariables false
set_option linter.unusedSimpArgs false
namespace Go.Proofs.Ytppkohkcffnghaa
open Go.RowKit
namespace Ops
open Bas

/-- two slices lie in different blocks -/
def Dj (a b : Value) : Prop := ∀ k, a.ownBlock = some k → b.ownBlock ≠ some k
theorem Dj.symm {a b : Value} (h : Dj a b) : Dj b a := fun k hb ha => h k ha hb
/-- things that are read -/
structure SeeT (B : Nat) (W : World) (vc vm : Value) (t : Th) : Prop where
  c : Ints.Sees B W vc t.c
  m : Ints.Sees B W vm t.m
/-- things that the call owns -/
structure OwnT (B : Nat) (W : World) (vc vm : Value) (t : Th) : Prop where
  c : Ints.Owns B W vc t.c
  m : Ints.Owns B W vm t.m
  d : Dj vc vm
section
variable {B B' : Nat} {W W' : World} {vc vm : Value} {t : Th}
theorem SeeT.on (h : SeeT B W vc vm t) (hb : Below B' W W') (hB : B ≤ B') : SeeT B W' vc vm t := ⟨h.c.on hb hB, h.m.on hb hB⟩
theorem SeeT.up (h : SeeT B W vc vm t) (hB : B ≤ B') : SeeT B' W vc vm t := ⟨h.c.up hB, h.m.up hB⟩
theorem OwnT.on (h : OwnT B W vc vm t) (hb : Below W.heap.size W W') : OwnT B W' vc vm t := ⟨h.c.on hb (Nat.le_refl _), h.m.on hb (Nat.le_refl _), h.d⟩
theorem OwnT.mono (h : OwnT B W vc vm t) (hB : B' ≤ B) : OwnT B' W vc vm t := ⟨h.c.mono hB, h.m.mono hB, h.d⟩
theorem OwnT.sees (h : OwnT B W vc vm t) : SeeT W.heap.size W vc vm t := ⟨h.c.sees, h.m.sees⟩
end
/-- rows that were made one behind the other lie apart -/
theorem dj_new {B B' : Nat} {W W' : World} {a b : Value} {zs ys : List Int} (ha : Ints.Owns B W a zs) (hb : Ints.Owns W.heap.size W' b ys) : Dj a b := fun k h h' => by
  have := (ha.at k h).2
  have := (hb.at k h').1
  omega

theorem ob_eq {p k n c : Nat} (h : (Value.slice (some ⟨p, 0, none⟩) n c).ownBlock = some k) : k = p := by cases h; rfl
/-- while things are copied: the boxed things, the result's place, what is copied -/
structure CSt (B P : Nat) (w W : World) (q : Nat) (vc vm : Value) (t : Th) : Prop where
  X : Blk W w.heap.size #[vc, vm, .int .i64 t.n] 37
  R : Blk W q #[.slice none 0 0, .slice none 0 0, .int .i64 0] 37
  v : SeeT B W vc vm t
  b : Below w.heap.size w W
  hq : w.heap.size < q ∧ q < P ∧ B ≤ w.heap.size ∧ P ≤ W.heap.size
theorem CSt.low {B P q : Nat} {w W W' : World} {vc vm : Value} {t : Th} (h : CSt B P w W q vc vm t) (hb : Below P W W') : CSt B P w W' q vc vm t :=
  have h1 := h.hq
  { X := h.X.on hb (by omega), R := h.R.on hb (by omega), v := h.v.on hb (by omega), b := h.b.trans (hb.mono (by omega)), hq := ⟨h1.1, h1.2.1, h1.2.2.1, Nat.le_trans h1.2.2.2 hb.size⟩ }
theorem CSt.grown {B P q : Nat} {w W W' : World} {vc vm : Value} {t : Th} (h : CSt B P w W q vc vm t) {p : Nat} (hg : W.grownBy W' (some p)) (hp : P ≤ p) : CSt B P w W' q vc vm t :=
  h.low ((Below.refl P W).grown hg h.hq.2.2.2 (fun k hk => by injection hk with e; omega))
theorem CSt.drew {B P q : Nat} {w W : World} {vc vm : Value} {t : Th} (h : CSt B P w W q vc vm t) : CSt B P w W.drew q vc vm t := { X := h.X, R := h.R, v := ⟨h.v.c, h.v.m⟩, b := ⟨h.b.os, h.b.tape, h.b.output, h.b.size, h.b.block⟩, hq := h.hq }
theorem own_other {B : Nat} {W : World} {v : Value} {zs : List Int} (h : Ints.Owns B W v zs) {q : Nat} (hq : q < B) (i : Nat) (u : Value) : Ints.Owns B (W.setCell ⟨q, i, none⟩ u) v zs :=
  h.keep fun k hk => Below.heap_setCell W ⟨q, i, none⟩ u k (by have := (h.at k hk).1; show k ≠ q; omega)
set_option maxRecDepth 100000 in
set_option maxHeartbeats 6400000 in
theorem copyC (vc vm : Value) (t : Th) (B : Nat) (w : World) (hv : SeeT B w vc vm t) (hB : B ≤ w.heap.size) (h1 : t.c.length ≤ 1048576) (h2 : t.m.length ≤ 1048576) :
    Calls Try.prog 64 #[.agg #[vc, vm, .int .i64 t.n]] w fun e w' => ∃ vc' vm', e = .returned (.agg #[vc', vm', .int .i64 t.n]) ∧ OwnT w.heap.size w' vc' vm' t ∧ Below w.heap.size w w' := by
  obtain ⟨ac, cc, rfl⟩ := hv.c.form
  obtain ⟨am, cm, rfl⟩ := hv.m.form
  obtain ⟨nc, hnc⟩ : ∃ n, t.c.length = n := ⟨_, rfl⟩
  obtain ⟨nm, hnm⟩ : ∃ n, t.m.length = n := ⟨_, rfl⟩
  rw [hnc] at hv ⊢
  rw [hnm] at hv ⊢
  obtain ⟨tn, htn⟩ : ∃ n, t.n = n := ⟨_, rfl⟩
  have HTN := (show Hid _ from htn)
  rw [htn]
  clear htn
  have X0 := Blk.new w #[.slice ac nc cc, .slice am nm cm, .int .i64 tn] 37
  have b0 := alloc_below w (.cells #[.slice ac nc cc, .slice am nm cm, .int .i64 tn] 37)
  obtain ⟨w0, hw0⟩ : ∃ w0, w.alloc (.cells #[.slice ac nc cc, .slice am nm cm, .int .i64 tn] 37) = w0 := ⟨_, rfl⟩
  have HW0 : Hid (w.alloc (.cells #[.slice ac nc cc, .slice am nm cm, .int .i64 tn] 37) = w0) := hw0
  have hz0 : w0.heap.size = w.heap.size + 1 := by rw [← hw0]; simp
  rw [hw0] at X0 b0
  clear hw0
  have R1 := Blk.new w0 #[.slice none 0 0, .slice none 0 0, .int .i64 0] 37
  have bR := alloc_below w0 (.cells #[.slice none 0 0, .slice none 0 0, .int .i64 0] 37)
  have X1 := X0.on bR X0.lt
  have bb := b0.trans (bR.mono b0.size)
  obtain ⟨w1, hw1⟩ : ∃ w1, w0.alloc (.cells #[.slice none 0 0, .slice none 0 0, .int .i64 0] 37) = w1 := ⟨_, rfl⟩
  have HW1 : Hid (w0.alloc (.cells #[.slice none 0 0, .slice none 0 0, .int .i64 0] 37) = w1) := hw1
  have hz1 : w1.heap.size = w.heap.size + 2 := by rw [← hw1]; simp [hz0]
  rw [hw1] at R1 X1 bb
  rw [hz0] at R1
  clear hw1 X0 b0 bR
  have hz1' : w.heap.size + 1 < w1.heap.size := by omega
  clear hz0 hz1
  have hv1 : SeeT B w1 (.slice ac nc cc) (.slice am nm cm) t := hv.on bb hB
  obtain ⟨P, hP⟩ : ∃ P, w1.heap.size = P := ⟨_, rfl⟩
  have HPw : Hid (w1.heap.size = P) := hP
  have x0 := X1.cell 0; have x1 := X1.cell 1; have x2 := X1.cell 2
  go_enter Try.func64, Try.ntmps64
  go_wp2_with fail
  rw [HW0.out, HW1.out]
  obtain ⟨q, hq⟩ : ∃ q, w.heap.size + 1 = q := ⟨_, rfl⟩
  have hqw : w.heap.size < q := by omega
  have hqP : q < P := by omega
  rw [hq] at R1 ⊢
  clear hq
  have S1 : CSt B P w w1 q (.slice ac nc cc) (.slice am nm cm) t := { X := by rw [HTN.out]; exact X1, R := R1, v := hv1, b := bb, hq := ⟨hqw, hqP, hB, by rw [HPw.out]; exact Nat.le_refl _⟩ }
  clear X1 R1 hv1 bb hv HW0 HW1 hP hz1'
  refine wp_region_held_drew (S := fun W => W.cell? ⟨w.heap.size, 0, none⟩ = some (.slice ac nc cc) ∧ W.cell? ⟨w.heap.size, 1, none⟩ = some (.slice am nm cm) ∧ W.cell? ⟨w.heap.size, 2, none⟩ = some (.int .i64 tn)) (by kernel_rfl) ⟨x0, x1, x2⟩ (fun hHeld => ?_)
  refine takeH (i := 1) (some 4) (.pointer (some ⟨w.heap.size, 0, none⟩)) rfl rfl (by kernel_rfl) (by kernel_rfl) (by kernel_rfl) (fun _ _ _ h => h) (Or.inl ⟨by rfl, fun W hSw => by obtain ⟨y0, y1, y2⟩ := hSw; go_simp⟩) (by assumption) ?_
  try simp only [Act.put, List.setIfInBounds_toArray, List.set_cons_zero, List.set_cons_succ]
  refine takeH (i := 2) (some 5) (.slice ac nc cc) rfl rfl (by kernel_rfl) (by kernel_rfl) (by kernel_rfl) (fun _ _ _ h => h) (Or.inl ⟨by rfl, fun W hSw => by obtain ⟨y0, y1, y2⟩ := hSw; go_simp⟩) (by assumption) ?_
  try simp only [Act.put, List.setIfInBounds_toArray, List.set_cons_zero, List.set_cons_succ]
  refine takeH (i := 5) (some 8) (.pointer (some ⟨w.heap.size, 1, none⟩)) rfl rfl (by kernel_rfl) (by kernel_rfl) (by kernel_rfl) (fun _ _ _ h => h) (Or.inl ⟨by rfl, fun W hSw => by obtain ⟨y0, y1, y2⟩ := hSw; go_simp⟩) (by assumption) ?_
  try simp only [Act.put, List.setIfInBounds_toArray, List.set_cons_zero, List.set_cons_succ]
  refine takeH (i := 6) (some 9) (.slice am nm cm) rfl rfl (by kernel_rfl) (by kernel_rfl) (by kernel_rfl) (fun _ _ _ h => h) (Or.inl ⟨by rfl, fun W hSw => by obtain ⟨y0, y1, y2⟩ := hSw; go_simp⟩) (by assumption) ?_
  try simp only [Act.put, List.setIfInBounds_toArray, List.set_cons_zero, List.set_cons_succ]
  refine takeH (i := 8) (some 11) (.pointer (some ⟨w.heap.size, 2, none⟩)) rfl rfl (by kernel_rfl) (by kernel_rfl) (by kernel_rfl) (fun _ _ _ h => h) (Or.inl ⟨by rfl, fun W hSw => by obtain ⟨y0, y1, y2⟩ := hSw; go_simp⟩) (by assumption) ?_
  try simp only [Act.put, List.setIfInBounds_toArray, List.set_cons_zero, List.set_cons_succ]
  refine takeH (i := 9) (some 12) (.int .i64 tn) rfl rfl (by kernel_rfl) (by kernel_rfl) (by kernel_rfl) (fun _ _ _ h => h) (Or.inl ⟨by rfl, fun W hSw => by obtain ⟨y0, y1, y2⟩ := hSw; go_simp⟩) (by assumption) ?_
  try simp only [Act.put, List.setIfInBounds_toArray, List.set_cons_zero, List.set_cons_succ]
  refine wpAnyH_ready (rs := [0, 4]) (by kernel_rfl) (by simp) ?_
  refine AllReadyH.cons rfl (fun K hK => ?_) (AllReadyH.cons rfl (fun K hK => ?_) AllReadyH.nil)
  · go_simp
    have A2 := alloc_below w1 (.cells #[] 3)
    have u0 : Ints.Owns w1.heap.size (w1.alloc (.cells #[] 3)).drew (.slice (some ⟨w1.heap.size, 0, none⟩) 0 0) [] := Ints.owns_lit w1 (Nat.le_refl _)
    have S2 : CSt B P w (w1.alloc (.cells #[] 3)).drew q (.slice ac nc cc) (.slice am nm cm) t := (CSt.drew (S1.low (A2.mono S1.hq.2.2.2)))
    have z2 : w1.heap.size < (w1.alloc (.cells #[] 3)).drew.heap.size := by show w1.heap.size < (w1.alloc (.cells #[] 3)).heap.size; simp
    have hP0 : P ≤ w1.heap.size := S1.hq.2.2.2
    obtain ⟨w2, hw2⟩ : ∃ W, (w1.alloc (.cells #[] 3)).drew = W := ⟨_, rfl⟩
    rw [hw2] at u0 S2 z2  ⊢
    obtain ⟨p0, hp0⟩ : ∃ p, w1.heap.size = p := ⟨_, rfl⟩
    rw [hp0] at u0 z2 hP0 ⊢
    clear hw2 A2
    refine hK.out _ _ ⟨by have := S2.X.cell 0; simpa using this, by have := S2.X.cell 1; simpa using this, by have := S2.X.cell 2; rw [HTN.out] at this; simpa using this⟩ (fun hH2 => ?_)
    clear hK K
    try simp only [Act.put, List.setIfInBounds_toArray, List.set_cons_zero, List.set_cons_succ]
    refine wpAnyH_ready (rs := [3, 4]) (by kernel_rfl) (by simp) ?_
    refine AllReadyH.cons rfl (fun K hK => ?_) (AllReadyH.cons rfl (fun K hK => ?_) AllReadyH.nil)
    · obtain ⟨v3, w3, hr3, O3, G3, L3⟩ := Ints.appJ (.slice (some ⟨p0, 0, none⟩) 0 0) (.slice ac nc cc) 25 [] t.c B p0 w2 u0 (by omega) S2.v.c (by simp; omega)
      have S3_ := S2.grown G3 hP0
      have L3 : ∀ k, v3.ownBlock = some k → k = p0 ∨ w2.heap.size ≤ k := fun k hk => (L3 k hk).imp ob_eq id
      have h3 : ∀ k, v3.ownBlock = some k → p0 ≤ k ∧ k < w3.heap.size := fun k hk => O3.at k hk
      rw [List.nil_append] at O3
      refine step_app rfl (.tmp 3) (.tmp 5) 25 rfl _ _ v3 w3 rfl rfl hr3 ?_
      have S3 := S3_
      have z3 : w2.heap.size ≤ w3.heap.size := G3.size
      clear hr3 G3 S3_
      refine hK.out _ _ ⟨by have := S3.X.cell 0; simpa using this, by have := S3.X.cell 1; simpa using this, by have := S3.X.cell 2; rw [HTN.out] at this; simpa using this⟩ (fun hH3 => ?_)
      clear hK K
      try simp only [Act.put, List.setIfInBounds_toArray, List.set_cons_zero, List.set_cons_succ]
      refine wpAnyH_ready (rs := [4]) (by kernel_rfl) (by simp) ?_
      refine AllReadyH.cons rfl (fun K hK => ?_) AllReadyH.nil
      go_simp
      have A4 := alloc_below w3 (.cells #[] 3)
      have u4 : Ints.Owns w3.heap.size (w3.alloc (.cells #[] 3)) (.slice (some ⟨w3.heap.size, 0, none⟩) 0 0) [] := Ints.owns_lit w3 (Nat.le_refl _)
      have S4 : CSt B P w (w3.alloc (.cells #[] 3)) q (.slice ac nc cc) (.slice am nm cm) t := ((S3.low (A4.mono S3.hq.2.2.2)))
      have O3 : Ints.Owns _ (w3.alloc (.cells #[] 3)) _ _ := O3.on A4 (Nat.le_refl _)
      have z4 : w3.heap.size < (w3.alloc (.cells #[] 3)).heap.size := by show w3.heap.size < (w3.alloc (.cells #[] 3)).heap.size; simp
      have hP4 : P ≤ w3.heap.size := S3.hq.2.2.2
      obtain ⟨w4, hw4⟩ : ∃ W, (w3.alloc (.cells #[] 3)) = W := ⟨_, rfl⟩
      rw [hw4] at u4 S4 z4 O3 ⊢
      obtain ⟨p4, hp4⟩ : ∃ p, w3.heap.size = p := ⟨_, rfl⟩
      rw [hp4] at u4 z4 hP4 ⊢
      clear hw4 A4
      refine hK.out _ _ ⟨by have := S4.X.cell 0; simpa using this, by have := S4.X.cell 1; simpa using this, by have := S4.X.cell 2; rw [HTN.out] at this; simpa using this⟩ (fun hH4 => ?_)
      clear hK K
      try simp only [Act.put, List.setIfInBounds_toArray, List.set_cons_zero, List.set_cons_succ]
      refine wpAnyH_ready (rs := [7]) (by kernel_rfl) (by simp) ?_
      refine AllReadyH.cons rfl (fun K hK => ?_) AllReadyH.nil
      obtain ⟨v7, w5, hr7, O7, G7, L7⟩ := Ints.appJ (.slice (some ⟨p4, 0, none⟩) 0 0) (.slice am nm cm) 25 [] t.m B p4 w4 u4 (by omega) S4.v.m (by simp; omega)
      have S5_ := S4.grown G7 hP4
      have L7 : ∀ k, v7.ownBlock = some k → k = p4 ∨ w4.heap.size ≤ k := fun k hk => (L7 k hk).imp ob_eq id
      have h7 : ∀ k, v7.ownBlock = some k → p4 ≤ k ∧ k < w5.heap.size := fun k hk => O7.at k hk
      have O3 := O3.grown G7 (fun k hk e => by have e := ob_eq e.symm; have a3 := L3 k hk; have b3 := h3 k hk; omega)
      rw [List.nil_append] at O7
      refine step_app rfl (.tmp 7) (.tmp 9) 25 rfl _ _ v7 w5 rfl rfl hr7 ?_
      have S5 := S5_
      have z5 : w4.heap.size ≤ w5.heap.size := G7.size
      clear hr7 G7 S5_
      refine hK.out _ _ ⟨by have := S5.X.cell 0; simpa using this, by have := S5.X.cell 1; simpa using this, by have := S5.X.cell 2; rw [HTN.out] at this; simpa using this⟩ (fun hH5 => ?_)
      clear hK K
      try simp only [Act.put, List.setIfInBounds_toArray, List.set_cons_zero, List.set_cons_succ]
      have hd : Dj v3 v7 := fun k x3 x7 => by
        have a3 := L3 k x3; have b3 := h3 k x3; have a7 := L7 k x7; have b7 := h7 k x7
        omega
      obtain ⟨aa, ca, rfl⟩ := O3.form
      obtain ⟨ab, cb, rfl⟩ := O7.form
      rw [hnc, hnm]
      rw [hnc] at O3 hd
      rw [hnm] at O7 hd
      refine takeH (i := 10) (some 13) (.agg #[.slice aa nc ca, .slice ab nm cb, .int .i64 tn]) rfl rfl (by kernel_rfl) (by kernel_rfl) (by kernel_rfl) (fun _ _ _ h => h) (Or.inl ⟨by rfl, fun W hSw => by go_simp⟩) (by assumption) ?_
      try simp only [Act.put, List.setIfInBounds_toArray, List.set_cons_zero, List.set_cons_succ]
      refine wpAnyH_ready (rs := [11]) (by kernel_rfl) (by simp) ?_
      refine AllReadyH.cons rfl (fun K hK => ?_) AllReadyH.nil
      have r0 := S5.R.cell 0; have r1 := S5.R.cell 1; have r2 := S5.R.cell 2
      have f0 := S5.R.froz 0; have f1 := S5.R.froz 1; have f2 := S5.R.froz 2
      have hqs := S5.hq
      have X9 := ((S5.X.other (q := q) (by omega) 0 (.slice aa nc ca)).other (q := q) (by omega) 1 (.slice ab nm cb)).other (q := q) (by omega) 2 (.int .i64 tn)
      have b9 := ((S5.b.setCell (p := ⟨q, 0, none⟩) (by show w.heap.size ≤ q; omega) (.slice aa nc ca)).setCell (p := ⟨q, 1, none⟩) (by show w.heap.size ≤ q; omega) (.slice ab nm cb)).setCell (p := ⟨q, 2, none⟩) (by show w.heap.size ≤ q; omega) (.int .i64 tn)
      have Oa := (own_other (own_other (own_other O3 (q := q) (by omega) 0 (.slice aa nc ca)) (q := q) (by omega) 1 (.slice ab nm cb)) (q := q) (by omega) 2 (.int .i64 tn)).mono (show w.heap.size ≤ p0 by omega)
      have Ob := (own_other (own_other (own_other O7 (q := q) (by omega) 0 (.slice aa nc ca)) (q := q) (by omega) 1 (.slice ab nm cb)) (q := q) (by omega) 2 (.int .i64 tn)).mono (show w.heap.size ≤ p4 by omega)
      go_simp
      refine hK.out _ _ ⟨by have := X9.cell 0; simpa using this, by have := X9.cell 1; simpa using this, by have := X9.cell 2; rw [HTN.out] at this; simpa using this⟩ (fun hH9 => ?_)
      clear hK K
      try simp only [Act.put, List.setIfInBounds_toArray, List.set_cons_zero, List.set_cons_succ]
      refine wpAnyH_done (by kernel_rfl) ?_ _
      go_wp2
      refine bodyPost_ret (v := .agg #[.slice aa nc ca, .slice ab nm cb, .int .i64 tn]) (by simp [results, Try.results64, go_sem, r0, r1, r2, f0, f1, f2]) rfl ?_
      exact ⟨_, _, rfl, ⟨Oa, Ob, hd⟩, b9⟩
    · go_simp
      have A3 := alloc_below w2 (.cells #[] 3)
      have u4 : Ints.Owns w2.heap.size (w2.alloc (.cells #[] 3)) (.slice (some ⟨w2.heap.size, 0, none⟩) 0 0) [] := Ints.owns_lit w2 (Nat.le_refl _)
      have S3 : CSt B P w (w2.alloc (.cells #[] 3)) q (.slice ac nc cc) (.slice am nm cm) t := ((S2.low (A3.mono S2.hq.2.2.2)))
      have u0 : Ints.Owns _ (w2.alloc (.cells #[] 3)) _ _ := u0.on A3 (Nat.le_refl _)
      have z3 : w2.heap.size < (w2.alloc (.cells #[] 3)).heap.size := by show w2.heap.size < (w2.alloc (.cells #[] 3)).heap.size; simp
      have hP4 : P ≤ w2.heap.size := S2.hq.2.2.2
      obtain ⟨w3, hw3⟩ : ∃ W, (w2.alloc (.cells #[] 3)) = W := ⟨_, rfl⟩
      rw [hw3] at u4 S3 z3 u0 ⊢
      obtain ⟨p4, hp4⟩ : ∃ p, w2.heap.size = p := ⟨_, rfl⟩
      rw [hp4] at u4 z3 hP4 ⊢
      clear hw3 A3
      refine hK.out _ _ ⟨by have := S3.X.cell 0; simpa using this, by have := S3.X.cell 1; simpa using this, by have := S3.X.cell 2; rw [HTN.out] at this; simpa using this⟩ (fun hH3 => ?_)
      clear hK K
      try simp only [Act.put, List.setIfInBounds_toArray, List.set_cons_zero, List.set_cons_succ]
      refine wpAnyH_ready (rs := [3]) (by kernel_rfl) (by simp) ?_
      refine AllReadyH.cons rfl (fun K hK => ?_) AllReadyH.nil
      obtain ⟨v3, w4, hr3, O3, G3, L3⟩ := Ints.appJ (.slice (some ⟨p0, 0, none⟩) 0 0) (.slice ac nc cc) 25 [] t.c B p0 w3 u0 (by omega) S3.v.c (by simp; omega)
      have S4_ := S3.grown G3 hP0
      have L3 : ∀ k, v3.ownBlock = some k → k = p0 ∨ w3.heap.size ≤ k := fun k hk => (L3 k hk).imp ob_eq id
      have h3 : ∀ k, v3.ownBlock = some k → p0 ≤ k ∧ k < w4.heap.size := fun k hk => O3.at k hk
      have u4 := u4.grown G3 (fun k hk e => by have e := ob_eq e.symm; have hk := ob_eq hk; omega)
      rw [List.nil_append] at O3
      refine step_app rfl (.tmp 3) (.tmp 5) 25 rfl _ _ v3 w4 rfl rfl hr3 ?_
      have S4 := S4_
      have z4 : w3.heap.size ≤ w4.heap.size := G3.size
      clear hr3 G3 S4_
      refine hK.out _ _ ⟨by have := S4.X.cell 0; simpa using this, by have := S4.X.cell 1; simpa using this, by have := S4.X.cell 2; rw [HTN.out] at this; simpa using this⟩ (fun hH4 => ?_)
      clear hK K
      try simp only [Act.put, List.setIfInBounds_toArray, List.set_cons_zero, List.set_cons_succ]
      refine wpAnyH_ready (rs := [7]) (by kernel_rfl) (by simp) ?_
      refine AllReadyH.cons rfl (fun K hK => ?_) AllReadyH.nil
      obtain ⟨v7, w5, hr7, O7, G7, L7⟩ := Ints.appJ (.slice (some ⟨p4, 0, none⟩) 0 0) (.slice am nm cm) 25 [] t.m B p4 w4 u4 (by omega) S4.v.m (by simp; omega)
      have S5_ := S4.grown G7 hP4
      have L7 : ∀ k, v7.ownBlock = some k → k = p4 ∨ w4.heap.size ≤ k := fun k hk => (L7 k hk).imp ob_eq id
      have h7 : ∀ k, v7.ownBlock = some k → p4 ≤ k ∧ k < w5.heap.size := fun k hk => O7.at k hk
      have O3 := O3.grown G7 (fun k hk e => by have e := ob_eq e.symm; have a3 := L3 k hk; have b3 := h3 k hk; omega)
      rw [List.nil_append] at O7
      refine step_app rfl (.tmp 7) (.tmp 9) 25 rfl _ _ v7 w5 rfl rfl hr7 ?_
      have S5 := S5_
      have z5 : w4.heap.size ≤ w5.heap.size := G7.size
      clear hr7 G7 S5_
      refine hK.out _ _ ⟨by have := S5.X.cell 0; simpa using this, by have := S5.X.cell 1; simpa using this, by have := S5.X.cell 2; rw [HTN.out] at this; simpa using this⟩ (fun hH5 => ?_)
      clear hK K
      try simp only [Act.put, List.setIfInBounds_toArray, List.set_cons_zero, List.set_cons_succ]
      have hd : Dj v3 v7 := fun k x3 x7 => by
        have a3 := L3 k x3; have b3 := h3 k x3; have a7 := L7 k x7; have b7 := h7 k x7
        omega
      obtain ⟨aa, ca, rfl⟩ := O3.form
      obtain ⟨ab, cb, rfl⟩ := O7.form
      rw [hnc, hnm]
      rw [hnc] at O3 hd
      rw [hnm] at O7 hd
      refine takeH (i := 10) (some 13) (.agg #[.slice aa nc ca, .slice ab nm cb, .int .i64 tn]) rfl rfl (by kernel_rfl) (by kernel_rfl) (by kernel_rfl) (fun _ _ _ h => h) (Or.inl ⟨by rfl, fun W hSw => by go_simp⟩) (by assumption) ?_
      try simp only [Act.put, List.setIfInBounds_toArray, List.set_cons_zero, List.set_cons_succ]
      refine wpAnyH_ready (rs := [11]) (by kernel_rfl) (by simp) ?_
      refine AllReadyH.cons rfl (fun K hK => ?_) AllReadyH.nil
      have r0 := S5.R.cell 0; have r1 := S5.R.cell 1; have r2 := S5.R.cell 2
      have f0 := S5.R.froz 0; have f1 := S5.R.froz 1; have f2 := S5.R.froz 2
      have hqs := S5.hq
      have X9 := ((S5.X.other (q := q) (by omega) 0 (.slice aa nc ca)).other (q := q) (by omega) 1 (.slice ab nm cb)).other (q := q) (by omega) 2 (.int .i64 tn)
      have b9 := ((S5.b.setCell (p := ⟨q, 0, none⟩) (by show w.heap.size ≤ q; omega) (.slice aa nc ca)).setCell (p := ⟨q, 1, none⟩) (by show w.heap.size ≤ q; omega) (.slice ab nm cb)).setCell (p := ⟨q, 2, none⟩) (by show w.heap.size ≤ q; omega) (.int .i64 tn)
      have Oa := (own_other (own_other (own_other O3 (q := q) (by omega) 0 (.slice aa nc ca)) (q := q) (by omega) 1 (.slice ab nm cb)) (q := q) (by omega) 2 (.int .i64 tn)).mono (show w.heap.size ≤ p0 by omega)
      have Ob := (own_other (own_other (own_other O7 (q := q) (by omega) 0 (.slice aa nc ca)) (q := q) (by omega) 1 (.slice ab nm cb)) (q := q) (by omega) 2 (.int .i64 tn)).mono (show w.heap.size ≤ p4 by omega)
      go_simp
      refine hK.out _ _ ⟨by have := X9.cell 0; simpa using this, by have := X9.cell 1; simpa using this, by have := X9.cell 2; rw [HTN.out] at this; simpa using this⟩ (fun hH9 => ?_)
      clear hK K
      try simp only [Act.put, List.setIfInBounds_toArray, List.set_cons_zero, List.set_cons_succ]
      refine wpAnyH_done (by kernel_rfl) ?_ _
      go_wp2
      refine bodyPost_ret (v := .agg #[.slice aa nc ca, .slice ab nm cb, .int .i64 tn]) (by simp [results, Try.results64, go_sem, r0, r1, r2, f0, f1, f2]) rfl ?_
      exact ⟨_, _, rfl, ⟨Oa, Ob, hd⟩, b9⟩
  · go_simp
    have A2 := alloc_below w1 (.cells #[] 3)
    have u4 : Ints.Owns w1.heap.size (w1.alloc (.cells #[] 3)).drew (.slice (some ⟨w1.heap.size, 0, none⟩) 0 0) [] := Ints.owns_lit w1 (Nat.le_refl _)
    have S2 : CSt B P w (w1.alloc (.cells #[] 3)).drew q (.slice ac nc cc) (.slice am nm cm) t := (CSt.drew (S1.low (A2.mono S1.hq.2.2.2)))
    have z2 : w1.heap.size < (w1.alloc (.cells #[] 3)).drew.heap.size := by show w1.heap.size < (w1.alloc (.cells #[] 3)).heap.size; simp
    have hP4 : P ≤ w1.heap.size := S1.hq.2.2.2
    obtain ⟨w2, hw2⟩ : ∃ W, (w1.alloc (.cells #[] 3)).drew = W := ⟨_, rfl⟩
    rw [hw2] at u4 S2 z2  ⊢
    obtain ⟨p4, hp4⟩ : ∃ p, w1.heap.size = p := ⟨_, rfl⟩
    rw [hp4] at u4 z2 hP4 ⊢
    clear hw2 A2
    refine hK.out _ _ ⟨by have := S2.X.cell 0; simpa using this, by have := S2.X.cell 1; simpa using this, by have := S2.X.cell 2; rw [HTN.out] at this; simpa using this⟩ (fun hH2 => ?_)
    clear hK K
    try simp only [Act.put, List.setIfInBounds_toArray, List.set_cons_zero, List.set_cons_succ]
    refine wpAnyH_ready (rs := [0]) (by kernel_rfl) (by simp) ?_
    refine AllReadyH.cons rfl (fun K hK => ?_) AllReadyH.nil
    go_simp
    have A3 := alloc_below w2 (.cells #[] 3)
    have u0 : Ints.Owns w2.heap.size (w2.alloc (.cells #[] 3)) (.slice (some ⟨w2.heap.size, 0, none⟩) 0 0) [] := Ints.owns_lit w2 (Nat.le_refl _)
    have S3 : CSt B P w (w2.alloc (.cells #[] 3)) q (.slice ac nc cc) (.slice am nm cm) t := ((S2.low (A3.mono S2.hq.2.2.2)))
    have u4 : Ints.Owns _ (w2.alloc (.cells #[] 3)) _ _ := u4.on A3 (Nat.le_refl _)
    have z3 : w2.heap.size < (w2.alloc (.cells #[] 3)).heap.size := by show w2.heap.size < (w2.alloc (.cells #[] 3)).heap.size; simp
    have hP0 : P ≤ w2.heap.size := S2.hq.2.2.2
    obtain ⟨w3, hw3⟩ : ∃ W, (w2.alloc (.cells #[] 3)) = W := ⟨_, rfl⟩
    rw [hw3] at u0 S3 z3 u4 ⊢
    obtain ⟨p0, hp0⟩ : ∃ p, w2.heap.size = p := ⟨_, rfl⟩
    rw [hp0] at u0 z3 hP0 ⊢
    clear hw3 A3
    refine hK.out _ _ ⟨by have := S3.X.cell 0; simpa using this, by have := S3.X.cell 1; simpa using this, by have := S3.X.cell 2; rw [HTN.out] at this; simpa using this⟩ (fun hH3 => ?_)
    clear hK K
    try simp only [Act.put, List.setIfInBounds_toArray, List.set_cons_zero, List.set_cons_succ]
    refine wpAnyH_ready (rs := [3]) (by kernel_rfl) (by simp) ?_
    refine AllReadyH.cons rfl (fun K hK => ?_) AllReadyH.nil
    obtain ⟨v3, w4, hr3, O3, G3, L3⟩ := Ints.appJ (.slice (some ⟨p0, 0, none⟩) 0 0) (.slice ac nc cc) 25 [] t.c B p0 w3 u0 (by omega) S3.v.c (by simp; omega)
    have S4_ := S3.grown G3 hP0
    have L3 : ∀ k, v3.ownBlock = some k → k = p0 ∨ w3.heap.size ≤ k := fun k hk => (L3 k hk).imp ob_eq id
    have h3 : ∀ k, v3.ownBlock = some k → p0 ≤ k ∧ k < w4.heap.size := fun k hk => O3.at k hk
    have u4 := u4.grown G3 (fun k hk e => by have e := ob_eq e.symm; have hk := ob_eq hk; omega)
    rw [List.nil_append] at O3
    refine step_app rfl (.tmp 3) (.tmp 5) 25 rfl _ _ v3 w4 rfl rfl hr3 ?_
    have S4 := S4_
    have z4 : w3.heap.size ≤ w4.heap.size := G3.size
    clear hr3 G3 S4_
    refine hK.out _ _ ⟨by have := S4.X.cell 0; simpa using this, by have := S4.X.cell 1; simpa using this, by have := S4.X.cell 2; rw [HTN.out] at this; simpa using this⟩ (fun hH4 => ?_)
    clear hK K
    try simp only [Act.put, List.setIfInBounds_toArray, List.set_cons_zero, List.set_cons_succ]
    refine wpAnyH_ready (rs := [7]) (by kernel_rfl) (by simp) ?_
    refine AllReadyH.cons rfl (fun K hK => ?_) AllReadyH.nil
    obtain ⟨v7, w5, hr7, O7, G7, L7⟩ := Ints.appJ (.slice (some ⟨p4, 0, none⟩) 0 0) (.slice am nm cm) 25 [] t.m B p4 w4 u4 (by omega) S4.v.m (by simp; omega)
    have S5_ := S4.grown G7 hP4
    have L7 : ∀ k, v7.ownBlock = some k → k = p4 ∨ w4.heap.size ≤ k := fun k hk => (L7 k hk).imp ob_eq id
    have h7 : ∀ k, v7.ownBlock = some k → p4 ≤ k ∧ k < w5.heap.size := fun k hk => O7.at k hk
    have O3 := O3.grown G7 (fun k hk e => by have e := ob_eq e.symm; have a3 := L3 k hk; have b3 := h3 k hk; omega)
    rw [List.nil_append] at O7
    refine step_app rfl (.tmp 7) (.tmp 9) 25 rfl _ _ v7 w5 rfl rfl hr7 ?_
    have S5 := S5_
    have z5 : w4.heap.size ≤ w5.heap.size := G7.size
    clear hr7 G7 S5_
    refine hK.out _ _ ⟨by have := S5.X.cell 0; simpa using this, by have := S5.X.cell 1; simpa using this, by have := S5.X.cell 2; rw [HTN.out] at this; simpa using this⟩ (fun hH5 => ?_)
    clear hK K
    try simp only [Act.put, List.setIfInBounds_toArray, List.set_cons_zero, List.set_cons_succ]
    have hd : Dj v3 v7 := fun k x3 x7 => by
      have a3 := L3 k x3; have b3 := h3 k x3; have a7 := L7 k x7; have b7 := h7 k x7
      omega
    obtain ⟨aa, ca, rfl⟩ := O3.form
    obtain ⟨ab, cb, rfl⟩ := O7.form
    rw [hnc, hnm]
    rw [hnc] at O3 hd
    rw [hnm] at O7 hd
    refine takeH (i := 10) (some 13) (.agg #[.slice aa nc ca, .slice ab nm cb, .int .i64 tn]) rfl rfl (by kernel_rfl) (by kernel_rfl) (by kernel_rfl) (fun _ _ _ h => h) (Or.inl ⟨by rfl, fun W hSw => by go_simp⟩) (by assumption) ?_
    try simp only [Act.put, List.setIfInBounds_toArray, List.set_cons_zero, List.set_cons_succ]
    refine wpAnyH_ready (rs := [11]) (by kernel_rfl) (by simp) ?_
    refine AllReadyH.cons rfl (fun K hK => ?_) AllReadyH.nil
    have r0 := S5.R.cell 0; have r1 := S5.R.cell 1; have r2 := S5.R.cell 2
    have f0 := S5.R.froz 0; have f1 := S5.R.froz 1; have f2 := S5.R.froz 2
    have hqs := S5.hq
    have X9 := ((S5.X.other (q := q) (by omega) 0 (.slice aa nc ca)).other (q := q) (by omega) 1 (.slice ab nm cb)).other (q := q) (by omega) 2 (.int .i64 tn)
    have b9 := ((S5.b.setCell (p := ⟨q, 0, none⟩) (by show w.heap.size ≤ q; omega) (.slice aa nc ca)).setCell (p := ⟨q, 1, none⟩) (by show w.heap.size ≤ q; omega) (.slice ab nm cb)).setCell (p := ⟨q, 2, none⟩) (by show w.heap.size ≤ q; omega) (.int .i64 tn)
    have Oa := (own_other (own_other (own_other O3 (q := q) (by omega) 0 (.slice aa nc ca)) (q := q) (by omega) 1 (.slice ab nm cb)) (q := q) (by omega) 2 (.int .i64 tn)).mono (show w.heap.size ≤ p0 by omega)
    have Ob := (own_other (own_other (own_other O7 (q := q) (by omega) 0 (.slice aa nc ca)) (q := q) (by omega) 1 (.slice ab nm cb)) (q := q) (by omega) 2 (.int .i64 tn)).mono (show w.heap.size ≤ p4 by omega)
    go_simp
    refine hK.out _ _ ⟨by have := X9.cell 0; simpa using this, by have := X9.cell 1; simpa using this, by have := X9.cell 2; rw [HTN.out] at this; simpa using this⟩ (fun hH9 => ?_)
    clear hK K
    try simp only [Act.put, List.setIfInBounds_toArray, List.set_cons_zero, List.set_cons_succ]
    refine wpAnyH_done (by kernel_rfl) ?_ _
    go_wp2
    refine bodyPost_ret (v := .agg #[.slice aa nc ca, .slice ab nm cb, .int .i64 tn]) (by simp [results, Try.results64, go_sem, r0, r1, r2, f0, f1, f2]) rfl ?_
    exact ⟨_, _, rfl, ⟨Oa, Ob, hd⟩, b9⟩
end Ops
end Go.Proofs.Ytppkohkcffnghaa
