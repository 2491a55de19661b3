/- What the program's StateAt answers: the states one behind the other. -/
import Derived.Test.YtppikpdphcfomaaHistSeq
import Derived.Test.YtppikpdphcfomaaHistLast
import Derived.Test.YtppikpdphcfomaaHistSpec3
set_option linter.unusedVariables false
set_option linter.unusedSimpArgs false
namespace Go.Proofs.Ytppikpdphcfomaa
open Go.RowKit Go.Shelf
namespace Hist
open Bas Flat Logs

attribute [local go_sem] Oper.semAt_some

theorem ints_cells {B : Nat} {W W' : World} {v : Value} {zs : List Int} (h : Ints.Owns B W v zs) (hk : ∀ k o, B ≤ k → W.heap[k]? = some o → o.isCells = true → W'.heap[k]? = some o) : Ints.Owns B W' v zs := by
  obtain ⟨h1, h2⟩ := h
  refine ⟨h1, ?_⟩
  rcases h2 with h2 | ⟨g, cap, cur, rfl, hg, hh, r⟩
  · exact .inl h2
  · exact .inr ⟨g, cap, cur, rfl, hg, hk g _ hg hh rfl, r⟩
/-- all that is cells stays, but block p, which may hold another value; nothing ahead of p changes -/
structure Kp (p : Nat) (A B : World) : Prop where
  low : Below p A B
  same : ∀ k o, k ≠ p → A.heap[k]? = some o → o.isCells = true → B.heap[k]? = some o
theorem Kp.trans {p : Nat} {A B C : World} (h : Kp p A B) (h' : Kp p B C) : Kp p A C := ⟨h.low.trans h'.low, fun k o hk ho hc => h'.same k o hk (h.same k o hk ho hc) hc⟩
theorem Kp.below {p : Nat} {A B : World} (h : Below A.heap.size A B) (hp : p ≤ A.heap.size) : Kp p A B := ⟨h.mono hp, fun k o _ ho _ => (h.block k (Array.getElem?_eq_some_iff.1 ho).1).trans ho⟩
theorem Kp.refl (p : Nat) (A : World) : Kp p A A := ⟨Below.refl _ _, fun _ _ _ h _ => h⟩
theorem Kp.putObj {p m : Nat} {W : World} {l : Nat} {o o' : Obj} (hp : p < m) (hl : m ≤ l) (h : W.heap[l]? = some o) (hc : o.isCells = false) : Kp p W (W.putObj l o') := by
  have hg := grownBy_putObj' W l o'
  refine ⟨(Below.refl p W).grown hg (by have := (Array.getElem?_eq_some_iff.1 h).1; omega) (fun k e => by cases e; omega), fun k q _ hk hq => ?_⟩
  refine (hg.block k (Array.getElem?_eq_some_iff.1 hk).1 (fun e => ?_)).trans hk
  cases e
  rw [h] at hk
  cases hk
  rw [hc] at hq; cases hq
theorem Obj_kept {W : World} {l k : Nat} {o o' q : Obj} (h : W.heap[l]? = some o) (hc : o.isCells = false) (hk : W.heap[k]? = some q) (hq : q.isCells = true) : (W.putObj l o').heap[k]? = some q := by
  refine ((grownBy_putObj' W l o').block k (Array.getElem?_eq_some_iff.1 hk).1 (fun e => ?_)).trans hk
  cases e
  rw [h] at hk
  cases hk
  rw [hc] at hq; cases hq
theorem Kp.set {p : Nat} (W : World) (u : Value) : Kp p W (W.setCell ⟨p, 0, none⟩ u) :=
  ⟨(Below.refl p W).setCell (p := ⟨p, 0, none⟩) (Nat.le_refl _) _, fun k o hk ho _ => (Below.heap_setCell _ _ _ _ hk).trans ho⟩
theorem Kp.boxed {p B : Nat} {A C : World} {t : TypeId} {v : Value} (h : Kp p A C) (hb : Boxed A B t v) (hne : B ≠ p) : Boxed C B t v := h.same B _ hne hb rfl
/-- the state that the loop has reached -/
def St (zs : List Int) (T : List Wr) (p : Nat) (W : World) (v : Value) (k : Nat) : Prop := (k = 0 ∧ Ints.Sees p W v zs) ∨ Ints.Owns (p + 1) W v (goAll zs (T.take k))
section
variable {zs : List Int} {T : List Wr} {p k : Nat} {W W' : World} {v : Value}
theorem St.sees (h : St zs T p W v k) (hp : p ≤ W.heap.size) : Ints.Sees W.heap.size W v (goAll zs (T.take k)) := by
  rcases h with ⟨rfl, h⟩ | h
  · exact h.up hp
  · exact h.sees
theorem St.kp (h : St zs T p W v k) (hk : Kp p W W') : St zs T p W' v k := by
  rcases h with ⟨h1, h⟩ | h
  · exact .inl ⟨h1, h.on hk.low (Nat.le_refl _)⟩
  · exact .inr (ints_cells h fun j o hj ho hc => hk.same j o (by omega) ho hc)
end

theorem states_in (F : Fence) (n : Nat) (h5 : F.fn 44) (hro : F.round = none) (v0 v : Value) (w : World) (a0 a1 : Option Addr) (n0 c0 n1 c1 : Nat) (e0 : v0 = .slice a0 n0 c0) (e1 : v = .slice a1 n1 c1) :
    CallsIn F n Try.prog 44 #[v0, v] w fun e w' => e = .returned (.func (.func 77) #[] #[.pointer (some ⟨w.heap.size, 0, none⟩), .pointer (some ⟨w.heap.size + 1, 0, none⟩)]) ∧ w' = (w.alloc (.cells #[v0] 24)).alloc (.cells #[v] 25) := by
  subst e0 e1
  refine callsIn_of_wp Try.func44 rfl h5 ?_ hro
  simp only [Try.ntmps44, List.size_toArray, List.length_cons, List.length_nil, Nat.reduceAdd, Nat.reduceSub, Array.replicate_succ, Array.replicate_zero, List.push_toArray, List.append_toArray, List.nil_append, List.cons_append]
  gi_wp2
  go_ret
  exact ⟨rfl, rfl⟩

def wz : Wr := ⟨0, 0, []⟩
set_option maxRecDepth 100000 in
set_option maxHeartbeats 4000000 in
/-- the closure -/
theorem states1 (F : Fence) (n : Nat) (h7 : F.fn 77) (hOv : F.fn 78) (hro : F.round = none) (hn : 3 ≤ n) (p qc qt : Nat) (zs : List Int) (T : List Wr) (a0 a1 : Option Addr) (c0 c1 N : Nat) (hN : T.length = N) (hN2 : N ≤ 200) (hz : valsOk zs = true) (hT : ∀ e ∈ T, rowsOk e.ps = true)
    (hO : ∀ (W : World) (u v : Value) (ys : List Int) (xs : List R2), Ints.Sees W.heap.size W u ys → Sees2 W.heap.size W v xs → CallsIn F (n - 1) Try.prog 78 #[u, v] W fun e w' => ∃ v', e = .returned v' ∧ Ints.Owns W.heap.size w' v' (overOf ys xs) ∧ Below W.heap.size W w')
    (w : World) (hpc : p < qc) (hct : qc < qt) (hw : qt < w.heap.size) (hbc : Boxed w qc 24 (.slice a0 8 c0)) (hbt : Boxed w qt 25 (.slice a1 N c1)) (hs0 : Ints.Sees p w (.slice a0 8 c0) zs) (hs1 : SeesW p w (.slice a1 N c1) T) :
    SeqP F n Try.prog 77 #[.pointer (some ⟨qc, 0, none⟩), .pointer (some ⟨qt, 0, none⟩)] (fun x : Nat × Value => #[.int .i64 (T.getD x.1 wz).s, x.2]) (fun x W => x.1 < N ∧ Ints.Owns (p + 1) W x.2 (goAll zs (T.take (x.1 + 1)))) (Kp p) (fun ys => ys.map Prod.fst = List.range N) (fun pre => ∃ k, k < N ∧ pre.map Prod.fst = List.range (k + 1)) N w := by
  intro l J Jx W hWB hab hY h0
  have d0 := boxed_on hbc hWB (by omega); have d1 := boxed_on hbt hWB (by omega)
  have S0 := hs0.on hWB (by omega); have S1 := hs1.on hWB (by omega)
  have hWs := hWB.size
  have e0 := d0.cell; have e1 := d1.cell
  refine callsIn_of_wp Try.func77 rfl h7 ?_ hro
  simp only [Try.ntmps77, List.size_toArray, List.length_cons, List.length_nil, Nat.reduceAdd, Nat.reduceSub, Array.replicate_succ, Array.replicate_zero, List.push_toArray, List.append_toArray, List.nil_append, List.cons_append]
  gi_wp2
  gi_loopw [4, 10] (fun sv iv wr => ∃ (k : Nat) (ax : Option Addr) (cx : Nat) (pre : List (Nat × Value)), k ≤ N ∧ iv = .int .i64 k ∧ sv = .slice ax 8 cx ∧ St zs T p wr (.slice ax 8 cx) k ∧ Hid (pre.map Prod.fst = List.range k) ∧ J pre wr ∧ Kp p W wr) (fun _ iv _ => N - (intOf iv).toNat)
  case atStart => exact ⟨0, a0, c0, [], Nat.zero_le _, rfl, rfl, .inl ⟨rfl, S0⟩, rfl, h0, Kp.refl _ _⟩
  case round =>
    obtain ⟨k, ax, cx, pre, hk, rfl, rfl, hSt, HP, hJ, hKp⟩ := hrel
    have hps : p ≤ wr.heap.size := by have := hKp.low.size; omega
    by_cases hlt : k < N
    · have hkT : k < T.length := by omega
      have S2 := S1.on hKp.low (Nat.le_refl _)
      obtain ⟨b, off, rfl, hbB, hc⟩ := SeesW.open S2 (by omega)
      obtain ⟨pp, cc, f0, f1, f2, p2⟩ := hc k hkT
      have hgd : T.getD k wz = T[k] := by simp [List.getD, hkT]
      have hTR : rowsOk T[k].ps = true := hT _ (List.getElem_mem hkT)
      have hGV : valsOk (goAll zs (T.take k)) = true := goAll_vals hz (fun e he => hT e (List.mem_of_mem_take he))
      have HOV : Hid (overOf (goAll zs (T.take k)) T[k].ps = goAll zs (T.take (k + 1))) := by show _ = _; rw [over_yes (by rw [hGV, hTR]; rfl), goAll_take]
      obtain ⟨x, hx⟩ : ∃ x, T[k] = x := ⟨_, rfl⟩
      rw [hx] at f0 f1 f2 p2 hgd HOV
      have HGD := (show Hid (T.getD k wz = x) from hgd)
      obtain ⟨m, hm⟩ : ∃ m, x.ps.length = m := ⟨_, rfl⟩
      rw [hm] at f2 p2
      have X0 := Blk.new wr #[.int .i64 x.s, .int .i64 x.who, .slice pp m cc] 33
      have a4 := alloc_below wr (.cells #[.int .i64 x.s, .int .i64 x.who, .slice pp m cc] 33)
      have g0 := X0.cell 0; have g2 := X0.cell 2
      have hStA := hSt.kp (Kp.below a4 hps)
      have hsA : p ≤ (wr.alloc (.cells #[.int .i64 x.s, .int .i64 x.who, .slice pp m cc] 33)).heap.size := by have := a4.size; omega
      have cO := hO _ _ _ _ _ (hStA.sees hsA) ((p2.on (a4.mono hps) (Nat.le_refl _)).up hsA)
      rw [HOV.out] at cO
      have i1 : (k : Int) < N := by omega
      have hn1 : 1 ≤ n := by omega
      have hKA := hKp.trans (Kp.below a4 hps)
      have hJA := hab pre wr _ hJ (grown_none a4)
      clear hc hgd hTR hGV hx hm S2 p2 hSt hStA hJ hKp
      gi_wp2_with fail
      refine cO.mono ?_
      rintro e w4 ⟨v4, rfl, O4, b4⟩
      have hl8 : (goAll zs (T.take (k + 1))).length = 8 := by rw [goAll_length]; exact vals_len hz
      obtain ⟨a4', c4, rfl⟩ := O4.form
      rw [hl8] at O4 ⊢
      have O5 : Ints.Owns (p + 1) w4 (.slice a4' 8 c4) (goAll zs (T.take (k + 1))) := O4.mono (by simp; omega)
      have X4 := X0.on b4 X0.lt
      have y0 := X4.cell 0
      have hJ4 := hab pre _ _ hJA (grown_none b4)
      have hK4 := hKA.trans (Kp.below b4 hsA)
      have hlp : pre.length = k := by have := congrArg List.length HP.out; simpa using this
      obtain ⟨fn, tmps, assign, body, hy, hR⟩ := hY pre (k, .slice a4' 8 c4) w4 hJ4 ⟨hlt, O5⟩ (by rw [hlp]; exact hlt)
      rw [show (k, Value.slice a4' 8 c4).1 = k from rfl, HGD.out] at hy
      clear hlp hJ4
      gi_wp2
      refine hR.mono ?_
      rintro e W3 (⟨rfl, hJ3, hk3⟩ | ⟨rfl, hJx3⟩)
      · gi_wp2
        go_roundw
        case rel => exact ⟨k + 1, a4', c4, pre ++ [(k, .slice a4' 8 c4)], by omega, by go_num, rfl, .inr (ints_cells O5 fun j o hj ho hc => hk3.same j o (by omega) ho hc), by show _ = _; rw [List.map_append, HP.out, List.range_succ]; rfl, hJ3, hK4.trans hk3⟩
        case measure => simp [intOf]; omega
      · gi_wp2
        refine bodyPost_ret (results_none rfl _ _ _) rfl ?_
        exact ⟨⟨_, rfl⟩, .inr ⟨_, ⟨k, hlt, by rw [List.map_append, HP.out, List.range_succ]; rfl⟩, hJx3⟩⟩
    · obtain rfl : k = N := by omega
      have i1 : ¬ (k : Int) < k := by omega
      gi_wp2
      go_end0
      exact ⟨⟨_, rfl⟩, .inl ⟨pre, HP.out, hJ⟩⟩

/-- how far the states have come -/
def cnt (pre : List (Nat × Value)) : Nat := match pre.getLast? with | some x => x.1 + 1 | none => 0
theorem cnt_snoc (pre : List (Nat × Value)) (x : Nat × Value) : cnt (pre ++ [x]) = x.1 + 1 := by simp [cnt]
theorem cnt_range {pre : List (Nat × Value)} {k : Nat} (h : pre.map Prod.fst = List.range k) : cnt pre = k := by
  cases k with
  | zero => simp at h; subst h; rfl
  | succ k =>
    rcases List.eq_nil_or_concat pre with rfl | ⟨ini, x, rfl⟩
    · have := congrArg List.length h; simp at this
    · rw [List.concat_eq_append] at h ⊢
      rw [List.map_append, List.range_succ] at h
      obtain ⟨-, e⟩ := List.append_inj' h rfl
      have e : x.1 = k := by simpa using e
      rw [cnt_snoc, e]

set_option maxRecDepth 100000 in
set_option maxHeartbeats 4000000 in
theorem stateIn (F : Fence) (n : Nat) (h10 : F.fn 11) (h41 : F.fn 41) (h42 : F.fn 42) (h43 : F.fn 43) (h44 : F.fn 44) (h77 : F.fn 77) (h78 : F.fn 78) (hro : F.round = none) (hn : 12 ≤ n)
    (a0 a : Option Addr) (c0 len cap : Nat) (zs : List Int) (ls : List Wr) (nn : Int) (B : Nat) (w : World) (h0 : Ints.Sees B w (.slice a0 8 c0) zs) (hv : SeesW B w (.slice a len cap) ls) (hB : B ≤ w.heap.size) (hz : valsOk zs = true) (hh : histOk ls = true)
    (hT : ∀ W, Below w.heap.size w W → CallsIn F (n - 1) Try.prog 41 #[.slice a len cap] W fun e w' => ∃ v', e = .returned (.tuple #[v', .bool true]) ∧ SeesW w'.heap.size w' v' (turnOf ls) ∧ Below W.heap.size W w')
    (hV : ∀ W, Below w.heap.size w W → CallsIn F (n - 1) Try.prog 42 #[.slice a0 8 c0] W fun e w' => e = .returned (.bool true) ∧ W = w')
    (hC : ∀ W, Below w.heap.size w W → CallsIn F (n - 1) Try.prog 43 #[.slice a0 8 c0] W fun e w' => ∃ v', e = .returned v' ∧ Ints.Owns W.heap.size w' v' zs ∧ Below W.heap.size W w')
    (hO : ∀ (W : World) (u v : Value) (ys : List Int) (xs : List R2), Ints.Sees W.heap.size W u ys → Sees2 W.heap.size W v xs → CallsIn F (n - 1 - 1) Try.prog 78 #[u, v] W fun e w' => ∃ v', e = .returned v' ∧ Ints.Owns W.heap.size w' v' (overOf ys xs) ∧ Below W.heap.size W w') :
    CallsIn F n Try.prog 11 #[.slice a0 8 c0, .slice a len cap, .int .i64 nn] w fun e w' => ∃ v', e = .returned v' ∧ Ints.Owns w.heap.size w' v' (stateAt zs ls nn) ∧ Below w.heap.size w w' := by
  have h1 : 1 ≤ n := by omega
  obtain ⟨g, hg⟩ : ∃ g, w.heap.size = g := ⟨_, rfl⟩
  have B0 := Boxed.new w 3 (.int .i64 nn)
  have b0 := alloc_below w (.cells #[.int .i64 nn] 3)
  have hz0 : (w.alloc (.cells #[.int .i64 nn] 3)).heap.size = g + 1 := by simp [hg]
  have cT := hT _ b0
  obtain ⟨W1, hW1⟩ : ∃ W, w.alloc (.cells #[.int .i64 nn] 3) = W := ⟨_, rfl⟩
  rw [hW1] at B0 b0 hz0 cT
  rw [hg] at B0
  refine callsIn_of_wp_marks Try.func11 rfl h10 ?_ hro
  simp only [Try.ntmps11, List.size_toArray, List.length_cons, List.length_nil, Nat.reduceAdd, Nat.reduceSub, Array.replicate_succ, Array.replicate_zero, List.push_toArray, List.append_toArray, List.nil_append, List.cons_append]
  rw [hg]
  gi_wp2_with fail
  try rw [hW1]
  refine cT.mono ?_
  rintro e w1 ⟨v1, rfl, V1, b1⟩
  have bb1 := b0.trans (b1.mono b0.size)
  have hs1 := b1.size
  obtain ⟨T, hTT⟩ : ∃ T, turnOf ls = T := ⟨_, rfl⟩
  rw [hTT] at V1
  obtain ⟨N, hN⟩ : ∃ N, T.length = N := ⟨_, rfl⟩
  obtain ⟨a1, c1, rfl⟩ := V1.form
  rw [hN] at V1 ⊢
  have cV := hV _ bb1
  have cC := hC _ bb1
  gi_wp2_with (gi_at_call 42; refine cV.mono ?_; rintro e w2 ⟨rfl, rfl⟩)
  refine cC.mono ?_
  rintro e w2 ⟨v2, rfl, O2, b2⟩
  have hl8 := vals_len hz
  have HL8 := (show Hid (zs.length = 8) from hl8)
  obtain ⟨a2, c2, rfl⟩ := O2.form
  rw [hl8] at O2 ⊢
  have bb2 := bb1.trans (b2.mono bb1.size)
  have hs2 := b2.size
  obtain ⟨p, hp⟩ : ∃ p, w2.heap.size = p := ⟨_, rfl⟩
  have A2 := Boxed.new w2 24 (.slice a2 8 c2)
  have bA := alloc_below w2 (.cells #[.slice a2 8 c2] 24)
  have hzA : (w2.alloc (.cells #[.slice a2 8 c2] 24)).heap.size = p + 1 := by simp [hp]
  obtain ⟨W3, hW3⟩ : ∃ W, w2.alloc (.cells #[.slice a2 8 c2] 24) = W := ⟨_, rfl⟩
  rw [hW3] at A2 bA hzA
  rw [hp] at A2 bA
  gi_wp2_with fail
  try rw [hW3]
  refine (states_in F (n - 1) h44 hro _ _ W3 a0 a1 8 c0 N c1 rfl rfl).mono ?_
  rintro e w3 ⟨rfl, rfl⟩
  rw [hzA]
  have bB := (alloc_below W3 (.cells #[.slice a0 8 c0] 24)).alloc (by simp) (.cells #[.slice a1 N c1] 25)
  rw [hzA] at bB
  have Q0 := (Boxed.new W3 24 (.slice a0 8 c0)).alloc (.cells #[.slice a1 N c1] 25)
  have Q1 := Boxed.new (W3.alloc (.cells #[.slice a0 8 c0] 24)) 25 (.slice a1 N c1)
  simp only [World.size_alloc] at Q0 Q1
  rw [hzA] at Q0 Q1
  have hzB : ((W3.alloc (.cells #[.slice a0 8 c0] 24)).alloc (.cells #[.slice a1 N c1] 25)).heap.size = p + 3 := by simp [hzA]
  obtain ⟨W4, hW4⟩ : ∃ W, (W3.alloc (.cells #[.slice a0 8 c0] 24)).alloc (.cells #[.slice a1 N c1] 25) = W := ⟨_, rfl⟩
  rw [hW4] at bB Q0 Q1 hzB ⊢
  have P4 := boxed_on A2 bB (by omega)
  have O4 : Ints.Owns g W4 (.slice a2 8 c2) zs := ((O2.on bA (by omega)).on bB (by omega)).mono (by omega)
  have bb4 : Below g w W4 := by
    rw [hg] at bb2
    exact (bb2.trans (bA.mono (by omega))).trans (bB.mono (by omega))
  have hob : ∀ k, (Value.slice a2 8 c2).ownBlock = some k → k ≠ p := fun k hk => by have := (O2.at k hk).2; omega
  have B4 : Boxed W4 g 3 (.int .i64 nn) := boxed_on (boxed_on (boxed_on (boxed_on B0 b1 (by omega)) b2 (by omega)) bA (by omega)) bB (by omega)
  have S0 : Ints.Sees p W4 (.slice a0 8 c0) zs := (h0.on bb4 (by omega)).up (by omega)
  have S1 : SeesW p W4 (.slice a1 N c1) T := (((V1.on b2 (Nat.le_refl _)).on bA (by omega)).on bB (by omega)).up (by omega)
  have hgp : g < p := by omega
  have hTL : N ≤ 200 := by rw [← hN, ← hTT, turn_length]; exact (histOk_iff.1 hh).1
  have hTR : ∀ e ∈ T, rowsOk e.ps = true := by rw [← hTT]; exact fun e he => (entOk_out ((histOk_iff.1 hh).2.1 e ((turn_perm ls).mem_iff.1 he))).2.2
  have HY : Hid (stateAt zs ls nn = goAll zs (T.take (cntTo T nn))) := by rw [← hTT]; exact state_yes (by rw [hz, hh]; rfl)
  have HN := (show Hid (T.length = N) from hN)
  have cS := states1 F (n - 1) h77 h78 hro (by omega) p (p + 1) (p + 1 + 1) zs T a0 a1 c0 c1 N hN hTL hz hTR hO W4 (by omega) (by omega) (by omega) Q0 Q1 S0 S1
  have hgw : g ≤ w.heap.size := by omega
  have HZB := (show Hid _ from hzB)
  clear hW1 hW3 hW4 cT cV cC b0 b1 b2 bA bB hz0 hzA bb1 bb2 V1 O2 A2 B0 Q0 Q1 S0 S1 hN hTT hp
  have HG := (show Hid _ from hg)
  clear hg
  gi_wp2
  refine rangeP hro h1 (gf := 77) (lb := #[.pointer (some ⟨p + 1, 0, none⟩), .pointer (some ⟨p + 1 + 1, 0, none⟩)]) rfl h77 (enters_of Try.func77 (by kernel_rfl) rfl)
    cS (fun _ => rfl) Kp.trans (fun W l o o' hl h hc => Kp.putObj (m := W4.heap.size) (by omega) hl h hc)
    (fun x W l o o' hx hl h hc => ⟨hx.1, ints_cells hx.2 fun k q hk hq hqc => ((Kp.putObj (p := p) (m := W4.heap.size) (by omega) hl h hc).same k q (by omega) hq hqc)⟩)
    (fun pre W => (∃ (va : Option Addr) (ca : Nat), (Boxed W p 24 (.slice va 8 ca) ∧ Ints.Owns g W (.slice va 8 ca) (goAll zs (T.take (cnt pre)))) ∧ (∀ k, (Value.slice va 8 ca).ownBlock = some k → k ≠ p)) ∧ (∀ x ∈ pre, (T.getD x.1 wz).s ≤ nn) ∧ Below p W4 W)
    (fun k pre W => k = .exit 0 ∧ ∃ ini last, (pre = ini ++ [last] ∧ (∀ x ∈ ini, (T.getD x.1 wz).s ≤ nn) ∧ nn < (T.getD last.1 wz).s) ∧ (∃ (va : Option Addr) (ca : Nat), Boxed W p 24 (.slice va 8 ca) ∧ Ints.Owns g W (.slice va 8 ca) (goAll zs (T.take (cnt ini)))) ∧ Below p W4 W)
    ?hI ?hIx ⟨⟨a2, c2, ⟨P4, O4⟩, hob⟩, fun x hx => absurd hx List.not_mem_nil, Below.refl _ _⟩ (fun x => { tmps := #[.slice a0 8 c0, .slice a len cap, .int .i64 nn, undef, undef, .pointer (some ⟨g, 0, none⟩), .slice none 0 0, .slice a1 N c1, .bool true, .pointer (some ⟨p, 0, none⟩), .int .i64 (T.getD x.1 wz).s, x.2, .tuple #[.slice a1 N c1, .bool true], .slice a len cap, .tuple #[.slice a1 N c1, .bool true], .slice a1 N c1, .bool true, .bool true, .bool false, .bool false, .slice a0 8 c0, .bool true, .bool false, .bool false, .slice a0 8 c0, .slice a2 8 c2, .slice a0 8 c0, .slice a1 N c1, .func (.func 77) #[] #[.pointer (some ⟨p + 1, 0, none⟩), .pointer (some ⟨p + 1 + 1, 0, none⟩)], .int .i64 (T.getD x.1 wz).s, x.2, undef, undef, undef, undef, undef], defers := [] }) ?assign ?body ?done ?stop
  case hI =>
    rintro pre X Y row ⟨⟨va, ca, ⟨k1, k2⟩, k3⟩, k4, k5⟩ hg' hr
    have hcell : ∀ (k : Nat) (o : Obj), X.heap[k]? = some o → o.isCells = true → Y.heap[k]? = some o := fun k o ho hc => (grownBy_keeps_cells hg' (fun r e => (hr r e).2) ho hc).trans ho
    exact ⟨⟨va, ca, ⟨hcell _ _ k1 rfl, ints_cells k2 fun k o _ ho hc => hcell k o ho hc⟩, k3⟩, k4, ownFrom_below (β := Unit) (n₀ := p) (B := W4.heap.size) (by omega) (by omega) () X Y row k5 hg' hr⟩
  case hIx =>
    rintro c pre X Y row ⟨e0, ini, last, e1, ⟨va, ca, k1, k2⟩, k5⟩ hg' hr
    have hcell : ∀ (k : Nat) (o : Obj), X.heap[k]? = some o → o.isCells = true → Y.heap[k]? = some o := fun k o ho hc => (grownBy_keeps_cells hg' (fun r e => (hr r e).2) ho hc).trans ho
    exact ⟨e0, ini, last, e1, ⟨va, ca, hcell _ _ k1 rfl, ints_cells k2 fun k o _ ho hc => hcell k o ho hc⟩, ownFrom_below (β := Unit) (n₀ := p) (B := W4.heap.size) (by omega) (by omega) () X Y row k5 hg' hr⟩
  case assign =>
    rintro l x W K hK
    gi_wp2
    exact hK
  case body =>
    rintro l pre x W ⟨⟨va, ca, ⟨k1, k2⟩, k3⟩, k4, k5⟩ ⟨hx1, hx2⟩ hlt
    have d0 := (boxed_on B4 k5 (by omega)).cell
    have f1 := k1.frozen
    have hxs := hx2
    obtain ⟨xa, xc, hxe⟩ := hx2.form
    obtain ⟨j, v⟩ := x
    dsimp only at hx1 hx2 hxe hxs ⊢
    have hl8 : (goAll zs (T.take (j + 1))).length = 8 := by rw [goAll_length]; exact HL8.out
    rw [hl8] at hxe
    subst hxe
    obtain ⟨s, hs⟩ : ∃ s, (T.getD j wz).s = s := ⟨_, rfl⟩
    have HS := (show Hid _ from hs)
    rw [hs]
    clear hs hl8
    by_cases q1 : nn < s
    · gi_wp2
      exact ⟨KeepsFrom.refl _ _, rfl, pre, _, ⟨rfl, k4, by rw [HS.out]; exact q1⟩, ⟨va, ca, k1, k2⟩, k5⟩
    · have q2 : s ≤ nn := by omega
      have HQ := (show Hid _ from q2)
      clear q1
      have c1 := k1.cell
      gi_wp2
      have hK := Kp.set (p := p) W (.slice xa 8 xc)
      refine ⟨(KeepsOthers.setCell _ _ _).from _, hK, ⟨xa, xc, ⟨k1.set _, ?_⟩, fun k hk => by have := (hxs.at k hk).1; omega⟩, fun y hy => (List.mem_append.1 hy).elim (k4 y) (fun e => by rw [List.mem_singleton.1 e, HS.out]; exact HQ.out), k5.trans hK.low⟩
      rw [cnt_snoc]
      exact (ints_cells hxs fun k q hk hq hqc => hK.same k q (by omega) hq hqc).mono (by omega)
  case done =>
    rintro D ys W hD hys ⟨⟨va, ca, ⟨k1, k2⟩, k3⟩, k4, k5⟩ hK
    have c1 := k1.cell
    have HYS := (show Hid _ from hys); have H4 := (show Hid _ from k4)
    clear hys k4
    gi_wp2
    refine ⟨by simp, .inl ⟨_, _, rfl, run_takeDeferred hK, ?_⟩⟩
    have hC : cntTo T nn = N := cnt_is (fun i hi hik => by
      have hm : i ∈ ys.map Prod.fst := by rw [HYS.out]; exact List.mem_range.2 hik
      obtain ⟨y, hy, rfl⟩ := List.mem_map.1 hm
      have := H4.out y hy
      have e : T.getD y.1 wz = T[y.1] := by simp [List.getD, hi]
      rw [e] at this; exact this) (fun h => by have := HN.out; omega) (by have := HN.out; omega)
    have hF : stateAt zs ls nn = goAll zs (T.take (cnt ys)) := by rw [HY.out, hC, cnt_range HYS.out]
    have hkp := Kp.putObj (p := p) (m := W4.heap.size) (o' := .deferred none) (by omega) hD hK rfl
    refine ⟨.slice va 8 ca, ?_, ⟨_, rfl, ?_, ?_⟩⟩
    · simp [results, Try.f11, go_sem]
    · rw [hF]
      exact ints_cells k2 fun k o _ ho hc => Obj_kept hK rfl ho hc
    · exact bb4.trans ((k5.mono (by omega)).trans (hkp.low.mono (by omega)))
  case stop =>
    rintro D k pre W hD ⟨j, hj, hpre⟩ ⟨rfl, ini, last, ⟨e1, e2, e3⟩, ⟨va, ca, k1, k2⟩, k5⟩ hK
    have c1 := k1.cell
    have HE1 := (show Hid _ from e1); have HE2 := (show Hid _ from e2); have HE3 := (show Hid _ from e3); have HPR := (show Hid _ from hpre)
    clear e1 e2 e3 hpre
    gi_wp2
    refine ⟨by simp, .inl ⟨_, _, rfl, run_takeDeferred hK, ?_⟩⟩
    have hsp : ini.map Prod.fst = List.range j ∧ last.1 = j := by
      have h := HPR.out
      rw [HE1.out, List.map_append, List.range_succ] at h
      obtain ⟨x1, x2⟩ := List.append_inj' h rfl
      exact ⟨x1, by simpa using x2⟩
    have hC : cntTo T nn = j := cnt_is (fun i hi hik => by
      have hm : i ∈ ini.map Prod.fst := by rw [hsp.1]; exact List.mem_range.2 hik
      obtain ⟨y, hy, rfl⟩ := List.mem_map.1 hm
      have := HE2.out y hy
      have e : T.getD y.1 wz = T[y.1] := by simp [List.getD, hi]
      rw [e] at this; exact this) (fun h => by
      have := HE3.out
      rw [hsp.2] at this
      have e : T.getD j wz = T[j] := by simp [List.getD, h]
      rw [e] at this; exact this) (by have := HN.out; omega)
    have hF : stateAt zs ls nn = goAll zs (T.take (cnt ini)) := by rw [HY.out, hC, cnt_range hsp.1]
    have hkp := Kp.putObj (p := p) (m := W4.heap.size) (o' := .deferred none) (by omega) hD hK rfl
    refine ⟨.slice va 8 ca, ?_, ⟨_, rfl, ?_, ?_⟩⟩
    · simp [results, Try.f11, go_sem]
    · rw [hF]
      exact ints_cells k2 fun k o _ ho hc => Obj_kept hK rfl ho hc
    · exact bb4.trans ((k5.mono (by omega)).trans (hkp.low.mono (by omega)))

set_option maxRecDepth 100000 in
set_option maxHeartbeats 1600000 in
theorem implState (v0 v : Value) (zs : List Int) (ls : List Wr) (nn : Int) (B : Nat) (w : World) (h0 : Ints.Sees B w v0 zs) (hv : SeesW B w v ls) (hB : B ≤ w.heap.size) :
    Calls Try.prog 11 #[v0, v, .int .i64 nn] w fun e w' => ∃ v', e = .returned v' ∧ Ints.Owns w.heap.size w' v' (stateAt zs ls nn) ∧ Below w.heap.size w w' := by
  have b0 := alloc_below w (.cells #[.int .i64 nn] 3)
  have hz0 := b0.size
  have cT := inTurnC v ls B _ (hv.on b0 hB) (by omega)
  have cV := fun W (b : Below w.heap.size w W) => Ths.implCells v0 zs B W (h0.on b hB)
  rw [← vals_eq] at cV
  obtain ⟨p, hp⟩ : ∃ p, histOk ls = p := ⟨_, rfl⟩
  obtain ⟨q, hq⟩ : ∃ p, valsOk zs = p := ⟨_, rfl⟩
  obtain ⟨a0, k0, rfl⟩ := h0.form
  obtain ⟨a, cap, rfl⟩ := hv.form
  by_cases hb : (q && p) = true
  · rw [Bool.and_eq_true] at hb
    obtain ⟨rfl, rfl⟩ := hb
    have h8 := vals_len hq
    rw [h8] at h0 cV ⊢
    refine (callsIn_wide (n := 12)).1 ?_
    exact stateIn Fence.wide 12 trivial trivial trivial trivial trivial trivial trivial rfl (Nat.le_refl _) a0 a k0 _ cap zs ls nn B w h0 hv hB hq hp
      (fun W b => callsIn_wide.2 (by
        have := inTurnC _ ls B W (hv.on b hB) (by have := b.size; omega)
        rw [hp, turned_yes hp] at this; exact this))
      (fun W b => callsIn_wide.2 (by have := cV W b; rw [hq] at this; exact this))
      (fun W b => callsIn_wide.2 (Ints.cloneC _ zs B W (h0.on b hB) (by have := b.size; omega) (by omega)))
      (fun W u v ys xs h1 h2 => callsIn_wide.2 (implOver u v ys xs W.heap.size W h1 h2 (Nat.le_refl _)))
  · have HF : Hid (stateAt zs ls nn = []) := state_no (by rw [hq, hp]; simpa using hb)
    obtain ⟨n, hn⟩ : ∃ n, zs.length = n := ⟨_, rfl⟩
    obtain ⟨m, hm⟩ : ∃ n, ls.length = n := ⟨_, rfl⟩
    rw [hn] at cV ⊢
    rw [hm] at cT ⊢
    rw [hp] at cT
    rw [hq] at cV
    have HCV := (show Hid _ from cV)
    obtain ⟨g, hg⟩ : ∃ g, w.heap.size = g := ⟨_, rfl⟩
    obtain ⟨W1, hW1⟩ : ∃ W, w.alloc (.cells #[.int .i64 nn] 3) = W := ⟨_, rfl⟩
    rw [hW1] at cT b0 hz0
    clear hn hm hp hq h0 hv cV
    cases p
    · clear hb
      go_enter Try.func11, Try.ntmps11
      go_wp2_with fail
      refine cT.mono ?_
      rintro e w1 ⟨v1, rfl, -, b1⟩
      go_wp2
      go_ret
      exact ⟨_, rfl, by rw [HF.out]; exact ⟨rfl, .inl ⟨rfl, rfl⟩⟩, b0.trans (b1.mono hz0)⟩
    · cases q
      · clear hb
        go_enter Try.func11, Try.ntmps11
        go_wp2_with fail
        refine cT.mono ?_
        rintro e w1 ⟨v1, rfl, -, b1⟩
        have bb := b0.trans (b1.mono hz0)
        go_wp2_with (go_at_call 42; refine (HCV.out _ bb).mono ?_; rintro e w2 ⟨rfl, rfl⟩)
        go_ret
        exact ⟨_, rfl, by rw [HF.out]; exact ⟨rfl, .inl ⟨rfl, rfl⟩⟩, bb⟩
      · exact absurd rfl hb
end Hist
end Go.Proofs.Ytppikpdphcfomaa
