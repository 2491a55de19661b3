/- What the program's SerialKid answers. -/
import Derived.Test.YtppkohkcffnghaaStockOf
import Derived.Test.YtppkohkcffnghaaThVals
import Derived.Test.YtppkohkcffnghaaCodeImpl
import Derived.Test.YtppkohkcffnghaaThRow
import Derived.Deep.WholeRow
set_option linter.unusedVariables false
set_option linter.unusedSimpArgs false
namespace Go.Proofs.Ytppkohkcffnghaa
open Go.RowKit
namespace Ops
open Bas Flat

def zeros (n : Nat) : List Int := List.replicate n 0
theorem over_map {r l : List Int} {t : Th} (hr : r.length = 4) (hc : t.c.length = 8) (h : l.length = t.m.length) : over (nums r t) 12 l = nums r { t with m := l } := by
  have := over_mid (r ++ t.c) t.m [t.n] l h
  have e : (r ++ t.c).length = 12 := by simp; omega
  rw [e, List.append_assoc, List.append_assoc] at this
  exact this
theorem stock_nums {zs cs ms : List Int} {n : Int} (hz : zs.length = 4 ∨ zs = []) (hc : cs.length = 8) (hm : ms.length = 8 ∨ ms = []) :
    stockL zs cs ms n = nums (if zs = [] then zeros 4 else zs) ⟨cs, if ms = [] then zeros 8 else ms, n⟩ := by
  have e0 : noughts n = nums (zeros 4) ⟨zeros 8, zeros 8, n⟩ := rfl
  have e1 : over (noughts n) 0 zs = nums (if zs = [] then zeros 4 else zs) ⟨zeros 8, zeros 8, n⟩ := by
    rcases hz with h | rfl
    · have hne : zs ≠ [] := fun h' => by rw [h'] at h; simp at h
      rw [if_neg hne, e0, over_regs (by rw [h]; rfl)]
    · rw [if_pos rfl, e0]; rfl
  have hl : (if zs = [] then zeros 4 else zs).length = 4 := by
    rcases hz with h | rfl
    · have hne : zs ≠ [] := fun h' => by rw [h'] at h; simp at h
      rw [if_neg hne]; exact h
    · rfl
  unfold stockL
  rw [e1]
  obtain ⟨r, hr⟩ : ∃ r, (if zs = [] then zeros 4 else zs) = r := ⟨_, rfl⟩
  rw [hr] at hl ⊢
  rw [over_cells hl (by rw [hc]; rfl)]
  rcases hm with h | rfl
  · have hne : ms ≠ [] := fun h' => by rw [h'] at h; simp at h
    rw [if_neg hne, over_map hl hc (by rw [h]; rfl)]
  · rw [if_pos rfl]; rfl

/-- what is told of a kid -/
def KidTold (xs : List O4) (zs cs : List Int) (out : Int) (r c : List Int) : Prop :=
  ((kidOk xs && regsOk zs && cellsOk cs) = true ∧ (∃ q, Ends xs ⟨cs, zeros 8, 0⟩ noF ⟨0, zs, ⟨cs, zeros 8, 0⟩, []⟩ q ∧ out = q.out ∧ r = q.r ∧ c = q.t.c ∧ thOk q.t = true) ∧ (out = 1 ∨ out = 2) ∧ regsOk r = true) ∨
  ((kidOk xs && regsOk zs && cellsOk cs) = false ∧ out = 0 ∧ r = [] ∧ c = [])
theorem KidTold.unique {xs : List O4} {zs cs r r' c c' : List Int} {out out' : Int} (h : KidTold xs zs cs out r c) (h' : KidTold xs zs cs out' r' c') : out = out' ∧ r = r' ∧ c = c' := by
  rcases h with ⟨h1, ⟨q, h2, rfl, rfl, rfl, -⟩, -⟩ | ⟨h1, rfl, rfl, rfl⟩ <;> rcases h' with ⟨h1', ⟨q', h2', rfl, rfl, rfl, -⟩, -⟩ | ⟨h1', rfl, rfl, rfl⟩
  · rw [h2.unique h2']; exact ⟨rfl, rfl, rfl⟩
  · rw [h1] at h1'; cases h1'
  · rw [h1] at h1'; cases h1'
  · exact ⟨rfl, rfl, rfl⟩
theorem zeros_ok {cs : List Int} (h : cellsOk cs = true) : thOk ⟨cs, zeros 8, 0⟩ = true := th_mk h (show mapOk (zeros 8) = true by decide) (show (0 : Int) ≤ 0 ∧ (0 : Int) ≤ 65535 by omega)
/-- what the call answers -/
def KidAns (xs : List O4) (zs cs : List Int) (w : World) (e : Ending) (w' : World) : Prop :=
  ∃ (out : Int) (r c : List Int) (vr vc : Value), e = .returned (.tuple #[.int .i64 out, vr, vc]) ∧ KidTold xs zs cs out r c ∧ Ints.Owns w.heap.size w' vr r ∧ Ints.Owns w.heap.size w' vc c ∧ Dj vr vc ∧ Below w.heap.size w w'
theorem kid_bad {xs : List O4} {zs cs : List Int} {w w' : World} (h : (kidOk xs && regsOk zs && cellsOk cs) = false) (hb : Below w.heap.size w w') : KidAns xs zs cs w (.returned (.tuple #[.int .i64 0, .slice none 0 0, .slice none 0 0])) w' :=
  ⟨0, [], [], _, _, rfl, .inr ⟨h, rfl, rfl, rfl⟩, ⟨by simp [Ints.iv], .inl ⟨rfl, rfl⟩⟩, ⟨by simp [Ints.iv], .inl ⟨rfl, rfl⟩⟩, (fun k h => by cases h), hb⟩
theorem infoDoing : (Try.prog.info? 93).map (·.size) = some 24 := by kernel_rfl

set_option maxRecDepth 100000 in
set_option maxHeartbeats 3200000 in
theorem kidImplC (vC vr vc : Value) (xs : List O4) (zs cs : List Int) (B : Nat) (w : World) (hx : Sees4 B w vC xs) (hr : Ints.Sees B w vr zs) (hc : Ints.Sees B w vc cs) (hB : B ≤ w.heap.size) (hlen : xs.length ≤ 1048576) :
    Calls Try.prog 12 #[vC, vr, vc] w (KidAns xs zs cs w) := by
  have cK := kidImpl vC xs B w hx hB hlen
  obtain ⟨bK, hbK⟩ : ∃ b, kidOk xs = b := ⟨_, rfl⟩
  rw [hbK] at cK
  cases bK with
  | false =>
    have HF : Hid ((kidOk xs && regsOk zs && cellsOk cs) = false) := by show _ = _; rw [hbK]; rfl
    go_enter Try.func12, Try.ntmps12
    go_wp2_with (go_at_call 53; refine cK.mono ?_; rintro e w1 ⟨rfl, b1⟩)
    go_ret3
    exact kid_bad HF.out b1
  | true =>
    obtain ⟨bR, hbR⟩ : ∃ b, regsOk zs = b := ⟨_, rfl⟩
    obtain ⟨bC, hbC⟩ : ∃ b, cellsOk cs = b := ⟨_, rfl⟩
    have cR : ∀ w1, Below w.heap.size w w1 → Calls Try.prog 54 #[vr] w1 fun e w' => e = .returned (.bool bR) ∧ w1 = w' := fun w1 b1 => by
      have := regsImpl vr zs B w1 (hr.on b1 hB)
      rw [hbR] at this; exact this
    have cV : ∀ w1, Below w.heap.size w w1 → Calls Try.prog 55 #[vc] w1 fun e w' => e = .returned (.bool bC) ∧ w1 = w' := fun w1 b1 => by
      have := Ths.implCells vc cs B w1 (hc.on b1 hB)
      rw [hbC] at this; exact this
    cases bR with
    | false =>
      have HF : Hid ((kidOk xs && regsOk zs && cellsOk cs) = false) := by show _ = _; rw [hbK, hbR]; rfl
      go_enter Try.func12, Try.ntmps12
      go_wp2_with (first | (go_at_call 53; refine cK.mono ?_; rintro e w1 ⟨rfl, b1⟩) | (go_at_call 54; refine (cR _ b1).mono ?_; rintro e w2 ⟨rfl, rfl⟩))
      go_ret3
      exact kid_bad HF.out b1
    | true =>
      cases bC with
      | false =>
        have HF : Hid ((kidOk xs && regsOk zs && cellsOk cs) = false) := by show _ = _; rw [hbK, hbR, hbC]; rfl
        go_enter Try.func12, Try.ntmps12
        go_wp2_with (first | (go_at_call 53; refine cK.mono ?_; rintro e w1 ⟨rfl, b1⟩) | (go_at_call 54; refine (cR _ b1).mono ?_; rintro e w2 ⟨rfl, rfl⟩) | (go_at_call 55; refine (cV _ b1).mono ?_; rintro e w2 ⟨rfl, rfl⟩))
        go_ret3
        exact kid_bad HF.out b1
      | true =>
        have HF : Hid ((kidOk xs && regsOk zs && cellsOk cs) = true) := by show _ = _; rw [hbK, hbR, hbC]; rfl
        have HK : Hid (kidOk xs = true) := hbK
        have HR : Hid (regsOk zs = true) := hbR
        have HC : Hid (cellsOk cs = true) := hbC
        have lz := (regsOk_out hbR).1
        have lc := (cellsOk_out hbC).1
        obtain ⟨H, hH⟩ : ∃ H, stockL zs cs [] 0 = H := ⟨_, rfl⟩
        have HH : Hid (H = nums zs ⟨cs, zeros 8, 0⟩) := by
          show H = _
          rw [← hH, stock_nums (.inl lz) lc (.inr rfl), if_neg (fun h => by rw [h] at lz; simp at lz), if_pos rfl]
        have hHl : H.length = 21 := by rw [HH.out]; exact nums_length lz lc rfl
        obtain ⟨n0, n1, n2, n3, n4, n5, n6, n7, n8, n9, n10, n11, n12, n13, n14, n15, n16, n17, n18, n19, n20, rfl⟩ : ∃ n0 n1 n2 n3 n4 n5 n6 n7 n8 n9 n10 n11 n12 n13 n14 n15 n16 n17 n18 n19 n20, H = [n0, n1, n2, n3, n4, n5, n6, n7, n8, n9, n10, n11, n12, n13, n14, n15, n16, n17, n18, n19, n20] := by
          match H, hHl with
          | [n0, n1, n2, n3, n4, n5, n6, n7, n8, n9, n10, n11, n12, n13, n14, n15, n16, n17, n18, n19, n20], _ => exact ⟨_, _, _, _, _, _, _, _, _, _, _, _, _, _, _, _, _, _, _, _, _, rfl⟩
        obtain ⟨aC, cC, rfl⟩ := hx.form
        obtain ⟨ar, cr, rfl⟩ := hr.form
        obtain ⟨ac, cc, rfl⟩ := hc.form
        have cS : ∀ w1, Below w.heap.size w w1 → Calls Try.prog 56 #[.slice ar zs.length cr, .agg #[.slice ac cs.length cc, .slice none 0 0, .int .i64 0]] w1 fun e w' => e = .returned (.agg #[.int .i64 n0, .int .i64 n1, .int .i64 n2, .int .i64 n3, .int .i64 n4, .int .i64 n5, .int .i64 n6, .int .i64 n7, .int .i64 n8, .int .i64 n9, .int .i64 n10, .int .i64 n11, .int .i64 n12, .int .i64 n13, .int .i64 n14, .int .i64 n15, .int .i64 n16, .int .i64 n17, .int .i64 n18, .int .i64 n19, .int .i64 n20]) ∧ Below w1.heap.size w1 w' := fun w1 b1 => by
          have := stockC (.slice ar zs.length cr) (.slice ac cs.length cc) (.slice none 0 0) zs cs [] 0 B w1 (hr.on b1 hB) (hc.on b1 hB) ⟨none, 0, rfl, Nat.le_refl _, by simp, fun h => absurd rfl h⟩ (Nat.le_trans hB b1.size) (by omega) (by omega) (by simp)
          rw [hH] at this; exact this
        have LZ : Hid (zs.length = 4) := lz
        have LC : Hid (cs.length = 8) := lc
        clear hH hHl hbK hbR hbC lz lc
        go_enter Try.func12, Try.ntmps12
        go_wp2_with (first | (go_at_call 53; refine cK.mono ?_; rintro e w1 ⟨rfl, b1⟩) | (go_at_call 54; refine (cR _ b1).mono ?_; rintro e w2 ⟨rfl, rfl⟩) | (go_at_call 55; refine (cV _ b1).mono ?_; rintro e w2 ⟨rfl, rfl⟩))
        refine (cS _ b1).mono ?_
        rintro e w3 ⟨rfl, b3⟩
        have b13 := b1.trans (b3.mono b1.size)
        obtain ⟨p, hp⟩ : ∃ p, w3.heap.size = p := ⟨_, rfl⟩
        have hwp : w.heap.size ≤ p := by have := b13.size; omega
        have st4 := run_storeAt_new (P := Try.prog) w3 93 #[.slice none 0 0, .slice none 0 0, .slice none 0 0, .int .i64 0, .int .i64 0, .int .i64 0, .int .i64 0, .int .i64 0, .int .i64 0, .int .i64 0, .int .i64 0, .int .i64 0, .int .i64 0, .int .i64 0, .int .i64 0, .int .i64 0, .int .i64 0, .int .i64 0, .int .i64 0, .int .i64 0, .int .i64 0, .int .i64 0, .int .i64 0, .int .i64 0] #[.slice aC xs.length cC, .slice none 0 0, .slice none 0 0, .int .i64 n0, .int .i64 n1, .int .i64 n2, .int .i64 n3, .int .i64 n4, .int .i64 n5, .int .i64 n6, .int .i64 n7, .int .i64 n8, .int .i64 n9, .int .i64 n10, .int .i64 n11, .int .i64 n12, .int .i64 n13, .int .i64 n14, .int .i64 n15, .int .i64 n16, .int .i64 n17, .int .i64 n18, .int .i64 n19, .int .i64 n20] infoDoing rfl (by simp; refine ⟨rfl, rfl, rfl, rfl, rfl, rfl, rfl, rfl, rfl, rfl, rfl, rfl, rfl, rfl, rfl, rfl, rfl, rfl, rfl, rfl, rfl, rfl, rfl⟩)
        rw [hp] at st4
        have X5 := Blk.new w3 #[.slice aC xs.length cC, .slice none 0 0, .slice none 0 0, .int .i64 n0, .int .i64 n1, .int .i64 n2, .int .i64 n3, .int .i64 n4, .int .i64 n5, .int .i64 n6, .int .i64 n7, .int .i64 n8, .int .i64 n9, .int .i64 n10, .int .i64 n11, .int .i64 n12, .int .i64 n13, .int .i64 n14, .int .i64 n15, .int .i64 n16, .int .i64 n17, .int .i64 n18, .int .i64 n19, .int .i64 n20] 93
        have b5 := alloc_below w3 (.cells #[.slice aC xs.length cC, .slice none 0 0, .slice none 0 0, .int .i64 n0, .int .i64 n1, .int .i64 n2, .int .i64 n3, .int .i64 n4, .int .i64 n5, .int .i64 n6, .int .i64 n7, .int .i64 n8, .int .i64 n9, .int .i64 n10, .int .i64 n11, .int .i64 n12, .int .i64 n13, .int .i64 n14, .int .i64 n15, .int .i64 n16, .int .i64 n17, .int .i64 n18, .int .i64 n19, .int .i64 n20] 93)
        obtain ⟨w4, hw4⟩ : ∃ W, w3.alloc (.cells #[.slice none 0 0, .slice none 0 0, .slice none 0 0, .int .i64 0, .int .i64 0, .int .i64 0, .int .i64 0, .int .i64 0, .int .i64 0, .int .i64 0, .int .i64 0, .int .i64 0, .int .i64 0, .int .i64 0, .int .i64 0, .int .i64 0, .int .i64 0, .int .i64 0, .int .i64 0, .int .i64 0, .int .i64 0, .int .i64 0, .int .i64 0, .int .i64 0] 93) = W := ⟨_, rfl⟩
        rw [hw4] at st4
        obtain ⟨w5, hw5⟩ : ∃ W, w3.alloc (.cells #[.slice aC xs.length cC, .slice none 0 0, .slice none 0 0, .int .i64 n0, .int .i64 n1, .int .i64 n2, .int .i64 n3, .int .i64 n4, .int .i64 n5, .int .i64 n6, .int .i64 n7, .int .i64 n8, .int .i64 n9, .int .i64 n10, .int .i64 n11, .int .i64 n12, .int .i64 n13, .int .i64 n14, .int .i64 n15, .int .i64 n16, .int .i64 n17, .int .i64 n18, .int .i64 n19, .int .i64 n20] 93) = W := ⟨_, rfl⟩
        rw [hw5] at st4 X5 b5
        rw [hp] at X5 b5
        clear hw5
        have D5 : Dn w5 p (.slice aC xs.length cC) (.slice none 0 0) (.slice none 0 0) [n0, n1, n2, n3, n4, n5, n6, n7, n8, n9, n10, n11, n12, n13, n14, n15, n16, n17, n18, n19, n20] := X5
        rw [HH.out] at D5
        have b15 := b13.trans (b5.mono hwp)
        have Dc5 : Dc B w5 p (.slice aC xs.length cC) (.slice none 0 0) (.slice none 0 0) xs zs ⟨cs, zeros 8, 0⟩ := { d := D5, c := hx.on b15 hB, hB := by omega }
        obtain ⟨kc, kf, kd⟩ := kid_dry HK.out
        have cO := outcomeOf B p (.slice aC xs.length cC) (.slice none 0 0) (.slice none 0 0) xs noF (fun _ => True) (fun _ _ _ _ => trivial) kc (fun r t a b => ⟨a, b⟩) (noForkDoes kf) zs ⟨cs, zeros 8, 0⟩ HR.out (zeros_ok HC.out) w5 Dc5 trivial
        clear cK cR cV cS X5
        go_wp2_with (first
          | (refine wpList_st rfl 93 (.tmp 9) (.tmp 30) rfl (.pointer (some ⟨p, 0, none⟩)) _ ?b3 ?b5 st4 ?b4; (case b3 => rfl); (case b5 => rfl))
          | (go_at_call 57; refine cO.mono ?_; rintro e w6 ⟨q, rfl, hE, ho, hqr, hqt, d6, o6⟩))
        obtain ⟨m1, m2, m3⟩ := ok_len hqr hqt
        have b16 : Below w.heap.size w w6 := b15.trans (o6.below (Nat.le_trans b15.size (Nat.le_refl _)) hwp)
        have cA := Ints.cloneC (.slice (some ⟨p, 3, none⟩) 4 4) q.r w6.drew.heap.size w6.drew (d6.d.drew.seeRegs m1) (Nat.le_refl _) (by omega)
        have cB : ∀ w7, Below w6.drew.heap.size w6.drew w7 → Calls Try.prog 58 #[.slice (some ⟨p, 7, none⟩) 8 8] w7 fun e w' => ∃ v', e = .returned v' ∧ Ints.Owns w7.heap.size w' v' q.t.c ∧ Below w7.heap.size w7 w' := fun w7 b7 =>
          Ints.cloneC (.slice (some ⟨p, 7, none⟩) 8 8) q.t.c w7.heap.size w7 ((d6.d.drew.on b7 d6.d.lt).seeCells m1 m2) (Nat.le_refl _) (by omega)
        have HA : Hid (KidTold xs zs cs q.out q.r q.t.c) := .inl ⟨HF.out, ⟨q, hE, rfl, rfl, rfl, hqt⟩, ho, hqr⟩
        obtain ⟨qo, qr, qt⟩ := q
        simp only at cA cB HA ho
        clear hE ho cO D5 Dc5 st4
        go_region_with (first
          | (go_at_call_of 58 (Value.slice (some ⟨p, 3, none⟩) 4 4); refine cA.mono ?_; rintro e w7 ⟨v7, rfl, O7, b7⟩)
          | (go_at_call_of 58 (Value.slice (some ⟨p, 7, none⟩) 8 8); refine (cB _ b7).mono ?_; rintro e w8 ⟨v8, rfl, O8, b8⟩))
        all_goals
          go_wp2
          go_ret3
          have z6 : w.heap.size ≤ w6.drew.heap.size := b16.size
          have z7 := b7.size
          exact ⟨qo, qr, qt.c, v7, v8, rfl, HA.out, (O7.on b8 (Nat.le_refl _)).mono z6, O8.mono (Nat.le_trans z6 z7), dj_new (B' := 0) O7 O8, (b16.drew.trans (b7.mono z6)).trans (b8.mono (Nat.le_trans z6 z7))⟩
end Ops
end Go.Proofs.Ytppkohkcffnghaa
