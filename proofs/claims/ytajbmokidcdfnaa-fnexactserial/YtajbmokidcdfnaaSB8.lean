/- Several texts of one proof, in build order: KidImpl, OrdImpl, TurnImpl, ForkImpl, RightOrd, CopyTh, ThingsImpl, ProgImpl, SerialI, ForkOkL. -/
import Derived.Deep.WholeRow
import Derived.Deep.RegionHeld3
import Derived.Test.YtajbmokidcdfnaaSB1
import Derived.Test.YtajbmokidcdfnaaSB2
import Derived.Test.YtajbmokidcdfnaaSB3
import Derived.Test.YtajbmokidcdfnaaSB4
import Derived.Test.YtajbmokidcdfnaaSB5
import Derived.Test.YtajbmokidcdfnaaSB6
import Derived.Test.YtajbmokidcdfnaaSB7
/- What the program's SerialKid answers. -/
set_option linter.unusedVariables false
set_option linter.unusedSimpArgs false
namespace Go.Proofs.Ytajbmokidcdfnaa
open Go.RowKit
namespace Ops
open Bas Flat

def zeros (n : Nat) : List Int := List.replicate n 0
theorem over_map {r l : List Int} {t : Th} (hr : r.length = 4) (hc : t.c.length = 8) (h : l.length = t.m.length) : over (nums r t) 12 l = nums r { t with m := l } := by
  have := over_mid (r ++ t.c) t.m [t.n] l h
  have e : (r ++ t.c).length = 12 := by simp; omega
  rw [e, List.append_assoc, List.append_assoc] at this
  exact this
theorem stock_nums {zs cs ms : List Int} {n : Int} (hz : zs.length = 4 ∨ zs = []) (hc : cs.length = 8) (hm : ms.length = 8 ∨ ms = []) :
    stockL zs cs ms n = nums (if zs = [] then zeros 4 else zs) ⟨cs, if ms = [] then zeros 8 else ms, n⟩ := by
  have e0 : noughts n = nums (zeros 4) ⟨zeros 8, zeros 8, n⟩ := rfl
  have e1 : over (noughts n) 0 zs = nums (if zs = [] then zeros 4 else zs) ⟨zeros 8, zeros 8, n⟩ := by
    rcases hz with h | rfl
    · have hne : zs ≠ [] := fun h' => by rw [h'] at h; simp at h
      rw [if_neg hne, e0, over_regs (by rw [h]; rfl)]
    · rw [if_pos rfl, e0]; rfl
  have hl : (if zs = [] then zeros 4 else zs).length = 4 := by
    rcases hz with h | rfl
    · have hne : zs ≠ [] := fun h' => by rw [h'] at h; simp at h
      rw [if_neg hne]; exact h
    · rfl
  unfold stockL
  rw [e1]
  obtain ⟨r, hr⟩ : ∃ r, (if zs = [] then zeros 4 else zs) = r := ⟨_, rfl⟩
  rw [hr] at hl ⊢
  rw [over_cells hl (by rw [hc]; rfl)]
  rcases hm with h | rfl
  · have hne : ms ≠ [] := fun h' => by rw [h'] at h; simp at h
    rw [if_neg hne, over_map hl hc (by rw [h]; rfl)]
  · rw [if_pos rfl]; rfl

/-- what is told of a kid -/
def KidTold (xs : List O4) (zs cs : List Int) (out : Int) (r c : List Int) : Prop :=
  ((kidOk xs && regsOk zs && cellsOk cs) = true ∧ (∃ q, Ends xs ⟨cs, zeros 8, 0⟩ noF ⟨0, zs, ⟨cs, zeros 8, 0⟩, []⟩ q ∧ out = q.out ∧ r = q.r ∧ c = q.t.c ∧ thOk q.t = true) ∧ (out = 1 ∨ out = 2) ∧ regsOk r = true) ∨
  ((kidOk xs && regsOk zs && cellsOk cs) = false ∧ out = 0 ∧ r = [] ∧ c = [])
theorem KidTold.unique {xs : List O4} {zs cs r r' c c' : List Int} {out out' : Int} (h : KidTold xs zs cs out r c) (h' : KidTold xs zs cs out' r' c') : out = out' ∧ r = r' ∧ c = c' := by
  rcases h with ⟨h1, ⟨q, h2, rfl, rfl, rfl, -⟩, -⟩ | ⟨h1, rfl, rfl, rfl⟩ <;> rcases h' with ⟨h1', ⟨q', h2', rfl, rfl, rfl, -⟩, -⟩ | ⟨h1', rfl, rfl, rfl⟩
  · rw [h2.unique h2']; exact ⟨rfl, rfl, rfl⟩
  · rw [h1] at h1'; cases h1'
  · rw [h1] at h1'; cases h1'
  · exact ⟨rfl, rfl, rfl⟩
theorem zeros_ok {cs : List Int} (h : cellsOk cs = true) : thOk ⟨cs, zeros 8, 0⟩ = true := th_mk h (show mapOk (zeros 8) = true by decide) (show (0 : Int) ≤ 0 ∧ (0 : Int) ≤ 65535 by omega)
/-- what the call answers -/
def KidAns (xs : List O4) (zs cs : List Int) (w : World) (e : Ending) (w' : World) : Prop :=
  ∃ (out : Int) (r c : List Int) (vr vc : Value), e = .returned (.tuple #[.int .i64 out, vr, vc]) ∧ KidTold xs zs cs out r c ∧ Ints.Owns w.heap.size w' vr r ∧ Ints.Owns w.heap.size w' vc c ∧ Dj vr vc ∧ Below w.heap.size w w'
theorem kid_bad {xs : List O4} {zs cs : List Int} {w w' : World} (h : (kidOk xs && regsOk zs && cellsOk cs) = false) (hb : Below w.heap.size w w') : KidAns xs zs cs w (.returned (.tuple #[.int .i64 0, .slice none 0 0, .slice none 0 0])) w' :=
  ⟨0, [], [], _, _, rfl, .inr ⟨h, rfl, rfl, rfl⟩, ⟨by simp [Ints.iv], .inl ⟨rfl, rfl⟩⟩, ⟨by simp [Ints.iv], .inl ⟨rfl, rfl⟩⟩, (fun k h => by cases h), hb⟩
theorem infoDoing : (Try.prog.info? 116).map (·.size) = some 24 := by kernel_rfl

set_option maxRecDepth 100000 in
set_option maxHeartbeats 3200000 in
theorem kidImplC (vC vr vc : Value) (xs : List O4) (zs cs : List Int) (B : Nat) (w : World) (hx : Sees4 B w vC xs) (hr : Ints.Sees B w vr zs) (hc : Ints.Sees B w vc cs) (hB : B ≤ w.heap.size) (hlen : xs.length ≤ 1048576) :
    Calls Try.prog 181 #[vC, vr, vc] w (KidAns xs zs cs w) := by
  have cK := kidImpl vC xs B w hx hB hlen
  obtain ⟨bK, hbK⟩ : ∃ b, kidOk xs = b := ⟨_, rfl⟩
  rw [hbK] at cK
  cases bK with
  | false =>
    have HF : Hid ((kidOk xs && regsOk zs && cellsOk cs) = false) := by show _ = _; rw [hbK]; rfl
    go_enter Try.func181, Try.ntmps181
    go_wp2_with (go_at_call 117; refine cK.mono ?_; rintro e w1 ⟨rfl, b1⟩)
    go_ret3
    exact kid_bad HF.out b1
  | true =>
    obtain ⟨bR, hbR⟩ : ∃ b, regsOk zs = b := ⟨_, rfl⟩
    obtain ⟨bC, hbC⟩ : ∃ b, cellsOk cs = b := ⟨_, rfl⟩
    have cR : ∀ w1, Below w.heap.size w w1 → Calls Try.prog 185 #[vr] w1 fun e w' => e = .returned (.bool bR) ∧ w1 = w' := fun w1 b1 => by
      have := regsImpl vr zs B w1 (hr.on b1 hB)
      rw [hbR] at this; exact this
    have cV : ∀ w1, Below w.heap.size w w1 → Calls Try.prog 114 #[vc] w1 fun e w' => e = .returned (.bool bC) ∧ w1 = w' := fun w1 b1 => by
      have := Ths.implCells vc cs B w1 (hc.on b1 hB)
      rw [hbC] at this; exact this
    cases bR with
    | false =>
      have HF : Hid ((kidOk xs && regsOk zs && cellsOk cs) = false) := by show _ = _; rw [hbK, hbR]; rfl
      go_enter Try.func181, Try.ntmps181
      go_wp2_with (first | (go_at_call 117; refine cK.mono ?_; rintro e w1 ⟨rfl, b1⟩) | (go_at_call 185; refine (cR _ b1).mono ?_; rintro e w2 ⟨rfl, rfl⟩))
      go_ret3
      exact kid_bad HF.out b1
    | true =>
      cases bC with
      | false =>
        have HF : Hid ((kidOk xs && regsOk zs && cellsOk cs) = false) := by show _ = _; rw [hbK, hbR, hbC]; rfl
        go_enter Try.func181, Try.ntmps181
        go_wp2_with (first | (go_at_call 117; refine cK.mono ?_; rintro e w1 ⟨rfl, b1⟩) | (go_at_call 185; refine (cR _ b1).mono ?_; rintro e w2 ⟨rfl, rfl⟩) | (go_at_call 114; refine (cV _ b1).mono ?_; rintro e w2 ⟨rfl, rfl⟩))
        go_ret3
        exact kid_bad HF.out b1
      | true =>
        have HF : Hid ((kidOk xs && regsOk zs && cellsOk cs) = true) := by show _ = _; rw [hbK, hbR, hbC]; rfl
        have HK : Hid (kidOk xs = true) := hbK
        have HR : Hid (regsOk zs = true) := hbR
        have HC : Hid (cellsOk cs = true) := hbC
        have lz := (regsOk_out hbR).1
        have lc := (cellsOk_out hbC).1
        obtain ⟨H, hH⟩ : ∃ H, stockL zs cs [] 0 = H := ⟨_, rfl⟩
        have HH : Hid (H = nums zs ⟨cs, zeros 8, 0⟩) := by
          show H = _
          rw [← hH, stock_nums (.inl lz) lc (.inr rfl), if_neg (fun h => by rw [h] at lz; simp at lz), if_pos rfl]
        have hHl : H.length = 21 := by rw [HH.out]; exact nums_length lz lc rfl
        obtain ⟨n0, n1, n2, n3, n4, n5, n6, n7, n8, n9, n10, n11, n12, n13, n14, n15, n16, n17, n18, n19, n20, rfl⟩ : ∃ n0 n1 n2 n3 n4 n5 n6 n7 n8 n9 n10 n11 n12 n13 n14 n15 n16 n17 n18 n19 n20, H = [n0, n1, n2, n3, n4, n5, n6, n7, n8, n9, n10, n11, n12, n13, n14, n15, n16, n17, n18, n19, n20] := by
          match H, hHl with
          | [n0, n1, n2, n3, n4, n5, n6, n7, n8, n9, n10, n11, n12, n13, n14, n15, n16, n17, n18, n19, n20], _ => exact ⟨_, _, _, _, _, _, _, _, _, _, _, _, _, _, _, _, _, _, _, _, _, rfl⟩
        obtain ⟨aC, cC, rfl⟩ := hx.form
        obtain ⟨ar, cr, rfl⟩ := hr.form
        obtain ⟨ac, cc, rfl⟩ := hc.form
        have cS : ∀ w1, Below w.heap.size w w1 → Calls Try.prog 85 #[.slice ar zs.length cr, .agg #[.slice ac cs.length cc, .slice none 0 0, .int .i64 0]] w1 fun e w' => e = .returned (.agg #[.int .i64 n0, .int .i64 n1, .int .i64 n2, .int .i64 n3, .int .i64 n4, .int .i64 n5, .int .i64 n6, .int .i64 n7, .int .i64 n8, .int .i64 n9, .int .i64 n10, .int .i64 n11, .int .i64 n12, .int .i64 n13, .int .i64 n14, .int .i64 n15, .int .i64 n16, .int .i64 n17, .int .i64 n18, .int .i64 n19, .int .i64 n20]) ∧ Below w1.heap.size w1 w' := fun w1 b1 => by
          have := stockC (.slice ar zs.length cr) (.slice ac cs.length cc) (.slice none 0 0) zs cs [] 0 B w1 (hr.on b1 hB) (hc.on b1 hB) ⟨none, 0, rfl, Nat.le_refl _, by simp, fun h => absurd rfl h⟩ (Nat.le_trans hB b1.size) (by omega) (by omega) (by simp)
          rw [hH] at this; exact this
        have LZ : Hid (zs.length = 4) := lz
        have LC : Hid (cs.length = 8) := lc
        clear hH hHl hbK hbR hbC lz lc
        go_enter Try.func181, Try.ntmps181
        go_wp2_with (first | (go_at_call 117; refine cK.mono ?_; rintro e w1 ⟨rfl, b1⟩) | (go_at_call 185; refine (cR _ b1).mono ?_; rintro e w2 ⟨rfl, rfl⟩) | (go_at_call 114; refine (cV _ b1).mono ?_; rintro e w2 ⟨rfl, rfl⟩))
        refine (cS _ b1).mono ?_
        rintro e w3 ⟨rfl, b3⟩
        have b13 := b1.trans (b3.mono b1.size)
        obtain ⟨p, hp⟩ : ∃ p, w3.heap.size = p := ⟨_, rfl⟩
        have hwp : w.heap.size ≤ p := by have := b13.size; omega
        have st4 := run_storeAt_new (P := Try.prog) w3 116 #[.slice none 0 0, .slice none 0 0, .slice none 0 0, .int .i64 0, .int .i64 0, .int .i64 0, .int .i64 0, .int .i64 0, .int .i64 0, .int .i64 0, .int .i64 0, .int .i64 0, .int .i64 0, .int .i64 0, .int .i64 0, .int .i64 0, .int .i64 0, .int .i64 0, .int .i64 0, .int .i64 0, .int .i64 0, .int .i64 0, .int .i64 0, .int .i64 0] #[.slice aC xs.length cC, .slice none 0 0, .slice none 0 0, .int .i64 n0, .int .i64 n1, .int .i64 n2, .int .i64 n3, .int .i64 n4, .int .i64 n5, .int .i64 n6, .int .i64 n7, .int .i64 n8, .int .i64 n9, .int .i64 n10, .int .i64 n11, .int .i64 n12, .int .i64 n13, .int .i64 n14, .int .i64 n15, .int .i64 n16, .int .i64 n17, .int .i64 n18, .int .i64 n19, .int .i64 n20] infoDoing rfl (by simp; refine ⟨rfl, rfl, rfl, rfl, rfl, rfl, rfl, rfl, rfl, rfl, rfl, rfl, rfl, rfl, rfl, rfl, rfl, rfl, rfl, rfl, rfl, rfl, rfl⟩)
        rw [hp] at st4
        have X5 := Blk.new w3 #[.slice aC xs.length cC, .slice none 0 0, .slice none 0 0, .int .i64 n0, .int .i64 n1, .int .i64 n2, .int .i64 n3, .int .i64 n4, .int .i64 n5, .int .i64 n6, .int .i64 n7, .int .i64 n8, .int .i64 n9, .int .i64 n10, .int .i64 n11, .int .i64 n12, .int .i64 n13, .int .i64 n14, .int .i64 n15, .int .i64 n16, .int .i64 n17, .int .i64 n18, .int .i64 n19, .int .i64 n20] 116
        have b5 := alloc_below w3 (.cells #[.slice aC xs.length cC, .slice none 0 0, .slice none 0 0, .int .i64 n0, .int .i64 n1, .int .i64 n2, .int .i64 n3, .int .i64 n4, .int .i64 n5, .int .i64 n6, .int .i64 n7, .int .i64 n8, .int .i64 n9, .int .i64 n10, .int .i64 n11, .int .i64 n12, .int .i64 n13, .int .i64 n14, .int .i64 n15, .int .i64 n16, .int .i64 n17, .int .i64 n18, .int .i64 n19, .int .i64 n20] 116)
        obtain ⟨w4, hw4⟩ : ∃ W, w3.alloc (.cells #[.slice none 0 0, .slice none 0 0, .slice none 0 0, .int .i64 0, .int .i64 0, .int .i64 0, .int .i64 0, .int .i64 0, .int .i64 0, .int .i64 0, .int .i64 0, .int .i64 0, .int .i64 0, .int .i64 0, .int .i64 0, .int .i64 0, .int .i64 0, .int .i64 0, .int .i64 0, .int .i64 0, .int .i64 0, .int .i64 0, .int .i64 0, .int .i64 0] 116) = W := ⟨_, rfl⟩
        rw [hw4] at st4
        obtain ⟨w5, hw5⟩ : ∃ W, w3.alloc (.cells #[.slice aC xs.length cC, .slice none 0 0, .slice none 0 0, .int .i64 n0, .int .i64 n1, .int .i64 n2, .int .i64 n3, .int .i64 n4, .int .i64 n5, .int .i64 n6, .int .i64 n7, .int .i64 n8, .int .i64 n9, .int .i64 n10, .int .i64 n11, .int .i64 n12, .int .i64 n13, .int .i64 n14, .int .i64 n15, .int .i64 n16, .int .i64 n17, .int .i64 n18, .int .i64 n19, .int .i64 n20] 116) = W := ⟨_, rfl⟩
        rw [hw5] at st4 X5 b5
        rw [hp] at X5 b5
        clear hw5
        have D5 : Dn w5 p (.slice aC xs.length cC) (.slice none 0 0) (.slice none 0 0) [n0, n1, n2, n3, n4, n5, n6, n7, n8, n9, n10, n11, n12, n13, n14, n15, n16, n17, n18, n19, n20] := X5
        rw [HH.out] at D5
        have b15 := b13.trans (b5.mono hwp)
        have Dc5 : Dc B w5 p (.slice aC xs.length cC) (.slice none 0 0) (.slice none 0 0) xs zs ⟨cs, zeros 8, 0⟩ := { d := D5, c := hx.on b15 hB, hB := by omega }
        obtain ⟨kc, kf, kd⟩ := kid_dry HK.out
        have cO := outcomeOf B p (.slice aC xs.length cC) (.slice none 0 0) (.slice none 0 0) xs noF (fun _ => True) (fun _ _ _ _ => trivial) kc (fun r t a b => ⟨a, b⟩) (noForkDoes kf) zs ⟨cs, zeros 8, 0⟩ HR.out (zeros_ok HC.out) w5 Dc5 trivial
        clear cK cR cV cS X5
        go_wp2_with (first
          | (refine wpList_st rfl 116 (.tmp 9) (.tmp 30) rfl (.pointer (some ⟨p, 0, none⟩)) _ ?b3 ?b5 st4 ?b4; (case b3 => rfl); (case b5 => rfl))
          | (go_at_call 86; refine cO.mono ?_; rintro e w6 ⟨q, rfl, hE, ho, hqr, hqt, d6, o6⟩))
        obtain ⟨m1, m2, m3⟩ := ok_len hqr hqt
        have b16 : Below w.heap.size w w6 := b15.trans (o6.below (Nat.le_trans b15.size (Nat.le_refl _)) hwp)
        have cA := Ints.cloneC (.slice (some ⟨p, 3, none⟩) 4 4) q.r w6.drew.heap.size w6.drew (d6.d.drew.seeRegs m1) (Nat.le_refl _) (by omega)
        have cB : ∀ w7, Below w6.drew.heap.size w6.drew w7 → Calls Try.prog 87 #[.slice (some ⟨p, 7, none⟩) 8 8] w7 fun e w' => ∃ v', e = .returned v' ∧ Ints.Owns w7.heap.size w' v' q.t.c ∧ Below w7.heap.size w7 w' := fun w7 b7 =>
          Ints.cloneC (.slice (some ⟨p, 7, none⟩) 8 8) q.t.c w7.heap.size w7 ((d6.d.drew.on b7 d6.d.lt).seeCells m1 m2) (Nat.le_refl _) (by omega)
        have HA : Hid (KidTold xs zs cs q.out q.r q.t.c) := .inl ⟨HF.out, ⟨q, hE, rfl, rfl, rfl, hqt⟩, ho, hqr⟩
        obtain ⟨qo, qr, qt⟩ := q
        simp only at cA cB HA ho
        clear hE ho cO D5 Dc5 st4
        go_region_with (first
          | (go_at_call_of 87 (Value.slice (some ⟨p, 3, none⟩) 4 4); refine cA.mono ?_; rintro e w7 ⟨v7, rfl, O7, b7⟩)
          | (go_at_call_of 87 (Value.slice (some ⟨p, 7, none⟩) 8 8); refine (cB _ b7).mono ?_; rintro e w8 ⟨v8, rfl, O8, b8⟩))
        all_goals
          go_wp2
          go_ret3
          have z6 : w.heap.size ≤ w6.drew.heap.size := b16.size
          have z7 := b7.size
          exact ⟨qo, qr, qt.c, v7, v8, rfl, HA.out, (O7.on b8 (Nat.le_refl _)).mono z6, O8.mono (Nat.le_trans z6 z7), dj_new (B' := 0) O7 O8, (b16.drew.trans (b7.mono z6)).trans (b8.mono (Nat.le_trans z6 z7))⟩
end Ops
end Go.Proofs.Ytajbmokidcdfnaa
/- Orders of kids: slices.Contains; what rightOrder and kidsInTurn answer. -/
set_option linter.unusedVariables false
set_option linter.unusedSimpArgs false
namespace Go.Proofs.Ytajbmokidcdfnaa
open Go.RowKit
namespace Ints
open Bas

theorem ret_r {a b : Int} (h : a = b) : Ending.returned (.int .i64 a) = .returned (.int .i64 b) := by rw [h]
set_option maxRecDepth 100000 in
set_option maxHeartbeats 1600000 in
theorem indexC (v : Value) (zs : List Int) (x : Int) (B : Nat) (w : World) (hv : Sees B w v zs) :
    Calls Try.prog 142 #[v, .int .i64 x] w fun e w' => (∃ r : Int, e = .returned (.int .i64 r) ∧ (0 ≤ r ↔ x ∈ zs)) ∧ w = w' := by
  obtain ⟨a, cap, rfl, h1, h2, h3⟩ := hv
  obtain ⟨n, hn⟩ : ∃ n, zs.length = n := ⟨_, rfl⟩
  have hm : (n : Int) ≤ 9223372036854775807 := by unfold maxLen at h2; omega
  have HN : Hid (zs.length = n) := hn
  rw [hn]
  clear h1 h2
  go_enter Try.func142, Try.ntmps142
  go_wp2
  go_loop [8] (fun i => ∃ k : Nat, k ≤ n ∧ i = .int .i64 k ∧ ∀ j (h : j < zs.length), j < k → ¬ zs[j] = x) (fun i => n - (intOf i).toNat)
  case atStart => exact ⟨0, Nat.zero_le _, rfl, fun j _ h => by omega⟩
  case round =>
    obtain ⟨k, hk, rfl, hall⟩ := hrel
    by_cases hlt : k < n
    · obtain ⟨b, off, rfl, hbB, hc⟩ := h3 (fun h => by simp [h] at hn; omega)
      have a0 := hc k (by omega)
      obtain ⟨y, hy⟩ : ∃ y, zs[k] = y := ⟨_, rfl⟩
      have HA := (show Hid _ from hall)
      have i1 : (k : Int) < n := by omega
      rw [hy] at a0
      by_cases hxy : x = y
      · have HF : Hid (0 ≤ (k : Int) ↔ x ∈ zs) := ⟨fun _ => by rw [hxy, ← hy]; exact List.getElem_mem _, fun _ => by omega⟩
        subst hxy
        clear hc h3 hall hy
        go_wp2
        go_ret
        exact ⟨⟨_, rfl, HF.out⟩, rfl⟩
      · have hne : (x == y) = false := by simpa using hxy
        have HK : Hid (¬ zs[k] = x) := fun h => hxy (by rw [← h, hy])
        clear hc h3 hall hy hxy
        go_wp2
        go_round
        case rel => exact ⟨k + 1, by omega, by go_num, fun j hj hjk => by
          rcases Nat.lt_succ_iff_lt_or_eq.1 hjk with h | h
          · exact HA.out j hj h
          · subst h; exact HK.out⟩
        case measure => simp [intOf]; omega
    · obtain rfl : k = n := by omega
      have HF : Hid (0 ≤ (-1 : Int) ↔ x ∈ zs) := ⟨fun h => by omega, fun hm => by
        obtain ⟨j, hj, hjx⟩ := List.mem_iff_getElem.1 hm
        exact absurd hjx (hall j hj (by omega))⟩
      clear hall
      go_wp2
      go_ret
      exact ⟨⟨_, rfl, HF.out⟩, rfl⟩
set_option maxRecDepth 100000 in
theorem containsC (v : Value) (zs : List Int) (x : Int) (B : Nat) (w : World) (hv : Sees B w v zs) :
    Calls Try.prog 118 #[v, .int .i64 x] w fun e w' => e = .returned (.bool (decide (x ∈ zs))) ∧ w = w' := by
  have cI := indexC v zs x B w hv
  go_enter Try.func118, Try.ntmps118
  go_wp2_with fail
  refine cI.mono ?_
  rintro e w1 ⟨⟨r, rfl, hr⟩, rfl⟩
  have HR := (show Hid _ from hr)
  clear hr
  go_wp2
  go_ret
  exact ⟨congrArg (fun b => Ending.returned (.bool b)) (decide_eq_decide.2 HR.out), rfl⟩
end Ints
end Go.Proofs.Ytajbmokidcdfnaa
/- What kidsInTurn answers. -/
set_option linter.unusedVariables false
set_option linter.unusedSimpArgs false
namespace Go.Proofs.Ytajbmokidcdfnaa
open Go.RowKit
namespace Ops
open Bas

/-- those of the first n that the order does not name -/
def missing (zs : List Int) (n : Nat) : List Int := ((List.range n).map (fun i : Nat => (i : Int))).filter (fun x => !decide (x ∈ zs))
/-- the whole order -/
def fullOrder (zs : List Int) (n : Nat) : List Int := zs ++ missing zs n
theorem missing_succ (zs : List Int) (n : Nat) : missing zs (n + 1) = missing zs n ++ (if (n : Int) ∈ zs then [] else [(n : Int)]) := by
  unfold missing
  rw [List.range_succ, List.map_append, List.filter_append]
  congr 1
  by_cases h : (n : Int) ∈ zs <;> simp [h]
theorem missing_length (zs : List Int) (n : Nat) : (missing zs n).length ≤ n := by
  unfold missing
  have := List.length_filter_le (fun x => !decide (x ∈ zs)) ((List.range n).map (fun i : Nat => (i : Int)))
  simp at this
  simpa using this
theorem seesNum' (W : World) (x : Int) : Ints.Sees (W.heap.size + 1) (W.alloc (.cells #[.int .i64 x] 3)) (.slice (some ⟨W.heap.size, 0, none⟩) 1 1) [x] :=
  ⟨_, 1, rfl, Nat.le_refl _, by unfold maxLen; omega, fun _ => ⟨W.heap.size, 0, rfl, by omega, fun j hj => by
    have hj0 : j = 0 := by simp at hj; exact hj
    subst hj0
    rw [Blk.cell (Blk.new W _ _)]; rfl⟩⟩
set_option maxRecDepth 100000 in
set_option maxHeartbeats 3200000 in
theorem turnC (v : Value) (zs : List Int) (n : Nat) (B : Nat) (w : World) (hv : Ints.Sees B w v zs) (hB : B ≤ w.heap.size) (hlen : zs.length ≤ 1048576) (hn : n ≤ 1000) :
    Calls Try.prog 180 #[v, .int .i64 (n : Int)] w fun e w' => ∃ v', e = .returned v' ∧ Ints.Owns w.heap.size w' v' (fullOrder zs n) ∧ Below w.heap.size w w' := by
  obtain ⟨g, hg⟩ : ∃ g, w.heap.size = g := ⟨_, rfl⟩
  have cC := Ints.cloneC v zs B w hv hB hlen
  rw [hg] at cC hB ⊢
  go_enter Try.func180, Try.ntmps180
  go_wp2_with fail
  refine cC.mono ?_
  rintro e w1 ⟨v1, rfl, O1, b1⟩
  obtain ⟨a1, c1, rfl⟩ := O1.form
  go_wp2
  go_loopw [5, 10] (fun ov nv wr => ∃ (a : Option Addr) (cap q k : Nat), ov = .slice a q cap ∧ (zs ++ missing zs k).length = q ∧ nv = .int .i64 (k : Int) ∧ k ≤ n ∧ Ints.Owns g wr (.slice a q cap) (zs ++ missing zs k) ∧ Below g w wr) (fun _ nv _ => n - (intOf nv).toNat)
  case atStart => exact ⟨a1, c1, zs.length, 0, rfl, by simp [missing], rfl, Nat.zero_le _, by simpa [missing] using O1, b1⟩
  case round =>
    obtain ⟨a, cap, q, k, rfl, hq, rfl, hk, O, hb⟩ := hrel
    clear cC O1 b1
    have hml := missing_length zs k
    by_cases hlt : k < n
    · have i1 : (k : Int) < n := by omega
      have cK := Ints.containsC v zs (k : Int) B wr (hv.on hb (by omega))
      by_cases hm : (k : Int) ∈ zs
      · rw [decide_eq_true hm] at cK
        have e : missing zs (k + 1) = missing zs k := by rw [missing_succ, if_pos hm]; simp
        have HE := (show Hid _ from e)
        clear e hm
        go_wp2_with fail
        refine cK.mono ?_
        rintro e w2 ⟨rfl, rfl⟩
        go_wp2
        go_roundw
        case rel => exact ⟨a, cap, q, k + 1, rfl, by rw [HE.out]; exact hq, by go_num, by omega, by rw [HE.out]; exact O, hb⟩
        case measure => simp [intOf]; omega
      · rw [decide_eq_false hm] at cK
        have e : zs ++ missing zs (k + 1) = (zs ++ missing zs k) ++ [(k : Int)] := by rw [missing_succ, if_neg hm, List.append_assoc]
        have HE := (show Hid _ from e)
        have a2 := alloc_below wr (.cells #[.int .i64 (k : Int)] 3)
        have O2 := O.on a2 (Nat.le_refl _)
        have hsz : g ≤ wr.heap.size := by have := hb.size; omega
        obtain ⟨v3, w3, hr, O3, G3, -⟩ := Ints.appJ (.slice a q cap) _ 23 (zs ++ missing zs k) [(k : Int)] _ g _ O2 (Nat.le_trans hsz a2.size) (seesNum' wr (k : Int)) (by rw [hq]; simp at hq ⊢; omega)
        obtain ⟨a3, c3, rfl⟩ := O3.form
        have hl3 : ((zs ++ missing zs k) ++ [(k : Int)]).length = q + 1 := by rw [List.length_append, hq]; rfl
        rw [hl3] at O3 hr
        have b3 := (hb.trans (a2.mono hsz)).grown G3 (Nat.le_trans hsz a2.size) (fun k hk => (O2.at k hk).1)
        have HQ := (show Hid _ from hq)
        have HL := (show Hid _ from hl3)
        clear e hm hq hl3
        go_wp2_with fail
        refine cK.mono ?_
        rintro e w2 ⟨rfl, rfl⟩
        go_wp2_with (at_builtin; refine wpList_app _ rfl _ _ 23 rfl _ _ _ _ rfl rfl hr ?_)
        clear hr
        go_roundw
        case rel => exact ⟨a3, c3, q + 1, k + 1, rfl, by rw [HE.out]; exact HL.out, by go_num, by omega, by rw [HE.out]; exact O3, b3⟩
        case measure => simp [intOf]; omega
    · obtain rfl : k = n := by omega
      have HQ := (show Hid _ from hq)
      clear hq
      go_wp2
      go_ret
      exact ⟨_, rfl, O, hb⟩
end Ops
end Go.Proofs.Ytajbmokidcdfnaa
/- What the program's fork does. -/
set_option linter.unusedVariables false
set_option linter.unusedSimpArgs false
namespace Go.Proofs.Ytajbmokidcdfnaa
open Go.RowKit
namespace Ops
open Bas Flat

/-- the order names kids alone -/
def named (zs : List Int) (n : Nat) : Prop := ∀ x ∈ zs, 0 ≤ x ∧ x < (n : Int)
theorem full_named {zs : List Int} {n : Nat} (h : named zs n) : named (fullOrder zs n) n := fun x hx => by
  rcases List.mem_append.1 hx with hx | hx
  · exact h x hx
  · have := (List.mem_filter.1 hx).1
    obtain ⟨i, hi, rfl⟩ := List.mem_map.1 this
    have := List.mem_range.1 hi
    omega
/-- what the fork of a doing reads besides -/
def Kq (B : Nat) (vK vO : Value) (kss : List (List O4)) (zs : List Int) (W : World) : Prop := SeesK B W vK kss ∧ Ints.Sees B W vO zs ∧ B ≤ W.heap.size
theorem Kq.stays {B p : Nat} {vK vO : Value} {kss : List (List O4)} {zs : List Int} (hB : B ≤ p) : Stays p (Kq B vK vO kss zs) := fun W W' h ho => by
  have b := ho.below (B := B) h.2.2 hB
  exact ⟨SeesKIn.keep h.1 (fun k hk => b.block k hk), h.2.1.on b (Nat.le_refl _), Nat.le_trans h.2.2 ho.size⟩
theorem kid_yes {xs : List O4} {zs cs : List Int} {out : Int} {r c : List Int} (h : KidTold xs zs cs out r c) (h1 : kidOk xs = true) (h2 : regsOk zs = true) (h3 : cellsOk cs = true) :
    (∃ q, Ends xs ⟨cs, zeros 8, 0⟩ noF ⟨0, zs, ⟨cs, zeros 8, 0⟩, []⟩ q ∧ out = q.out ∧ r = q.r ∧ c = q.t.c ∧ thOk q.t = true) ∧ (out = 1 ∨ out = 2) ∧ regsOk r = true := by
  rcases h with ⟨-, h⟩ | ⟨hf, -⟩
  · exact h
  · rw [h1, h2, h3] at hf; cases hf
theorem wr_take {tl : List Int} {n i : Nat} {x : Int} : wr (tl.take n) (i : Int) x = (tl.set i x).take n := by
  unfold wr
  rw [Int.toNat_natCast, List.take_set]
theorem kidsGo_cons (kss : List (List O4)) (r : List Int) (i : Int) (l res : List Int) (t : Th) : kidsGo kss r (i :: l) res t = kidsGo kss r l (if (run (kss.getD i.toNat []) noF r t).out = 1 then wr res i (rd (run (kss.getD i.toNat []) noF r t).r 0) else res) (run (kss.getD i.toNat []) noF r t).t := rfl

set_option maxRecDepth 100000 in
set_option maxHeartbeats 6400000 in
theorem forkC (B p : Nat) (vC vK vO : Value) (xs : List O4) (kss : List (List O4)) (zs : List Int) (hks : ∀ ks ∈ kss, kidOk ks = true) (hk3 : kss.length ≤ 3) (hz : named zs kss.length) (hzl : zs.length ≤ 1048576) (hB : B ≤ p) :
    ForkDoes B p vC vK vO xs (forkF kss (fullOrder zs kss.length)) (Kq B vK vO kss zs) := by
  intro s hp0 W h11 hs hd hq
  obtain ⟨sK, sO, hBW⟩ := hq
  obtain ⟨l1, l2, l3⟩ := ok_len hs.r hs.t
  obtain ⟨q0, hq0⟩ : ∃ q, W.heap.size = q := ⟨_, rfl⟩
  have hpl := hd.d.lt
  have T1 := Blk.new W #[.int .i64 0, .int .i64 0, .int .i64 0] 210
  have a1 := alloc_below W (.cells #[.int .i64 0, .int .i64 0, .int .i64 0] 210)
  have d1 := hd.on a1 hpl
  have o1 : Only p W _ := Only.of a1
  obtain ⟨W1, hW1⟩ : ∃ W1, W.alloc (.cells #[.int .i64 0, .int .i64 0, .int .i64 0] 210) = W1 := ⟨_, rfl⟩
  rw [hW1] at T1 a1 d1 o1
  rw [hq0] at T1 hpl
  have v1 := d1.d.kids
  have v2 := d1.d.ord
  obtain ⟨n, hn⟩ : ∃ n, kss.length = n := ⟨_, rfl⟩
  obtain ⟨ss, sS, hsl, hss⟩ := sK
  obtain ⟨aK, cK, rfl⟩ := SeesIn.form sS
  rw [hsl, hn] at v1
  have s1 := a1.size
  have cT := turnC vO zs n B W1 (sO.on a1 hBW) (by omega) hzl (by omega)
  have hfn : named (fullOrder zs n) n := by rw [← hn]; exact full_named hz
  obtain ⟨full, hfull⟩ : ∃ l, fullOrder zs n = l := ⟨_, rfl⟩
  rw [hfull] at cT hfn
  have HG : Hid (∀ R T, kidsGo kss s.r full (List.replicate n 0) s.t = (R, T) → forkF kss (fullOrder zs kss.length) s.r s.t = (R ++ s.r.drop n, T)) := fun R T h => by
    show ((kidsGo kss s.r (fullOrder zs kss.length) (List.replicate kss.length 0) s.t).1 ++ s.r.drop kss.length, (kidsGo kss s.r (fullOrder zs kss.length) (List.replicate kss.length 0) s.t).2) = _
    rw [hn, hfull, h]
  obtain ⟨R, T, hRT⟩ : ∃ R T, kidsGo kss s.r full (List.replicate n 0) s.t = (R, T) := ⟨_, _, rfl⟩
  rw [HG.out R T hRT]
  have HR := (show Hid _ from hRT)
  clear hRT HG hfull hz
  go_enter Try.func171, Try.ntmps171
  go_wp2_with fail
  refine cT.mono ?_
  rintro e W2 ⟨vt, rfl, Ot, b2⟩
  have o2 := o1.trans (Only.of b2)
  have d2 := d1.on b2 d1.d.lt
  have T2 := T1.on b2 T1.lt
  obtain ⟨at_, ct, rfl⟩ := Ot.form
  obtain ⟨m, hm⟩ : ∃ m, full.length = m := ⟨_, rfl⟩
  have hmx : m ≤ maxLen := by have := Ot.sees; obtain ⟨a, cap, -, q1, q2, -⟩ := this; omega
  have hmi : (m : Int) ≤ 9223372036854775807 := by unfold maxLen at hmx; omega
  have HM := (show Hid _ from hm)
  rw [hm] at Ot ⊢
  have z1 : q0 < W1.heap.size := T1.lt
  clear cT v1 v2 T1 d1 o1 hW1 hm
  go_wp2
  go_loopw [22] (fun iv wr => ∃ (j : Nat) (tl : List Int) (t : Th), iv = .int .i64 (j : Int) ∧ j ≤ m ∧ tl.length = 3 ∧ thOk t = true ∧ kidsGo kss s.r (full.drop j) (tl.take n) t = (R, T) ∧ Blk wr q0 (Ints.iv tl).toArray 210 ∧ Dc B wr p vC (.slice aK ss.length cK) vO xs s.r t ∧ Only p W wr ∧ Ints.Owns W1.heap.size wr (.slice at_ m ct) full) (fun iv _ => m - (intOf iv).toNat)
  case atStart =>
    refine ⟨0, [0, 0, 0], s.t, rfl, Nat.zero_le _, rfl, hs.t, ?_, T2, d2, o2, Ot⟩
    have e : [(0 : Int), 0, 0].take n = List.replicate n 0 := by
      rcases (show n = 0 ∨ n = 1 ∨ n = 2 ∨ n = 3 by omega) with rfl | rfl | rfl | rfl <;> rfl
    rw [List.drop_zero, e]; exact HR.out
  case round =>
    obtain ⟨j, tl, t, rfl, hj, htl, htk, hgo, hT, hD, hO, hF⟩ := hrel
    clear T2 d2 o2 Ot HR
    have HGO := (show Hid _ from hgo)
    clear hgo
    by_cases hlt : j < m
    · have hjl : j < full.length := by rw [HM.out]; exact hlt
      obtain ⟨x, hx⟩ : ∃ x, full[j] = x := ⟨_, rfl⟩
      have hxn := hfn x (by rw [← hx]; exact List.getElem_mem _)
      obtain ⟨i, hi⟩ := Int.eq_ofNat_of_zero_le hxn.1
      have hin : i < n := by omega
      have HX : Hid (full.drop j = (i : Int) :: full.drop (j + 1)) := by show _ = _; rw [List.drop_eq_getElem_cons hjl, hx, hi]
      -- the kid's number
      obtain ⟨bt, ot, ht0, -, hct⟩ := (show ∃ b off, at_ = some ⟨b, off, none⟩ ∧ b < wr.heap.size ∧ ∀ j (h : j < full.length), wr.cell? ⟨b, off + j, none⟩ = some (.int .i64 full[j]) by
        have := hF.sees
        obtain ⟨a', cap', e, h1, h2, h3⟩ := this
        simp only [Value.slice.injEq] at e
        obtain ⟨rfl, -, rfl⟩ := e
        exact h3 (fun h => by rw [h] at hjl; simp at hjl))
      subst ht0
      have c0 := hct j hjl
      rw [hx, hi] at c0
      -- the kid's code
      have bW : Below B W wr := hO.below hBW hB
      obtain ⟨bk, ok, hk0, -, hck⟩ := (show ∃ b off, aK = some ⟨b, off, none⟩ ∧ b < B ∧ ∀ j (h : j < ss.length), At slEl wr b (off + j * slEl.sz) ss[j] by
        obtain ⟨a', cap', e, h1, h2, h3⟩ := sS
        simp only [Value.slice.injEq] at e
        obtain ⟨rfl, -, rfl⟩ := e
        obtain ⟨b, off, rfl, hb, hc⟩ := h3 (fun h => by rw [h] at hsl; simp at hsl; omega)
        exact ⟨b, off, rfl, hb, fun j hj => (hc j hj).on bW hb⟩)
      subst hk0
      have his : i < ss.length := by omega
      have c1 := at1 (hck i his)
      have hcode : Sees4 B wr ss[i].val kss[i] := Sees.on (B' := B) (hss i his (by omega)) bW (Nat.le_refl _)
      obtain ⟨sv, hsv⟩ : ∃ x, ss[i] = x := ⟨_, rfl⟩
      have hok := hks kss[i] (List.getElem_mem _)
      obtain ⟨kx, hkx⟩ : ∃ x, kss[i] = x := ⟨_, rfl⟩
      have HKX : Hid (kss.getD i [] = kx) := by show _ = _; rw [← hkx]; simp [List.getD, show i < kss.length by omega]
      rw [hsv] at c1 hcode
      rw [hkx] at hcode hok
      have e1 : slEl.sz = 1 := rfl
      rw [e1, Nat.mul_one] at c1
      obtain ⟨m1, m2, m3⟩ := ok_len hs.r htk
      have hBr : B ≤ wr.heap.size := Nat.le_trans hBW hO.size
      have hkl : kx.length ≤ 1048576 := by have := (code_four (kid_dry hok).1).1; omega
      have cS := kidImplC sv.val (.slice (some ⟨p, 3, none⟩) 4 4) (.slice (some ⟨p, 7, none⟩) 8 8) kx s.r t.c wr.drew.heap.size wr.drew (Sees.up (B' := wr.heap.size) hcode hBr) (hD.d.drew.seeRegs m1) (hD.d.drew.seeCells m1 m2) (Nat.le_refl _) hkl
      obtain ⟨sa, sn, sc⟩ := sv
      have eV : S3.val ⟨sa, sn, sc⟩ = .slice sa sn sc := rfl
      rw [eV] at cS
      have i1 : (j : Int) < m := by omega
      have i2 : (i : Int) < n := by omega
      have i3 : (i : Int) < 3 := by omega
      simp only at c1
      clear hct hck hcode hsv hkx hx hi hxn eV
      rw [hsl, hn] at hD ⊢
      go_wp2_with fail
      go_region_with (go_at_call 181; refine cS.mono ?_; rintro e w2 ⟨out, r2, c2, vr2, vc2, rfl, hTd, O1, O2, hDj, b2'⟩)
      have b2 := Only.undrew (p := p) (Only.of b2')
      obtain ⟨⟨qq, hE, hqo, hqr, hqc, hqt⟩, hout, hrk⟩ := kid_yes hTd hok hs.r (th_parts htk).1
      have eT : reT t.m t.n ⟨t.c, zeros 8, 0⟩ = t := rfl
      have hrun := kid_run hok hs.r hE t.m t.n (by rw [eT]; exact htk)
      rw [eT] at hrun
      have hc2 : c2.length = 8 := by rw [hqc]; exact (cellsOk_out (th_parts hqt).1).1
      have hc2k : cellsOk c2 = true := by rw [hqc]; exact (th_parts hqt).1
      have ht2 : thOk { t with c := c2 } = true := th_mk hc2k (th_parts htk).2.1 (th_parts htk).2.2
      have hr4 : r2.length = 4 := (regsOk_out hrk).1
      have D2 := hD.drew.on b2' hD.d.lt
      have T2 := hT.drew.on b2' hT.lt
      have F2 : Ints.Owns W1.heap.size w2 (.slice (some ⟨bt, ot, none⟩) m ct) full := Ints.Owns.on (w := wr.drew) hF b2' (Nat.le_refl _)
      have hN := nums_length m1 m2 m3
      have hcp := copyOver w2 p 7 8 8 vc2 c2 _ O2.sees (D2.d.there (k := 4) (n := c2.length) (by rw [hN]; omega)) (by omega)
      have D3n := D2.d.setMany c2 _ _ 4
      rw [over_cells m1 (by rw [hc2, m2])] at D3n
      have o3 := (Only.refl p w2).setMany 7 (Ints.iv c2)
      have D3 : Dc B (w2.setCells p 7 (Ints.iv c2)) p vC (.slice (some ⟨bk, ok, none⟩) n cK) vO xs s.r { t with c := c2 } := { d := D3n, c := D2.code o3, hB := hB }
      have T3 : Blk (w2.setCells p 7 (Ints.iv c2)) q0 (Ints.iv tl).toArray 210 := (setCells_block (show q0 ≠ p by omega) _ _ _).trans T2
      have hz2 := setCells_size p (Ints.iv c2) 7 w2
      have F3 : Ints.Owns W1.heap.size (w2.setCells p 7 (Ints.iv c2)) (.slice (some ⟨bt, ot, none⟩) m ct) full := F2.keep (fun k hk => setCells_block (by have := F2.at k hk; omega) _ _ _)
      have R3 : Ints.Owns wr.drew.heap.size (w2.setCells p 7 (Ints.iv c2)) vr2 r2 := O1.keep (fun k hk => setCells_block (by have := (O1.at k hk).1; have := hD.d.lt; have e : wr.drew.heap.size = wr.heap.size := rfl; omega) _ _ _)
      have o4 := (hO.trans b2).trans o3
      obtain ⟨w3, hw3⟩ : ∃ W, w2.setCells p 7 (Ints.iv c2) = W := ⟨_, rfl⟩
      rw [hw3] at hcp D3 T3 F3 R3 o4
      have HG2 : Hid (kidsGo kss s.r (full.drop (j + 1)) (if out = 1 then (tl.set i (rd r2 0)).take n else tl.take n) { t with c := c2 } = (R, T)) := by
        have := HGO.out
        rw [HX.out, kidsGo_cons, Int.toNat_natCast, HKX.out, hrun] at this
        have e1 : (reR t.m t.n qq).out = out := hqo.symm
        have e2 : (reR t.m t.n qq).r = r2 := hqr.symm
        have e3 : (reR t.m t.n qq).t = { t with c := c2 } := by rw [hqc]; rfl
        rw [e1, e2, e3, wr_take] at this
        exact this
      have hT3l : tl.length = 3 := htl
      have x3 := R3.sees
      obtain ⟨ar2, cr2, rfl⟩ := R3.form
      obtain ⟨br, off_r, hr0, -, hcr⟩ := (show ∃ b off, ar2 = some ⟨b, off, none⟩ ∧ b < w3.heap.size ∧ ∀ j (h : j < r2.length), w3.cell? ⟨b, off + j, none⟩ = some (.int .i64 r2[j]) by
        obtain ⟨a', cap', e, h1, h2, h3⟩ := x3
        simp only [Value.slice.injEq] at e
        obtain ⟨rfl, -, rfl⟩ := e
        exact h3 (fun h => by rw [h] at hr4; simp at hr4))
      subst hr0
      have y0 := hcr 0 (by omega)
      have hy0 : r2[0]'(by omega) = rd r2 0 := by rw [show (0 : Int) = ((0 : Nat) : Int) from rfl, rd_nat (by omega)]
      rw [hy0, Nat.add_zero] at y0
      have t3c := T3.cell i
      rw [List.getElem?_toArray, Ints.iv_get tl i (by omega)] at t3c
      have t3f := T3.froz i
      have T4 := T3.set i (.int .i64 (rd r2 0))
      rw [List.setIfInBounds_toArray, ← Ints.iv_set] at T4
      have D4 := D3.d.other (show p ≠ q0 by omega) i (.int .i64 (rd r2 0))
      have o5 := o4.setNew (q := q0) (by omega) i (.int .i64 (rd r2 0))
      have F4 : Ints.Owns W1.heap.size (w3.setCell ⟨q0, i, none⟩ (.int .i64 (rd r2 0))) (.slice (some ⟨bt, ot, none⟩) m ct) full := F3.keep (fun k hk => Below.heap_setCell _ _ _ _ (by have := (F3.at k hk).1; show k ≠ q0; omega))
      have C4 : Sees4 B (w3.setCell ⟨q0, i, none⟩ (.int .i64 (rd r2 0))) vC xs := D3.c.on ((Below.refl B w3).setCell (p := ⟨q0, i, none⟩) (show B ≤ q0 by omega) _) (Nat.le_refl _)
      rw [hr4]
      clear cS hTd hE hqo hqr hqc hrun hy0 hcr x3 c0 c1 R3
      rcases hout with rfl | rfl
      · simp only [if_true] at HG2
        go_wp2
        go_roundw
        case rel => exact ⟨j + 1, tl.set i (rd r2 0), { t with c := c2 }, by go_num, by omega, by rw [List.length_set]; exact htl, ht2, HG2.out, T4, { d := D4, c := C4, hB := hB }, o5, F4⟩
        case measure => simp [intOf]; omega
      · have HG3 : Hid (kidsGo kss s.r (full.drop (j + 1)) (tl.take n) { t with c := c2 } = (R, T)) := by have := HG2.out; rw [if_neg (by decide)] at this; exact this
        clear HG2
        go_wp2
        go_roundw
        case rel => exact ⟨j + 1, tl, { t with c := c2 }, by go_num, by omega, htl, ht2, HG3.out, T3, D3, o4, F3⟩
        case measure => simp [intOf]; omega
    · obtain rfl : j = m := by omega
      have HE : Hid ((tl.take n, t) = (R, T)) := by
        have := HGO.out
        rw [List.drop_of_length_le (by rw [HM.out]; exact Nat.le_refl _)] at this
        exact this
      obtain ⟨m1, m2, m3⟩ := ok_len hs.r htk
      have hRt : tl.take n = R := congrArg Prod.fst HE.out
      have hTt : t = T := congrArg Prod.snd HE.out
      subst hTt
      rw [hsl, hn] at hD
      have hl2 : (tl.take n).length = n := by rw [List.length_take]; omega
      have hN := nums_length m1 m2 m3
      have sT : Ints.Sees wr.drew.heap.size wr.drew (.slice (some ⟨q0, 0, none⟩) n 3) (tl.take n) := ⟨_, 3, by rw [hl2], by omega, by unfold maxLen; omega, fun _ => ⟨q0, 0, rfl, hT.lt, fun k hk => by
        have := hT.cell k
        rw [List.getElem?_toArray, Ints.iv_get tl k (by omega)] at this
        rw [Nat.zero_add, List.getElem_take]; exact this⟩⟩
      have hcp := copyOver wr.drew p 3 4 4 (.slice (some ⟨q0, 0, none⟩) n 3) (tl.take n) _ sT (hD.d.drew.there (k := 0) (n := (tl.take n).length) (by rw [hN]; omega)) (by omega)
      have D3n := hD.d.drew.setMany (tl.take n) _ _ 0
      have eo : over (nums s.r t) 0 (tl.take n) = nums (R ++ s.r.drop n) t := by
        have h := over_mid [] (s.r.take n) (s.r.drop n ++ (t.c ++ (t.m ++ [t.n]))) (tl.take n) (by rw [hl2, List.length_take]; omega)
        have e1 : ([] : List Int) ++ (s.r.take n ++ (s.r.drop n ++ (t.c ++ (t.m ++ [t.n])))) = nums s.r t := by
          unfold nums
          rw [List.nil_append, ← List.append_assoc, List.take_append_drop]
        rw [e1] at h
        rw [show ([] : List Int).length = 0 from rfl] at h
        rw [h, hRt]
        unfold nums
        rw [List.nil_append, List.append_assoc]
      rw [eo] at D3n
      have o3 := (hO.drew).setMany 3 (Ints.iv (tl.take n))
      have D3 : Dc B (wr.drew.setCells p 3 (Ints.iv (tl.take n))) p vC (.slice aK n cK) vO xs (R ++ s.r.drop n) t := { d := D3n, c := hD.drew.code ((Only.refl p wr.drew).setMany 3 _), hB := hB }
      have i4 : (n : Int) ≤ 3 := by omega
      have hx : Hid (tl.take n = R) := hRt
      rw [hl2] at hcp
      obtain ⟨w3, hw3⟩ : ∃ W, wr.drew.setCells p 3 (Ints.iv (tl.take n)) = W := ⟨_, rfl⟩
      rw [hw3] at hcp D3 o3
      rw [hsl, hn]
      clear hRt eo D3n sT HGO HE
      go_wp2
      go_region
      all_goals
        go_wp2
        go_end0
        exact ⟨rfl, by rw [hsl, hn]; exact D3, o3⟩
end Ops
end Go.Proofs.Ytajbmokidcdfnaa
/- What rightOrder answers. -/
set_option linter.unusedVariables false
set_option linter.unusedSimpArgs false
namespace Go.Proofs.Ytajbmokidcdfnaa
open Go.RowKit
namespace Ops
open Bas

/-- an order of n kids is right -/
def ordOk (zs : List Int) (n : Nat) : Bool := zs.all (fun x => decide (0 ≤ x ∧ x < (n : Int))) && decide zs.Nodup
theorem ordOk_range {zs : List Int} {n j : Nat} (hj : j < zs.length) (h : ¬ (0 ≤ zs[j] ∧ zs[j] < (n : Int))) : ordOk zs n = false := by
  unfold ordOk
  rw [Bool.and_eq_false_iff]
  exact .inl (List.all_eq_false.2 ⟨zs[j], List.getElem_mem hj, by simpa using h⟩)
theorem ordOk_twice {zs : List Int} {n j : Nat} (hj : j < zs.length) (h : zs[j] ∈ zs.take j) : ordOk zs n = false := by
  unfold ordOk
  rw [Bool.and_eq_false_iff]
  refine .inr (decide_eq_false fun hn => ?_)
  have e : zs = zs.take j ++ zs.drop j := (List.take_append_drop j zs).symm
  rw [e, List.nodup_append] at hn
  exact hn.2.2 _ h _ (List.mem_iff_getElem.2 ⟨0, by simp; omega, by simp⟩) rfl
theorem nodup_step {zs : List Int} {k : Nat} (hk : k < zs.length) (h : (zs.take k).Nodup) (hm : ¬ zs[k] ∈ zs.take k) : (zs.take (k + 1)).Nodup := by
  rw [List.take_succ_eq_append_getElem hk, List.nodup_append]
  refine ⟨h, by simp, fun a ha b hb => ?_⟩
  rw [List.mem_singleton] at hb
  subst hb
  intro e
  rw [e] at ha
  exact hm ha
theorem ordOk_all {zs : List Int} {n : Nat} (h1 : ∀ j (h : j < zs.length), 0 ≤ zs[j] ∧ zs[j] < (n : Int)) (h2 : zs.Nodup) : ordOk zs n = true := by
  unfold ordOk
  rw [decide_eq_true h2, Bool.and_true]
  refine List.all_eq_true.2 fun x hx => ?_
  obtain ⟨j, hj, rfl⟩ := List.mem_iff_getElem.1 hx
  exact decide_eq_true (h1 j hj)
theorem ordOk_named {zs : List Int} {n : Nat} (h : ordOk zs n = true) : (∀ x ∈ zs, 0 ≤ x ∧ x < (n : Int)) ∧ zs.Nodup := by
  unfold ordOk at h
  rw [Bool.and_eq_true] at h
  exact ⟨fun x hx => of_decide_eq_true (List.all_eq_true.1 h.1 x hx), of_decide_eq_true h.2⟩
theorem ret_ord {zs : List Int} {n : Nat} {b : Bool} (h : ordOk zs n = b) : Ending.returned (.bool b) = .returned (.bool (ordOk zs n)) := by rw [h]
theorem seesTake {B n cap k : Nat} {w : World} {a : Option Addr} {zs : List Int} (h : Ints.Sees B w (.slice a n cap) zs) (hk : k ≤ zs.length) : Ints.Sees B w (.slice a k cap) (zs.take k) := by
  obtain ⟨a', cap', e, h1, h2, h3⟩ := h
  simp only [Value.slice.injEq] at e
  obtain ⟨rfl, rfl, rfl⟩ := e
  have hl : (zs.take k).length = k := by simp; omega
  refine ⟨a, cap, by rw [hl], by omega, h2, fun hne => ?_⟩
  obtain ⟨b, off, rfl, hb, hc⟩ := h3 (fun h => by rw [h] at hne; simp at hne)
  exact ⟨b, off, rfl, hb, fun j hj => by rw [hc j (by omega), List.getElem_take]⟩
set_option maxRecDepth 100000 in
set_option maxHeartbeats 3200000 in
theorem rightOrdC (v : Value) (zs : List Int) (n : Nat) (B : Nat) (w : World) (hv : Ints.Sees B w v zs) (hn : n ≤ 1000) :
    Calls Try.prog 84 #[v, .int .i64 (n : Int)] w fun e w' => e = .returned (.bool (ordOk zs n)) ∧ w = w' := by
  have hv0 := hv
  obtain ⟨a, cap, rfl, h1, h2, h3⟩ := hv
  obtain ⟨m, hm⟩ : ∃ m, zs.length = m := ⟨_, rfl⟩
  have hmi : (m : Int) ≤ 9223372036854775807 := by unfold maxLen at h2; omega
  have hcp : (m : Int) ≤ cap := by omega
  have HM := (show Hid _ from hm)
  rw [hm] at hv0 ⊢
  go_enter Try.func84, Try.ntmps84
  go_wp2
  go_loop [9] (fun i => ∃ k : Nat, k ≤ m ∧ i = .int .i64 k ∧ (zs.take k).Nodup ∧ ∀ j (h : j < zs.length), j < k → 0 ≤ zs[j] ∧ zs[j] < (n : Int)) (fun i => m - (intOf i).toNat)
  case atStart => exact ⟨0, Nat.zero_le _, rfl, by simp, fun j _ h => by omega⟩
  case round =>
    obtain ⟨k, hk, rfl, hnd, hall⟩ := hrel
    by_cases hlt : k < m
    · obtain ⟨b, off, rfl, hbB, hc⟩ := h3 (fun h => by simp [h] at hm; omega)
      have hkl : k < zs.length := by omega
      have a0 := hc k hkl
      obtain ⟨x, hx⟩ : ∃ x, zs[k] = x := ⟨_, rfl⟩
      have cK := Ints.containsC (.slice (some ⟨b, off, none⟩) k cap) (zs.take k) x B w (seesTake hv0 (by omega))
      have HA := (show Hid _ from hall)
      have HD := (show Hid _ from hnd)
      have i1 : (k : Int) < m := by omega
      have i2 : ¬ (cap : Int) < k := by omega
      rw [hx] at a0
      by_cases q0 : x < 0
      · have HF : Hid (ordOk zs n = false) := ordOk_range hkl (by rw [hx]; omega)
        clear hc h3 hall hnd hx cK
        go_wp2
        go_ret
        exact ⟨ret_ord HF.out, rfl⟩
      · by_cases q1 : (n : Int) ≤ x
        · have HF : Hid (ordOk zs n = false) := ordOk_range hkl (by rw [hx]; omega)
          clear hc h3 hall hnd hx cK
          go_wp2
          go_ret
          exact ⟨ret_ord HF.out, rfl⟩
        · have q1' : decide ((n : Int) ≤ x) = false := decide_eq_false q1
          have q0' : decide (x < 0) = false := decide_eq_false q0
          by_cases q2 : x ∈ zs.take k
          · have HF : Hid (ordOk zs n = false) := ordOk_twice hkl (by rw [hx]; exact q2)
            rw [decide_eq_true q2] at cK
            clear hc h3 hall hnd hx q2
            go_wp2_with fail
            refine cK.mono ?_
            rintro e w1 ⟨rfl, rfl⟩
            go_wp2
            go_ret
            exact ⟨ret_ord HF.out, rfl⟩
          · have HK : Hid ((zs.take (k + 1)).Nodup) := nodup_step hkl HD.out (by rw [hx]; exact q2)
            have HX : Hid (0 ≤ zs[k] ∧ zs[k] < (n : Int)) := by show _ ∧ _; rw [hx]; omega
            rw [decide_eq_false q2] at cK
            clear hc h3 hall hnd hx q2
            go_wp2_with fail
            refine cK.mono ?_
            rintro e w1 ⟨rfl, rfl⟩
            go_wp2
            go_round
            case rel => exact ⟨k + 1, by omega, by go_num, HK.out, fun j hj hjk => by
              rcases Nat.lt_succ_iff_lt_or_eq.1 hjk with h | h
              · exact HA.out j hj h
              · subst h; exact HX.out⟩
            case measure => simp [intOf]; omega
    · obtain rfl : k = m := by omega
      have HT : Hid (ordOk zs n = true) := ordOk_all (fun j hj => hall j hj (by omega)) (by rw [← hm, List.take_length] at hnd; exact hnd)
      clear hall hnd
      go_wp2
      go_ret
      exact ⟨ret_ord HT.out, rfl⟩
end Ops
end Go.Proofs.Ytajbmokidcdfnaa
/- What the program's copyThings answers. -/
set_option linter.unusedVariables false
set_option linter.unusedSimpArgs false
namespace Go.Proofs.Ytajbmokidcdfnaa
open Go.RowKit
namespace Ops
open Bas

set_option maxRecDepth 100000 in
set_option maxHeartbeats 6400000 in
theorem implCopy (vc vm : Value) (t : Th) (B : Nat) (w : World) (hv : SeeT B w vc vm t) (hB : B ≤ w.heap.size) (h1 : t.c.length ≤ 1048576) (h2 : t.m.length ≤ 1048576) :
    Calls Try.prog 80 #[.agg #[vc, vm, .int .i64 t.n]] w fun e w' => ∃ vc' vm', e = .returned (.agg #[vc', vm', .int .i64 t.n]) ∧ OwnT w.heap.size w' vc' vm' t ∧ Below w.heap.size w w' := by
  obtain ⟨q, hq⟩ : ∃ q, w.heap.size = q := ⟨_, rfl⟩
  obtain ⟨tn, htn⟩ : ∃ x, t.n = x := ⟨_, rfl⟩
  rw [htn]
  have X0 := Blk.new w #[vc, vm, .int .i64 tn] 49
  have b0 := alloc_below w (.cells #[vc, vm, .int .i64 tn] 49)
  obtain ⟨w0, hw0⟩ : ∃ w0, w.alloc (.cells #[vc, vm, .int .i64 tn] 49) = w0 := ⟨_, rfl⟩
  have hz0 : w0.heap.size = q + 1 := by rw [← hw0, ← hq]; simp
  rw [hw0] at X0 b0
  rw [hq] at X0 b0 hB ⊢
  obtain ⟨q1, hq1⟩ : ∃ q, w0.heap.size = q := ⟨_, rfl⟩
  have l01 : q < q1 := by omega
  clear hz0
  have R1 := Blk.new w0 #[.slice none 0 0, .slice none 0 0, .int .i64 0] 49
  have b1 := alloc_below w0 (.cells #[.slice none 0 0, .slice none 0 0, .int .i64 0] 49)
  obtain ⟨w1, hw1⟩ : ∃ w1, w0.alloc (.cells #[.slice none 0 0, .slice none 0 0, .int .i64 0] 49) = w1 := ⟨_, rfl⟩
  rw [hw1] at R1 b1
  rw [hq1] at R1 b1
  have X1 := X0.on b1 (by omega)
  have bb : Below q w w1 := b0.trans (b1.mono (by omega))
  have z1 : q1 < w1.heap.size := R1.lt
  have x0 := X1.cell 0; have x1 := X1.cell 1; have x2 := X1.cell 2
  have sv := hv.on bb hB
  have cA := Ints.cloneC vc t.c B w1.drew sv.c (by show B ≤ w1.heap.size; omega) h1
  clear X0 b0 b1 htn
  go_enter Try.func80, Try.ntmps80
  go_wp2_with fail
  go_region_held3 (fun W => W.cell? ⟨q, 0, none⟩ = some vc ∧ W.cell? ⟨q, 1, none⟩ = some vm ∧ W.cell? ⟨q, 2, none⟩ = some (.int .i64 tn)) (go_keep) ((first
    | (go_at_call_of 87 vc; refine cA.mono ?_; rintro e w2 ⟨v2, rfl, O2, b2⟩; obtain ⟨a2, k2, rfl⟩ := O2.form; have X2 := X1.drew.on b2 X1.lt; have R2 := R1.drew.on b2 R1.lt; have b2 : Below w1.heap.size w1 w2 := ⟨b2.os, b2.tape, b2.output, b2.size, b2.block⟩; have x20 := X2.cell 0; have x21 := X2.cell 1; have x22 := X2.cell 2)
    | (go_at_call_of 87 vm; refine (Ints.cloneC vm t.m B w2 (sv.m.on (B' := w1.heap.size) b2 (by omega)) (by have : w1.heap.size ≤ w2.heap.size := b2.size; omega) h2).mono ?_; rintro e w3 ⟨v3, rfl, O3, b3⟩; obtain ⟨a3, k3, rfl⟩ := O3.form; have X3 := X2.on b3 X2.lt; have R3 := R2.on b3 R2.lt; have x30 := X3.cell 0; have x31 := X3.cell 1; have x32 := X3.cell 2; have r30 := R3.cell 0; have r31 := R3.cell 1; have r32 := R3.cell 2; have g30 := R3.froz 0; have g31 := R3.froz 1; have g32 := R3.froz 2; have X4 := ((X3.other (show q ≠ q1 by omega) 0 (.slice a2 t.c.length k2)).other (show q ≠ q1 by omega) 1 (.slice a3 t.m.length k3)).other (show q ≠ q1 by omega) 2 (.int .i64 tn); have x40 := X4.cell 0; have x41 := X4.cell 1; have x42 := X4.cell 2)))
  have R4 := ((R3.set 0 (.slice a2 t.c.length k2)).set 1 (.slice a3 t.m.length k3)).set 2 (.int .i64 tn)
  have s2 := b2.size
  have s3 := b3.size
  have Oa := (own_other (own_other (own_other (O2.on b3 (Nat.le_refl _)) (q := q1) (show q1 < w1.heap.size from z1) 0 (.slice a2 t.c.length k2)) (q := q1) (show q1 < w1.heap.size from z1) 1 (.slice a3 t.m.length k3)) (q := q1) (show q1 < w1.heap.size from z1) 2 (.int .i64 tn)).mono (show q ≤ w1.heap.size by omega)
  have Ob := (own_other (own_other (own_other O3 (q := q1) (by omega) 0 (.slice a2 t.c.length k2)) (q := q1) (by omega) 1 (.slice a3 t.m.length k3)) (q := q1) (by omega) 2 (.int .i64 tn)).mono (show q ≤ w2.heap.size by omega)
  have hd : Dj (.slice a2 t.c.length k2) (.slice a3 t.m.length k3) := dj_new (B' := 0) O2 O3
  have bF := ((((bb.trans (b2.mono (by omega))).trans (b3.mono (by omega))).setCell (p := ⟨q1, 0, none⟩) (show q ≤ q1 by omega) (.slice a2 t.c.length k2)).setCell (p := ⟨q1, 1, none⟩) (show q ≤ q1 by omega) (.slice a3 t.m.length k3)).setCell (p := ⟨q1, 2, none⟩) (show q ≤ q1 by omega) (.int .i64 tn)
  have r40 := R4.cell 0; have r41 := R4.cell 1; have r42 := R4.cell 2
  go_wp2
  refine bodyPost_ret (v := .agg #[.slice a2 t.c.length k2, .slice a3 t.m.length k3, .int .i64 tn]) (by simp [results, Try.results80, go_sem, r30, r31, r32]) rfl ?_
  exact ⟨_, _, rfl, ⟨Oa, Ob, hd⟩, bF⟩
end Ops
end Go.Proofs.Ytajbmokidcdfnaa
/- What the program's (*stock).things answers. -/
set_option linter.unusedVariables false
set_option linter.unusedSimpArgs false
namespace Go.Proofs.Ytajbmokidcdfnaa
open Go.RowKit
namespace Ops
open Bas

theorem Dn.seeKeys {W : World} {p : Nat} {vC vK vO : Value} {r : List Int} {t : Th} (h : Dn W p vC vK vO (nums r t)) (hr : r.length = 4) (hc : t.c.length = 8) (hm : t.m.length = 8) : Ints.Sees W.heap.size W (.slice (some ⟨p, 15, none⟩) 8 8) t.m :=
  ⟨_, 8, by rw [hm], by omega, by unfold maxLen; omega, fun _ => ⟨p, 15, rfl, h.lt, fun j hj => by rw [h.key hr hc hm (by omega : j < 8), rd_nat hj]⟩⟩
set_option maxRecDepth 100000 in
set_option maxHeartbeats 6400000 in
theorem thingsC (p : Nat) (vC vK vO : Value) (r : List Int) (t : Th) (hr : r.length = 4) (hc : t.c.length = 8) (hm : t.m.length = 8) (W : World) (hd : Dn W p vC vK vO (nums r t)) :
    Calls Try.prog 88 #[.pointer (some ⟨p, 3, none⟩)] W fun e W' => ∃ vc vm, e = .returned (.agg #[vc, vm, .int .i64 t.n]) ∧ OwnT W.heap.size W' vc vm t ∧ Below W.heap.size W W' := by
  obtain ⟨q, hq⟩ : ∃ q, W.heap.size = q := ⟨_, rfl⟩
  have R1 := Blk.new W #[.slice none 0 0, .slice none 0 0, .int .i64 0] 49
  have b1 := alloc_below W (.cells #[.slice none 0 0, .slice none 0 0, .int .i64 0] 49)
  have d1 := hd.on b1 hd.lt
  obtain ⟨w1, hw1⟩ : ∃ w1, W.alloc (.cells #[.slice none 0 0, .slice none 0 0, .int .i64 0] 49) = w1 := ⟨_, rfl⟩
  rw [hw1] at R1 b1 d1
  rw [hq] at R1 b1 ⊢
  have z1 : q < w1.heap.size := R1.lt
  have x0 := d1.cnt hr hc hm
  have cA := implCopy (.slice (some ⟨p, 7, none⟩) 8 8) (.slice (some ⟨p, 15, none⟩) 8 8) t w1.drew.heap.size w1.drew ⟨d1.drew.seeCells hr hc, d1.drew.seeKeys hr hc hm⟩ (Nat.le_refl _) (by omega) (by omega)
  obtain ⟨tn, htn⟩ : ∃ x, t.n = x := ⟨_, rfl⟩
  rw [htn] at cA x0 ⊢
  clear htn hr hc hm hd
  go_enter Try.func88, Try.ntmps88
  go_wp2_with fail
  go_region_with (go_at_call 80; refine cA.mono ?_; rintro e w2 ⟨v2, u2, rfl, O2, b2⟩; obtain ⟨a2, k2, rfl⟩ := O2.c.form; obtain ⟨a3, k3, rfl⟩ := O2.m.form; have R2 := R1.drew.on b2 R1.lt; have r20 := R2.cell 0; have r21 := R2.cell 1; have r22 := R2.cell 2; have g20 := R2.froz 0; have g21 := R2.froz 1; have g22 := R2.froz 2)
  all_goals
    have s2 : w1.heap.size ≤ w2.heap.size := b2.size
    have b2' : Below w1.heap.size w1 w2 := ⟨b2.os, b2.tape, b2.output, b2.size, b2.block⟩
    have Oa := (own_other (own_other (own_other O2.c (q := q) (show q < w1.heap.size from z1) 0 (.slice a2 t.c.length k2)) (q := q) (show q < w1.heap.size from z1) 1 (.slice a3 t.m.length k3)) (q := q) (show q < w1.heap.size from z1) 2 (.int .i64 tn)).mono (show q ≤ w1.heap.size by omega)
    have Ob := (own_other (own_other (own_other O2.m (q := q) (show q < w1.heap.size from z1) 0 (.slice a2 t.c.length k2)) (q := q) (show q < w1.heap.size from z1) 1 (.slice a3 t.m.length k3)) (q := q) (show q < w1.heap.size from z1) 2 (.int .i64 tn)).mono (show q ≤ w1.heap.size by omega)
    have bF := (((b1.trans (b2'.mono (by omega))).setCell (p := ⟨q, 0, none⟩) (Nat.le_refl _) (.slice a2 t.c.length k2)).setCell (p := ⟨q, 1, none⟩) (Nat.le_refl _) (.slice a3 t.m.length k3)).setCell (p := ⟨q, 2, none⟩) (Nat.le_refl _) (.int .i64 tn)
    go_wp2
    refine bodyPost_ret (v := .agg #[.slice a2 t.c.length k2, .slice a3 t.m.length k3, .int .i64 tn]) (by simp [results, Try.results88, go_sem, r20, r21, r22]) rfl ?_
    exact ⟨_, _, rfl, ⟨Oa, Ob, O2.d⟩, bF⟩
end Ops
end Go.Proofs.Ytajbmokidcdfnaa
/- What the program's ProgOk answers. -/
set_option linter.unusedVariables false
set_option linter.unusedSimpArgs false
namespace Go.Proofs.Ytajbmokidcdfnaa
open Go.RowKit
namespace Ops
open Bas Flat

theorem prog_no1I {xs : List O4} {kss : List (List O4)} (h : codeOk xs = false) : progOk xs kss = false := by unfold progOk; rw [h]; rfl
theorem prog_no2I {xs : List O4} {kss : List (List O4)} (h : ¬ kss.length ≤ 3) : progOk xs kss = false := by unfold progOk; rw [decide_eq_false h]; simp
theorem prog_no3I {xs : List O4} {kss : List (List O4)} (h : ¬ hasFork xs = decide (0 < kss.length)) : progOk xs kss = false := by unfold progOk; rw [beq_eq_false_iff_ne.2 h]; simp
theorem prog_allI {xs : List O4} {kss : List (List O4)} (h1 : codeOk xs = true) (h2 : kss.length ≤ 3) (h3 : hasFork xs = decide (0 < kss.length)) : progOk xs kss = kss.all kidOk := by unfold progOk; rw [h1, decide_eq_true h2, h3]; simp

set_option maxRecDepth 100000 in
set_option maxHeartbeats 3200000 in
theorem progImpl (vc vk : Value) (xs : List O4) (kss : List (List O4)) (B : Nat) (w : World) (hv : SeesP B w vc vk xs kss) (hB : B ≤ w.heap.size) (hf : Fits xs kss) :
    Calls Try.prog 83 #[.agg #[vc, vk]] w fun e w' => e = .returned (.bool (progOk xs kss)) ∧ Below w.heap.size w w' := by
  obtain ⟨a, cap, rfl⟩ := hv.c.form
  obtain ⟨ak, capk, rfl⟩ := hv.k.form
  obtain ⟨n, hn⟩ : ∃ n, xs.length = n := ⟨_, rfl⟩
  obtain ⟨m, hm⟩ : ∃ m, kss.length = m := ⟨_, rfl⟩
  obtain ⟨hf1, hf2, hf3⟩ := hf
  rw [hn, hm] at hv ⊢
  rw [hm] at hf2
  have HA3 := (show Hid _ from hf3)
  clear hf3
  have b0 := alloc_below w (.cells #[.slice a n cap, .slice ak m capk] 62)
  have X0 := Blk.new w #[.slice a n cap, .slice ak m capk] 62
  obtain ⟨W0, hW0⟩ : ∃ W0, w.alloc (.cells #[.slice a n cap, .slice ak m capk] 62) = W0 := ⟨_, rfl⟩
  rw [hW0] at b0 X0
  have hs := X0.lt
  have hv0 := hv.on b0 hB
  have c0 := codeImpl _ xs B W0.drew hv0.c.drew (by show B ≤ W0.heap.size; omega) hf1
  obtain ⟨p, hp⟩ : ∃ p, codeOk xs = p := ⟨_, rfl⟩
  rw [hp] at c0
  have HP : Hid (codeOk xs = p) := hp
  clear hp
  have x0 := X0.cell 0; have x1 := X0.cell 1
  have f1 : (0 : Int) ≤ m := by omega
  cases p
  · have HF : Hid (false = progOk xs kss) := (prog_no1I HP.out).symm
    go_enter Try.func83, Try.ntmps83
    go_wp2_with fail
    clear hW0
    refine wp_region_held_drew (S := fun W => W.cell? ⟨w.heap.size, 0, none⟩ = some (.slice a n cap) ∧ W.cell? ⟨w.heap.size, 1, none⟩ = some (.slice ak m capk)) (by kernel_rfl) ⟨x0, x1⟩ (fun hHeld => ?_)
    refine takeH (i := 0) (some 5) (.pointer (some ⟨w.heap.size, 0, none⟩)) rfl rfl (by kernel_rfl) (by kernel_rfl) (by kernel_rfl) (fun _ _ _ h => h) (Or.inl ⟨by rfl, fun w hSw => by (try dsimp only at hSw); go_simp⟩) (by assumption) ?_
    simp only [Act.put, List.setIfInBounds_toArray, List.set_cons_zero, List.set_cons_succ]
    refine takeH (i := 1) (some 6) (.slice a n cap) rfl rfl (by kernel_rfl) (by kernel_rfl) (by kernel_rfl) (fun _ _ _ h => h) (Or.inl ⟨by rfl, fun w hSw => by (try dsimp only at hSw); go_simp⟩) (by assumption) ?_
    simp only [Act.put, List.setIfInBounds_toArray, List.set_cons_zero, List.set_cons_succ]
    refine wpAnyH_ready (rs := [2]) (by kernel_rfl) (by simp) ?_
    refine AllReadyH.cons rfl (fun K hK => ?_) AllReadyH.nil
    go_simp
    refine c0.mono ?_
    rintro e w1 ⟨rfl, b1⟩
    have b1 := undrewB b1
    have X1 := X0.on b1 hs
    have bb1 := b0.trans (b1.mono b0.size)
    go_simp
    refine hK.out _ _ ⟨X1.cell 0, X1.cell 1⟩ (fun hHeld1 => ?_)
    clear hK K c0 hHeld x0 x1
    refine takeH (i := 3) (some 8) (.bool true) rfl rfl (by kernel_rfl) (by kernel_rfl) (by kernel_rfl) (fun _ _ _ h => h) (Or.inl ⟨by rfl, fun w hSw => by (try dsimp only at hSw); go_simp⟩) (by assumption) ?_
    simp only [Act.put, List.setIfInBounds_toArray, List.set_cons_zero, List.set_cons_succ]
    refine takeH (i := 4) (some 9) (.bool true) rfl rfl (by kernel_rfl) (by kernel_rfl) (by kernel_rfl) (fun _ _ _ h => h) (Or.inl ⟨by rfl, fun w hSw => by (try dsimp only at hSw); go_simp⟩) (by assumption) ?_
    simp only [Act.put, List.setIfInBounds_toArray, List.set_cons_zero, List.set_cons_succ]
    refine takeH (i := 5) (some 10) undef rfl rfl (by kernel_rfl) (by kernel_rfl) (by kernel_rfl) (fun _ _ _ h => h) (Or.inr ⟨by rfl, rfl⟩) (by assumption) ?_
    simp only [Act.put, List.setIfInBounds_toArray, List.set_cons_zero, List.set_cons_succ]
    refine takeH (i := 6) (some 11) undef rfl rfl (by kernel_rfl) (by kernel_rfl) (by kernel_rfl) (fun _ _ _ h => h) (Or.inr ⟨by rfl, rfl⟩) (by assumption) ?_
    simp only [Act.put, List.setIfInBounds_toArray, List.set_cons_zero, List.set_cons_succ]
    refine takeH (i := 7) (some 12) undef rfl rfl (by kernel_rfl) (by kernel_rfl) (by kernel_rfl) (fun _ _ _ h => h) (Or.inr ⟨by rfl, rfl⟩) (by assumption) ?_
    simp only [Act.put, List.setIfInBounds_toArray, List.set_cons_zero, List.set_cons_succ]
    refine takeH (i := 8) (some 13) undef rfl rfl (by kernel_rfl) (by kernel_rfl) (by kernel_rfl) (fun _ _ _ h => h) (Or.inr ⟨by rfl, rfl⟩) (by assumption) ?_
    simp only [Act.put, List.setIfInBounds_toArray, List.set_cons_zero, List.set_cons_succ]
    refine takeH (i := 9) (some 14) (.bool true) rfl rfl (by kernel_rfl) (by kernel_rfl) (by kernel_rfl) (fun _ _ _ h => h) (Or.inl ⟨by rfl, fun w hSw => by (try dsimp only at hSw); go_simp⟩) (by assumption) ?_
    simp only [Act.put, List.setIfInBounds_toArray, List.set_cons_zero, List.set_cons_succ]
    refine takeH (i := 10) (some 15) (.bool true) rfl rfl (by kernel_rfl) (by kernel_rfl) (by kernel_rfl) (fun _ _ _ h => h) (Or.inl ⟨by rfl, fun w hSw => by (try dsimp only at hSw); go_simp⟩) (by assumption) ?_
    simp only [Act.put, List.setIfInBounds_toArray, List.set_cons_zero, List.set_cons_succ]
    refine takeH (i := 11) (some 16) undef rfl rfl (by kernel_rfl) (by kernel_rfl) (by kernel_rfl) (fun _ _ _ h => h) (Or.inr ⟨by rfl, rfl⟩) (by assumption) ?_
    simp only [Act.put, List.setIfInBounds_toArray, List.set_cons_zero, List.set_cons_succ]
    refine takeH (i := 12) (some 17) undef rfl rfl (by kernel_rfl) (by kernel_rfl) (by kernel_rfl) (fun _ _ _ h => h) (Or.inr ⟨by rfl, rfl⟩) (by assumption) ?_
    simp only [Act.put, List.setIfInBounds_toArray, List.set_cons_zero, List.set_cons_succ]
    refine takeH (i := 13) (some 18) undef rfl rfl (by kernel_rfl) (by kernel_rfl) (by kernel_rfl) (fun _ _ _ h => h) (Or.inr ⟨by rfl, rfl⟩) (by assumption) ?_
    simp only [Act.put, List.setIfInBounds_toArray, List.set_cons_zero, List.set_cons_succ]
    refine takeH (i := 14) (some 19) undef rfl rfl (by kernel_rfl) (by kernel_rfl) (by kernel_rfl) (fun _ _ _ h => h) (Or.inr ⟨by rfl, rfl⟩) (by assumption) ?_
    simp only [Act.put, List.setIfInBounds_toArray, List.set_cons_zero, List.set_cons_succ]
    refine takeH (i := 15) (some 20) undef rfl rfl (by kernel_rfl) (by kernel_rfl) (by kernel_rfl) (fun _ _ _ h => h) (Or.inr ⟨by rfl, rfl⟩) (by assumption) ?_
    simp only [Act.put, List.setIfInBounds_toArray, List.set_cons_zero, List.set_cons_succ]
    refine takeH (i := 16) (some 21) undef rfl rfl (by kernel_rfl) (by kernel_rfl) (by kernel_rfl) (fun _ _ _ h => h) (Or.inr ⟨by rfl, rfl⟩) (by assumption) ?_
    simp only [Act.put, List.setIfInBounds_toArray, List.set_cons_zero, List.set_cons_succ]
    refine takeH (i := 17) (some 22) undef rfl rfl (by kernel_rfl) (by kernel_rfl) (by kernel_rfl) (fun _ _ _ h => h) (Or.inr ⟨by rfl, rfl⟩) (by assumption) ?_
    simp only [Act.put, List.setIfInBounds_toArray, List.set_cons_zero, List.set_cons_succ]
    refine takeH (i := 18) (some 23) undef rfl rfl (by kernel_rfl) (by kernel_rfl) (by kernel_rfl) (fun _ _ _ h => h) (Or.inr ⟨by rfl, rfl⟩) (by assumption) ?_
    simp only [Act.put, List.setIfInBounds_toArray, List.set_cons_zero, List.set_cons_succ]
    refine takeH (i := 19) (some 24) (.bool true) rfl rfl (by kernel_rfl) (by kernel_rfl) (by kernel_rfl) (fun _ _ _ h => h) (Or.inl ⟨by rfl, fun w hSw => by (try dsimp only at hSw); go_simp⟩) (by assumption) ?_
    simp only [Act.put, List.setIfInBounds_toArray, List.set_cons_zero, List.set_cons_succ]
    refine wpAnyH_done (by kernel_rfl) ?_ _
    go_wp2
    go_ret
    exact ⟨retB HF.out, bb1⟩
  · by_cases h3 : 3 < m
    · have HF : Hid (false = progOk xs kss) := (prog_no2I (by omega)).symm
      have d3 : decide ((3 : Int) < m) = true := decide_eq_true (by omega)
      go_enter Try.func83, Try.ntmps83
      go_wp2_with fail
      clear hW0
      refine wp_region_held_drew (S := fun W => W.cell? ⟨w.heap.size, 0, none⟩ = some (.slice a n cap) ∧ W.cell? ⟨w.heap.size, 1, none⟩ = some (.slice ak m capk)) (by kernel_rfl) ⟨x0, x1⟩ (fun hHeld => ?_)
      refine takeH (i := 0) (some 5) (.pointer (some ⟨w.heap.size, 0, none⟩)) rfl rfl (by kernel_rfl) (by kernel_rfl) (by kernel_rfl) (fun _ _ _ h => h) (Or.inl ⟨by rfl, fun w hSw => by (try dsimp only at hSw); go_simp⟩) (by assumption) ?_
      simp only [Act.put, List.setIfInBounds_toArray, List.set_cons_zero, List.set_cons_succ]
      refine takeH (i := 1) (some 6) (.slice a n cap) rfl rfl (by kernel_rfl) (by kernel_rfl) (by kernel_rfl) (fun _ _ _ h => h) (Or.inl ⟨by rfl, fun w hSw => by (try dsimp only at hSw); go_simp⟩) (by assumption) ?_
      simp only [Act.put, List.setIfInBounds_toArray, List.set_cons_zero, List.set_cons_succ]
      refine wpAnyH_ready (rs := [2]) (by kernel_rfl) (by simp) ?_
      refine AllReadyH.cons rfl (fun K hK => ?_) AllReadyH.nil
      go_simp
      refine c0.mono ?_
      rintro e w1 ⟨rfl, b1⟩
      have b1 := undrewB b1
      have X1 := X0.on b1 hs
      have bb1 := b0.trans (b1.mono b0.size)
      go_simp
      refine hK.out _ _ ⟨X1.cell 0, X1.cell 1⟩ (fun hHeld1 => ?_)
      clear hK K c0 hHeld x0 x1
      refine takeH (i := 3) (some 8) (.bool false) rfl rfl (by kernel_rfl) (by kernel_rfl) (by kernel_rfl) (fun _ _ _ h => h) (Or.inl ⟨by rfl, fun w hSw => by (try dsimp only at hSw); go_simp⟩) (by assumption) ?_
      simp only [Act.put, List.setIfInBounds_toArray, List.set_cons_zero, List.set_cons_succ]
      refine takeH (i := 4) (some 9) (.bool false) rfl rfl (by kernel_rfl) (by kernel_rfl) (by kernel_rfl) (fun _ _ _ h => h) (Or.inl ⟨by rfl, fun w hSw => by (try dsimp only at hSw); go_simp⟩) (by assumption) ?_
      simp only [Act.put, List.setIfInBounds_toArray, List.set_cons_zero, List.set_cons_succ]
      refine takeH (i := 5) (some 10) (.pointer (some ⟨w.heap.size, 1, none⟩)) rfl rfl (by kernel_rfl) (by kernel_rfl) (by kernel_rfl) (fun _ _ _ h => h) (Or.inl ⟨by rfl, fun w hSw => by (try dsimp only at hSw); go_simp⟩) (by assumption) ?_
      simp only [Act.put, List.setIfInBounds_toArray, List.set_cons_zero, List.set_cons_succ]
      refine takeH (i := 6) (some 11) (.slice ak m capk) rfl rfl (by kernel_rfl) (by kernel_rfl) (by kernel_rfl) (fun _ _ _ h => h) (Or.inl ⟨by rfl, fun w hSw => by (try dsimp only at hSw); go_simp⟩) (by assumption) ?_
      simp only [Act.put, List.setIfInBounds_toArray, List.set_cons_zero, List.set_cons_succ]
      refine takeH (i := 7) (some 12) (.int .i64 m) rfl rfl (by kernel_rfl) (by kernel_rfl) (by kernel_rfl) (fun _ _ _ h => h) (Or.inl ⟨by rfl, fun w hSw => by (try dsimp only at hSw); go_simp⟩) (by assumption) ?_
      simp only [Act.put, List.setIfInBounds_toArray, List.set_cons_zero, List.set_cons_succ]
      refine takeH (i := 8) (some 13) (.bool true) rfl rfl (by kernel_rfl) (by kernel_rfl) (by kernel_rfl) (fun _ _ _ h => h) (Or.inl ⟨by rfl, fun w hSw => by (try dsimp only at hSw); go_simp⟩) (by assumption) ?_
      simp only [Act.put, List.setIfInBounds_toArray, List.set_cons_zero, List.set_cons_succ]
      refine takeH (i := 9) (some 14) (.bool true) rfl rfl (by kernel_rfl) (by kernel_rfl) (by kernel_rfl) (fun _ _ _ h => h) (Or.inl ⟨by rfl, fun w hSw => by (try dsimp only at hSw); go_simp⟩) (by assumption) ?_
      simp only [Act.put, List.setIfInBounds_toArray, List.set_cons_zero, List.set_cons_succ]
      refine takeH (i := 10) (some 15) (.bool true) rfl rfl (by kernel_rfl) (by kernel_rfl) (by kernel_rfl) (fun _ _ _ h => h) (Or.inl ⟨by rfl, fun w hSw => by (try dsimp only at hSw); go_simp⟩) (by assumption) ?_
      simp only [Act.put, List.setIfInBounds_toArray, List.set_cons_zero, List.set_cons_succ]
      refine takeH (i := 11) (some 16) undef rfl rfl (by kernel_rfl) (by kernel_rfl) (by kernel_rfl) (fun _ _ _ h => h) (Or.inr ⟨by rfl, rfl⟩) (by assumption) ?_
      simp only [Act.put, List.setIfInBounds_toArray, List.set_cons_zero, List.set_cons_succ]
      refine takeH (i := 12) (some 17) undef rfl rfl (by kernel_rfl) (by kernel_rfl) (by kernel_rfl) (fun _ _ _ h => h) (Or.inr ⟨by rfl, rfl⟩) (by assumption) ?_
      simp only [Act.put, List.setIfInBounds_toArray, List.set_cons_zero, List.set_cons_succ]
      refine takeH (i := 13) (some 18) undef rfl rfl (by kernel_rfl) (by kernel_rfl) (by kernel_rfl) (fun _ _ _ h => h) (Or.inr ⟨by rfl, rfl⟩) (by assumption) ?_
      simp only [Act.put, List.setIfInBounds_toArray, List.set_cons_zero, List.set_cons_succ]
      refine takeH (i := 14) (some 19) undef rfl rfl (by kernel_rfl) (by kernel_rfl) (by kernel_rfl) (fun _ _ _ h => h) (Or.inr ⟨by rfl, rfl⟩) (by assumption) ?_
      simp only [Act.put, List.setIfInBounds_toArray, List.set_cons_zero, List.set_cons_succ]
      refine takeH (i := 15) (some 20) undef rfl rfl (by kernel_rfl) (by kernel_rfl) (by kernel_rfl) (fun _ _ _ h => h) (Or.inr ⟨by rfl, rfl⟩) (by assumption) ?_
      simp only [Act.put, List.setIfInBounds_toArray, List.set_cons_zero, List.set_cons_succ]
      refine takeH (i := 16) (some 21) undef rfl rfl (by kernel_rfl) (by kernel_rfl) (by kernel_rfl) (fun _ _ _ h => h) (Or.inr ⟨by rfl, rfl⟩) (by assumption) ?_
      simp only [Act.put, List.setIfInBounds_toArray, List.set_cons_zero, List.set_cons_succ]
      refine takeH (i := 17) (some 22) undef rfl rfl (by kernel_rfl) (by kernel_rfl) (by kernel_rfl) (fun _ _ _ h => h) (Or.inr ⟨by rfl, rfl⟩) (by assumption) ?_
      simp only [Act.put, List.setIfInBounds_toArray, List.set_cons_zero, List.set_cons_succ]
      refine takeH (i := 18) (some 23) undef rfl rfl (by kernel_rfl) (by kernel_rfl) (by kernel_rfl) (fun _ _ _ h => h) (Or.inr ⟨by rfl, rfl⟩) (by assumption) ?_
      simp only [Act.put, List.setIfInBounds_toArray, List.set_cons_zero, List.set_cons_succ]
      refine takeH (i := 19) (some 24) (.bool true) rfl rfl (by kernel_rfl) (by kernel_rfl) (by kernel_rfl) (fun _ _ _ h => h) (Or.inl ⟨by rfl, fun w hSw => by (try dsimp only at hSw); go_simp⟩) (by assumption) ?_
      simp only [Act.put, List.setIfInBounds_toArray, List.set_cons_zero, List.set_cons_succ]
      refine wpAnyH_done (by kernel_rfl) ?_ _
      go_wp2
      go_ret
      exact ⟨retB HF.out, bb1⟩
    · have d3 : decide ((3 : Int) < m) = false := decide_eq_false (by omega)
      obtain ⟨t, ht'⟩ : ∃ t, decide (0 < m) = t := ⟨_, rfl⟩
      have ht : decide ((0 : Int) < m) = t := by rw [← ht']; simp
      go_enter Try.func83, Try.ntmps83
      go_wp2_with fail
      clear hW0
      refine wp_region_held_drew (S := fun W => W.cell? ⟨w.heap.size, 0, none⟩ = some (.slice a n cap) ∧ W.cell? ⟨w.heap.size, 1, none⟩ = some (.slice ak m capk)) (by kernel_rfl) ⟨x0, x1⟩ (fun hHeld => ?_)
      refine takeH (i := 0) (some 5) (.pointer (some ⟨w.heap.size, 0, none⟩)) rfl rfl (by kernel_rfl) (by kernel_rfl) (by kernel_rfl) (fun _ _ _ h => h) (Or.inl ⟨by rfl, fun w hSw => by (try dsimp only at hSw); go_simp⟩) (by assumption) ?_
      simp only [Act.put, List.setIfInBounds_toArray, List.set_cons_zero, List.set_cons_succ]
      refine takeH (i := 1) (some 6) (.slice a n cap) rfl rfl (by kernel_rfl) (by kernel_rfl) (by kernel_rfl) (fun _ _ _ h => h) (Or.inl ⟨by rfl, fun w hSw => by (try dsimp only at hSw); go_simp⟩) (by assumption) ?_
      simp only [Act.put, List.setIfInBounds_toArray, List.set_cons_zero, List.set_cons_succ]
      refine wpAnyH_ready (rs := [2]) (by kernel_rfl) (by simp) ?_
      refine AllReadyH.cons rfl (fun K hK => ?_) AllReadyH.nil
      go_simp
      refine c0.mono ?_
      rintro e w1 ⟨rfl, b1⟩
      have b1 := undrewB b1
      have X1 := X0.on b1 hs
      have bb1 := b0.trans (b1.mono b0.size)
      go_simp
      refine hK.out _ _ ⟨X1.cell 0, X1.cell 1⟩ (fun hHeld1 => ?_)
      clear hK K c0 hHeld x0 x1
      refine takeH (i := 3) (some 8) (.bool false) rfl rfl (by kernel_rfl) (by kernel_rfl) (by kernel_rfl) (fun _ _ _ h => h) (Or.inl ⟨by rfl, fun w hSw => by (try dsimp only at hSw); go_simp⟩) (by assumption) ?_
      simp only [Act.put, List.setIfInBounds_toArray, List.set_cons_zero, List.set_cons_succ]
      refine takeH (i := 4) (some 9) (.bool false) rfl rfl (by kernel_rfl) (by kernel_rfl) (by kernel_rfl) (fun _ _ _ h => h) (Or.inl ⟨by rfl, fun w hSw => by (try dsimp only at hSw); go_simp⟩) (by assumption) ?_
      simp only [Act.put, List.setIfInBounds_toArray, List.set_cons_zero, List.set_cons_succ]
      refine takeH (i := 5) (some 10) (.pointer (some ⟨w.heap.size, 1, none⟩)) rfl rfl (by kernel_rfl) (by kernel_rfl) (by kernel_rfl) (fun _ _ _ h => h) (Or.inl ⟨by rfl, fun w hSw => by (try dsimp only at hSw); go_simp⟩) (by assumption) ?_
      simp only [Act.put, List.setIfInBounds_toArray, List.set_cons_zero, List.set_cons_succ]
      refine takeH (i := 6) (some 11) (.slice ak m capk) rfl rfl (by kernel_rfl) (by kernel_rfl) (by kernel_rfl) (fun _ _ _ h => h) (Or.inl ⟨by rfl, fun w hSw => by (try dsimp only at hSw); go_simp⟩) (by assumption) ?_
      simp only [Act.put, List.setIfInBounds_toArray, List.set_cons_zero, List.set_cons_succ]
      refine takeH (i := 7) (some 12) (.int .i64 m) rfl rfl (by kernel_rfl) (by kernel_rfl) (by kernel_rfl) (fun _ _ _ h => h) (Or.inl ⟨by rfl, fun w hSw => by (try dsimp only at hSw); go_simp⟩) (by assumption) ?_
      simp only [Act.put, List.setIfInBounds_toArray, List.set_cons_zero, List.set_cons_succ]
      refine takeH (i := 8) (some 13) (.bool false) rfl rfl (by kernel_rfl) (by kernel_rfl) (by kernel_rfl) (fun _ _ _ h => h) (Or.inl ⟨by rfl, fun w hSw => by (try dsimp only at hSw); go_simp⟩) (by assumption) ?_
      simp only [Act.put, List.setIfInBounds_toArray, List.set_cons_zero, List.set_cons_succ]
      refine takeH (i := 9) (some 14) (.bool false) rfl rfl (by kernel_rfl) (by kernel_rfl) (by kernel_rfl) (fun _ _ _ h => h) (Or.inl ⟨by rfl, fun w hSw => by (try dsimp only at hSw); go_simp⟩) (by assumption) ?_
      simp only [Act.put, List.setIfInBounds_toArray, List.set_cons_zero, List.set_cons_succ]
      refine takeH (i := 10) (some 15) (.bool false) rfl rfl (by kernel_rfl) (by kernel_rfl) (by kernel_rfl) (fun _ _ _ h => h) (Or.inl ⟨by rfl, fun w hSw => by (try dsimp only at hSw); go_simp⟩) (by assumption) ?_
      simp only [Act.put, List.setIfInBounds_toArray, List.set_cons_zero, List.set_cons_succ]
      refine takeH (i := 11) (some 16) (.pointer (some ⟨w.heap.size, 0, none⟩)) rfl rfl (by kernel_rfl) (by kernel_rfl) (by kernel_rfl) (fun _ _ _ h => h) (Or.inl ⟨by rfl, fun w hSw => by (try dsimp only at hSw); go_simp⟩) (by assumption) ?_
      simp only [Act.put, List.setIfInBounds_toArray, List.set_cons_zero, List.set_cons_succ]
      refine takeH (i := 12) (some 17) (.slice a n cap) rfl rfl (by kernel_rfl) (by kernel_rfl) (by kernel_rfl) (fun _ _ _ h => h) (Or.inl ⟨by rfl, fun w hSw => by (try dsimp only at hSw); go_simp⟩) (by assumption) ?_
      simp only [Act.put, List.setIfInBounds_toArray, List.set_cons_zero, List.set_cons_succ]
      refine takeH (i := 14) (some 19) (.pointer (some ⟨w.heap.size, 1, none⟩)) rfl rfl (by kernel_rfl) (by kernel_rfl) (by kernel_rfl) (fun _ _ _ h => h) (Or.inl ⟨by rfl, fun w hSw => by (try dsimp only at hSw); go_simp⟩) (by assumption) ?_
      simp only [Act.put, List.setIfInBounds_toArray, List.set_cons_zero, List.set_cons_succ]
      refine takeH (i := 15) (some 20) (.slice ak m capk) rfl rfl (by kernel_rfl) (by kernel_rfl) (by kernel_rfl) (fun _ _ _ h => h) (Or.inl ⟨by rfl, fun w hSw => by (try dsimp only at hSw); go_simp⟩) (by assumption) ?_
      simp only [Act.put, List.setIfInBounds_toArray, List.set_cons_zero, List.set_cons_succ]
      refine takeH (i := 16) (some 21) (.int .i64 m) rfl rfl (by kernel_rfl) (by kernel_rfl) (by kernel_rfl) (fun _ _ _ h => h) (Or.inl ⟨by rfl, fun w hSw => by (try dsimp only at hSw); go_simp⟩) (by assumption) ?_
      simp only [Act.put, List.setIfInBounds_toArray, List.set_cons_zero, List.set_cons_succ]
      refine takeH (i := 17) (some 22) (.bool t) rfl rfl (by kernel_rfl) (by kernel_rfl) (by kernel_rfl) (fun _ _ _ h => h) (Or.inl ⟨by rfl, fun w hSw => by (try dsimp only at hSw); go_simp⟩) (by assumption) ?_
      simp only [Act.put, List.setIfInBounds_toArray, List.set_cons_zero, List.set_cons_succ]
      refine wpAnyH_ready (rs := [13]) (by kernel_rfl) (by simp) ?_
      refine AllReadyH.cons rfl (fun K hK => ?_) AllReadyH.nil
      go_simp
      refine (forkImpl _ xs B w1 (hv.c.on bb1 hB) (by have := bb1.size; omega) (by omega)).mono ?_
      rintro e w2 ⟨rfl, b2⟩
      have X1 := X1.on b2 X1.lt
      have bb1 := bb1.trans (b2.mono (by have := bb1.size; omega))
      go_simp
      refine hK.out _ _ ⟨X1.cell 0, X1.cell 1⟩ (fun hHeld2 => ?_)
      clear hK K hHeld1
      obtain ⟨q, hq⟩ : ∃ q, hasFork xs = q := ⟨_, rfl⟩
      rw [hq]
      by_cases hqt : q = t
      · have HE : Hid (progOk xs kss = kss.all kidOk) := prog_allI HP.out (by omega) (by rw [hq, hqt, hm]; exact ht'.symm)
        subst hqt
        have d4 : (q != q) = false := by simp
        clear hq ht ht'
        refine takeH (i := 18) (some 23) (.bool false) rfl rfl (by kernel_rfl) (by kernel_rfl) (by kernel_rfl) (fun _ _ _ h => h) (Or.inl ⟨by rfl, fun w hSw => by (try dsimp only at hSw); go_simp⟩) (by assumption) ?_
        simp only [Act.put, List.setIfInBounds_toArray, List.set_cons_zero, List.set_cons_succ]
        refine takeH (i := 19) (some 24) (.bool false) rfl rfl (by kernel_rfl) (by kernel_rfl) (by kernel_rfl) (fun _ _ _ h => h) (Or.inl ⟨by rfl, fun w hSw => by (try dsimp only at hSw); go_simp⟩) (by assumption) ?_
        simp only [Act.put, List.setIfInBounds_toArray, List.set_cons_zero, List.set_cons_succ]
        refine wpAnyH_done (by kernel_rfl) ?_ _
        clear hHeld2
        have hvk := hv.k
        have HV := (show Hid _ from hvk)
        clear hvk
        obtain ⟨g, hg⟩ : ∃ g, w.heap.size = g := ⟨_, rfl⟩
        rw [hg] at hB bb1 X1 ⊢
        have hgw : g < w2.heap.size := X1.lt
        have y0 := X1.cell 1
        go_wp2
        clear y0
        go_loopw [28] (fun i' wr => ∃ k : Nat, k ≤ m ∧ i' = .int .i64 k ∧ (∀ j (h : j < kss.length), j < k → kidOk kss[j] = true) ∧ Below g w wr ∧ Blk wr g #[.slice a n cap, .slice ak m capk] 62) (fun i' _ => m - (intOf i').toNat)
        case atStart => exact ⟨0, Nat.zero_le _, rfl, fun j _ h => by omega, bb1, X1⟩
        case round =>
          obtain ⟨k, hk, rfl, hall, hb, X⟩ := hrel
          have y1 := X.cell 1
          have hsz : g ≤ wr.heap.size := by have := X.lt; omega
          by_cases hlt : k < m
          · obtain ⟨b, off, rfl, hbB, hc⟩ := SeesK.open HV.out (by omega)
            obtain ⟨s, hs1, hs2⟩ := hc k (by omega)
            have a0 := (hb.cell (p := ⟨b, off + k, none⟩) (by show b < g; omega)).trans hs1
            have bA := alloc_below wr (.cells #[.slice s.a s.n s.cap] 142)
            have cK := kidImpl _ _ B (wr.alloc (.cells #[.slice s.a s.n s.cap] 142)) (hs2.on (hb.trans (bA.mono hsz)) hB) (by simp; omega) (HA3.out _ (List.getElem_mem (show k < kss.length by omega)))
            have HAl := (show Hid _ from hall)
            have i1 : (k : Int) < m := by omega
            by_cases hko : kidOk kss[k] = true
            · have HF : Hid (∀ j (h : j < kss.length), j < k + 1 → kidOk kss[j] = true) := fun j hj hjk => by
                rcases Nat.lt_succ_iff_lt_or_eq.1 hjk with h | h
                · exact HAl.out j hj h
                · subst h; exact hko
              rw [hko] at cK
              clear hall hc hs1 hs2 hko
              go_wp2_with fail
              refine cK.mono ?_
              rintro e w3 ⟨rfl, hb3⟩
              clear cK
              go_wp2
              go_roundw
              case rel => exact ⟨k + 1, by omega, by go_num, HF.out, hb.trans ((bA.trans (hb3.mono bA.size)).mono hsz), X.on (bA.trans (hb3.mono bA.size)) X.lt⟩
              case measure => simp [intOf]; omega
            · have hko' : kidOk kss[k] = false := by simpa using hko
              have HF : Hid (false = progOk xs kss) := by
                show _ = _
                rw [HE.out]
                exact (List.all_eq_false.2 ⟨kss[k], List.getElem_mem (by omega), by simp [hko']⟩).symm
              rw [hko'] at cK
              clear hall hc hs1 hs2 hko hko'
              go_wp2_with fail
              refine cK.mono ?_
              rintro e w3 ⟨rfl, hb3⟩
              clear cK
              go_wp2
              go_ret
              exact ⟨retB HF.out, by rw [hg]; exact hb.trans ((bA.trans (hb3.mono bA.size)).mono hsz)⟩
          · have HF : Hid (true = progOk xs kss) := by
              show _ = _
              rw [HE.out]
              exact (List.all_eq_true.2 fun ks hks => by
                obtain ⟨j, hj, rfl⟩ := List.mem_iff_getElem.1 hks
                exact hall j hj (by omega)).symm
            obtain rfl : k = m := by omega
            clear hall
            go_wp2
            go_ret
            exact ⟨retB HF.out, by rw [hg]; exact hb⟩
      · have HF : Hid (false = progOk xs kss) := (prog_no3I (by rw [hq, hm, ht']; exact hqt)).symm
        have d4 : (q != t) = true := by simp [hqt]
        clear hq ht ht'
        refine takeH (i := 18) (some 23) (.bool true) rfl rfl (by kernel_rfl) (by kernel_rfl) (by kernel_rfl) (fun _ _ _ h => h) (Or.inl ⟨by rfl, fun w hSw => by (try dsimp only at hSw); go_simp⟩) (by assumption) ?_
        simp only [Act.put, List.setIfInBounds_toArray, List.set_cons_zero, List.set_cons_succ]
        refine takeH (i := 19) (some 24) (.bool true) rfl rfl (by kernel_rfl) (by kernel_rfl) (by kernel_rfl) (fun _ _ _ h => h) (Or.inl ⟨by rfl, fun w hSw => by (try dsimp only at hSw); go_simp⟩) (by assumption) ?_
        simp only [Act.put, List.setIfInBounds_toArray, List.set_cons_zero, List.set_cons_succ]
        refine wpAnyH_done (by kernel_rfl) ?_ _
        clear hHeld2
        go_wp2
        go_ret
        exact ⟨retB HF.out, bb1⟩

end Ops
end Go.Proofs.Ytajbmokidcdfnaa
/- The program's Serial: what is told of a run, and where the arguments are not right. -/
set_option linter.unusedVariables false
set_option linter.unusedSimpArgs false
namespace Go.Proofs.Ytajbmokidcdfnaa
open Go.RowKit
namespace Ops
open Bas Flat

/-- all arguments are right -/
def serOk (xs : List O4) (kss : List (List O4)) (zs : List Int) (t : Th) : Bool := progOk xs kss && ordOk zs kss.length && thOk t
/-- what is told of a run -/
def RunTold (xs : List O4) (kss : List (List O4)) (zs : List Int) (t : Th) (q : Rn) : Prop :=
  (serOk xs kss zs t = true ∧ Ends xs t (forkF kss (fullOrder zs kss.length)) ⟨0, zeros 4, t, []⟩ q ∧ (q.out = 1 ∨ q.out = 2) ∧ regsOk q.r = true ∧ thOk q.t = true) ∨
  (serOk xs kss zs t = false ∧ q = ⟨0, [], ⟨[], [], 0⟩⟩)
theorem RunTold.unique {xs : List O4} {kss : List (List O4)} {zs : List Int} {t : Th} {q q' : Rn} (h : RunTold xs kss zs t q) (h' : RunTold xs kss zs t q') : q = q' := by
  rcases h with ⟨h1, h2, -⟩ | ⟨h1, rfl⟩ <;> rcases h' with ⟨h1', h2', -⟩ | ⟨h1', rfl⟩
  · exact h2.unique h2'
  · rw [h1] at h1'; cases h1'
  · rw [h1] at h1'; cases h1'
  · rfl
end Ops
end Go.Proofs.Ytajbmokidcdfnaa
/- Forks of right kids keep things and registers right. -/
set_option linter.unusedVariables false
set_option linter.unusedSimpArgs false
namespace Go.Proofs.Ytajbmokidcdfnaa
namespace Ops

theorem ends_told {xs : List O4} {t0 : Th} {F : List Int → Th → List Int × Th} (hc : codeOk xs = true) (hF : ForkOk F) (h0 : thOk t0 = true) : ∀ (n : Nat) (s : Cf), xs.length - s.pc ≤ n → CfOk xs s → ∃ q, Ends xs t0 F s q ∧ (q.out = 1 ∨ q.out = 2) ∧ regsOk q.r = true ∧ thOk q.t = true := by
  intro n
  induction n with
  | zero => intro s hn hs; exact ⟨_, Ends.over (by omega), .inl rfl, hs.r, hs.t⟩
  | succ n ih =>
    intro s hn hs
    by_cases hp : s.pc < xs.length
    · have go : ∀ s', step xs t0 F s = .inl s' → CfOk xs s' → s.pc < s'.pc → ∃ q, Ends xs t0 F s q ∧ (q.out = 1 ∨ q.out = 2) ∧ regsOk q.r = true ∧ thOk q.t = true := fun s' e ok hlt => by
        obtain ⟨q, hq, h⟩ := ih s' (by omega) ok
        exact ⟨q, Leads.step hp e q hq, h⟩
      by_cases h8 : xs[s.pc].k = 8
      · obtain ⟨e, ok⟩ := step_begin (t0 := t0) (F := F) hs hp h8
        exact go _ e ok (Nat.lt_succ_self _)
      by_cases h9 : xs[s.pc].k = 9
      · obtain ⟨m, k, -, e, ok⟩ := step_end (t0 := t0) (F := F) hc hs hp h9
        exact go _ e ok (Nat.lt_succ_self _)
      by_cases h10 : xs[s.pc].k = 10
      · match hk : s.k with
        | [] => exact ⟨_, Ends.halt hp (step_give hs hp h10 hk), .inr rfl, hs.r, h0⟩
        | m :: k =>
          obtain ⟨e, c1, c2, c3, c4, c5⟩ := step_abort (t0 := t0) (F := F) hc hs hp h10 hk
          exact go _ c4 c5 (Nat.lt_succ_of_le c2)
      by_cases h11 : xs[s.pc].k = 11
      · obtain ⟨e, ok⟩ := step_fork (t0 := t0) hF hs hp h11
        exact go _ e ok (Nat.lt_succ_self _)
      · obtain ⟨e, ok, hlt⟩ := step_plain (t0 := t0) (F := F) hc hs hp h8 h9 h10 h11
        exact go _ e ok hlt
    · exact ⟨_, Ends.over (by omega), .inl rfl, hs.r, hs.t⟩
theorem ends_ok {xs : List O4} {F : List Int → Th → List Int × Th} (hc : codeOk xs = true) (hF : ForkOk F) {r : List Int} {t : Th} (hr : regsOk r = true) (ht : thOk t = true) {q : Rn} (h : Ends xs t F ⟨0, r, t, []⟩ q) : regsOk q.r = true ∧ thOk q.t = true := by
  obtain ⟨q', h', -, h1, h2⟩ := ends_told hc hF ht xs.length ⟨0, r, t, []⟩ (by show xs.length - 0 ≤ xs.length; omega) (CfOk.start hr ht)
  rw [h.unique h']; exact ⟨h1, h2⟩
theorem regs_each {l : List Int} (h : regsOk l = true) : ∀ x ∈ l, 0 ≤ x ∧ x ≤ 65535 := fun x hx => by
  obtain ⟨j, hj, rfl⟩ := List.mem_iff_getElem.1 hx
  exact (regsOk_out h).2 j hj
theorem regs_mk {l : List Int} (h : l.length = 4) (ha : ∀ x ∈ l, 0 ≤ x ∧ x ≤ 65535) : regsOk l = true := by
  unfold regsOk
  rw [Bool.and_eq_true]
  refine ⟨decide_eq_true h, List.all_eq_true.2 fun x hx => ?_⟩
  have := ha x hx
  unfold inn
  simp [this]
theorem mem_wr {l : List Int} {i x y : Int} (h : y ∈ wr l i x) : y ∈ l ∨ y = x := by
  unfold wr at h
  exact (List.mem_or_eq_of_mem_set h)
theorem kidOk_run {xs : List O4} (h : kidOk xs = true) {r : List Int} {t : Th} (hr : regsOk r = true) (ht : thOk t = true) : regsOk (run xs noF r t).r = true ∧ thOk (run xs noF r t).t = true := by
  obtain ⟨hc, -, -⟩ := kid_dry h
  obtain ⟨q, hq⟩ := ends_total (t := t) hc noF_ok hr ht
  rw [run_eq hc noF_ok hr ht hq]
  exact ends_ok hc noF_ok hr ht hq
theorem kidsGo_ok {kss : List (List O4)} (hk : ∀ ks ∈ kss, kidOk ks = true) {r : List Int} (hr : regsOk r = true) : ∀ (l res : List Int) (t : Th), (∀ i ∈ l, 0 ≤ i ∧ i < (kss.length : Int)) → thOk t = true → (∀ x ∈ res, 0 ≤ x ∧ x ≤ 65535) →
    thOk (kidsGo kss r l res t).2 = true ∧ (∀ x ∈ (kidsGo kss r l res t).1, 0 ≤ x ∧ x ≤ 65535) ∧ (kidsGo kss r l res t).1.length = res.length
  | [], res, t, _, ht, hx => ⟨ht, hx, rfl⟩
  | i :: l, res, t, hl, ht, hx => by
    have hi := hl i (by simp)
    obtain ⟨j, rfl⟩ := Int.eq_ofNat_of_zero_le hi.1
    have hj : j < kss.length := by omega
    have hks : kidOk (kss.getD ((j : Int)).toNat []) = true := by
      rw [Int.toNat_natCast, List.getD, List.getElem?_eq_getElem hj]
      exact hk _ (List.getElem_mem hj)
    obtain ⟨h1, h2⟩ := kidOk_run hks hr ht
    have h3 := kidsGo_ok hk hr l (if (run (kss.getD ((j : Int)).toNat []) noF r t).out = 1 then wr res j (rd (run (kss.getD ((j : Int)).toNat []) noF r t).r 0) else res) (run (kss.getD ((j : Int)).toNat []) noF r t).t (fun i hi => hl i (List.mem_cons_of_mem _ hi)) h2 (by
      intro x hx'
      split at hx'
      · rcases mem_wr hx' with h | rfl
        · exact hx x h
        · have hl4 := (regsOk_out h1).1
          unfold rd
          rw [show (0 : Int).toNat = 0 from rfl, List.getD, List.getElem?_eq_getElem (by omega)]
          exact regs_each h1 _ (List.getElem_mem (by omega))
      · exact hx x hx')
    refine ⟨h3.1, h3.2.1, h3.2.2.trans ?_⟩
    split
    · exact wr_length _ _ _
    · rfl
theorem fork_ok {kss : List (List O4)} (hk : ∀ ks ∈ kss, kidOk ks = true) (h3 : kss.length ≤ 3) {ord : List Int} (ho : ∀ i ∈ ord, 0 ≤ i ∧ i < (kss.length : Int)) : ForkOk (forkF kss ord) := fun r t hr ht => by
  obtain ⟨h1, h2, h4⟩ := kidsGo_ok hk hr ord (List.replicate kss.length 0) t ho ht (fun x hx => by rw [(List.mem_replicate.1 hx).2]; omega)
  have hl := (regsOk_out hr).1
  refine ⟨regs_mk ?_ fun x hx => ?_, h1⟩
  · show (_ ++ r.drop kss.length).length = 4
    rw [List.length_append, h4, List.length_replicate, List.length_drop]; omega
  · rcases List.mem_append.1 hx with h | h
    · exact h2 x h
    · exact regs_each hr x (List.mem_of_mem_drop h)
end Ops
end Go.Proofs.Ytajbmokidcdfnaa
