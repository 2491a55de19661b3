/- inTurn, HistOk and Stamps, as the program has them. -/
import Derived.Test.YtppikpdphcfomaaHistSort
import Derived.Test.YtppikpdphcfomaaHistSpec
import Derived.Test.YtppikpdphcfomaaLogImpl
import Derived.Test.YtppikpdphcfomaaCommitOkW
set_option linter.unusedVariables false
set_option linter.unusedSimpArgs false
namespace Go.Proofs.Ytppikpdphcfomaa
open Go.RowKit
namespace Hist
open Bas Flat Logs

set_option maxRecDepth 100000 in
set_option maxHeartbeats 1600000 in
theorem sortedC (v : Value) (xs : List Wx) (B : Nat) (w : World) (hv : Sees wxEl B w v xs) (hB : B ≤ w.heap.size) (hl : xs.length ≤ 200) :
    Calls Try.prog 72 #[v, .func (.func 73) #[] #[]] w fun e w' => ∃ v' ts, e = .returned v' ∧ ts.Perm xs ∧ ts.Pairwise (fun x y : Wx => x.s ≤ y.s) ∧ Owns wxEl 33 w.heap.size w' v' ts ∧ Below w.heap.size w w' := by
  have cC := cloneX v xs B w hv hB (by omega)
  obtain ⟨a, cap, rfl⟩ := hv.form
  obtain ⟨n, hn⟩ : ∃ n, xs.length = n := ⟨_, rfl⟩
  have HN := (show Hid _ from hn)
  have HL : Hid (xs.length ≤ 300) := by show _ ≤ _; omega
  rw [hn] at cC ⊢
  obtain ⟨g, hg⟩ : ∃ g, w.heap.size = g := ⟨_, rfl⟩
  rw [hg] at cC hB ⊢
  clear hv hl hn
  go_enter Try.func72, Try.ntmps72
  go_wp2_with fail
  refine cC.mono ?_
  rintro e w1 ⟨v1, rfl, O1, b1⟩
  obtain ⟨a1, c1, rfl⟩ := O1.form
  rw [HN.out] at O1 ⊢
  have cS := sortX g n c1 a1 w1 xs O1 HL.out
  have hd := O1.at
  go_wp2_with fail
  refine cS.mono ?_
  rintro e w2 ⟨rfl, ts, t1, t2, O2, G2⟩
  have b2 := b1.grown G2 (by have := b1.size; omega) (fun k hk => (hd k hk).1)
  go_wp2
  go_ret
  exact ⟨_, ts, rfl, t1, t2, O2, b2⟩

/-- the first k of these are right and rise, up to ah -/
structure Up (T : List Wr) (k : Nat) (ah : Int) : Prop where
  ent : ∀ j (h : j < T.length), j < k → entOk T[j] = true
  lt : ∀ i j (hi : i < T.length) (hj : j < T.length), i < j → j < k → T[i].s < T[j].s
  top : (k = 0 ∧ ah = 0) ∨ (∃ h : k - 1 < T.length, 0 < k ∧ T[k - 1].s = ah)
theorem Up.start (T : List Wr) : Up T 0 0 := ⟨fun j _ h => by omega, fun i j _ _ _ h => by omega, .inl ⟨rfl, rfl⟩⟩
theorem Up.nonneg {T : List Wr} {k : Nat} {ah : Int} (h : Up T k ah) : 0 ≤ ah := by
  rcases h.top with ⟨-, h1⟩ | ⟨h1, h2, h3⟩
  · omega
  · have := (entOk_out (h.ent (k - 1) h1 (by omega))).1; omega
theorem Up.step {T : List Wr} {k : Nat} {ah : Int} (h : Up T k ah) (hs : T.Pairwise (fun x y => x.s ≤ y.s)) (hk : k < T.length) (he : entOk T[k] = true) (hlt : ah < T[k].s) : Up T (k + 1) T[k].s where
  ent j hj hjk := by
    rcases Nat.lt_succ_iff_lt_or_eq.1 hjk with h1 | h1
    · exact h.ent j hj h1
    · subst h1; exact he
  lt i j hi hj hij hjk := by
    rcases Nat.lt_succ_iff_lt_or_eq.1 hjk with h1 | h1
    · exact h.lt i j hi hj hij h1
    · subst h1
      rcases h.top with ⟨h2, -⟩ | ⟨h2, h3, h4⟩
      · omega
      · rcases Nat.lt_or_ge i (j - 1) with h5 | h5
        · have := List.pairwise_iff_getElem.1 hs i (j - 1) hi h2 h5; omega
        · have e : i = j - 1 := by omega
          subst e; omega
  top := .inr ⟨by simpa using hk, by omega, rfl⟩
theorem Up.no {T : List Wr} {k : Nat} {ah : Int} (h : Up T k ah) (hs : T.Pairwise (fun x y => x.s ≤ y.s)) (hk : k < T.length) (hle : T[k].s ≤ ah) : histOk T = false := by
  rcases h.top with ⟨h1, h2⟩ | ⟨h2, h3, h4⟩
  · refine histOk_ent (List.getElem_mem hk) (entOk_s ?_)
    have : ¬ 1 ≤ T[k].s := by omega
    simp [Ops.inn, this]
  · have h5 := List.pairwise_iff_getElem.1 hs (k - 1) k h2 hk (by omega)
    exact histOk_two h2 hk (by omega) (by omega)
theorem Up.rising {T : List Wr} {ah : Int} (h : Up T T.length ah) : T.Pairwise (fun x y => x.s < y.s) := List.pairwise_iff_getElem.2 fun i j hi hj hij => h.lt i j hi hj hij hj
theorem Up.ok {T : List Wr} {ah : Int} (h : Up T T.length ah) (hl : T.length ≤ 200) : histOk T = true :=
  histOk_rising hl (fun e he => by obtain ⟨j, hj, rfl⟩ := List.mem_iff_getElem.1 he; exact h.ent j hj hj) h.rising
theorem inn_hi {x : Int} (h : 1000000 < x) : Ops.inn 1 1000000 x = false := by
  have : ¬ x ≤ 1000000 := by omega
  simp [Ops.inn, this]
theorem inn_in {x : Int} (h1 : 1 ≤ x) (h2 : x ≤ 1000000) : Ops.inn 1 1000000 x = true := by simp [Ops.inn, h1, h2]
def turned (ls : List Wr) : List Wr := if histOk ls = true then turnOf ls else []
theorem turned_no {ls : List Wr} (h : histOk ls = false) : turned ls = [] := by unfold turned; rw [h]; rfl
theorem turned_yes {ls : List Wr} (h : histOk ls = true) : turned ls = turnOf ls := by unfold turned; rw [if_pos h]
theorem turned_len (ls : List Wr) : (turned ls).length ≤ 200 := by
  cases h : histOk ls
  · rw [turned_no h]; simp
  · rw [turned_yes h, turn_length]; exact (histOk_iff.1 h).1
theorem SeesW.nil (B : Nat) (w : World) : SeesW B w (.slice none 0 0) [] := ⟨[], ⟨none, 0, rfl, by simp, by simp, fun h => absurd rfl h⟩, fun x h => absurd h List.not_mem_nil, rfl⟩
theorem ret_turn {v : Value} {a b : Bool} (h : a = b) : Ending.returned (.tuple #[v, .bool a]) = .returned (.tuple #[v, .bool b]) := by rw [h]

set_option maxRecDepth 100000 in
set_option maxHeartbeats 6400000 in
theorem inTurnC (v : Value) (ls : List Wr) (B : Nat) (w : World) (hv : SeesW B w v ls) (hB : B ≤ w.heap.size) :
    Calls Try.prog 41 #[v] w fun e w' => ∃ v', e = .returned (.tuple #[v', .bool (histOk ls)]) ∧ SeesW w'.heap.size w' v' (turned ls) ∧ Below w.heap.size w w' := by
  have hroom := hv.room
  obtain ⟨a, cap, rfl⟩ := hv.form
  obtain ⟨n, hn⟩ : ∃ n, ls.length = n := ⟨_, rfl⟩
  have hm : (n : Int) ≤ 9223372036854775807 := by unfold maxLen at hroom; omega
  obtain ⟨g, hg⟩ : ∃ g, w.heap.size = g := ⟨_, rfl⟩
  rw [hg] at hB ⊢
  by_cases h8 : n ≤ 200
  · obtain ⟨xs, hx1, hx2, hx3⟩ := hv
    have hxl : xs.length = n := by rw [← hn, ← hx3, List.length_map]
    rw [hn] at hx1 ⊢
    have cS := sortedC _ xs B w hx1 (by omega) (by omega)
    rw [hg] at cS
    have h8' : (n : Int) ≤ 200 := by omega
    have HX2 := (show Hid _ from hx2)
    have HN := (show Hid _ from hn)
    have HX3 := (show Hid _ from hx3)
    have HXL := (show Hid _ from hxl)
    clear hx1 hx2 hx3 hn hxl hroom
    go_enter Try.func41, Try.ntmps41
    go_wp2_with fail
    refine cS.mono ?_
    rintro e w1 ⟨v1, ts, rfl, t1, t2, O1, b1⟩
    clear cS
    obtain ⟨T, hT⟩ : ∃ T, ts.map Wx.wr = T := ⟨_, rfl⟩
    have HP : Hid (T.Perm ls) := by rw [← hT, ← HX3.out]; exact t1.map _
    have HS : Hid (T.Pairwise (fun x y : Wr => x.s ≤ y.s)) := by rw [← hT]; exact List.pairwise_map.2 t2
    have HTL : Hid (T.length = n) := by rw [← HN.out]; exact HP.out.length_eq
    have htl : ts.length = n := by rw [← HXL.out]; exact t1.length_eq
    have V1 : Hid (SeesW w1.heap.size w1 v1 T) := ⟨ts, O1.sees, fun x hx => ((HX2.out x (t1.mem_iff.1 hx)).on b1 hB).up (by have := b1.size; omega), hT⟩
    obtain ⟨a1, c1, rfl⟩ := O1.form
    rw [htl] at V1 ⊢
    clear O1 t1 t2 hT htl
    have hz1 := b1.size
    go_wp2_with fail
    go_loopw [5, 15] (fun av iv wr => ∃ (k : Nat) (ah : Int), k ≤ n ∧ iv = .int .i64 k ∧ av = .int .i64 ah ∧ Hid (Up T k ah) ∧ Below w1.heap.size w1 wr) (fun _ iv _ => n - (intOf iv).toNat)
    case atStart => exact ⟨0, 0, by omega, rfl, rfl, Up.start T, Below.refl _ _⟩
    case round =>
      obtain ⟨k, ah, hk, rfl, rfl, HU, hb⟩ := hrel
      have hsz : w1.heap.size ≤ wr.heap.size := hb.size
      obtain ⟨h, hh⟩ : ∃ h, w1.heap.size = h := ⟨_, rfl⟩
      have HH := (show Hid _ from hh)
      by_cases hlt : k < n
      · have hkl : k < T.length := by have := HTL.out; omega
        obtain ⟨b, off, rfl, hbB, hc⟩ := SeesW.open (SeesW.on V1.out hb (Nat.le_refl _)) (Nat.lt_of_le_of_lt (Nat.zero_le k) hkl)
        obtain ⟨p, c, e0, e1, e2, p2⟩ := hc k hkl
        obtain ⟨x, hx⟩ : ∃ x, T[k] = x := ⟨_, rfl⟩
        have HX := (show Hid (T[k] = x) from hx)
        rw [hx] at e0 e1 e2 p2
        obtain ⟨m, hm'⟩ : ∃ m, x.ps.length = m := ⟨_, rfl⟩
        rw [hm'] at e2 p2
        have X0 := Blk.new wr #[.int .i64 x.s, .int .i64 x.who, .slice p m c] 33
        have x0 := X0.cell 0; have x1 := X0.cell 1; have x2 := X0.cell 2
        have a0 := alloc_below wr (.cells #[.int .i64 x.s, .int .i64 x.who, .slice p m c] 33)
        have i1 : (k : Int) < n := by omega
        have c2 := fun W => Commits.ownerC x.who W
        have c3 := Logs.implOk _ x.ps w1.heap.size _ (p2.on (a0.mono hsz) (Nat.le_refl _)) (by have := a0.size; omega)
        have bA : Below h w1 (wr.alloc (.cells #[.int .i64 x.s, .int .i64 x.who, .slice p m c] 33)) := by rw [← hh]; exact hb.trans (a0.mono hsz)
        have hsA : h ≤ (wr.alloc (.cells #[.int .i64 x.s, .int .i64 x.who, .slice p m c] 33)).heap.size := by have := a0.size; omega
        obtain ⟨r2, h2⟩ : ∃ r, Ops.inn 1 99 x.who = r := ⟨_, rfl⟩
        obtain ⟨r3, h3⟩ : ∃ r, rowsOk x.ps = r := ⟨_, rfl⟩
        rw [h2] at c2; rw [h3] at c3
        have H2 := (show Hid _ from h2); have H3 := (show Hid _ from h3)
        have hmem : T[k] ∈ T := List.getElem_mem hkl
        have HFN : Hid (entOk T[k] = false → histOk ls = false) := fun he => by rw [← histOk_perm HP.out]; exact histOk_ent hmem he
        have bend : ∀ W, Below h w1 W → Below g w W := fun W bw => b1.trans (bw.mono (by omega))
        have HB := (show Hid _ from bend)
        clear hc h2 h3 hx p2 hm' X0 hmem hh bend
        by_cases q0 : x.s ≤ ah
        · have HF : Hid (histOk ls = false) := by rw [← histOk_perm HP.out]; exact HU.out.no HS.out hkl (by rw [HX.out]; exact q0)
          have HE : Hid (turned ls = []) := turned_no HF.out
          clear c2 c3
          go_wp2_with fail
          go_ret2
          exact ⟨_, ret_turn HF.out.symm, by rw [HE.out]; exact SeesW.nil _ _, HB.out _ bA⟩
        by_cases q1 : (1000000 : Int) < x.s
        · have HF : Hid (histOk ls = false) := HFN.out (by rw [HX.out]; exact entOk_s (inn_hi q1))
          have HE : Hid (turned ls = []) := turned_no HF.out
          clear c2 c3
          have q0' : ah < x.s := by omega
          go_wp2_with fail
          go_ret2
          exact ⟨_, ret_turn HF.out.symm, by rw [HE.out]; exact SeesW.nil _ _, HB.out _ bA⟩
        have q0' : ah < x.s := by omega
        have q1' : x.s ≤ 1000000 := by omega
        clear q0 q1
        cases r2
        · have HF : Hid (histOk ls = false) := HFN.out (by rw [HX.out]; exact entOk_who H2.out)
          have HE : Hid (turned ls = []) := turned_no HF.out
          clear c3
          go_wp2_with (go_at_call 74; refine (c2 _).mono ?_; rintro e w2 ⟨rfl, rfl⟩)
          go_ret2
          exact ⟨_, ret_turn HF.out.symm, by rw [HE.out]; exact SeesW.nil _ _, HB.out _ bA⟩
        cases r3
        · have HF : Hid (histOk ls = false) := HFN.out (by rw [HX.out]; exact entOk_ps H3.out)
          have HE : Hid (turned ls = []) := turned_no HF.out
          go_wp2_with (first | (go_at_call 74; refine (c2 _).mono ?_; rintro e w2 ⟨rfl, rfl⟩) | (go_at_call 75; refine c3.mono ?_; rintro e w2 ⟨rfl, b2⟩))
          go_ret2
          exact ⟨_, ret_turn HF.out.symm, by rw [HE.out]; exact SeesW.nil _ _, HB.out _ (bA.trans (b2.mono hsA))⟩
        have HXE : Hid (entOk T[k] = true) := by
          show _ = _
          rw [HX.out]
          have h0 := HU.out.nonneg
          exact entOk_mk (inn_in (by omega) q1') H2.out H3.out
        have HUN : Hid (Up T (k + 1) x.s) := by
          have := HU.out.step HS.out hkl HXE.out (by rw [HX.out]; exact q0')
          rw [HX.out] at this; exact this
        have X0 := Blk.new wr #[.int .i64 x.s, .int .i64 x.who, .slice p m c] 33
        go_wp2_with (first | (go_at_call 74; refine (c2 _).mono ?_; rintro e w2 ⟨rfl, rfl⟩) | (go_at_call 75; refine c3.mono ?_; rintro e w2 ⟨rfl, b2⟩; have x5 := (X0.on b2 X0.lt).cell 0))
        go_roundw
        case rel => exact ⟨k + 1, x.s, by omega, by go_num, rfl, HUN, by have e := HH.out; rw [e]; exact bA.trans (b2.mono hsA)⟩
        case measure => simp [intOf]; omega
      · obtain rfl : k = n := by omega
        have HUT : Hid (Up T T.length ah) := by have := HU.out; rw [← HTL.out] at this; exact this
        have HOK : Hid (histOk ls = true) := by rw [← histOk_perm HP.out]; exact HUT.out.ok (by have := HTL.out; omega)
        have HE : Hid (turned ls = T) := by show _ = _; rw [turned_yes HOK.out]; exact (turn_unique HP.out HUT.out.rising).symm
        have i1 : ¬ (k : Int) < k := by omega
        go_wp2
        go_ret2
        exact ⟨_, ret_turn HOK.out.symm, by rw [HE.out]; exact (SeesW.on V1.out hb (Nat.le_refl _)).up hsz, b1.trans (hb.mono (by omega))⟩
  · have HF : Hid (histOk ls = false) := histOk_len (by omega)
    have HE : Hid (turned ls = []) := turned_no HF.out
    rw [hn]
    have h8' : (200 : Int) < n := by omega
    clear hn hroom hv
    go_enter Try.func41, Try.ntmps41
    go_wp2
    go_ret2
    exact ⟨_, ret_turn HF.out.symm, by rw [HE.out]; exact SeesW.nil _ _, Below.refl _ _⟩
end Hist
end Go.Proofs.Ytppikpdphcfomaa
