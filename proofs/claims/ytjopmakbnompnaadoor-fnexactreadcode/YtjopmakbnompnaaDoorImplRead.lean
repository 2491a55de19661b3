/- What the program's ReadOp answers. -/
import Derived.Test.YtjopmakbnompnaaDoorImplWords
import Derived.Test.YtjopmakbnompnaaDoorImplParts
import Derived.Test.YtjopmakbnompnaaDoorReadDecWalks
import Derived.Deep.RegionHeld3
set_option linter.unusedVariables false
set_option linter.unusedSimpArgs false
namespace Go.Proofs.YtjopmakbnompnaaDoor
open Go.RowKit
namespace Ops
open Bas Flat Strs Num

/-- what the program's functions find laid -/
structure Laid (w : World) : Prop where
  t : WTab w
  d : Dec.Tab w
  e : ReadDec.Errs w
theorem Laid.on {w w' : World} (h : Laid w) (hb : Below w.heap.size w w') : Laid w' := ⟨WTab.on h.t hb, Dec.Tab.on h.d hb, ReadDec.Errs.on h.e hb⟩
/-- what ReadOp answers -/
def ToldOpI (l : Txt) (e : Ending) : Prop := ∃ (o : O4) (b : Bool), e = .returned (.tuple #[o.val, .bool b]) ∧ RdOp l o b
/-- the parts, the numbers that were read, the result's place -/
structure IRd (w W : World) (p : Nat) (vp : Value) (ps : List Txt) (a b c : Int) : Prop where
  P : OwnsS w.heap.size W vp ps
  R : Blk W w.heap.size #[.int .i64 0, .int .i64 0, .int .i64 0, .int .i64 0] 25
  F : Blk W p #[.int .i64 a, .int .i64 b, .int .i64 c] 60
  ne : w.heap.size < p
  b : Below w.heap.size w W
section
variable {w W W' : World} {p : Nat} {vp : Value} {ps : List Txt} {a b c : Int}
theorem IRd.on (h : IRd w W p vp ps a b c) (hb : Below W.heap.size W W') : IRd w W' p vp ps a b c :=
  { P := h.P.on hb (Nat.le_refl _), R := h.R.on hb h.R.lt, F := h.F.on hb h.F.lt, ne := h.ne, b := h.b.trans (hb.mono h.b.size) }
theorem IRd.set (h : IRd w W p vp ps a b c) (i : Nat) (u : Value) {a' b' c' : Int} (e : (#[.int .i64 a, .int .i64 b, .int .i64 c] : Array Value).setIfInBounds i u = #[.int .i64 a', .int .i64 b', .int .i64 c']) : IRd w (W.setCell ⟨p, i, none⟩ u) p vp ps a' b' c' :=
  have hne := h.ne
  { P := h.P.other (h.P.off h.F (by decide)) _, R := h.R.other (by omega) _ _, F := by have := h.F.set i u; rw [e] at this; exact this, ne := hne, b := h.b.setCell (by show w.heap.size ≤ p; omega) _ }
theorem IRd.four (h : IRd w W p vp ps a b c) (k x y z : Int) : Below w.heap.size w ((((W.setCell ⟨w.heap.size, 0, none⟩ (.int .i64 k)).setCell ⟨w.heap.size, 1, none⟩ (.int .i64 x)).setCell ⟨w.heap.size, 2, none⟩ (.int .i64 y)).setCell ⟨w.heap.size, 3, none⟩ (.int .i64 z)) :=
  (((h.b.setCell (p := ⟨w.heap.size, 0, none⟩) (Nat.le_refl _) (.int .i64 k)).setCell (p := ⟨w.heap.size, 1, none⟩) (Nat.le_refl _) (.int .i64 x)).setCell (p := ⟨w.heap.size, 2, none⟩) (Nat.le_refl _) (.int .i64 y)).setCell (p := ⟨w.heap.size, 3, none⟩) (Nat.le_refl _) (.int .i64 z)
end
theorem set_num {ns : List Int} {j : Nat} {n : Int} (hl : ns.length = j) (hj : j < 3) : (#[.int .i64 (ns.getD 0 0), .int .i64 (ns.getD 1 0), .int .i64 (ns.getD 2 0)] : Array Value).setIfInBounds j (.int .i64 n) = #[.int .i64 ((ns ++ [n]).getD 0 0), .int .i64 ((ns ++ [n]).getD 1 0), .int .i64 ((ns ++ [n]).getD 2 0)] := by
  match ns, hl with
  | [], h => subst h; rfl
  | [a], h => subst h; rfl
  | [a, b], h => subst h; rfl
  | _ :: _ :: _ :: _, h => simp at h; omega
theorem undrewI {B : Nat} {w w' : World} (h : Below B w.drew w') : Below B w w' := ⟨h.os, h.tape, h.output, h.size, h.block⟩

set_option maxRecDepth 100000 in
set_option maxHeartbeats 8000000 in
theorem readOpI (L : Txt) (hs : L.length ≤ 1048576) (w : World) (hl : Laid w) :
    Calls Tryd.prog 12 #[.string ⟨L.toArray⟩] w fun e w' => ToldOpI L e ∧ Below w.heap.size w w' := by
  have b0 := alloc_below w (.cells #[.int .i64 0, .int .i64 0, .int .i64 0, .int .i64 0] 25)
  have R0 := Blk.new w #[.int .i64 0, .int .i64 0, .int .i64 0, .int .i64 0] 25
  obtain ⟨w0, hw0⟩ : ∃ w0, w.alloc (.cells #[.int .i64 0, .int .i64 0, .int .i64 0, .int .i64 0] 25) = w0 := ⟨_, rfl⟩
  have HW0 : Hid (w.alloc (.cells #[.int .i64 0, .int .i64 0, .int .i64 0, .int .i64 0] 25) = w0) := hw0
  have hz0 : w0.heap.size = w.heap.size + 1 := by rw [← hw0]; simp
  rw [hw0] at b0 R0
  clear hw0
  have bF := alloc_below w0 (.cells #[.int .i64 0, .int .i64 0, .int .i64 0] 60)
  have F0 := Blk.new w0 #[.int .i64 0, .int .i64 0, .int .i64 0] 60
  rw [hz0] at F0
  have RF := R0.on bF R0.lt
  have bb0 := b0.trans (bF.mono b0.size)
  obtain ⟨wF, hwF⟩ : ∃ wF, w0.alloc (.cells #[.int .i64 0, .int .i64 0, .int .i64 0] 60) = wF := ⟨_, rfl⟩
  have HWF : Hid (w0.alloc (.cells #[.int .i64 0, .int .i64 0, .int .i64 0] 60) = wF) := hwF
  rw [hwF] at bF F0 RF bb0
  clear hwF
  obtain ⟨p, hp⟩ : ∃ p, w.heap.size + 1 = p := ⟨_, rfl⟩
  have hpw : w.heap.size < p := by omega
  rw [hp] at F0 hz0
  have c1 := splitNC L hs wF
  go_enter Tryd.func12, Tryd.ntmps12
  go_wp2_with fail
  rw [HW0.out, HWF.out]
  refine c1.mono ?_
  rintro e w1 ⟨v1, p0, r, rfl, P1, hP, hlen, b1⟩
  clear c1
  have HP : Hid (PartsIs L p0 r) := hP
  have HLn : Hid (∀ q ∈ p0 :: r, q.length ≤ 1048576) := fun q hq => Nat.le_trans (hlen q hq) hs
  have S : IRd w w1 p v1 (p0 :: r) 0 0 0 :=
    { P := P1.mono bb0.size, R := RF.on b1 RF.lt, F := F0.on b1 F0.lt, ne := hpw, b := bb0.trans (b1.mono bb0.size) }
  clear hP hlen P1 b1 F0 RF bb0 bF R0 b0 HW0 HWF hp
  obtain ⟨a1, cp1, rfl⟩ := S.P.form
  obtain ⟨m, hm⟩ : ∃ m, (p0 :: r).length = m := ⟨_, rfl⟩
  have hrm : r.length + 1 = m := by rw [← hm]; simp
  have hm1 : 1 ≤ m := by omega
  rw [hm] at S ⊢
  clear hm
  obtain ⟨q, off, rfl, hq, hcc⟩ := S.P.sees.open (by simp)
  have s1 := seeS hcc 0 (by simp)
  rw [Nat.add_zero, List.getElem_cons_zero] at s1
  have i3 : (0 : Int) < m := by omega
  have i4 : 0 < m := hm1
  have hcap : m ≤ cp1 := by
    obtain ⟨a', c', e', h1, -⟩ := S.P.sees
    injection e' with _ e1 e2
    rw [e1, e2]; exact h1
  have HT := (show Hid _ from hl.t)
  have hp0 := HLn.out p0 (by simp)
  clear hcc
  go_wp2_with fail
  go_region_held3 (fun W => W.cell? ⟨q, off, none⟩ = some (.string ⟨p0.toArray⟩)) (go_keep) ((go_at_call 38; refine (kindsC _ ?_).mono ?_; show WTab w1; exact WTab.on HT.out S.b; rintro e w2 ⟨bt, rfl, hlk, b2⟩; have hlk2 := hlk p0 hp0; have s2 := (undrewI b2).cell (World.block_lt_of_cell? _ _ s1) |>.trans s1))
  have b2 : Below w1.heap.size w1 w2 := undrewI b2
  have S := S.on b2
  clear hlk hlk2 s1 s2 HT b2
  rename_i hheld
  clear hheld
  obtain ⟨kk, hkk⟩ : ∃ kk, kindTo p0 17 = kk := ⟨_, rfl⟩
  have HKK : Hid (kindTo p0 17 = kk) := hkk
  rw [hkk]
  clear hkk
  by_cases hk0 : kk = 0
  · have HF : Hid (RdOp L z4 false) := pi_kind HP.out (.inl (by rw [HKK.out]; exact hk0))
    subst hk0
    have r0 := S.R.cell 0; have r1 := S.R.cell 1; have r2 := S.R.cell 2; have r3 := S.R.cell 3
    have z0 := S.R.froz 0; have z1 := S.R.froz 1; have z2 := S.R.froz 2; have z3 := S.R.froz 3
    have bz := S.four 0 0 0 0
    clear S
    go_wp2
    refine bodyPost_ret (v := .tuple #[.agg #[.int .i64 0, .int .i64 0, .int .i64 0, .int .i64 0], .bool false]) (by simp [results, Tryd.results12, go_sem, r0, r1, r2, r3, z0, z1, z2, z3]) rfl ?_
    exact ⟨⟨z4, false, rfl, HF.out⟩, bz⟩
  have dk : decide (kk = 0) = false := decide_eq_false hk0
  have hk16 : 1 ≤ (kk : Int) ∧ (kk : Int) ≤ 16 := by have := (kind_word (p := p0) (by rw [HKK.out]; exact hk0)).1; rw [HKK.out] at this; exact this
  have cN := namedC kk hk16 w2
  have hna := nargs_le (kk : Int)
  obtain ⟨na, hnae⟩ : ∃ n, nargs (kk : Int) = n := ⟨_, rfl⟩
  have HNA : Hid (nargs (kk : Int) = na) := hnae
  rw [hnae] at cN hna
  clear hnae
  by_cases hme : m = 1 + na
  case neg =>
    have HF : Hid (RdOp L z4 false) := pi_kind HP.out (.inr (by rw [HKK.out, HNA.out]; omega))
    have dm : ((m : Int) != 1 + (na : Int)) = true := by simp; omega
    go_wp2_with fail
    refine cN.mono ?_
    rintro e w3 ⟨rfl, b3⟩
    clear cN
    have S := S.on b3
    have r0 := S.R.cell 0; have r1 := S.R.cell 1; have r2 := S.R.cell 2; have r3 := S.R.cell 3
    have z0 := S.R.froz 0; have z1 := S.R.froz 1; have z2 := S.R.froz 2; have z3 := S.R.froz 3
    have bz := S.four 0 0 0 0
    clear S
    go_wp2
    refine bodyPost_ret (v := .tuple #[.agg #[.int .i64 0, .int .i64 0, .int .i64 0, .int .i64 0], .bool false]) (by simp [results, Tryd.results12, go_sem, r0, r1, r2, r3, z0, z1, z2, z3]) rfl ?_
    exact ⟨⟨z4, false, rfl, HF.out⟩, bz⟩
  subst hme
  have dm : (((1 + na : Nat) : Int) != 1 + (na : Int)) = false := by simp
  have n1 : (1 : Int) ≤ ((1 + na : Nat) : Int) := by omega
  go_wp2_with fail
  refine cN.mono ?_
  rintro e w3 ⟨rfl, b3⟩
  clear cN
  have S := S.on b3
  clear b3
  have HT2 := (show Hid _ from hl)
  clear hl
  by_cases hcp : cp1 = 1
  · have hna0 : na = 0 := by omega
    go_wp2
    go_loopw [8, 9, 10, 11, 37] (fun _ _ _ _ iv wr => ∃ (j : Nat) (ns : List Int), j ≤ na ∧ iv = .int .i64 j ∧ ns.length = j ∧ ReadN r ns ∧ IRd w wr p (.slice (some ⟨q, off, none⟩) (1 + na) cp1) (p0 :: r) (ns.getD 0 0) (ns.getD 1 0) (ns.getD 2 0)) (fun _ _ _ _ iv _ => na - (intOf iv).toNat)
    case atStart => exact ⟨0, [], Nat.zero_le _, rfl, rfl, readN_nil r, S⟩
    case round =>
      obtain ⟨j, ns, hj, rfl, hnl, hrn, S⟩ := hrel
      by_cases hlt : j < na
      · exact absurd hlt (by omega)
      · obtain rfl : j = na := by omega
        have j1 : ¬ (j : Int) < j := by omega
        have HA := (show Hid _ from pi_all HP.out (by rw [HKK.out]; exact hk0) hrn (by omega) (by rw [HKK.out, HNA.out]; omega))
        rw [HKK.out] at HA
        have eo : ofNums (kk : Int) ns = ⟨kk, ns.getD 0 0, ns.getD 1 0, ns.getD 2 0⟩ := rfl
        rw [eo] at HA
        clear eo hrn
        obtain ⟨x0, hx0⟩ : ∃ x, ns.getD 0 0 = x := ⟨_, rfl⟩
        obtain ⟨x1, hx1⟩ : ∃ x, ns.getD 1 0 = x := ⟨_, rfl⟩
        obtain ⟨x2, hx2⟩ : ∃ x, ns.getD 2 0 = x := ⟨_, rfl⟩
        rw [hx0, hx1, hx2] at HA S
        clear hx0 hx1 hx2
        have f0 := S.F.cell 0; have f1 := S.F.cell 1; have f2 := S.F.cell 2
        have bA := alloc_below wr (.cells #[.int .i64 kk, .int .i64 x0, .int .i64 x1, .int .i64 x2] 25)
        have O1 := Blk.new wr #[.int .i64 kk, .int .i64 x0, .int .i64 x1, .int .i64 x2] 25
        have SA := S.on bA
        have cO := implC kk x0 x1 x2 (wr.alloc (.cells #[.int .i64 kk, .int .i64 x0, .int .i64 x1, .int .i64 x2] 25))
        have eV : opV kk x0 x1 x2 = .agg #[.int .i64 kk, .int .i64 x0, .int .i64 x1, .int .i64 x2] := rfl
        have eO : opOk kk x0 x1 x2 = okOp ⟨kk, x0, x1, x2⟩ := rfl
        rw [eV, eO] at cO
        obtain ⟨ok, hok⟩ : ∃ ok, okOp ⟨kk, x0, x1, x2⟩ = ok := ⟨_, rfl⟩
        rw [hok] at cO HA
        clear eV eO hok S
        have hzz := O1.lt
        go_wp2_with fail
        refine cO.mono ?_
        rintro e w5 ⟨rfl, b5⟩
        clear cO f0 f1 f2
        have S := SA.on b5
        have O5 := O1.on b5 O1.lt
        have r0 := S.R.cell 0; have r1 := S.R.cell 1; have r2 := S.R.cell 2; have r3 := S.R.cell 3
        have z0 := S.R.froz 0; have z1 := S.R.froz 1; have z2 := S.R.froz 2; have z3 := S.R.froz 3
        cases ok
        · have HF : Hid (RdOp L z4 false) := HA.out.2 rfl
          have bz := S.four 0 0 0 0
          clear S SA HA
          go_wp2
          refine bodyPost_ret (v := .tuple #[.agg #[.int .i64 0, .int .i64 0, .int .i64 0, .int .i64 0], .bool false]) (by simp [results, Tryd.results12, go_sem, r0, r1, r2, r3, z0, z1, z2, z3]) rfl ?_
          exact ⟨⟨z4, false, rfl, HF.out⟩, bz⟩
        · have HF : Hid (RdOp L ⟨kk, x0, x1, x2⟩ true) := HA.out.1 rfl
          have o0 := O5.cell 0; have o1 := O5.cell 1; have o2 := O5.cell 2; have o3 := O5.cell 3
          have bz := S.four kk x0 x1 x2
          clear S SA HA
          go_wp2
          refine bodyPost_ret (v := .tuple #[.agg #[.int .i64 kk, .int .i64 x0, .int .i64 x1, .int .i64 x2], .bool true]) (by simp [results, Tryd.results12, go_sem, r0, r1, r2, r3, z0, z1, z2, z3]) rfl ?_
          exact ⟨⟨⟨kk, x0, x1, x2⟩, true, rfl, HF.out⟩, bz⟩
  · go_wp2
    go_loopw [8, 9, 10, 11, 37] (fun _ _ _ _ iv wr => ∃ (j : Nat) (ns : List Int), j ≤ na ∧ iv = .int .i64 j ∧ ns.length = j ∧ ReadN r ns ∧ IRd w wr p (.slice (some ⟨q, off, none⟩) (1 + na) cp1) (p0 :: r) (ns.getD 0 0) (ns.getD 1 0) (ns.getD 2 0)) (fun _ _ _ _ iv _ => na - (intOf iv).toNat)
    case atStart => exact ⟨0, [], Nat.zero_le _, rfl, rfl, readN_nil r, S⟩
    case round =>
      obtain ⟨j, ns, hj, rfl, hnl, hrn, S⟩ := hrel
      by_cases hlt : j < na
      · have hjr : j < r.length := by omega
        obtain ⟨q', off', e', hq', hcc⟩ := S.P.sees.open (by simp)
        simp only [Option.some.injEq, Addr.mk.injEq, and_true] at e'
        obtain ⟨rfl, rfl⟩ := e'
        have s1 := seeS hcc (j + 1) (by simp; omega)
        rw [List.getElem_cons_succ, show off + (j + 1) = off + 1 + j by omega] at s1
        have j1 : (j : Int) < na := by omega
        have j0 : (0 : Int) ≤ j := by omega
        have hlj := HLn.out r[j] (List.mem_cons_of_mem _ (List.getElem_mem hjr))
        have HNo := (show Hid _ from (fun (n : Int) (h : RdRes r[j] n false) => pi_num HP.out hjr h))
        have HYs := (show Hid _ from (fun (n : Int) (h : RdRes (r[ns.length]'(by omega)) n true) => readN_snoc hrn (by omega) h))
        have HE : Hid (∀ h : ns.length < r.length, r[ns.length] = r[j]) := fun h => by congr 1
        obtain ⟨pt, hpt⟩ : ∃ pt, r[j] = pt := ⟨_, rfl⟩
        have HPT : Hid (r[j] = pt) := hpt
        rw [hpt] at s1 hlj HNo
        clear hpt hcc
        have cD := ReadDec.impl_any ⟨pt.toArray⟩ (by show pt.toArray.size ≤ _; simpa using hlj) wr (HT2.out.on S.b).d (HT2.out.on S.b).e
        have eL : (⟨pt.toArray⟩ : ByteArray).data.toList = pt := by simp
        rw [eL] at cD
        clear eL
        go_wp2_with fail
        refine cD.mono ?_
        rintro e w4 ⟨⟨n, bo, rfl, hrd⟩, b4⟩
        clear cD s1
        have S := S.on b4
        clear b4
        cases bo
        · have HF : Hid (RdOp L z4 false) := HNo.out n hrd
          have r0 := S.R.cell 0; have r1 := S.R.cell 1; have r2 := S.R.cell 2; have r3 := S.R.cell 3
          have z0 := S.R.froz 0; have z1 := S.R.froz 1; have z2 := S.R.froz 2; have z3 := S.R.froz 3
          have bz := S.four 0 0 0 0
          clear S hrd HNo HYs hrn
          go_wp2
          refine bodyPost_ret (v := .tuple #[.agg #[.int .i64 0, .int .i64 0, .int .i64 0, .int .i64 0], .bool false]) (by simp [results, Tryd.results12, go_sem, r0, r1, r2, r3, z0, z1, z2, z3]) rfl ?_
          exact ⟨⟨z4, false, rfl, HF.out⟩, bz⟩
        · have HR : Hid (ReadN r (ns ++ [n])) := HYs.out n (by rw [HE.out (by omega), HPT.out]; exact hrd)
          have fc := S.F.cell j
          have ff := S.F.froz j
          have hj3 : (j : Int) < 3 := by omega
          have S' : IRd w (w4.setCell ⟨p, j, none⟩ (.int .i64 n)) p (.slice (some ⟨q, off, none⟩) (1 + na) cp1) (p0 :: r) ((ns ++ [n]).getD 0 0) ((ns ++ [n]).getD 1 0) ((ns ++ [n]).getD 2 0) := S.set j (.int .i64 n) (set_num hnl (by omega))
          have hfc : ∃ u, w4.cell? ⟨p, j, none⟩ = some u := by
            rw [fc]
            match j, (show j < 3 by omega) with
            | 0, _ => exact ⟨_, rfl⟩
            | 1, _ => exact ⟨_, rfl⟩
            | 2, _ => exact ⟨_, rfl⟩
          obtain ⟨u, hu⟩ := hfc
          clear fc S hrd HNo HYs hrn
          go_wp2
          go_roundw
          case rel => exact ⟨j + 1, ns ++ [n], by omega, by go_num, by simp [hnl], HR.out, S'⟩
          case measure => simp [intOf]; omega
      · obtain rfl : j = na := by omega
        have j1 : ¬ (j : Int) < j := by omega
        have HA := (show Hid _ from pi_all HP.out (by rw [HKK.out]; exact hk0) hrn (by omega) (by rw [HKK.out, HNA.out]; omega))
        rw [HKK.out] at HA
        have eo : ofNums (kk : Int) ns = ⟨kk, ns.getD 0 0, ns.getD 1 0, ns.getD 2 0⟩ := rfl
        rw [eo] at HA
        clear eo hrn
        obtain ⟨x0, hx0⟩ : ∃ x, ns.getD 0 0 = x := ⟨_, rfl⟩
        obtain ⟨x1, hx1⟩ : ∃ x, ns.getD 1 0 = x := ⟨_, rfl⟩
        obtain ⟨x2, hx2⟩ : ∃ x, ns.getD 2 0 = x := ⟨_, rfl⟩
        rw [hx0, hx1, hx2] at HA S
        clear hx0 hx1 hx2
        have f0 := S.F.cell 0; have f1 := S.F.cell 1; have f2 := S.F.cell 2
        have bA := alloc_below wr (.cells #[.int .i64 kk, .int .i64 x0, .int .i64 x1, .int .i64 x2] 25)
        have O1 := Blk.new wr #[.int .i64 kk, .int .i64 x0, .int .i64 x1, .int .i64 x2] 25
        have SA := S.on bA
        have cO := implC kk x0 x1 x2 (wr.alloc (.cells #[.int .i64 kk, .int .i64 x0, .int .i64 x1, .int .i64 x2] 25))
        have eV : opV kk x0 x1 x2 = .agg #[.int .i64 kk, .int .i64 x0, .int .i64 x1, .int .i64 x2] := rfl
        have eO : opOk kk x0 x1 x2 = okOp ⟨kk, x0, x1, x2⟩ := rfl
        rw [eV, eO] at cO
        obtain ⟨ok, hok⟩ : ∃ ok, okOp ⟨kk, x0, x1, x2⟩ = ok := ⟨_, rfl⟩
        rw [hok] at cO HA
        clear eV eO hok S
        have hzz := O1.lt
        go_wp2_with fail
        refine cO.mono ?_
        rintro e w5 ⟨rfl, b5⟩
        clear cO f0 f1 f2
        have S := SA.on b5
        have O5 := O1.on b5 O1.lt
        have r0 := S.R.cell 0; have r1 := S.R.cell 1; have r2 := S.R.cell 2; have r3 := S.R.cell 3
        have z0 := S.R.froz 0; have z1 := S.R.froz 1; have z2 := S.R.froz 2; have z3 := S.R.froz 3
        cases ok
        · have HF : Hid (RdOp L z4 false) := HA.out.2 rfl
          have bz := S.four 0 0 0 0
          clear S SA HA
          go_wp2
          refine bodyPost_ret (v := .tuple #[.agg #[.int .i64 0, .int .i64 0, .int .i64 0, .int .i64 0], .bool false]) (by simp [results, Tryd.results12, go_sem, r0, r1, r2, r3, z0, z1, z2, z3]) rfl ?_
          exact ⟨⟨z4, false, rfl, HF.out⟩, bz⟩
        · have HF : Hid (RdOp L ⟨kk, x0, x1, x2⟩ true) := HA.out.1 rfl
          have o0 := O5.cell 0; have o1 := O5.cell 1; have o2 := O5.cell 2; have o3 := O5.cell 3
          have bz := S.four kk x0 x1 x2
          clear S SA HA
          go_wp2
          refine bodyPost_ret (v := .tuple #[.agg #[.int .i64 kk, .int .i64 x0, .int .i64 x1, .int .i64 x2], .bool true]) (by simp [results, Tryd.results12, go_sem, r0, r1, r2, r3, z0, z1, z2, z3]) rfl ?_
          exact ⟨⟨⟨kk, x0, x1, x2⟩, true, rfl, HF.out⟩, bz⟩
end Ops
end Go.Proofs.YtjopmakbnompnaaDoor
