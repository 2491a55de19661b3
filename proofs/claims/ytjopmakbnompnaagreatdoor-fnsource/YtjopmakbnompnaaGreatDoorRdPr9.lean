/- Several texts of one proof, in build order: ImplRead, SrcImplL, ShapeImpl, StkRow, HomesImpl. -/
import Derived.Deep.RegionHeld3
import Derived.Test.YtjopmakbnompnaaGreatDoorRdPr1
import Derived.Test.YtjopmakbnompnaaGreatDoorRdPr2
import Derived.Test.YtjopmakbnompnaaGreatDoorRdPr3
import Derived.Test.YtjopmakbnompnaaGreatDoorRdPr4
import Derived.Test.YtjopmakbnompnaaGreatDoorRdPr8
/- What the program's ReadOp answers. -/
set_option linter.unusedVariables false
set_option linter.unusedSimpArgs false
namespace Go.Proofs.YtjopmakbnompnaaGreatDoor
open Go.RowKit
namespace Ops
open Bas Flat Strs Num

/-- what the program's functions find laid -/
structure Laid (w : World) : Prop where
  t : WTab w
  d : Dec.Tab w
  e : ReadDec.Errs w
theorem Laid.on {w w' : World} (h : Laid w) (hb : Below w.heap.size w w') : Laid w' := ⟨WTab.on h.t hb, Dec.Tab.on h.d hb, ReadDec.Errs.on h.e hb⟩
/-- what ReadOp answers -/
def ToldOpI (l : Txt) (e : Ending) : Prop := ∃ (o : O4) (b : Bool), e = .returned (.tuple #[o.val, .bool b]) ∧ RdOp l o b
/-- the parts, the numbers that were read, the result's place -/
structure IRd (w W : World) (p : Nat) (vp : Value) (ps : List Txt) (a b c : Int) : Prop where
  P : OwnsS w.heap.size W vp ps
  R : Blk W w.heap.size #[.int .i64 0, .int .i64 0, .int .i64 0, .int .i64 0] 36
  F : Blk W p #[.int .i64 a, .int .i64 b, .int .i64 c] 64
  ne : w.heap.size < p
  b : Below w.heap.size w W
section
variable {w W W' : World} {p : Nat} {vp : Value} {ps : List Txt} {a b c : Int}
theorem IRd.on (h : IRd w W p vp ps a b c) (hb : Below W.heap.size W W') : IRd w W' p vp ps a b c :=
  { P := h.P.on hb (Nat.le_refl _), R := h.R.on hb h.R.lt, F := h.F.on hb h.F.lt, ne := h.ne, b := h.b.trans (hb.mono h.b.size) }
theorem IRd.set (h : IRd w W p vp ps a b c) (i : Nat) (u : Value) {a' b' c' : Int} (e : (#[.int .i64 a, .int .i64 b, .int .i64 c] : Array Value).setIfInBounds i u = #[.int .i64 a', .int .i64 b', .int .i64 c']) : IRd w (W.setCell ⟨p, i, none⟩ u) p vp ps a' b' c' :=
  have hne := h.ne
  { P := h.P.other (h.P.off h.F (by decide)) _, R := h.R.other (by omega) _ _, F := by have := h.F.set i u; rw [e] at this; exact this, ne := hne, b := h.b.setCell (by show w.heap.size ≤ p; omega) _ }
theorem IRd.four (h : IRd w W p vp ps a b c) (k x y z : Int) : Below w.heap.size w ((((W.setCell ⟨w.heap.size, 0, none⟩ (.int .i64 k)).setCell ⟨w.heap.size, 1, none⟩ (.int .i64 x)).setCell ⟨w.heap.size, 2, none⟩ (.int .i64 y)).setCell ⟨w.heap.size, 3, none⟩ (.int .i64 z)) :=
  (((h.b.setCell (p := ⟨w.heap.size, 0, none⟩) (Nat.le_refl _) (.int .i64 k)).setCell (p := ⟨w.heap.size, 1, none⟩) (Nat.le_refl _) (.int .i64 x)).setCell (p := ⟨w.heap.size, 2, none⟩) (Nat.le_refl _) (.int .i64 y)).setCell (p := ⟨w.heap.size, 3, none⟩) (Nat.le_refl _) (.int .i64 z)
end
theorem set_num {ns : List Int} {j : Nat} {n : Int} (hl : ns.length = j) (hj : j < 3) : (#[.int .i64 (ns.getD 0 0), .int .i64 (ns.getD 1 0), .int .i64 (ns.getD 2 0)] : Array Value).setIfInBounds j (.int .i64 n) = #[.int .i64 ((ns ++ [n]).getD 0 0), .int .i64 ((ns ++ [n]).getD 1 0), .int .i64 ((ns ++ [n]).getD 2 0)] := by
  match ns, hl with
  | [], h => subst h; rfl
  | [a], h => subst h; rfl
  | [a, b], h => subst h; rfl
  | _ :: _ :: _ :: _, h => simp at h; omega
theorem undrewI {B : Nat} {w w' : World} (h : Below B w.drew w') : Below B w w' := ⟨h.os, h.tape, h.output, h.size, h.block⟩

set_option maxRecDepth 100000 in
set_option maxHeartbeats 8000000 in
theorem readOpI (L : Txt) (hs : L.length ≤ 1048576) (w : World) (hl : Laid w) :
    Calls Tryz.prog 13 #[.string ⟨L.toArray⟩] w fun e w' => ToldOpI L e ∧ Below w.heap.size w w' := by
  have b0 := alloc_below w (.cells #[.int .i64 0, .int .i64 0, .int .i64 0, .int .i64 0] 36)
  have R0 := Blk.new w #[.int .i64 0, .int .i64 0, .int .i64 0, .int .i64 0] 36
  obtain ⟨w0, hw0⟩ : ∃ w0, w.alloc (.cells #[.int .i64 0, .int .i64 0, .int .i64 0, .int .i64 0] 36) = w0 := ⟨_, rfl⟩
  have HW0 : Hid (w.alloc (.cells #[.int .i64 0, .int .i64 0, .int .i64 0, .int .i64 0] 36) = w0) := hw0
  have hz0 : w0.heap.size = w.heap.size + 1 := by rw [← hw0]; simp
  rw [hw0] at b0 R0
  clear hw0
  have bF := alloc_below w0 (.cells #[.int .i64 0, .int .i64 0, .int .i64 0] 64)
  have F0 := Blk.new w0 #[.int .i64 0, .int .i64 0, .int .i64 0] 64
  rw [hz0] at F0
  have RF := R0.on bF R0.lt
  have bb0 := b0.trans (bF.mono b0.size)
  obtain ⟨wF, hwF⟩ : ∃ wF, w0.alloc (.cells #[.int .i64 0, .int .i64 0, .int .i64 0] 64) = wF := ⟨_, rfl⟩
  have HWF : Hid (w0.alloc (.cells #[.int .i64 0, .int .i64 0, .int .i64 0] 64) = wF) := hwF
  rw [hwF] at bF F0 RF bb0
  clear hwF
  obtain ⟨p, hp⟩ : ∃ p, w.heap.size + 1 = p := ⟨_, rfl⟩
  have hpw : w.heap.size < p := by omega
  rw [hp] at F0 hz0
  have c1 := splitNC L hs wF
  go_enter Tryz.func13, Tryz.ntmps13
  go_wp2_with fail
  rw [HW0.out, HWF.out]
  refine c1.mono ?_
  rintro e w1 ⟨v1, p0, r, rfl, P1, hP, hlen, b1⟩
  clear c1
  have HP : Hid (PartsIs L p0 r) := hP
  have HLn : Hid (∀ q ∈ p0 :: r, q.length ≤ 1048576) := fun q hq => Nat.le_trans (hlen q hq) hs
  have S : IRd w w1 p v1 (p0 :: r) 0 0 0 :=
    { P := P1.mono bb0.size, R := RF.on b1 RF.lt, F := F0.on b1 F0.lt, ne := hpw, b := bb0.trans (b1.mono bb0.size) }
  clear hP hlen P1 b1 F0 RF bb0 bF R0 b0 HW0 HWF hp
  obtain ⟨a1, cp1, rfl⟩ := S.P.form
  obtain ⟨m, hm⟩ : ∃ m, (p0 :: r).length = m := ⟨_, rfl⟩
  have hrm : r.length + 1 = m := by rw [← hm]; simp
  have hm1 : 1 ≤ m := by omega
  rw [hm] at S ⊢
  clear hm
  obtain ⟨q, off, rfl, hq, hcc⟩ := S.P.sees.open (by simp)
  have s1 := seeS hcc 0 (by simp)
  rw [Nat.add_zero, List.getElem_cons_zero] at s1
  have i3 : (0 : Int) < m := by omega
  have i4 : 0 < m := hm1
  have hcap : m ≤ cp1 := by
    obtain ⟨a', c', e', h1, -⟩ := S.P.sees
    injection e' with _ e1 e2
    rw [e1, e2]; exact h1
  have HT := (show Hid _ from hl.t)
  have hp0 := HLn.out p0 (by simp)
  clear hcc
  go_wp2_with fail
  go_region_held3 (fun W => W.cell? ⟨q, off, none⟩ = some (.string ⟨p0.toArray⟩)) (go_keep) ((go_at_call 37; refine (kindsC _ ?_).mono ?_; show WTab w1; exact WTab.on HT.out S.b; rintro e w2 ⟨bt, rfl, hlk, b2⟩; have hlk2 := hlk p0 hp0; have s2 := (undrewI b2).cell (World.block_lt_of_cell? _ _ s1) |>.trans s1))
  have b2 : Below w1.heap.size w1 w2 := undrewI b2
  have S := S.on b2
  clear hlk hlk2 s1 s2 HT b2
  rename_i hheld
  clear hheld
  obtain ⟨kk, hkk⟩ : ∃ kk, kindTo p0 17 = kk := ⟨_, rfl⟩
  have HKK : Hid (kindTo p0 17 = kk) := hkk
  rw [hkk]
  clear hkk
  by_cases hk0 : kk = 0
  · have HF : Hid (RdOp L z4 false) := pi_kind HP.out (.inl (by rw [HKK.out]; exact hk0))
    subst hk0
    have r0 := S.R.cell 0; have r1 := S.R.cell 1; have r2 := S.R.cell 2; have r3 := S.R.cell 3
    have z0 := S.R.froz 0; have z1 := S.R.froz 1; have z2 := S.R.froz 2; have z3 := S.R.froz 3
    have bz := S.four 0 0 0 0
    clear S
    go_wp2
    refine bodyPost_ret (v := .tuple #[.agg #[.int .i64 0, .int .i64 0, .int .i64 0, .int .i64 0], .bool false]) (by simp [results, Tryz.results13, go_sem, r0, r1, r2, r3, z0, z1, z2, z3]) rfl ?_
    exact ⟨⟨z4, false, rfl, HF.out⟩, bz⟩
  have dk : decide (kk = 0) = false := decide_eq_false hk0
  have hk16 : 1 ≤ (kk : Int) ∧ (kk : Int) ≤ 16 := by have := (kind_word (p := p0) (by rw [HKK.out]; exact hk0)).1; rw [HKK.out] at this; exact this
  have cN := namedC kk hk16 w2
  have hna := nargs_le (kk : Int)
  obtain ⟨na, hnae⟩ : ∃ n, nargs (kk : Int) = n := ⟨_, rfl⟩
  have HNA : Hid (nargs (kk : Int) = na) := hnae
  rw [hnae] at cN hna
  clear hnae
  by_cases hme : m = 1 + na
  case neg =>
    have HF : Hid (RdOp L z4 false) := pi_kind HP.out (.inr (by rw [HKK.out, HNA.out]; omega))
    have dm : ((m : Int) != 1 + (na : Int)) = true := by simp; omega
    go_wp2_with fail
    refine cN.mono ?_
    rintro e w3 ⟨rfl, b3⟩
    clear cN
    have S := S.on b3
    have r0 := S.R.cell 0; have r1 := S.R.cell 1; have r2 := S.R.cell 2; have r3 := S.R.cell 3
    have z0 := S.R.froz 0; have z1 := S.R.froz 1; have z2 := S.R.froz 2; have z3 := S.R.froz 3
    have bz := S.four 0 0 0 0
    clear S
    go_wp2
    refine bodyPost_ret (v := .tuple #[.agg #[.int .i64 0, .int .i64 0, .int .i64 0, .int .i64 0], .bool false]) (by simp [results, Tryz.results13, go_sem, r0, r1, r2, r3, z0, z1, z2, z3]) rfl ?_
    exact ⟨⟨z4, false, rfl, HF.out⟩, bz⟩
  subst hme
  have dm : (((1 + na : Nat) : Int) != 1 + (na : Int)) = false := by simp
  have n1 : (1 : Int) ≤ ((1 + na : Nat) : Int) := by omega
  go_wp2_with fail
  refine cN.mono ?_
  rintro e w3 ⟨rfl, b3⟩
  clear cN
  have S := S.on b3
  clear b3
  have HT2 := (show Hid _ from hl)
  clear hl
  by_cases hcp : cp1 = 1
  · have hna0 : na = 0 := by omega
    go_wp2
    go_loopw [8, 9, 10, 11, 37] (fun _ _ _ _ iv wr => ∃ (j : Nat) (ns : List Int), j ≤ na ∧ iv = .int .i64 j ∧ ns.length = j ∧ ReadN r ns ∧ IRd w wr p (.slice (some ⟨q, off, none⟩) (1 + na) cp1) (p0 :: r) (ns.getD 0 0) (ns.getD 1 0) (ns.getD 2 0)) (fun _ _ _ _ iv _ => na - (intOf iv).toNat)
    case atStart => exact ⟨0, [], Nat.zero_le _, rfl, rfl, readN_nil r, S⟩
    case round =>
      obtain ⟨j, ns, hj, rfl, hnl, hrn, S⟩ := hrel
      by_cases hlt : j < na
      · exact absurd hlt (by omega)
      · obtain rfl : j = na := by omega
        have j1 : ¬ (j : Int) < j := by omega
        have HA := (show Hid _ from pi_all HP.out (by rw [HKK.out]; exact hk0) hrn (by omega) (by rw [HKK.out, HNA.out]; omega))
        rw [HKK.out] at HA
        have eo : ofNums (kk : Int) ns = ⟨kk, ns.getD 0 0, ns.getD 1 0, ns.getD 2 0⟩ := rfl
        rw [eo] at HA
        clear eo hrn
        obtain ⟨x0, hx0⟩ : ∃ x, ns.getD 0 0 = x := ⟨_, rfl⟩
        obtain ⟨x1, hx1⟩ : ∃ x, ns.getD 1 0 = x := ⟨_, rfl⟩
        obtain ⟨x2, hx2⟩ : ∃ x, ns.getD 2 0 = x := ⟨_, rfl⟩
        rw [hx0, hx1, hx2] at HA S
        clear hx0 hx1 hx2
        have f0 := S.F.cell 0; have f1 := S.F.cell 1; have f2 := S.F.cell 2
        have bA := alloc_below wr (.cells #[.int .i64 kk, .int .i64 x0, .int .i64 x1, .int .i64 x2] 36)
        have O1 := Blk.new wr #[.int .i64 kk, .int .i64 x0, .int .i64 x1, .int .i64 x2] 36
        have SA := S.on bA
        have cO := implC kk x0 x1 x2 (wr.alloc (.cells #[.int .i64 kk, .int .i64 x0, .int .i64 x1, .int .i64 x2] 36))
        have eV : opV kk x0 x1 x2 = .agg #[.int .i64 kk, .int .i64 x0, .int .i64 x1, .int .i64 x2] := rfl
        have eO : opOk kk x0 x1 x2 = okOp ⟨kk, x0, x1, x2⟩ := rfl
        rw [eV, eO] at cO
        obtain ⟨ok, hok⟩ : ∃ ok, okOp ⟨kk, x0, x1, x2⟩ = ok := ⟨_, rfl⟩
        rw [hok] at cO HA
        clear eV eO hok S
        have hzz := O1.lt
        go_wp2_with fail
        refine cO.mono ?_
        rintro e w5 ⟨rfl, b5⟩
        clear cO f0 f1 f2
        have S := SA.on b5
        have O5 := O1.on b5 O1.lt
        have r0 := S.R.cell 0; have r1 := S.R.cell 1; have r2 := S.R.cell 2; have r3 := S.R.cell 3
        have z0 := S.R.froz 0; have z1 := S.R.froz 1; have z2 := S.R.froz 2; have z3 := S.R.froz 3
        cases ok
        · have HF : Hid (RdOp L z4 false) := HA.out.2 rfl
          have bz := S.four 0 0 0 0
          clear S SA HA
          go_wp2
          refine bodyPost_ret (v := .tuple #[.agg #[.int .i64 0, .int .i64 0, .int .i64 0, .int .i64 0], .bool false]) (by simp [results, Tryz.results13, go_sem, r0, r1, r2, r3, z0, z1, z2, z3]) rfl ?_
          exact ⟨⟨z4, false, rfl, HF.out⟩, bz⟩
        · have HF : Hid (RdOp L ⟨kk, x0, x1, x2⟩ true) := HA.out.1 rfl
          have o0 := O5.cell 0; have o1 := O5.cell 1; have o2 := O5.cell 2; have o3 := O5.cell 3
          have bz := S.four kk x0 x1 x2
          clear S SA HA
          go_wp2
          refine bodyPost_ret (v := .tuple #[.agg #[.int .i64 kk, .int .i64 x0, .int .i64 x1, .int .i64 x2], .bool true]) (by simp [results, Tryz.results13, go_sem, r0, r1, r2, r3, z0, z1, z2, z3]) rfl ?_
          exact ⟨⟨⟨kk, x0, x1, x2⟩, true, rfl, HF.out⟩, bz⟩
  · go_wp2
    go_loopw [8, 9, 10, 11, 37] (fun _ _ _ _ iv wr => ∃ (j : Nat) (ns : List Int), j ≤ na ∧ iv = .int .i64 j ∧ ns.length = j ∧ ReadN r ns ∧ IRd w wr p (.slice (some ⟨q, off, none⟩) (1 + na) cp1) (p0 :: r) (ns.getD 0 0) (ns.getD 1 0) (ns.getD 2 0)) (fun _ _ _ _ iv _ => na - (intOf iv).toNat)
    case atStart => exact ⟨0, [], Nat.zero_le _, rfl, rfl, readN_nil r, S⟩
    case round =>
      obtain ⟨j, ns, hj, rfl, hnl, hrn, S⟩ := hrel
      by_cases hlt : j < na
      · have hjr : j < r.length := by omega
        obtain ⟨q', off', e', hq', hcc⟩ := S.P.sees.open (by simp)
        simp only [Option.some.injEq, Addr.mk.injEq, and_true] at e'
        obtain ⟨rfl, rfl⟩ := e'
        have s1 := seeS hcc (j + 1) (by simp; omega)
        rw [List.getElem_cons_succ, show off + (j + 1) = off + 1 + j by omega] at s1
        have j1 : (j : Int) < na := by omega
        have j0 : (0 : Int) ≤ j := by omega
        have hlj := HLn.out r[j] (List.mem_cons_of_mem _ (List.getElem_mem hjr))
        have HNo := (show Hid _ from (fun (n : Int) (h : RdRes r[j] n false) => pi_num HP.out hjr h))
        have HYs := (show Hid _ from (fun (n : Int) (h : RdRes (r[ns.length]'(by omega)) n true) => readN_snoc hrn (by omega) h))
        have HE : Hid (∀ h : ns.length < r.length, r[ns.length] = r[j]) := fun h => by congr 1
        obtain ⟨pt, hpt⟩ : ∃ pt, r[j] = pt := ⟨_, rfl⟩
        have HPT : Hid (r[j] = pt) := hpt
        rw [hpt] at s1 hlj HNo
        clear hpt hcc
        have cD := ReadDec.impl_any ⟨pt.toArray⟩ (by show pt.toArray.size ≤ _; simpa using hlj) wr (HT2.out.on S.b).d (HT2.out.on S.b).e
        have eL : (⟨pt.toArray⟩ : ByteArray).data.toList = pt := by simp
        rw [eL] at cD
        clear eL
        go_wp2_with fail
        refine cD.mono ?_
        rintro e w4 ⟨⟨n, bo, rfl, hrd⟩, b4⟩
        clear cD s1
        have S := S.on b4
        clear b4
        cases bo
        · have HF : Hid (RdOp L z4 false) := HNo.out n hrd
          have r0 := S.R.cell 0; have r1 := S.R.cell 1; have r2 := S.R.cell 2; have r3 := S.R.cell 3
          have z0 := S.R.froz 0; have z1 := S.R.froz 1; have z2 := S.R.froz 2; have z3 := S.R.froz 3
          have bz := S.four 0 0 0 0
          clear S hrd HNo HYs hrn
          go_wp2
          refine bodyPost_ret (v := .tuple #[.agg #[.int .i64 0, .int .i64 0, .int .i64 0, .int .i64 0], .bool false]) (by simp [results, Tryz.results13, go_sem, r0, r1, r2, r3, z0, z1, z2, z3]) rfl ?_
          exact ⟨⟨z4, false, rfl, HF.out⟩, bz⟩
        · have HR : Hid (ReadN r (ns ++ [n])) := HYs.out n (by rw [HE.out (by omega), HPT.out]; exact hrd)
          have fc := S.F.cell j
          have ff := S.F.froz j
          have hj3 : (j : Int) < 3 := by omega
          have S' : IRd w (w4.setCell ⟨p, j, none⟩ (.int .i64 n)) p (.slice (some ⟨q, off, none⟩) (1 + na) cp1) (p0 :: r) ((ns ++ [n]).getD 0 0) ((ns ++ [n]).getD 1 0) ((ns ++ [n]).getD 2 0) := S.set j (.int .i64 n) (set_num hnl (by omega))
          have hfc : ∃ u, w4.cell? ⟨p, j, none⟩ = some u := by
            rw [fc]
            match j, (show j < 3 by omega) with
            | 0, _ => exact ⟨_, rfl⟩
            | 1, _ => exact ⟨_, rfl⟩
            | 2, _ => exact ⟨_, rfl⟩
          obtain ⟨u, hu⟩ := hfc
          clear fc S hrd HNo HYs hrn
          go_wp2
          go_roundw
          case rel => exact ⟨j + 1, ns ++ [n], by omega, by go_num, by simp [hnl], HR.out, S'⟩
          case measure => simp [intOf]; omega
      · obtain rfl : j = na := by omega
        have j1 : ¬ (j : Int) < j := by omega
        have HA := (show Hid _ from pi_all HP.out (by rw [HKK.out]; exact hk0) hrn (by omega) (by rw [HKK.out, HNA.out]; omega))
        rw [HKK.out] at HA
        have eo : ofNums (kk : Int) ns = ⟨kk, ns.getD 0 0, ns.getD 1 0, ns.getD 2 0⟩ := rfl
        rw [eo] at HA
        clear eo hrn
        obtain ⟨x0, hx0⟩ : ∃ x, ns.getD 0 0 = x := ⟨_, rfl⟩
        obtain ⟨x1, hx1⟩ : ∃ x, ns.getD 1 0 = x := ⟨_, rfl⟩
        obtain ⟨x2, hx2⟩ : ∃ x, ns.getD 2 0 = x := ⟨_, rfl⟩
        rw [hx0, hx1, hx2] at HA S
        clear hx0 hx1 hx2
        have f0 := S.F.cell 0; have f1 := S.F.cell 1; have f2 := S.F.cell 2
        have bA := alloc_below wr (.cells #[.int .i64 kk, .int .i64 x0, .int .i64 x1, .int .i64 x2] 36)
        have O1 := Blk.new wr #[.int .i64 kk, .int .i64 x0, .int .i64 x1, .int .i64 x2] 36
        have SA := S.on bA
        have cO := implC kk x0 x1 x2 (wr.alloc (.cells #[.int .i64 kk, .int .i64 x0, .int .i64 x1, .int .i64 x2] 36))
        have eV : opV kk x0 x1 x2 = .agg #[.int .i64 kk, .int .i64 x0, .int .i64 x1, .int .i64 x2] := rfl
        have eO : opOk kk x0 x1 x2 = okOp ⟨kk, x0, x1, x2⟩ := rfl
        rw [eV, eO] at cO
        obtain ⟨ok, hok⟩ : ∃ ok, okOp ⟨kk, x0, x1, x2⟩ = ok := ⟨_, rfl⟩
        rw [hok] at cO HA
        clear eV eO hok S
        have hzz := O1.lt
        go_wp2_with fail
        refine cO.mono ?_
        rintro e w5 ⟨rfl, b5⟩
        clear cO f0 f1 f2
        have S := SA.on b5
        have O5 := O1.on b5 O1.lt
        have r0 := S.R.cell 0; have r1 := S.R.cell 1; have r2 := S.R.cell 2; have r3 := S.R.cell 3
        have z0 := S.R.froz 0; have z1 := S.R.froz 1; have z2 := S.R.froz 2; have z3 := S.R.froz 3
        cases ok
        · have HF : Hid (RdOp L z4 false) := HA.out.2 rfl
          have bz := S.four 0 0 0 0
          clear S SA HA
          go_wp2
          refine bodyPost_ret (v := .tuple #[.agg #[.int .i64 0, .int .i64 0, .int .i64 0, .int .i64 0], .bool false]) (by simp [results, Tryz.results13, go_sem, r0, r1, r2, r3, z0, z1, z2, z3]) rfl ?_
          exact ⟨⟨z4, false, rfl, HF.out⟩, bz⟩
        · have HF : Hid (RdOp L ⟨kk, x0, x1, x2⟩ true) := HA.out.1 rfl
          have o0 := O5.cell 0; have o1 := O5.cell 1; have o2 := O5.cell 2; have o3 := O5.cell 3
          have bz := S.four kk x0 x1 x2
          clear S SA HA
          go_wp2
          refine bodyPost_ret (v := .tuple #[.agg #[.int .i64 kk, .int .i64 x0, .int .i64 x1, .int .i64 x2], .bool true]) (by simp [results, Tryz.results13, go_sem, r0, r1, r2, r3, z0, z1, z2, z3]) rfl ?_
          exact ⟨⟨⟨kk, x0, x1, x2⟩, true, rfl, HF.out⟩, bz⟩
end Ops
end Go.Proofs.YtjopmakbnompnaaGreatDoor
/- The program's way of reading texts, as plain mathematics: a line at a time, up to the first that is wrong. -/
set_option linter.unusedVariables false
set_option linter.unusedSimpArgs false
namespace Go.Proofs.YtjopmakbnompnaaGreatDoor
namespace Ops
open Num

/-! ### the first line -/
theorem first_eq {c : UInt8} : ∀ {a b A B : Txt}, (∀ x ∈ a, x ≠ c) → (∀ x ∈ b, x ≠ c) → a ++ c :: A = b ++ c :: B → a = b ∧ A = B
  | [], [], A, B, _, _, e => by simp at e; exact ⟨rfl, e⟩
  | [], y :: b, A, B, _, hb, e => by
    simp only [List.nil_append, List.cons_append, List.cons.injEq] at e
    exact absurd e.1.symm (hb y (by simp))
  | x :: a, [], A, B, ha, _, e => by
    simp only [List.nil_append, List.cons_append, List.cons.injEq] at e
    exact absurd e.1 (ha x (by simp))
  | x :: a, y :: b, A, B, ha, hb, e => by
    simp only [List.cons_append, List.cons.injEq] at e
    obtain ⟨h1, h2⟩ := first_eq (fun z hz => ha z (by simp [hz])) (fun z hz => hb z (by simp [hz])) e.2
    exact ⟨by rw [e.1, h1], h2⟩
theorem kidL_eq (r : Txt) : kidL ++ r = kidW ++ 10 :: r := rfl
theorem kidW_plain : ∀ x ∈ kidW, x ≠ 10 := by decide
theorem kidsText_form (kss : List (List O4)) : kidsText kss = [] ∨ ∃ R, kidsText kss = kidW ++ 10 :: R := by
  cases kss with
  | nil => exact .inl rfl
  | cons ks r => exact .inr ⟨_, kidsText_cons ks r⟩
def AllOk (xs : List O4) : Prop := ∀ o ∈ xs, okOp o = true
/-- lines that are alike at their beginning -/
theorem lines_cut : ∀ (c c0 : List O4) {K R : Txt}, AllOk c → AllOk c0 → (K = [] ∨ ∃ Q, K = kidW ++ 10 :: Q) → linesOf c0 ++ K = linesOf c ++ R → ∃ z, c0 = c ++ z ∧ linesOf z ++ K = R
  | [], c0, K, R, _, _, _, e => ⟨c0, rfl, e⟩
  | d :: c, [], K, R, hc, _, hK, e => by
    exfalso
    rw [lines_cons, List.append_assoc, List.cons_append] at e
    change K = _ at e
    rcases hK with rfl | ⟨Q, rfl⟩
    · simp at e
    · exact kid_no_op (hc d (by simp)) (first_eq kidW_plain show_plain e).1.symm
  | d :: c, x :: c0, K, R, hc, h0, hK, e => by
    rw [lines_cons, lines_cons, List.append_assoc, List.append_assoc, List.cons_append, List.cons_append] at e
    obtain ⟨e1, e2⟩ := first_eq show_plain show_plain e
    have := show_inj (h0 x (by simp)) (hc d (by simp)) e1
    subst this
    obtain ⟨z, hz, hr⟩ := lines_cut c c0 (fun o ho => hc o (by simp [ho])) (fun o ho => h0 o (by simp [ho])) hK e2
    exact ⟨z, by rw [hz]; rfl, hr⟩

/-! ### what readOps tells -/
/-- a line that is none, and what is left behind it -/
def Wrong (ln rest : Txt) : Prop := (∃ M, ln = M ++ [10] ∧ (∀ x ∈ M, x ≠ 10) ∧ ∀ o, okOp o = true → showOp o ≠ M) ∨ ((∀ x ∈ ln, x ≠ 10) ∧ ln ≠ [] ∧ rest = [])
def ToldOps (L : Txt) (xs : List O4) (rest : Txt) (er : Option Txt) : Prop := (er = none ∧ rest = [] ∧ L = linesOf xs) ∨ (er = none ∧ 24 < xs.length ∧ L = linesOf xs ++ rest) ∨ ∃ ln, er = some ln ∧ L = linesOf xs ++ (ln ++ rest) ∧ Wrong ln rest
theorem ToldOps.all {L : Txt} {xs : List O4} {rest : Txt} (h1 : rest = []) (h2 : L = linesOf xs) : ToldOps L xs rest none := .inl ⟨rfl, h1, h2⟩
theorem ToldOps.long {L : Txt} {xs : List O4} {rest : Txt} (h1 : 24 < xs.length) (h2 : L = linesOf xs ++ rest) : ToldOps L xs rest none := .inr (.inl ⟨rfl, h1, h2⟩)
theorem ToldOps.wrong {L : Txt} {xs : List O4} {rest : Txt} (ln : Txt) (h1 : L = linesOf xs ++ (ln ++ rest)) (h2 : Wrong ln rest) : ToldOps L xs rest (some ln) := .inr (.inr ⟨ln, rfl, h1, h2⟩)
theorem ToldOps.of_none {L : Txt} {xs : List O4} {rest : Txt} (h : ToldOps L xs rest none) : L = linesOf xs ∨ (24 < xs.length ∧ L = linesOf xs ++ rest) := by
  rcases h with ⟨-, -, h⟩ | ⟨-, hl, h⟩ | ⟨ln, e, -⟩
  · exact .inl h
  · exact .inr ⟨hl, h⟩
  · cases e
theorem ToldOps.of_some {L : Txt} {xs : List O4} {rest ln : Txt} (h : ToldOps L xs rest (some ln)) : L = linesOf xs ++ (ln ++ rest) ∧ Wrong ln rest := by
  rcases h with ⟨e, -⟩ | ⟨e, -⟩ | ⟨ln', e, h1, h2⟩
  · cases e
  · cases e
  · obtain rfl := Option.some.inj e
    exact ⟨h1, h2⟩
/-- no text of lines, with or without kids behind them, goes on with a line that is wrong, unless it is the line kid -/
theorem wrong_no {z : List O4} {kss : List (List O4)} {ln rest : Txt} (hz : AllOk z) (hw : Wrong ln rest) (e : linesOf z ++ kidsText kss = ln ++ rest) : z = [] ∧ ln = kidL := by
  rcases hw with ⟨M, rfl, hM, hno⟩ | ⟨hln, hne, rfl⟩
  · rw [List.append_assoc] at e
    change _ = M ++ 10 :: rest at e
    cases z with
    | nil =>
      rcases kidsText_form kss with h | ⟨R, h⟩
      · rw [h] at e; simp [linesOf] at e
      · rw [h] at e
        change kidW ++ 10 :: R = _ at e
        have := (first_eq kidW_plain hM e).1
        exact ⟨rfl, by rw [← this]; rfl⟩
    | cons o z =>
      exfalso
      rw [lines_cons, List.append_assoc, List.cons_append] at e
      exact hno o (hz o (by simp)) (first_eq show_plain hM e).1
  · exfalso
    rw [List.append_nil] at e
    cases z with
    | nil =>
      rcases kidsText_form kss with h | ⟨R, h⟩
      · rw [h] at e; exact hne (by simpa [linesOf] using e.symm)
      · rw [h] at e
        change kidW ++ 10 :: R = _ at e
        exact hln 10 (by rw [← e]; simp) rfl
    | cons o z =>
      rw [lines_cons] at e
      exact hln 10 (by rw [← e]; simp) rfl
theorem kids_nil : kidsText [] = [] := rfl
theorem code_long {xs : List O4} (h : 24 < xs.length) : codeOk xs = false := by
  cases hc : codeOk xs with
  | false => rfl
  | true =>
    unfold codeOk at hc
    rw [Bool.and_eq_true] at hc
    have := of_decide_eq_true hc.1
    omega
theorem rc_none {L : Txt} {xs : List O4} {rest : Txt} (h : ToldOps L xs rest none) (hx : AllOk xs) : (codeOk xs = true → RdCode L xs true) ∧ (codeOk xs = false → RdCode L [] false) := by
  rcases h.of_none with h | ⟨hl, h⟩
  case inl =>
    refine ⟨fun hc => .inl ⟨rfl, hc, h.symm⟩, fun hc => .inr ⟨rfl, rfl, fun ys hy e => ?_⟩⟩
    rw [h] at e
    rw [lines_inj (code_ops hy) hx e, hc] at hy
    cases hy
  case inr =>
    refine ⟨fun hc => (by rw [code_long hl] at hc; cases hc), fun hc => .inr ⟨rfl, rfl, fun ys hy e => ?_⟩⟩
    obtain ⟨z, hz, -⟩ := lines_cut xs ys (K := []) hx (code_ops hy) (.inl rfl) (by rw [List.append_nil, e, h])
    have h24 : 24 < ys.length := by rw [hz, List.length_append]; omega
    rw [code_long h24] at hy; cases hy
theorem rc_some {L : Txt} {xs : List O4} {rest ln : Txt} (h : ToldOps L xs rest (some ln)) (hx : AllOk xs) : RdCode L [] false := by
  obtain ⟨h, hw⟩ := h.of_some
  refine .inr ⟨rfl, rfl, fun ys hy e => ?_⟩
  obtain ⟨z, hz, hr⟩ := lines_cut xs ys (K := []) hx (code_ops hy) (.inl rfl) (by rw [List.append_nil, e, h])
  rw [← kids_nil] at hr
  obtain ⟨hz0, hln⟩ := wrong_no (fun o ho => code_ops hy o (by rw [hz]; simp [ho])) hw hr
  subst hz0
  rw [hln] at hr
  simp [linesOf, kidsText, kidL] at hr

/-! ### whole programs -/
/-- the codes that stand ahead of a line kid -/
def preText (cs : List (List O4)) : Txt := cs.flatMap fun c => linesOf c ++ kidL
theorem pre_cons (c : List O4) (r : List (List O4)) : preText (c :: r) = linesOf c ++ (kidL ++ preText r) := by simp [preText]
theorem pre_snoc (r : List (List O4)) (c : List O4) : preText (r ++ [c]) = preText r ++ (linesOf c ++ kidL) := by simp [preText]
def AllsOk (cs : List (List O4)) : Prop := ∀ c ∈ cs, AllOk c
theorem prog_cut : ∀ (init : List (List O4)) (ys : List O4) (lss : List (List O4)) {T : Txt}, AllsOk init → AllsOk (ys :: lss) → progText ys lss = preText init ++ T → ∃ c0 kss, ys :: lss = init ++ c0 :: kss ∧ progText c0 kss = T
  | [], ys, lss, T, _, _, e => ⟨ys, lss, rfl, e⟩
  | d :: init, ys, lss, T, hi, hy, e => by
    unfold progText at e
    rw [pre_cons, List.append_assoc, List.append_assoc] at e
    obtain ⟨z, hz, hr⟩ := lines_cut d ys (hi d (by simp)) (hy ys (by simp)) (kidsText_form lss) e
    have hw : Wrong kidL (preText init ++ T) := .inl ⟨kidW, rfl, kidW_plain, fun o ho => kid_no_op ho⟩
    obtain ⟨hz0, -⟩ := wrong_no (fun o ho => hy ys (by simp) o (by rw [hz]; simp [ho])) hw hr
    subst hz0
    rw [List.append_nil] at hz
    subst hz
    change kidsText lss = _ at hr
    cases lss with
    | nil => simp [kidsText, kidL] at hr
    | cons ks r =>
      rw [kidsText_cons] at hr
      have hr' := List.append_cancel_left hr
      obtain ⟨c0, kss, h1, h2⟩ := prog_cut init ks r (fun c hc => hi c (by simp [hc])) (fun c hc => hy c (by simp [hc])) hr'
      exact ⟨c0, kss, by rw [h1]; rfl, h2⟩
theorem pre_prog (cs : List (List O4)) (c : List O4) : ∃ xs kss, cs ++ [c] = xs :: kss ∧ preText cs ++ linesOf c = progText xs kss := by
  induction cs with
  | nil => exact ⟨c, [], rfl, by simp [preText, progText, kidsText]⟩
  | cons d r ih =>
    obtain ⟨xs, kss, h1, h2⟩ := ih
    refine ⟨d, xs :: kss, by rw [← h1]; rfl, ?_⟩
    rw [pre_cons]
    unfold progText
    rw [kidsText_cons]
    unfold progText at h2
    rw [← h2]
    simp
theorem prog_ops {ys : List O4} {lss : List (List O4)} (h : progOk ys lss = true) : AllsOk (ys :: lss) := by
  obtain ⟨h1, -, h2⟩ := prog_codes h
  intro c hc
  rcases List.mem_cons.1 hc with rfl | hc
  · exact code_ops h1
  · exact code_ops (h2 c hc)
theorem prog_short {ys : List O4} {lss : List (List O4)} (h : progOk ys lss = true) : ∀ c ∈ ys :: lss, c.length ≤ 24 := by
  obtain ⟨h1, -, h2⟩ := prog_codes h
  intro c hc
  have : codeOk c = true := by
    rcases List.mem_cons.1 hc with rfl | hc
    · exact h1
    · exact h2 c hc
  rcases Nat.lt_or_ge 24 c.length with h | h
  · rw [code_long h] at this; cases this
  · exact h
/-- all was read: no line is wrong -/
theorem rp_none {L T : Txt} {cs : List (List O4)} {c : List O4} {rest : Txt} {xs : List O4} {kss : List (List O4)} (hcs : AllsOk cs) (hc : AllOk c) (h : ToldOps T c rest none) (hL : L = preText cs ++ T) (e : cs ++ [c] = xs :: kss) :
    (progOk xs kss = true → RdProg L xs kss true) ∧ (progOk xs kss = false → RdProg L [] [] false) := by
  obtain ⟨xs', kss', e1, e2⟩ := pre_prog cs c
  rw [e, List.cons.injEq] at e1
  obtain ⟨rfl, rfl⟩ := e1
  rcases h.of_none with h | ⟨hl, h⟩
  case inl =>
    rw [h, e2] at hL
    refine ⟨fun hp => .inl ⟨rfl, hp, hL.symm⟩, fun hp => .inr ⟨rfl, rfl, rfl, fun ys lss hy he => ?_⟩⟩
    rw [hL, ← e2] at he
    obtain ⟨c0, k0, h1, h2⟩ := prog_cut cs ys lss hcs (prog_ops hy) he
    have hc0 : AllsOk (c0 :: k0) := fun q hq => prog_ops hy q (by rw [h1]; simp at hq ⊢; exact .inr hq)
    unfold progText at h2
    have h2' : linesOf c0 ++ kidsText k0 = linesOf c ++ [] := by rw [h2, List.append_nil]
    obtain ⟨z, hz, hr⟩ := lines_cut c c0 hc (hc0 c0 (by simp)) (kidsText_form k0) h2'
    have hz0 : z = [] := by
      cases z with
      | nil => rfl
      | cons o z => rw [lines_cons] at hr; simp at hr
    subst hz0
    have hk0 : k0 = [] := by
      cases k0 with
      | nil => rfl
      | cons k r => rw [kidsText_cons] at hr; simp [linesOf, kidL] at hr
    subst hk0
    rw [List.append_nil] at hz
    subst hz
    rw [e, List.cons.injEq] at h1
    rw [h1.1, h1.2, hp] at hy
    cases hy
  case inr =>
    have hno : progOk xs kss = false := by
      cases hp : progOk xs kss with
      | false => rfl
      | true =>
        have := prog_short hp c (by rw [← e]; simp)
        omega
    refine ⟨fun hp => (by rw [hno] at hp; cases hp), fun hp => .inr ⟨rfl, rfl, rfl, fun ys lss hy he => ?_⟩⟩
    rw [hL] at he
    obtain ⟨c0, k0, h1, h2⟩ := prog_cut cs ys lss hcs (prog_ops hy) he
    have hc0 : AllsOk (c0 :: k0) := fun q hq => prog_ops hy q (by rw [h1]; simp at hq ⊢; exact .inr hq)
    unfold progText at h2
    rw [h] at h2
    obtain ⟨z, hz, hr⟩ := lines_cut c c0 hc (hc0 c0 (by simp)) (kidsText_form k0) h2
    have := prog_short hy c0 (by rw [h1]; simp)
    rw [hz, List.length_append] at this
    omega
/-- a line is wrong, and it is not the line kid -/
theorem rp_wrong {L T : Txt} {cs : List (List O4)} {c : List O4} {rest ln : Txt} (hcs : AllsOk cs) (hc : AllOk c) (h : ToldOps T c rest (some ln)) (hL : L = preText cs ++ T) (hk : ln ≠ kidL) : RdProg L [] [] false := by
  obtain ⟨h, hw⟩ := h.of_some
  refine .inr ⟨rfl, rfl, rfl, fun ys lss hy he => ?_⟩
  rw [hL] at he
  obtain ⟨c0, k0, h1, h2⟩ := prog_cut cs ys lss hcs (prog_ops hy) he
  have hc0 : AllsOk (c0 :: k0) := fun q hq => prog_ops hy q (by rw [h1]; simp at hq ⊢; exact .inr hq)
  unfold progText at h2
  rw [h] at h2
  obtain ⟨z, hz, hr⟩ := lines_cut c c0 hc (hc0 c0 (by simp)) (kidsText_form k0) h2
  exact hk (wrong_no (fun o ho => hc0 c0 (by simp) o (by rw [hz]; simp [ho])) hw hr).2
/-- one kid more -/
theorem told_kid {L T : Txt} {cs : List (List O4)} {c : List O4} {rest : Txt} (h : ToldOps T c rest (some kidL)) (hL : L = preText cs ++ T) : L = preText (cs ++ [c]) ++ rest := by
  obtain ⟨h, hw⟩ := h.of_some
  rw [hL, h, pre_snoc]; simp
/-- a line kid too many -/
theorem rp_full {L T : Txt} {cs : List (List O4)} {c : List O4} {rest : Txt} (hcs : AllsOk cs) (hc : AllOk c) (hl : cs.length = 3) (h : ToldOps T c rest (some kidL)) (hL : L = preText cs ++ T) : RdProg L [] [] false := by
  refine .inr ⟨rfl, rfl, rfl, fun ys lss hy he => ?_⟩
  rw [told_kid h hL] at he
  have hcs' : AllsOk (cs ++ [c]) := by
    intro q hq
    rcases List.mem_append.1 hq with hq | hq
    · exact hcs q hq
    · simp at hq; rw [hq]; exact hc
  obtain ⟨c0, k0, h1, -⟩ := prog_cut _ ys lss hcs' (prog_ops hy) he
  have h3 := (prog_codes hy).2.1
  have := congrArg List.length h1
  simp at this
  omega

/-! ### a text parted at its first blanks -/
def splitTo (c : UInt8) : Nat → Txt → List Txt
  | 0, L => [L]
  | m + 1, L => match L.idxOf? c with
    | none => [L]
    | some i => L.take i :: splitTo c m (L.drop (i + 1))
end Ops
end Go.Proofs.YtjopmakbnompnaaGreatDoor
/- What the program's DepthAt and HasFork answer. -/
set_option linter.unusedVariables false
set_option linter.unusedSimpArgs false
namespace Go.Proofs.YtjopmakbnompnaaGreatDoor
open Go.RowKit
namespace Ops
open Bas Flat

theorem retI {a b : Int} (h : a = b) : Ending.returned (.int .i64 a) = .returned (.int .i64 b) := by rw [h]
theorem retB {a b : Bool} (h : a = b) : Ending.returned (.bool a) = .returned (.bool b) := by rw [h]
theorem kindI (x : O4) : (x.k = 8 ∧ delta x = 1) ∨ (x.k = 9 ∧ delta x = -1) ∨ ((x.k == 8) = false ∧ (x.k == 9) = false ∧ delta x = 0) := by
  unfold delta
  by_cases h8 : x.k = 8
  · exact .inl ⟨h8, if_pos h8⟩
  · by_cases h9 : x.k = 9
    · exact .inr (.inl ⟨h9, by rw [if_neg h8, if_pos h9]⟩)
    · exact .inr (.inr ⟨by simp [h8], by simp [h9], by rw [if_neg h8, if_neg h9]⟩)
/-- the cells of the op at place k -/
theorem seeI {w : World} {b off : Nat} {xs : List O4} (hc : ∀ j (h : j < xs.length), At opEl w b (off + j * opEl.sz) xs[j]) (k : Nat) (hk : k < xs.length) :
    w.cell? ⟨b, off + k * 4, none⟩ = some (.int .i64 xs[k].k) ∧ w.cell? ⟨b, off + k * 4 + 1, none⟩ = some (.int .i64 xs[k].a) ∧ w.cell? ⟨b, off + k * 4 + 2, none⟩ = some (.int .i64 xs[k].b) ∧ w.cell? ⟨b, off + k * 4 + 3, none⟩ = some (.int .i64 xs[k].c) := at4 (hc k hk)

set_option maxRecDepth 100000 in
set_option maxHeartbeats 1600000 in
theorem forkImpl (v : Value) (xs : List O4) (B : Nat) (w : World) (hv : Sees4 B w v xs) (hB : B ≤ w.heap.size) (hlen : xs.length ≤ 1048576) :
    Calls Tryz.prog 52 #[v] w fun e w' => e = .returned (.bool (hasFork xs)) ∧ Below w.heap.size w w' := by
  obtain ⟨a, cap, rfl⟩ := hv.form
  obtain ⟨n, hn⟩ : ∃ n, xs.length = n := ⟨_, rfl⟩
  rw [hn] at hv hlen ⊢
  obtain ⟨g, hg⟩ : ∃ g, w.heap.size = g := ⟨_, rfl⟩
  rw [hg] at hB ⊢
  have hb0 : Below g w w := Below.refl _ _
  go_enter Tryz.func52, Tryz.ntmps52
  go_wp2
  go_loopw [7] (fun i' wr => ∃ k : Nat, k ≤ n ∧ i' = .int .i64 k ∧ (∀ j (h : j < xs.length), j < k → ¬ xs[j].k = 11) ∧ Below g w wr) (fun i' _ => n - (intOf i').toNat)
  case atStart => exact ⟨0, Nat.zero_le _, rfl, fun j _ h => by omega, hb0⟩
  case round =>
    obtain ⟨k, hk, rfl, hall, hb⟩ := hrel
    clear hb0
    have hsz : g ≤ wr.heap.size := by have := hb.size; omega
    by_cases hlt : k < n
    · obtain ⟨b, off, rfl, hbB, hc⟩ := (hv.on hb hB).open (by omega)
      obtain ⟨a0, a1, a2, a3⟩ := seeI hc k (by omega)
      have i1 : (k : Int) < n := by omega
      by_cases h11 : xs[k].k = 11
      · have HF : Hid (true = hasFork xs) := (hasFork_yes (by omega) h11).symm
        rw [h11] at a0
        obtain ⟨x, hx⟩ : ∃ x, xs[k] = x := ⟨_, rfl⟩
        rw [hx] at a1 a2 a3
        clear hc hall h11 hx
        go_wp2
        go_ret
        refine ⟨retB HF.out, ?_⟩
        exact hb.alloc hsz _
      · have HA : Hid (∀ j (h : j < xs.length), j < k + 1 → ¬ xs[j].k = 11) := fun j hj hjk => by
          rcases Nat.lt_succ_iff_lt_or_eq.1 hjk with h | h
          · exact hall j hj h
          · subst h; exact h11
        have d11 : (xs[k].k == 11) = false := by simp [h11]
        obtain ⟨x, hx⟩ : ∃ x, xs[k] = x := ⟨_, rfl⟩
        rw [hx] at a0 a1 a2 a3 d11
        clear hc hall h11 hx
        go_wp2
        go_roundw
        case rel => exact ⟨k + 1, by omega, by go_num, HA.out, hb.alloc hsz _⟩
        case measure => simp [intOf]; omega
    · have HF : Hid (false = hasFork xs) := (hasFork_no fun j hj => hall j hj (by omega)).symm
      have i1 : ¬ (k : Int) < n := by omega
      clear hall
      go_wp2
      go_ret
      exact ⟨retB HF.out, hb⟩

/-- where the range ends -/
theorem bound_of (xs : List O4) (i : Int) (n : Nat) (hn : xs.length = n) : ∃ t : Nat, t ≤ n ∧ depthAt xs i = dsum (xs.take t) ∧ ((i < 0 ∧ t = 0) ∨ (i = 0 ∧ t = 0) ∨ (0 < i ∧ i ≤ n ∧ i = t) ∨ ((n : Int) < i ∧ t = n ∧ 0 < n) ∨ (0 < i ∧ t = 0 ∧ n = 0)) := by
  unfold depthAt
  by_cases h0 : i < 0
  · exact ⟨0, by omega, by rw [show i.toNat = 0 by omega], .inl ⟨h0, rfl⟩⟩
  · by_cases h2 : i = 0
    · exact ⟨0, by omega, by rw [h2]; rfl, .inr (.inl ⟨h2, rfl⟩)⟩
    · by_cases hn0 : n = 0
      · exact ⟨0, by omega, by rw [List.take_of_length_le (by omega), List.take_of_length_le (by omega)], .inr (.inr (.inr (.inr ⟨by omega, rfl, hn0⟩)))⟩
      · by_cases h1 : i ≤ n
        · exact ⟨i.toNat, by omega, rfl, .inr (.inr (.inl ⟨by omega, h1, by omega⟩))⟩
        · exact ⟨n, by omega, by rw [List.take_of_length_le (by omega), List.take_of_length_le (by omega)], .inr (.inr (.inr (.inl ⟨by omega, rfl, by omega⟩)))⟩

end Ops
end Go.Proofs.YtjopmakbnompnaaGreatDoor
/- The program's stack of blocks in memory. -/
set_option linter.unusedVariables false
set_option linter.unusedSimpArgs false
namespace Go.Proofs.YtjopmakbnompnaaGreatDoor
open Go.RowKit
namespace Ops
open Bas Flat

def bEl : El B2 where
  sz := 2
  cells x := [.int .i64 x.b, .int .i64 x.d]
  len _ := rfl
  one x v hv := by simp at hv; rcases hv with rfl | rfl <;> rfl
  pos := by decide
def zB : B2 := ⟨0, 0⟩
theorem rowB : Row Tryz.prog bEl 111 137 (.agg #[.int .i64 0, .int .i64 0]) zB 16 := ⟨Tryz.underlying111, by kernel_rfl, rfl, by decide⟩
theorem rowO : Row Tryz.prog bEl 134 137 (.agg #[.int .i64 0, .int .i64 0]) zB 16 := ⟨Tryz.underlying134, by kernel_rfl, rfl, by decide⟩
abbrev OwnsB (B : Nat) (w : World) (v : Value) (xs : List B2) : Prop := Owns bEl 137 B w v xs
theorem atB {w : World} {b o : Nat} {x : B2} (h : At bEl w b o x) : w.cell? ⟨b, o, none⟩ = some (.int .i64 x.b) ∧ w.cell? ⟨b, o + 1, none⟩ = some (.int .i64 x.d) := ⟨h 0 _ rfl, h 1 _ rfl⟩
theorem seesOneB (W : World) (x : B2) (t : TypeId) : Sees bEl (W.heap.size + 1) (W.alloc (.cells #[.int .i64 x.b, .int .i64 x.d] t)) (.slice (some ⟨W.heap.size, 0, none⟩) 1 1) [x] :=
  ⟨_, 1, rfl, by simp, by unfold maxLen; omega, fun _ => ⟨W.heap.size, 0, rfl, by omega, fun j hj => by
    have hj0 : j = 0 := by simpa using hj
    subst hj0
    intro i u hu
    have hb : Blk (W.alloc (.cells #[.int .i64 x.b, .int .i64 x.d] t)) W.heap.size #[.int .i64 x.b, .int .i64 x.d] t := Blk.new W _ _
    simp only [Nat.zero_mul, Nat.zero_add]
    rw [hb.cell]
    change [Value.int .i64 x.b, .int .i64 x.d][i]? = some u at hu
    simpa using hu⟩⟩
theorem grown_allocd {W W' : World} {o : Obj} {row : Option Nat} (h : (W.alloc o).grownBy W' row) : W.grownBy W' row :=
  ⟨h.os, h.tape, h.output, Nat.le_trans (by simp) h.size, fun k hk hne => (h.block k (by simp; omega) hne).trans (Below.heap_alloc W o k hk)⟩
/-- append(v, x) -/
theorem pushB {t : TypeId} (R : Row Tryz.prog bEl t 137 (.agg #[.int .i64 0, .int .i64 0]) zB 16) (v : Value) (xs : List B2) (B : Nat) (w : World) (h : OwnsB B w v xs) (hB : B ≤ w.heap.size) (hlen : xs.length ≤ 4000000) (x : B2) :
    ∃ v' w', (Builtin.append_ #[t, t] t #[v, .slice (some ⟨w.heap.size, 0, none⟩) 1 1]).run Tryz.prog (w.alloc (.cells #[.int .i64 x.b, .int .i64 x.d] 137)) = .ok v' w' ∧ OwnsB B w' v' (xs ++ [x]) ∧ w.grownBy w' v.ownBlock ∧ (∀ k, v'.ownBlock = some k → v.ownBlock = some k ∨ w.heap.size ≤ k) := by
  obtain ⟨v', w', hr, hO, hG, hl⟩ := app R v _ t xs [x] _ B (w.alloc (.cells #[.int .i64 x.b, .int .i64 x.d] 137)) (h.on (alloc_below w _) (Nat.le_refl _)) (by simp; omega) (seesOneB w x _) (by simp; omega)
  refine ⟨v', w', hr, hO, grown_allocd hG, fun k hk => ?_⟩
  rcases hl k hk with h | h
  · exact .inl h
  · simp at h; exact .inr (by omega)
/-- the last one of a row that is owned -/
theorem popB {B g n cap : Nat} {w : World} {xs : List B2} {x : B2} (h : OwnsB B w (.slice (some ⟨g, 0, none⟩) (n + 1) cap) (xs ++ [x])) (hn : xs.length = n) : OwnsB B w (.slice (some ⟨g, 0, none⟩) n cap) xs := by
  obtain ⟨h1, h2⟩ := h
  rcases h2 with ⟨h', _⟩ | ⟨g', cap', cur, h', hb, hg, h3, h4, h5, h6⟩
  · cases h'
  · simp only [Value.slice.injEq, Option.some.injEq, Addr.mk.injEq, and_true] at h'
    obtain ⟨rfl, hl, rfl⟩ := h'
    refine ⟨by rw [fv_length], .inr ⟨g, cap, cur, by rw [hn], hb, hg, by omega, h4, h5, ?_⟩⟩
    have := congrArg (List.take (xs.length * bEl.sz)) h6
    rw [List.take_take, Nat.min_eq_left (Nat.mul_le_mul_right _ (by simp)), fv_append, List.take_append_of_le_length (by rw [fv_length]; exact Nat.le_refl _)] at this
    rw [this]
    exact List.take_of_length_le (by rw [fv_length]; exact Nat.le_refl _)

theorem fieldB0 (x y : Value) (W : World) : (Instr.field 137 (.agg #[x, y]) 0).run Tryz.prog W = .ok x W := by simp [Instr.field, asAgg, go_sem]
theorem fieldB1 (x y : Value) (W : World) : (Instr.field 137 (.agg #[x, y]) 1).run Tryz.prog W = .ok y W := by simp [Instr.field, asAgg, go_sem]

set_option maxRecDepth 100000 in
theorem noneC (w : World) : Calls Tryz.prog 102 #[] w fun e w' => ∃ v', e = .returned v' ∧ OwnsB w.heap.size w' v' (stk [-1]) ∧ Below w.heap.size w w' := by
  go_enter Tryz.func102, Tryz.ntmps102
  go_wp2
  go_ret
  exact ⟨_, rfl, World.ownsRow_lit w #[.int .i64 (-1), .int .i64 0] 1 (Nat.le_refl _) (by simp [maxLen]) rfl, alloc_below w _⟩

set_option maxRecDepth 100000 in
theorem begunC (v : Value) (s : List Int) (x : Int) (B : Nat) (w : World) (h : OwnsB B w v (stk s)) (hB : B ≤ w.heap.size) (hlen : s.length ≤ 2000000) :
    Calls Tryz.prog 104 #[v, .int .i64 x] w fun e w' => ∃ v', e = .returned v' ∧ OwnsB B w' v' (stk (x :: s)) ∧ w.grownBy w' v.ownBlock ∧ (∀ k, v'.ownBlock = some k → v.ownBlock = some k ∨ w.heap.size ≤ k) := by
  obtain ⟨v', w', hr, hO, hG, hl⟩ := pushB rowO v (stk s) B w h hB (by rw [stk_length]; omega) ⟨x, s.length⟩
  obtain ⟨a, cap, rfl⟩ := h.form
  rw [stk_length] at hr hG hl ⊢
  go_enter Tryz.func104, Tryz.ntmps104
  go_wp2_with (at_builtin; refine wpList_app _ rfl _ _ 134 rfl _ _ _ _ rfl rfl hr ?_)
  go_ret
  exact ⟨_, rfl, hO, hG, hl⟩

set_option maxRecDepth 100000 in
theorem innerC (v : Value) (x : Int) (r : List Int) (B : Nat) (w : World) (h : Sees bEl B w v (stk (x :: r))) (hB : B ≤ w.heap.size) :
    Calls Tryz.prog 103 #[v] w fun e w' => e = .returned (.agg #[.int .i64 x, .int .i64 r.length]) ∧ Below w.heap.size w w' := by
  have hr := h.room
  obtain ⟨a, cap, rfl⟩ := h.form
  obtain ⟨b, off, rfl, hb, hc⟩ := h.open (by rw [stk_length]; simp)
  have h0 := hc r.length (by rw [stk_length]; simp)
  rw [stk_last] at h0
  obtain ⟨a0, a1⟩ := atB h0
  rw [stk_length, List.length_cons] at hr ⊢
  obtain ⟨n, hn⟩ : ∃ n, r.length = n := ⟨_, rfl⟩
  rw [hn] at a0 a1 hr ⊢
  change w.cell? ⟨b, off + n * 2, none⟩ = _ at a0
  change w.cell? ⟨b, off + n * 2 + 1, none⟩ = _ at a1
  have q1 : ((n + 1 : Nat) : Int) ≤ 9223372036854775807 := by unfold maxLen at hr; omega
  have q2 : ((n + 1 : Nat) : Int) - 1 = n := by omega
  have a0 := ((alloc_below w (.cells #[.int .i64 0, .int .i64 0] 137)).cell (p := ⟨b, off + n * 2, none⟩) (by show b < w.heap.size; omega)).trans a0
  have a1 := ((alloc_below w (.cells #[.int .i64 0, .int .i64 0] 137)).cell (p := ⟨b, off + n * 2 + 1, none⟩) (by show b < w.heap.size; omega)).trans a1
  clear hc h0 hr
  go_enter Tryz.func103, Tryz.ntmps103
  go_wp2
  refine bodyPost_ret (v := .agg #[.int .i64 x, .int .i64 n]) (by simp [results, Tryz.results103, go_sem]) rfl ⟨rfl, ?_⟩
  exact alloc_below w _

set_option maxRecDepth 100000 in
theorem endedC (v : Value) (x : Int) (r : List Int) (B : Nat) (w : World) (h : OwnsB B w v (stk (x :: r))) :
    Calls Tryz.prog 105 #[v] w fun e w' => ∃ v', e = .returned v' ∧ OwnsB B w v' (stk r) ∧ v'.ownBlock = v.ownBlock ∧ w = w' := by
  have hr := h.sees.room
  obtain ⟨n, hn⟩ : ∃ n, r.length = n := ⟨_, rfl⟩
  have hl : (stk r).length = n := by rw [stk_length]; exact hn
  obtain ⟨g, cap, hv, hcap⟩ : ∃ g cap, v = .slice (some ⟨g, 0, none⟩) (n + 1) cap ∧ n + 1 ≤ cap := by
    obtain ⟨-, h2⟩ := h
    rw [stk_length, List.length_cons, hn] at h2
    rcases h2 with ⟨_, h'⟩ | ⟨g', cap', cur, h', hb, hg, h3, _⟩
    · omega
    · exact ⟨g', cap', h', h3⟩
  subst hv
  have h' := popB h hl
  rw [stk_length, List.length_cons, hn] at hr
  have q1 : ((n + 1 : Nat) : Int) ≤ 9223372036854775807 := by unfold maxLen at hr; omega
  have q2 : ((n + 1 : Nat) : Int) - 1 = n := by omega
  have q3 : (n : Int) ≤ cap := by omega
  clear hr
  go_enter Tryz.func105, Tryz.ntmps105
  go_wp2
  go_ret
  exact ⟨_, rfl, h', rfl, rfl⟩
end Ops
end Go.Proofs.YtjopmakbnompnaaGreatDoor
/- What the program's homesOf answers. -/
set_option linter.unusedVariables false
set_option linter.unusedSimpArgs false
namespace Go.Proofs.YtjopmakbnompnaaGreatDoor
open Go.RowKit
namespace Ops
open Bas Flat

theorem st_len (xs : List O4) : ∀ k, (stAt xs k).length ≤ k + 1 := by
  intro k
  induction k with
  | zero => simp [stAt]
  | succ k ih =>
    show (stepS (stAt xs k) k (xs.getD k z4)).length ≤ k + 1 + 1
    obtain ⟨o, ho⟩ : ∃ o, xs.getD k z4 = o := ⟨_, rfl⟩
    rw [ho]
    by_cases h8 : o.k = 8
    · rw [step8 h8]; simp; omega
    · by_cases h9 : o.k = 9
      · rw [step9 h9, List.length_tail]; omega
      · rw [step0 h8 h9]; omega
theorem topB_cons (x : Int) (r : List Int) : topB (x :: r) = ⟨x, r.length⟩ := by unfold topB; simp

/-- open blocks and homes, each in a block of its own -/
structure HSt (g : Nat) (w W : World) (vo vh : Value) (st : List Int) (hs : List B2) : Prop where
  O : OwnsB g W vo (stk st)
  H : OwnsB g W vh hs
  sep : ∀ q, vo.ownBlock = some q → vh.ownBlock ≠ some q
  low : g ≤ W.heap.size
  below : Below g w W
section
variable {g : Nat} {w W W' : World} {vo vh v' : Value} {st r : List Int} {hs : List B2}
theorem HSt.on (h : HSt g w W vo vh st hs) (b : Below W.heap.size W W') : HSt g w W' vo vh st hs :=
  { O := h.O.on b (Nat.le_refl _), H := h.H.on b (Nat.le_refl _), sep := h.sep, low := Nat.le_trans h.low b.size, below := h.below.trans (b.mono h.low) }
theorem HSt.begun (h : HSt g w W vo vh st hs) (st' : List Int) (O : OwnsB g W' v' (stk st')) (G : W.grownBy W' vo.ownBlock) (L : ∀ k, v'.ownBlock = some k → vo.ownBlock = some k ∨ W.heap.size ≤ k) : HSt g w W' v' vh st' hs :=
  { O := O
    H := h.H.grown G (fun k hk e => h.sep k e.symm hk)
    sep := fun q hq e => by
      rcases L q hq with h' | h'
      · exact h.sep q h' e
      · have := h.H.at q e; omega
    low := Nat.le_trans h.low G.size
    below := h.below.grown G h.low (fun k hk => (h.O.at k hk).1) }
theorem HSt.ended (h : HSt g w W vo vh st hs) (st' : List Int) (O : OwnsB g W v' (stk st')) (e : v'.ownBlock = vo.ownBlock) : HSt g w W v' vh st' hs :=
  { O := O, H := h.H, sep := fun q hq => h.sep q (e ▸ hq), low := h.low, below := h.below }
/-- append(homes, x) -/
theorem HSt.home (h : HSt g w W vo vh st hs) (x : B2) (hlen : hs.length ≤ 1000000) :
    ∃ v' W', (Builtin.append_ #[111, 111] 111 #[vh, .slice (some ⟨W.heap.size, 0, none⟩) 1 1]).run Tryz.prog (W.alloc (.cells #[.int .i64 x.b, .int .i64 x.d] 137)) = .ok v' W' ∧ HSt g w W' vo v' st (hs ++ [x]) ∧ W.grownBy W' vh.ownBlock := by
  obtain ⟨v', W', hr, hO, hG, hl⟩ := pushB rowB vh hs g W h.H h.low (by omega) x
  refine ⟨v', W', hr, { O := h.O.grown hG (fun k hk e => h.sep k hk e.symm), H := hO, sep := fun q hq e => ?_, low := Nat.le_trans h.low hG.size, below := h.below.grown hG h.low (fun k hk => (h.H.at k hk).1) }, hG⟩
  rcases hl q e with h' | h'
  · exact h.sep q hq h'
  · have := h.O.at q hq; omega
end

set_option maxRecDepth 100000 in
set_option maxHeartbeats 6400000 in
theorem homesC (v : Value) (xs : List O4) (B : Nat) (w : World) (hv : Sees4 B w v xs) (hB : B ≤ w.heap.size) (hlen : xs.length ≤ 1000) :
    Calls Tryz.prog 81 #[v] w fun e w' => ∃ v', e = .returned (.tuple #[v', .bool (closedGo xs 0)]) ∧ (closedGo xs 0 = true → OwnsB w.heap.size w' v' (homes xs (xs.length + 1))) ∧ Below w.heap.size w w' := by
  obtain ⟨a, cap, rfl⟩ := hv.form
  obtain ⟨n, hn⟩ : ∃ n, xs.length = n := ⟨_, rfl⟩
  rw [hn] at hv hlen ⊢
  obtain ⟨g, hg⟩ : ∃ g, w.heap.size = g := ⟨_, rfl⟩
  have cN := noneC w
  rw [hg] at hB cN ⊢
  have HE : Hid (closedGo xs 0 = closedGo (xs.drop 0) (((stAt xs 0).length : Int) - 1)) := rfl
  go_enter Tryz.func81, Tryz.ntmps81
  go_wp2_with fail
  refine cN.mono ?_
  rintro e w1 ⟨v1, rfl, O1, b1⟩
  clear cN
  obtain ⟨a1, c1, rfl⟩ := O1.form
  have hs1 : g ≤ w1.heap.size := by have := b1.size; omega
  obtain ⟨w2, b2, hs2, hmk, H2⟩ := makeRoom rowB (n + 1) (by omega) w1 w1.heap.size (Nat.le_refl _)
  rw [show ((n + 1 : Nat) : Int) = (n : Int) + 1 by omega] at hmk
  have P0 : HSt g w w2 (.slice a1 (stk [-1]).length c1) (.slice (some ⟨w1.heap.size, 0, none⟩) 0 (n + 1)) (stAt xs 0) (homes xs 0) :=
    { O := O1.on b2 (Nat.le_refl _), H := H2.mono hs1, sep := fun q hq e => by cases e; exact Nat.lt_irrefl _ (O1.at _ hq).2, low := by omega, below := b1.trans (b2.mono hs1) }
  clear O1 b1 b2 H2 hs2
  go_wp2
  go_loopw [4, 5, 15] (fun ov hv' iv wr => ∃ (k : Nat) (ao : Option Addr) (no co : Nat) (ah : Option Addr) (nh ch : Nat), ov = .slice ao no co ∧ hv' = .slice ah nh ch ∧ iv = .int .i64 k ∧ k ≤ n ∧ 1 ≤ (stAt xs k).length ∧ HSt g w wr (.slice ao no co) (.slice ah nh ch) (stAt xs k) (homes xs k) ∧ closedGo xs 0 = closedGo (xs.drop k) (((stAt xs k).length : Int) - 1)) (fun _ _ iv _ => n - (intOf iv).toNat)
  case atStart => exact ⟨0, _, _, _, _, _, _, rfl, rfl, rfl, Nat.zero_le _, by simp [stAt], P0, HE.out⟩
  case round =>
    obtain ⟨k, ao, no, co, ah, nh, ch, rfl, rfl, rfl, hk, hst, P, he⟩ := hrel
    clear P0 HE hmk
    have hsl := st_len xs k
    have hsz := P.low
    obtain ⟨x, r, hxr⟩ : ∃ x r, stAt xs k = x :: r := by
      match h : stAt xs k, hst with
      | x :: r, _ => exact ⟨x, r, rfl⟩
    have HH : Hid (homes xs (k + 1) = homes xs k ++ [⟨x, r.length⟩]) := by
      show _ = _
      rw [homes_succ, hxr, topB_cons]
    have HX : Hid (stAt xs k = x :: r) := hxr
    have hl := homes_length xs k
    rw [hxr] at P he hsl
    clear hst hxr
    by_cases hlt : k < n
    · obtain ⟨b, off, rfl, hbB, hc⟩ := (hv.on P.below hB).open (by omega)
      obtain ⟨e0, e1, e2, e3⟩ := seeI hc k (by omega)
      have i1 : (k : Int) < n := by omega
      have HN : Hid (stAt xs (k + 1) = stepS (stAt xs k) k xs[k]) := stAt_succ (by omega)
      rw [closedGo_step (by omega)] at he
      obtain ⟨o, ho⟩ : ∃ o, xs[k] = o := ⟨_, rfl⟩
      rw [ho] at e0 e1 e2 e3 he HN
      have HC := (show Hid _ from he)
      clear hc ho he
      have X0 := Blk.new wr #[.int .i64 o.k, .int .i64 o.a, .int .i64 o.b, .int .i64 o.c] 36
      have P1 := P.on (alloc_below wr (.cells #[.int .i64 o.k, .int .i64 o.a, .int .i64 o.b, .int .i64 o.c] 36))
      go_wp2_with fail
      refine (innerC _ x r _ _ P1.O.sees (Nat.le_refl _)).mono ?_
      rintro e w2 ⟨rfl, b2⟩
      have P2 := P1.on b2
      have X2 := X0.on b2 X0.lt
      obtain ⟨v3, w3, hr3, P3, G3⟩ := P2.home ⟨x, r.length⟩ (by omega)
      rw [← HH.out] at P3
      have X3 := X2.grown G3 (fun e => by have := P.H.at _ e.symm; omega)
      have hf1 := fun x y W => fieldB1 x y W
      obtain ⟨a3, c3, rfl⟩ := P3.H.form
      have x3 := X3.cell 0
      clear X0 P1 P2 X2 e0 e1 e2 e3 P
      rcases kindI o with ⟨h8, hD⟩ | ⟨h9, hD⟩ | ⟨h8, h9, hD⟩
      · rw [h8] at x3
        have HF : Hid (closedGo xs 0 = closedGo (xs.drop (k + 1)) (((stAt xs (k + 1)).length : Int) - 1)) := by
          show _ = _
          rw [HC.out, HN.out, step8 h8, HX.out, hD, decide_eq_true (by simp; omega), Bool.true_and]
          congr 1
          simp
        have HS : Hid (stAt xs (k + 1) = (k : Int) :: x :: r) := by show _ = _; rw [HN.out, step8 h8, HX.out]
        clear hD
        go_wp2_with (at_builtin; refine wpList_app _ rfl _ _ 111 rfl _ _ _ _ rfl rfl hr3 ?_)
        clear hr3
        refine (begunC _ (x :: r) k g w3 P3.O P3.low (by omega)).mono ?_
        rintro e w4 ⟨v4, rfl, O4', G4, L4⟩
        have P4 := P3.begun ((k : Int) :: x :: r) O4' G4 L4
        obtain ⟨a4, c4, rfl⟩ := O4'.form
        go_wp2
        go_roundw
        case rel => exact ⟨k + 1, _, _, _, _, _, _, rfl, rfl, by go_num, by omega, by rw [HS.out]; simp, by rw [HS.out]; exact P4, HF.out⟩
        case measure => simp [intOf]; omega
      · rw [h9] at x3
        have HS : Hid (stAt xs (k + 1) = r) := by show _ = _; rw [HN.out, step9 h9, HX.out]; rfl
        cases r with
        | nil =>
          have HF : Hid (false = closedGo xs 0) := by
            show _ = _
            rw [HC.out, hD]; rfl
          clear hD
          go_wp2_with (at_builtin; refine wpList_app _ rfl _ _ 111 rfl _ _ _ _ rfl rfl hr3 ?_)
          clear hr3
          refine (innerC _ x [] _ w3 P3.O.sees (Nat.le_refl _)).mono ?_
          rintro e w4 ⟨rfl, b4⟩
          have P4 := P3.on b4
          go_wp2
          go_ret2
          exact ⟨.slice none 0 0, (by show Ending.returned (.tuple #[.slice none 0 0, .bool false]) = _; rw [← HF.out]), (fun h => by rw [← HF.out] at h; cases h), P4.below⟩
        | cons y r =>
          have HF : Hid (closedGo xs 0 = closedGo (xs.drop (k + 1)) (((stAt xs (k + 1)).length : Int) - 1)) := by
            show _ = _
            rw [HC.out, HS.out, hD, decide_eq_true (by simp; omega), Bool.true_and]
            congr 1
            simp; omega
          have dn : (((y :: r).length : Int) == 0) = false := by simp; omega
          clear hD
          go_wp2_with (at_builtin; refine wpList_app _ rfl _ _ 111 rfl _ _ _ _ rfl rfl hr3 ?_)
          clear hr3
          refine (innerC _ x (y :: r) _ w3 P3.O.sees (Nat.le_refl _)).mono ?_
          rintro e w4 ⟨rfl, b4⟩
          have P4 := P3.on b4
          go_wp2_with fail
          refine (endedC _ x (y :: r) g w4 P4.O).mono ?_
          rintro e w5 ⟨v5, rfl, O5, e5, rfl⟩
          have P5 := P4.ended (y :: r) O5 e5
          obtain ⟨a5, c5, rfl⟩ := O5.form
          go_wp2
          go_roundw
          case rel => exact ⟨k + 1, _, _, _, _, _, _, rfl, rfl, by go_num, by omega, by rw [HS.out]; simp, by rw [HS.out]; exact P5, HF.out⟩
          case measure => simp [intOf]; omega
      · have HS : Hid (stAt xs (k + 1) = x :: r) := by show _ = _; rw [HN.out, step0 (by simpa using h8) (by simpa using h9), HX.out]
        have HF : Hid (closedGo xs 0 = closedGo (xs.drop (k + 1)) (((stAt xs (k + 1)).length : Int) - 1)) := by
          show _ = _
          rw [HC.out, HS.out, hD, decide_eq_true (by simp only [List.length_cons]; omega), Bool.true_and, Int.add_zero]
        clear hD
        go_wp2_with (at_builtin; refine wpList_app _ rfl _ _ 111 rfl _ _ _ _ rfl rfl hr3 ?_)
        clear hr3
        go_roundw
        case rel => exact ⟨k + 1, _, _, _, _, _, _, rfl, rfl, by go_num, by omega, by rw [HS.out]; simp, by rw [HS.out]; exact P3, HF.out⟩
        case measure => simp [intOf]; omega
    · obtain rfl : k = n := by omega
      have i1 : ¬ (k : Int) < k := by omega
      have HF : Hid (((r.length : Int) == 0) = closedGo xs 0) := by
        show _ = _
        rw [he, List.drop_of_length_le (by omega)]
        show _ = (((((x :: r).length : Nat) : Int) - 1) == 0)
        congr 1
        simp
      clear he i1
      go_wp2_with fail
      refine (innerC _ x r _ _ P.O.sees (Nat.le_refl _)).mono ?_
      rintro e w2 ⟨rfl, b2⟩
      have P2 := P.on b2
      obtain ⟨v3, w3, hr3, P3, G3⟩ := P2.home ⟨x, r.length⟩ (by omega)
      rw [← HH.out] at P3
      have hf1 := fun x y W => fieldB1 x y W
      go_wp2_with (at_builtin; refine wpList_app _ rfl _ _ 111 rfl _ _ _ _ rfl rfl hr3 ?_)
      clear hr3
      refine (innerC _ x r _ w3 P3.O.sees (Nat.le_refl _)).mono ?_
      rintro e w4 ⟨rfl, b4⟩
      have P4 := P3.on b4
      go_wp2
      go_ret2
      exact ⟨v3, (by show Ending.returned (.tuple #[v3, .bool ((r.length : Int) == 0)]) = _; rw [← HF.out]), (fun _ => P4.H), P4.below⟩
end Ops
end Go.Proofs.YtjopmakbnompnaaGreatDoor
