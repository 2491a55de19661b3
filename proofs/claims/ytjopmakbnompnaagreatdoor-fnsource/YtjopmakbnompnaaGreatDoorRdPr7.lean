/- Several texts of one proof, in build order: ReadProgSpec, OpMark, ProgMark, ProgMark2, SourceLaw3. -/
import Derived.Test.YtjopmakbnompnaaGreatDoorRdPr1
import Derived.Test.YtjopmakbnompnaaGreatDoorRdPr2
import Derived.Test.YtjopmakbnompnaaGreatDoorRdPr3
import Derived.Test.YtjopmakbnompnaaGreatDoorRdPr5
import Derived.Test.YtjopmakbnompnaaGreatDoorRdPr6
/- What the specification's ReadProg answers. -/
set_option linter.unusedVariables false
set_option linter.unusedSimpArgs false
namespace Go.Proofs.YtjopmakbnompnaaGreatDoor
open Go.RowKit
namespace Ops
open Bas Flat Strs Num

/-- what ReadProg answers -/
def ToldProg (B : Nat) (L : Txt) (e : Ending) (w' : World) : Prop := ∃ vc vk xs kss b, e = .returned (.tuple #[.agg #[vc, vk], .bool b]) ∧ OwnP B w' vc vk xs kss ∧ RdProg L xs kss b
theorem told_noprog {B : Nat} {L : Txt} {w' : World} (h : RdProg L [] [] false) {e : Ending} (he : e = .returned (.tuple #[.agg #[.slice none 0 0, .slice none 0 0], .bool false])) : ToldProg B L e w' :=
  ⟨_, _, [], [], false, he, ⟨Owns.nil _ _ _ _, OwnK.nil _ _⟩, h⟩
theorem joinK_len {p : Txt} : ∀ {l : List Txt}, p ∈ l → p.length ≤ (joinK l).length
  | [q], h => by simp at h; simp [joinK, h]
  | q :: q' :: r, h => by
    rcases List.mem_cons.1 h with rfl | h
    · simp only [joinK, List.length_append]; omega
    · have := joinK_len h; simp only [joinK, List.length_append]; omega
theorem piece_len {L p : Txt} (h : p ∈ pieces L) : p.length ≤ L.length := by
  have := joinK_len h
  rw [pieces_join] at this; exact this

/-- the parts, the result's place -/
structure QSt (w W : World) (vp : Value) (ps : List Txt) : Prop where
  P : OwnsS w.heap.size W vp ps
  R : Blk W w.heap.size #[.slice none 0 0, .slice none 0 0] 27
  b : Below w.heap.size w W
section
variable {w W W' : World} {p : Nat} {vp vc vk v' : Value} {ps : List Txt} {xs : List O4} {kss : List (List O4)}
theorem QSt.on (h : QSt w W vp ps) (hb : Below W.heap.size W W') : QSt w W' vp ps := { P := h.P.on hb (Nat.le_refl _), R := h.R.on hb h.R.lt, b := h.b.trans (hb.mono h.b.size) }
theorem QSt.push (h : QSt w W vp ps) (s : Txt) (hlen : ps.length ≤ 1000) :
    ∃ v' W', (Builtin.append_ #[60, 60] 60 #[vp, .slice (some ⟨W.heap.size, 0, none⟩) 1 1]).run Tryz.prog (W.alloc (.cells #[.string ⟨s.toArray⟩] 9)) = .ok v' W' ∧ QSt w W' v' (ps ++ [s]) := by
  obtain ⟨v', W', hr, hO, hG, -⟩ := pushS vp ps w.heap.size W h.P h.b.size (by omega) s
  exact ⟨v', W', hr, { P := hO, R := h.R.grown hG (fun e => h.P.off h.R (by decide) _ e.symm rfl), b := h.b.grown hG h.b.size (fun k hk => (h.P.at k hk).1) }⟩
/-- .. and the program that is being read -/
structure KSt (w W : World) (p : Nat) (vp vc vk : Value) (ps : List Txt) (xs : List O4) (kss : List (List O4)) : Prop where
  Q : QSt w W vp ps
  X : Blk W p #[vc, vk] 27
  O : OwnP w.heap.size W vc vk xs kss
  ne : w.heap.size < p
theorem KSt.on (h : KSt w W p vp vc vk ps xs kss) (hb : Below W.heap.size W W') : KSt w W' p vp vc vk ps xs kss := { Q := h.Q.on hb, X := h.X.on hb h.X.lt, O := h.O.on hb, ne := h.ne }
theorem QSt.set (h : QSt w W vp ps) {cs : Array Value} (X : Blk W p cs 27) (hne : w.heap.size < p) (i : Nat) (u : Value) : QSt w (W.setCell ⟨p, i, none⟩ u) vp ps :=
  { P := h.P.other (h.P.off X (by decide)) u, R := h.R.other (by omega) i u, b := h.b.setCell (by show w.heap.size ≤ p; omega) u }
theorem KSt.code (h : KSt w W p vp vc vk ps xs kss) {ys : List O4} (hc : Owns4 w.heap.size W v' ys) : KSt w (W.setCell ⟨p, 0, none⟩ v') p vp v' vk ps ys kss :=
  { Q := h.Q.set h.X h.ne 0 v', X := h.X.set 0 v', O := ⟨hc.other (own_ne hc h.X (by decide)) _, h.O.k.other h.X (by decide) (by decide) _ _⟩, ne := h.ne }
theorem KSt.kid (h : KSt w W p vp vc vk ps xs kss) (s : S3) (ys : List O4) (hs : Owns4 w.heap.size W s.val ys) (hlen : kss.length ≤ 1000) :
    ∃ v' W', (Builtin.append_ #[25, 25] 25 #[vk, .slice (some ⟨W.heap.size, 0, none⟩) 1 1]).run Tryz.prog (W.alloc (.cells #[.slice s.a s.n s.cap] 47)) = .ok v' W' ∧ W'.cell? ⟨p, 1, none⟩ = some vk ∧ W'.frozen? ⟨p, 1, none⟩ = false ∧ KSt w (W'.setCell ⟨p, 1, none⟩ v') p vp vc v' ps xs (kss ++ [ys]) := by
  have hne := h.ne
  obtain ⟨v', W', hr, hK, hG, hB⟩ := h.O.k.push h.Q.b.size s ys hs (by omega)
  have off : ∀ {q : Nat} {cur : Array Value} {t : TypeId}, W.heap[q]? = some (.cells cur t (0, 0)) → t ≠ 47 → some q ≠ vk.ownBlock := fun hq ht e => by
    obtain ⟨-, cur', hc⟩ := hB _ e.symm
    rw [hq] at hc
    simp only [Option.some.injEq, Obj.cells.injEq] at hc
    exact ht hc.2.1
  have X' := h.X.grown hG (off h.X (by decide))
  have R' := h.Q.R.grown hG (off h.Q.R (by decide))
  have P' : OwnsS w.heap.size W' vp ps := h.Q.P.grown hG (fun k hk => by obtain ⟨cur, hc⟩ := own_block h.Q.P k hk; exact off hc (by decide))
  have C' : Owns4 w.heap.size W' vc xs := h.O.c.grown hG (fun k hk => by obtain ⟨cur, hc⟩ := own_block h.O.c k hk; exact off hc (by decide))
  have Q' : QSt w W' vp ps := { P := P', R := R', b := h.Q.b.grown hG h.Q.b.size (fun k hk => (hB k hk).1) }
  exact ⟨v', W', hr, X'.cell 1, X'.froz 1, { Q := Q'.set X' hne 1 v', X := X'.set 1 v', O := ⟨C'.other (own_ne C' X' (by decide)) _, hK.other X' (by decide) (by decide) _ _⟩, ne := hne }⟩
end

set_option maxRecDepth 100000 in
set_option maxHeartbeats 8000000 in
theorem readProgC (L : Txt) (hs : L.length ≤ 1048576) (w : World) :
    Calls Tryz.prog 12 #[.string ⟨L.toArray⟩] w fun e w' => ToldProg w.heap.size L e w' ∧ Below w.heap.size w w' := by
  have b0 := alloc_below w (.cells #[.slice none 0 0, .slice none 0 0] 27)
  have R0 := Blk.new w #[.slice none 0 0, .slice none 0 0] 27
  have Q0 : QSt w ((w.alloc (.cells #[.slice none 0 0, .slice none 0 0] 27)).alloc (.cells #[] 9)) (.slice (some ⟨w.heap.size + 1, 0, none⟩) 0 0) [] :=
    { P := by
        have := World.ownsRow_lit (base := w.heap.size) (e := 9) (size := 1) (w.alloc (.cells #[.slice none 0 0, .slice none 0 0] 27)) #[] 0 (by simp) (by simp [maxLen]) rfl
        have e : (w.alloc (.cells #[.slice none 0 0, .slice none 0 0] 27)).heap.size = w.heap.size + 1 := by simp
        rw [e] at this
        exact this
      R := R0.on (alloc_below _ _) R0.lt
      b := b0.trans ((alloc_below _ _).mono b0.size) }
  have S0 := Sc.start L
  obtain ⟨n, hn⟩ : ∃ n, L.length = n := ⟨_, rfl⟩
  have hsz : (⟨L.toArray⟩ : ByteArray).size = n := by show L.toArray.size = n; simpa using hn
  have HX : Hid (∀ i j, (⟨L.toArray⟩ : ByteArray).extract i j = ⟨((L.drop i).take (j - i)).toArray⟩) := fun i j => by rw [piece]
  have HG : Hid (∀ k (h : k < (⟨L.toArray⟩ : ByteArray).size) (h' : k < L.length), (⟨L.toArray⟩ : ByteArray)[k] = L[k]) := fun k h h' => rfl
  rw [hn] at hs
  clear b0 R0
  go_enter Tryz.func12, Tryz.ntmps12
  go_wp2
  go_loopw [4, 5, 6] (fun pv fv iv wr => ∃ (i f : Nat) (P : List Txt) (a : Option Addr) (m c : Nat), pv = .slice a m c ∧ fv = .int .i64 f ∧ iv = .int .i64 i ∧ P.length = m ∧ m ≤ 3 ∧ Sc L i f P ∧ QSt w wr (.slice a m c) P) (fun _ _ iv _ => n - (intOf iv).toNat)
  case atStart => exact ⟨0, 0, [], _, _, _, rfl, rfl, rfl, rfl, by omega, S0, Q0⟩
  case round =>
    obtain ⟨i, f, P, a, m, c, rfl, rfl, rfl, hPm, hm3, S, Q⟩ := hrel
    clear S0 Q0
    have hil := S.le
    have hfl := S.fle
    rw [hn] at hil hfl
    by_cases hlt : i + 4 ≤ n
    · have i1 : (i : Int) + 4 ≤ n := by omega
      have hxe := HX.out i (i + 4)
      rw [show i + 4 - i = 4 by omega] at hxe
      by_cases hkl : (L.drop i).take 4 = kidL
      · have hxe' : (⟨L.toArray⟩ : ByteArray).extract i (i + 4) = ⟨#[107, 105, 100, 10]⟩ := by rw [hxe, hkl]; rfl
        clear hxe
        cases i with
        | zero =>
          have hst : stOf L 0 = true := by simp [stOf]
          have hxe' : (⟨L.toArray⟩ : ByteArray).extract 0 4 = ⟨#[107, 105, 100, 10]⟩ := hxe'
          obtain ⟨hfi, S'⟩ := S.kid (by omega) hkl hst
          obtain ⟨v2, w2, hr2, Q2⟩ := Q.push ((L.drop f).take (0 - f)) (by omega)
          rw [← HX.out f (0)] at hr2
          obtain ⟨a2, c2, rfl⟩ := Q2.P.form
          obtain ⟨m2, hm2⟩ : ∃ m, (P ++ [(L.drop f).take (0 - f)]).length = m := ⟨_, rfl⟩
          rw [hm2] at Q2 hr2
          have hm24 : m2 ≤ 4 := by rw [← hm2]; simp [hPm]; omega
          have f1 : (f : Int) ≤ (0 : Int) := by omega
          have f2 : (0 : Int) ≤ f := by omega
          have HS := (show Hid _ from S')
          clear S S' hst hkl Q
          by_cases hm4 : m2 = 4
          · have HF : Hid (RdProg L [] [] false) := rp_many (by rw [HS.out.eq, List.length_append, hm2, hm4]; have := List.length_pos_iff.2 (scan_ne (0 + 4 - (0 + 1)) (stOf L (0 + 1)) ((L.drop (0 + 4)).take (0 + 1 - (0 + 4))) (L.drop (0 + 1))); omega)
            have Q := Q2
            have r0 := Q.R.cell 0; have r1 := Q.R.cell 1
            have z0 := Q.R.froz 0; have z1 := Q.R.froz 1
            have bz := (Q.b.setCell (p := ⟨w.heap.size, 0, none⟩) (Nat.le_refl _) (.slice none 0 0)).setCell (p := ⟨w.heap.size, 1, none⟩) (Nat.le_refl _) (.slice none 0 0)
            have d3 : (3 : Int) < m2 := by omega
            clear Q2 Q HS
            go_wp2_with (at_builtin; refine wpList_app _ rfl _ _ 60 rfl _ _ _ _ rfl rfl hr2 ?_)
            refine bodyPost_ret (v := .tuple #[.agg #[.slice none 0 0, .slice none 0 0], .bool false]) (by simp [results, Tryz.results12, go_sem, r0, r1, z0, z1]) rfl ?_
            exact ⟨told_noprog HF.out rfl, bz⟩
          · have d3 : ¬ (3 : Int) < m2 := by omega
            go_wp2_with (at_builtin; refine wpList_app _ rfl _ _ 60 rfl _ _ _ _ rfl rfl hr2 ?_)
            clear hr2
            go_roundw
            case rel => exact ⟨0 + 1, 0 + 4, _, _, _, _, rfl, by go_num, by go_num, hm2, by omega, HS.out, Q2⟩
            case measure => simp [intOf]; omega
        | succ i =>
          have hiB : i < (⟨L.toArray⟩ : ByteArray).size := by rw [hsz]; omega
          have hiL : i < L.length := by omega
          have eI := HG.out i hiB hiL
          have eS : stOf L (i + 1) = (L[i] == 10) := stOf_succ hiL
          by_cases h10 : L[i] = 10
          · have hst : stOf L (i + 1) = true := by rw [eS]; simp [h10]
            have dx : (((((⟨L.toArray⟩ : ByteArray)[i]'hiB).toNat : Nat) : Int) == 10) = true := by rw [eI, h10]; rfl
            clear eI eS h10
            obtain ⟨hfi, S'⟩ := S.kid (by omega) hkl hst
            obtain ⟨v2, w2, hr2, Q2⟩ := Q.push ((L.drop f).take ((i + 1) - f)) (by omega)
            rw [← HX.out f ((i + 1))] at hr2
            obtain ⟨a2, c2, rfl⟩ := Q2.P.form
            obtain ⟨m2, hm2⟩ : ∃ m, (P ++ [(L.drop f).take ((i + 1) - f)]).length = m := ⟨_, rfl⟩
            rw [hm2] at Q2 hr2
            have hm24 : m2 ≤ 4 := by rw [← hm2]; simp [hPm]; omega
            have f1 : (f : Int) ≤ ((i + 1 : Nat) : Int) := by omega
            have f2 : (0 : Int) ≤ f := by omega
            have HS := (show Hid _ from S')
            clear S S' hst hkl Q
            by_cases hm4 : m2 = 4
            · have HF : Hid (RdProg L [] [] false) := rp_many (by rw [HS.out.eq, List.length_append, hm2, hm4]; have := List.length_pos_iff.2 (scan_ne ((i + 1) + 4 - ((i + 1) + 1)) (stOf L ((i + 1) + 1)) ((L.drop ((i + 1) + 4)).take ((i + 1) + 1 - ((i + 1) + 4))) (L.drop ((i + 1) + 1))); omega)
              have Q := Q2
              have r0 := Q.R.cell 0; have r1 := Q.R.cell 1
              have z0 := Q.R.froz 0; have z1 := Q.R.froz 1
              have bz := (Q.b.setCell (p := ⟨w.heap.size, 0, none⟩) (Nat.le_refl _) (.slice none 0 0)).setCell (p := ⟨w.heap.size, 1, none⟩) (Nat.le_refl _) (.slice none 0 0)
              have d3 : (3 : Int) < m2 := by omega
              clear Q2 Q HS
              go_wp2_with (at_builtin; refine wpList_app _ rfl _ _ 60 rfl _ _ _ _ rfl rfl hr2 ?_)
              refine bodyPost_ret (v := .tuple #[.agg #[.slice none 0 0, .slice none 0 0], .bool false]) (by simp [results, Tryz.results12, go_sem, r0, r1, z0, z1]) rfl ?_
              exact ⟨told_noprog HF.out rfl, bz⟩
            · have d3 : ¬ (3 : Int) < m2 := by omega
              go_wp2_with (at_builtin; refine wpList_app _ rfl _ _ 60 rfl _ _ _ _ rfl rfl hr2 ?_)
              clear hr2
              go_roundw
              case rel => exact ⟨(i + 1) + 1, (i + 1) + 4, _, _, _, _, rfl, by go_num, by go_num, hm2, by omega, HS.out, Q2⟩
              case measure => simp [intOf]; omega
          · have hno : ¬ ((L.drop (i + 1)).take 4 = kidL ∧ stOf L (i + 1) = true) := fun e => by rw [eS] at e; exact h10 (by simpa using e.2)
            have dx : (((((⟨L.toArray⟩ : ByteArray)[i]'hiB).toNat : Nat) : Int) == 10) = false := by
              rw [eI, beq_eq_false_iff_ne]
              intro e
              exact h10 (UInt8.toNat_inj.1 (by have : (10 : UInt8).toNat = 10 := rfl; omega))
            clear eI eS h10 hkl
            have S' := S.pass (by omega) hno
            clear S hno
            go_wp2
            go_roundw
            case rel => exact ⟨(i + 1) + 1, f, P, _, _, _, rfl, rfl, by go_num, hPm, hm3, S', Q⟩
            case measure => simp [intOf]; omega
      · have hno : ¬ ((L.drop i).take 4 = kidL ∧ stOf L i = true) := fun e => hkl e.1
        obtain ⟨K, hK⟩ : ∃ K, (L.drop i).take 4 = K := ⟨_, rfl⟩
        rw [hK] at hxe
        have dK : (K == [107, 105, 100, 10]) = false := by rw [← hK]; simpa [kidL] using hkl
        clear hkl hK
        have S' := S.pass (by omega) hno
        clear S hno
        go_wp2
        go_roundw
        case rel => exact ⟨i + 1, f, P, _, _, _, rfl, rfl, by go_num, hPm, hm3, S', Q⟩
        case measure => simp [intOf]; omega
    · have i1 : ¬ (i : Int) + 4 ≤ n := by omega
      have hdone := S.done (by omega)
      obtain ⟨v2, w2, hr2, Q2⟩ := Q.push ((L.drop f).take (n - f)) (by omega)
      rw [← HX.out f n] at hr2
      rw [List.take_of_length_le (by simp; omega), ← hdone] at Q2
      obtain ⟨a2, c2, rfl⟩ := Q2.P.form
      obtain ⟨ps, hps⟩ : ∃ ps, pieces L = ps := ⟨_, rfl⟩
      have hm4 : ps.length ≤ 4 := by rw [← hps, hdone]; simp [hPm]; omega
      have HPS : Hid (pieces L = ps) := hps
      rw [hps] at Q2 hr2
      obtain ⟨m2, hm2⟩ : ∃ m, ps.length = m := ⟨_, rfl⟩
      rw [hm2] at Q2 hr2 hm4
      have hpos : 0 < m2 := by rw [← hm2, ← hps, hdone]; simp
      have f2 : (0 : Int) ≤ f := by omega
      have f1 : (f : Int) ≤ n := by omega
      have HPc := (show Hid _ from @rp_piece L)
      have HTo := (show Hid _ from @told_prog L)
      have HLn : Hid (∀ p ∈ pieces L, p.length ≤ 1048576) := fun p hp => by have := piece_len hp; omega
      rw [hps] at HPc HTo HLn
      have bA := alloc_below w2 (.cells #[.slice none 0 0, .slice none 0 0] 27)
      have XA := Blk.new w2 #[.slice none 0 0, .slice none 0 0] 27
      have K0 : KSt w (w2.alloc (.cells #[.slice none 0 0, .slice none 0 0] 27)) w2.heap.size (.slice a2 m2 c2) (.slice none 0 0) (.slice none 0 0) ps [] [] :=
        { Q := Q2.on bA, X := XA, O := ⟨Owns.nil _ _ _ _, OwnK.nil _ _⟩, ne := Q2.R.lt }
      obtain ⟨p, hp⟩ : ∃ p, w2.heap.size = p := ⟨_, rfl⟩
      rw [hp] at K0
      clear hdone hps S Q Q2 bA XA
      go_wp2_with (at_builtin; refine wpList_app _ rfl _ _ 60 rfl _ _ _ _ rfl rfl hr2 ?_)
      clear hr2 hp
      go_loopw [8] (fun jv wr => ∃ (j : Nat) (cs : List (List O4)) (ac : Option Addr) (nc cc : Nat) (ak : Option Addr) (nk ck : Nat) (xs : List O4) (kss : List (List O4)), j ≤ m2 ∧ jv = .int .i64 j ∧ cs.length = j ∧ ReadK ps cs ∧ (cs = [] ∧ xs = [] ∧ kss = [] ∨ cs = xs :: kss) ∧ KSt w wr p (.slice a2 m2 c2) (.slice ac nc cc) (.slice ak nk ck) ps xs kss) (fun jv _ => m2 - (intOf jv).toNat)
      case atStart => exact ⟨0, [], none, 0, 0, none, 0, 0, [], [], Nat.zero_le _, rfl, rfl, readK_nil ps, .inl ⟨rfl, rfl, rfl⟩, K0⟩
      case round =>
        clear K0
        obtain ⟨j, cs, ac, nc, cc, ak, nk, ck, xs, kss, hj, rfl, hcl, hrk, hcs, K⟩ := hrel
        by_cases hlt2 : j < m2
        · obtain ⟨q, off, rfl, hq, hcc⟩ := K.Q.P.sees.open (by omega)
          have s1 := seeS hcc j (by omega)
          have j1 : (j : Int) < m2 := by omega
          have j2 : (0 : Int) ≤ j := by omega
          have hjx : j < ps.length := by omega
          have cR := readCodeC ps[j] (HLn.out _ (List.getElem_mem hjx)) wr
          have HY := (show Hid _ from (fun (c : List O4) (h : RdCode (ps[cs.length]'(by omega)) c true) => readK_snoc hrk (by omega) h))
          have HE : Hid (∀ h : cs.length < ps.length, ps[cs.length] = ps[j]) := fun h => by congr 1
          have HN := (show Hid _ from (fun (c : List O4) (h : RdCode ps[j] c false) => HPc.out hjx h))
          obtain ⟨pt, hpt⟩ : ∃ pt, ps[j] = pt := ⟨_, rfl⟩
          have HPT : Hid (ps[j] = pt) := hpt
          rw [hpt] at s1 cR HN
          clear hcc hpt
          go_wp2_with fail
          refine cR.mono ?_
          rintro e w4 ⟨⟨v4, ys, b, rfl, O4', hrd⟩, b4⟩
          clear cR s1
          have b4w := K.Q.b.size
          have K := K.on b4
          obtain ⟨a4, c4, rfl⟩ := O4'.form
          cases b
          · have HF : Hid (RdProg L [] [] false) := HN.out ys hrd
            have Q := K.Q
            have r0 := Q.R.cell 0; have r1 := Q.R.cell 1
            have z0 := Q.R.froz 0; have z1 := Q.R.froz 1
            have bz := (Q.b.setCell (p := ⟨w.heap.size, 0, none⟩) (Nat.le_refl _) (.slice none 0 0)).setCell (p := ⟨w.heap.size, 1, none⟩) (Nat.le_refl _) (.slice none 0 0)
            clear K Q HN HY HE HPT hrd hrk O4'
            go_wp2
            refine bodyPost_ret (v := .tuple #[.agg #[.slice none 0 0, .slice none 0 0], .bool false]) (by simp [results, Tryz.results12, go_sem, r0, r1, z0, z1]) rfl ?_
            exact ⟨told_noprog HF.out rfl, bz⟩
          · have HR : Hid (ReadK ps (cs ++ [ys])) := HY.out ys (by rw [HE.out (by omega), HPT.out]; exact hrd)
            have O4 := O4'.mono (b4w : w.heap.size ≤ wr.heap.size)
            clear HN HY HE HPT hrd hrk O4'
            rcases hcs with ⟨rfl, rfl, rfl⟩ | rfl
            · obtain rfl : j = 0 := by simpa using hcl.symm
              have K' := K.code O4
              have x0 := K.X.cell 0
              have f0 := K.X.froz 0
              clear K O4
              go_wp2
              go_roundw
              case rel => exact ⟨1, [ys], _, _, _, _, _, _, ys, [], by omega, rfl, rfl, HR.out, .inr rfl, K'⟩
              case measure => simp [intOf]; omega
            · have hj0 : 0 < j := by rw [← hcl]; simp
              have dj : ((j : Int) == 0) = false := by simp; omega
              have hkl : kss.length ≤ 1000 := by simp at hcl; omega
              obtain ⟨v5, w5, hr5, z1, z2, K5⟩ := K.kid ⟨a4, ys.length, c4⟩ ys O4 hkl
              obtain ⟨a5, c5, rfl⟩ := K5.O.k.form
              obtain ⟨n5, hn5⟩ : ∃ n, (kss ++ [ys]).length = n := ⟨_, rfl⟩
              rw [hn5] at K5 hr5
              obtain ⟨n4, hn4⟩ : ∃ n, ys.length = n := ⟨_, rfl⟩
              rw [hn4] at hr5 ⊢
              have x1 := K.X.cell 1
              clear K O4 hj0
              go_wp2_with (at_builtin; refine wpList_app _ rfl _ _ 25 rfl _ _ _ _ rfl rfl hr5 ?_)
              clear hr5 x1 z1 z2
              go_roundw
              case rel => exact ⟨j + 1, (xs :: kss) ++ [ys], _, _, _, _, _, _, xs, kss ++ [ys], by omega, by go_num, by rw [List.length_append, hcl]; rfl, HR.out, .inr rfl, K5⟩
              case measure => simp [intOf]; omega
        · obtain rfl : j = m2 := by omega
          have j1 : ¬ (j : Int) < j := by omega
          obtain ⟨rfl, -, -⟩ | hcs := hcs
          · simp at hcl; omega
          subst hcs
          have HT := (show Hid _ from HTo.out hrk (by omega))
          obtain ⟨-, hco⟩ := readK_map hrk (by omega)
          have hf : Fits xs kss := ⟨by have := code_len (hco xs (by simp)); omega, by simp at hcl; omega, fun ks hk => by have := code_len (hco ks (by simp [hk])); omega⟩
          have c5 := progSpec _ _ xs kss wr.heap.size wr ⟨K.O.c.sees, K.O.k.sees⟩ (Nat.le_refl _) hf
          obtain ⟨pp, hpp⟩ : ∃ pp, progOk xs kss = pp := ⟨_, rfl⟩
          rw [hpp] at c5 HT
          have x0 := K.X.cell 0; have x1 := K.X.cell 1
          clear hrk hco hf hpp
          go_wp2_with fail
          refine c5.mono ?_
          rintro e w5 ⟨rfl, b5⟩
          have K := K.on b5
          clear c5 x0 x1
          cases pp
          · have HF : Hid (RdProg L [] [] false) := HT.out.2 rfl
            have Q := K.Q
            have r0 := Q.R.cell 0; have r1 := Q.R.cell 1
            have z0 := Q.R.froz 0; have z1 := Q.R.froz 1
            have bz := (Q.b.setCell (p := ⟨w.heap.size, 0, none⟩) (Nat.le_refl _) (.slice none 0 0)).setCell (p := ⟨w.heap.size, 1, none⟩) (Nat.le_refl _) (.slice none 0 0)
            clear K Q HT
            go_wp2
            refine bodyPost_ret (v := .tuple #[.agg #[.slice none 0 0, .slice none 0 0], .bool false]) (by simp [results, Tryz.results12, go_sem, r0, r1, z0, z1]) rfl ?_
            exact ⟨told_noprog HF.out rfl, bz⟩
          · have HF : Hid (RdProg L xs kss true) := HT.out.1 rfl
            have x0 := K.X.cell 0; have x1 := K.X.cell 1
            have r0 := K.Q.R.cell 0; have r1 := K.Q.R.cell 1
            have z0 := K.Q.R.froz 0; have z1 := K.Q.R.froz 1
            have hnp := K.ne
            have bz := (K.Q.b.setCell (p := ⟨w.heap.size, 0, none⟩) (Nat.le_refl _) (.slice ac nc cc)).setCell (p := ⟨w.heap.size, 1, none⟩) (Nat.le_refl _) (.slice ak nk ck)
            have OZ := (K.O.other K.Q.R (by decide) (by decide) 0 (.slice ac nc cc)).other (K.Q.R.set 0 (.slice ac nc cc)) (by decide) (by decide) 1 (.slice ak nk ck)
            clear K HT
            go_wp2
            refine bodyPost_ret (v := .tuple #[.agg #[.slice ac nc cc, .slice ak nk ck], .bool true]) (by simp [results, Tryz.results12, go_sem, r0, r1, z0, z1]) rfl ?_
            exact ⟨⟨_, _, xs, kss, true, rfl, OZ, HF.out⟩, bz⟩
end Ops
end Go.Proofs.YtjopmakbnompnaaGreatDoor
/- Marks on rows of ops: what the laws' markOpS and heldOpS do. -/
set_option linter.unusedVariables false
set_option linter.unusedSimpArgs false
namespace Go.Proofs.YtjopmakbnompnaaGreatDoor
open Go.RowKit
namespace Ops
open Bas Flat

theorem ret_k {a b : Int} (h : a = b) : Ending.returned (.int .i64 a) = .returned (.int .i64 b) := by rw [h]
def mkO (k0 : Int) (j : Nat) : O4 := ⟨k0 + 4 * j, k0 + 4 * j + 1, k0 + 4 * j + 2, k0 + 4 * j + 3⟩
def marksO (k0 : Int) (n : Nat) : List O4 := (List.range n).map (mkO k0)
theorem marksO_length (k0 : Int) (n : Nat) : (marksO k0 n).length = n := by simp [marksO]
theorem marksO_get (k0 : Int) (n j : Nat) (h : j < (marksO k0 n).length) : (marksO k0 n)[j] = mkO k0 j := by simp [marksO]
def markedO (xs : List O4) (k0 : Int) (k : Nat) : List O4 := marksO k0 k ++ xs.drop k
theorem markedO_zero (xs : List O4) (k0 : Int) : markedO xs k0 0 = xs := by simp [markedO, marksO]
theorem markedO_full (xs : List O4) (k0 : Int) : markedO xs k0 xs.length = marksO k0 xs.length := by simp [markedO]
theorem markedO_length (xs : List O4) (k0 : Int) (k : Nat) (h : k ≤ xs.length) : (markedO xs k0 k).length = xs.length := by simp [markedO, marksO_length]; omega
theorem markedO_set (xs : List O4) (k0 : Int) (k : Nat) (h : k < xs.length) : (markedO xs k0 k).set k (mkO k0 k) = markedO xs k0 (k + 1) := by
  unfold markedO
  rw [List.set_append_right _ _ (by rw [marksO_length]; exact Nat.le_refl _), marksO_length, Nat.sub_self, List.drop_eq_getElem_cons h, List.set_cons_zero]
  simp [marksO, List.range_succ]
theorem own_some' {B n cap : Nat} {w : World} {a : Option Addr} {xs : List O4} (h : Owns4 B w (.slice a n cap) xs) (hn : 0 < xs.length) : ∃ q, a = some ⟨q, 0, none⟩ ∧ B ≤ q ∧ q < w.heap.size ∧ n = xs.length := by
  obtain ⟨h1, h2⟩ := h
  rcases h2 with ⟨h', h0⟩ | ⟨q, c, cur, h', hB, hg, hle, _⟩
  · omega
  · simp only [Value.slice.injEq] at h'
    obtain ⟨rfl, rfl, rfl⟩ := h'
    exact ⟨q, rfl, hB, (Array.getElem?_eq_some_iff.1 hg).1, rfl⟩
theorem grown_set {w w' : World} {q : Nat} (h : w.grownBy w' (some q)) (i : Nat) (u : Value) : w.grownBy (w'.setCell ⟨q, i, none⟩ u) (some q) :=
  ⟨h.os, h.tape, h.output, by simpa [World.setCell] using h.size, fun k hk hne => (Below.heap_setCell w' _ _ _ (fun e => hne (by rw [e]))).trans (h.block k hk hne)⟩

set_option maxRecDepth 100000 in
set_option maxHeartbeats 3200000 in
theorem markOpsC (v : Value) (xs : List O4) (k0 : Int) (B : Nat) (w : World) (hv : Owns4 B w v xs) (h0 : 0 ≤ k0) (h1 : k0 ≤ 1000000000) (hlen : xs.length ≤ 1048576) :
    Calls Tryz.prog 46 #[v, .int .i64 k0] w fun e w' => e = .returned (.int .i64 (k0 + 4 * (xs.length : Int))) ∧ Owns4 B w' v (marksO k0 xs.length) ∧ w.grownBy w' v.ownBlock := by
  obtain ⟨a, cap, rfl⟩ := hv.form
  obtain ⟨n, hn⟩ : ∃ n, xs.length = n := ⟨_, rfl⟩
  rw [hn] at hv hlen ⊢
  by_cases hn0 : n = 0
  · have HF : Hid (Owns4 B w (.slice a n cap) (marksO k0 n)) := by
      subst hn0
      have : xs = [] := List.eq_nil_of_length_eq_zero hn
      subst this
      exact hv
    subst hn0
    clear hv
    go_enter Tryz.func46, Tryz.ntmps46
    go_wp2
    go_loop [1, 5] (fun kv iv => kv = .int .i64 k0 ∧ iv = .int .i64 0) (fun _ _ => 0)
    case atStart => exact ⟨rfl, rfl⟩
    case round =>
      obtain ⟨rfl, rfl⟩ := hrel
      go_wp2
      go_ret
      exact ⟨by simp, HF.out, ⟨rfl, rfl, rfl, Nat.le_refl _, fun _ _ _ => rfl⟩⟩
  obtain ⟨q, rfl, hq1, hq2, -⟩ := own_some' hv (by omega)
  have hO : w.ownsRow B 36 4 (.slice (some ⟨q, 0, none⟩) n cap) n (fv opEl (markedO xs k0 0)) := by
    rw [markedO_zero]
    have := hv
    unfold Owns4 Owns at this
    rw [hn] at this; exact this
  have hG : w.grownBy w (some q) := ⟨rfl, rfl, rfl, Nat.le_refl _, fun _ _ _ => rfl⟩
  clear hv
  go_enter Tryz.func46, Tryz.ntmps46
  go_wp2
  go_loopw [1, 5] (fun kv iv wr => ∃ (j : Nat) (k : Int), j ≤ n ∧ kv = .int .i64 k ∧ k = k0 + 4 * (j : Int) ∧ iv = .int .i64 j ∧ wr.ownsRow B 36 4 (.slice (some ⟨q, 0, none⟩) n cap) n (fv opEl (markedO xs k0 j)) ∧ w.grownBy wr (some q)) (fun _ iv _ => n - (intOf iv).toNat)
  case atStart => exact ⟨0, k0, Nat.zero_le _, rfl, by simp, rfl, hO, hG⟩
  case round =>
    obtain ⟨j, k, hj, rfl, hk, rfl, hR, hGr⟩ := hrel
    clear hO hG
    by_cases hlt : j < n
    · have hpl : (markedO xs k0 j).length = n := by rw [markedO_length xs k0 j (by omega)]; exact hn
      obtain ⟨c0, c1, c2, c3⟩ := at4 (own_at (E := opEl) hR j (by omega))
      obtain ⟨y, hy⟩ : ∃ y, (markedO xs k0 j)[j]'(by omega) = y := ⟨_, rfl⟩
      rw [hy] at c0 c1 c2 c3
      change wr.cell? ⟨q, j * 4, none⟩ = _ at c0
      change wr.cell? ⟨q, j * 4 + 1, none⟩ = _ at c1
      change wr.cell? ⟨q, j * 4 + 2, none⟩ = _ at c2
      change wr.cell? ⟨q, j * 4 + 3, none⟩ = _ at c3
      have hfz := fun j => hR.frozenAt j
      have hR3 := own_set4 hR j (by omega) (mkO k0 j)
      rw [markedO_set xs k0 j (by omega)] at hR3
      have eM : mkO k0 j = ⟨k, k + 1, k + 2, k + 3⟩ := by unfold mkO; rw [hk]
      rw [eM] at hR3
      unfold set4 at hR3
      have hG3 := grown_set (grown_set (grown_set (grown_set hGr (j * 4) (.int .i64 k)) (j * 4 + 1) (.int .i64 (k + 1))) (j * 4 + 2) (.int .i64 (k + 2))) (j * 4 + 3) (.int .i64 (k + 3))
      have HK : Hid (k = k0 + 4 * (j : Int)) := hk
      have i1 : (j : Int) < n := by omega
      have i2 : (0 : Int) ≤ j := by omega
      have k1 : 0 ≤ k := by omega
      have k2 : k ≤ 2000000000 := by omega
      have e2 : k + 1 + 1 = k + 2 := by omega
      have e3 : k + 2 + 1 = k + 3 := by omega
      have e4 : k + 3 + 1 = k + 4 := by omega
      clear hR hGr eM hk hy hpl
      go_wp2
      go_roundw
      case rel => exact ⟨j + 1, k + 4, by omega, by first | rfl | go_num, by rw [HK.out]; omega, by go_num, hR3, hG3⟩
      case measure => simp [intOf]; omega
    · obtain rfl : j = n := by omega
      have i1 : ¬ (j : Int) < j := by omega
      have HF : Hid (k = k0 + 4 * (j : Int)) := hk
      clear hk
      go_wp2
      go_ret
      refine ⟨ret_k HF.out, ?_, hGr⟩
      rw [← hn, markedO_full, hn] at hR
      unfold Owns4 Owns
      rw [marksO_length]; exact hR

set_option maxRecDepth 100000 in
set_option maxHeartbeats 3200000 in
theorem heldOpsC (v : Value) (n : Nat) (k0 : Int) (B : Nat) (w : World) (hv : Sees4 B w v (marksO k0 n)) (h0 : 0 ≤ k0) (h1 : k0 ≤ 1000000000) (hlen : n ≤ 1048576) :
    Calls Tryz.prog 48 #[v, .int .i64 k0] w fun e w' => e = .returned (.int .i64 (k0 + 4 * (n : Int))) ∧ w = w' := by
  obtain ⟨a, cap, rfl⟩ := hv.form
  rw [marksO_length] at hv ⊢
  go_enter Tryz.func48, Tryz.ntmps48
  go_wp2
  go_loop [1, 5] (fun kv iv => ∃ (j : Nat) (k : Int), j ≤ n ∧ kv = .int .i64 k ∧ k = k0 + 4 * (j : Int) ∧ iv = .int .i64 j) (fun _ iv => n - (intOf iv).toNat)
  case atStart => exact ⟨0, k0, Nat.zero_le _, rfl, by simp, rfl⟩
  case round =>
    obtain ⟨j, k, hj, rfl, hk, rfl⟩ := hrel
    by_cases hlt : j < n
    · obtain ⟨b, off, rfl, hb, hc⟩ := hv.open (by rw [marksO_length]; omega)
      have h4 := hc j (by rw [marksO_length]; exact hlt)
      rw [marksO_get] at h4
      have eM : mkO k0 j = ⟨k, k + 1, k + 2, k + 3⟩ := by unfold mkO; rw [hk]
      rw [eM] at h4
      obtain ⟨c0, c1, c2, c3⟩ := at4 h4
      change w.cell? ⟨b, off + j * 4, none⟩ = some (.int .i64 k) at c0
      change w.cell? ⟨b, off + j * 4 + 1, none⟩ = some (.int .i64 (k + 1)) at c1
      change w.cell? ⟨b, off + j * 4 + 2, none⟩ = some (.int .i64 (k + 2)) at c2
      change w.cell? ⟨b, off + j * 4 + 3, none⟩ = some (.int .i64 (k + 3)) at c3
      have HK : Hid (k = k0 + 4 * (j : Int)) := hk
      have i1 : (j : Int) < n := by omega
      have i2 : (0 : Int) ≤ j := by omega
      have k1 : 0 ≤ k := by omega
      have k2 : k ≤ 2000000000 := by omega
      have e2 : k + 1 + 1 = k + 2 := by omega
      have e3 : k + 2 + 1 = k + 3 := by omega
      have e4 : k + 3 + 1 = k + 4 := by omega
      clear hc h4 eM hk
      go_wp2
      go_round
      case rel => exact ⟨j + 1, k + 4, by omega, by first | rfl | go_num, by rw [HK.out]; omega, by go_num⟩
      case measure => simp [intOf]; omega
    · obtain rfl : j = n := by omega
      have i1 : ¬ (j : Int) < j := by omega
      have HF : Hid (k = k0 + 4 * (j : Int)) := hk
      clear hk
      go_wp2
      go_ret
      exact ⟨ret_k HF.out, rfl⟩
end Ops
end Go.Proofs.YtjopmakbnompnaaGreatDoor
/- Marks on programs: what the laws' markProg and heldProg do. -/
set_option linter.unusedVariables false
set_option linter.unusedSimpArgs false
namespace Go.Proofs.YtjopmakbnompnaaGreatDoor
open Go.RowKit
namespace Ops
open Bas Flat

/-- two values own no block in common -/
def Dis (a b : Value) : Prop := ∀ k, a.ownBlock = some k → b.ownBlock ≠ some k
theorem Dis.symm {a b : Value} (h : Dis a b) : Dis b a := fun k hb ha => h k ha hb
/-- kids, each at its slice -/
structure OwnKs (B : Nat) (W : World) (vk : Value) (ss : List S3) (ls : List (List O4)) : Prop where
  row : Owns slEl 47 B W vk ss
  len : ss.length = ls.length
  each : ∀ j (h : j < ss.length) (h' : j < ls.length), Owns4 B W ss[j].val ls[j]
theorem OwnKs.ownK {B : Nat} {W : World} {vk : Value} {ss : List S3} {ls : List (List O4)} (h : OwnKs B W vk ss ls) : OwnK B W vk ls := ⟨ss, h.row, h.len, h.each⟩
theorem OwnKs.on {B : Nat} {W W' : World} {vk : Value} {ss : List S3} {ls : List (List O4)} (h : OwnKs B W vk ss ls) (hb : Below W.heap.size W W') : OwnKs B W' vk ss ls :=
  ⟨h.row.on hb (Nat.le_refl _), h.len, fun j h1 h2 => (h.each j h1 h2).on hb (Nat.le_refl _)⟩
/-- marks that follow each other -/
def markLs (k0 : Int) : List Nat → List (List O4)
  | [] => []
  | n :: r => marksO k0 n :: markLs (k0 + 4 * n) r
theorem markLs_length (k0 : Int) (ns : List Nat) : (markLs k0 ns).length = ns.length := by
  induction ns generalizing k0 with
  | nil => rfl
  | cons n r ih => simp [markLs, ih]
theorem markLs_get (k0 : Int) (ns : List Nat) (i : Nat) (h : i < ns.length) (h' : i < (markLs k0 ns).length) : (markLs k0 ns)[i] = marksO (k0 + 4 * ((ns.take i).sum : Nat)) ns[i] := by
  induction ns generalizing k0 i with
  | nil => simp at h
  | cons n r ih =>
    cases i with
    | zero => simp [markLs]
    | succ i =>
      have := ih (k0 + 4 * n) i (by simpa using h) (by simpa [markLs] using h')
      simp only [markLs, List.getElem_cons_succ, this, List.take_succ_cons, List.sum_cons]
      congr 1
      omega
theorem sum_take_succ (ns : List Nat) (i : Nat) (h : i < ns.length) : (ns.take (i + 1)).sum = (ns.take i).sum + ns[i] := by rw [List.take_succ_eq_append_getElem h, List.sum_append, List.sum_cons, List.sum_nil, Nat.add_zero]
theorem sum_le (ns : List Nat) (M : Nat) (h : ∀ n ∈ ns, n ≤ M) : ns.sum ≤ M * ns.length := by
  induction ns with
  | nil => simp
  | cons n r ih => have := ih (fun x hx => h x (by simp [hx])); have := h n (by simp); simp [Nat.mul_add]; omega
/-- the first i are marked -/
def mixed (k0 : Int) (ls : List (List O4)) (i : Nat) : List (List O4) := (markLs k0 (ls.map List.length)).take i ++ ls.drop i
theorem mixed_zero (k0 : Int) (ls : List (List O4)) : mixed k0 ls 0 = ls := by simp [mixed]
theorem mixed_full (k0 : Int) (ls : List (List O4)) : mixed k0 ls ls.length = markLs k0 (ls.map List.length) := by
  unfold mixed; rw [List.take_of_length_le (by rw [markLs_length]; simp), List.drop_length, List.append_nil]
theorem mixed_length (k0 : Int) (ls : List (List O4)) (i : Nat) (h : i ≤ ls.length) : (mixed k0 ls i).length = ls.length := by simp [mixed, markLs_length]; omega
theorem mixed_get (k0 : Int) (ls : List (List O4)) (i j : Nat) (hi : i ≤ ls.length) (h : j < (mixed k0 ls i).length) (hj : j < ls.length) :
    (mixed k0 ls i)[j] = if j < i then (markLs k0 (ls.map List.length))[j]'(by rw [markLs_length]; simpa using hj) else ls[j] := by
  apply Option.some.inj
  rw [← List.getElem?_eq_getElem h]
  by_cases hlt : j < i
  · rw [if_pos hlt]
    unfold mixed
    rw [List.getElem?_append_left (by simp [markLs_length]; omega), List.getElem?_take, if_pos hlt, List.getElem?_eq_getElem]
  · rw [if_neg hlt]
    unfold mixed
    have hl : ((markLs k0 (ls.map List.length)).take i).length = i := by simp [markLs_length]; omega
    rw [List.getElem?_append_right (by omega), hl, List.getElem?_drop, show i + (j - i) = j by omega, List.getElem?_eq_getElem hj]
/-- nothing but the kids' codes has changed -/
structure Only (S : Nat → Prop) (w w' : World) : Prop where
  os : w'.os = w.os
  tape : w'.tape = w.tape
  output : w'.output = w.output
  size : w.heap.size ≤ w'.heap.size
  block : ∀ k, k < w.heap.size → ¬ S k → w'.heap[k]? = w.heap[k]?
theorem Only.refl (S : Nat → Prop) (w : World) : Only S w w := ⟨rfl, rfl, rfl, Nat.le_refl _, fun _ _ _ => rfl⟩
theorem Only.step {S : Nat → Prop} {w w1 w2 : World} {row : Option Nat} (h : Only S w w1) (g : w1.grownBy w2 row) (hs : ∀ k, row = some k → S k) : Only S w w2 :=
  ⟨g.os.trans h.os, g.tape.trans h.tape, g.output.trans h.output, Nat.le_trans h.size g.size, fun k hk hn => (g.block k (Nat.lt_of_lt_of_le hk h.size) (fun e => hn (hs k e.symm))).trans (h.block k hk hn)⟩
def kidBlocks (ss : List S3) (k : Nat) : Prop := ∃ s ∈ ss, s.val.ownBlock = some k

set_option maxRecDepth 100000 in
set_option maxHeartbeats 3200000 in
theorem markKidsC (vk : Value) (ss : List S3) (ls : List (List O4)) (k0 : Int) (B : Nat) (w : World) (hv : OwnKs B w vk ss ls) (hd : (ss.map S3.val).Pairwise Dis) (h0 : 0 ≤ k0) (h1 : k0 ≤ 1000000) (hl : ls.length ≤ 1000) (hl2 : ∀ l ∈ ls, l.length ≤ 1000) :
    Calls Tryz.prog 47 #[vk, .int .i64 k0] w fun e w' => e = .returned (.int .i64 (k0 + 4 * ((ls.map List.length).sum : Nat))) ∧ OwnKs B w' vk ss (markLs k0 (ls.map List.length)) ∧ Only (kidBlocks ss) w w' := by
  obtain ⟨a, cap, rfl⟩ := hv.row.form
  have hsl := hv.len
  obtain ⟨n, hn⟩ : ∃ n, ss.length = n := ⟨_, rfl⟩
  rw [hn] at hsl ⊢
  have HSL : Hid (n = ls.length) := hsl
  have hsl1 : n ≤ ls.length := by omega
  have hsl2 : ls.length ≤ n := by omega
  clear hsl
  have HD : Hid (∀ i j (hi : i < ss.length) (hj : j < ss.length), i ≠ j → Dis ss[i].val ss[j].val) := fun i j hi hj hij => by
    have key := List.pairwise_iff_getElem.1 hd
    rcases Nat.lt_or_gt_of_ne hij with h | h
    · have := key i j (by simpa using hi) (by simpa using hj) h; simpa using this
    · have := key j i (by simpa using hj) (by simpa using hi) h; exact Dis.symm (by simpa using this)
  have hst : OwnKs B w (.slice a n cap) ss (mixed k0 ls 0) := by rw [mixed_zero, ← hn]; exact hv
  have HL := (show Hid _ from hl2)
  have hsum := sum_le (ls.map List.length) 1000 (fun m hm => by obtain ⟨l, hl', rfl⟩ := List.mem_map.1 hm; exact hl2 l hl')
  have hO : Only (kidBlocks ss) w w := Only.refl _ _
  clear hv hd hl2
  go_enter Tryz.func47, Tryz.ntmps47
  go_wp2
  go_loopw [1, 5] (fun kv iv wr => ∃ (i : Nat) (k : Int), i ≤ n ∧ kv = .int .i64 k ∧ k = k0 + 4 * (((ls.map List.length).take i).sum : Nat) ∧ iv = .int .i64 i ∧ OwnKs B wr (.slice a n cap) ss (mixed k0 ls i) ∧ Only (kidBlocks ss) w wr) (fun _ iv _ => n - (intOf iv).toNat)
  case atStart => exact ⟨0, k0, Nat.zero_le _, rfl, by simp, rfl, hst, hO⟩
  case round =>
    obtain ⟨i, k, hi, rfl, hk, rfl, K, hOn⟩ := hrel
    clear hst hO
    by_cases hlt : i < n
    · have hil : i < ls.length := by omega
      have his : i < ss.length := by omega
      obtain ⟨q, off, rfl, hq, hcc⟩ := K.row.sees.open (by omega)
      have s1 := at1 (hcc i his)
      change wr.cell? ⟨q, off + i * 1, none⟩ = _ at s1
      rw [Nat.mul_one] at s1
      have hml := mixed_length k0 ls i (by omega)
      have E := K.each i his (by omega)
      rw [mixed_get k0 ls i i (by omega) (by omega) hil, if_neg (by omega)] at E
      have hb : ((ls.map List.length).take i).sum ≤ (ls.map List.length).sum := by
        have := congrArg List.sum (List.take_append_drop i (ls.map List.length))
        rw [List.sum_append] at this; omega
      have hlen1 := HL.out _ (List.getElem_mem hil)
      have hkk : 0 ≤ k ∧ k ≤ 1000000000 := by simp at hsum; omega
      have cM := markOpsC _ ls[i] k B wr E hkk.1 hkk.2 (by omega)
      have HS : Hid (k + 4 * (ls[i].length : Int) = k0 + 4 * (((ls.map List.length).take (i + 1)).sum : Nat)) := by
        show _ = _
        rw [sum_take_succ _ i (by simpa using hil), hk]
        simp
        omega
      have HM : Hid (∀ j (h : j < ls.length) (h' : j < (mixed k0 ls (i + 1)).length) (h'' : j < (mixed k0 ls i).length), j ≠ i → (mixed k0 ls (i + 1))[j] = (mixed k0 ls i)[j]) := fun j h h' h'' hne => by
        rw [mixed_get k0 ls (i + 1) j (by omega) h' h, mixed_get k0 ls i j (by omega) h'' h]
        by_cases hji : j < i
        · rw [if_pos (by omega), if_pos hji]
        · rw [if_neg (by omega), if_neg hji]
      have HI : Hid (∀ (h' : i < (mixed k0 ls (i + 1)).length), (mixed k0 ls (i + 1))[i] = marksO k ls[i].length) := fun h' => by
        rw [mixed_get k0 ls (i + 1) i (by omega) h' hil, if_pos (by omega), markLs_get k0 _ i (by simpa using hil), hk]
        simp
      have hml2 := mixed_length k0 ls (i + 1) (by omega)
      obtain ⟨s, hs⟩ : ∃ s, ss[i] = s := ⟨_, rfl⟩
      have HSS : Hid (ss[i] = s) := hs
      rw [hs] at s1 cM
      have eS : s.val = .slice s.a s.n s.cap := rfl
      rw [eS] at cM
      obtain ⟨kn, hkn⟩ : ∃ kn, k + 4 * (ls[i].length : Int) = kn := ⟨_, rfl⟩
      rw [hkn] at cM HS
      have i1 : (i : Int) < n := by omega
      have i2 : (0 : Int) ≤ i := by omega
      clear hcc hk hb hkn hs E eS
      go_wp2_with fail
      refine cM.mono ?_
      rintro e w2 ⟨rfl, M2, G2⟩
      clear cM s1
      have O2 := hOn.step G2 (fun b hb => ⟨s, by rw [← HSS.out]; exact List.getElem_mem his, hb⟩)
      have K2 : OwnKs B w2 (.slice (some ⟨q, off, none⟩) n cap) ss (mixed k0 ls (i + 1)) := by
        refine ⟨K.row.grown G2 (fun b hb e => ?_), by rw [hml2]; omega, fun j h1 h2 => ?_⟩
        · have E := K.each i his (by omega)
          rw [HSS.out] at E
          exact own_apart K.row E (by decide) b hb e
        · by_cases hji : j = i
          · subst hji
            rw [HI.out h2, HSS.out]
            exact M2
          · rw [HM.out j (by omega) h2 (by omega) hji]
            refine (K.each j h1 (by omega)).grown G2 (fun b hb e => ?_)
            have := HD.out j i h1 his hji b hb
            rw [HSS.out] at this
            exact this e.symm
      go_wp2
      go_roundw
      case rel => exact ⟨i + 1, kn, by omega, rfl, HS.out, by go_num, K2, O2⟩
      case measure => simp [intOf]; omega
    · obtain rfl : i = n := by omega
      have i1 : ¬ (i : Int) < i := by omega
      have HF : Hid (k = k0 + 4 * ((ls.map List.length).sum : Nat)) := by show _ = _; rw [hk, List.take_of_length_le (by simp; omega)]
      clear hk
      go_wp2
      go_ret
      refine ⟨ret_k HF.out, ?_, hOn⟩
      rw [show mixed k0 ls i = markLs k0 (ls.map List.length) by rw [HSL.out]; exact mixed_full k0 ls] at K
      exact K
end Ops
end Go.Proofs.YtjopmakbnompnaaGreatDoor
/- Marks on whole programs. -/
set_option linter.unusedVariables false
set_option linter.unusedSimpArgs false
namespace Go.Proofs.YtjopmakbnompnaaGreatDoor
open Go.RowKit
namespace Ops
open Bas Flat

set_option maxRecDepth 100000 in
set_option maxHeartbeats 3200000 in
theorem heldKidsC (vk : Value) (ns : List Nat) (k0 : Int) (B : Nat) (w : World) (hv : SeesK B w vk (markLs k0 ns)) (h0 : 0 ≤ k0) (h1 : k0 ≤ 1000000) (hl : ns.length ≤ 1000) (hl2 : ∀ n ∈ ns, n ≤ 1000) :
    Calls Tryz.prog 49 #[vk, .int .i64 k0] w fun e w' => e = .returned (.int .i64 (k0 + 4 * (ns.sum : Nat))) ∧ w = w' := by
  obtain ⟨a, cap, rfl⟩ := hv.form
  rw [markLs_length] at hv ⊢
  obtain ⟨n, hn⟩ : ∃ n, ns.length = n := ⟨_, rfl⟩
  rw [hn] at hv hl ⊢
  have HV := (show Hid _ from hv)
  have HL := (show Hid _ from hl2)
  have hsum := sum_le ns 1000 hl2
  clear hv hl2
  go_enter Tryz.func49, Tryz.ntmps49
  go_wp2
  go_loop [1, 5] (fun kv iv => ∃ (i : Nat) (k : Int), i ≤ n ∧ kv = .int .i64 k ∧ k = k0 + 4 * ((ns.take i).sum : Nat) ∧ iv = .int .i64 i) (fun _ iv => n - (intOf iv).toNat)
  case atStart => exact ⟨0, k0, Nat.zero_le _, rfl, by simp, rfl⟩
  case round =>
    obtain ⟨i, k, hi, rfl, hk, rfl⟩ := hrel
    by_cases hlt : i < n
    · have hil : i < ns.length := by omega
      obtain ⟨q, off, rfl, hq, hcc⟩ := SeesK.open HV.out (by rw [markLs_length]; omega)
      obtain ⟨s, s1, s2⟩ := hcc i (by rw [markLs_length]; exact hil)
      rw [markLs_get k0 ns i hil, ← hk] at s2
      have hb : (ns.take i).sum ≤ ns.sum := by
        have := congrArg List.sum (List.take_append_drop i ns)
        rw [List.sum_append] at this; omega
      have hlen1 := HL.out _ (List.getElem_mem hil)
      have hkk : 0 ≤ k ∧ k ≤ 1000000000 := by omega
      have cH := heldOpsC _ ns[i] k B w s2 hkk.1 hkk.2 (by omega)
      have HS : Hid (k + 4 * (ns[i] : Int) = k0 + 4 * ((ns.take (i + 1)).sum : Nat)) := by
        show _ = _
        rw [sum_take_succ _ i hil, hk]
        omega
      have hkn0 : 0 ≤ k + 4 * (ns[i] : Int) := by omega
      obtain ⟨kn, hkn⟩ : ∃ kn, k + 4 * (ns[i] : Int) = kn := ⟨_, rfl⟩
      rw [hkn] at cH HS hkn0
      have hkn1 : ¬ kn < 0 := by omega
      have i1 : (i : Int) < n := by omega
      have i2 : (0 : Int) ≤ i := by omega
      clear hcc hk hb hkn s2
      go_wp2_with fail
      refine cH.mono ?_
      rintro e w2 ⟨rfl, rfl⟩
      clear cH s1
      go_wp2
      go_round
      case rel => exact ⟨i + 1, kn, by omega, rfl, HS.out, by go_num⟩
      case measure => simp [intOf]; omega
    · obtain rfl : i = n := by omega
      have i1 : ¬ (i : Int) < i := by omega
      have HF : Hid (k = k0 + 4 * (ns.sum : Nat)) := by show _ = _; rw [hk, List.take_of_length_le (by omega)]
      clear hk
      go_wp2
      go_ret
      exact ⟨ret_k HF.out, rfl⟩

/-- a program of which no two lists share memory -/
structure OwnQ (B : Nat) (W : World) (vc vk : Value) (ss : List S3) (xs : List O4) (kss : List (List O4)) : Prop where
  c : Owns4 B W vc xs
  k : OwnKs B W vk ss kss
  d : (vc :: ss.map S3.val).Pairwise Dis
theorem OwnQ.on {B : Nat} {W W' : World} {vc vk : Value} {ss : List S3} {xs : List O4} {kss : List (List O4)} (h : OwnQ B W vc vk ss xs kss) (hb : Below W.heap.size W W') : OwnQ B W' vc vk ss xs kss := ⟨h.c.on hb (Nat.le_refl _), h.k.on hb, h.d⟩
theorem OwnQ.seesP {B : Nat} {W : World} {vc vk : Value} {ss : List S3} {xs : List O4} {kss : List (List O4)} (h : OwnQ B W vc vk ss xs kss) : SeesP W.heap.size W vc vk xs kss := ⟨h.c.sees, h.k.ownK.sees⟩
theorem Only.below {S : Nat → Prop} {B : Nat} {w w' : World} (h : Only S w w') (hs : ∀ k, S k → B ≤ k) (hB : B ≤ w.heap.size) : Below B w w' :=
  ⟨h.os, h.tape, h.output, h.size, fun k hk => h.block k (by omega) (fun e => by have := hs k e; omega)⟩

/-- how far the marks go -/
def markEnd (xs : List O4) (kss : List (List O4)) : Int := 1 + 4 * (xs.length : Int) + 4 * ((kss.map List.length).sum : Nat)
set_option maxRecDepth 100000 in
set_option maxHeartbeats 3200000 in
theorem markProgC (vc vk : Value) (ss : List S3) (xs : List O4) (kss : List (List O4)) (B : Nat) (w : World) (hv : OwnQ B w vc vk ss xs kss) (hB : B ≤ w.heap.size) (hx : xs.length ≤ 1000) (hl : kss.length ≤ 1000) (hl2 : ∀ l ∈ kss, l.length ≤ 1000) :
    Calls Tryz.prog 17 #[.agg #[vc, vk], .int .i64 1] w fun e w' => e = .returned (.int .i64 (markEnd xs kss)) ∧ OwnQ B w' vc vk ss (marksO 1 xs.length) (markLs (1 + 4 * (xs.length : Int)) (kss.map List.length)) ∧ Below B w w' ∧ (∀ q cs t, t ≠ 36 → Blk w q cs t → Blk w' q cs t) := by
  obtain ⟨a, cap, rfl⟩ := hv.c.form
  obtain ⟨ak, capk, rfl⟩ := hv.k.row.form
  obtain ⟨n, hn⟩ : ∃ n, xs.length = n := ⟨_, rfl⟩
  obtain ⟨m, hm⟩ : ∃ m, ss.length = m := ⟨_, rfl⟩
  rw [hn, hm] at hv ⊢
  have b0 := alloc_below w (.cells #[.slice a n cap, .slice ak m capk] 27)
  have X0 := Blk.new w #[.slice a n cap, .slice ak m capk] 27
  have hv0 := hv.on b0
  obtain ⟨W0, hW0⟩ : ∃ W0, w.alloc (.cells #[.slice a n cap, .slice ak m capk] 27) = W0 := ⟨_, rfl⟩
  rw [hW0] at b0 X0 hv0
  have hs := X0.lt
  have x0 := X0.cell 0
  have c1 := markOpsC _ xs 1 B W0 hv0.c (by omega) (by omega) (by omega)
  rw [hn] at c1
  have HE : Hid (markEnd xs kss = 1 + 4 * (n : Int) + 4 * ((kss.map List.length).sum : Nat)) := by rw [← hn]; rfl
  have HL := (show Hid _ from hl2)
  clear hl2
  go_enter Tryz.func17, Tryz.ntmps17
  go_wp2_with fail
  clear hW0 x0
  refine c1.mono ?_
  rintro e w1 ⟨rfl, M1, G1⟩
  clear c1
  have X1 := X0.grown G1 (fun e => own_ne hv0.c X0 (by decide) _ e.symm rfl)
  have x1 := X1.cell 1
  have hd := List.pairwise_cons.1 hv0.d
  have K1 : OwnKs B w1 (.slice ak m capk) ss kss :=
    ⟨hv0.k.row.grown G1 (fun b hb e => own_apart hv0.k.row hv0.c (by decide) b hb e), hv0.k.len, fun j h1 h2 => (hv0.k.each j h1 h2).grown G1 (fun b hb e => by
      have := hd.1 ss[j].val (List.mem_map.2 ⟨ss[j], List.getElem_mem h1, rfl⟩) b e.symm
      exact this hb)⟩
  have b1 : Below B w w1 := (b0.mono hB).grown G1 (by omega) (fun k hk => (hv0.c.at k hk).1)
  have hk1 : 0 ≤ 1 + 4 * (n : Int) ∧ 1 + 4 * (n : Int) ≤ 1000000 := by omega
  have c2 := markKidsC _ ss kss (1 + 4 * (n : Int)) B w1 K1 hd.2 hk1.1 hk1.2 hl HL.out
  rw [← HE.out] at c2
  obtain ⟨k1, hk1e⟩ : ∃ k1, 1 + 4 * (n : Int) = k1 := ⟨_, rfl⟩
  have HK1 : Hid (1 + 4 * (n : Int) = k1) := hk1e
  rw [hk1e] at c2 ⊢
  clear hk1 hk1e
  obtain ⟨ke, hke⟩ : ∃ ke, markEnd xs kss = ke := ⟨_, rfl⟩
  rw [hke] at c2
  have HKE : Hid (markEnd xs kss = ke) := hke
  clear hke
  go_wp2_with fail
  clear x1
  refine c2.mono ?_
  rintro e w2 ⟨rfl, K2, O2⟩
  clear c2
  have hkb : ∀ k, kidBlocks ss k → B ≤ k := fun k hk => by
    obtain ⟨s, hs', he⟩ := hk
    obtain ⟨j, hj, rfl⟩ := List.mem_iff_getElem.1 hs'
    exact ((K1.each j hj (by have := K1.len; omega)).at k he).1
  have M2 : Owns4 B w2 (.slice a n cap) (marksO 1 n) := M1.keep (fun k hk => O2.block k (M1.at k hk).2 (fun e => by
    obtain ⟨s, hs', he⟩ := e
    exact hd.1 s.val (List.mem_map.2 ⟨s, hs', rfl⟩) k hk he))
  have bz := b1.trans (O2.below hkb (by have := b1.size; omega))
  go_wp2
  go_ret
  refine ⟨ret_k HKE.out.symm, ⟨M2, by rw [HK1.out]; exact K2, hv0.d⟩, bz, fun q cs t ht hq => ?_⟩
  have h1 := hq.on b0 hq.lt
  have h2 := h1.grown G1 (fun e => own_ne hv0.c h1 (Ne.symm ht) _ e.symm rfl)
  refine (O2.block q h2.lt (fun e => ?_)).trans h2
  obtain ⟨s, hs', he⟩ := e
  obtain ⟨j, hj, rfl⟩ := List.mem_iff_getElem.1 hs'
  exact own_ne (K1.each j hj (by have := K1.len; omega)) h2 (Ne.symm ht) _ he rfl

set_option maxRecDepth 100000 in
set_option maxHeartbeats 3200000 in
theorem heldProgC (vc vk : Value) (n : Nat) (ns : List Nat) (ke : Int) (hke : ke = 1 + 4 * (n : Int) + 4 * (ns.sum : Nat)) (B : Nat) (w : World) (hc : Sees4 B w vc (marksO 1 n)) (hk : SeesK B w vk (markLs (1 + 4 * (n : Int)) ns)) (hB : B ≤ w.heap.size) (hx : n ≤ 1000) (hl : ns.length ≤ 1000) (hl2 : ∀ n ∈ ns, n ≤ 1000) :
    Calls Tryz.prog 18 #[.agg #[vc, vk], .int .i64 1] w fun e w' => e = .returned (.int .i64 ke) ∧ Below w.heap.size w w' := by
  obtain ⟨a, cap, rfl⟩ := hc.form
  obtain ⟨ak, capk, rfl⟩ := hk.form
  rw [marksO_length] at hc ⊢
  rw [markLs_length] at hk ⊢
  obtain ⟨m, hm⟩ : ∃ m, ns.length = m := ⟨_, rfl⟩
  rw [hm] at hk ⊢
  have b0 := alloc_below w (.cells #[.slice a n cap, .slice ak m capk] 27)
  have X0 := Blk.new w #[.slice a n cap, .slice ak m capk] 27
  have c1 := heldOpsC _ n 1 B _ (hc.on b0 hB) (by omega) (by omega) (by omega)
  have hk1 : 0 ≤ 1 + 4 * (n : Int) ∧ 1 + 4 * (n : Int) ≤ 1000000 := by omega
  have c2 := heldKidsC _ ns (1 + 4 * (n : Int)) B _ (hk.on b0 hB) hk1.1 hk1.2 hl hl2
  have hke0 : 0 ≤ ke := by omega
  rw [← hke] at c2
  obtain ⟨W0, hW0⟩ : ∃ W0, w.alloc (.cells #[.slice a n cap, .slice ak m capk] 27) = W0 := ⟨_, rfl⟩
  rw [hW0] at b0 X0 c1 c2
  obtain ⟨k1, hk1e⟩ : ∃ k1, 1 + 4 * (n : Int) = k1 := ⟨_, rfl⟩
  rw [hk1e] at c1 c2 hk1
  have d1 : ¬ k1 < 0 := by omega
  have d2 : ¬ ke < 0 := by omega
  have x0 := X0.cell 0; have x1 := X0.cell 1
  clear hke hk1e hc hk
  go_enter Tryz.func18, Tryz.ntmps18
  go_wp2_with fail
  refine c1.mono ?_
  rintro e w1 ⟨rfl, rfl⟩
  clear c1
  go_wp2_with fail
  refine c2.mono ?_
  rintro e w2 ⟨rfl, rfl⟩
  clear c2
  go_wp2
  go_ret
  exact ⟨rfl, b0⟩
end Ops
end Go.Proofs.YtjopmakbnompnaaGreatDoor
/- The walk of FnExactReadProg, given what both functions answer. -/
set_option linter.unusedVariables false
set_option linter.unusedSimpArgs false
namespace Go.Proofs.YtjopmakbnompnaaGreatDoor
open Go.RowKit
namespace Ops
open Bas Flat

/-- what the program's ReadProg answers: no two lists share memory -/
def ToldProgI (B : Nat) (L : Txt) (e : Ending) (w' : World) : Prop := ∃ vc vk ss xs kss b, e = .returned (.tuple #[.agg #[vc, vk], .bool b]) ∧ OwnQ B w' vc vk ss xs kss ∧ RdProg L xs kss b
theorem rdp_len {L : Txt} {xs : List O4} {kss : List (List O4)} {b : Bool} (h : RdProg L xs kss b) : xs.length ≤ 24 ∧ kss.length ≤ 3 ∧ ∀ ks ∈ kss, ks.length ≤ 24 := by
  rcases h with ⟨-, h, -⟩ | ⟨-, rfl, rfl, -⟩
  · obtain ⟨h1, h2, h3⟩ := prog_codes h
    exact ⟨code_len h1, h2, fun ks hk => code_len (h3 ks hk)⟩
  · simp

set_option maxRecDepth 100000 in
set_option maxHeartbeats 6400000 in
theorem walkReadProg (s : ByteArray) (w : World) (hs : s.size ≤ maxLen)
    (cS : s.size ≤ 1048576 → ∀ W : World, Calls Tryz.prog 12 #[.string s] W fun e w' => ToldProg W.heap.size s.data.toList e w' ∧ Below W.heap.size W w')
    (cI : s.size ≤ 1048576 → ∀ W : World, Below w.heap.size w W → Calls Tryz.prog 9 #[.string s] W fun e w' => ToldProgI W.heap.size s.data.toList e w' ∧ Below W.heap.size W w') :
    Calls Tryz.prog 4 #[.string s] w fun e w' => e = .returned (.bool true) ∧ Below w.heap.size w w' := by
  have hsI : (s.size : Int) ≤ 9223372036854775807 := by unfold maxLen at hs; omega
  have HS := (show Hid _ from cS)
  have HI := (show Hid _ from cI)
  clear cS cI hs
  by_cases hle : (s.size : Int) ≤ 1048576
  · have hn : ¬ (1048576 : Int) < s.size := by omega
    go_enter Tryz.func4, Tryz.ntmps4
    go_wp2_with fail
    refine (HS.out (by omega) w).mono ?_
    rintro e w1 ⟨⟨vc1, vk1, xs, kss, b, rfl, P1, h1⟩, b1⟩
    obtain ⟨l1, l2, l3⟩ := rdp_len h1
    have HL3 := (show Hid _ from l3)
    have H1 : Hid (RdProg s.data.toList xs kss b) := h1
    clear h1 l3
    obtain ⟨ac1, cc1, rfl⟩ := P1.c.form
    obtain ⟨ak1, ck1, rfl⟩ := P1.k.form
    obtain ⟨n, hnn⟩ : ∃ n, xs.length = n := ⟨_, rfl⟩
    obtain ⟨m, hmm⟩ : ∃ m, kss.length = m := ⟨_, rfl⟩
    rw [hnn, hmm] at P1 ⊢
    have S1 : SeesP w1.heap.size w1 (.slice ac1 n cc1) (.slice ak1 m ck1) xs kss := ⟨P1.c.sees, P1.k.sees⟩
    have bA := alloc_below w1 (.cells #[.slice ac1 n cc1, .slice ak1 m ck1] 27)
    have X1 := Blk.new w1 #[.slice ac1 n cc1, .slice ak1 m ck1] 27
    have bbA := b1.trans (bA.mono b1.size)
    have S1 := S1.on bA (Nat.le_refl _)
    have hA : w1.heap.size < (w1.alloc (.cells #[.slice ac1 n cc1, .slice ak1 m ck1] 27)).heap.size := X1.lt
    obtain ⟨W1, hW1⟩ : ∃ W1, w1.alloc (.cells #[.slice ac1 n cc1, .slice ak1 m ck1] 27) = W1 := ⟨_, rfl⟩
    rw [hW1] at bA X1 bbA S1 hA
    obtain ⟨p, hp⟩ : ∃ p, w1.heap.size = p := ⟨_, rfl⟩
    rw [hp] at X1 S1 hA
    have HW1 := (show Hid _ from hW1)
    clear hW1
    go_wp2_with fail
    rw [HW1.out]
    refine (HI.out (by omega) W1 bbA).mono ?_
    rintro e w2 ⟨⟨vc2, vk2, ss, ys, lss, b', rfl, P2, h2⟩, b2⟩
    obtain ⟨rfl, rfl, rfl⟩ := RdProg.unique h2 H1.out
    clear h2
    obtain ⟨ac2, cc2, rfl⟩ := P2.c.form
    obtain ⟨ak2, ck2, rfl⟩ := P2.k.ownK.form
    rw [hnn, hmm] at P2 ⊢
    have bb2 := bbA.trans (b2.mono bbA.size)
    have X2 := X1.on b2 hA
    have S2 := S1.on b2 (by omega)
    have bB := alloc_below w2 (.cells #[.slice ac2 n cc2, .slice ak2 m ck2] 27)
    have Y3 := Blk.new w2 #[.slice ac2 n cc2, .slice ak2 m ck2] 27
    have bbB := bb2.trans (bB.mono bb2.size)
    have X3 := X2.on bB X2.lt
    have S3 := S2.on bB (by have := b2.size; omega)
    have P3 := P2.on bB
    have hB3 := Y3.lt
    have hb2 := b2.size
    obtain ⟨W2, hW2⟩ : ∃ W2, w2.alloc (.cells #[.slice ac2 n cc2, .slice ak2 m ck2] 27) = W2 := ⟨_, rfl⟩
    rw [hW2] at bB Y3 bbB X3 S3 P3 hB3
    obtain ⟨q, hq⟩ : ∃ q, w2.heap.size = q := ⟨_, rfl⟩
    rw [hq] at Y3 hB3
    have hW12 : W1.heap.size < W2.heap.size := by omega
    have x0 := X3.cell 0; have x1 := X3.cell 1; have y0 := Y3.cell 0; have y1 := Y3.cell 1
    have dbb : (b' != b') = false := by simp
    have cE := eqProgC _ _ _ _ ys lss W2.heap.size W2 P3.seesP (S3.up (by omega)) (Nat.le_refl _)
    go_wp2_with fail
    refine cE.mono ?_
    rintro e w3 ⟨rfl, b3⟩
    clear cE hW2 hq x0 x1 y0 y1
    have bb3 := bbB.trans (b3.mono bbB.size)
    have X4 := X3.on b3 X3.lt
    have Y4 := Y3.on b3 Y3.lt
    have S4 := S3.on b3 (by omega)
    have P4 := P3.on b3
    have hw3 := b3.size
    have hwW : w.heap.size ≤ W1.heap.size := bbA.size
    have hlm : ∀ l ∈ ys :: lss, l.length ≤ 1000 := fun l hl => by
      rcases List.mem_cons.1 hl with rfl | hl
      · omega
      · have := HL3.out l hl; omega
    have cM := markProgC _ _ ss ys lss W1.heap.size w3 P4 (by omega) (by omega) (by omega) (fun l hl => hlm l (by simp [hl]))
    have HKE : Hid (markEnd ys lss = 1 + 4 * (n : Int) + 4 * ((lss.map List.length).sum : Nat)) := by rw [← hnn]; rfl
    rw [hnn] at cM
    obtain ⟨ke, hke⟩ : ∃ ke, markEnd ys lss = ke := ⟨_, rfl⟩
    rw [hke] at cM HKE
    clear hke
    have ke0 : 0 ≤ ke := by rw [HKE.out]; omega
    have d1 : ¬ ke < 0 := by omega
    have d2 : (ke != ke) = false := by simp
    have hns1 : (lss.map List.length).length ≤ 1000 := by simp; omega
    have hns2 : ∀ k ∈ lss.map List.length, k ≤ 1000 := fun k hk => by
      obtain ⟨l, hl, rfl⟩ := List.mem_map.1 hk
      exact hlm l (by simp [hl])
    obtain ⟨ns, hns⟩ : ∃ ns, lss.map List.length = ns := ⟨_, rfl⟩
    rw [hns] at cM HKE hns1 hns2
    have HN2 := (show Hid _ from hns2)
    clear hlm hns hns2 X1 X2 X3 Y3 S1 S2 S3 P1 P2 P3 bA b2 bB b3 HW1
    have y0 := Y4.cell 0; have y1 := Y4.cell 1
    go_wp2_with fail
    refine cM.mono ?_
    rintro e w4 ⟨rfl, Q4, b4, keep4⟩
    clear cM y0 y1
    have X5 := keep4 _ _ _ (by decide) X4
    have Y5 := keep4 _ _ _ (by decide) Y4
    have S5 := S4.on b4 (by omega)
    have bb4 := bb3.trans (b4.mono hwW)
    have hw4 := b4.size
    clear keep4 X4 Y4 S4 P4 b4
    have cH := heldProgC _ _ n ns ke HKE.out w4.heap.size w4 Q4.c.sees Q4.k.ownK.sees (Nat.le_refl _) (by omega) hns1 HN2.out
    have y0 := Y5.cell 0; have y1 := Y5.cell 1
    go_wp2_with fail
    refine cH.mono ?_
    rintro e w5 ⟨rfl, b5⟩
    clear cH y0 y1
    have bb5 := bb4.trans (b5.mono bb4.size)
    have X6 := X5.on b5 X5.lt
    have Y6 := Y5.on b5 Y5.lt
    have S6 := S5.on b5 (by omega)
    have Q6 := Q4.on b5
    have hw5 := b5.size
    clear X5 Y5 S5 Q4 b5
    go_wp2_with fail
    refine (HI.out (by omega) w5 bb5).mono ?_
    rintro e w6 ⟨⟨vc6, vk6, ss6, zs, mss, b'', rfl, P6, h6⟩, b6⟩
    obtain ⟨rfl, rfl, rfl⟩ := RdProg.unique h6 H1.out
    clear h6
    obtain ⟨ac6, cc6, rfl⟩ := P6.c.form
    obtain ⟨ak6, ck6, rfl⟩ := P6.k.ownK.form
    rw [hnn, hmm] at P6 ⊢
    have bb6 := bb5.trans (b6.mono bb5.size)
    have bC := alloc_below w6 (.cells #[.slice ac6 n cc6, .slice ak6 m ck6] 27)
    have Z7 := Blk.new w6 #[.slice ac6 n cc6, .slice ak6 m ck6] 27
    have bb7 := bb6.trans (bC.mono bb6.size)
    have X7 := (X6.on b6 X6.lt).on bC (X6.on b6 X6.lt).lt
    have Y7 := (Y6.on b6 Y6.lt).on bC (Y6.on b6 Y6.lt).lt
    have hw6 := b6.size
    have S7 := (S6.on b6 (by omega)).on bC (by omega)
    have Q7 := (Q6.on b6).on bC
    have P7 := P6.on bC
    have hC7 := Z7.lt
    obtain ⟨W6, hW6⟩ : ∃ W6, w6.alloc (.cells #[.slice ac6 n cc6, .slice ak6 m ck6] 27) = W6 := ⟨_, rfl⟩
    rw [hW6] at bC Z7 bb7 X7 Y7 S7 Q7 P7 hC7
    obtain ⟨r, hr⟩ : ∃ r, w6.heap.size = r := ⟨_, rfl⟩
    rw [hr] at Z7 hC7
    have cE := eqProgC _ _ _ _ zs mss W6.heap.size W6 P7.seesP (S7.up (by omega)) (Nat.le_refl _)
    have x0 := X7.cell 0; have x1 := X7.cell 1; have y0 := Z7.cell 0; have y1 := Z7.cell 1
    go_wp2_with fail
    refine cE.mono ?_
    rintro e w7 ⟨rfl, b7⟩
    clear cE hW6 hr x0 x1 y0 y1
    have bb8 := bb7.trans (b7.mono bb7.size)
    have Y8 := Y7.on b7 Y7.lt
    have Q8 := Q7.on b7
    have cH := heldProgC _ _ n ns ke HKE.out w7.heap.size w7 Q8.c.sees Q8.k.ownK.sees (Nat.le_refl _) (by omega) hns1 HN2.out
    have y0 := Y8.cell 0; have y1 := Y8.cell 1
    go_wp2_with fail
    refine cH.mono ?_
    rintro e w8 ⟨rfl, b8⟩
    clear cH y0 y1
    go_wp2
    go_ret
    exact ⟨rfl, bb8.trans (b8.mono bb8.size)⟩
  · have hn : (1048576 : Int) < s.size := by omega
    go_enter Tryz.func4, Tryz.ntmps4
    go_wp2
    go_ret
    exact ⟨rfl, Below.refl _ _⟩
end Ops
end Go.Proofs.YtjopmakbnompnaaGreatDoor
