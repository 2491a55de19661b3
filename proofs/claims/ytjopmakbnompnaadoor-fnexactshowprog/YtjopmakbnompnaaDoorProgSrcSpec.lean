/- What the specification's ShowProg answers. -/
import Derived.Test.YtjopmakbnompnaaDoorCodeSrcSpec
import Derived.Test.YtjopmakbnompnaaDoorShapeSpec4
set_option linter.unusedVariables false
set_option linter.unusedSimpArgs false
namespace Go.Proofs.YtjopmakbnompnaaDoor
open Go.RowKit
namespace Ops
open Bas Flat Strs Num

theorem sp_none {xs : List O4} {kss : List (List O4)} (h : progOk xs kss = false) : showProg xs kss = [] := by unfold showProg; rw [if_neg (by simp [h])]
theorem sp_text {xs : List O4} {kss : List (List O4)} (h : progOk xs kss = true) : showProg xs kss = linesOf xs ++ kidsText kss := by unfold showProg progText; rw [if_pos h]
theorem kids_take {kss : List (List O4)} {k : Nat} (h : k < kss.length) : kidsText (kss.take (k + 1)) = kidsText (kss.take k) ++ kidL ++ linesOf kss[k] := by
  rw [List.take_succ_eq_append_getElem h]
  unfold kidsText
  rw [List.flatMap_append]
  simp only [List.flatMap_cons, List.flatMap_nil, List.append_nil, List.append_assoc]
theorem kids_len {kss : List (List O4)} (h : ∀ ks ∈ kss, codeOk ks = true) : (kidsText kss).length ≤ 1000 * kss.length := by
  induction kss with
  | nil => simp [kidsText]
  | cons ks r ih =>
    have h1 := lines_len ks
    have h2 := code_len (h ks (by simp))
    have h3 := ih (fun k hk => h k (by simp [hk]))
    have h4 : kidL.length = 4 := rfl
    rw [kidsText_cons]; simp; omega

set_option maxRecDepth 100000 in
set_option maxHeartbeats 3200000 in
theorem showProgC (vc vk : Value) (xs : List O4) (kss : List (List O4)) (B : Nat) (w : World) (hv : SeesP B w vc vk xs kss) (hB : B ≤ w.heap.size) (hf : Fits xs kss) :
    Calls Tryd.prog 24 #[.agg #[vc, vk]] w fun e w' => e = .returned (.string ⟨(showProg xs kss).toArray⟩) ∧ Below w.heap.size w w' := by
  obtain ⟨a, cap, rfl⟩ := hv.c.form
  obtain ⟨ak, capk, rfl⟩ := hv.k.form
  obtain ⟨n, hn⟩ : ∃ n, xs.length = n := ⟨_, rfl⟩
  obtain ⟨m, hm⟩ : ∃ m, kss.length = m := ⟨_, rfl⟩
  rw [hn, hm] at hv ⊢
  have b0 := alloc_below w (.cells #[.slice a n cap, .slice ak m capk] 49)
  have X0 := Blk.new w #[.slice a n cap, .slice ak m capk] 49
  obtain ⟨W0, hW0⟩ : ∃ W0, w.alloc (.cells #[.slice a n cap, .slice ak m capk] 49) = W0 := ⟨_, rfl⟩
  rw [hW0] at b0 X0
  have hs := X0.lt
  have hv0 := hv.on b0 hB
  have c0 := progSpec _ _ xs kss B W0 hv0 (by omega) hf
  obtain ⟨p, hp⟩ : ∃ p, progOk xs kss = p := ⟨_, rfl⟩
  rw [hp] at c0
  have HP : Hid (progOk xs kss = p) := hp
  clear hp
  have x0 := X0.cell 0; have x1 := X0.cell 1
  obtain ⟨g, hg⟩ : ∃ g, w.heap.size = g := ⟨_, rfl⟩
  rw [hg] at hB b0 X0 hs x0 x1 ⊢
  cases p
  · have HF : Hid ([] = showProg xs kss) := (sp_none HP.out).symm
    go_enter Tryd.func24, Tryd.ntmps24
    go_wp2_with fail
    refine c0.mono ?_
    rintro e w1 ⟨rfl, b1⟩
    clear hW0 x0 x1
    go_wp2
    go_ret
    exact ⟨ret_s HF.out, b0.trans (b1.mono (by omega))⟩
  obtain ⟨hc, h3, hks⟩ := prog_codes HP.out
  rw [hm] at h3
  have HS : Hid (showProg xs kss = linesOf xs ++ kidsText kss) := sp_text HP.out
  have HKs := (show Hid _ from hks)
  have lx := lines_len xs
  have lx2 := code_len hc
  have HC : Hid (showCode xs = linesOf xs) := sc_yes hc
  clear hc hks
  go_enter Tryd.func24, Tryd.ntmps24
  go_wp2_with fail
  refine c0.mono ?_
  rintro e w1 ⟨rfl, b1⟩
  clear c0 hW0 x0 x1
  have X1 := X0.on b1 (by omega)
  have bb1 := b0.trans (b1.mono (by omega : g ≤ W0.heap.size))
  have hz1 : g < w1.heap.size := X1.lt
  have x0 := X1.cell 0
  have c1 := showCodeC _ xs B w1 (hv.c.on bb1 hB) (by omega) (by omega)
  rw [HC.out] at c1
  go_wp2_with fail
  refine c1.mono ?_
  rintro e w2 ⟨rfl, b2⟩
  clear c1 x0
  have X2 := X1.on b2 hz1
  have bb2 := bb1.trans (b2.mono (by omega : g ≤ w1.heap.size))
  have hvk := (show Hid _ from hv.k)
  clear X0 b0 X1 b1 bb1 b2
  go_wp2
  go_loopw [3, 4] (fun sv iv wr => ∃ (k : Nat) (T : Txt), k ≤ m ∧ iv = .int .i64 k ∧ sv = .string ⟨T.toArray⟩ ∧ T = linesOf xs ++ kidsText (kss.take k) ∧ Below g w wr ∧ Blk wr g #[.slice a n cap, .slice ak m capk] 49) (fun _ iv _ => m - (intOf iv).toNat)
  case atStart => exact ⟨0, linesOf xs, Nat.zero_le _, rfl, rfl, by simp [kidsText], bb2, X2⟩
  case round =>
    obtain ⟨k, T, hk, rfl, rfl, hT, hb, X⟩ := hrel
    clear bb2 X2
    have hsz : g < wr.heap.size := X.lt
    have y1 := X.cell 1
    by_cases hlt : k < m
    · obtain ⟨b, off, rfl, hbB, hcc⟩ := SeesK.open hvk.out (by omega)
      obtain ⟨s, hs1, hs2⟩ := hcc k (by omega)
      have a0 := (hb.cell (p := ⟨b, off + k, none⟩) (by show b < g; omega)).trans hs1
      have hkx : k < kss.length := by omega
      have hko := HKs.out _ (List.getElem_mem hkx)
      have h24 := code_len hko
      have cK := showCodeC _ kss[k] B wr (hs2.on hb hB) (by omega) (by omega)
      rw [sc_yes hko] at cK
      have HL : Hid (kidsText (kss.take (k + 1)) = kidsText (kss.take k) ++ kidL ++ linesOf kss[k]) := kids_take hkx
      have l1 := lines_len kss[k]
      have l2 := kids_len (kss := kss.take k) (fun q hq => HKs.out q (List.mem_of_mem_take hq))
      have l3 : (kss.take k).length ≤ k := List.length_take_le _ _
      have lT : T.length ≤ 10000 := by rw [hT]; simp; omega
      have HT : Hid (T = linesOf xs ++ kidsText (kss.take k)) := hT
      obtain ⟨U, hU⟩ : ∃ U, linesOf kss[k] = U := ⟨_, rfl⟩
      rw [hU] at cK HL l1
      obtain ⟨lt, hlt'⟩ : ∃ l, T.length = l := ⟨_, rfl⟩
      obtain ⟨lu, hlu⟩ : ∃ l, U.length = l := ⟨_, rfl⟩
      rw [hlt'] at lT
      rw [hlu] at l1
      have lu' : lu ≤ 1000 := by omega
      have i1 : (k : Int) < m := by omega
      have i2 : (0 : Int) ≤ k := by omega
      clear hcc hs1 hs2 hU hT l1 l2 l3 hko h24 lx lx2
      go_wp2_with fail
      refine cK.mono ?_
      rintro e w3 ⟨rfl, b3⟩
      clear cK a0 y1
      go_wp2
      go_roundw
      case rel =>
        refine ⟨k + 1, T ++ kidL ++ U, by omega, by go_num, ?_, by rw [HL.out, HT.out]; simp, hb.trans (b3.mono (by omega)), X.on b3 X.lt⟩
        simp [ByteArray.mk_append_mk, kidL]
      case measure => simp [intOf]; omega
    · obtain rfl : k = m := by omega
      have HF : Hid (T = showProg xs kss) := by show _ = _; rw [HS.out, hT, List.take_of_length_le (by omega)]
      have i1 : ¬ (k : Int) < k := by omega
      clear hT
      go_wp2
      go_ret
      exact ⟨ret_s HF.out, hb⟩
end Ops
end Go.Proofs.YtjopmakbnompnaaDoor
