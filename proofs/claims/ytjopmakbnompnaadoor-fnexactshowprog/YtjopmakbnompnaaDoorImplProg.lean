/- What the program's ShowProg answers. -/
import Derived.Test.YtjopmakbnompnaaDoorImplShowCode
import Derived.Test.YtjopmakbnompnaaDoorProgSrcSpec
import Derived.Test.YtjopmakbnompnaaDoorProgImpl
set_option linter.unusedVariables false
set_option linter.unusedSimpArgs false
namespace Go.Proofs.YtjopmakbnompnaaDoor
open Go.RowKit
namespace Ops
open Bas Flat Strs Num

set_option maxRecDepth 100000 in
set_option maxHeartbeats 3200000 in
theorem showProgI (vc vk : Value) (xs : List O4) (kss : List (List O4)) (B : Nat) (w : World) (hv : SeesP B w vc vk xs kss) (hB : B ≤ w.heap.size) (hf : Fits xs kss) (hT : WTab w) (ht : Dec.Tab w) :
    Calls Tryd.prog 26 #[.agg #[vc, vk]] w fun e w' => e = .returned (.string ⟨(showProg xs kss).toArray⟩) ∧ Below w.heap.size w w' := by
  have HTb : Hid (∀ W, Below w.heap.size w W → WTab W ∧ Dec.Tab W) := fun W hb => ⟨hT.on hb, ht.on hb⟩
  clear hT ht
  obtain ⟨a, cap, rfl⟩ := hv.c.form
  obtain ⟨ak, capk, rfl⟩ := hv.k.form
  obtain ⟨n, hn⟩ : ∃ n, xs.length = n := ⟨_, rfl⟩
  obtain ⟨m, hm⟩ : ∃ m, kss.length = m := ⟨_, rfl⟩
  rw [hn, hm] at hv ⊢
  have b0 := alloc_below w (.cells #[.slice a n cap, .slice ak m capk] 49)
  have X0 := Blk.new w #[.slice a n cap, .slice ak m capk] 49
  obtain ⟨W0, hW0⟩ : ∃ W0, w.alloc (.cells #[.slice a n cap, .slice ak m capk] 49) = W0 := ⟨_, rfl⟩
  rw [hW0] at b0 X0
  have hs := X0.lt
  have hv0 := hv.on b0 hB
  have c0 := progImpl _ _ xs kss B W0 hv0 (by omega) hf
  obtain ⟨p, hp⟩ : ∃ p, progOk xs kss = p := ⟨_, rfl⟩
  rw [hp] at c0
  have HP : Hid (progOk xs kss = p) := hp
  clear hp
  have x0 := X0.cell 0; have x1 := X0.cell 1
  obtain ⟨g, hg⟩ : ∃ g, w.heap.size = g := ⟨_, rfl⟩
  rw [hg] at hB b0 X0 hs x0 x1 HTb ⊢
  cases p
  · have HF : Hid ([] = showProg xs kss) := (sp_none HP.out).symm
    go_enter Tryd.func26, Tryd.ntmps26
    go_wp2_with fail
    refine c0.mono ?_
    rintro e w1 ⟨rfl, b1⟩
    clear hW0 x0 x1
    go_wp2
    go_ret
    exact ⟨ret_s HF.out, b0.trans (b1.mono (by omega))⟩
  obtain ⟨hc, h3, hks⟩ := prog_codes HP.out
  rw [hm] at h3
  have HS : Hid (showProg xs kss = linesOf xs ++ kidsText kss) := sp_text HP.out
  have HKs := (show Hid _ from hks)
  have lx := lines_len xs
  have lx2 := code_len hc
  have HC : Hid (showCode xs = linesOf xs) := sc_yes hc
  clear hc hks
  go_enter Tryd.func26, Tryd.ntmps26
  go_wp2_with fail
  refine c0.mono ?_
  rintro e w1 ⟨rfl, b1⟩
  clear c0 hW0 x0 x1
  have X1 := X0.on b1 (by omega)
  have bb1 := b0.trans (b1.mono (by omega : g ≤ W0.heap.size))
  have hz1 : g < w1.heap.size := X1.lt
  have x0 := X1.cell 0
  have c1 := showCodeI _ xs B w1 (hv.c.on bb1 hB) (by omega) (by omega) (HTb.out w1 bb1).1 (HTb.out w1 bb1).2
  rw [HC.out] at c1
  go_wp2_with fail
  refine c1.mono ?_
  rintro e w2 ⟨rfl, b2⟩
  clear c1 x0
  have X2 := X1.on b2 hz1
  have bb2 := bb1.trans (b2.mono (by omega : g ≤ w1.heap.size))
  have hvk := (show Hid _ from hv.k)
  have x1 := X2.cell 1
  clear X0 b0 X1 b1 bb1 b2
  go_wp2
  clear x1
  go_loopw [3, 15] (fun sv iv wr => ∃ (k : Nat) (T : Txt), k ≤ m ∧ iv = .int .i64 k ∧ sv = .string ⟨T.toArray⟩ ∧ T = linesOf xs ++ kidsText (kss.take k) ∧ Below g w wr) (fun _ iv _ => m - (intOf iv).toNat)
  case atStart => exact ⟨0, linesOf xs, Nat.zero_le _, rfl, rfl, by simp [kidsText], bb2⟩
  case round =>
    obtain ⟨k, T, hk, rfl, rfl, hT, hb⟩ := hrel
    clear bb2 X2
    have hsz : g ≤ wr.heap.size := by have := hb.size; omega
    by_cases hlt : k < m
    · obtain ⟨b, off, rfl, hbB, hcc⟩ := SeesK.open hvk.out (by omega)
      obtain ⟨s, hs1, hs2⟩ := hcc k (by omega)
      have a0 := (hb.cell (p := ⟨b, off + k, none⟩) (by show b < g; omega)).trans hs1
      have hkx : k < kss.length := by omega
      have hko := HKs.out _ (List.getElem_mem hkx)
      have h24 := code_len hko
      have bA := alloc_below wr (.cells #[.slice s.a s.n s.cap] 77)
      have XA := Blk.new wr #[.slice s.a s.n s.cap] 77
      have bbA := hb.trans (bA.mono hsz)
      have hzA := XA.lt
      have cK := showCodeI _ kss[k] B (wr.alloc (.cells #[.slice s.a s.n s.cap] 77)) (hs2.on bbA hB) (by omega) (by omega) (HTb.out _ bbA).1 (HTb.out _ bbA).2
      rw [sc_yes hko] at cK
      have HL : Hid (kidsText (kss.take (k + 1)) = kidsText (kss.take k) ++ kidL ++ linesOf kss[k]) := kids_take hkx
      have l1 := lines_len kss[k]
      have l2 := kids_len (kss := kss.take k) (fun q hq => HKs.out q (List.mem_of_mem_take hq))
      have l3 : (kss.take k).length ≤ k := List.length_take_le _ _
      have lT : T.length ≤ 10000 := by rw [hT]; simp; omega
      have HT : Hid (T = linesOf xs ++ kidsText (kss.take k)) := hT
      obtain ⟨U, hU⟩ : ∃ U, linesOf kss[k] = U := ⟨_, rfl⟩
      rw [hU] at cK HL l1
      obtain ⟨lt, hlt'⟩ : ∃ l, T.length = l := ⟨_, rfl⟩
      obtain ⟨lu, hlu⟩ : ∃ l, U.length = l := ⟨_, rfl⟩
      rw [hlt'] at lT
      rw [hlu] at l1
      have lu' : lu ≤ 1000 := by omega
      have i1 : (k : Int) < m := by omega
      have i2 : (0 : Int) ≤ k := by omega
      clear hcc hs1 hs2 hU hT l1 l2 l3 hko h24 lx lx2
      go_wp2_with fail
      refine cK.mono ?_
      rintro e w3 ⟨rfl, b3⟩
      clear cK a0
      go_wp2
      go_roundw
      case rel =>
        refine ⟨k + 1, T ++ kidL ++ U, by omega, by go_num, ?_, by rw [HL.out, HT.out]; simp, bbA.trans (b3.mono (by omega))⟩
        simp [ByteArray.mk_append_mk, kidL]
      case measure => simp [intOf]; omega
    · obtain rfl : k = m := by omega
      have HF : Hid (T = showProg xs kss) := by show _ = _; rw [HS.out, hT, List.take_of_length_le (by omega)]
      have i1 : ¬ (k : Int) < k := by omega
      clear hT
      go_wp2
      go_ret
      exact ⟨ret_s HF.out, hb⟩
end Ops
end Go.Proofs.YtjopmakbnompnaaDoor
