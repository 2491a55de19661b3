/- What the program's ShowCode answers. -/
import Derived.Test.YtjopmakbnompnaaDoorImplShow
import Derived.Test.YtjopmakbnompnaaDoorCodeImpl
import Derived.Test.YtjopmakbnompnaaDoorShapeSpec
set_option linter.unusedVariables false
set_option linter.unusedSimpArgs false
namespace Go.Proofs.YtjopmakbnompnaaDoor
open Go.RowKit
namespace Ops
open Bas Flat Num

theorem scI_no {xs : List O4} (h : codeOk xs = false) : showCode xs = [] := by unfold showCode; rw [if_neg (by simp [h])]
theorem scI_yes {xs : List O4} (h : codeOk xs = true) : showCode xs = linesOf xs := by unfold showCode; rw [if_pos h]
theorem codeI_len {xs : List O4} (h : codeOk xs = true) : xs.length ≤ 24 := by
  unfold codeOk at h
  rw [Bool.and_eq_true] at h
  exact of_decide_eq_true h.1
theorem linesI_take {xs : List O4} {k : Nat} (h : k < xs.length) : linesOf (xs.take (k + 1)) = linesOf (xs.take k) ++ showOp xs[k] ++ [10] := by rw [List.take_succ_eq_append_getElem h, lines_snoc]

set_option maxRecDepth 100000 in
set_option maxHeartbeats 3200000 in
theorem showCodeI (v : Value) (xs : List O4) (B : Nat) (w : World) (hv : Sees4 B w v xs) (hB : B ≤ w.heap.size) (hlen : xs.length ≤ 1048576) (hT : WTab w) (ht : Dec.Tab w) :
    Calls Tryd.prog 17 #[v] w fun e w' => e = .returned (.string ⟨(showCode xs).toArray⟩) ∧ Below w.heap.size w w' := by
  have c0 := codeImpl v xs B w hv hB hlen
  obtain ⟨a, cap, rfl⟩ := hv.form
  obtain ⟨n, hn⟩ : ∃ n, xs.length = n := ⟨_, rfl⟩
  rw [hn] at hv hlen c0 ⊢
  obtain ⟨p, hp⟩ : ∃ p, codeOk xs = p := ⟨_, rfl⟩
  rw [hp] at c0
  have HT : Hid (∀ W, Below w.heap.size w W → WTab W ∧ Dec.Tab W) := fun W hb => ⟨hT.on hb, ht.on hb⟩
  clear hT ht
  obtain ⟨g, hg⟩ : ∃ g, w.heap.size = g := ⟨_, rfl⟩
  rw [hg] at hB c0 HT ⊢
  cases p
  · have HF : Hid ([] = showCode xs) := (scI_no hp).symm
    clear hp
    go_enter Tryd.func17, Tryd.ntmps17
    go_wp2_with fail
    refine c0.mono ?_
    rintro e w1 ⟨rfl, b1⟩
    go_wp2
    go_ret
    exact ⟨retI_s HF.out, b1⟩
  have h24 := codeI_len hp
  rw [hn] at h24
  have HS : Hid (showCode xs = linesOf xs) := scI_yes hp
  clear hp
  go_enter Tryd.func17, Tryd.ntmps17
  go_wp2_with fail
  refine c0.mono ?_
  rintro e w1 ⟨rfl, b1⟩
  clear c0
  go_wp2
  go_loopw [3, 11] (fun sv iv wr => ∃ (k : Nat) (T : Txt), k ≤ n ∧ iv = .int .i64 k ∧ sv = .string ⟨T.toArray⟩ ∧ T = linesOf (xs.take k) ∧ Below g w wr) (fun _ iv _ => n - (intOf iv).toNat)
  case atStart => exact ⟨0, [], Nat.zero_le _, rfl, rfl, rfl, b1⟩
  case round =>
    obtain ⟨k, T, hk, rfl, rfl, hT, hb⟩ := hrel
    clear b1
    have hsz : g ≤ wr.heap.size := by have := hb.size; omega
    by_cases hlt : k < n
    · obtain ⟨b, off, rfl, hbB, hc⟩ := (hv.on hb hB).open (by omega)
      obtain ⟨a0, a1, a2, a3⟩ := see4 (B := B) hc k (by omega)
      have i1 : (k : Int) < n := by omega
      have i2 : (0 : Int) ≤ k := by omega
      have HL : Hid (linesOf (xs.take (k + 1)) = linesOf (xs.take k) ++ showOp xs[k] ++ [10]) := linesI_take (by omega)
      have lT := lines_len (xs.take k)
      rw [← hT] at lT
      have lk : (xs.take k).length ≤ k := List.length_take_le _ _
      have lS := show_len xs[k]
      obtain ⟨x, hx⟩ : ∃ x, xs[k] = x := ⟨_, rfl⟩
      rw [hx] at a0 a1 a2 a3 HL lS
      have bA := alloc_below wr (.cells #[.int .i64 x.k, .int .i64 x.a, .int .i64 x.b, .int .i64 x.c] 25)
      have XA := Blk.new wr #[.int .i64 x.k, .int .i64 x.a, .int .i64 x.b, .int .i64 x.c] 25
      have bbA := hb.trans (bA.mono hsz)
      have cO := showOpI x (wr.alloc (.cells #[.int .i64 x.k, .int .i64 x.a, .int .i64 x.b, .int .i64 x.c] 25)) (HT.out _ bbA).1 (HT.out _ bbA).2
      have eV : x.val = .agg #[.int .i64 x.k, .int .i64 x.a, .int .i64 x.b, .int .i64 x.c] := rfl
      rw [eV] at cO
      obtain ⟨U, hU⟩ : ∃ U, showOp x = U := ⟨_, rfl⟩
      rw [hU] at cO HL lS
      have HTT : Hid (T = linesOf (xs.take k)) := hT
      obtain ⟨lt, hlt'⟩ : ∃ l, T.length = l := ⟨_, rfl⟩
      obtain ⟨lu, hlu⟩ : ∃ l, U.length = l := ⟨_, rfl⟩
      rw [hlt'] at lT
      rw [hlu] at lS
      have lT' : lt ≤ 1000 := by omega
      have hzA : g ≤ (wr.alloc (.cells #[.int .i64 x.k, .int .i64 x.a, .int .i64 x.b, .int .i64 x.c] 25)).heap.size := by have := bbA.size; omega
      clear hc hx eV hU hT lT lk
      go_wp2_with fail
      refine cO.mono ?_
      rintro e w2 ⟨rfl, b2⟩
      clear cO a0 a1 a2 a3
      go_wp2
      go_roundw
      case rel =>
        refine ⟨k + 1, T ++ U ++ [10], by omega, by go_num, ?_, by rw [HL.out, ← HTT.out], bbA.trans (b2.mono hzA)⟩
        simp [ByteArray.mk_append_mk]
      case measure => simp [intOf]; omega
    · obtain rfl : k = n := by omega
      have HF : Hid (T = showCode xs) := by show _ = _; rw [HS.out, hT, List.take_of_length_le (by omega)]
      have i1 : ¬ (k : Int) < k := by omega
      clear hT
      go_wp2
      go_ret
      exact ⟨retI_s HF.out, hb⟩
end Ops
end Go.Proofs.YtjopmakbnompnaaDoor
