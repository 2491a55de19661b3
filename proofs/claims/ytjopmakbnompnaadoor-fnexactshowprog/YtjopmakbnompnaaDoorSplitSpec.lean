/- What the specification's l6Split answers: a text parted at each sign. -/
import Derived.Test.YtjopmakbnompnaaDoorSourceL
import Derived.Test.YtjopmakbnompnaaDoorStrRow
set_option linter.unusedVariables false
set_option linter.unusedSimpArgs false
namespace Go.Proofs.YtjopmakbnompnaaDoor
open Go.RowKit
namespace Ops
open Bas Flat Strs

theorem split_step_yes {c : UInt8} {L : Txt} {P : List Txt} {k f : Nat} (hk : k < L.length) (hf : f ≤ k) (hc : L[k] = c) (h : split c L = P ++ glue ((L.drop f).take (k - f)) (split c (L.drop k))) :
    split c L = (P ++ [(L.drop f).take (k - f)]) ++ glue ((L.drop (k + 1)).take (k + 1 - (k + 1))) (split c (L.drop (k + 1))) := by
  rw [h, List.drop_eq_getElem_cons hk]
  show P ++ glue _ (if L[k] = c then _ else _) = _
  rw [if_pos hc, Nat.sub_self, List.take_zero, glue_nil (split_ne c _)]
  simp [glue]
theorem split_step_no {c : UInt8} {L : Txt} {P : List Txt} {k f : Nat} (hk : k < L.length) (hf : f ≤ k) (hc : ¬ L[k] = c) (h : split c L = P ++ glue ((L.drop f).take (k - f)) (split c (L.drop k))) :
    split c L = P ++ glue ((L.drop f).take (k + 1 - f)) (split c (L.drop (k + 1))) := by
  rw [h, List.drop_eq_getElem_cons hk]
  show P ++ glue _ (if L[k] = c then _ else _) = _
  rw [if_neg hc, glue_glue, show k + 1 - f = (k - f) + 1 by omega]
  have : (L.drop f).take (k - f + 1) = (L.drop f).take (k - f) ++ [L[k]] := by
    rw [List.take_succ_eq_append_getElem (by simp; omega)]
    congr 2
    rw [List.getElem_drop]; congr 1; omega
  rw [this]
theorem split_last {c : UInt8} {L : Txt} {P : List Txt} {f : Nat} (h : split c L = P ++ glue ((L.drop f).take (L.length - f)) (split c (L.drop L.length))) : split c L = P ++ [L.drop f] := by
  rw [h, List.drop_length, List.take_of_length_le (by simp)]
  simp [split, glue]

set_option maxRecDepth 100000 in
set_option maxHeartbeats 3200000 in
theorem splitC (s : ByteArray) (c : UInt8) (hs : s.size ≤ 1048576) (w : World) :
    Calls Tryd.prog 35 #[.string s, .int .u8 c.toNat] w fun e w' => ∃ v', e = .returned v' ∧ OwnsS w.heap.size w' v' (split c s.data.toList) ∧ Below w.heap.size w w' := by
  obtain ⟨L, hLL⟩ : ∃ L, s.data.toList = L := ⟨_, rfl⟩
  have hlen : L.length = s.size := by rw [← hLL]; simp
  have HG : Hid (∀ k (h : k < s.size) (h' : k < L.length), L[k] = s[k]) := fun k h h' => by subst hLL; rfl
  have HP : Hid (∀ i j, s.extract i j = ⟨((L.drop i).take (j - i)).toArray⟩) := fun i j => by rw [piece, hLL]
  rw [hLL]
  clear hLL
  obtain ⟨g, hg⟩ : ∃ g, w.heap.size = g := ⟨_, rfl⟩
  have O0 : OwnsS g (w.alloc (.cells #[] 9)) (.slice (some ⟨w.heap.size, 0, none⟩) 0 0) [] := by rw [← hg]; exact World.ownsRow_lit w #[] 0 (Nat.le_refl _) (by simp [maxLen]) rfl
  have b0 : Below g w (w.alloc (.cells #[] 9)) := by rw [← hg]; exact alloc_below w _
  rw [hg] at O0 ⊢
  have HE : Hid (split c L = [] ++ glue ((L.drop 0).take (0 - 0)) (split c (L.drop 0))) := by
    show _ = _
    simp [glue_nil (split_ne c L)]
  go_enter Tryd.func35, Tryd.ntmps35
  go_wp2
  go_loopw [5, 6, 7] (fun ov fv iv wr => ∃ (k f : Nat) (P : List Txt) (a : Option Addr) (m cp : Nat), ov = .slice a m cp ∧ fv = .int .i64 f ∧ iv = .int .i64 k ∧ f ≤ k ∧ k ≤ s.size ∧ P.length ≤ k ∧ OwnsS g wr (.slice a m cp) P ∧ Below g w wr ∧ split c L = P ++ glue ((L.drop f).take (k - f)) (split c (L.drop k))) (fun _ _ iv _ => s.size - (intOf iv).toNat)
  case atStart => exact ⟨0, 0, [], _, _, _, rfl, rfl, rfl, Nat.le_refl _, Nat.zero_le _, by simp, O0, b0, HE.out⟩
  case round =>
    obtain ⟨k, f, P, a, m, cp, rfl, rfl, rfl, hfk, hk, hPl, O, b, he⟩ := hrel
    clear O0 b0 HE
    have hsz : g ≤ wr.heap.size := by have := b.size; omega
    by_cases hlt : k < s.size
    · have hlt' : k < L.length := by omega
      have hc : s[k].toNat < 256 := s[k].toNat_lt
      have e1 := HG.out k hlt hlt'
      by_cases hq : s[k] = c
      · have HF := (show Hid _ from split_step_yes hlt' hfk (e1.trans hq) he)
        clear he e1
        obtain ⟨v2, w2, hr2, O2, G2, -⟩ := pushS _ P g wr O hsz (by omega) ((L.drop f).take (k - f))
        rw [← HP.out f k] at hr2
        have b2 := b.grown G2 hsz (fun q hq => (O.at q hq).1)
        obtain ⟨a2, c2, rfl⟩ := O2.form
        obtain ⟨n2, hn2⟩ : ∃ n, (P ++ [(L.drop f).take (k - f)]).length = n := ⟨_, rfl⟩
        rw [hn2] at O2 hr2
        have dq : ((s[k].toNat : Int) == (c.toNat : Int)) = true := by rw [hq]; simp
        clear hq
        go_wp2_with (at_builtin; refine wpList_app _ rfl _ _ 54 rfl _ _ _ _ rfl rfl hr2 ?_)
        clear hr2
        go_roundw
        case rel => exact ⟨k + 1, k + 1, _, _, _, _, rfl, by go_num, by go_num, Nat.le_refl _, by omega, by simp; omega, O2, b2, HF.out⟩
        case measure => simp [intOf]; omega
      · have HF := (show Hid _ from split_step_no hlt' hfk (fun e => hq (e1.symm.trans e)) he)
        clear he e1
        have dq : ((s[k].toNat : Int) == (c.toNat : Int)) = false := by
          rw [beq_eq_false_iff_ne]
          intro e
          exact hq (UInt8.toNat_inj.1 (by omega))
        clear hq
        go_wp2
        go_roundw
        case rel => exact ⟨k + 1, f, P, _, _, _, rfl, rfl, by go_num, by omega, by omega, by omega, O, b, HF.out⟩
        case measure => simp [intOf]; omega
    · obtain rfl : k = s.size := by omega
      have HF : Hid (split c L = P ++ [L.drop f]) := split_last (by rw [hlen]; exact he)
      clear he
      obtain ⟨v2, w2, hr2, O2, G2, -⟩ := pushS _ P g wr O hsz (by omega) ((L.drop f).take (s.size - f))
      rw [← HP.out f s.size] at hr2
      rw [List.take_of_length_le (by simp; omega), ← HF.out] at O2
      have b2 := b.grown G2 hsz (fun q hq => (O.at q hq).1)
      obtain ⟨a2, c2, rfl⟩ := O2.form
      go_wp2_with (at_builtin; refine wpList_app _ rfl _ _ 54 rfl _ _ _ _ rfl rfl hr2 ?_)
      clear hr2
      go_ret
      exact ⟨_, rfl, O2, b2⟩
end Ops
end Go.Proofs.YtjopmakbnompnaaDoor
