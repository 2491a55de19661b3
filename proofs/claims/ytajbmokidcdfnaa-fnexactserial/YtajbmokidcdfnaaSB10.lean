/- Several texts of one proof, in build order: ShapeSpec2, SerExit, SerCase1, SerCase2, SerCase3, SerCase4. -/
import Derived.Deep.QuietTactic
import Derived.BigQuiet
import Derived.Test.YtajbmokidcdfnaaSB5
import Derived.Test.YtajbmokidcdfnaaSB9
/- What the specification's EndOf, l5Skip and CodeOk answer. -/
set_option linter.unusedVariables false
namespace Go.Proofs.Ytajbmokidcdfnaa
open Go.RowKit
namespace Ops
open Bas Flat

theorem getD_at4 {xs : List O4} {j : Nat} (hj : j < xs.length) : xs.getD j z4 = xs[j] := by simp [List.getD, hj]
theorem end_no {xs : List O4} {i : Int} (h : ¬ (0 ≤ i ∧ i < xs.length ∧ (xs.getD i.toNat z4).k = 8)) : endOf xs i = -1 := by unfold endOf; rw [if_neg h]

set_option maxRecDepth 100000 in
set_option maxHeartbeats 3200000 in
theorem endSpec (v : Value) (xs : List O4) (i : Int) (B : Nat) (w : World) (hv : Sees4 B w v xs) (hlen : xs.length ≤ 1048576) :
    Calls Try.prog 124 #[v, .int .i64 i] w fun e w' => e = .returned (.int .i64 (endOf xs i)) ∧ w = w' := by
  obtain ⟨a, cap, rfl⟩ := hv.form
  obtain ⟨n, hn⟩ : ∃ n, xs.length = n := ⟨_, rfl⟩
  rw [hn] at hv hlen ⊢
  by_cases h0 : 0 ≤ i
  · obtain ⟨s, rfl⟩ := Int.eq_ofNat_of_zero_le h0
    by_cases h1 : s < n
    · obtain ⟨b, off, rfl, hb, hc⟩ := hv.open (by omega)
      obtain ⟨a0, -, -, -⟩ := see4 (B := B) hc s (by omega)
      have hg := getD_at4 (xs := xs) (j := s) (by omega)
      have i2 : (s : Int) < n := by omega
      by_cases h8 : xs[s].k = 8
      · have HE : Hid (endOf xs s = endGo (xs.drop s) 0 s) := by
          show _ = _
          unfold endOf
          rw [Int.toNat_natCast, if_pos ⟨by omega, by omega, by rw [hg]; exact h8⟩]
        rw [h8] at a0
        clear hg h8
        go_enter Try.func124, Try.ntmps124
        go_wp2
        go_loop [5, 6] (fun d i' => ∃ (k : Nat) (q : Int), s ≤ k ∧ k ≤ n ∧ i' = .int .i64 k ∧ d = .int .i64 q ∧ -(k : Int) ≤ q ∧ q ≤ k ∧ endOf xs s = endGo (xs.drop k) q k) (fun _ i' => n - (intOf i').toNat)
        case atStart => exact ⟨s, 0, Nat.le_refl _, by omega, rfl, rfl, by omega, by omega, HE.out⟩
        case round =>
          obtain ⟨k, q, hsk, hk, rfl, rfl, hq1, hq2, he⟩ := hrel
          clear a0
          by_cases hlt : k < n
          · obtain ⟨a0, -, -, -⟩ := see4 (B := B) hc k (by omega)
            rw [endGo_step (by omega)] at he
            obtain ⟨x, hx⟩ : ∃ x, xs[k] = x := ⟨_, rfl⟩
            rw [hx] at a0 he
            have i1 : (k : Int) < n := by omega
            have HK := kind3 x
            clear hx HE
            rcases HK with ⟨h8, hD⟩ | ⟨h9, hD⟩ | ⟨h8, h9, hD⟩
            · rw [h8] at a0
              rw [hD] at he
              clear h8 hD
              by_cases hz : q + 1 = 0
              · rw [if_pos hz] at he
                have HF : Hid ((k : Int) = endOf xs s) := he.symm
                have d0 : (q + 1 == 0) = true := by simp [hz]
                clear he
                obtain rfl : q = -1 := by omega
                clear hz
                go_wp2
                go_ret
                exact ⟨ret_i HF.out, rfl⟩
              · rw [if_neg hz] at he
                have HF := (show Hid _ from he)
                have d0 : (q + 1 == 0) = false := by simp [hz]
                clear he hz
                go_wp2
                go_round
                case rel => exact ⟨k + 1, q + 1, by omega, by omega, by go_num, rfl, by omega, by omega, HF.out⟩
                case measure => simp [intOf]; omega
            · rw [h9] at a0
              rw [hD] at he
              clear h9 hD
              by_cases hz : q + -1 = 0
              · rw [if_pos hz] at he
                have HF : Hid ((k : Int) = endOf xs s) := he.symm
                clear he
                obtain rfl : q = 1 := by omega
                clear hz
                go_wp2
                go_ret
                exact ⟨ret_i HF.out, rfl⟩
              · rw [if_neg hz] at he
                have HF := (show Hid _ from he)
                have d0 : (q - 1 == 0) = false := by simp; omega
                clear he hz
                go_wp2
                go_round
                case rel => exact ⟨k + 1, q + -1, by omega, by omega, by go_num, by go_num, by omega, by omega, HF.out⟩
                case measure => simp [intOf]; omega
            · rw [hD] at he
              clear hD
              by_cases hz : q + 0 = 0
              · rw [if_pos hz] at he
                have HF : Hid ((k : Int) = endOf xs s) := he.symm
                clear he
                obtain rfl : q = 0 := by omega
                clear hz
                go_wp2
                go_ret
                exact ⟨ret_i HF.out, rfl⟩
              · rw [if_neg hz, Int.add_zero] at he
                have HF := (show Hid _ from he)
                have d0 : (q == 0) = false := by simp; omega
                clear he hz
                go_wp2
                go_round
                case rel => exact ⟨k + 1, q, by omega, by omega, by go_num, rfl, by omega, by omega, HF.out⟩
                case measure => simp [intOf]; omega
          · obtain rfl : k = n := by omega
            have HF : Hid (-1 = endOf xs s) := by
              show _ = _
              rw [he, List.drop_of_length_le (by omega)]; rfl
            clear he hc
            go_wp2
            go_ret
            exact ⟨ret_i HF.out, rfl⟩
      · have HF : Hid (-1 = endOf xs s) := (end_no (fun h => h8 (by have := h.2.2; rw [Int.toNat_natCast, hg] at this; exact this))).symm
        have d8 : (xs[s].k != 8) = true := by simp [h8]
        obtain ⟨q, hq⟩ : ∃ q, xs[s].k = q := ⟨_, rfl⟩
        rw [hq] at a0 d8
        clear hc h8 hq hg
        go_enter Try.func124, Try.ntmps124
        go_wp2
        go_ret
        exact ⟨ret_i HF.out, rfl⟩
    · have HF : Hid (-1 = endOf xs s) := (end_no (fun h => h1 (by have := h.2.1; omega))).symm
      have i2 : (n : Int) ≤ s := by omega
      go_enter Try.func124, Try.ntmps124
      go_wp2
      go_ret
      exact ⟨ret_i HF.out, rfl⟩
  · have HF : Hid (-1 = endOf xs i) := (end_no (fun h => h0 h.1)).symm
    have i2 : i < 0 := by omega
    go_enter Try.func124, Try.ntmps124
    go_wp2
    go_ret
    exact ⟨ret_i HF.out, rfl⟩

theorem skip_no {xs : List O4} {i : Nat} (h : ¬ (i : Int) + 1 + (xs.getD i z4).b ≤ xs.length) : skipOk xs i = false := by unfold skipOk; rw [decide_eq_false h]; rfl
theorem skip_yes {xs : List O4} {i : Nat} (h : (i : Int) + 1 + (xs.getD i z4).b ≤ xs.length) : skipOk xs i = skipGo (xs.drop (i + 1)) (xs.getD i z4).b.toNat 0 := by unfold skipOk; rw [decide_eq_true h, Bool.true_and]

set_option maxRecDepth 100000 in
set_option maxHeartbeats 3200000 in
theorem skipSpec (v : Value) (xs : List O4) (s : Nat) (B : Nat) (w : World) (hv : Sees4 B w v xs) (hlen : xs.length ≤ 1048576) (hs : s < xs.length) (hb0 : 0 ≤ (xs.getD s z4).b) (hb1 : (xs.getD s z4).b ≤ 100) :
    Calls Try.prog 146 #[v, .int .i64 s] w fun e w' => e = .returned (.bool (skipOk xs s)) ∧ w = w' := by
  obtain ⟨a, cap, rfl⟩ := hv.form
  obtain ⟨n, hn⟩ : ∃ n, xs.length = n := ⟨_, rfl⟩
  rw [hn] at hv hlen hs ⊢
  obtain ⟨b, off, rfl, hb, hc⟩ := hv.open (by omega)
  obtain ⟨-, -, a2, -⟩ := see4 (B := B) hc s (by omega)
  have hg := getD_at4 (xs := xs) (j := s) (by omega)
  rw [hg] at hb0 hb1
  obtain ⟨t, ht⟩ := Int.eq_ofNat_of_zero_le hb0
  have i2 : (s : Int) < n := by omega
  have i1 : (0 : Int) ≤ s := by omega
  rw [ht] at a2 hb1
  by_cases hto : (s : Int) + 1 + t ≤ n
  · have HE : Hid (skipOk xs s = skipGo (xs.drop (s + 1)) t 0) := by
      show _ = _
      rw [skip_yes (by rw [hg, ht]; omega), hg, ht, Int.toNat_natCast]
    have hto' : ¬ (n : Int) < (s : Int) + 1 + t := by omega
    clear hg ht
    go_enter Try.func146, Try.ntmps146
    go_wp2
    go_loop [6, 7] (fun d i' => ∃ (k r : Nat) (q : Int), s + 1 ≤ k ∧ k + r = s + 1 + t ∧ i' = .int .i64 k ∧ d = .int .i64 q ∧ 0 ≤ q ∧ q ≤ k ∧ skipOk xs s = skipGo (xs.drop k) r q) (fun _ i' => n - (intOf i').toNat)
    case atStart => exact ⟨s + 1, t, 0, Nat.le_refl _, by omega, by go_num, rfl, by omega, by omega, HE.out⟩
    case round =>
      obtain ⟨k, r, q, hsk, hkr, rfl, rfl, hq1, hq2, he⟩ := hrel
      clear a2 HE
      cases r with
      | succ r =>
        obtain ⟨a0, -, -, -⟩ := see4 (B := B) hc k (by omega)
        rw [skipGo_step (by omega)] at he
        obtain ⟨x, hx⟩ : ∃ x, xs[k] = x := ⟨_, rfl⟩
        rw [hx] at a0 he
        have i3 : (k : Int) < n := by omega
        have i4 : (k : Int) < (s : Int) + 1 + t := by omega
        have HK := kind3 x
        clear hx
        rcases HK with ⟨h8, hD⟩ | ⟨h9, hD⟩ | ⟨h8, h9, hD⟩
        · rw [h8] at a0
          rw [hD, decide_eq_true (show 0 ≤ q + 1 by omega), Bool.true_and] at he
          have HF := (show Hid _ from he)
          clear h8 hD he
          go_wp2
          go_round
          case rel => exact ⟨k + 1, r, q + 1, by omega, by omega, by go_num, rfl, by omega, by omega, HF.out⟩
          case measure => simp [intOf]; omega
        · rw [h9] at a0
          rw [hD] at he
          clear h9 hD
          by_cases hz : 0 ≤ q + -1
          · rw [decide_eq_true hz, Bool.true_and] at he
            have HF := (show Hid _ from he)
            have d0 : decide (q - 1 < 0) = false := decide_eq_false (by omega)
            have hz' : ¬ q - 1 < 0 := by omega
            clear he hz
            go_wp2
            go_round
            case rel => exact ⟨k + 1, r, q + -1, by omega, by omega, by go_num, by go_num, by omega, by omega, HF.out⟩
            case measure => simp [intOf]; omega
          · rw [decide_eq_false hz, Bool.false_and] at he
            have HF : Hid (false = skipOk xs s) := he.symm
            obtain rfl : q = 0 := by omega
            clear he hz
            go_wp2
            go_ret
            exact ⟨ret_b HF.out, rfl⟩
        · rw [hD, decide_eq_true (show 0 ≤ q + 0 by omega), Bool.true_and, Int.add_zero] at he
          have HF := (show Hid _ from he)
          have d0 : ¬ q < 0 := by omega
          clear hD he
          go_wp2
          go_round
          case rel => exact ⟨k + 1, r, q, by omega, by omega, by go_num, rfl, by omega, by omega, HF.out⟩
          case measure => simp [intOf]; omega
      | zero =>
        have HF : Hid ((q == 0) = skipOk xs s) := by
          show _ = _
          rw [he]
          cases xs.drop k <;> rfl
        have i4 : ¬ (k : Int) < (s : Int) + 1 + t := by omega
        clear he hc
        go_wp2
        go_ret
        exact ⟨ret_b HF.out, rfl⟩
  · have HF : Hid (false = skipOk xs s) := (skip_no (by rw [hg, ht]; omega)).symm
    have hto' : (n : Int) < (s : Int) + 1 + t := by omega
    clear hg ht hc
    go_enter Try.func146, Try.ntmps146
    go_wp2
    go_ret
    exact ⟨ret_b HF.out, rfl⟩
end Ops
end Go.Proofs.Ytajbmokidcdfnaa
/- A round of l7Walk: an op at its end. -/
set_option linter.unusedVariables false
set_option linter.unusedSimpArgs false
namespace Go.Proofs.Ytajbmokidcdfnaa
open Go.RowKit
namespace Ops
open Bas Flat
theorem ok_rangesX {a b c : Int} (h : okOp ⟨8, a, b, c⟩ = true) : (spans 8).elim False (fun p => (p.1.1 ≤ a ∧ a ≤ p.1.2) ∧ (p.2.1.1 ≤ b ∧ b ≤ p.2.1.2) ∧ (p.2.2.1 ≤ c ∧ c ≤ p.2.2.2)) := by
  unfold okOp opOk at h
  simp only [spans, Int.reduceEq, if_true, if_false, reduceIte, or_self, or_false, false_or, Bool.and_eq_true, inn, decide_eq_true_eq] at h ⊢
  simp only [Option.elim]
  omega
set_option maxRecDepth 1000000 in
set_option maxHeartbeats 16000000 in
theorem caseX {xs : List O4} {n : Nat} {F : List Int → Th → List Int × Th} {r : List Int} {t : Th} {w : World} {pR pS pT : Nat} {v0 v1 : Value} {wr : World} {s : Cf} {ms : List M5} {gr cr gc cc gm cm : Nat} {ak : Option Addr} {mk ck : Nat} (Q0 : Exit → Act → World → Prop) (Bc : Nat) (ax : Option Addr) (cxp : Nat)
    (c1 c2 c4 c5 c6 c7 c8 c26 c27 c28 c29 c30 c31 c32 c33 c289 c290 c291 u14 u15 u16 u17 u18 u19 u20 u21 u22 u23 u24 u25 u34 u35 u36 u37 u38 u39 u40 u41 u42 u43 u44 u45 u46 u47 u48 u49 u50 u51 u52 u53 u54 u55 u56 u57 u58 u59 u60 u61 u62 u63 u64 u65 u66 u67 u68 u69 u70 u71 u72 u73 u74 u75 u76 u77 u78 u79 u80 u81 u82 u83 u84 u85 u86 u87 u88 u89 u90 u91 u92 u93 u94 u95 u96 u97 u98 u99 u100 u101 u102 u103 u104 u105 u106 u107 u108 u109 u110 u111 u112 u113 u114 u115 u116 u117 u118 u119 u120 u121 u122 u123 u124 u125 u126 u127 u128 u129 u130 u131 u132 u133 u134 u135 u136 u137 u138 u139 u140 u141 u142 u143 u144 u145 u146 u147 u148 u149 u150 u151 u152 u153 u154 u155 u156 u157 u158 u159 u160 u161 u162 u163 u164 u165 u166 u167 u168 u169 u170 u171 u172 u173 u174 u175 u176 u177 u178 u179 u180 u181 u182 u183 u184 u185 u186 u187 u188 u189 u190 u191 u192 u193 u194 u195 u196 u197 u198 u199 u200 u201 u202 u203 u204 u205 u206 u207 u208 u209 u210 u211 u212 u213 u214 u215 u216 u217 u218 u219 u220 u221 u222 u223 u224 u225 u226 u227 u228 u229 u230 u231 u232 u233 u234 u235 u236 u237 u238 u239 u240 u241 u242 u243 u244 u245 u246 u247 u248 u249 u250 u251 u252 u253 u254 u255 u256 u257 u258 u259 u260 u261 u262 u263 u264 u265 u266 u267 u268 u269 u270 u271 u272 u273 u274 u275 u276 u277 u278 u279 u280 u281 u282 u283 u284 u285 u286 u287 u288 : Value) (hv : Sees4 Bc wr (.slice ax n cxp) xs) (hn : xs.length = n) (hn24 : n ≤ 24) (hc : codeOk xs = true) (hlt : ¬ s.pc < xs.length) (hBc : Bc ≤ wr.heap.size)
    (H : RelW xs n F r t w pR pS pT v0 v1 (.slice (some ⟨gr, 0, none⟩) 4 cr) (.slice ak mk ck) (.int .i64 s.pc) wr s ms gr cr gc cc gm cm ak mk ck) (hex : ∀ a' w'', WI xs n F r t w pR pS pT v0 v1 (.slice ax n cxp) c1 c2 c4 c5 c6 c7 c8 c26 c27 c28 c29 c30 c31 c32 c33 c289 c290 c291 a' w'' → ¬ (intOf (a'.tmps.getD 13 undef)).toNat < n → Q0 (.exit 0) a' w'') :
    Code.wp Try.prog (bodyOf Try.f95.body) (Exit.then (fun a' w'' => WI xs n F r t w pR pS pT v0 v1 (.slice ax n cxp) c1 c2 c4 c5 c6 c7 c8 c26 c27 c28 c29 c30 c31 c32 c33 c289 c290 c291 a' w'' ∧ WMu n a' w'' < WMu n ⟨#[.slice ax n cxp, c1, c2, .slice (some ⟨gr, 0, none⟩) 4 cr, c4, c5, c6, c7, c8, .pointer (some ⟨pS, 0, none⟩), .pointer (some ⟨pR, 0, none⟩), .pointer (some ⟨pT, 0, none⟩), .slice ak mk ck, .int .i64 s.pc, u14, u15, u16, u17, u18, u19, u20, u21, u22, u23, u24, u25, c26, c27, c28, c29, c30, c31, c32, c33, u34, u35, u36, u37, u38, u39, u40, u41, u42, u43, u44, u45, u46, u47, u48, u49, u50, u51, u52, u53, u54, u55, u56, u57, u58, u59, u60, u61, u62, u63, u64, u65, u66, u67, u68, u69, u70, u71, u72, u73, u74, u75, u76, u77, u78, u79, u80, u81, u82, u83, u84, u85, u86, u87, u88, u89, u90, u91, u92, u93, u94, u95, u96, u97, u98, u99, u100, u101, u102, u103, u104, u105, u106, u107, u108, u109, u110, u111, u112, u113, u114, u115, u116, u117, u118, u119, u120, u121, u122, u123, u124, u125, u126, u127, u128, u129, u130, u131, u132, u133, u134, u135, u136, u137, u138, u139, u140, u141, u142, u143, u144, u145, u146, u147, u148, u149, u150, u151, u152, u153, u154, u155, u156, u157, u158, u159, u160, u161, u162, u163, u164, u165, u166, u167, u168, u169, u170, u171, u172, u173, u174, u175, u176, u177, u178, u179, u180, u181, u182, u183, u184, u185, u186, u187, u188, u189, u190, u191, u192, u193, u194, u195, u196, u197, u198, u199, u200, u201, u202, u203, u204, u205, u206, u207, u208, u209, u210, u211, u212, u213, u214, u215, u216, u217, u218, u219, u220, u221, u222, u223, u224, u225, u226, u227, u228, u229, u230, u231, u232, u233, u234, u235, u236, u237, u238, u239, u240, u241, u242, u243, u244, u245, u246, u247, u248, u249, u250, u251, u252, u253, u254, u255, u256, u257, u258, u259, u260, u261, u262, u263, u264, u265, u266, u267, u268, u269, u270, u271, u272, u273, u274, u275, u276, u277, u278, u279, u280, u281, u282, u283, u284, u285, u286, u287, u288, c289, c290, c291], []⟩ wr) Q0) ⟨#[.slice ax n cxp, c1, c2, .slice (some ⟨gr, 0, none⟩) 4 cr, c4, c5, c6, c7, c8, .pointer (some ⟨pS, 0, none⟩), .pointer (some ⟨pR, 0, none⟩), .pointer (some ⟨pT, 0, none⟩), .slice ak mk ck, .int .i64 s.pc, u14, u15, u16, u17, u18, u19, u20, u21, u22, u23, u24, u25, c26, c27, c28, c29, c30, c31, c32, c33, u34, u35, u36, u37, u38, u39, u40, u41, u42, u43, u44, u45, u46, u47, u48, u49, u50, u51, u52, u53, u54, u55, u56, u57, u58, u59, u60, u61, u62, u63, u64, u65, u66, u67, u68, u69, u70, u71, u72, u73, u74, u75, u76, u77, u78, u79, u80, u81, u82, u83, u84, u85, u86, u87, u88, u89, u90, u91, u92, u93, u94, u95, u96, u97, u98, u99, u100, u101, u102, u103, u104, u105, u106, u107, u108, u109, u110, u111, u112, u113, u114, u115, u116, u117, u118, u119, u120, u121, u122, u123, u124, u125, u126, u127, u128, u129, u130, u131, u132, u133, u134, u135, u136, u137, u138, u139, u140, u141, u142, u143, u144, u145, u146, u147, u148, u149, u150, u151, u152, u153, u154, u155, u156, u157, u158, u159, u160, u161, u162, u163, u164, u165, u166, u167, u168, u169, u170, u171, u172, u173, u174, u175, u176, u177, u178, u179, u180, u181, u182, u183, u184, u185, u186, u187, u188, u189, u190, u191, u192, u193, u194, u195, u196, u197, u198, u199, u200, u201, u202, u203, u204, u205, u206, u207, u208, u209, u210, u211, u212, u213, u214, u215, u216, u217, u218, u219, u220, u221, u222, u223, u224, u225, u226, u227, u228, u229, u230, u231, u232, u233, u234, u235, u236, u237, u238, u239, u240, u241, u242, u243, u244, u245, u246, u247, u248, u249, u250, u251, u252, u253, u254, u255, u256, u257, u258, u259, u260, u261, u262, u263, u264, u265, u266, u267, u268, u269, u270, u271, u272, u273, u274, u275, u276, u277, u278, u279, u280, u281, u282, u283, u284, u285, u286, u287, u288, c289, c290, c291], []⟩ wr := by
  conv => arg 2; whnf
  have hi : ¬ (s.pc : Int) < n := by omega
  have HEX := (show Hid _ from hex)
  clear hex
  go_wp2_with fail
  refine HEX.out _ _ ?_ (by simp [intOf]; omega)
  unfold WI
  refine ⟨_, _, _, _, _, _, _, _, _, _, _, _, _, _, _, _, _, _, _, _, _, _, _, _, _, _, _, _, _, _, _, _, _, _, _, _, _, _, _, _, _, _, _, _, _, _, _, _, _, _, _, _, _, _, _, _, _, _, _, _, _, _, _, _, _, _, _, _, _, _, _, _, _, _, _, _, _, _, _, _, _, _, _, _, _, _, _, _, _, _, _, _, _, _, _, _, _, _, _, _, _, _, _, _, _, _, _, _, _, _, _, _, _, _, _, _, _, _, _, _, _, _, _, _, _, _, _, _, _, _, _, _, _, _, _, _, _, _, _, _, _, _, _, _, _, _, _, _, _, _, _, _, _, _, _, _, _, _, _, _, _, _, _, _, _, _, _, _, _, _, _, _, _, _, _, _, _, _, _, _, _, _, _, _, _, _, _, _, _, _, _, _, _, _, _, _, _, _, _, _, _, _, _, _, _, _, _, _, _, _, _, _, _, _, _, _, _, _, _, _, _, _, _, _, _, _, _, _, _, _, _, _, _, _, _, _, _, _, _, _, _, _, _, _, _, _, _, _, _, _, _, _, _, _, _, _, _, _, _, _, _, _, _, _, _, _, _, _, _, _, ?_, rfl⟩
  exact ⟨s, ms, gr, cr, gc, cc, gm, cm, ak, mk, ck, H⟩
end Ops
end Go.Proofs.Ytajbmokidcdfnaa
/- A round of l7Walk: an op of kind 1. -/
set_option linter.unusedVariables false
set_option linter.unusedSimpArgs false
namespace Go.Proofs.Ytajbmokidcdfnaa
open Go.RowKit
namespace Ops
open Bas Flat
theorem ok_ranges1 {a b c : Int} (h : okOp ⟨1, a, b, c⟩ = true) : (spans 1).elim False (fun p => (p.1.1 ≤ a ∧ a ≤ p.1.2) ∧ (p.2.1.1 ≤ b ∧ b ≤ p.2.1.2) ∧ (p.2.2.1 ≤ c ∧ c ≤ p.2.2.2)) := by
  unfold okOp opOk at h
  simp only [spans, Int.reduceEq, if_true, if_false, reduceIte, or_self, or_false, false_or, Bool.and_eq_true, inn, decide_eq_true_eq] at h ⊢
  simp only [Option.elim]
  omega
set_option maxRecDepth 1000000 in
set_option maxHeartbeats 16000000 in
theorem case1 {xs : List O4} {n : Nat} {F : List Int → Th → List Int × Th} {r : List Int} {t : Th} {w : World} {pR pS pT : Nat} {v0 v1 : Value} {wr : World} {s : Cf} {ms : List M5} {gr cr gc cc gm cm : Nat} {ak : Option Addr} {mk ck : Nat} (Q0 : Exit → Act → World → Prop) (Bc : Nat) (ax : Option Addr) (cxp : Nat)
    (c1 c2 c4 c5 c6 c7 c8 c26 c27 c28 c29 c30 c31 c32 c33 c289 c290 c291 u14 u15 u16 u17 u18 u19 u20 u21 u22 u23 u24 u25 u34 u35 u36 u37 u38 u39 u40 u41 u42 u43 u44 u45 u46 u47 u48 u49 u50 u51 u52 u53 u54 u55 u56 u57 u58 u59 u60 u61 u62 u63 u64 u65 u66 u67 u68 u69 u70 u71 u72 u73 u74 u75 u76 u77 u78 u79 u80 u81 u82 u83 u84 u85 u86 u87 u88 u89 u90 u91 u92 u93 u94 u95 u96 u97 u98 u99 u100 u101 u102 u103 u104 u105 u106 u107 u108 u109 u110 u111 u112 u113 u114 u115 u116 u117 u118 u119 u120 u121 u122 u123 u124 u125 u126 u127 u128 u129 u130 u131 u132 u133 u134 u135 u136 u137 u138 u139 u140 u141 u142 u143 u144 u145 u146 u147 u148 u149 u150 u151 u152 u153 u154 u155 u156 u157 u158 u159 u160 u161 u162 u163 u164 u165 u166 u167 u168 u169 u170 u171 u172 u173 u174 u175 u176 u177 u178 u179 u180 u181 u182 u183 u184 u185 u186 u187 u188 u189 u190 u191 u192 u193 u194 u195 u196 u197 u198 u199 u200 u201 u202 u203 u204 u205 u206 u207 u208 u209 u210 u211 u212 u213 u214 u215 u216 u217 u218 u219 u220 u221 u222 u223 u224 u225 u226 u227 u228 u229 u230 u231 u232 u233 u234 u235 u236 u237 u238 u239 u240 u241 u242 u243 u244 u245 u246 u247 u248 u249 u250 u251 u252 u253 u254 u255 u256 u257 u258 u259 u260 u261 u262 u263 u264 u265 u266 u267 u268 u269 u270 u271 u272 u273 u274 u275 u276 u277 u278 u279 u280 u281 u282 u283 u284 u285 u286 u287 u288 : Value) (hv : Sees4 Bc wr (.slice ax n cxp) xs) (hn : xs.length = n) (hn24 : n ≤ 24) (hc : codeOk xs = true) (hlt : s.pc < xs.length) (hBc : Bc ≤ wr.heap.size)
    (H : RelW xs n F r t w pR pS pT v0 v1 (.slice (some ⟨gr, 0, none⟩) 4 cr) (.slice ak mk ck) (.int .i64 s.pc) wr s ms gr cr gc cc gm cm ak mk ck) (hk : xs[s.pc].k = 1) :
    Code.wp Try.prog (bodyOf Try.f95.body) (Exit.then (fun a' w'' => WI xs n F r t w pR pS pT v0 v1 (.slice ax n cxp) c1 c2 c4 c5 c6 c7 c8 c26 c27 c28 c29 c30 c31 c32 c33 c289 c290 c291 a' w'' ∧ WMu n a' w'' < WMu n ⟨#[.slice ax n cxp, c1, c2, .slice (some ⟨gr, 0, none⟩) 4 cr, c4, c5, c6, c7, c8, .pointer (some ⟨pS, 0, none⟩), .pointer (some ⟨pR, 0, none⟩), .pointer (some ⟨pT, 0, none⟩), .slice ak mk ck, .int .i64 s.pc, u14, u15, u16, u17, u18, u19, u20, u21, u22, u23, u24, u25, c26, c27, c28, c29, c30, c31, c32, c33, u34, u35, u36, u37, u38, u39, u40, u41, u42, u43, u44, u45, u46, u47, u48, u49, u50, u51, u52, u53, u54, u55, u56, u57, u58, u59, u60, u61, u62, u63, u64, u65, u66, u67, u68, u69, u70, u71, u72, u73, u74, u75, u76, u77, u78, u79, u80, u81, u82, u83, u84, u85, u86, u87, u88, u89, u90, u91, u92, u93, u94, u95, u96, u97, u98, u99, u100, u101, u102, u103, u104, u105, u106, u107, u108, u109, u110, u111, u112, u113, u114, u115, u116, u117, u118, u119, u120, u121, u122, u123, u124, u125, u126, u127, u128, u129, u130, u131, u132, u133, u134, u135, u136, u137, u138, u139, u140, u141, u142, u143, u144, u145, u146, u147, u148, u149, u150, u151, u152, u153, u154, u155, u156, u157, u158, u159, u160, u161, u162, u163, u164, u165, u166, u167, u168, u169, u170, u171, u172, u173, u174, u175, u176, u177, u178, u179, u180, u181, u182, u183, u184, u185, u186, u187, u188, u189, u190, u191, u192, u193, u194, u195, u196, u197, u198, u199, u200, u201, u202, u203, u204, u205, u206, u207, u208, u209, u210, u211, u212, u213, u214, u215, u216, u217, u218, u219, u220, u221, u222, u223, u224, u225, u226, u227, u228, u229, u230, u231, u232, u233, u234, u235, u236, u237, u238, u239, u240, u241, u242, u243, u244, u245, u246, u247, u248, u249, u250, u251, u252, u253, u254, u255, u256, u257, u258, u259, u260, u261, u262, u263, u264, u265, u266, u267, u268, u269, u270, u271, u272, u273, u274, u275, u276, u277, u278, u279, u280, u281, u282, u283, u284, u285, u286, u287, u288, c289, c290, c291], []⟩ wr) Q0) ⟨#[.slice ax n cxp, c1, c2, .slice (some ⟨gr, 0, none⟩) 4 cr, c4, c5, c6, c7, c8, .pointer (some ⟨pS, 0, none⟩), .pointer (some ⟨pR, 0, none⟩), .pointer (some ⟨pT, 0, none⟩), .slice ak mk ck, .int .i64 s.pc, u14, u15, u16, u17, u18, u19, u20, u21, u22, u23, u24, u25, c26, c27, c28, c29, c30, c31, c32, c33, u34, u35, u36, u37, u38, u39, u40, u41, u42, u43, u44, u45, u46, u47, u48, u49, u50, u51, u52, u53, u54, u55, u56, u57, u58, u59, u60, u61, u62, u63, u64, u65, u66, u67, u68, u69, u70, u71, u72, u73, u74, u75, u76, u77, u78, u79, u80, u81, u82, u83, u84, u85, u86, u87, u88, u89, u90, u91, u92, u93, u94, u95, u96, u97, u98, u99, u100, u101, u102, u103, u104, u105, u106, u107, u108, u109, u110, u111, u112, u113, u114, u115, u116, u117, u118, u119, u120, u121, u122, u123, u124, u125, u126, u127, u128, u129, u130, u131, u132, u133, u134, u135, u136, u137, u138, u139, u140, u141, u142, u143, u144, u145, u146, u147, u148, u149, u150, u151, u152, u153, u154, u155, u156, u157, u158, u159, u160, u161, u162, u163, u164, u165, u166, u167, u168, u169, u170, u171, u172, u173, u174, u175, u176, u177, u178, u179, u180, u181, u182, u183, u184, u185, u186, u187, u188, u189, u190, u191, u192, u193, u194, u195, u196, u197, u198, u199, u200, u201, u202, u203, u204, u205, u206, u207, u208, u209, u210, u211, u212, u213, u214, u215, u216, u217, u218, u219, u220, u221, u222, u223, u224, u225, u226, u227, u228, u229, u230, u231, u232, u233, u234, u235, u236, u237, u238, u239, u240, u241, u242, u243, u244, u245, u246, u247, u248, u249, u250, u251, u252, u253, u254, u255, u256, u257, u258, u259, u260, u261, u262, u263, u264, u265, u266, u267, u268, u269, u270, u271, u272, u273, u274, u275, u276, u277, u278, u279, u280, u281, u282, u283, u284, u285, u286, u287, u288, c289, c290, c291], []⟩ wr := by
  conv => arg 2; whnf
  have hok := code_at hc hlt
  obtain ⟨b, off, rfl, hbB, hcc⟩ := hv.open (by omega)
  obtain ⟨o0, o1, o2, o3⟩ := see4 (B := Bc) hcc s.pc hlt
  have HCC := (show Hid _ from hcc)
  have hi : (s.pc : Int) < n := by omega
  have hi0 : (0 : Int) ≤ s.pc := by omega
  have hmu : n - s.pc < n - s.pc + 1 := by omega
  have HX : Hid (∀ x, xs[s.pc] = x → okOp x = true) := fun x hx => by rw [← hx]; exact hok
  obtain ⟨x, hx⟩ : ∃ x, xs[s.pc] = x := ⟨_, rfl⟩
  rw [hx] at o0 o1 o2 o3 hk hok
  have HXE : Hid (xs[s.pc] = x) := hx
  clear hx hcc HX
  obtain ⟨kk, oa, ob, oc⟩ := x
  simp only at o0 o1 o2 o3 hk
  subst hk
  have hokr := ok_ranges1 hok
  have S1 := H.st.on (alloc_below wr (.cells #[.int .i64 1, .int .i64 oa, .int .i64 ob, .int .i64 oc] 140))
  have X1 := Blk.new wr #[.int .i64 1, .int .i64 oa, .int .i64 ob, .int .i64 oc] 140
  obtain ⟨hlr, -⟩ := regsOk_out H.ok.r
  obtain ⟨tc1, tc2, tc3⟩ := th_parts H.ok.t
  have hlc := (cellsOk_out tc1).1
  have hlm := (mapOk_out tc2).1
  have cC := calcSpecC 1 oa ob oc (.slice (some ⟨gr, 0, none⟩) 4 cr) s.r _ _ S1.r.sees (Nat.le_refl _) (by omega)
  have eV : opV 1 oa ob oc = .agg #[.int .i64 1, .int .i64 oa, .int .i64 ob, .int .i64 oc] := rfl
  rw [eV] at cC
  have x0 := X1.cell 0; have x1 := X1.cell 1; have x2 := X1.cell 2; have x3 := X1.cell 3
  go_wp2_with fail
  refine cC.mono ?_
  rintro e w2 ⟨v2, rfl, O2, b2⟩
  clear cC x0 x1 x2 x3 eV
  have S2 := S1.newR b2 O2
  have hl2 : (calcTo 1 oa ob oc s.r).length = 4 := by rw [calcTo_length]; exact hlr
  obtain ⟨av, cv, rfl⟩ := O2.form
  rw [hl2] at S2 O2 ⊢
  obtain ⟨gv, rfl⟩ : ∃ g, av = some ⟨g, 0, none⟩ := by
    have hO := O2
    unfold Ints.Owns at hO
    rcases hO.2 with ⟨e, -⟩ | ⟨g, cap, cur, e, -⟩
    · cases e
    · injection e with e _ _; exact ⟨g, e⟩
  have hp := step_plain (t0 := t) (F := F) hc H.ok hlt (by rw [HXE.out]; simp) (by rw [HXE.out]; simp) (by rw [HXE.out]; simp) (by rw [HXE.out]; simp)
  rw [HXE.out] at hp
  obtain ⟨hp1, hp2, hp3⟩ := hp
  have HL : Hid (Leads xs t F ⟨0, r, t, []⟩ _) := H.led.trans (Leads.step hlt hp1)
  have HO : Hid (CfOk xs _) := hp2
  go_wp2
  refine ⟨?_, by simp [WMu, intOf]; omega⟩
  unfold WI
  refine ⟨_, _, _, _, _, _, _, _, _, _, _, _, _, _, _, _, _, _, _, _, _, _, _, _, _, _, _, _, _, _, _, _, _, _, _, _, _, _, _, _, _, _, _, _, _, _, _, _, _, _, _, _, _, _, _, _, _, _, _, _, _, _, _, _, _, _, _, _, _, _, _, _, _, _, _, _, _, _, _, _, _, _, _, _, _, _, _, _, _, _, _, _, _, _, _, _, _, _, _, _, _, _, _, _, _, _, _, _, _, _, _, _, _, _, _, _, _, _, _, _, _, _, _, _, _, _, _, _, _, _, _, _, _, _, _, _, _, _, _, _, _, _, _, _, _, _, _, _, _, _, _, _, _, _, _, _, _, _, _, _, _, _, _, _, _, _, _, _, _, _, _, _, _, _, _, _, _, _, _, _, _, _, _, _, _, _, _, _, _, _, _, _, _, _, _, _, _, _, _, _, _, _, _, _, _, _, _, _, _, _, _, _, _, _, _, _, _, _, _, _, _, _, _, _, _, _, _, _, _, _, _, _, _, _, _, _, _, _, _, _, _, _, _, _, _, _, _, _, _, _, _, _, _, _, _, _, _, _, _, _, _, _, _, _, _, _, _, _, _, _, ?_, rfl⟩
  exact ⟨_, ms, gv, cv, gc, cc, gm, cm, ak, mk, ck, { rg := rfl, kg := rfl, p := by go_num, l := H.l, ok := HO.out, led := HL.out, st := S2.pc _ }⟩
end Ops
end Go.Proofs.Ytajbmokidcdfnaa
/- A round of l7Walk: an op of kind 2. -/
set_option linter.unusedVariables false
set_option linter.unusedSimpArgs false
namespace Go.Proofs.Ytajbmokidcdfnaa
open Go.RowKit
namespace Ops
open Bas Flat
theorem ok_ranges2 {a b c : Int} (h : okOp ⟨2, a, b, c⟩ = true) : (spans 2).elim False (fun p => (p.1.1 ≤ a ∧ a ≤ p.1.2) ∧ (p.2.1.1 ≤ b ∧ b ≤ p.2.1.2) ∧ (p.2.2.1 ≤ c ∧ c ≤ p.2.2.2)) := by
  unfold okOp opOk at h
  simp only [spans, Int.reduceEq, if_true, if_false, reduceIte, or_self, or_false, false_or, Bool.and_eq_true, inn, decide_eq_true_eq] at h ⊢
  simp only [Option.elim]
  omega
set_option maxRecDepth 1000000 in
set_option maxHeartbeats 16000000 in
theorem case2 {xs : List O4} {n : Nat} {F : List Int → Th → List Int × Th} {r : List Int} {t : Th} {w : World} {pR pS pT : Nat} {v0 v1 : Value} {wr : World} {s : Cf} {ms : List M5} {gr cr gc cc gm cm : Nat} {ak : Option Addr} {mk ck : Nat} (Q0 : Exit → Act → World → Prop) (Bc : Nat) (ax : Option Addr) (cxp : Nat)
    (c1 c2 c4 c5 c6 c7 c8 c26 c27 c28 c29 c30 c31 c32 c33 c289 c290 c291 u14 u15 u16 u17 u18 u19 u20 u21 u22 u23 u24 u25 u34 u35 u36 u37 u38 u39 u40 u41 u42 u43 u44 u45 u46 u47 u48 u49 u50 u51 u52 u53 u54 u55 u56 u57 u58 u59 u60 u61 u62 u63 u64 u65 u66 u67 u68 u69 u70 u71 u72 u73 u74 u75 u76 u77 u78 u79 u80 u81 u82 u83 u84 u85 u86 u87 u88 u89 u90 u91 u92 u93 u94 u95 u96 u97 u98 u99 u100 u101 u102 u103 u104 u105 u106 u107 u108 u109 u110 u111 u112 u113 u114 u115 u116 u117 u118 u119 u120 u121 u122 u123 u124 u125 u126 u127 u128 u129 u130 u131 u132 u133 u134 u135 u136 u137 u138 u139 u140 u141 u142 u143 u144 u145 u146 u147 u148 u149 u150 u151 u152 u153 u154 u155 u156 u157 u158 u159 u160 u161 u162 u163 u164 u165 u166 u167 u168 u169 u170 u171 u172 u173 u174 u175 u176 u177 u178 u179 u180 u181 u182 u183 u184 u185 u186 u187 u188 u189 u190 u191 u192 u193 u194 u195 u196 u197 u198 u199 u200 u201 u202 u203 u204 u205 u206 u207 u208 u209 u210 u211 u212 u213 u214 u215 u216 u217 u218 u219 u220 u221 u222 u223 u224 u225 u226 u227 u228 u229 u230 u231 u232 u233 u234 u235 u236 u237 u238 u239 u240 u241 u242 u243 u244 u245 u246 u247 u248 u249 u250 u251 u252 u253 u254 u255 u256 u257 u258 u259 u260 u261 u262 u263 u264 u265 u266 u267 u268 u269 u270 u271 u272 u273 u274 u275 u276 u277 u278 u279 u280 u281 u282 u283 u284 u285 u286 u287 u288 : Value) (hv : Sees4 Bc wr (.slice ax n cxp) xs) (hn : xs.length = n) (hn24 : n ≤ 24) (hc : codeOk xs = true) (hlt : s.pc < xs.length) (hBc : Bc ≤ wr.heap.size)
    (H : RelW xs n F r t w pR pS pT v0 v1 (.slice (some ⟨gr, 0, none⟩) 4 cr) (.slice ak mk ck) (.int .i64 s.pc) wr s ms gr cr gc cc gm cm ak mk ck) (hk : xs[s.pc].k = 2) :
    Code.wp Try.prog (bodyOf Try.f95.body) (Exit.then (fun a' w'' => WI xs n F r t w pR pS pT v0 v1 (.slice ax n cxp) c1 c2 c4 c5 c6 c7 c8 c26 c27 c28 c29 c30 c31 c32 c33 c289 c290 c291 a' w'' ∧ WMu n a' w'' < WMu n ⟨#[.slice ax n cxp, c1, c2, .slice (some ⟨gr, 0, none⟩) 4 cr, c4, c5, c6, c7, c8, .pointer (some ⟨pS, 0, none⟩), .pointer (some ⟨pR, 0, none⟩), .pointer (some ⟨pT, 0, none⟩), .slice ak mk ck, .int .i64 s.pc, u14, u15, u16, u17, u18, u19, u20, u21, u22, u23, u24, u25, c26, c27, c28, c29, c30, c31, c32, c33, u34, u35, u36, u37, u38, u39, u40, u41, u42, u43, u44, u45, u46, u47, u48, u49, u50, u51, u52, u53, u54, u55, u56, u57, u58, u59, u60, u61, u62, u63, u64, u65, u66, u67, u68, u69, u70, u71, u72, u73, u74, u75, u76, u77, u78, u79, u80, u81, u82, u83, u84, u85, u86, u87, u88, u89, u90, u91, u92, u93, u94, u95, u96, u97, u98, u99, u100, u101, u102, u103, u104, u105, u106, u107, u108, u109, u110, u111, u112, u113, u114, u115, u116, u117, u118, u119, u120, u121, u122, u123, u124, u125, u126, u127, u128, u129, u130, u131, u132, u133, u134, u135, u136, u137, u138, u139, u140, u141, u142, u143, u144, u145, u146, u147, u148, u149, u150, u151, u152, u153, u154, u155, u156, u157, u158, u159, u160, u161, u162, u163, u164, u165, u166, u167, u168, u169, u170, u171, u172, u173, u174, u175, u176, u177, u178, u179, u180, u181, u182, u183, u184, u185, u186, u187, u188, u189, u190, u191, u192, u193, u194, u195, u196, u197, u198, u199, u200, u201, u202, u203, u204, u205, u206, u207, u208, u209, u210, u211, u212, u213, u214, u215, u216, u217, u218, u219, u220, u221, u222, u223, u224, u225, u226, u227, u228, u229, u230, u231, u232, u233, u234, u235, u236, u237, u238, u239, u240, u241, u242, u243, u244, u245, u246, u247, u248, u249, u250, u251, u252, u253, u254, u255, u256, u257, u258, u259, u260, u261, u262, u263, u264, u265, u266, u267, u268, u269, u270, u271, u272, u273, u274, u275, u276, u277, u278, u279, u280, u281, u282, u283, u284, u285, u286, u287, u288, c289, c290, c291], []⟩ wr) Q0) ⟨#[.slice ax n cxp, c1, c2, .slice (some ⟨gr, 0, none⟩) 4 cr, c4, c5, c6, c7, c8, .pointer (some ⟨pS, 0, none⟩), .pointer (some ⟨pR, 0, none⟩), .pointer (some ⟨pT, 0, none⟩), .slice ak mk ck, .int .i64 s.pc, u14, u15, u16, u17, u18, u19, u20, u21, u22, u23, u24, u25, c26, c27, c28, c29, c30, c31, c32, c33, u34, u35, u36, u37, u38, u39, u40, u41, u42, u43, u44, u45, u46, u47, u48, u49, u50, u51, u52, u53, u54, u55, u56, u57, u58, u59, u60, u61, u62, u63, u64, u65, u66, u67, u68, u69, u70, u71, u72, u73, u74, u75, u76, u77, u78, u79, u80, u81, u82, u83, u84, u85, u86, u87, u88, u89, u90, u91, u92, u93, u94, u95, u96, u97, u98, u99, u100, u101, u102, u103, u104, u105, u106, u107, u108, u109, u110, u111, u112, u113, u114, u115, u116, u117, u118, u119, u120, u121, u122, u123, u124, u125, u126, u127, u128, u129, u130, u131, u132, u133, u134, u135, u136, u137, u138, u139, u140, u141, u142, u143, u144, u145, u146, u147, u148, u149, u150, u151, u152, u153, u154, u155, u156, u157, u158, u159, u160, u161, u162, u163, u164, u165, u166, u167, u168, u169, u170, u171, u172, u173, u174, u175, u176, u177, u178, u179, u180, u181, u182, u183, u184, u185, u186, u187, u188, u189, u190, u191, u192, u193, u194, u195, u196, u197, u198, u199, u200, u201, u202, u203, u204, u205, u206, u207, u208, u209, u210, u211, u212, u213, u214, u215, u216, u217, u218, u219, u220, u221, u222, u223, u224, u225, u226, u227, u228, u229, u230, u231, u232, u233, u234, u235, u236, u237, u238, u239, u240, u241, u242, u243, u244, u245, u246, u247, u248, u249, u250, u251, u252, u253, u254, u255, u256, u257, u258, u259, u260, u261, u262, u263, u264, u265, u266, u267, u268, u269, u270, u271, u272, u273, u274, u275, u276, u277, u278, u279, u280, u281, u282, u283, u284, u285, u286, u287, u288, c289, c290, c291], []⟩ wr := by
  conv => arg 2; whnf
  have hok := code_at hc hlt
  obtain ⟨b, off, rfl, hbB, hcc⟩ := hv.open (by omega)
  obtain ⟨o0, o1, o2, o3⟩ := see4 (B := Bc) hcc s.pc hlt
  have HCC := (show Hid _ from hcc)
  have hi : (s.pc : Int) < n := by omega
  have hi0 : (0 : Int) ≤ s.pc := by omega
  have hmu : n - s.pc < n - s.pc + 1 := by omega
  have HX : Hid (∀ x, xs[s.pc] = x → okOp x = true) := fun x hx => by rw [← hx]; exact hok
  obtain ⟨x, hx⟩ : ∃ x, xs[s.pc] = x := ⟨_, rfl⟩
  rw [hx] at o0 o1 o2 o3 hk hok
  have HXE : Hid (xs[s.pc] = x) := hx
  clear hx hcc HX
  obtain ⟨kk, oa, ob, oc⟩ := x
  simp only at o0 o1 o2 o3 hk
  subst hk
  have hokr := ok_ranges2 hok
  have S1 := H.st.on (alloc_below wr (.cells #[.int .i64 2, .int .i64 oa, .int .i64 ob, .int .i64 oc] 140))
  have X1 := Blk.new wr #[.int .i64 2, .int .i64 oa, .int .i64 ob, .int .i64 oc] 140
  obtain ⟨hlr, -⟩ := regsOk_out H.ok.r
  obtain ⟨tc1, tc2, tc3⟩ := th_parts H.ok.t
  have hlc := (cellsOk_out tc1).1
  have hlm := (mapOk_out tc2).1
  have cC := calcSpecC 2 oa ob oc (.slice (some ⟨gr, 0, none⟩) 4 cr) s.r _ _ S1.r.sees (Nat.le_refl _) (by omega)
  have eV : opV 2 oa ob oc = .agg #[.int .i64 2, .int .i64 oa, .int .i64 ob, .int .i64 oc] := rfl
  rw [eV] at cC
  have x0 := X1.cell 0; have x1 := X1.cell 1; have x2 := X1.cell 2; have x3 := X1.cell 3
  go_wp2_with fail
  refine cC.mono ?_
  rintro e w2 ⟨v2, rfl, O2, b2⟩
  clear cC x0 x1 x2 x3 eV
  have S2 := S1.newR b2 O2
  have hl2 : (calcTo 2 oa ob oc s.r).length = 4 := by rw [calcTo_length]; exact hlr
  obtain ⟨av, cv, rfl⟩ := O2.form
  rw [hl2] at S2 O2 ⊢
  obtain ⟨gv, rfl⟩ : ∃ g, av = some ⟨g, 0, none⟩ := by
    have hO := O2
    unfold Ints.Owns at hO
    rcases hO.2 with ⟨e, -⟩ | ⟨g, cap, cur, e, -⟩
    · cases e
    · injection e with e _ _; exact ⟨g, e⟩
  have hp := step_plain (t0 := t) (F := F) hc H.ok hlt (by rw [HXE.out]; simp) (by rw [HXE.out]; simp) (by rw [HXE.out]; simp) (by rw [HXE.out]; simp)
  rw [HXE.out] at hp
  obtain ⟨hp1, hp2, hp3⟩ := hp
  have HL : Hid (Leads xs t F ⟨0, r, t, []⟩ _) := H.led.trans (Leads.step hlt hp1)
  have HO : Hid (CfOk xs _) := hp2
  go_wp2
  refine ⟨?_, by simp [WMu, intOf]; omega⟩
  unfold WI
  refine ⟨_, _, _, _, _, _, _, _, _, _, _, _, _, _, _, _, _, _, _, _, _, _, _, _, _, _, _, _, _, _, _, _, _, _, _, _, _, _, _, _, _, _, _, _, _, _, _, _, _, _, _, _, _, _, _, _, _, _, _, _, _, _, _, _, _, _, _, _, _, _, _, _, _, _, _, _, _, _, _, _, _, _, _, _, _, _, _, _, _, _, _, _, _, _, _, _, _, _, _, _, _, _, _, _, _, _, _, _, _, _, _, _, _, _, _, _, _, _, _, _, _, _, _, _, _, _, _, _, _, _, _, _, _, _, _, _, _, _, _, _, _, _, _, _, _, _, _, _, _, _, _, _, _, _, _, _, _, _, _, _, _, _, _, _, _, _, _, _, _, _, _, _, _, _, _, _, _, _, _, _, _, _, _, _, _, _, _, _, _, _, _, _, _, _, _, _, _, _, _, _, _, _, _, _, _, _, _, _, _, _, _, _, _, _, _, _, _, _, _, _, _, _, _, _, _, _, _, _, _, _, _, _, _, _, _, _, _, _, _, _, _, _, _, _, _, _, _, _, _, _, _, _, _, _, _, _, _, _, _, _, _, _, _, _, _, _, _, _, _, _, ?_, rfl⟩
  exact ⟨_, ms, gv, cv, gc, cc, gm, cm, ak, mk, ck, { rg := rfl, kg := rfl, p := by go_num, l := H.l, ok := HO.out, led := HL.out, st := S2.pc _ }⟩
end Ops
end Go.Proofs.Ytajbmokidcdfnaa
/- A round of l7Walk: an op of kind 3. -/
set_option linter.unusedVariables false
set_option linter.unusedSimpArgs false
namespace Go.Proofs.Ytajbmokidcdfnaa
open Go.RowKit
namespace Ops
open Bas Flat
theorem ok_ranges3 {a b c : Int} (h : okOp ⟨3, a, b, c⟩ = true) : (spans 3).elim False (fun p => (p.1.1 ≤ a ∧ a ≤ p.1.2) ∧ (p.2.1.1 ≤ b ∧ b ≤ p.2.1.2) ∧ (p.2.2.1 ≤ c ∧ c ≤ p.2.2.2)) := by
  unfold okOp opOk at h
  simp only [spans, Int.reduceEq, if_true, if_false, reduceIte, or_self, or_false, false_or, Bool.and_eq_true, inn, decide_eq_true_eq] at h ⊢
  simp only [Option.elim]
  omega
set_option maxRecDepth 1000000 in
set_option maxHeartbeats 16000000 in
theorem case3 {xs : List O4} {n : Nat} {F : List Int → Th → List Int × Th} {r : List Int} {t : Th} {w : World} {pR pS pT : Nat} {v0 v1 : Value} {wr : World} {s : Cf} {ms : List M5} {gr cr gc cc gm cm : Nat} {ak : Option Addr} {mk ck : Nat} (Q0 : Exit → Act → World → Prop) (Bc : Nat) (ax : Option Addr) (cxp : Nat)
    (c1 c2 c4 c5 c6 c7 c8 c26 c27 c28 c29 c30 c31 c32 c33 c289 c290 c291 u14 u15 u16 u17 u18 u19 u20 u21 u22 u23 u24 u25 u34 u35 u36 u37 u38 u39 u40 u41 u42 u43 u44 u45 u46 u47 u48 u49 u50 u51 u52 u53 u54 u55 u56 u57 u58 u59 u60 u61 u62 u63 u64 u65 u66 u67 u68 u69 u70 u71 u72 u73 u74 u75 u76 u77 u78 u79 u80 u81 u82 u83 u84 u85 u86 u87 u88 u89 u90 u91 u92 u93 u94 u95 u96 u97 u98 u99 u100 u101 u102 u103 u104 u105 u106 u107 u108 u109 u110 u111 u112 u113 u114 u115 u116 u117 u118 u119 u120 u121 u122 u123 u124 u125 u126 u127 u128 u129 u130 u131 u132 u133 u134 u135 u136 u137 u138 u139 u140 u141 u142 u143 u144 u145 u146 u147 u148 u149 u150 u151 u152 u153 u154 u155 u156 u157 u158 u159 u160 u161 u162 u163 u164 u165 u166 u167 u168 u169 u170 u171 u172 u173 u174 u175 u176 u177 u178 u179 u180 u181 u182 u183 u184 u185 u186 u187 u188 u189 u190 u191 u192 u193 u194 u195 u196 u197 u198 u199 u200 u201 u202 u203 u204 u205 u206 u207 u208 u209 u210 u211 u212 u213 u214 u215 u216 u217 u218 u219 u220 u221 u222 u223 u224 u225 u226 u227 u228 u229 u230 u231 u232 u233 u234 u235 u236 u237 u238 u239 u240 u241 u242 u243 u244 u245 u246 u247 u248 u249 u250 u251 u252 u253 u254 u255 u256 u257 u258 u259 u260 u261 u262 u263 u264 u265 u266 u267 u268 u269 u270 u271 u272 u273 u274 u275 u276 u277 u278 u279 u280 u281 u282 u283 u284 u285 u286 u287 u288 : Value) (hv : Sees4 Bc wr (.slice ax n cxp) xs) (hn : xs.length = n) (hn24 : n ≤ 24) (hc : codeOk xs = true) (hlt : s.pc < xs.length) (hBc : Bc ≤ wr.heap.size)
    (H : RelW xs n F r t w pR pS pT v0 v1 (.slice (some ⟨gr, 0, none⟩) 4 cr) (.slice ak mk ck) (.int .i64 s.pc) wr s ms gr cr gc cc gm cm ak mk ck) (hk : xs[s.pc].k = 3) :
    Code.wp Try.prog (bodyOf Try.f95.body) (Exit.then (fun a' w'' => WI xs n F r t w pR pS pT v0 v1 (.slice ax n cxp) c1 c2 c4 c5 c6 c7 c8 c26 c27 c28 c29 c30 c31 c32 c33 c289 c290 c291 a' w'' ∧ WMu n a' w'' < WMu n ⟨#[.slice ax n cxp, c1, c2, .slice (some ⟨gr, 0, none⟩) 4 cr, c4, c5, c6, c7, c8, .pointer (some ⟨pS, 0, none⟩), .pointer (some ⟨pR, 0, none⟩), .pointer (some ⟨pT, 0, none⟩), .slice ak mk ck, .int .i64 s.pc, u14, u15, u16, u17, u18, u19, u20, u21, u22, u23, u24, u25, c26, c27, c28, c29, c30, c31, c32, c33, u34, u35, u36, u37, u38, u39, u40, u41, u42, u43, u44, u45, u46, u47, u48, u49, u50, u51, u52, u53, u54, u55, u56, u57, u58, u59, u60, u61, u62, u63, u64, u65, u66, u67, u68, u69, u70, u71, u72, u73, u74, u75, u76, u77, u78, u79, u80, u81, u82, u83, u84, u85, u86, u87, u88, u89, u90, u91, u92, u93, u94, u95, u96, u97, u98, u99, u100, u101, u102, u103, u104, u105, u106, u107, u108, u109, u110, u111, u112, u113, u114, u115, u116, u117, u118, u119, u120, u121, u122, u123, u124, u125, u126, u127, u128, u129, u130, u131, u132, u133, u134, u135, u136, u137, u138, u139, u140, u141, u142, u143, u144, u145, u146, u147, u148, u149, u150, u151, u152, u153, u154, u155, u156, u157, u158, u159, u160, u161, u162, u163, u164, u165, u166, u167, u168, u169, u170, u171, u172, u173, u174, u175, u176, u177, u178, u179, u180, u181, u182, u183, u184, u185, u186, u187, u188, u189, u190, u191, u192, u193, u194, u195, u196, u197, u198, u199, u200, u201, u202, u203, u204, u205, u206, u207, u208, u209, u210, u211, u212, u213, u214, u215, u216, u217, u218, u219, u220, u221, u222, u223, u224, u225, u226, u227, u228, u229, u230, u231, u232, u233, u234, u235, u236, u237, u238, u239, u240, u241, u242, u243, u244, u245, u246, u247, u248, u249, u250, u251, u252, u253, u254, u255, u256, u257, u258, u259, u260, u261, u262, u263, u264, u265, u266, u267, u268, u269, u270, u271, u272, u273, u274, u275, u276, u277, u278, u279, u280, u281, u282, u283, u284, u285, u286, u287, u288, c289, c290, c291], []⟩ wr) Q0) ⟨#[.slice ax n cxp, c1, c2, .slice (some ⟨gr, 0, none⟩) 4 cr, c4, c5, c6, c7, c8, .pointer (some ⟨pS, 0, none⟩), .pointer (some ⟨pR, 0, none⟩), .pointer (some ⟨pT, 0, none⟩), .slice ak mk ck, .int .i64 s.pc, u14, u15, u16, u17, u18, u19, u20, u21, u22, u23, u24, u25, c26, c27, c28, c29, c30, c31, c32, c33, u34, u35, u36, u37, u38, u39, u40, u41, u42, u43, u44, u45, u46, u47, u48, u49, u50, u51, u52, u53, u54, u55, u56, u57, u58, u59, u60, u61, u62, u63, u64, u65, u66, u67, u68, u69, u70, u71, u72, u73, u74, u75, u76, u77, u78, u79, u80, u81, u82, u83, u84, u85, u86, u87, u88, u89, u90, u91, u92, u93, u94, u95, u96, u97, u98, u99, u100, u101, u102, u103, u104, u105, u106, u107, u108, u109, u110, u111, u112, u113, u114, u115, u116, u117, u118, u119, u120, u121, u122, u123, u124, u125, u126, u127, u128, u129, u130, u131, u132, u133, u134, u135, u136, u137, u138, u139, u140, u141, u142, u143, u144, u145, u146, u147, u148, u149, u150, u151, u152, u153, u154, u155, u156, u157, u158, u159, u160, u161, u162, u163, u164, u165, u166, u167, u168, u169, u170, u171, u172, u173, u174, u175, u176, u177, u178, u179, u180, u181, u182, u183, u184, u185, u186, u187, u188, u189, u190, u191, u192, u193, u194, u195, u196, u197, u198, u199, u200, u201, u202, u203, u204, u205, u206, u207, u208, u209, u210, u211, u212, u213, u214, u215, u216, u217, u218, u219, u220, u221, u222, u223, u224, u225, u226, u227, u228, u229, u230, u231, u232, u233, u234, u235, u236, u237, u238, u239, u240, u241, u242, u243, u244, u245, u246, u247, u248, u249, u250, u251, u252, u253, u254, u255, u256, u257, u258, u259, u260, u261, u262, u263, u264, u265, u266, u267, u268, u269, u270, u271, u272, u273, u274, u275, u276, u277, u278, u279, u280, u281, u282, u283, u284, u285, u286, u287, u288, c289, c290, c291], []⟩ wr := by
  conv => arg 2; whnf
  have hok := code_at hc hlt
  obtain ⟨b, off, rfl, hbB, hcc⟩ := hv.open (by omega)
  obtain ⟨o0, o1, o2, o3⟩ := see4 (B := Bc) hcc s.pc hlt
  have HCC := (show Hid _ from hcc)
  have hi : (s.pc : Int) < n := by omega
  have hi0 : (0 : Int) ≤ s.pc := by omega
  have hmu : n - s.pc < n - s.pc + 1 := by omega
  have HX : Hid (∀ x, xs[s.pc] = x → okOp x = true) := fun x hx => by rw [← hx]; exact hok
  obtain ⟨x, hx⟩ : ∃ x, xs[s.pc] = x := ⟨_, rfl⟩
  rw [hx] at o0 o1 o2 o3 hk hok
  have HXE : Hid (xs[s.pc] = x) := hx
  clear hx hcc HX
  obtain ⟨kk, oa, ob, oc⟩ := x
  simp only at o0 o1 o2 o3 hk
  subst hk
  have hokr := ok_ranges3 hok
  have S1 := H.st.on (alloc_below wr (.cells #[.int .i64 3, .int .i64 oa, .int .i64 ob, .int .i64 oc] 140))
  have X1 := Blk.new wr #[.int .i64 3, .int .i64 oa, .int .i64 ob, .int .i64 oc] 140
  obtain ⟨hlr, -⟩ := regsOk_out H.ok.r
  obtain ⟨tc1, tc2, tc3⟩ := th_parts H.ok.t
  have hlc := (cellsOk_out tc1).1
  have hlm := (mapOk_out tc2).1
  have cC := calcSpecC 3 oa ob oc (.slice (some ⟨gr, 0, none⟩) 4 cr) s.r _ _ S1.r.sees (Nat.le_refl _) (by omega)
  have eV : opV 3 oa ob oc = .agg #[.int .i64 3, .int .i64 oa, .int .i64 ob, .int .i64 oc] := rfl
  rw [eV] at cC
  have x0 := X1.cell 0; have x1 := X1.cell 1; have x2 := X1.cell 2; have x3 := X1.cell 3
  go_wp2_with fail
  refine cC.mono ?_
  rintro e w2 ⟨v2, rfl, O2, b2⟩
  clear cC x0 x1 x2 x3 eV
  have S2 := S1.newR b2 O2
  have hl2 : (calcTo 3 oa ob oc s.r).length = 4 := by rw [calcTo_length]; exact hlr
  obtain ⟨av, cv, rfl⟩ := O2.form
  rw [hl2] at S2 O2 ⊢
  obtain ⟨gv, rfl⟩ : ∃ g, av = some ⟨g, 0, none⟩ := by
    have hO := O2
    unfold Ints.Owns at hO
    rcases hO.2 with ⟨e, -⟩ | ⟨g, cap, cur, e, -⟩
    · cases e
    · injection e with e _ _; exact ⟨g, e⟩
  have hp := step_plain (t0 := t) (F := F) hc H.ok hlt (by rw [HXE.out]; simp) (by rw [HXE.out]; simp) (by rw [HXE.out]; simp) (by rw [HXE.out]; simp)
  rw [HXE.out] at hp
  obtain ⟨hp1, hp2, hp3⟩ := hp
  have HL : Hid (Leads xs t F ⟨0, r, t, []⟩ _) := H.led.trans (Leads.step hlt hp1)
  have HO : Hid (CfOk xs _) := hp2
  go_wp2
  refine ⟨?_, by simp [WMu, intOf]; omega⟩
  unfold WI
  refine ⟨_, _, _, _, _, _, _, _, _, _, _, _, _, _, _, _, _, _, _, _, _, _, _, _, _, _, _, _, _, _, _, _, _, _, _, _, _, _, _, _, _, _, _, _, _, _, _, _, _, _, _, _, _, _, _, _, _, _, _, _, _, _, _, _, _, _, _, _, _, _, _, _, _, _, _, _, _, _, _, _, _, _, _, _, _, _, _, _, _, _, _, _, _, _, _, _, _, _, _, _, _, _, _, _, _, _, _, _, _, _, _, _, _, _, _, _, _, _, _, _, _, _, _, _, _, _, _, _, _, _, _, _, _, _, _, _, _, _, _, _, _, _, _, _, _, _, _, _, _, _, _, _, _, _, _, _, _, _, _, _, _, _, _, _, _, _, _, _, _, _, _, _, _, _, _, _, _, _, _, _, _, _, _, _, _, _, _, _, _, _, _, _, _, _, _, _, _, _, _, _, _, _, _, _, _, _, _, _, _, _, _, _, _, _, _, _, _, _, _, _, _, _, _, _, _, _, _, _, _, _, _, _, _, _, _, _, _, _, _, _, _, _, _, _, _, _, _, _, _, _, _, _, _, _, _, _, _, _, _, _, _, _, _, _, _, _, _, _, _, _, ?_, rfl⟩
  exact ⟨_, ms, gv, cv, gc, cc, gm, cm, ak, mk, ck, { rg := rfl, kg := rfl, p := by go_num, l := H.l, ok := HO.out, led := HL.out, st := S2.pc _ }⟩
end Ops
end Go.Proofs.Ytajbmokidcdfnaa
/- A round of l7Walk: an op of kind 4. -/
set_option linter.unusedVariables false
set_option linter.unusedSimpArgs false
namespace Go.Proofs.Ytajbmokidcdfnaa
open Go.RowKit
namespace Ops
open Bas Flat
theorem ok_ranges4 {a b c : Int} (h : okOp ⟨4, a, b, c⟩ = true) : (spans 4).elim False (fun p => (p.1.1 ≤ a ∧ a ≤ p.1.2) ∧ (p.2.1.1 ≤ b ∧ b ≤ p.2.1.2) ∧ (p.2.2.1 ≤ c ∧ c ≤ p.2.2.2)) := by
  unfold okOp opOk at h
  simp only [spans, Int.reduceEq, if_true, if_false, reduceIte, or_self, or_false, false_or, Bool.and_eq_true, inn, decide_eq_true_eq] at h ⊢
  simp only [Option.elim]
  omega
set_option maxRecDepth 1000000 in
set_option maxHeartbeats 16000000 in
theorem case4 {xs : List O4} {n : Nat} {F : List Int → Th → List Int × Th} {r : List Int} {t : Th} {w : World} {pR pS pT : Nat} {v0 v1 : Value} {wr : World} {s : Cf} {ms : List M5} {gr cr gc cc gm cm : Nat} {ak : Option Addr} {mk ck : Nat} (Q0 : Exit → Act → World → Prop) (Bc : Nat) (ax : Option Addr) (cxp : Nat)
    (c1 c2 c4 c5 c6 c7 c8 c26 c27 c28 c29 c30 c31 c32 c33 c289 c290 c291 u14 u15 u16 u17 u18 u19 u20 u21 u22 u23 u24 u25 u34 u35 u36 u37 u38 u39 u40 u41 u42 u43 u44 u45 u46 u47 u48 u49 u50 u51 u52 u53 u54 u55 u56 u57 u58 u59 u60 u61 u62 u63 u64 u65 u66 u67 u68 u69 u70 u71 u72 u73 u74 u75 u76 u77 u78 u79 u80 u81 u82 u83 u84 u85 u86 u87 u88 u89 u90 u91 u92 u93 u94 u95 u96 u97 u98 u99 u100 u101 u102 u103 u104 u105 u106 u107 u108 u109 u110 u111 u112 u113 u114 u115 u116 u117 u118 u119 u120 u121 u122 u123 u124 u125 u126 u127 u128 u129 u130 u131 u132 u133 u134 u135 u136 u137 u138 u139 u140 u141 u142 u143 u144 u145 u146 u147 u148 u149 u150 u151 u152 u153 u154 u155 u156 u157 u158 u159 u160 u161 u162 u163 u164 u165 u166 u167 u168 u169 u170 u171 u172 u173 u174 u175 u176 u177 u178 u179 u180 u181 u182 u183 u184 u185 u186 u187 u188 u189 u190 u191 u192 u193 u194 u195 u196 u197 u198 u199 u200 u201 u202 u203 u204 u205 u206 u207 u208 u209 u210 u211 u212 u213 u214 u215 u216 u217 u218 u219 u220 u221 u222 u223 u224 u225 u226 u227 u228 u229 u230 u231 u232 u233 u234 u235 u236 u237 u238 u239 u240 u241 u242 u243 u244 u245 u246 u247 u248 u249 u250 u251 u252 u253 u254 u255 u256 u257 u258 u259 u260 u261 u262 u263 u264 u265 u266 u267 u268 u269 u270 u271 u272 u273 u274 u275 u276 u277 u278 u279 u280 u281 u282 u283 u284 u285 u286 u287 u288 : Value) (hv : Sees4 Bc wr (.slice ax n cxp) xs) (hn : xs.length = n) (hn24 : n ≤ 24) (hc : codeOk xs = true) (hlt : s.pc < xs.length) (hBc : Bc ≤ wr.heap.size)
    (H : RelW xs n F r t w pR pS pT v0 v1 (.slice (some ⟨gr, 0, none⟩) 4 cr) (.slice ak mk ck) (.int .i64 s.pc) wr s ms gr cr gc cc gm cm ak mk ck) (hk : xs[s.pc].k = 4) :
    Code.wp Try.prog (bodyOf Try.f95.body) (Exit.then (fun a' w'' => WI xs n F r t w pR pS pT v0 v1 (.slice ax n cxp) c1 c2 c4 c5 c6 c7 c8 c26 c27 c28 c29 c30 c31 c32 c33 c289 c290 c291 a' w'' ∧ WMu n a' w'' < WMu n ⟨#[.slice ax n cxp, c1, c2, .slice (some ⟨gr, 0, none⟩) 4 cr, c4, c5, c6, c7, c8, .pointer (some ⟨pS, 0, none⟩), .pointer (some ⟨pR, 0, none⟩), .pointer (some ⟨pT, 0, none⟩), .slice ak mk ck, .int .i64 s.pc, u14, u15, u16, u17, u18, u19, u20, u21, u22, u23, u24, u25, c26, c27, c28, c29, c30, c31, c32, c33, u34, u35, u36, u37, u38, u39, u40, u41, u42, u43, u44, u45, u46, u47, u48, u49, u50, u51, u52, u53, u54, u55, u56, u57, u58, u59, u60, u61, u62, u63, u64, u65, u66, u67, u68, u69, u70, u71, u72, u73, u74, u75, u76, u77, u78, u79, u80, u81, u82, u83, u84, u85, u86, u87, u88, u89, u90, u91, u92, u93, u94, u95, u96, u97, u98, u99, u100, u101, u102, u103, u104, u105, u106, u107, u108, u109, u110, u111, u112, u113, u114, u115, u116, u117, u118, u119, u120, u121, u122, u123, u124, u125, u126, u127, u128, u129, u130, u131, u132, u133, u134, u135, u136, u137, u138, u139, u140, u141, u142, u143, u144, u145, u146, u147, u148, u149, u150, u151, u152, u153, u154, u155, u156, u157, u158, u159, u160, u161, u162, u163, u164, u165, u166, u167, u168, u169, u170, u171, u172, u173, u174, u175, u176, u177, u178, u179, u180, u181, u182, u183, u184, u185, u186, u187, u188, u189, u190, u191, u192, u193, u194, u195, u196, u197, u198, u199, u200, u201, u202, u203, u204, u205, u206, u207, u208, u209, u210, u211, u212, u213, u214, u215, u216, u217, u218, u219, u220, u221, u222, u223, u224, u225, u226, u227, u228, u229, u230, u231, u232, u233, u234, u235, u236, u237, u238, u239, u240, u241, u242, u243, u244, u245, u246, u247, u248, u249, u250, u251, u252, u253, u254, u255, u256, u257, u258, u259, u260, u261, u262, u263, u264, u265, u266, u267, u268, u269, u270, u271, u272, u273, u274, u275, u276, u277, u278, u279, u280, u281, u282, u283, u284, u285, u286, u287, u288, c289, c290, c291], []⟩ wr) Q0) ⟨#[.slice ax n cxp, c1, c2, .slice (some ⟨gr, 0, none⟩) 4 cr, c4, c5, c6, c7, c8, .pointer (some ⟨pS, 0, none⟩), .pointer (some ⟨pR, 0, none⟩), .pointer (some ⟨pT, 0, none⟩), .slice ak mk ck, .int .i64 s.pc, u14, u15, u16, u17, u18, u19, u20, u21, u22, u23, u24, u25, c26, c27, c28, c29, c30, c31, c32, c33, u34, u35, u36, u37, u38, u39, u40, u41, u42, u43, u44, u45, u46, u47, u48, u49, u50, u51, u52, u53, u54, u55, u56, u57, u58, u59, u60, u61, u62, u63, u64, u65, u66, u67, u68, u69, u70, u71, u72, u73, u74, u75, u76, u77, u78, u79, u80, u81, u82, u83, u84, u85, u86, u87, u88, u89, u90, u91, u92, u93, u94, u95, u96, u97, u98, u99, u100, u101, u102, u103, u104, u105, u106, u107, u108, u109, u110, u111, u112, u113, u114, u115, u116, u117, u118, u119, u120, u121, u122, u123, u124, u125, u126, u127, u128, u129, u130, u131, u132, u133, u134, u135, u136, u137, u138, u139, u140, u141, u142, u143, u144, u145, u146, u147, u148, u149, u150, u151, u152, u153, u154, u155, u156, u157, u158, u159, u160, u161, u162, u163, u164, u165, u166, u167, u168, u169, u170, u171, u172, u173, u174, u175, u176, u177, u178, u179, u180, u181, u182, u183, u184, u185, u186, u187, u188, u189, u190, u191, u192, u193, u194, u195, u196, u197, u198, u199, u200, u201, u202, u203, u204, u205, u206, u207, u208, u209, u210, u211, u212, u213, u214, u215, u216, u217, u218, u219, u220, u221, u222, u223, u224, u225, u226, u227, u228, u229, u230, u231, u232, u233, u234, u235, u236, u237, u238, u239, u240, u241, u242, u243, u244, u245, u246, u247, u248, u249, u250, u251, u252, u253, u254, u255, u256, u257, u258, u259, u260, u261, u262, u263, u264, u265, u266, u267, u268, u269, u270, u271, u272, u273, u274, u275, u276, u277, u278, u279, u280, u281, u282, u283, u284, u285, u286, u287, u288, c289, c290, c291], []⟩ wr := by
  conv => arg 2; whnf
  have hok := code_at hc hlt
  obtain ⟨b, off, rfl, hbB, hcc⟩ := hv.open (by omega)
  obtain ⟨o0, o1, o2, o3⟩ := see4 (B := Bc) hcc s.pc hlt
  have HCC := (show Hid _ from hcc)
  have hi : (s.pc : Int) < n := by omega
  have hi0 : (0 : Int) ≤ s.pc := by omega
  have hmu : n - s.pc < n - s.pc + 1 := by omega
  have HX : Hid (∀ x, xs[s.pc] = x → okOp x = true) := fun x hx => by rw [← hx]; exact hok
  obtain ⟨x, hx⟩ : ∃ x, xs[s.pc] = x := ⟨_, rfl⟩
  rw [hx] at o0 o1 o2 o3 hk hok
  have HXE : Hid (xs[s.pc] = x) := hx
  clear hx hcc HX
  obtain ⟨kk, oa, ob, oc⟩ := x
  simp only at o0 o1 o2 o3 hk
  subst hk
  have hokr := ok_ranges4 hok
  have S1 := H.st.on (alloc_below wr (.cells #[.int .i64 4, .int .i64 oa, .int .i64 ob, .int .i64 oc] 140))
  have X1 := Blk.new wr #[.int .i64 4, .int .i64 oa, .int .i64 ob, .int .i64 oc] 140
  obtain ⟨hlr, -⟩ := regsOk_out H.ok.r
  obtain ⟨tc1, tc2, tc3⟩ := th_parts H.ok.t
  have hlc := (cellsOk_out tc1).1
  have hlm := (mapOk_out tc2).1
  have cC := calcSpecC 4 oa ob oc (.slice (some ⟨gr, 0, none⟩) 4 cr) s.r _ _ S1.r.sees (Nat.le_refl _) (by omega)
  have eV : opV 4 oa ob oc = .agg #[.int .i64 4, .int .i64 oa, .int .i64 ob, .int .i64 oc] := rfl
  rw [eV] at cC
  have x0 := X1.cell 0; have x1 := X1.cell 1; have x2 := X1.cell 2; have x3 := X1.cell 3
  go_wp2_with fail
  refine cC.mono ?_
  rintro e w2 ⟨v2, rfl, O2, b2⟩
  clear cC x0 x1 x2 x3 eV
  have S2 := S1.newR b2 O2
  have hl2 : (calcTo 4 oa ob oc s.r).length = 4 := by rw [calcTo_length]; exact hlr
  obtain ⟨av, cv, rfl⟩ := O2.form
  rw [hl2] at S2 O2 ⊢
  obtain ⟨gv, rfl⟩ : ∃ g, av = some ⟨g, 0, none⟩ := by
    have hO := O2
    unfold Ints.Owns at hO
    rcases hO.2 with ⟨e, -⟩ | ⟨g, cap, cur, e, -⟩
    · cases e
    · injection e with e _ _; exact ⟨g, e⟩
  have hp := step_plain (t0 := t) (F := F) hc H.ok hlt (by rw [HXE.out]; simp) (by rw [HXE.out]; simp) (by rw [HXE.out]; simp) (by rw [HXE.out]; simp)
  rw [HXE.out] at hp
  obtain ⟨hp1, hp2, hp3⟩ := hp
  have HL : Hid (Leads xs t F ⟨0, r, t, []⟩ _) := H.led.trans (Leads.step hlt hp1)
  have HO : Hid (CfOk xs _) := hp2
  go_wp2
  refine ⟨?_, by simp [WMu, intOf]; omega⟩
  unfold WI
  refine ⟨_, _, _, _, _, _, _, _, _, _, _, _, _, _, _, _, _, _, _, _, _, _, _, _, _, _, _, _, _, _, _, _, _, _, _, _, _, _, _, _, _, _, _, _, _, _, _, _, _, _, _, _, _, _, _, _, _, _, _, _, _, _, _, _, _, _, _, _, _, _, _, _, _, _, _, _, _, _, _, _, _, _, _, _, _, _, _, _, _, _, _, _, _, _, _, _, _, _, _, _, _, _, _, _, _, _, _, _, _, _, _, _, _, _, _, _, _, _, _, _, _, _, _, _, _, _, _, _, _, _, _, _, _, _, _, _, _, _, _, _, _, _, _, _, _, _, _, _, _, _, _, _, _, _, _, _, _, _, _, _, _, _, _, _, _, _, _, _, _, _, _, _, _, _, _, _, _, _, _, _, _, _, _, _, _, _, _, _, _, _, _, _, _, _, _, _, _, _, _, _, _, _, _, _, _, _, _, _, _, _, _, _, _, _, _, _, _, _, _, _, _, _, _, _, _, _, _, _, _, _, _, _, _, _, _, _, _, _, _, _, _, _, _, _, _, _, _, _, _, _, _, _, _, _, _, _, _, _, _, _, _, _, _, _, _, _, _, _, _, _, ?_, rfl⟩
  exact ⟨_, ms, gv, cv, gc, cc, gm, cm, ak, mk, ck, { rg := rfl, kg := rfl, p := by go_num, l := H.l, ok := HO.out, led := HL.out, st := S2.pc _ }⟩
end Ops
end Go.Proofs.Ytajbmokidcdfnaa
