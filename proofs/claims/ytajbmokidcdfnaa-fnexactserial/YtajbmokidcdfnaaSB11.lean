/- Several texts of one proof, in build order: SerCase5. -/
import Derived.Deep.QuietTactic
import Derived.BigQuiet
import Derived.Test.YtajbmokidcdfnaaSB5
import Derived.Test.YtajbmokidcdfnaaSB9
import Derived.Test.YtajbmokidcdfnaaSB10
/- A round of l7Walk: an op of kind 5. -/
set_option linter.unusedVariables false
set_option linter.unusedSimpArgs false
namespace Go.Proofs.Ytajbmokidcdfnaa
open Go.RowKit
namespace Ops
open Bas Flat
theorem ok_ranges5 {a b c : Int} (h : okOp ⟨5, a, b, c⟩ = true) : (spans 5).elim False (fun p => (p.1.1 ≤ a ∧ a ≤ p.1.2) ∧ (p.2.1.1 ≤ b ∧ b ≤ p.2.1.2) ∧ (p.2.2.1 ≤ c ∧ c ≤ p.2.2.2)) := by
  unfold okOp opOk at h
  simp only [spans, Int.reduceEq, if_true, if_false, reduceIte, or_self, or_false, false_or, Bool.and_eq_true, inn, decide_eq_true_eq] at h ⊢
  simp only [Option.elim]
  omega
set_option maxRecDepth 1000000 in
set_option maxHeartbeats 16000000 in
theorem case5 {xs : List O4} {n : Nat} {F : List Int → Th → List Int × Th} {r : List Int} {t : Th} {w : World} {pR pS pT : Nat} {v0 v1 : Value} {wr : World} {s : Cf} {ms : List M5} {gr cr gc cc gm cm : Nat} {ak : Option Addr} {mk ck : Nat} (Q0 : Exit → Act → World → Prop) (Bc : Nat) (ax : Option Addr) (cxp : Nat)
    (c1 c2 c4 c5 c6 c7 c8 c26 c27 c28 c29 c30 c31 c32 c33 c289 c290 c291 u14 u15 u16 u17 u18 u19 u20 u21 u22 u23 u24 u25 u34 u35 u36 u37 u38 u39 u40 u41 u42 u43 u44 u45 u46 u47 u48 u49 u50 u51 u52 u53 u54 u55 u56 u57 u58 u59 u60 u61 u62 u63 u64 u65 u66 u67 u68 u69 u70 u71 u72 u73 u74 u75 u76 u77 u78 u79 u80 u81 u82 u83 u84 u85 u86 u87 u88 u89 u90 u91 u92 u93 u94 u95 u96 u97 u98 u99 u100 u101 u102 u103 u104 u105 u106 u107 u108 u109 u110 u111 u112 u113 u114 u115 u116 u117 u118 u119 u120 u121 u122 u123 u124 u125 u126 u127 u128 u129 u130 u131 u132 u133 u134 u135 u136 u137 u138 u139 u140 u141 u142 u143 u144 u145 u146 u147 u148 u149 u150 u151 u152 u153 u154 u155 u156 u157 u158 u159 u160 u161 u162 u163 u164 u165 u166 u167 u168 u169 u170 u171 u172 u173 u174 u175 u176 u177 u178 u179 u180 u181 u182 u183 u184 u185 u186 u187 u188 u189 u190 u191 u192 u193 u194 u195 u196 u197 u198 u199 u200 u201 u202 u203 u204 u205 u206 u207 u208 u209 u210 u211 u212 u213 u214 u215 u216 u217 u218 u219 u220 u221 u222 u223 u224 u225 u226 u227 u228 u229 u230 u231 u232 u233 u234 u235 u236 u237 u238 u239 u240 u241 u242 u243 u244 u245 u246 u247 u248 u249 u250 u251 u252 u253 u254 u255 u256 u257 u258 u259 u260 u261 u262 u263 u264 u265 u266 u267 u268 u269 u270 u271 u272 u273 u274 u275 u276 u277 u278 u279 u280 u281 u282 u283 u284 u285 u286 u287 u288 : Value) (hv : Sees4 Bc wr (.slice ax n cxp) xs) (hn : xs.length = n) (hn24 : n ≤ 24) (hc : codeOk xs = true) (hlt : s.pc < xs.length) (hBc : Bc ≤ wr.heap.size)
    (H : RelW xs n F r t w pR pS pT v0 v1 (.slice (some ⟨gr, 0, none⟩) 4 cr) (.slice ak mk ck) (.int .i64 s.pc) wr s ms gr cr gc cc gm cm ak mk ck) (hk : xs[s.pc].k = 5) :
    Code.wp Try.prog (bodyOf Try.f95.body) (Exit.then (fun a' w'' => WI xs n F r t w pR pS pT v0 v1 (.slice ax n cxp) c1 c2 c4 c5 c6 c7 c8 c26 c27 c28 c29 c30 c31 c32 c33 c289 c290 c291 a' w'' ∧ WMu n a' w'' < WMu n ⟨#[.slice ax n cxp, c1, c2, .slice (some ⟨gr, 0, none⟩) 4 cr, c4, c5, c6, c7, c8, .pointer (some ⟨pS, 0, none⟩), .pointer (some ⟨pR, 0, none⟩), .pointer (some ⟨pT, 0, none⟩), .slice ak mk ck, .int .i64 s.pc, u14, u15, u16, u17, u18, u19, u20, u21, u22, u23, u24, u25, c26, c27, c28, c29, c30, c31, c32, c33, u34, u35, u36, u37, u38, u39, u40, u41, u42, u43, u44, u45, u46, u47, u48, u49, u50, u51, u52, u53, u54, u55, u56, u57, u58, u59, u60, u61, u62, u63, u64, u65, u66, u67, u68, u69, u70, u71, u72, u73, u74, u75, u76, u77, u78, u79, u80, u81, u82, u83, u84, u85, u86, u87, u88, u89, u90, u91, u92, u93, u94, u95, u96, u97, u98, u99, u100, u101, u102, u103, u104, u105, u106, u107, u108, u109, u110, u111, u112, u113, u114, u115, u116, u117, u118, u119, u120, u121, u122, u123, u124, u125, u126, u127, u128, u129, u130, u131, u132, u133, u134, u135, u136, u137, u138, u139, u140, u141, u142, u143, u144, u145, u146, u147, u148, u149, u150, u151, u152, u153, u154, u155, u156, u157, u158, u159, u160, u161, u162, u163, u164, u165, u166, u167, u168, u169, u170, u171, u172, u173, u174, u175, u176, u177, u178, u179, u180, u181, u182, u183, u184, u185, u186, u187, u188, u189, u190, u191, u192, u193, u194, u195, u196, u197, u198, u199, u200, u201, u202, u203, u204, u205, u206, u207, u208, u209, u210, u211, u212, u213, u214, u215, u216, u217, u218, u219, u220, u221, u222, u223, u224, u225, u226, u227, u228, u229, u230, u231, u232, u233, u234, u235, u236, u237, u238, u239, u240, u241, u242, u243, u244, u245, u246, u247, u248, u249, u250, u251, u252, u253, u254, u255, u256, u257, u258, u259, u260, u261, u262, u263, u264, u265, u266, u267, u268, u269, u270, u271, u272, u273, u274, u275, u276, u277, u278, u279, u280, u281, u282, u283, u284, u285, u286, u287, u288, c289, c290, c291], []⟩ wr) Q0) ⟨#[.slice ax n cxp, c1, c2, .slice (some ⟨gr, 0, none⟩) 4 cr, c4, c5, c6, c7, c8, .pointer (some ⟨pS, 0, none⟩), .pointer (some ⟨pR, 0, none⟩), .pointer (some ⟨pT, 0, none⟩), .slice ak mk ck, .int .i64 s.pc, u14, u15, u16, u17, u18, u19, u20, u21, u22, u23, u24, u25, c26, c27, c28, c29, c30, c31, c32, c33, u34, u35, u36, u37, u38, u39, u40, u41, u42, u43, u44, u45, u46, u47, u48, u49, u50, u51, u52, u53, u54, u55, u56, u57, u58, u59, u60, u61, u62, u63, u64, u65, u66, u67, u68, u69, u70, u71, u72, u73, u74, u75, u76, u77, u78, u79, u80, u81, u82, u83, u84, u85, u86, u87, u88, u89, u90, u91, u92, u93, u94, u95, u96, u97, u98, u99, u100, u101, u102, u103, u104, u105, u106, u107, u108, u109, u110, u111, u112, u113, u114, u115, u116, u117, u118, u119, u120, u121, u122, u123, u124, u125, u126, u127, u128, u129, u130, u131, u132, u133, u134, u135, u136, u137, u138, u139, u140, u141, u142, u143, u144, u145, u146, u147, u148, u149, u150, u151, u152, u153, u154, u155, u156, u157, u158, u159, u160, u161, u162, u163, u164, u165, u166, u167, u168, u169, u170, u171, u172, u173, u174, u175, u176, u177, u178, u179, u180, u181, u182, u183, u184, u185, u186, u187, u188, u189, u190, u191, u192, u193, u194, u195, u196, u197, u198, u199, u200, u201, u202, u203, u204, u205, u206, u207, u208, u209, u210, u211, u212, u213, u214, u215, u216, u217, u218, u219, u220, u221, u222, u223, u224, u225, u226, u227, u228, u229, u230, u231, u232, u233, u234, u235, u236, u237, u238, u239, u240, u241, u242, u243, u244, u245, u246, u247, u248, u249, u250, u251, u252, u253, u254, u255, u256, u257, u258, u259, u260, u261, u262, u263, u264, u265, u266, u267, u268, u269, u270, u271, u272, u273, u274, u275, u276, u277, u278, u279, u280, u281, u282, u283, u284, u285, u286, u287, u288, c289, c290, c291], []⟩ wr := by
  conv => arg 2; whnf
  have hok := code_at hc hlt
  obtain ⟨b, off, rfl, hbB, hcc⟩ := hv.open (by omega)
  obtain ⟨o0, o1, o2, o3⟩ := see4 (B := Bc) hcc s.pc hlt
  have HCC := (show Hid _ from hcc)
  have hi : (s.pc : Int) < n := by omega
  have hi0 : (0 : Int) ≤ s.pc := by omega
  have hmu : n - s.pc < n - s.pc + 1 := by omega
  have HX : Hid (∀ x, xs[s.pc] = x → okOp x = true) := fun x hx => by rw [← hx]; exact hok
  obtain ⟨x, hx⟩ : ∃ x, xs[s.pc] = x := ⟨_, rfl⟩
  rw [hx] at o0 o1 o2 o3 hk hok
  have HXE : Hid (xs[s.pc] = x) := hx
  clear hx hcc HX
  obtain ⟨kk, oa, ob, oc⟩ := x
  simp only at o0 o1 o2 o3 hk
  subst hk
  have hokr := ok_ranges5 hok
  have S1 := H.st.on (alloc_below wr (.cells #[.int .i64 5, .int .i64 oa, .int .i64 ob, .int .i64 oc] 140))
  have X1 := Blk.new wr #[.int .i64 5, .int .i64 oa, .int .i64 ob, .int .i64 oc] 140
  obtain ⟨w1, hw1⟩ : ∃ W, wr.alloc (.cells #[.int .i64 5, .int .i64 oa, .int .i64 ob, .int .i64 oc] 140) = W := ⟨_, rfl⟩
  have HW1 := (show Hid _ from hw1)
  rw [hw1] at S1 X1
  clear hw1
  simp only [spans, Int.reduceEq, if_true, if_false, reduceIte, or_self, or_false, false_or, true_or, or_true, Option.elim] at hokr
  obtain ⟨ia, rfl⟩ := Int.eq_ofNat_of_zero_le (show 0 ≤ oa by omega)
  obtain ⟨ib, rfl⟩ := Int.eq_ofNat_of_zero_le (show 0 ≤ ob by omega)
  obtain ⟨hlr, -⟩ := regsOk_out H.ok.r
  obtain ⟨tc1, tc2, tc3⟩ := th_parts H.ok.t
  have hlc := (cellsOk_out tc1).1
  have hlm := (mapOk_out tc2).1
  go_wp2_with fail
  rw [HW1.out]
  obtain ⟨p, hp⟩ : ∃ p, wr.heap.size = p := ⟨_, rfl⟩
  rw [hp] at X1 ⊢
  have x1 := X1.cell 1; have x2 := X1.cell 2
  have y0 := S1.S.cell 0
  obtain ⟨q1, -⟩ := int_cell S1.c ib (by omega)
  obtain ⟨q2, z2⟩ := int_cell S1.r ia (by omega)
  have i1 : (ia : Int) < 4 := by omega
  have i2 : (ib : Int) < 8 := by omega
  have i3 : (0 : Int) ≤ ia := by omega
  have i4 : (0 : Int) ≤ ib := by omega
  have S2 := S1.setR ia (rd s.t.c ib)
  clear hp HW1
  go_region
  clear x1 x2 y0 q1 q2 z2
  have hp := step_plain (t0 := t) (F := F) hc H.ok hlt (by rw [HXE.out]; simp) (by rw [HXE.out]; simp) (by rw [HXE.out]; simp) (by rw [HXE.out]; simp)
  rw [HXE.out] at hp
  obtain ⟨hp1, hp2, hp3⟩ := hp
  have HL : Hid (Leads xs t F ⟨0, r, t, []⟩ _) := H.led.trans (Leads.step hlt hp1)
  have HO : Hid (CfOk xs _) := hp2
  go_wp2
  refine ⟨?_, by simp [WMu, intOf]; omega⟩
  unfold WI
  refine ⟨_, _, _, _, _, _, _, _, _, _, _, _, _, _, _, _, _, _, _, _, _, _, _, _, _, _, _, _, _, _, _, _, _, _, _, _, _, _, _, _, _, _, _, _, _, _, _, _, _, _, _, _, _, _, _, _, _, _, _, _, _, _, _, _, _, _, _, _, _, _, _, _, _, _, _, _, _, _, _, _, _, _, _, _, _, _, _, _, _, _, _, _, _, _, _, _, _, _, _, _, _, _, _, _, _, _, _, _, _, _, _, _, _, _, _, _, _, _, _, _, _, _, _, _, _, _, _, _, _, _, _, _, _, _, _, _, _, _, _, _, _, _, _, _, _, _, _, _, _, _, _, _, _, _, _, _, _, _, _, _, _, _, _, _, _, _, _, _, _, _, _, _, _, _, _, _, _, _, _, _, _, _, _, _, _, _, _, _, _, _, _, _, _, _, _, _, _, _, _, _, _, _, _, _, _, _, _, _, _, _, _, _, _, _, _, _, _, _, _, _, _, _, _, _, _, _, _, _, _, _, _, _, _, _, _, _, _, _, _, _, _, _, _, _, _, _, _, _, _, _, _, _, _, _, _, _, _, _, _, _, _, _, _, _, _, _, _, _, _, _, ?_, rfl⟩
  exact ⟨_, ms, gr, cr, gc, cc, gm, cm, ak, mk, ck, { rg := rfl, kg := rfl, p := by go_num, l := H.l, ok := HO.out, led := HL.out, st := (S2.drew).pc _ }⟩
end Ops
end Go.Proofs.Ytajbmokidcdfnaa
