/- Several texts of one proof, in build order: SerCase7a, SerCase7b, SerCase8, SerCase9, SerCase10, SerCase10g. -/
import Derived.Deep.QuietTactic
import Derived.BigQuiet
import Derived.Test.YtajbmokidcdfnaaSB5
import Derived.Test.YtajbmokidcdfnaaSB9
import Derived.Test.YtajbmokidcdfnaaSB10
/- A round of l7Walk: an op of kind 7. -/
set_option linter.unusedVariables false
set_option linter.unusedSimpArgs false
namespace Go.Proofs.Ytajbmokidcdfnaa
open Go.RowKit
namespace Ops
open Bas Flat
theorem ok_ranges7 {a b c : Int} (h : okOp ⟨7, a, b, c⟩ = true) : (spans 7).elim False (fun p => (p.1.1 ≤ a ∧ a ≤ p.1.2) ∧ (p.2.1.1 ≤ b ∧ b ≤ p.2.1.2) ∧ (p.2.2.1 ≤ c ∧ c ≤ p.2.2.2)) := by
  unfold okOp opOk at h
  simp only [spans, Int.reduceEq, if_true, if_false, reduceIte, or_self, or_false, false_or, Bool.and_eq_true, inn, decide_eq_true_eq] at h ⊢
  simp only [Option.elim]
  omega
set_option maxRecDepth 1000000 in
set_option maxHeartbeats 16000000 in
theorem case7a {xs : List O4} {n : Nat} {F : List Int → Th → List Int × Th} {r : List Int} {t : Th} {w : World} {pR pS pT : Nat} {v0 v1 : Value} {wr : World} {s : Cf} {ms : List M5} {gr cr gc cc gm cm : Nat} {ak : Option Addr} {mk ck : Nat} (Q0 : Exit → Act → World → Prop) (Bc : Nat) (ax : Option Addr) (cxp : Nat)
    (c1 c2 c4 c5 c6 c7 c8 c26 c27 c28 c29 c30 c31 c32 c33 c289 c290 c291 u14 u15 u16 u17 u18 u19 u20 u21 u22 u23 u24 u25 u34 u35 u36 u37 u38 u39 u40 u41 u42 u43 u44 u45 u46 u47 u48 u49 u50 u51 u52 u53 u54 u55 u56 u57 u58 u59 u60 u61 u62 u63 u64 u65 u66 u67 u68 u69 u70 u71 u72 u73 u74 u75 u76 u77 u78 u79 u80 u81 u82 u83 u84 u85 u86 u87 u88 u89 u90 u91 u92 u93 u94 u95 u96 u97 u98 u99 u100 u101 u102 u103 u104 u105 u106 u107 u108 u109 u110 u111 u112 u113 u114 u115 u116 u117 u118 u119 u120 u121 u122 u123 u124 u125 u126 u127 u128 u129 u130 u131 u132 u133 u134 u135 u136 u137 u138 u139 u140 u141 u142 u143 u144 u145 u146 u147 u148 u149 u150 u151 u152 u153 u154 u155 u156 u157 u158 u159 u160 u161 u162 u163 u164 u165 u166 u167 u168 u169 u170 u171 u172 u173 u174 u175 u176 u177 u178 u179 u180 u181 u182 u183 u184 u185 u186 u187 u188 u189 u190 u191 u192 u193 u194 u195 u196 u197 u198 u199 u200 u201 u202 u203 u204 u205 u206 u207 u208 u209 u210 u211 u212 u213 u214 u215 u216 u217 u218 u219 u220 u221 u222 u223 u224 u225 u226 u227 u228 u229 u230 u231 u232 u233 u234 u235 u236 u237 u238 u239 u240 u241 u242 u243 u244 u245 u246 u247 u248 u249 u250 u251 u252 u253 u254 u255 u256 u257 u258 u259 u260 u261 u262 u263 u264 u265 u266 u267 u268 u269 u270 u271 u272 u273 u274 u275 u276 u277 u278 u279 u280 u281 u282 u283 u284 u285 u286 u287 u288 : Value) (hv : Sees4 Bc wr (.slice ax n cxp) xs) (hn : xs.length = n) (hn24 : n ≤ 24) (hc : codeOk xs = true) (hlt : s.pc < xs.length) (hBc : Bc ≤ wr.heap.size)
    (H : RelW xs n F r t w pR pS pT v0 v1 (.slice (some ⟨gr, 0, none⟩) 4 cr) (.slice ak mk ck) (.int .i64 s.pc) wr s ms gr cr gc cc gm cm ak mk ck) (hk : xs[s.pc].k = 7) (h0 : rd s.r xs[s.pc].a = 0) :
    Code.wp Try.prog (bodyOf Try.f95.body) (Exit.then (fun a' w'' => WI xs n F r t w pR pS pT v0 v1 (.slice ax n cxp) c1 c2 c4 c5 c6 c7 c8 c26 c27 c28 c29 c30 c31 c32 c33 c289 c290 c291 a' w'' ∧ WMu n a' w'' < WMu n ⟨#[.slice ax n cxp, c1, c2, .slice (some ⟨gr, 0, none⟩) 4 cr, c4, c5, c6, c7, c8, .pointer (some ⟨pS, 0, none⟩), .pointer (some ⟨pR, 0, none⟩), .pointer (some ⟨pT, 0, none⟩), .slice ak mk ck, .int .i64 s.pc, u14, u15, u16, u17, u18, u19, u20, u21, u22, u23, u24, u25, c26, c27, c28, c29, c30, c31, c32, c33, u34, u35, u36, u37, u38, u39, u40, u41, u42, u43, u44, u45, u46, u47, u48, u49, u50, u51, u52, u53, u54, u55, u56, u57, u58, u59, u60, u61, u62, u63, u64, u65, u66, u67, u68, u69, u70, u71, u72, u73, u74, u75, u76, u77, u78, u79, u80, u81, u82, u83, u84, u85, u86, u87, u88, u89, u90, u91, u92, u93, u94, u95, u96, u97, u98, u99, u100, u101, u102, u103, u104, u105, u106, u107, u108, u109, u110, u111, u112, u113, u114, u115, u116, u117, u118, u119, u120, u121, u122, u123, u124, u125, u126, u127, u128, u129, u130, u131, u132, u133, u134, u135, u136, u137, u138, u139, u140, u141, u142, u143, u144, u145, u146, u147, u148, u149, u150, u151, u152, u153, u154, u155, u156, u157, u158, u159, u160, u161, u162, u163, u164, u165, u166, u167, u168, u169, u170, u171, u172, u173, u174, u175, u176, u177, u178, u179, u180, u181, u182, u183, u184, u185, u186, u187, u188, u189, u190, u191, u192, u193, u194, u195, u196, u197, u198, u199, u200, u201, u202, u203, u204, u205, u206, u207, u208, u209, u210, u211, u212, u213, u214, u215, u216, u217, u218, u219, u220, u221, u222, u223, u224, u225, u226, u227, u228, u229, u230, u231, u232, u233, u234, u235, u236, u237, u238, u239, u240, u241, u242, u243, u244, u245, u246, u247, u248, u249, u250, u251, u252, u253, u254, u255, u256, u257, u258, u259, u260, u261, u262, u263, u264, u265, u266, u267, u268, u269, u270, u271, u272, u273, u274, u275, u276, u277, u278, u279, u280, u281, u282, u283, u284, u285, u286, u287, u288, c289, c290, c291], []⟩ wr) Q0) ⟨#[.slice ax n cxp, c1, c2, .slice (some ⟨gr, 0, none⟩) 4 cr, c4, c5, c6, c7, c8, .pointer (some ⟨pS, 0, none⟩), .pointer (some ⟨pR, 0, none⟩), .pointer (some ⟨pT, 0, none⟩), .slice ak mk ck, .int .i64 s.pc, u14, u15, u16, u17, u18, u19, u20, u21, u22, u23, u24, u25, c26, c27, c28, c29, c30, c31, c32, c33, u34, u35, u36, u37, u38, u39, u40, u41, u42, u43, u44, u45, u46, u47, u48, u49, u50, u51, u52, u53, u54, u55, u56, u57, u58, u59, u60, u61, u62, u63, u64, u65, u66, u67, u68, u69, u70, u71, u72, u73, u74, u75, u76, u77, u78, u79, u80, u81, u82, u83, u84, u85, u86, u87, u88, u89, u90, u91, u92, u93, u94, u95, u96, u97, u98, u99, u100, u101, u102, u103, u104, u105, u106, u107, u108, u109, u110, u111, u112, u113, u114, u115, u116, u117, u118, u119, u120, u121, u122, u123, u124, u125, u126, u127, u128, u129, u130, u131, u132, u133, u134, u135, u136, u137, u138, u139, u140, u141, u142, u143, u144, u145, u146, u147, u148, u149, u150, u151, u152, u153, u154, u155, u156, u157, u158, u159, u160, u161, u162, u163, u164, u165, u166, u167, u168, u169, u170, u171, u172, u173, u174, u175, u176, u177, u178, u179, u180, u181, u182, u183, u184, u185, u186, u187, u188, u189, u190, u191, u192, u193, u194, u195, u196, u197, u198, u199, u200, u201, u202, u203, u204, u205, u206, u207, u208, u209, u210, u211, u212, u213, u214, u215, u216, u217, u218, u219, u220, u221, u222, u223, u224, u225, u226, u227, u228, u229, u230, u231, u232, u233, u234, u235, u236, u237, u238, u239, u240, u241, u242, u243, u244, u245, u246, u247, u248, u249, u250, u251, u252, u253, u254, u255, u256, u257, u258, u259, u260, u261, u262, u263, u264, u265, u266, u267, u268, u269, u270, u271, u272, u273, u274, u275, u276, u277, u278, u279, u280, u281, u282, u283, u284, u285, u286, u287, u288, c289, c290, c291], []⟩ wr := by
  conv => arg 2; whnf
  have hok := code_at hc hlt
  obtain ⟨b, off, rfl, hbB, hcc⟩ := hv.open (by omega)
  obtain ⟨o0, o1, o2, o3⟩ := see4 (B := Bc) hcc s.pc hlt
  have HCC := (show Hid _ from hcc)
  have hi : (s.pc : Int) < n := by omega
  have hi0 : (0 : Int) ≤ s.pc := by omega
  have hmu : n - s.pc < n - s.pc + 1 := by omega
  have HX : Hid (∀ x, xs[s.pc] = x → okOp x = true) := fun x hx => by rw [← hx]; exact hok
  obtain ⟨x, hx⟩ : ∃ x, xs[s.pc] = x := ⟨_, rfl⟩
  rw [hx] at o0 o1 o2 o3 hk hok h0
  have HXE : Hid (xs[s.pc] = x) := hx
  clear hx hcc HX
  obtain ⟨kk, oa, ob, oc⟩ := x
  simp only at o0 o1 o2 o3 hk h0
  subst hk
  have hokr := ok_ranges7 hok
  have S1 := H.st.on (alloc_below wr (.cells #[.int .i64 7, .int .i64 oa, .int .i64 ob, .int .i64 oc] 140))
  have X1 := Blk.new wr #[.int .i64 7, .int .i64 oa, .int .i64 ob, .int .i64 oc] 140
  simp only [spans, Int.reduceEq, if_true, if_false, reduceIte, or_self, or_false, false_or, true_or, or_true, Option.elim] at hokr
  obtain ⟨ia, rfl⟩ := Int.eq_ofNat_of_zero_le (show 0 ≤ oa by omega)
  obtain ⟨ib, rfl⟩ := Int.eq_ofNat_of_zero_le (show 0 ≤ ob by omega)
  obtain ⟨hlr, -⟩ := regsOk_out H.ok.r
  obtain ⟨tc1, tc2, tc3⟩ := th_parts H.ok.t
  have hlc := (cellsOk_out tc1).1
  have hlm := (mapOk_out tc2).1
  have x1 := X1.cell 1; have x2 := X1.cell 2
  obtain ⟨q1, z1⟩ := int_cell S1.r ia (by omega)
  have i1 : (ia : Int) < 4 := by omega
  have i3 : (0 : Int) ≤ ia := by omega
  rw [h0] at q1
  have hnx : nextPc ⟨7, ia, ib, oc⟩ s.r s.pc = s.pc + 1 + ib := by unfold nextPc; rw [if_pos ⟨rfl, h0⟩, Int.toNat_natCast]
  have hp := step_plain (t0 := t) (F := F) hc H.ok hlt (by rw [HXE.out]; simp) (by rw [HXE.out]; simp) (by rw [HXE.out]; simp) (by rw [HXE.out]; simp)
  rw [HXE.out] at hp
  obtain ⟨hp1, hp2, hp3⟩ := hp
  have HL : Hid (Leads xs t F ⟨0, r, t, []⟩ _) := H.led.trans (Leads.step hlt hp1)
  have HO : Hid (CfOk xs _) := hp2
  rw [hnx] at hp3
  go_wp2
  refine ⟨?_, by simp [WMu, intOf]; omega⟩
  unfold WI
  refine ⟨_, _, _, _, _, _, _, _, _, _, _, _, _, _, _, _, _, _, _, _, _, _, _, _, _, _, _, _, _, _, _, _, _, _, _, _, _, _, _, _, _, _, _, _, _, _, _, _, _, _, _, _, _, _, _, _, _, _, _, _, _, _, _, _, _, _, _, _, _, _, _, _, _, _, _, _, _, _, _, _, _, _, _, _, _, _, _, _, _, _, _, _, _, _, _, _, _, _, _, _, _, _, _, _, _, _, _, _, _, _, _, _, _, _, _, _, _, _, _, _, _, _, _, _, _, _, _, _, _, _, _, _, _, _, _, _, _, _, _, _, _, _, _, _, _, _, _, _, _, _, _, _, _, _, _, _, _, _, _, _, _, _, _, _, _, _, _, _, _, _, _, _, _, _, _, _, _, _, _, _, _, _, _, _, _, _, _, _, _, _, _, _, _, _, _, _, _, _, _, _, _, _, _, _, _, _, _, _, _, _, _, _, _, _, _, _, _, _, _, _, _, _, _, _, _, _, _, _, _, _, _, _, _, _, _, _, _, _, _, _, _, _, _, _, _, _, _, _, _, _, _, _, _, _, _, _, _, _, _, _, _, _, _, _, _, _, _, _, _, _, ?_, rfl⟩
  exact ⟨_, ms, gr, cr, gc, cc, gm, cm, ak, mk, ck, { rg := rfl, kg := rfl, p := by rw [hnx]; go_num, l := H.l, ok := HO.out, led := HL.out, st := S1.pc _ }⟩
end Ops
end Go.Proofs.Ytajbmokidcdfnaa
/- A round of l7Walk: an op of kind 7. -/
set_option linter.unusedVariables false
set_option linter.unusedSimpArgs false
namespace Go.Proofs.Ytajbmokidcdfnaa
open Go.RowKit
namespace Ops
open Bas Flat
theorem ok_ranges7b {a b c : Int} (h : okOp ⟨7, a, b, c⟩ = true) : (spans 7).elim False (fun p => (p.1.1 ≤ a ∧ a ≤ p.1.2) ∧ (p.2.1.1 ≤ b ∧ b ≤ p.2.1.2) ∧ (p.2.2.1 ≤ c ∧ c ≤ p.2.2.2)) := by
  unfold okOp opOk at h
  simp only [spans, Int.reduceEq, if_true, if_false, reduceIte, or_self, or_false, false_or, Bool.and_eq_true, inn, decide_eq_true_eq] at h ⊢
  simp only [Option.elim]
  omega
set_option maxRecDepth 1000000 in
set_option maxHeartbeats 16000000 in
theorem case7b {xs : List O4} {n : Nat} {F : List Int → Th → List Int × Th} {r : List Int} {t : Th} {w : World} {pR pS pT : Nat} {v0 v1 : Value} {wr : World} {s : Cf} {ms : List M5} {gr cr gc cc gm cm : Nat} {ak : Option Addr} {mk ck : Nat} (Q0 : Exit → Act → World → Prop) (Bc : Nat) (ax : Option Addr) (cxp : Nat)
    (c1 c2 c4 c5 c6 c7 c8 c26 c27 c28 c29 c30 c31 c32 c33 c289 c290 c291 u14 u15 u16 u17 u18 u19 u20 u21 u22 u23 u24 u25 u34 u35 u36 u37 u38 u39 u40 u41 u42 u43 u44 u45 u46 u47 u48 u49 u50 u51 u52 u53 u54 u55 u56 u57 u58 u59 u60 u61 u62 u63 u64 u65 u66 u67 u68 u69 u70 u71 u72 u73 u74 u75 u76 u77 u78 u79 u80 u81 u82 u83 u84 u85 u86 u87 u88 u89 u90 u91 u92 u93 u94 u95 u96 u97 u98 u99 u100 u101 u102 u103 u104 u105 u106 u107 u108 u109 u110 u111 u112 u113 u114 u115 u116 u117 u118 u119 u120 u121 u122 u123 u124 u125 u126 u127 u128 u129 u130 u131 u132 u133 u134 u135 u136 u137 u138 u139 u140 u141 u142 u143 u144 u145 u146 u147 u148 u149 u150 u151 u152 u153 u154 u155 u156 u157 u158 u159 u160 u161 u162 u163 u164 u165 u166 u167 u168 u169 u170 u171 u172 u173 u174 u175 u176 u177 u178 u179 u180 u181 u182 u183 u184 u185 u186 u187 u188 u189 u190 u191 u192 u193 u194 u195 u196 u197 u198 u199 u200 u201 u202 u203 u204 u205 u206 u207 u208 u209 u210 u211 u212 u213 u214 u215 u216 u217 u218 u219 u220 u221 u222 u223 u224 u225 u226 u227 u228 u229 u230 u231 u232 u233 u234 u235 u236 u237 u238 u239 u240 u241 u242 u243 u244 u245 u246 u247 u248 u249 u250 u251 u252 u253 u254 u255 u256 u257 u258 u259 u260 u261 u262 u263 u264 u265 u266 u267 u268 u269 u270 u271 u272 u273 u274 u275 u276 u277 u278 u279 u280 u281 u282 u283 u284 u285 u286 u287 u288 : Value) (hv : Sees4 Bc wr (.slice ax n cxp) xs) (hn : xs.length = n) (hn24 : n ≤ 24) (hc : codeOk xs = true) (hlt : s.pc < xs.length) (hBc : Bc ≤ wr.heap.size)
    (H : RelW xs n F r t w pR pS pT v0 v1 (.slice (some ⟨gr, 0, none⟩) 4 cr) (.slice ak mk ck) (.int .i64 s.pc) wr s ms gr cr gc cc gm cm ak mk ck) (hk : xs[s.pc].k = 7) (h0 : ¬ rd s.r xs[s.pc].a = 0) :
    Code.wp Try.prog (bodyOf Try.f95.body) (Exit.then (fun a' w'' => WI xs n F r t w pR pS pT v0 v1 (.slice ax n cxp) c1 c2 c4 c5 c6 c7 c8 c26 c27 c28 c29 c30 c31 c32 c33 c289 c290 c291 a' w'' ∧ WMu n a' w'' < WMu n ⟨#[.slice ax n cxp, c1, c2, .slice (some ⟨gr, 0, none⟩) 4 cr, c4, c5, c6, c7, c8, .pointer (some ⟨pS, 0, none⟩), .pointer (some ⟨pR, 0, none⟩), .pointer (some ⟨pT, 0, none⟩), .slice ak mk ck, .int .i64 s.pc, u14, u15, u16, u17, u18, u19, u20, u21, u22, u23, u24, u25, c26, c27, c28, c29, c30, c31, c32, c33, u34, u35, u36, u37, u38, u39, u40, u41, u42, u43, u44, u45, u46, u47, u48, u49, u50, u51, u52, u53, u54, u55, u56, u57, u58, u59, u60, u61, u62, u63, u64, u65, u66, u67, u68, u69, u70, u71, u72, u73, u74, u75, u76, u77, u78, u79, u80, u81, u82, u83, u84, u85, u86, u87, u88, u89, u90, u91, u92, u93, u94, u95, u96, u97, u98, u99, u100, u101, u102, u103, u104, u105, u106, u107, u108, u109, u110, u111, u112, u113, u114, u115, u116, u117, u118, u119, u120, u121, u122, u123, u124, u125, u126, u127, u128, u129, u130, u131, u132, u133, u134, u135, u136, u137, u138, u139, u140, u141, u142, u143, u144, u145, u146, u147, u148, u149, u150, u151, u152, u153, u154, u155, u156, u157, u158, u159, u160, u161, u162, u163, u164, u165, u166, u167, u168, u169, u170, u171, u172, u173, u174, u175, u176, u177, u178, u179, u180, u181, u182, u183, u184, u185, u186, u187, u188, u189, u190, u191, u192, u193, u194, u195, u196, u197, u198, u199, u200, u201, u202, u203, u204, u205, u206, u207, u208, u209, u210, u211, u212, u213, u214, u215, u216, u217, u218, u219, u220, u221, u222, u223, u224, u225, u226, u227, u228, u229, u230, u231, u232, u233, u234, u235, u236, u237, u238, u239, u240, u241, u242, u243, u244, u245, u246, u247, u248, u249, u250, u251, u252, u253, u254, u255, u256, u257, u258, u259, u260, u261, u262, u263, u264, u265, u266, u267, u268, u269, u270, u271, u272, u273, u274, u275, u276, u277, u278, u279, u280, u281, u282, u283, u284, u285, u286, u287, u288, c289, c290, c291], []⟩ wr) Q0) ⟨#[.slice ax n cxp, c1, c2, .slice (some ⟨gr, 0, none⟩) 4 cr, c4, c5, c6, c7, c8, .pointer (some ⟨pS, 0, none⟩), .pointer (some ⟨pR, 0, none⟩), .pointer (some ⟨pT, 0, none⟩), .slice ak mk ck, .int .i64 s.pc, u14, u15, u16, u17, u18, u19, u20, u21, u22, u23, u24, u25, c26, c27, c28, c29, c30, c31, c32, c33, u34, u35, u36, u37, u38, u39, u40, u41, u42, u43, u44, u45, u46, u47, u48, u49, u50, u51, u52, u53, u54, u55, u56, u57, u58, u59, u60, u61, u62, u63, u64, u65, u66, u67, u68, u69, u70, u71, u72, u73, u74, u75, u76, u77, u78, u79, u80, u81, u82, u83, u84, u85, u86, u87, u88, u89, u90, u91, u92, u93, u94, u95, u96, u97, u98, u99, u100, u101, u102, u103, u104, u105, u106, u107, u108, u109, u110, u111, u112, u113, u114, u115, u116, u117, u118, u119, u120, u121, u122, u123, u124, u125, u126, u127, u128, u129, u130, u131, u132, u133, u134, u135, u136, u137, u138, u139, u140, u141, u142, u143, u144, u145, u146, u147, u148, u149, u150, u151, u152, u153, u154, u155, u156, u157, u158, u159, u160, u161, u162, u163, u164, u165, u166, u167, u168, u169, u170, u171, u172, u173, u174, u175, u176, u177, u178, u179, u180, u181, u182, u183, u184, u185, u186, u187, u188, u189, u190, u191, u192, u193, u194, u195, u196, u197, u198, u199, u200, u201, u202, u203, u204, u205, u206, u207, u208, u209, u210, u211, u212, u213, u214, u215, u216, u217, u218, u219, u220, u221, u222, u223, u224, u225, u226, u227, u228, u229, u230, u231, u232, u233, u234, u235, u236, u237, u238, u239, u240, u241, u242, u243, u244, u245, u246, u247, u248, u249, u250, u251, u252, u253, u254, u255, u256, u257, u258, u259, u260, u261, u262, u263, u264, u265, u266, u267, u268, u269, u270, u271, u272, u273, u274, u275, u276, u277, u278, u279, u280, u281, u282, u283, u284, u285, u286, u287, u288, c289, c290, c291], []⟩ wr := by
  conv => arg 2; whnf
  have hok := code_at hc hlt
  obtain ⟨b, off, rfl, hbB, hcc⟩ := hv.open (by omega)
  obtain ⟨o0, o1, o2, o3⟩ := see4 (B := Bc) hcc s.pc hlt
  have HCC := (show Hid _ from hcc)
  have hi : (s.pc : Int) < n := by omega
  have hi0 : (0 : Int) ≤ s.pc := by omega
  have hmu : n - s.pc < n - s.pc + 1 := by omega
  have HX : Hid (∀ x, xs[s.pc] = x → okOp x = true) := fun x hx => by rw [← hx]; exact hok
  obtain ⟨x, hx⟩ : ∃ x, xs[s.pc] = x := ⟨_, rfl⟩
  rw [hx] at o0 o1 o2 o3 hk hok h0
  have HXE : Hid (xs[s.pc] = x) := hx
  clear hx hcc HX
  obtain ⟨kk, oa, ob, oc⟩ := x
  simp only at o0 o1 o2 o3 hk h0
  subst hk
  have hokr := ok_ranges7b hok
  have S1 := H.st.on (alloc_below wr (.cells #[.int .i64 7, .int .i64 oa, .int .i64 ob, .int .i64 oc] 140))
  have X1 := Blk.new wr #[.int .i64 7, .int .i64 oa, .int .i64 ob, .int .i64 oc] 140
  simp only [spans, Int.reduceEq, if_true, if_false, reduceIte, or_self, or_false, false_or, true_or, or_true, Option.elim] at hokr
  obtain ⟨ia, rfl⟩ := Int.eq_ofNat_of_zero_le (show 0 ≤ oa by omega)
  obtain ⟨ib, rfl⟩ := Int.eq_ofNat_of_zero_le (show 0 ≤ ob by omega)
  obtain ⟨hlr, -⟩ := regsOk_out H.ok.r
  obtain ⟨tc1, tc2, tc3⟩ := th_parts H.ok.t
  have hlc := (cellsOk_out tc1).1
  have hlm := (mapOk_out tc2).1
  have x1 := X1.cell 1; have x2 := X1.cell 2
  obtain ⟨q1, z1⟩ := int_cell S1.r ia (by omega)
  have i1 : (ia : Int) < 4 := by omega
  have i3 : (0 : Int) ≤ ia := by omega
  obtain ⟨rv, hrv⟩ : ∃ v, rd s.r ia = v := ⟨_, rfl⟩
  rw [hrv] at q1 h0
  have d0 : (rv == 0) = false := by simpa using h0
  have hnx : nextPc ⟨7, ia, ib, oc⟩ s.r s.pc = s.pc + 1 := by unfold nextPc; rw [if_neg (fun h => h0 (hrv ▸ h.2))]
  have hp := step_plain (t0 := t) (F := F) hc H.ok hlt (by rw [HXE.out]; simp) (by rw [HXE.out]; simp) (by rw [HXE.out]; simp) (by rw [HXE.out]; simp)
  rw [HXE.out] at hp
  obtain ⟨hp1, hp2, hp3⟩ := hp
  have HL : Hid (Leads xs t F ⟨0, r, t, []⟩ _) := H.led.trans (Leads.step hlt hp1)
  have HO : Hid (CfOk xs _) := hp2
  rw [hnx] at hp3
  go_wp2
  refine ⟨?_, by simp [WMu, intOf]; omega⟩
  unfold WI
  refine ⟨_, _, _, _, _, _, _, _, _, _, _, _, _, _, _, _, _, _, _, _, _, _, _, _, _, _, _, _, _, _, _, _, _, _, _, _, _, _, _, _, _, _, _, _, _, _, _, _, _, _, _, _, _, _, _, _, _, _, _, _, _, _, _, _, _, _, _, _, _, _, _, _, _, _, _, _, _, _, _, _, _, _, _, _, _, _, _, _, _, _, _, _, _, _, _, _, _, _, _, _, _, _, _, _, _, _, _, _, _, _, _, _, _, _, _, _, _, _, _, _, _, _, _, _, _, _, _, _, _, _, _, _, _, _, _, _, _, _, _, _, _, _, _, _, _, _, _, _, _, _, _, _, _, _, _, _, _, _, _, _, _, _, _, _, _, _, _, _, _, _, _, _, _, _, _, _, _, _, _, _, _, _, _, _, _, _, _, _, _, _, _, _, _, _, _, _, _, _, _, _, _, _, _, _, _, _, _, _, _, _, _, _, _, _, _, _, _, _, _, _, _, _, _, _, _, _, _, _, _, _, _, _, _, _, _, _, _, _, _, _, _, _, _, _, _, _, _, _, _, _, _, _, _, _, _, _, _, _, _, _, _, _, _, _, _, _, _, _, _, _, ?_, rfl⟩
  exact ⟨_, ms, gr, cr, gc, cc, gm, cm, ak, mk, ck, { rg := rfl, kg := rfl, p := by rw [hnx]; go_num, l := H.l, ok := HO.out, led := HL.out, st := S1.pc _ }⟩
end Ops
end Go.Proofs.Ytajbmokidcdfnaa
/- A round of l7Walk: an op of kind 8. -/
set_option linter.unusedVariables false
set_option linter.unusedSimpArgs false
namespace Go.Proofs.Ytajbmokidcdfnaa
open Go.RowKit
namespace Ops
open Bas Flat
theorem stAt_len (xs : List O4) : ∀ i, (stAt xs i).length ≤ i + 1
  | 0 => by simp [stAt]
  | i + 1 => by
    have := stAt_len xs i
    show (stepS _ _ (xs.getD i z4)).length ≤ _
    unfold stepS
    split
    · simp; omega
    · split
      · simp; omega
      · omega
theorem ok_ranges8b {a b c : Int} (h : okOp ⟨8, a, b, c⟩ = true) : (spans 8).elim False (fun p => (p.1.1 ≤ a ∧ a ≤ p.1.2) ∧ (p.2.1.1 ≤ b ∧ b ≤ p.2.1.2) ∧ (p.2.2.1 ≤ c ∧ c ≤ p.2.2.2)) := by
  unfold okOp opOk at h
  simp only [spans, Int.reduceEq, if_true, if_false, reduceIte, or_self, or_false, false_or, Bool.and_eq_true, inn, decide_eq_true_eq] at h ⊢
  simp only [Option.elim]
  omega
set_option maxRecDepth 1000000 in
set_option maxHeartbeats 16000000 in
theorem case8 {xs : List O4} {n : Nat} {F : List Int → Th → List Int × Th} {r : List Int} {t : Th} {w : World} {pR pS pT : Nat} {v0 v1 : Value} {wr : World} {s : Cf} {ms : List M5} {gr cr gc cc gm cm : Nat} {ak : Option Addr} {mk ck : Nat} (Q0 : Exit → Act → World → Prop) (Bc : Nat) (ax : Option Addr) (cxp : Nat)
    (c1 c2 c4 c5 c6 c7 c8 c26 c27 c28 c29 c30 c31 c32 c33 c289 c290 c291 u14 u15 u16 u17 u18 u19 u20 u21 u22 u23 u24 u25 u34 u35 u36 u37 u38 u39 u40 u41 u42 u43 u44 u45 u46 u47 u48 u49 u50 u51 u52 u53 u54 u55 u56 u57 u58 u59 u60 u61 u62 u63 u64 u65 u66 u67 u68 u69 u70 u71 u72 u73 u74 u75 u76 u77 u78 u79 u80 u81 u82 u83 u84 u85 u86 u87 u88 u89 u90 u91 u92 u93 u94 u95 u96 u97 u98 u99 u100 u101 u102 u103 u104 u105 u106 u107 u108 u109 u110 u111 u112 u113 u114 u115 u116 u117 u118 u119 u120 u121 u122 u123 u124 u125 u126 u127 u128 u129 u130 u131 u132 u133 u134 u135 u136 u137 u138 u139 u140 u141 u142 u143 u144 u145 u146 u147 u148 u149 u150 u151 u152 u153 u154 u155 u156 u157 u158 u159 u160 u161 u162 u163 u164 u165 u166 u167 u168 u169 u170 u171 u172 u173 u174 u175 u176 u177 u178 u179 u180 u181 u182 u183 u184 u185 u186 u187 u188 u189 u190 u191 u192 u193 u194 u195 u196 u197 u198 u199 u200 u201 u202 u203 u204 u205 u206 u207 u208 u209 u210 u211 u212 u213 u214 u215 u216 u217 u218 u219 u220 u221 u222 u223 u224 u225 u226 u227 u228 u229 u230 u231 u232 u233 u234 u235 u236 u237 u238 u239 u240 u241 u242 u243 u244 u245 u246 u247 u248 u249 u250 u251 u252 u253 u254 u255 u256 u257 u258 u259 u260 u261 u262 u263 u264 u265 u266 u267 u268 u269 u270 u271 u272 u273 u274 u275 u276 u277 u278 u279 u280 u281 u282 u283 u284 u285 u286 u287 u288 : Value) (hv : Sees4 Bc wr (.slice ax n cxp) xs) (hn : xs.length = n) (hn24 : n ≤ 24) (hc : codeOk xs = true) (hlt : s.pc < xs.length) (hBc : Bc ≤ wr.heap.size)
    (H : RelW xs n F r t w pR pS pT v0 v1 (.slice (some ⟨gr, 0, none⟩) 4 cr) (.slice ak mk ck) (.int .i64 s.pc) wr s ms gr cr gc cc gm cm ak mk ck) (hk : xs[s.pc].k = 8) :
    Code.wp Try.prog (bodyOf Try.f95.body) (Exit.then (fun a' w'' => WI xs n F r t w pR pS pT v0 v1 (.slice ax n cxp) c1 c2 c4 c5 c6 c7 c8 c26 c27 c28 c29 c30 c31 c32 c33 c289 c290 c291 a' w'' ∧ WMu n a' w'' < WMu n ⟨#[.slice ax n cxp, c1, c2, .slice (some ⟨gr, 0, none⟩) 4 cr, c4, c5, c6, c7, c8, .pointer (some ⟨pS, 0, none⟩), .pointer (some ⟨pR, 0, none⟩), .pointer (some ⟨pT, 0, none⟩), .slice ak mk ck, .int .i64 s.pc, u14, u15, u16, u17, u18, u19, u20, u21, u22, u23, u24, u25, c26, c27, c28, c29, c30, c31, c32, c33, u34, u35, u36, u37, u38, u39, u40, u41, u42, u43, u44, u45, u46, u47, u48, u49, u50, u51, u52, u53, u54, u55, u56, u57, u58, u59, u60, u61, u62, u63, u64, u65, u66, u67, u68, u69, u70, u71, u72, u73, u74, u75, u76, u77, u78, u79, u80, u81, u82, u83, u84, u85, u86, u87, u88, u89, u90, u91, u92, u93, u94, u95, u96, u97, u98, u99, u100, u101, u102, u103, u104, u105, u106, u107, u108, u109, u110, u111, u112, u113, u114, u115, u116, u117, u118, u119, u120, u121, u122, u123, u124, u125, u126, u127, u128, u129, u130, u131, u132, u133, u134, u135, u136, u137, u138, u139, u140, u141, u142, u143, u144, u145, u146, u147, u148, u149, u150, u151, u152, u153, u154, u155, u156, u157, u158, u159, u160, u161, u162, u163, u164, u165, u166, u167, u168, u169, u170, u171, u172, u173, u174, u175, u176, u177, u178, u179, u180, u181, u182, u183, u184, u185, u186, u187, u188, u189, u190, u191, u192, u193, u194, u195, u196, u197, u198, u199, u200, u201, u202, u203, u204, u205, u206, u207, u208, u209, u210, u211, u212, u213, u214, u215, u216, u217, u218, u219, u220, u221, u222, u223, u224, u225, u226, u227, u228, u229, u230, u231, u232, u233, u234, u235, u236, u237, u238, u239, u240, u241, u242, u243, u244, u245, u246, u247, u248, u249, u250, u251, u252, u253, u254, u255, u256, u257, u258, u259, u260, u261, u262, u263, u264, u265, u266, u267, u268, u269, u270, u271, u272, u273, u274, u275, u276, u277, u278, u279, u280, u281, u282, u283, u284, u285, u286, u287, u288, c289, c290, c291], []⟩ wr) Q0) ⟨#[.slice ax n cxp, c1, c2, .slice (some ⟨gr, 0, none⟩) 4 cr, c4, c5, c6, c7, c8, .pointer (some ⟨pS, 0, none⟩), .pointer (some ⟨pR, 0, none⟩), .pointer (some ⟨pT, 0, none⟩), .slice ak mk ck, .int .i64 s.pc, u14, u15, u16, u17, u18, u19, u20, u21, u22, u23, u24, u25, c26, c27, c28, c29, c30, c31, c32, c33, u34, u35, u36, u37, u38, u39, u40, u41, u42, u43, u44, u45, u46, u47, u48, u49, u50, u51, u52, u53, u54, u55, u56, u57, u58, u59, u60, u61, u62, u63, u64, u65, u66, u67, u68, u69, u70, u71, u72, u73, u74, u75, u76, u77, u78, u79, u80, u81, u82, u83, u84, u85, u86, u87, u88, u89, u90, u91, u92, u93, u94, u95, u96, u97, u98, u99, u100, u101, u102, u103, u104, u105, u106, u107, u108, u109, u110, u111, u112, u113, u114, u115, u116, u117, u118, u119, u120, u121, u122, u123, u124, u125, u126, u127, u128, u129, u130, u131, u132, u133, u134, u135, u136, u137, u138, u139, u140, u141, u142, u143, u144, u145, u146, u147, u148, u149, u150, u151, u152, u153, u154, u155, u156, u157, u158, u159, u160, u161, u162, u163, u164, u165, u166, u167, u168, u169, u170, u171, u172, u173, u174, u175, u176, u177, u178, u179, u180, u181, u182, u183, u184, u185, u186, u187, u188, u189, u190, u191, u192, u193, u194, u195, u196, u197, u198, u199, u200, u201, u202, u203, u204, u205, u206, u207, u208, u209, u210, u211, u212, u213, u214, u215, u216, u217, u218, u219, u220, u221, u222, u223, u224, u225, u226, u227, u228, u229, u230, u231, u232, u233, u234, u235, u236, u237, u238, u239, u240, u241, u242, u243, u244, u245, u246, u247, u248, u249, u250, u251, u252, u253, u254, u255, u256, u257, u258, u259, u260, u261, u262, u263, u264, u265, u266, u267, u268, u269, u270, u271, u272, u273, u274, u275, u276, u277, u278, u279, u280, u281, u282, u283, u284, u285, u286, u287, u288, c289, c290, c291], []⟩ wr := by
  conv => arg 2; whnf
  have hok := code_at hc hlt
  obtain ⟨b, off, rfl, hbB, hcc⟩ := hv.open (by omega)
  obtain ⟨o0, o1, o2, o3⟩ := see4 (B := Bc) hcc s.pc hlt
  have HCC := (show Hid _ from hcc)
  have hi : (s.pc : Int) < n := by omega
  have hi0 : (0 : Int) ≤ s.pc := by omega
  have hmu : n - s.pc < n - s.pc + 1 := by omega
  have HX : Hid (∀ x, xs[s.pc] = x → okOp x = true) := fun x hx => by rw [← hx]; exact hok
  obtain ⟨x, hx⟩ : ∃ x, xs[s.pc] = x := ⟨_, rfl⟩
  rw [hx] at o0 o1 o2 o3 hk hok
  have HXE : Hid (xs[s.pc] = x) := hx
  clear hx hcc HX
  obtain ⟨kk, oa, ob, oc⟩ := x
  simp only at o0 o1 o2 o3 hk
  subst hk
  have hokr := ok_ranges8b hok
  have S1 := H.st.on (alloc_below wr (.cells #[.int .i64 8, .int .i64 oa, .int .i64 ob, .int .i64 oc] 140))
  have X1 := Blk.new wr #[.int .i64 8, .int .i64 oa, .int .i64 ob, .int .i64 oc] 140
  obtain ⟨w1, hw1⟩ : ∃ W, wr.alloc (.cells #[.int .i64 8, .int .i64 oa, .int .i64 ob, .int .i64 oc] 140) = W := ⟨_, rfl⟩
  have HW1 := (show Hid _ from hw1)
  rw [hw1] at S1 X1
  clear hw1
  obtain ⟨hlr, -⟩ := regsOk_out H.ok.r
  obtain ⟨tc1, tc2, tc3⟩ := th_parts H.ok.t
  have hlc := (cellsOk_out tc1).1
  have hlm := (mapOk_out tc2).1
  go_wp2_with fail
  rw [HW1.out]
  obtain ⟨p, hp⟩ : ∃ p, wr.heap.size = p := ⟨_, rfl⟩
  rw [hp] at X1 ⊢
  clear hp HW1
  have y0 := S1.S.cell 0; have y1 := S1.S.cell 1; have y2 := S1.S.cell 2
  have hml : ms.length ≤ 24 := by
    have h1 := marksIs_len _ _ H.st.is
    have h2 := congrArg List.length H.ok.st
    have h3 := stAt_len xs s.pc
    simp only [List.length_reverse] at h1
    simp only [List.length_append, List.length_map, List.length_singleton] at h2
    omega
  obtain ⟨hst1, hst2⟩ := step_begin (t0 := t) (F := F) H.ok hlt (by rw [HXE.out])
  refine wp_region_noPanic ?_
  refine wp_region_held_drew (S := fun W => W.cell? ⟨pS, 0, none⟩ = some (.slice (some ⟨gc, 0, none⟩) 8 cc) ∧ W.cell? ⟨pS, 1, none⟩ = some (.slice (some ⟨gm, 0, none⟩) 8 cm) ∧ W.cell? ⟨pS, 2, none⟩ = some (.int .i64 s.t.n)) (by kernel_rfl) ⟨y0, y1, y2⟩ (fun hHeld => ?_)
  refine takeH (i := 0) (some 91) (.slice ak mk ck) rfl rfl (by kernel_rfl) (by kernel_rfl) (by kernel_rfl) (fun _ _ _ h => h) (Or.inl ⟨by rfl, fun W hSw => by obtain ⟨y0, y1, y2⟩ := hSw; go_simp⟩) (by assumption) ?_
  try simp only [Act.put, List.setIfInBounds_toArray, List.set_cons_zero, List.set_cons_succ]
  refine takeH (i := 1) (some 92) (.int .i64 s.pc) rfl rfl (by kernel_rfl) (by kernel_rfl) (by kernel_rfl) (fun _ _ _ h => h) (Or.inl ⟨by rfl, fun W hSw => by obtain ⟨y0, y1, y2⟩ := hSw; go_simp⟩) (by assumption) ?_
  try simp only [Act.put, List.setIfInBounds_toArray, List.set_cons_zero, List.set_cons_succ]
  refine takeH (i := 3) (some 94) (.slice (some ⟨gr, 0, none⟩) 4 cr) rfl rfl (by kernel_rfl) (by kernel_rfl) (by kernel_rfl) (fun _ _ _ h => h) (Or.inl ⟨by rfl, fun W hSw => by obtain ⟨y0, y1, y2⟩ := hSw; go_simp⟩) (by assumption) ?_
  try simp only [Act.put, List.setIfInBounds_toArray, List.set_cons_zero, List.set_cons_succ]
  refine takeH (i := 5) (some 96) (.agg #[.slice (some ⟨gc, 0, none⟩) 8 cc, .slice (some ⟨gm, 0, none⟩) 8 cm, .int .i64 s.t.n]) rfl rfl (by kernel_rfl) (by kernel_rfl) (by kernel_rfl) (fun _ _ _ h => h) (Or.inl ⟨by rfl, fun W hSw => by obtain ⟨y0, y1, y2⟩ := hSw; go_simp⟩) (by assumption) ?_
  try simp only [Act.put, List.setIfInBounds_toArray, List.set_cons_zero, List.set_cons_succ]
  refine wpAnyH_ready (rs := [2]) (by kernel_rfl) (by simp) ?_
  refine AllReadyH.cons rfl (fun K hK => ?_) AllReadyH.nil
  go_simp
  clear y0 y1 y2
  have A2 := alloc_below w1 (.cells #[] 3)
  have b12 : Below w1.heap.size w1 (w1.alloc (.cells #[] 3)).drew := ⟨A2.os, A2.tape, A2.output, A2.size, A2.block⟩
  have u2 : Ints.Owns w1.heap.size (w1.alloc (.cells #[] 3)).drew (.slice (some ⟨w1.heap.size, 0, none⟩) 0 0) [] := Ints.owns_lit w1 (Nat.le_refl _)
  obtain ⟨w2, hw2⟩ : ∃ W, (w1.alloc (.cells #[] 3)).drew = W := ⟨_, rfl⟩
  rw [hw2] at b12 u2 ⊢
  clear hw2 A2
  obtain ⟨p2, hp2⟩ : ∃ p, w1.heap.size = p := ⟨_, rfl⟩
  have HP2 := (show Hid _ from hp2)
  rw [hp2] at u2 b12 ⊢
  have S2 := S1.on (by rw [hp2]; exact b12)
  have s12 := b12.size
  rw [hp2] at s12
  clear hp2
  refine hK.out _ _ ⟨by have := S2.S.cell 0; simpa using this, by have := S2.S.cell 1; simpa using this, by have := S2.S.cell 2; simpa using this⟩ (fun hH2 => ?_)
  clear hK K
  try simp only [Act.put, List.setIfInBounds_toArray, List.set_cons_zero, List.set_cons_succ]
  refine wpAnyH_ready (rs := [4]) (by kernel_rfl) (by simp) ?_
  refine AllReadyH.cons rfl (fun K hK => ?_) AllReadyH.nil
  obtain ⟨v4, w4, hr4, O4, G4, L4⟩ := Ints.appJ (.slice (some ⟨p2, 0, none⟩) 0 0) (.slice (some ⟨gr, 0, none⟩) 4 cr) 23 [] s.r w2.heap.size p2 w2 u2 s12 S2.r.sees (by simp; omega)
  rw [List.nil_append] at O4
  have b14 : Below p2 w1 w4 := b12.grown G4 s12 (fun k hk => by cases hk; exact Nat.le_refl _)
  have S4 := S1.on (by rw [HP2.out]; exact b14)
  refine step_app rfl (.tmp 93) (.tmp 94) 23 rfl _ _ v4 w4 rfl rfl hr4 ?_
  clear hr4 G4 L4 u2
  refine hK.out _ _ ⟨by have := S4.S.cell 0; simpa using this, by have := S4.S.cell 1; simpa using this, by have := S4.S.cell 2; simpa using this⟩ (fun hH4 => ?_)
  clear hK K
  try simp only [Act.put, List.setIfInBounds_toArray, List.set_cons_zero, List.set_cons_succ]
  refine wpAnyH_ready (rs := [6]) (by kernel_rfl) (by simp) ?_
  refine AllReadyH.cons rfl (fun K hK => ?_) AllReadyH.nil
  have cC := copyC (.slice (some ⟨gc, 0, none⟩) 8 cc) (.slice (some ⟨gm, 0, none⟩) 8 cm) s.t w4.heap.size w4 ⟨S4.c.sees, S4.m.sees⟩ (Nat.le_refl _) (by omega) (by omega)
  go_simp
  refine cC.mono ?_
  rintro e w5 ⟨vc5, vm5, rfl, T5, b5⟩
  clear cC
  have s24 := b14.size
  rw [HP2.out] at s24
  have S5 := S4.on b5
  obtain ⟨a4, c4', rfl⟩ := O4.form
  obtain ⟨a5, c5', rfl⟩ := T5.c.form
  obtain ⟨am5, cm5, rfl⟩ := T5.m.form
  have hl4 : s.r.length = 4 := hlr
  rw [hl4] at O4 ⊢
  rw [hlc] at T5 ⊢
  rw [hlm] at T5 ⊢
  have b15 := b14.trans (b5.mono s24)
  obtain ⟨v9, w9, hr9, S9⟩ := S1.push (by rw [HP2.out]; exact b15) (by omega) ⟨s.pc, ⟨a4, 4, c4'⟩, ⟨a5, 8, c5'⟩, ⟨am5, 8, cm5⟩, s.t.n⟩ ⟨rfl, rfl⟩ (by rw [HP2.out]; exact O4.on b5 (Nat.le_refl _)) (by rw [HP2.out]; exact T5.c.mono s24) (by rw [HP2.out]; exact T5.m.mono s24)
  go_simp
  refine hK.out _ _ ⟨by have := S5.S.cell 0; simpa using this, by have := S5.S.cell 1; simpa using this, by have := S5.S.cell 2; simpa using this⟩ (fun hH5 => ?_)
  clear hK K
  try simp only [Act.put, List.setIfInBounds_toArray, List.set_cons_zero, List.set_cons_succ]
  refine takeH (i := 7) (some 98) (.agg #[.int .i64 s.pc, .slice a4 4 c4', .slice a5 8 c5', .slice am5 8 cm5, .int .i64 s.t.n]) rfl rfl (by kernel_rfl) (by kernel_rfl) (by kernel_rfl) (fun _ _ _ h => h) (Or.inl ⟨by rfl, fun W hSw => by obtain ⟨y0, y1, y2⟩ := hSw; go_simp⟩) (by assumption) ?_
  try simp only [Act.put, List.setIfInBounds_toArray, List.set_cons_zero, List.set_cons_succ]
  refine wpAnyH_ready (rs := [8]) (by kernel_rfl) (by simp) ?_
  refine AllReadyH.cons rfl (fun K hK => ?_) AllReadyH.nil
  go_simp
  have S8 := S5.on (alloc_below w5 (.cells #[.int .i64 s.pc, .slice a4 4 c4', .slice a5 8 c5', .slice am5 8 cm5, .int .i64 s.t.n] 154))
  refine hK.out _ _ ⟨by have := S8.S.cell 0; simpa using this, by have := S8.S.cell 1; simpa using this, by have := S8.S.cell 2; simpa using this⟩ (fun hH8 => ?_)
  clear hK K
  try simp only [Act.put, List.setIfInBounds_toArray, List.set_cons_zero, List.set_cons_succ]
  refine wpAnyH_ready (rs := [9]) (by kernel_rfl) (by simp) ?_
  refine AllReadyH.cons rfl (fun K hK => ?_) AllReadyH.nil
  refine step_app rfl (.tmp 91) (.tmp 99) 152 rfl _ _ v9 w9 rfl rfl hr9 ?_
  refine hK.out _ _ ⟨by have := S9.S.cell 0; simpa using this, by have := S9.S.cell 1; simpa using this, by have := S9.S.cell 2; simpa using this⟩ (fun hH9 => ?_)
  clear hK K
  try simp only [Act.put, List.setIfInBounds_toArray, List.set_cons_zero, List.set_cons_succ]
  refine wpAnyH_ready (rs := [10]) (by kernel_rfl) (by simp) ?_
  refine AllReadyH.cons rfl (fun K hK => ?_) AllReadyH.nil
  go_simp
  refine hK.out _ _ ⟨by have := S9.S.cell 0; simpa using this, by have := S9.S.cell 1; simpa using this, by have := S9.S.cell 2; simpa using this⟩ (fun hH10 => ?_)
  clear hK K
  try simp only [Act.put, List.setIfInBounds_toArray, List.set_cons_zero, List.set_cons_succ]
  refine wpAnyH_done (by kernel_rfl) (NoPanic.normal ?_) _
  clear hr9 S2 S4 S5 S8 O4 T5 b5 b14 b12 b15 hH2 hH4 hH5 hH8 hH9 hH10
  have hkl : (ms ++ [(⟨s.pc, ⟨a4, 4, c4'⟩, ⟨a5, 8, c5'⟩, ⟨am5, 8, cm5⟩, s.t.n⟩ : M5)]).length = mk + 1 := by have := H.l; simp; omega
  obtain ⟨a9, c9, rfl⟩ := S9.k.form
  rw [hkl] at S9 ⊢
  have HL : Hid (Leads xs t F ⟨0, r, t, []⟩ _) := H.led.trans (Leads.step hlt hst1)
  have HO : Hid (CfOk xs _) := hst2
  go_wp2
  refine ⟨?_, by simp [WMu, intOf]; omega⟩
  unfold WI
  refine ⟨_, _, _, _, _, _, _, _, _, _, _, _, _, _, _, _, _, _, _, _, _, _, _, _, _, _, _, _, _, _, _, _, _, _, _, _, _, _, _, _, _, _, _, _, _, _, _, _, _, _, _, _, _, _, _, _, _, _, _, _, _, _, _, _, _, _, _, _, _, _, _, _, _, _, _, _, _, _, _, _, _, _, _, _, _, _, _, _, _, _, _, _, _, _, _, _, _, _, _, _, _, _, _, _, _, _, _, _, _, _, _, _, _, _, _, _, _, _, _, _, _, _, _, _, _, _, _, _, _, _, _, _, _, _, _, _, _, _, _, _, _, _, _, _, _, _, _, _, _, _, _, _, _, _, _, _, _, _, _, _, _, _, _, _, _, _, _, _, _, _, _, _, _, _, _, _, _, _, _, _, _, _, _, _, _, _, _, _, _, _, _, _, _, _, _, _, _, _, _, _, _, _, _, _, _, _, _, _, _, _, _, _, _, _, _, _, _, _, _, _, _, _, _, _, _, _, _, _, _, _, _, _, _, _, _, _, _, _, _, _, _, _, _, _, _, _, _, _, _, _, _, _, _, _, _, _, _, _, _, _, _, _, _, _, _, _, _, _, _, _, ?_, rfl⟩
  exact ⟨_, _, gr, cr, gc, cc, gm, cm, _, _, _, { rg := rfl, kg := rfl, p := by go_num, l := hkl, ok := HO.out, led := HL.out, st := S9.pc _ }⟩
end Ops
end Go.Proofs.Ytajbmokidcdfnaa
/- A round of l7Walk: an op of kind 9. -/
set_option linter.unusedVariables false
set_option linter.unusedSimpArgs false
namespace Go.Proofs.Ytajbmokidcdfnaa
open Go.RowKit
namespace Ops
open Bas Flat
theorem ok_ranges8 {a b c : Int} (h : okOp ⟨8, a, b, c⟩ = true) : (spans 8).elim False (fun p => (p.1.1 ≤ a ∧ a ≤ p.1.2) ∧ (p.2.1.1 ≤ b ∧ b ≤ p.2.1.2) ∧ (p.2.2.1 ≤ c ∧ c ≤ p.2.2.2)) := by
  unfold okOp opOk at h
  simp only [spans, Int.reduceEq, if_true, if_false, reduceIte, or_self, or_false, false_or, Bool.and_eq_true, inn, decide_eq_true_eq] at h ⊢
  simp only [Option.elim]
  omega
theorem ok_ranges9 {a b c : Int} (h : okOp ⟨9, a, b, c⟩ = true) : (spans 9).elim False (fun p => (p.1.1 ≤ a ∧ a ≤ p.1.2) ∧ (p.2.1.1 ≤ b ∧ b ≤ p.2.1.2) ∧ (p.2.2.1 ≤ c ∧ c ≤ p.2.2.2)) := by
  unfold okOp opOk at h
  simp only [spans, Int.reduceEq, if_true, if_false, reduceIte, or_self, or_false, false_or, Bool.and_eq_true, inn, decide_eq_true_eq] at h ⊢
  simp only [Option.elim]
  omega
set_option maxRecDepth 1000000 in
set_option maxHeartbeats 16000000 in
theorem case9 {xs : List O4} {n : Nat} {F : List Int → Th → List Int × Th} {r : List Int} {t : Th} {w : World} {pR pS pT : Nat} {v0 v1 : Value} {wr : World} {s : Cf} {ms : List M5} {gr cr gc cc gm cm : Nat} {ak : Option Addr} {mk ck : Nat} (Q0 : Exit → Act → World → Prop) (Bc : Nat) (ax : Option Addr) (cxp : Nat)
    (c1 c2 c4 c5 c6 c7 c8 c26 c27 c28 c29 c30 c31 c32 c33 c289 c290 c291 u14 u15 u16 u17 u18 u19 u20 u21 u22 u23 u24 u25 u34 u35 u36 u37 u38 u39 u40 u41 u42 u43 u44 u45 u46 u47 u48 u49 u50 u51 u52 u53 u54 u55 u56 u57 u58 u59 u60 u61 u62 u63 u64 u65 u66 u67 u68 u69 u70 u71 u72 u73 u74 u75 u76 u77 u78 u79 u80 u81 u82 u83 u84 u85 u86 u87 u88 u89 u90 u91 u92 u93 u94 u95 u96 u97 u98 u99 u100 u101 u102 u103 u104 u105 u106 u107 u108 u109 u110 u111 u112 u113 u114 u115 u116 u117 u118 u119 u120 u121 u122 u123 u124 u125 u126 u127 u128 u129 u130 u131 u132 u133 u134 u135 u136 u137 u138 u139 u140 u141 u142 u143 u144 u145 u146 u147 u148 u149 u150 u151 u152 u153 u154 u155 u156 u157 u158 u159 u160 u161 u162 u163 u164 u165 u166 u167 u168 u169 u170 u171 u172 u173 u174 u175 u176 u177 u178 u179 u180 u181 u182 u183 u184 u185 u186 u187 u188 u189 u190 u191 u192 u193 u194 u195 u196 u197 u198 u199 u200 u201 u202 u203 u204 u205 u206 u207 u208 u209 u210 u211 u212 u213 u214 u215 u216 u217 u218 u219 u220 u221 u222 u223 u224 u225 u226 u227 u228 u229 u230 u231 u232 u233 u234 u235 u236 u237 u238 u239 u240 u241 u242 u243 u244 u245 u246 u247 u248 u249 u250 u251 u252 u253 u254 u255 u256 u257 u258 u259 u260 u261 u262 u263 u264 u265 u266 u267 u268 u269 u270 u271 u272 u273 u274 u275 u276 u277 u278 u279 u280 u281 u282 u283 u284 u285 u286 u287 u288 : Value) (hv : Sees4 Bc wr (.slice ax n cxp) xs) (hn : xs.length = n) (hn24 : n ≤ 24) (hc : codeOk xs = true) (hlt : s.pc < xs.length) (hBc : Bc ≤ wr.heap.size)
    (H : RelW xs n F r t w pR pS pT v0 v1 (.slice (some ⟨gr, 0, none⟩) 4 cr) (.slice ak mk ck) (.int .i64 s.pc) wr s ms gr cr gc cc gm cm ak mk ck) (hk : xs[s.pc].k = 9) :
    Code.wp Try.prog (bodyOf Try.f95.body) (Exit.then (fun a' w'' => WI xs n F r t w pR pS pT v0 v1 (.slice ax n cxp) c1 c2 c4 c5 c6 c7 c8 c26 c27 c28 c29 c30 c31 c32 c33 c289 c290 c291 a' w'' ∧ WMu n a' w'' < WMu n ⟨#[.slice ax n cxp, c1, c2, .slice (some ⟨gr, 0, none⟩) 4 cr, c4, c5, c6, c7, c8, .pointer (some ⟨pS, 0, none⟩), .pointer (some ⟨pR, 0, none⟩), .pointer (some ⟨pT, 0, none⟩), .slice ak mk ck, .int .i64 s.pc, u14, u15, u16, u17, u18, u19, u20, u21, u22, u23, u24, u25, c26, c27, c28, c29, c30, c31, c32, c33, u34, u35, u36, u37, u38, u39, u40, u41, u42, u43, u44, u45, u46, u47, u48, u49, u50, u51, u52, u53, u54, u55, u56, u57, u58, u59, u60, u61, u62, u63, u64, u65, u66, u67, u68, u69, u70, u71, u72, u73, u74, u75, u76, u77, u78, u79, u80, u81, u82, u83, u84, u85, u86, u87, u88, u89, u90, u91, u92, u93, u94, u95, u96, u97, u98, u99, u100, u101, u102, u103, u104, u105, u106, u107, u108, u109, u110, u111, u112, u113, u114, u115, u116, u117, u118, u119, u120, u121, u122, u123, u124, u125, u126, u127, u128, u129, u130, u131, u132, u133, u134, u135, u136, u137, u138, u139, u140, u141, u142, u143, u144, u145, u146, u147, u148, u149, u150, u151, u152, u153, u154, u155, u156, u157, u158, u159, u160, u161, u162, u163, u164, u165, u166, u167, u168, u169, u170, u171, u172, u173, u174, u175, u176, u177, u178, u179, u180, u181, u182, u183, u184, u185, u186, u187, u188, u189, u190, u191, u192, u193, u194, u195, u196, u197, u198, u199, u200, u201, u202, u203, u204, u205, u206, u207, u208, u209, u210, u211, u212, u213, u214, u215, u216, u217, u218, u219, u220, u221, u222, u223, u224, u225, u226, u227, u228, u229, u230, u231, u232, u233, u234, u235, u236, u237, u238, u239, u240, u241, u242, u243, u244, u245, u246, u247, u248, u249, u250, u251, u252, u253, u254, u255, u256, u257, u258, u259, u260, u261, u262, u263, u264, u265, u266, u267, u268, u269, u270, u271, u272, u273, u274, u275, u276, u277, u278, u279, u280, u281, u282, u283, u284, u285, u286, u287, u288, c289, c290, c291], []⟩ wr) Q0) ⟨#[.slice ax n cxp, c1, c2, .slice (some ⟨gr, 0, none⟩) 4 cr, c4, c5, c6, c7, c8, .pointer (some ⟨pS, 0, none⟩), .pointer (some ⟨pR, 0, none⟩), .pointer (some ⟨pT, 0, none⟩), .slice ak mk ck, .int .i64 s.pc, u14, u15, u16, u17, u18, u19, u20, u21, u22, u23, u24, u25, c26, c27, c28, c29, c30, c31, c32, c33, u34, u35, u36, u37, u38, u39, u40, u41, u42, u43, u44, u45, u46, u47, u48, u49, u50, u51, u52, u53, u54, u55, u56, u57, u58, u59, u60, u61, u62, u63, u64, u65, u66, u67, u68, u69, u70, u71, u72, u73, u74, u75, u76, u77, u78, u79, u80, u81, u82, u83, u84, u85, u86, u87, u88, u89, u90, u91, u92, u93, u94, u95, u96, u97, u98, u99, u100, u101, u102, u103, u104, u105, u106, u107, u108, u109, u110, u111, u112, u113, u114, u115, u116, u117, u118, u119, u120, u121, u122, u123, u124, u125, u126, u127, u128, u129, u130, u131, u132, u133, u134, u135, u136, u137, u138, u139, u140, u141, u142, u143, u144, u145, u146, u147, u148, u149, u150, u151, u152, u153, u154, u155, u156, u157, u158, u159, u160, u161, u162, u163, u164, u165, u166, u167, u168, u169, u170, u171, u172, u173, u174, u175, u176, u177, u178, u179, u180, u181, u182, u183, u184, u185, u186, u187, u188, u189, u190, u191, u192, u193, u194, u195, u196, u197, u198, u199, u200, u201, u202, u203, u204, u205, u206, u207, u208, u209, u210, u211, u212, u213, u214, u215, u216, u217, u218, u219, u220, u221, u222, u223, u224, u225, u226, u227, u228, u229, u230, u231, u232, u233, u234, u235, u236, u237, u238, u239, u240, u241, u242, u243, u244, u245, u246, u247, u248, u249, u250, u251, u252, u253, u254, u255, u256, u257, u258, u259, u260, u261, u262, u263, u264, u265, u266, u267, u268, u269, u270, u271, u272, u273, u274, u275, u276, u277, u278, u279, u280, u281, u282, u283, u284, u285, u286, u287, u288, c289, c290, c291], []⟩ wr := by
  conv => arg 2; whnf
  have hok := code_at hc hlt
  obtain ⟨b, off, rfl, hbB, hcc⟩ := hv.open (by omega)
  obtain ⟨o0, o1, o2, o3⟩ := see4 (B := Bc) hcc s.pc hlt
  have HCC := (show Hid _ from hcc)
  have hi : (s.pc : Int) < n := by omega
  have hi0 : (0 : Int) ≤ s.pc := by omega
  have hmu : n - s.pc < n - s.pc + 1 := by omega
  have HX : Hid (∀ x, xs[s.pc] = x → okOp x = true) := fun x hx => by rw [← hx]; exact hok
  obtain ⟨x, hx⟩ : ∃ x, xs[s.pc] = x := ⟨_, rfl⟩
  rw [hx] at o0 o1 o2 o3 hk hok
  have HXE : Hid (xs[s.pc] = x) := hx
  clear hx hcc HX
  obtain ⟨kk, oa, ob, oc⟩ := x
  simp only at o0 o1 o2 o3 hk
  subst hk
  have hokr := ok_ranges9 hok
  have S1 := H.st.on (alloc_below wr (.cells #[.int .i64 9, .int .i64 oa, .int .i64 ob, .int .i64 oc] 140))
  have X1 := Blk.new wr #[.int .i64 9, .int .i64 oa, .int .i64 ob, .int .i64 oc] 140
  obtain ⟨hlr, -⟩ := regsOk_out H.ok.r
  obtain ⟨tc1, tc2, tc3⟩ := th_parts H.ok.t
  have hlc := (cellsOk_out tc1).1
  have hlm := (mapOk_out tc2).1
  obtain ⟨y, ks, hky, hst1, hst2⟩ := step_end (t0 := t) (F := F) hc H.ok hlt (by rw [HXE.out])
  have his := H.st.is
  rw [hky] at his
  obtain ⟨ms', x, rfl, hml⟩ := marks_last his
  obtain ⟨jm, hjm⟩ : ∃ j, ms'.length = j := ⟨_, rfl⟩
  have hmk : mk = jm + 1 := by have := H.l; simp at this; omega
  subst hmk
  obtain ⟨gk, rfl⟩ : ∃ g, ak = some ⟨g, 0, none⟩ := by
    have hO := H.st.k
    unfold Flat.Owns at hO
    rcases hO.2 with ⟨e, -⟩ | ⟨g, cap, cur, e, -⟩
    · cases e
    · injection e with e _ _; exact ⟨g, e⟩
  obtain ⟨ym1, ym2, ym3, ym4⟩ := H.ok.k y (by rw [hky]; simp)
  have hmo := code_at hc ym3
  have hm8 : xs[y.pc].k = 8 := by rw [← xs_at ym3]; exact ym4
  obtain ⟨e0, e1, e2, e3⟩ := see4 (B := Bc) HCC.out y.pc ym3
  have hw1b : Below Bc wr (wr.alloc (.cells #[.int .i64 9, .int .i64 oa, .int .i64 ob, .int .i64 oc] 140)) := (Below.refl Bc wr).alloc hBc _
  obtain ⟨⟨n0, n1, n2, n3, n4⟩, ncap⟩ := mark_cells S1.k hjm
  obtain ⟨hm1, hm2⟩ := (S1.pop hjm hky).2
  have hxpc : x.pc = (y.pc : Int) := hm1.1
  rw [hxpc] at n0
  obtain ⟨z, hz⟩ : ∃ z, xs[y.pc] = z := ⟨_, rfl⟩
  have HZ : Hid (xs.getD y.pc z4 = z) := by rw [← hz]; exact xs_at ym3
  rw [hz] at e0 e1 e2 e3 hmo hm8
  obtain ⟨zk, za, zb, zc⟩ := z
  simp only at e0 e1 e2 e3 hm8
  subst hm8
  have hzr := ok_ranges8 hmo
  simp only [spans, Int.reduceEq, if_true, if_false, reduceIte, or_self, or_false, false_or, true_or, or_true, Option.elim] at hzr
  obtain ⟨ia, rfl⟩ := Int.eq_ofNat_of_zero_le (show 0 ≤ za by omega)
  rw [HZ.out] at hst1 hst2
  obtain ⟨xp, ⟨xra, xrn, xrc⟩, ⟨xca, xcn, xcc⟩, ⟨xma, xmn, xmc⟩, xn⟩ := x
  simp only [S3.val] at n0 n1 n2 n3 n4
  have hz1 : (wr.alloc (.cells #[.int .i64 9, .int .i64 oa, .int .i64 ob, .int .i64 oc] 140)).heap.size = wr.heap.size + 1 := by simp
  have B2 := alloc_below (wr.alloc (.cells #[.int .i64 9, .int .i64 oa, .int .i64 ob, .int .i64 oc] 140)) (.cells #[.int .i64 y.pc, .slice xra xrn xrc, .slice xca xcn xcc, .slice xma xmn xmc, .int .i64 xn] 154)
  have M2 := Blk.new (wr.alloc (.cells #[.int .i64 9, .int .i64 oa, .int .i64 ob, .int .i64 oc] 140)) #[.int .i64 y.pc, .slice xra xrn xrc, .slice xca xcn xcc, .slice xma xmn xmc, .int .i64 xn] 154
  rw [hz1] at M2
  have S2 := ((S1.on B2).pop hjm hky).1
  have hw2b := hw1b.trans (B2.mono (show Bc ≤ _ by rw [hz1]; omega))
  have e1' := (hw2b.cell (p := ⟨b, off + y.pc * 4 + 1, none⟩) hbB).trans e1
  have m0 := M2.cell 0
  obtain ⟨q1, z1⟩ := int_cell S2.r ia (by show ia < s.r.length; omega)
  have S3 := S2.setR ia 1
  have i1 : (ia : Int) < 4 := by omega
  have i3 : (0 : Int) ≤ ia := by omega
  have hroom := S1.k.sees.room
  have i9 : (jm : Int) ≤ 9223372036854775806 := by unfold maxLen at hroom; simp at hroom; omega
  clear hroom
  have i5 : (0 : Int) ≤ jm := by omega
  have i6 : (jm : Int) ≤ ck := by omega
  have i7 : (y.pc : Int) < n := by omega
  have i8 : (0 : Int) ≤ y.pc := by omega
  have HL : Hid (Leads xs t F ⟨0, r, t, []⟩ _) := H.led.trans (Leads.step hlt hst1)
  have HO : Hid (CfOk xs _) := hst2
  go_wp2
  refine ⟨?_, by simp [WMu, intOf]; omega⟩
  unfold WI
  refine ⟨_, _, _, _, _, _, _, _, _, _, _, _, _, _, _, _, _, _, _, _, _, _, _, _, _, _, _, _, _, _, _, _, _, _, _, _, _, _, _, _, _, _, _, _, _, _, _, _, _, _, _, _, _, _, _, _, _, _, _, _, _, _, _, _, _, _, _, _, _, _, _, _, _, _, _, _, _, _, _, _, _, _, _, _, _, _, _, _, _, _, _, _, _, _, _, _, _, _, _, _, _, _, _, _, _, _, _, _, _, _, _, _, _, _, _, _, _, _, _, _, _, _, _, _, _, _, _, _, _, _, _, _, _, _, _, _, _, _, _, _, _, _, _, _, _, _, _, _, _, _, _, _, _, _, _, _, _, _, _, _, _, _, _, _, _, _, _, _, _, _, _, _, _, _, _, _, _, _, _, _, _, _, _, _, _, _, _, _, _, _, _, _, _, _, _, _, _, _, _, _, _, _, _, _, _, _, _, _, _, _, _, _, _, _, _, _, _, _, _, _, _, _, _, _, _, _, _, _, _, _, _, _, _, _, _, _, _, _, _, _, _, _, _, _, _, _, _, _, _, _, _, _, _, _, _, _, _, _, _, _, _, _, _, _, _, _, _, _, _, _, ?_, rfl⟩
  exact ⟨_, ms', gr, cr, gc, cc, gm, cm, _, jm, ck, { rg := rfl, kg := rfl, p := by go_num, l := hjm, ok := HO.out, led := HL.out, st := S3.pc _ }⟩
end Ops
end Go.Proofs.Ytajbmokidcdfnaa
/- A round of l7Walk: an op of kind 10. -/
set_option linter.unusedVariables false
set_option linter.unusedSimpArgs false
namespace Go.Proofs.Ytajbmokidcdfnaa
open Go.RowKit
namespace Ops
open Bas Flat
theorem own_someW {B : Nat} {W : World} {a : Option Addr} {n c : Nat} {zs : List Int} (h : Ints.Owns B W (.slice a n c) zs) (hn : 0 < n) : ∃ g, a = some ⟨g, 0, none⟩ := by
  have hO := h
  unfold Ints.Owns at hO
  rcases hO.2 with ⟨e, e'⟩ | ⟨g, cap, cur, e, -⟩
  · cases e; omega
  · injection e with e _ _; exact ⟨g, e⟩
theorem len_owns {B : Nat} {W : World} {a : Option Addr} {n c : Nat} {zs : List Int} (h : Ints.Owns B W (.slice a n c) zs) : n = zs.length := by
  obtain ⟨a', c', e⟩ := h.form
  cases e; rfl
theorem ok_ranges8a {a b c : Int} (h : okOp ⟨8, a, b, c⟩ = true) : (spans 8).elim False (fun p => (p.1.1 ≤ a ∧ a ≤ p.1.2) ∧ (p.2.1.1 ≤ b ∧ b ≤ p.2.1.2) ∧ (p.2.2.1 ≤ c ∧ c ≤ p.2.2.2)) := by
  unfold okOp opOk at h
  simp only [spans, Int.reduceEq, if_true, if_false, reduceIte, or_self, or_false, false_or, Bool.and_eq_true, inn, decide_eq_true_eq] at h ⊢
  simp only [Option.elim]
  omega
theorem ok_ranges10a {a b c : Int} (h : okOp ⟨10, a, b, c⟩ = true) : (spans 10).elim False (fun p => (p.1.1 ≤ a ∧ a ≤ p.1.2) ∧ (p.2.1.1 ≤ b ∧ b ≤ p.2.1.2) ∧ (p.2.2.1 ≤ c ∧ c ≤ p.2.2.2)) := by
  unfold okOp opOk at h
  simp only [spans, Int.reduceEq, if_true, if_false, reduceIte, or_self, or_false, false_or, Bool.and_eq_true, inn, decide_eq_true_eq] at h ⊢
  simp only [Option.elim]
  omega
set_option maxRecDepth 1000000 in
set_option maxHeartbeats 16000000 in
theorem case10 {xs : List O4} {n : Nat} {F : List Int → Th → List Int × Th} {r : List Int} {t : Th} {w : World} {pR pS pT : Nat} {v0 v1 : Value} {wr : World} {s : Cf} {ms : List M5} {gr cr gc cc gm cm : Nat} {ak : Option Addr} {mk ck : Nat} (Q0 : Exit → Act → World → Prop) (Bc : Nat) (ax : Option Addr) (cxp : Nat)
    (c1 c2 c4 c5 c6 c7 c8 c26 c27 c28 c29 c30 c31 c32 c33 c289 c290 c291 u14 u15 u16 u17 u18 u19 u20 u21 u22 u23 u24 u25 u34 u35 u36 u37 u38 u39 u40 u41 u42 u43 u44 u45 u46 u47 u48 u49 u50 u51 u52 u53 u54 u55 u56 u57 u58 u59 u60 u61 u62 u63 u64 u65 u66 u67 u68 u69 u70 u71 u72 u73 u74 u75 u76 u77 u78 u79 u80 u81 u82 u83 u84 u85 u86 u87 u88 u89 u90 u91 u92 u93 u94 u95 u96 u97 u98 u99 u100 u101 u102 u103 u104 u105 u106 u107 u108 u109 u110 u111 u112 u113 u114 u115 u116 u117 u118 u119 u120 u121 u122 u123 u124 u125 u126 u127 u128 u129 u130 u131 u132 u133 u134 u135 u136 u137 u138 u139 u140 u141 u142 u143 u144 u145 u146 u147 u148 u149 u150 u151 u152 u153 u154 u155 u156 u157 u158 u159 u160 u161 u162 u163 u164 u165 u166 u167 u168 u169 u170 u171 u172 u173 u174 u175 u176 u177 u178 u179 u180 u181 u182 u183 u184 u185 u186 u187 u188 u189 u190 u191 u192 u193 u194 u195 u196 u197 u198 u199 u200 u201 u202 u203 u204 u205 u206 u207 u208 u209 u210 u211 u212 u213 u214 u215 u216 u217 u218 u219 u220 u221 u222 u223 u224 u225 u226 u227 u228 u229 u230 u231 u232 u233 u234 u235 u236 u237 u238 u239 u240 u241 u242 u243 u244 u245 u246 u247 u248 u249 u250 u251 u252 u253 u254 u255 u256 u257 u258 u259 u260 u261 u262 u263 u264 u265 u266 u267 u268 u269 u270 u271 u272 u273 u274 u275 u276 u277 u278 u279 u280 u281 u282 u283 u284 u285 u286 u287 u288 : Value) (hv : Sees4 Bc wr (.slice ax n cxp) xs) (hn : xs.length = n) (hn24 : n ≤ 24) (hc : codeOk xs = true) (hlt : s.pc < xs.length) (hBc : Bc ≤ wr.heap.size)
    (H : RelW xs n F r t w pR pS pT v0 v1 (.slice (some ⟨gr, 0, none⟩) 4 cr) (.slice ak mk ck) (.int .i64 s.pc) wr s ms gr cr gc cc gm cm ak mk ck) (hk : xs[s.pc].k = 10) (y : Mk) (ks : List Mk) (hky : s.k = y :: ks) (hBS : Bc ≤ pS) :
    Code.wp Try.prog (bodyOf Try.f95.body) (Exit.then (fun a' w'' => WI xs n F r t w pR pS pT v0 v1 (.slice ax n cxp) c1 c2 c4 c5 c6 c7 c8 c26 c27 c28 c29 c30 c31 c32 c33 c289 c290 c291 a' w'' ∧ WMu n a' w'' < WMu n ⟨#[.slice ax n cxp, c1, c2, .slice (some ⟨gr, 0, none⟩) 4 cr, c4, c5, c6, c7, c8, .pointer (some ⟨pS, 0, none⟩), .pointer (some ⟨pR, 0, none⟩), .pointer (some ⟨pT, 0, none⟩), .slice ak mk ck, .int .i64 s.pc, u14, u15, u16, u17, u18, u19, u20, u21, u22, u23, u24, u25, c26, c27, c28, c29, c30, c31, c32, c33, u34, u35, u36, u37, u38, u39, u40, u41, u42, u43, u44, u45, u46, u47, u48, u49, u50, u51, u52, u53, u54, u55, u56, u57, u58, u59, u60, u61, u62, u63, u64, u65, u66, u67, u68, u69, u70, u71, u72, u73, u74, u75, u76, u77, u78, u79, u80, u81, u82, u83, u84, u85, u86, u87, u88, u89, u90, u91, u92, u93, u94, u95, u96, u97, u98, u99, u100, u101, u102, u103, u104, u105, u106, u107, u108, u109, u110, u111, u112, u113, u114, u115, u116, u117, u118, u119, u120, u121, u122, u123, u124, u125, u126, u127, u128, u129, u130, u131, u132, u133, u134, u135, u136, u137, u138, u139, u140, u141, u142, u143, u144, u145, u146, u147, u148, u149, u150, u151, u152, u153, u154, u155, u156, u157, u158, u159, u160, u161, u162, u163, u164, u165, u166, u167, u168, u169, u170, u171, u172, u173, u174, u175, u176, u177, u178, u179, u180, u181, u182, u183, u184, u185, u186, u187, u188, u189, u190, u191, u192, u193, u194, u195, u196, u197, u198, u199, u200, u201, u202, u203, u204, u205, u206, u207, u208, u209, u210, u211, u212, u213, u214, u215, u216, u217, u218, u219, u220, u221, u222, u223, u224, u225, u226, u227, u228, u229, u230, u231, u232, u233, u234, u235, u236, u237, u238, u239, u240, u241, u242, u243, u244, u245, u246, u247, u248, u249, u250, u251, u252, u253, u254, u255, u256, u257, u258, u259, u260, u261, u262, u263, u264, u265, u266, u267, u268, u269, u270, u271, u272, u273, u274, u275, u276, u277, u278, u279, u280, u281, u282, u283, u284, u285, u286, u287, u288, c289, c290, c291], []⟩ wr) Q0) ⟨#[.slice ax n cxp, c1, c2, .slice (some ⟨gr, 0, none⟩) 4 cr, c4, c5, c6, c7, c8, .pointer (some ⟨pS, 0, none⟩), .pointer (some ⟨pR, 0, none⟩), .pointer (some ⟨pT, 0, none⟩), .slice ak mk ck, .int .i64 s.pc, u14, u15, u16, u17, u18, u19, u20, u21, u22, u23, u24, u25, c26, c27, c28, c29, c30, c31, c32, c33, u34, u35, u36, u37, u38, u39, u40, u41, u42, u43, u44, u45, u46, u47, u48, u49, u50, u51, u52, u53, u54, u55, u56, u57, u58, u59, u60, u61, u62, u63, u64, u65, u66, u67, u68, u69, u70, u71, u72, u73, u74, u75, u76, u77, u78, u79, u80, u81, u82, u83, u84, u85, u86, u87, u88, u89, u90, u91, u92, u93, u94, u95, u96, u97, u98, u99, u100, u101, u102, u103, u104, u105, u106, u107, u108, u109, u110, u111, u112, u113, u114, u115, u116, u117, u118, u119, u120, u121, u122, u123, u124, u125, u126, u127, u128, u129, u130, u131, u132, u133, u134, u135, u136, u137, u138, u139, u140, u141, u142, u143, u144, u145, u146, u147, u148, u149, u150, u151, u152, u153, u154, u155, u156, u157, u158, u159, u160, u161, u162, u163, u164, u165, u166, u167, u168, u169, u170, u171, u172, u173, u174, u175, u176, u177, u178, u179, u180, u181, u182, u183, u184, u185, u186, u187, u188, u189, u190, u191, u192, u193, u194, u195, u196, u197, u198, u199, u200, u201, u202, u203, u204, u205, u206, u207, u208, u209, u210, u211, u212, u213, u214, u215, u216, u217, u218, u219, u220, u221, u222, u223, u224, u225, u226, u227, u228, u229, u230, u231, u232, u233, u234, u235, u236, u237, u238, u239, u240, u241, u242, u243, u244, u245, u246, u247, u248, u249, u250, u251, u252, u253, u254, u255, u256, u257, u258, u259, u260, u261, u262, u263, u264, u265, u266, u267, u268, u269, u270, u271, u272, u273, u274, u275, u276, u277, u278, u279, u280, u281, u282, u283, u284, u285, u286, u287, u288, c289, c290, c291], []⟩ wr := by
  conv => arg 2; whnf
  have hok := code_at hc hlt
  obtain ⟨b, off, rfl, hbB, hcc⟩ := hv.open (by omega)
  obtain ⟨o0, o1, o2, o3⟩ := see4 (B := Bc) hcc s.pc hlt
  have HCC := (show Hid _ from hcc)
  have hi : (s.pc : Int) < n := by omega
  have hi0 : (0 : Int) ≤ s.pc := by omega
  have hmu : n - s.pc < n - s.pc + 1 := by omega
  have HX : Hid (∀ x, xs[s.pc] = x → okOp x = true) := fun x hx => by rw [← hx]; exact hok
  obtain ⟨x, hx⟩ : ∃ x, xs[s.pc] = x := ⟨_, rfl⟩
  rw [hx] at o0 o1 o2 o3 hk hok
  have HXE : Hid (xs[s.pc] = x) := hx
  clear hx hcc HX
  obtain ⟨kk, oa, ob, oc⟩ := x
  simp only at o0 o1 o2 o3 hk
  subst hk
  have hokr := ok_ranges10a hok
  have S1 := H.st.on (alloc_below wr (.cells #[.int .i64 10, .int .i64 oa, .int .i64 ob, .int .i64 oc] 140))
  have X1 := Blk.new wr #[.int .i64 10, .int .i64 oa, .int .i64 ob, .int .i64 oc] 140
  obtain ⟨hlr, -⟩ := regsOk_out H.ok.r
  obtain ⟨tc1, tc2, tc3⟩ := th_parts H.ok.t
  have hlc := (cellsOk_out tc1).1
  have hlm := (mapOk_out tc2).1
  obtain ⟨en, he1, he2, he3, hst1, hst2⟩ := step_abort (t0 := t) (F := F) hc H.ok hlt (by rw [HXE.out]) hky
  have his := H.st.is
  rw [hky] at his
  obtain ⟨ms', x, rfl, hml⟩ := marks_last his
  obtain ⟨jm, hjm⟩ : ∃ j, ms'.length = j := ⟨_, rfl⟩
  have hmk : mk = jm + 1 := by have := H.l; simp at this; omega
  subst hmk
  obtain ⟨gk, rfl⟩ : ∃ g, ak = some ⟨g, 0, none⟩ := by
    have hO := H.st.k
    unfold Flat.Owns at hO
    rcases hO.2 with ⟨e, -⟩ | ⟨g, cap, cur, e, -⟩
    · cases e
    · injection e with e _ _; exact ⟨g, e⟩
  obtain ⟨ym1, ym2, ym3, ym4⟩ := H.ok.k y (by rw [hky]; simp)
  have hmo := code_at hc ym3
  have hm8 : xs[y.pc].k = 8 := by rw [← xs_at ym3]; exact ym4
  obtain ⟨e0, e1, e2, e3⟩ := see4 (B := Bc) HCC.out y.pc ym3
  have hw1b : Below Bc wr (wr.alloc (.cells #[.int .i64 10, .int .i64 oa, .int .i64 ob, .int .i64 oc] 140)) := (Below.refl Bc wr).alloc hBc _
  obtain ⟨⟨n0, n1, n2, n3, n4⟩, ncap⟩ := mark_cells S1.k hjm
  obtain ⟨hm1, hm2⟩ := (S1.pop hjm hky).2
  have hxpc : x.pc = (y.pc : Int) := hm1.1
  rw [hxpc] at n0
  obtain ⟨z, hz⟩ : ∃ z, xs[y.pc] = z := ⟨_, rfl⟩
  have HZ : Hid (xs.getD y.pc z4 = z) := by rw [← hz]; exact xs_at ym3
  rw [hz] at e0 e1 e2 e3 hmo hm8
  obtain ⟨zk, za, zb, zc⟩ := z
  simp only at e0 e1 e2 e3 hm8
  subst hm8
  have hzr := ok_ranges8a hmo
  simp only [spans, Int.reduceEq, if_true, if_false, reduceIte, or_self, or_false, false_or, true_or, or_true, Option.elim] at hzr
  obtain ⟨ia, rfl⟩ := Int.eq_ofNat_of_zero_le (show 0 ≤ za by omega)
  rw [HZ.out] at hst1 hst2
  obtain ⟨xp, ⟨xra, xrn, xrc⟩, ⟨xca, xcn, xcc⟩, ⟨xma, xmn, xmc⟩, xn⟩ := x
  simp only [S3.val] at n0 n1 n2 n3 n4
  have hz1 : (wr.alloc (.cells #[.int .i64 10, .int .i64 oa, .int .i64 ob, .int .i64 oc] 140)).heap.size = wr.heap.size + 1 := by simp
  have B2 := alloc_below (wr.alloc (.cells #[.int .i64 10, .int .i64 oa, .int .i64 ob, .int .i64 oc] 140)) (.cells #[.int .i64 y.pc, .slice xra xrn xrc, .slice xca xcn xcc, .slice xma xmn xmc, .int .i64 xn] 154)
  have M2 := Blk.new (wr.alloc (.cells #[.int .i64 10, .int .i64 oa, .int .i64 ob, .int .i64 oc] 140)) #[.int .i64 y.pc, .slice xra xrn xrc, .slice xca xcn xcc, .slice xma xmn xmc, .int .i64 xn] 154
  rw [hz1] at M2
  obtain ⟨S2, -, hRI⟩ := (S1.on B2).pop hjm hky
  have oR := hRI.o _ (List.mem_cons_self)
  have oC := hRI.o _ (List.mem_cons_of_mem _ List.mem_cons_self)
  have oM := hRI.o _ (List.mem_cons_of_mem _ (List.mem_cons_of_mem _ List.mem_cons_self))
  simp only [S3.val] at oR oC oM
  have yl := (regsOk_out ym1).1
  obtain ⟨yt1, yt2, yt3⟩ := th_parts ym2
  have ycl := (cellsOk_out yt1).1
  have yml := (mapOk_out yt2).1
  have hxr : xrn = 4 := (len_owns oR).trans yl
  have hxc : xcn = 8 := (len_owns oC).trans ycl
  have hxm : xmn = 8 := (len_owns oM).trans yml
  subst hxr
  subst hxc
  subst hxm
  have hxn : xn = y.t.n := hm1.2
  subst hxn
  have hw2b := hw1b.trans (B2.mono (show Bc ≤ _ by rw [hz1]; omega))
  have hroom := S1.k.sees.room
  have i9 : (jm : Int) ≤ 9223372036854775806 := by unfold maxLen at hroom; simp at hroom; omega
  clear hroom
  have i5 : (0 : Int) ≤ jm := by omega
  have i6 : (jm : Int) ≤ ck := by omega
  have i7 : (y.pc : Int) < n := by omega
  have i8 : (0 : Int) ≤ y.pc := by omega
  have i1 : (ia : Int) < 4 := by omega
  have i3 : (0 : Int) ≤ ia := by omega
  have hx1 : (wr.alloc (.cells #[.int .i64 10, .int .i64 oa, .int .i64 ob, .int .i64 oc] 140)).heap.size = wr.heap.size + 1 := by simp
  have hz2 : ((wr.alloc (.cells #[.int .i64 10, .int .i64 oa, .int .i64 ob, .int .i64 oc] 140)).alloc (.cells #[.int .i64 y.pc, .slice xra 4 xrc, .slice xca 8 xcc, .slice xma 8 xmc, .int .i64 y.t.n] 154)).heap.size = wr.heap.size + 1 + 1 := by simp
  obtain ⟨w2, hw2⟩ : ∃ W, (wr.alloc (.cells #[.int .i64 10, .int .i64 oa, .int .i64 ob, .int .i64 oc] 140)).alloc (.cells #[.int .i64 y.pc, .slice xra 4 xrc, .slice xca 8 xcc, .slice xma 8 xmc, .int .i64 y.t.n] 154) = W := ⟨_, rfl⟩
  have HW2 := (show Hid _ from hw2)
  rw [hw2] at S2 oR oC oM M2 hw2b hz2
  clear hw2
  have L3 := Ints.owns_lit w2 (B := w2.heap.size) (Nat.le_refl _)
  have bL := alloc_below w2 (.cells #[] 3)
  obtain ⟨v4, w4, hr4, O4, G4, N4⟩ := Ints.appJ (.slice (some ⟨w2.heap.size, 0, none⟩) 0 0) (.slice xra 4 xrc) 23 [] y.r w2.heap.size w2.heap.size _ L3 (by simp) (oR.sees.on bL (Nat.le_refl _)) (by simp; omega)
  rw [List.nil_append] at O4
  have b4 : Below w2.heap.size w2 w4 := bL.grown G4 (by simp) (fun k hk => by cases hk; exact Nat.le_refl _)
  obtain ⟨a4, c4, rfl⟩ := O4.form
  rw [yl] at O4 hr4
  have hr4 : (Builtin.append_ #[23, 23] 23 #[.slice (some ⟨wr.heap.size + 1 + 1, 0, none⟩) 0 0, .slice xra 4 xrc]).run Try.prog (((wr.alloc (.cells #[.int .i64 10, .int .i64 oa, .int .i64 ob, .int .i64 oc] 140)).alloc (.cells #[.int .i64 y.pc, .slice xra 4 xrc, .slice xca 8 xcc, .slice xma 8 xmc, .int .i64 y.t.n] 154)).alloc (.cells #[] 3)) = .ok (.slice a4 4 c4) w4 := by rw [HW2.out, ← hz2]; exact hr4
  have M4 := M2.on b4 M2.lt
  have m0 := M4.cell 0; have m2 := M4.cell 2; have m3 := M4.cell 3; have m4 := M4.cell 4
  have S4 := S2.newR b4 O4
  have oC4 := oC.on b4 (Nat.le_refl _)
  have oM4 := oM.on b4 (Nat.le_refl _)
  have hw4b := hw2b.trans (b4.mono (show Bc ≤ _ by rw [hz2]; omega))
  have cC := copyC (.slice xca 8 xcc) (.slice xma 8 xmc) y.t w4.heap.size w4 ⟨oC4.sees, oM4.sees⟩ (Nat.le_refl _) (by omega) (by omega)
  obtain ⟨yn, hyn⟩ : ∃ x, y.t.n = x := ⟨_, rfl⟩
  have HYN := (show Hid _ from hyn)
  rw [hyn] at hr4 cC m4 n4
  clear hyn
  go_wp2_with (at_builtin; refine wpList_app _ rfl _ _ 23 rfl _ _ _ _ rfl rfl hr4 ?_)
  refine cC.mono ?_
  rintro e w5 ⟨vc5, vm5, rfl, T5, b5⟩
  clear cC hr4 m2 m3 m4 m0
  have hps : pS < wr.heap.size := H.st.S.lt
  have S5 := S4.newT b5 T5
  rw [HYN.out] at S5
  have s0 := (S4.S.on b5 S4.S.lt).cell 0; have s1 := (S4.S.on b5 S4.S.lt).cell 1; have s2 := (S4.S.on b5 S4.S.lt).cell 2
  have f0 := (S4.S.on b5 S4.S.lt).froz 0; have f1 := (S4.S.on b5 S4.S.lt).froz 1; have f2 := (S4.S.on b5 S4.S.lt).froz 2
  have M5' := (((M4.on b5 M4.lt).other (q := pS) (by omega) 0 vc5).other (q := pS) (by omega) 1 vm5).other (q := pS) (by omega) 2 (.int .i64 yn)
  have m0 := M5'.cell 0
  obtain ⟨a5, c5', rfl⟩ := T5.c.form
  obtain ⟨am5, cm5, rfl⟩ := T5.m.form
  rw [ycl, yml] at S5 T5 m0 M5' ⊢
  obtain ⟨ga4, rfl⟩ := own_someW O4 (by omega)
  obtain ⟨ga5, rfl⟩ := own_someW T5.c (by omega)
  obtain ⟨gm5, rfl⟩ := own_someW T5.m (by omega)
  have hsz4 := b4.size
  have hw5b : Below Bc wr (((w5.setCell ⟨pS, 0, none⟩ (.slice (some ⟨ga5, 0, none⟩) 8 c5')).setCell ⟨pS, 1, none⟩ (.slice (some ⟨gm5, 0, none⟩) 8 cm5)).setCell ⟨pS, 2, none⟩ (.int .i64 yn)) := (((hw4b.trans (b5.mono (by omega))).setCell (p := ⟨pS, 0, none⟩) hBS _).setCell (p := ⟨pS, 1, none⟩) hBS _).setCell (p := ⟨pS, 2, none⟩) hBS _
  have e1' := (hw5b.cell (p := ⟨b, off + y.pc * 4 + 1, none⟩) hbB).trans e1
  obtain ⟨q1, z1⟩ := int_cell S5.r ia (by show ia < y.r.length; omega)
  have S6 := S5.setR ia 0
  have hga : ga4 ≠ wr.heap.size + 1 := by have := (O4.at ga4 rfl).1; omega
  have m0' := (M5'.other (q := ga4) (Ne.symm hga) ia (.int .i64 0)).cell 0
  have hw6b : Below Bc wr (((((w5.setCell ⟨pS, 0, none⟩ (.slice (some ⟨ga5, 0, none⟩) 8 c5')).setCell ⟨pS, 1, none⟩ (.slice (some ⟨gm5, 0, none⟩) 8 cm5)).setCell ⟨pS, 2, none⟩ (.int .i64 yn))).setCell ⟨ga4, ia, none⟩ (.int .i64 0)) := hw5b.setCell (p := ⟨ga4, ia, none⟩) (by show Bc ≤ ga4; have := (O4.at ga4 rfl).1; omega) _
  have cE := endSpec (.slice (some ⟨b, off, none⟩) n cxp) xs y.pc Bc (((((w5.setCell ⟨pS, 0, none⟩ (.slice (some ⟨ga5, 0, none⟩) 8 c5')).setCell ⟨pS, 1, none⟩ (.slice (some ⟨gm5, 0, none⟩) 8 cm5)).setCell ⟨pS, 2, none⟩ (.int .i64 yn))).setCell ⟨ga4, ia, none⟩ (.int .i64 0)) (hv.on hw6b (Nat.le_refl _)) (by omega)
  rw [he1] at cE
  clear M4 M2 oC4 oM4 oC oM oR hRI S2 S4 L3 bL O4 G4 N4 b4 b5 T5
  go_wp2_with fail
  refine cE.mono ?_
  rintro e w6 ⟨rfl, rfl⟩
  clear cE s0 s1 s2 f0 f1 f2 m0 m0' e1' q1 z1
  have HL : Hid (Leads xs t F ⟨0, r, t, []⟩ _) := H.led.trans (Leads.step hlt hst1)
  have HO : Hid (CfOk xs _) := hst2
  have hen : (en : Int) ≤ 24 := by omega
  go_wp2
  refine ⟨?_, by simp [WMu, intOf]; omega⟩
  unfold WI
  refine ⟨_, _, _, _, _, _, _, _, _, _, _, _, _, _, _, _, _, _, _, _, _, _, _, _, _, _, _, _, _, _, _, _, _, _, _, _, _, _, _, _, _, _, _, _, _, _, _, _, _, _, _, _, _, _, _, _, _, _, _, _, _, _, _, _, _, _, _, _, _, _, _, _, _, _, _, _, _, _, _, _, _, _, _, _, _, _, _, _, _, _, _, _, _, _, _, _, _, _, _, _, _, _, _, _, _, _, _, _, _, _, _, _, _, _, _, _, _, _, _, _, _, _, _, _, _, _, _, _, _, _, _, _, _, _, _, _, _, _, _, _, _, _, _, _, _, _, _, _, _, _, _, _, _, _, _, _, _, _, _, _, _, _, _, _, _, _, _, _, _, _, _, _, _, _, _, _, _, _, _, _, _, _, _, _, _, _, _, _, _, _, _, _, _, _, _, _, _, _, _, _, _, _, _, _, _, _, _, _, _, _, _, _, _, _, _, _, _, _, _, _, _, _, _, _, _, _, _, _, _, _, _, _, _, _, _, _, _, _, _, _, _, _, _, _, _, _, _, _, _, _, _, _, _, _, _, _, _, _, _, _, _, _, _, _, _, _, _, _, _, _, ?_, rfl⟩
  exact ⟨_, ms', ga4, c4, ga5, c5', gm5, cm5, _, jm, ck, { rg := rfl, kg := rfl, p := by go_num, l := hjm, ok := HO.out, led := HL.out, st := S6.pc _ }⟩
end Ops
end Go.Proofs.Ytajbmokidcdfnaa
/- A round of l7Walk: an op of kind 10. -/
set_option linter.unusedVariables false
set_option linter.unusedSimpArgs false
namespace Go.Proofs.Ytajbmokidcdfnaa
open Go.RowKit
namespace Ops
open Bas Flat
theorem ok_ranges10 {a b c : Int} (h : okOp ⟨10, a, b, c⟩ = true) : (spans 10).elim False (fun p => (p.1.1 ≤ a ∧ a ≤ p.1.2) ∧ (p.2.1.1 ≤ b ∧ b ≤ p.2.1.2) ∧ (p.2.2.1 ≤ c ∧ c ≤ p.2.2.2)) := by
  unfold okOp opOk at h
  simp only [spans, Int.reduceEq, if_true, if_false, reduceIte, or_self, or_false, false_or, Bool.and_eq_true, inn, decide_eq_true_eq] at h ⊢
  simp only [Option.elim]
  omega
set_option maxRecDepth 1000000 in
set_option maxHeartbeats 16000000 in
theorem case10g {xs : List O4} {n : Nat} {F : List Int → Th → List Int × Th} {r : List Int} {t : Th} {w : World} {pR pS pT : Nat} {v0 v1 : Value} {wr : World} {s : Cf} {ms : List M5} {gr cr gc cc gm cm : Nat} {ak : Option Addr} {mk ck : Nat} (Q0 : Exit → Act → World → Prop) (Bc : Nat) (ax : Option Addr) (cxp : Nat)
    (c1 c2 c4 c5 c6 c7 c8 c26 c27 c28 c29 c30 c31 c32 c33 c289 c290 c291 u14 u15 u16 u17 u18 u19 u20 u21 u22 u23 u24 u25 u34 u35 u36 u37 u38 u39 u40 u41 u42 u43 u44 u45 u46 u47 u48 u49 u50 u51 u52 u53 u54 u55 u56 u57 u58 u59 u60 u61 u62 u63 u64 u65 u66 u67 u68 u69 u70 u71 u72 u73 u74 u75 u76 u77 u78 u79 u80 u81 u82 u83 u84 u85 u86 u87 u88 u89 u90 u91 u92 u93 u94 u95 u96 u97 u98 u99 u100 u101 u102 u103 u104 u105 u106 u107 u108 u109 u110 u111 u112 u113 u114 u115 u116 u117 u118 u119 u120 u121 u122 u123 u124 u125 u126 u127 u128 u129 u130 u131 u132 u133 u134 u135 u136 u137 u138 u139 u140 u141 u142 u143 u144 u145 u146 u147 u148 u149 u150 u151 u152 u153 u154 u155 u156 u157 u158 u159 u160 u161 u162 u163 u164 u165 u166 u167 u168 u169 u170 u171 u172 u173 u174 u175 u176 u177 u178 u179 u180 u181 u182 u183 u184 u185 u186 u187 u188 u189 u190 u191 u192 u193 u194 u195 u196 u197 u198 u199 u200 u201 u202 u203 u204 u205 u206 u207 u208 u209 u210 u211 u212 u213 u214 u215 u216 u217 u218 u219 u220 u221 u222 u223 u224 u225 u226 u227 u228 u229 u230 u231 u232 u233 u234 u235 u236 u237 u238 u239 u240 u241 u242 u243 u244 u245 u246 u247 u248 u249 u250 u251 u252 u253 u254 u255 u256 u257 u258 u259 u260 u261 u262 u263 u264 u265 u266 u267 u268 u269 u270 u271 u272 u273 u274 u275 u276 u277 u278 u279 u280 u281 u282 u283 u284 u285 u286 u287 u288 : Value) (hv : Sees4 Bc wr (.slice ax n cxp) xs) (hn : xs.length = n) (hn24 : n ≤ 24) (hc : codeOk xs = true) (hlt : s.pc < xs.length) (hBc : Bc ≤ wr.heap.size)
    (H : RelW xs n F r t w pR pS pT v0 v1 (.slice (some ⟨gr, 0, none⟩) 4 cr) (.slice ak mk ck) (.int .i64 s.pc) wr s ms gr cr gc cc gm cm ak mk ck) (hk : xs[s.pc].k = 10) (hk0 : s.k = []) (htk : thOk t = true) (va vb : Option Addr) (vca vcb : Nat) (hv0 : v0 = .slice va 8 vca) (hv1 : v1 = .slice vb 8 vcb) (hret : ∀ a' w'', RetW xs F r t w pR a' w'' → Q0 .ret a' w'') :
    Code.wp Try.prog (bodyOf Try.f95.body) (Exit.then (fun a' w'' => WI xs n F r t w pR pS pT v0 v1 (.slice ax n cxp) c1 c2 c4 c5 c6 c7 c8 c26 c27 c28 c29 c30 c31 c32 c33 c289 c290 c291 a' w'' ∧ WMu n a' w'' < WMu n ⟨#[.slice ax n cxp, c1, c2, .slice (some ⟨gr, 0, none⟩) 4 cr, c4, c5, c6, c7, c8, .pointer (some ⟨pS, 0, none⟩), .pointer (some ⟨pR, 0, none⟩), .pointer (some ⟨pT, 0, none⟩), .slice ak mk ck, .int .i64 s.pc, u14, u15, u16, u17, u18, u19, u20, u21, u22, u23, u24, u25, c26, c27, c28, c29, c30, c31, c32, c33, u34, u35, u36, u37, u38, u39, u40, u41, u42, u43, u44, u45, u46, u47, u48, u49, u50, u51, u52, u53, u54, u55, u56, u57, u58, u59, u60, u61, u62, u63, u64, u65, u66, u67, u68, u69, u70, u71, u72, u73, u74, u75, u76, u77, u78, u79, u80, u81, u82, u83, u84, u85, u86, u87, u88, u89, u90, u91, u92, u93, u94, u95, u96, u97, u98, u99, u100, u101, u102, u103, u104, u105, u106, u107, u108, u109, u110, u111, u112, u113, u114, u115, u116, u117, u118, u119, u120, u121, u122, u123, u124, u125, u126, u127, u128, u129, u130, u131, u132, u133, u134, u135, u136, u137, u138, u139, u140, u141, u142, u143, u144, u145, u146, u147, u148, u149, u150, u151, u152, u153, u154, u155, u156, u157, u158, u159, u160, u161, u162, u163, u164, u165, u166, u167, u168, u169, u170, u171, u172, u173, u174, u175, u176, u177, u178, u179, u180, u181, u182, u183, u184, u185, u186, u187, u188, u189, u190, u191, u192, u193, u194, u195, u196, u197, u198, u199, u200, u201, u202, u203, u204, u205, u206, u207, u208, u209, u210, u211, u212, u213, u214, u215, u216, u217, u218, u219, u220, u221, u222, u223, u224, u225, u226, u227, u228, u229, u230, u231, u232, u233, u234, u235, u236, u237, u238, u239, u240, u241, u242, u243, u244, u245, u246, u247, u248, u249, u250, u251, u252, u253, u254, u255, u256, u257, u258, u259, u260, u261, u262, u263, u264, u265, u266, u267, u268, u269, u270, u271, u272, u273, u274, u275, u276, u277, u278, u279, u280, u281, u282, u283, u284, u285, u286, u287, u288, c289, c290, c291], []⟩ wr) Q0) ⟨#[.slice ax n cxp, c1, c2, .slice (some ⟨gr, 0, none⟩) 4 cr, c4, c5, c6, c7, c8, .pointer (some ⟨pS, 0, none⟩), .pointer (some ⟨pR, 0, none⟩), .pointer (some ⟨pT, 0, none⟩), .slice ak mk ck, .int .i64 s.pc, u14, u15, u16, u17, u18, u19, u20, u21, u22, u23, u24, u25, c26, c27, c28, c29, c30, c31, c32, c33, u34, u35, u36, u37, u38, u39, u40, u41, u42, u43, u44, u45, u46, u47, u48, u49, u50, u51, u52, u53, u54, u55, u56, u57, u58, u59, u60, u61, u62, u63, u64, u65, u66, u67, u68, u69, u70, u71, u72, u73, u74, u75, u76, u77, u78, u79, u80, u81, u82, u83, u84, u85, u86, u87, u88, u89, u90, u91, u92, u93, u94, u95, u96, u97, u98, u99, u100, u101, u102, u103, u104, u105, u106, u107, u108, u109, u110, u111, u112, u113, u114, u115, u116, u117, u118, u119, u120, u121, u122, u123, u124, u125, u126, u127, u128, u129, u130, u131, u132, u133, u134, u135, u136, u137, u138, u139, u140, u141, u142, u143, u144, u145, u146, u147, u148, u149, u150, u151, u152, u153, u154, u155, u156, u157, u158, u159, u160, u161, u162, u163, u164, u165, u166, u167, u168, u169, u170, u171, u172, u173, u174, u175, u176, u177, u178, u179, u180, u181, u182, u183, u184, u185, u186, u187, u188, u189, u190, u191, u192, u193, u194, u195, u196, u197, u198, u199, u200, u201, u202, u203, u204, u205, u206, u207, u208, u209, u210, u211, u212, u213, u214, u215, u216, u217, u218, u219, u220, u221, u222, u223, u224, u225, u226, u227, u228, u229, u230, u231, u232, u233, u234, u235, u236, u237, u238, u239, u240, u241, u242, u243, u244, u245, u246, u247, u248, u249, u250, u251, u252, u253, u254, u255, u256, u257, u258, u259, u260, u261, u262, u263, u264, u265, u266, u267, u268, u269, u270, u271, u272, u273, u274, u275, u276, u277, u278, u279, u280, u281, u282, u283, u284, u285, u286, u287, u288, c289, c290, c291], []⟩ wr := by
  subst hv0
  subst hv1
  conv => arg 2; whnf
  have hok := code_at hc hlt
  obtain ⟨b, off, rfl, hbB, hcc⟩ := hv.open (by omega)
  obtain ⟨o0, o1, o2, o3⟩ := see4 (B := Bc) hcc s.pc hlt
  have HCC := (show Hid _ from hcc)
  have hi : (s.pc : Int) < n := by omega
  have hi0 : (0 : Int) ≤ s.pc := by omega
  have hmu : n - s.pc < n - s.pc + 1 := by omega
  have HX : Hid (∀ x, xs[s.pc] = x → okOp x = true) := fun x hx => by rw [← hx]; exact hok
  obtain ⟨x, hx⟩ : ∃ x, xs[s.pc] = x := ⟨_, rfl⟩
  rw [hx] at o0 o1 o2 o3 hk hok
  have HXE : Hid (xs[s.pc] = x) := hx
  clear hx hcc HX
  obtain ⟨kk, oa, ob, oc⟩ := x
  simp only at o0 o1 o2 o3 hk
  subst hk
  have hokr := ok_ranges10 hok
  have S1 := H.st.on (alloc_below wr (.cells #[.int .i64 10, .int .i64 oa, .int .i64 ob, .int .i64 oc] 140))
  have X1 := Blk.new wr #[.int .i64 10, .int .i64 oa, .int .i64 ob, .int .i64 oc] 140
  obtain ⟨hlr, -⟩ := regsOk_out H.ok.r
  obtain ⟨tc1, tc2, tc3⟩ := th_parts H.ok.t
  have hlc := (cellsOk_out tc1).1
  have hlm := (mapOk_out tc2).1
  have oR : ∀ {v : Value} {zs : List Int} {B : Nat}, Ints.Owns B (wr.alloc (.cells #[.int .i64 10, .int .i64 oa, .int .i64 ob, .int .i64 oc] 140)) v zs → ∀ k, v.ownBlock = some k → k ≠ pR := fun ho k e => int_off ho S1.R (by decide) k e
  have hk5 : ∀ (x0 x1 x2 x3 x4 : Value) k, k ≠ pR → ((((((wr.alloc (.cells #[.int .i64 10, .int .i64 oa, .int .i64 ob, .int .i64 oc] 140)).setCell ⟨pR, 0, none⟩ x0).setCell ⟨pR, 1, none⟩ x1).setCell ⟨pR, 2, none⟩ x2).setCell ⟨pR, 3, none⟩ x3).setCell ⟨pR, 4, none⟩ x4).heap[k]? = (wr.alloc (.cells #[.int .i64 10, .int .i64 oa, .int .i64 ob, .int .i64 oc] 140)).heap[k]? := fun x0 x1 x2 x3 x4 k hk => by
    rw [Below.heap_setCell _ ⟨pR, 4, none⟩ _ k hk, Below.heap_setCell _ ⟨pR, 3, none⟩ _ k hk, Below.heap_setCell _ ⟨pR, 2, none⟩ _ k hk, Below.heap_setCell _ ⟨pR, 1, none⟩ _ k hk, Below.heap_setCell _ ⟨pR, 0, none⟩ _ k hk]
  have r0 := S1.R.cell 0; have r1 := S1.R.cell 1; have r2 := S1.R.cell 2; have r3 := S1.R.cell 3; have r4 := S1.R.cell 4
  have z0 := S1.R.froz 0; have z1 := S1.R.froz 1; have z2 := S1.R.froz 2; have z3 := S1.R.froz 3; have z4 := S1.R.froz 4
  have y0 := S1.T.cell 0; have y1 := S1.T.cell 1; have y2 := S1.T.cell 2
  have hst := step_give (t0 := t) (F := F) H.ok hlt (by rw [HXE.out]) hk0
  have hE := H.led _ (Ends.halt hlt hst)
  have hB5 := ((((S1.R.set 0 (.int .i64 2)).set 1 (.slice (some ⟨gr, 0, none⟩) 4 cr)).set 2 (.slice va 8 vca)).set 3 (.slice vb 8 vcb)).set 4 (.int .i64 t.n)
  have hb5 := ((((S1.b.setCell (p := ⟨pR, 0, none⟩) S1.p.1 (.int .i64 2)).setCell (p := ⟨pR, 1, none⟩) S1.p.1 (.slice (some ⟨gr, 0, none⟩) 4 cr)).setCell (p := ⟨pR, 2, none⟩) S1.p.1 (.slice va 8 vca)).setCell (p := ⟨pR, 3, none⟩) S1.p.1 (.slice vb 8 vcb)).setCell (p := ⟨pR, 4, none⟩) S1.p.1 (.int .i64 t.n)
  have hr5 := S1.r.keep fun k e => hk5 (.int .i64 2) (.slice (some ⟨gr, 0, none⟩) 4 cr) (.slice va 8 vca) (.slice vb 8 vcb) (.int .i64 t.n) k (oR S1.r k e)
  have hv0 := S1.im.o _ (List.mem_cons_self)
  have hv1 := S1.im.o _ (List.mem_cons_of_mem _ List.mem_cons_self)
  have hd0 := S1.im.d _ (List.mem_cons_self)
  have hd1 := S1.im.d _ (List.mem_cons_of_mem _ List.mem_cons_self)
  have hc5 := hv0.keep fun k e => hk5 (.int .i64 2) (.slice (some ⟨gr, 0, none⟩) 4 cr) (.slice va 8 vca) (.slice vb 8 vcb) (.int .i64 t.n) k (oR hv0 k e)
  have hm5 := hv1.keep fun k e => hk5 (.int .i64 2) (.slice (some ⟨gr, 0, none⟩) 4 cr) (.slice va 8 vca) (.slice vb 8 vcb) (.int .i64 t.n) k (oR hv1 k e)
  have HE : Hid _ := hE
  have HR := H.ok.r
  have hd00 := S1.d0
  have hmk0 : mk = 0 := by
    have h1 := marksIs_len _ _ H.st.is
    rw [hk0] at h1
    have h2 := H.l
    have h3 : (([] : List Mk).reverse.length) = 0 := rfl
    have h4 := h1.trans h3
    omega
  subst hmk0
  clear hE hk5 oR
  go_wp2
  exact ⟨rfl, rfl, .slice (some ⟨gr, 0, none⟩) 4 cr, .slice va 8 vca, .slice vb 8 vcb, ⟨2, s.r, t⟩, hB5, HE.out, hr5, ⟨hc5, hm5, hd00⟩, hd0.1, hd1.1, .inr rfl, HR, htk, hb5⟩
end Ops
end Go.Proofs.Ytajbmokidcdfnaa
