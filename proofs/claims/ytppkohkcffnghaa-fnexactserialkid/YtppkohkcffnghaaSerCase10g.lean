/- A round of l7Walk: an op of kind 10. -/
import Derived.Test.YtppkohkcffnghaaSerWalk
import Derived.Test.YtppkohkcffnghaaCalcSpec
import Derived.Test.YtppkohkcffnghaaShapeSpec2
import Derived.Deep.QuietTactic
import Derived.BigQuiet
set_option linter.unusedVariables false
set_option linter.unusedSimpArgs false
namespace Go.Proofs.Ytppkohkcffnghaa
open Go.RowKit
namespace Ops
open Bas Flat
theorem ok_ranges10 {a b c : Int} (h : okOp ⟨10, a, b, c⟩ = true) : (spans 10).elim False (fun p => (p.1.1 ≤ a ∧ a ≤ p.1.2) ∧ (p.2.1.1 ≤ b ∧ b ≤ p.2.1.2) ∧ (p.2.2.1 ≤ c ∧ c ≤ p.2.2.2)) := by
  unfold okOp opOk at h
  simp only [spans, Int.reduceEq, if_true, if_false, reduceIte, or_self, or_false, false_or, Bool.and_eq_true, inn, decide_eq_true_eq] at h ⊢
  simp only [Option.elim]
  omega
set_option maxRecDepth 1000000 in
set_option maxHeartbeats 16000000 in
theorem case10g {xs : List O4} {n : Nat} {F : List Int → Th → List Int × Th} {r : List Int} {t : Th} {w : World} {pR pS pT : Nat} {v0 v1 : Value} {wr : World} {s : Cf} {ms : List M5} {gr cr gc cc gm cm : Nat} {ak : Option Addr} {mk ck : Nat} (Q0 : Exit → Act → World → Prop) (Bc : Nat) (ax : Option Addr) (cxp : Nat)
    (c1 c2 c4 c5 c6 c7 c8 c26 c27 c28 c29 c30 c31 c32 c33 c289 c290 c291 u14 u15 u16 u17 u18 u19 u20 u21 u22 u23 u24 u25 u34 u35 u36 u37 u38 u39 u40 u41 u42 u43 u44 u45 u46 u47 u48 u49 u50 u51 u52 u53 u54 u55 u56 u57 u58 u59 u60 u61 u62 u63 u64 u65 u66 u67 u68 u69 u70 u71 u72 u73 u74 u75 u76 u77 u78 u79 u80 u81 u82 u83 u84 u85 u86 u87 u88 u89 u90 u91 u92 u93 u94 u95 u96 u97 u98 u99 u100 u101 u102 u103 u104 u105 u106 u107 u108 u109 u110 u111 u112 u113 u114 u115 u116 u117 u118 u119 u120 u121 u122 u123 u124 u125 u126 u127 u128 u129 u130 u131 u132 u133 u134 u135 u136 u137 u138 u139 u140 u141 u142 u143 u144 u145 u146 u147 u148 u149 u150 u151 u152 u153 u154 u155 u156 u157 u158 u159 u160 u161 u162 u163 u164 u165 u166 u167 u168 u169 u170 u171 u172 u173 u174 u175 u176 u177 u178 u179 u180 u181 u182 u183 u184 u185 u186 u187 u188 u189 u190 u191 u192 u193 u194 u195 u196 u197 u198 u199 u200 u201 u202 u203 u204 u205 u206 u207 u208 u209 u210 u211 u212 u213 u214 u215 u216 u217 u218 u219 u220 u221 u222 u223 u224 u225 u226 u227 u228 u229 u230 u231 u232 u233 u234 u235 u236 u237 u238 u239 u240 u241 u242 u243 u244 u245 u246 u247 u248 u249 u250 u251 u252 u253 u254 u255 u256 u257 u258 u259 u260 u261 u262 u263 u264 u265 u266 u267 u268 u269 u270 u271 u272 u273 u274 u275 u276 u277 u278 u279 u280 u281 u282 u283 u284 u285 u286 u287 u288 : Value) (hv : Sees4 Bc wr (.slice ax n cxp) xs) (hn : xs.length = n) (hn24 : n ≤ 24) (hc : codeOk xs = true) (hlt : s.pc < xs.length) (hBc : Bc ≤ wr.heap.size)
    (H : RelW xs n F r t w pR pS pT v0 v1 (.slice (some ⟨gr, 0, none⟩) 4 cr) (.slice ak mk ck) (.int .i64 s.pc) wr s ms gr cr gc cc gm cm ak mk ck) (hk : xs[s.pc].k = 10) (hk0 : s.k = []) (htk : thOk t = true) (va vb : Option Addr) (vca vcb : Nat) (hv0 : v0 = .slice va 8 vca) (hv1 : v1 = .slice vb 8 vcb) (hret : ∀ a' w'', RetW xs F r t w pR a' w'' → Q0 .ret a' w'') :
    Code.wp Try.prog bodyW (Exit.then (fun a' w'' => WI xs n F r t w pR pS pT v0 v1 (.slice ax n cxp) c1 c2 c4 c5 c6 c7 c8 c26 c27 c28 c29 c30 c31 c32 c33 c289 c290 c291 a' w'' ∧ WMu n a' w'' < WMu n ⟨#[.slice ax n cxp, c1, c2, .slice (some ⟨gr, 0, none⟩) 4 cr, c4, c5, c6, c7, c8, .pointer (some ⟨pS, 0, none⟩), .pointer (some ⟨pR, 0, none⟩), .pointer (some ⟨pT, 0, none⟩), .slice ak mk ck, .int .i64 s.pc, u14, u15, u16, u17, u18, u19, u20, u21, u22, u23, u24, u25, c26, c27, c28, c29, c30, c31, c32, c33, u34, u35, u36, u37, u38, u39, u40, u41, u42, u43, u44, u45, u46, u47, u48, u49, u50, u51, u52, u53, u54, u55, u56, u57, u58, u59, u60, u61, u62, u63, u64, u65, u66, u67, u68, u69, u70, u71, u72, u73, u74, u75, u76, u77, u78, u79, u80, u81, u82, u83, u84, u85, u86, u87, u88, u89, u90, u91, u92, u93, u94, u95, u96, u97, u98, u99, u100, u101, u102, u103, u104, u105, u106, u107, u108, u109, u110, u111, u112, u113, u114, u115, u116, u117, u118, u119, u120, u121, u122, u123, u124, u125, u126, u127, u128, u129, u130, u131, u132, u133, u134, u135, u136, u137, u138, u139, u140, u141, u142, u143, u144, u145, u146, u147, u148, u149, u150, u151, u152, u153, u154, u155, u156, u157, u158, u159, u160, u161, u162, u163, u164, u165, u166, u167, u168, u169, u170, u171, u172, u173, u174, u175, u176, u177, u178, u179, u180, u181, u182, u183, u184, u185, u186, u187, u188, u189, u190, u191, u192, u193, u194, u195, u196, u197, u198, u199, u200, u201, u202, u203, u204, u205, u206, u207, u208, u209, u210, u211, u212, u213, u214, u215, u216, u217, u218, u219, u220, u221, u222, u223, u224, u225, u226, u227, u228, u229, u230, u231, u232, u233, u234, u235, u236, u237, u238, u239, u240, u241, u242, u243, u244, u245, u246, u247, u248, u249, u250, u251, u252, u253, u254, u255, u256, u257, u258, u259, u260, u261, u262, u263, u264, u265, u266, u267, u268, u269, u270, u271, u272, u273, u274, u275, u276, u277, u278, u279, u280, u281, u282, u283, u284, u285, u286, u287, u288, c289, c290, c291], []⟩ wr) Q0) ⟨#[.slice ax n cxp, c1, c2, .slice (some ⟨gr, 0, none⟩) 4 cr, c4, c5, c6, c7, c8, .pointer (some ⟨pS, 0, none⟩), .pointer (some ⟨pR, 0, none⟩), .pointer (some ⟨pT, 0, none⟩), .slice ak mk ck, .int .i64 s.pc, u14, u15, u16, u17, u18, u19, u20, u21, u22, u23, u24, u25, c26, c27, c28, c29, c30, c31, c32, c33, u34, u35, u36, u37, u38, u39, u40, u41, u42, u43, u44, u45, u46, u47, u48, u49, u50, u51, u52, u53, u54, u55, u56, u57, u58, u59, u60, u61, u62, u63, u64, u65, u66, u67, u68, u69, u70, u71, u72, u73, u74, u75, u76, u77, u78, u79, u80, u81, u82, u83, u84, u85, u86, u87, u88, u89, u90, u91, u92, u93, u94, u95, u96, u97, u98, u99, u100, u101, u102, u103, u104, u105, u106, u107, u108, u109, u110, u111, u112, u113, u114, u115, u116, u117, u118, u119, u120, u121, u122, u123, u124, u125, u126, u127, u128, u129, u130, u131, u132, u133, u134, u135, u136, u137, u138, u139, u140, u141, u142, u143, u144, u145, u146, u147, u148, u149, u150, u151, u152, u153, u154, u155, u156, u157, u158, u159, u160, u161, u162, u163, u164, u165, u166, u167, u168, u169, u170, u171, u172, u173, u174, u175, u176, u177, u178, u179, u180, u181, u182, u183, u184, u185, u186, u187, u188, u189, u190, u191, u192, u193, u194, u195, u196, u197, u198, u199, u200, u201, u202, u203, u204, u205, u206, u207, u208, u209, u210, u211, u212, u213, u214, u215, u216, u217, u218, u219, u220, u221, u222, u223, u224, u225, u226, u227, u228, u229, u230, u231, u232, u233, u234, u235, u236, u237, u238, u239, u240, u241, u242, u243, u244, u245, u246, u247, u248, u249, u250, u251, u252, u253, u254, u255, u256, u257, u258, u259, u260, u261, u262, u263, u264, u265, u266, u267, u268, u269, u270, u271, u272, u273, u274, u275, u276, u277, u278, u279, u280, u281, u282, u283, u284, u285, u286, u287, u288, c289, c290, c291], []⟩ wr := by
  subst hv0
  subst hv1
  conv => arg 2; whnf
  have hok := code_at hc hlt
  obtain ⟨b, off, rfl, hbB, hcc⟩ := hv.open (by omega)
  obtain ⟨o0, o1, o2, o3⟩ := see4 (B := Bc) hcc s.pc hlt
  have HCC := (show Hid _ from hcc)
  have hi : (s.pc : Int) < n := by omega
  have hi0 : (0 : Int) ≤ s.pc := by omega
  have hmu : n - s.pc < n - s.pc + 1 := by omega
  have HX : Hid (∀ x, xs[s.pc] = x → okOp x = true) := fun x hx => by rw [← hx]; exact hok
  obtain ⟨x, hx⟩ : ∃ x, xs[s.pc] = x := ⟨_, rfl⟩
  rw [hx] at o0 o1 o2 o3 hk hok
  have HXE : Hid (xs[s.pc] = x) := hx
  clear hx hcc HX
  obtain ⟨kk, oa, ob, oc⟩ := x
  simp only at o0 o1 o2 o3 hk
  subst hk
  have hokr := ok_ranges10 hok
  have S1 := H.st.on (alloc_below wr (.cells #[.int .i64 10, .int .i64 oa, .int .i64 ob, .int .i64 oc] 30))
  have X1 := Blk.new wr #[.int .i64 10, .int .i64 oa, .int .i64 ob, .int .i64 oc] 30
  obtain ⟨hlr, -⟩ := regsOk_out H.ok.r
  obtain ⟨tc1, tc2, tc3⟩ := th_parts H.ok.t
  have hlc := (cellsOk_out tc1).1
  have hlm := (mapOk_out tc2).1
  have oR : ∀ {v : Value} {zs : List Int} {B : Nat}, Ints.Owns B (wr.alloc (.cells #[.int .i64 10, .int .i64 oa, .int .i64 ob, .int .i64 oc] 30)) v zs → ∀ k, v.ownBlock = some k → k ≠ pR := fun ho k e => int_off ho S1.R (by decide) k e
  have hk5 : ∀ (x0 x1 x2 x3 x4 : Value) k, k ≠ pR → ((((((wr.alloc (.cells #[.int .i64 10, .int .i64 oa, .int .i64 ob, .int .i64 oc] 30)).setCell ⟨pR, 0, none⟩ x0).setCell ⟨pR, 1, none⟩ x1).setCell ⟨pR, 2, none⟩ x2).setCell ⟨pR, 3, none⟩ x3).setCell ⟨pR, 4, none⟩ x4).heap[k]? = (wr.alloc (.cells #[.int .i64 10, .int .i64 oa, .int .i64 ob, .int .i64 oc] 30)).heap[k]? := fun x0 x1 x2 x3 x4 k hk => by
    rw [Below.heap_setCell _ ⟨pR, 4, none⟩ _ k hk, Below.heap_setCell _ ⟨pR, 3, none⟩ _ k hk, Below.heap_setCell _ ⟨pR, 2, none⟩ _ k hk, Below.heap_setCell _ ⟨pR, 1, none⟩ _ k hk, Below.heap_setCell _ ⟨pR, 0, none⟩ _ k hk]
  have r0 := S1.R.cell 0; have r1 := S1.R.cell 1; have r2 := S1.R.cell 2; have r3 := S1.R.cell 3; have r4 := S1.R.cell 4
  have z0 := S1.R.froz 0; have z1 := S1.R.froz 1; have z2 := S1.R.froz 2; have z3 := S1.R.froz 3; have z4 := S1.R.froz 4
  have y0 := S1.T.cell 0; have y1 := S1.T.cell 1; have y2 := S1.T.cell 2
  have hst := step_give (t0 := t) (F := F) H.ok hlt (by rw [HXE.out]) hk0
  have hE := H.led _ (Ends.halt hlt hst)
  have hB5 := ((((S1.R.set 0 (.int .i64 2)).set 1 (.slice (some ⟨gr, 0, none⟩) 4 cr)).set 2 (.slice va 8 vca)).set 3 (.slice vb 8 vcb)).set 4 (.int .i64 t.n)
  have hb5 := ((((S1.b.setCell (p := ⟨pR, 0, none⟩) S1.p.1 (.int .i64 2)).setCell (p := ⟨pR, 1, none⟩) S1.p.1 (.slice (some ⟨gr, 0, none⟩) 4 cr)).setCell (p := ⟨pR, 2, none⟩) S1.p.1 (.slice va 8 vca)).setCell (p := ⟨pR, 3, none⟩) S1.p.1 (.slice vb 8 vcb)).setCell (p := ⟨pR, 4, none⟩) S1.p.1 (.int .i64 t.n)
  have hr5 := S1.r.keep fun k e => hk5 (.int .i64 2) (.slice (some ⟨gr, 0, none⟩) 4 cr) (.slice va 8 vca) (.slice vb 8 vcb) (.int .i64 t.n) k (oR S1.r k e)
  have hv0 := S1.im.o _ (List.mem_cons_self)
  have hv1 := S1.im.o _ (List.mem_cons_of_mem _ List.mem_cons_self)
  have hd0 := S1.im.d _ (List.mem_cons_self)
  have hd1 := S1.im.d _ (List.mem_cons_of_mem _ List.mem_cons_self)
  have hc5 := hv0.keep fun k e => hk5 (.int .i64 2) (.slice (some ⟨gr, 0, none⟩) 4 cr) (.slice va 8 vca) (.slice vb 8 vcb) (.int .i64 t.n) k (oR hv0 k e)
  have hm5 := hv1.keep fun k e => hk5 (.int .i64 2) (.slice (some ⟨gr, 0, none⟩) 4 cr) (.slice va 8 vca) (.slice vb 8 vcb) (.int .i64 t.n) k (oR hv1 k e)
  have HE : Hid _ := hE
  have HR := H.ok.r
  have hd00 := S1.d0
  have hmk0 : mk = 0 := by
    have h1 := marksIs_len _ _ H.st.is
    rw [hk0] at h1
    have h2 := H.l
    have h3 : (([] : List Mk).reverse.length) = 0 := rfl
    have h4 := h1.trans h3
    omega
  subst hmk0
  clear hE hk5 oR
  go_wp2
  exact ⟨rfl, rfl, .slice (some ⟨gr, 0, none⟩) 4 cr, .slice va 8 vca, .slice vb 8 vcb, ⟨2, s.r, t⟩, hB5, HE.out, hr5, ⟨hc5, hm5, hd00⟩, hd0.1, hd1.1, .inr rfl, HR, htk, hb5⟩
end Ops
end Go.Proofs.Ytppkohkcffnghaa
