/- A round of l7Walk: an op of kind 8. -/
import Derived.Test.YtppkohkcffnghaaSerWalk
import Derived.Test.YtppkohkcffnghaaCalcSpec
import Derived.Test.YtppkohkcffnghaaShapeSpec2
import Derived.Deep.QuietTactic
import Derived.BigQuiet
set_option linter.unusedVariables false
set_option linter.unusedSimpArgs false
namespace Go.Proofs.Ytppkohkcffnghaa
open Go.RowKit
namespace Ops
open Bas Flat
theorem stAt_len (xs : List O4) : ∀ i, (stAt xs i).length ≤ i + 1
  | 0 => by simp [stAt]
  | i + 1 => by
    have := stAt_len xs i
    show (stepS _ _ (xs.getD i z4)).length ≤ _
    unfold stepS
    split
    · simp; omega
    · split
      · simp; omega
      · omega
theorem ok_ranges8b {a b c : Int} (h : okOp ⟨8, a, b, c⟩ = true) : (spans 8).elim False (fun p => (p.1.1 ≤ a ∧ a ≤ p.1.2) ∧ (p.2.1.1 ≤ b ∧ b ≤ p.2.1.2) ∧ (p.2.2.1 ≤ c ∧ c ≤ p.2.2.2)) := by
  unfold okOp opOk at h
  simp only [spans, Int.reduceEq, if_true, if_false, reduceIte, or_self, or_false, false_or, Bool.and_eq_true, inn, decide_eq_true_eq] at h ⊢
  simp only [Option.elim]
  omega
set_option maxRecDepth 1000000 in
set_option maxHeartbeats 16000000 in
theorem case8 {xs : List O4} {n : Nat} {F : List Int → Th → List Int × Th} {r : List Int} {t : Th} {w : World} {pR pS pT : Nat} {v0 v1 : Value} {wr : World} {s : Cf} {ms : List M5} {gr cr gc cc gm cm : Nat} {ak : Option Addr} {mk ck : Nat} (Q0 : Exit → Act → World → Prop) (Bc : Nat) (ax : Option Addr) (cxp : Nat)
    (c1 c2 c4 c5 c6 c7 c8 c26 c27 c28 c29 c30 c31 c32 c33 c289 c290 c291 u14 u15 u16 u17 u18 u19 u20 u21 u22 u23 u24 u25 u34 u35 u36 u37 u38 u39 u40 u41 u42 u43 u44 u45 u46 u47 u48 u49 u50 u51 u52 u53 u54 u55 u56 u57 u58 u59 u60 u61 u62 u63 u64 u65 u66 u67 u68 u69 u70 u71 u72 u73 u74 u75 u76 u77 u78 u79 u80 u81 u82 u83 u84 u85 u86 u87 u88 u89 u90 u91 u92 u93 u94 u95 u96 u97 u98 u99 u100 u101 u102 u103 u104 u105 u106 u107 u108 u109 u110 u111 u112 u113 u114 u115 u116 u117 u118 u119 u120 u121 u122 u123 u124 u125 u126 u127 u128 u129 u130 u131 u132 u133 u134 u135 u136 u137 u138 u139 u140 u141 u142 u143 u144 u145 u146 u147 u148 u149 u150 u151 u152 u153 u154 u155 u156 u157 u158 u159 u160 u161 u162 u163 u164 u165 u166 u167 u168 u169 u170 u171 u172 u173 u174 u175 u176 u177 u178 u179 u180 u181 u182 u183 u184 u185 u186 u187 u188 u189 u190 u191 u192 u193 u194 u195 u196 u197 u198 u199 u200 u201 u202 u203 u204 u205 u206 u207 u208 u209 u210 u211 u212 u213 u214 u215 u216 u217 u218 u219 u220 u221 u222 u223 u224 u225 u226 u227 u228 u229 u230 u231 u232 u233 u234 u235 u236 u237 u238 u239 u240 u241 u242 u243 u244 u245 u246 u247 u248 u249 u250 u251 u252 u253 u254 u255 u256 u257 u258 u259 u260 u261 u262 u263 u264 u265 u266 u267 u268 u269 u270 u271 u272 u273 u274 u275 u276 u277 u278 u279 u280 u281 u282 u283 u284 u285 u286 u287 u288 : Value) (hv : Sees4 Bc wr (.slice ax n cxp) xs) (hn : xs.length = n) (hn24 : n ≤ 24) (hc : codeOk xs = true) (hlt : s.pc < xs.length) (hBc : Bc ≤ wr.heap.size)
    (H : RelW xs n F r t w pR pS pT v0 v1 (.slice (some ⟨gr, 0, none⟩) 4 cr) (.slice ak mk ck) (.int .i64 s.pc) wr s ms gr cr gc cc gm cm ak mk ck) (hk : xs[s.pc].k = 8) :
    Code.wp Try.prog bodyW (Exit.then (fun a' w'' => WI xs n F r t w pR pS pT v0 v1 (.slice ax n cxp) c1 c2 c4 c5 c6 c7 c8 c26 c27 c28 c29 c30 c31 c32 c33 c289 c290 c291 a' w'' ∧ WMu n a' w'' < WMu n ⟨#[.slice ax n cxp, c1, c2, .slice (some ⟨gr, 0, none⟩) 4 cr, c4, c5, c6, c7, c8, .pointer (some ⟨pS, 0, none⟩), .pointer (some ⟨pR, 0, none⟩), .pointer (some ⟨pT, 0, none⟩), .slice ak mk ck, .int .i64 s.pc, u14, u15, u16, u17, u18, u19, u20, u21, u22, u23, u24, u25, c26, c27, c28, c29, c30, c31, c32, c33, u34, u35, u36, u37, u38, u39, u40, u41, u42, u43, u44, u45, u46, u47, u48, u49, u50, u51, u52, u53, u54, u55, u56, u57, u58, u59, u60, u61, u62, u63, u64, u65, u66, u67, u68, u69, u70, u71, u72, u73, u74, u75, u76, u77, u78, u79, u80, u81, u82, u83, u84, u85, u86, u87, u88, u89, u90, u91, u92, u93, u94, u95, u96, u97, u98, u99, u100, u101, u102, u103, u104, u105, u106, u107, u108, u109, u110, u111, u112, u113, u114, u115, u116, u117, u118, u119, u120, u121, u122, u123, u124, u125, u126, u127, u128, u129, u130, u131, u132, u133, u134, u135, u136, u137, u138, u139, u140, u141, u142, u143, u144, u145, u146, u147, u148, u149, u150, u151, u152, u153, u154, u155, u156, u157, u158, u159, u160, u161, u162, u163, u164, u165, u166, u167, u168, u169, u170, u171, u172, u173, u174, u175, u176, u177, u178, u179, u180, u181, u182, u183, u184, u185, u186, u187, u188, u189, u190, u191, u192, u193, u194, u195, u196, u197, u198, u199, u200, u201, u202, u203, u204, u205, u206, u207, u208, u209, u210, u211, u212, u213, u214, u215, u216, u217, u218, u219, u220, u221, u222, u223, u224, u225, u226, u227, u228, u229, u230, u231, u232, u233, u234, u235, u236, u237, u238, u239, u240, u241, u242, u243, u244, u245, u246, u247, u248, u249, u250, u251, u252, u253, u254, u255, u256, u257, u258, u259, u260, u261, u262, u263, u264, u265, u266, u267, u268, u269, u270, u271, u272, u273, u274, u275, u276, u277, u278, u279, u280, u281, u282, u283, u284, u285, u286, u287, u288, c289, c290, c291], []⟩ wr) Q0) ⟨#[.slice ax n cxp, c1, c2, .slice (some ⟨gr, 0, none⟩) 4 cr, c4, c5, c6, c7, c8, .pointer (some ⟨pS, 0, none⟩), .pointer (some ⟨pR, 0, none⟩), .pointer (some ⟨pT, 0, none⟩), .slice ak mk ck, .int .i64 s.pc, u14, u15, u16, u17, u18, u19, u20, u21, u22, u23, u24, u25, c26, c27, c28, c29, c30, c31, c32, c33, u34, u35, u36, u37, u38, u39, u40, u41, u42, u43, u44, u45, u46, u47, u48, u49, u50, u51, u52, u53, u54, u55, u56, u57, u58, u59, u60, u61, u62, u63, u64, u65, u66, u67, u68, u69, u70, u71, u72, u73, u74, u75, u76, u77, u78, u79, u80, u81, u82, u83, u84, u85, u86, u87, u88, u89, u90, u91, u92, u93, u94, u95, u96, u97, u98, u99, u100, u101, u102, u103, u104, u105, u106, u107, u108, u109, u110, u111, u112, u113, u114, u115, u116, u117, u118, u119, u120, u121, u122, u123, u124, u125, u126, u127, u128, u129, u130, u131, u132, u133, u134, u135, u136, u137, u138, u139, u140, u141, u142, u143, u144, u145, u146, u147, u148, u149, u150, u151, u152, u153, u154, u155, u156, u157, u158, u159, u160, u161, u162, u163, u164, u165, u166, u167, u168, u169, u170, u171, u172, u173, u174, u175, u176, u177, u178, u179, u180, u181, u182, u183, u184, u185, u186, u187, u188, u189, u190, u191, u192, u193, u194, u195, u196, u197, u198, u199, u200, u201, u202, u203, u204, u205, u206, u207, u208, u209, u210, u211, u212, u213, u214, u215, u216, u217, u218, u219, u220, u221, u222, u223, u224, u225, u226, u227, u228, u229, u230, u231, u232, u233, u234, u235, u236, u237, u238, u239, u240, u241, u242, u243, u244, u245, u246, u247, u248, u249, u250, u251, u252, u253, u254, u255, u256, u257, u258, u259, u260, u261, u262, u263, u264, u265, u266, u267, u268, u269, u270, u271, u272, u273, u274, u275, u276, u277, u278, u279, u280, u281, u282, u283, u284, u285, u286, u287, u288, c289, c290, c291], []⟩ wr := by
  conv => arg 2; whnf
  have hok := code_at hc hlt
  obtain ⟨b, off, rfl, hbB, hcc⟩ := hv.open (by omega)
  obtain ⟨o0, o1, o2, o3⟩ := see4 (B := Bc) hcc s.pc hlt
  have HCC := (show Hid _ from hcc)
  have hi : (s.pc : Int) < n := by omega
  have hi0 : (0 : Int) ≤ s.pc := by omega
  have hmu : n - s.pc < n - s.pc + 1 := by omega
  have HX : Hid (∀ x, xs[s.pc] = x → okOp x = true) := fun x hx => by rw [← hx]; exact hok
  obtain ⟨x, hx⟩ : ∃ x, xs[s.pc] = x := ⟨_, rfl⟩
  rw [hx] at o0 o1 o2 o3 hk hok
  have HXE : Hid (xs[s.pc] = x) := hx
  clear hx hcc HX
  obtain ⟨kk, oa, ob, oc⟩ := x
  simp only at o0 o1 o2 o3 hk
  subst hk
  have hokr := ok_ranges8b hok
  have S1 := H.st.on (alloc_below wr (.cells #[.int .i64 8, .int .i64 oa, .int .i64 ob, .int .i64 oc] 30))
  have X1 := Blk.new wr #[.int .i64 8, .int .i64 oa, .int .i64 ob, .int .i64 oc] 30
  obtain ⟨w1, hw1⟩ : ∃ W, wr.alloc (.cells #[.int .i64 8, .int .i64 oa, .int .i64 ob, .int .i64 oc] 30) = W := ⟨_, rfl⟩
  have HW1 := (show Hid _ from hw1)
  rw [hw1] at S1 X1
  clear hw1
  obtain ⟨hlr, -⟩ := regsOk_out H.ok.r
  obtain ⟨tc1, tc2, tc3⟩ := th_parts H.ok.t
  have hlc := (cellsOk_out tc1).1
  have hlm := (mapOk_out tc2).1
  go_wp2_with fail
  rw [HW1.out]
  obtain ⟨p, hp⟩ : ∃ p, wr.heap.size = p := ⟨_, rfl⟩
  rw [hp] at X1 ⊢
  clear hp HW1
  have y0 := S1.S.cell 0; have y1 := S1.S.cell 1; have y2 := S1.S.cell 2
  have hml : ms.length ≤ 24 := by
    have h1 := marksIs_len _ _ H.st.is
    have h2 := congrArg List.length H.ok.st
    have h3 := stAt_len xs s.pc
    simp only [List.length_reverse] at h1
    simp only [List.length_append, List.length_map, List.length_singleton] at h2
    omega
  obtain ⟨hst1, hst2⟩ := step_begin (t0 := t) (F := F) H.ok hlt (by rw [HXE.out])
  refine wp_region_noPanic ?_
  refine wp_region_held_drew (S := fun W => W.cell? ⟨pS, 0, none⟩ = some (.slice (some ⟨gc, 0, none⟩) 8 cc) ∧ W.cell? ⟨pS, 1, none⟩ = some (.slice (some ⟨gm, 0, none⟩) 8 cm) ∧ W.cell? ⟨pS, 2, none⟩ = some (.int .i64 s.t.n)) (by kernel_rfl) ⟨y0, y1, y2⟩ (fun hHeld => ?_)
  refine takeH (i := 0) (some 91) (.slice ak mk ck) rfl rfl (by kernel_rfl) (by kernel_rfl) (by kernel_rfl) (fun _ _ _ h => h) (Or.inl ⟨by rfl, fun W hSw => by obtain ⟨y0, y1, y2⟩ := hSw; go_simp⟩) (by assumption) ?_
  try simp only [Act.put, List.setIfInBounds_toArray, List.set_cons_zero, List.set_cons_succ]
  refine takeH (i := 1) (some 92) (.int .i64 s.pc) rfl rfl (by kernel_rfl) (by kernel_rfl) (by kernel_rfl) (fun _ _ _ h => h) (Or.inl ⟨by rfl, fun W hSw => by obtain ⟨y0, y1, y2⟩ := hSw; go_simp⟩) (by assumption) ?_
  try simp only [Act.put, List.setIfInBounds_toArray, List.set_cons_zero, List.set_cons_succ]
  refine takeH (i := 3) (some 94) (.slice (some ⟨gr, 0, none⟩) 4 cr) rfl rfl (by kernel_rfl) (by kernel_rfl) (by kernel_rfl) (fun _ _ _ h => h) (Or.inl ⟨by rfl, fun W hSw => by obtain ⟨y0, y1, y2⟩ := hSw; go_simp⟩) (by assumption) ?_
  try simp only [Act.put, List.setIfInBounds_toArray, List.set_cons_zero, List.set_cons_succ]
  refine takeH (i := 5) (some 96) (.agg #[.slice (some ⟨gc, 0, none⟩) 8 cc, .slice (some ⟨gm, 0, none⟩) 8 cm, .int .i64 s.t.n]) rfl rfl (by kernel_rfl) (by kernel_rfl) (by kernel_rfl) (fun _ _ _ h => h) (Or.inl ⟨by rfl, fun W hSw => by obtain ⟨y0, y1, y2⟩ := hSw; go_simp⟩) (by assumption) ?_
  try simp only [Act.put, List.setIfInBounds_toArray, List.set_cons_zero, List.set_cons_succ]
  refine wpAnyH_ready (rs := [2]) (by kernel_rfl) (by simp) ?_
  refine AllReadyH.cons rfl (fun K hK => ?_) AllReadyH.nil
  go_simp
  clear y0 y1 y2
  have A2 := alloc_below w1 (.cells #[] 3)
  have b12 : Below w1.heap.size w1 (w1.alloc (.cells #[] 3)).drew := ⟨A2.os, A2.tape, A2.output, A2.size, A2.block⟩
  have u2 : Ints.Owns w1.heap.size (w1.alloc (.cells #[] 3)).drew (.slice (some ⟨w1.heap.size, 0, none⟩) 0 0) [] := Ints.owns_lit w1 (Nat.le_refl _)
  obtain ⟨w2, hw2⟩ : ∃ W, (w1.alloc (.cells #[] 3)).drew = W := ⟨_, rfl⟩
  rw [hw2] at b12 u2 ⊢
  clear hw2 A2
  obtain ⟨p2, hp2⟩ : ∃ p, w1.heap.size = p := ⟨_, rfl⟩
  have HP2 := (show Hid _ from hp2)
  rw [hp2] at u2 b12 ⊢
  have S2 := S1.on (by rw [hp2]; exact b12)
  have s12 := b12.size
  rw [hp2] at s12
  clear hp2
  refine hK.out _ _ ⟨by have := S2.S.cell 0; simpa using this, by have := S2.S.cell 1; simpa using this, by have := S2.S.cell 2; simpa using this⟩ (fun hH2 => ?_)
  clear hK K
  try simp only [Act.put, List.setIfInBounds_toArray, List.set_cons_zero, List.set_cons_succ]
  refine wpAnyH_ready (rs := [4]) (by kernel_rfl) (by simp) ?_
  refine AllReadyH.cons rfl (fun K hK => ?_) AllReadyH.nil
  obtain ⟨v4, w4, hr4, O4, G4, L4⟩ := Ints.appJ (.slice (some ⟨p2, 0, none⟩) 0 0) (.slice (some ⟨gr, 0, none⟩) 4 cr) 25 [] s.r w2.heap.size p2 w2 u2 s12 S2.r.sees (by simp; omega)
  rw [List.nil_append] at O4
  have b14 : Below p2 w1 w4 := b12.grown G4 s12 (fun k hk => by cases hk; exact Nat.le_refl _)
  have S4 := S1.on (by rw [HP2.out]; exact b14)
  refine step_app rfl (.tmp 93) (.tmp 94) 25 rfl _ _ v4 w4 rfl rfl hr4 ?_
  clear hr4 G4 L4 u2
  refine hK.out _ _ ⟨by have := S4.S.cell 0; simpa using this, by have := S4.S.cell 1; simpa using this, by have := S4.S.cell 2; simpa using this⟩ (fun hH4 => ?_)
  clear hK K
  try simp only [Act.put, List.setIfInBounds_toArray, List.set_cons_zero, List.set_cons_succ]
  refine wpAnyH_ready (rs := [6]) (by kernel_rfl) (by simp) ?_
  refine AllReadyH.cons rfl (fun K hK => ?_) AllReadyH.nil
  have cC := copyC (.slice (some ⟨gc, 0, none⟩) 8 cc) (.slice (some ⟨gm, 0, none⟩) 8 cm) s.t w4.heap.size w4 ⟨S4.c.sees, S4.m.sees⟩ (Nat.le_refl _) (by omega) (by omega)
  go_simp
  refine cC.mono ?_
  rintro e w5 ⟨vc5, vm5, rfl, T5, b5⟩
  clear cC
  have s24 := b14.size
  rw [HP2.out] at s24
  have S5 := S4.on b5
  obtain ⟨a4, c4', rfl⟩ := O4.form
  obtain ⟨a5, c5', rfl⟩ := T5.c.form
  obtain ⟨am5, cm5, rfl⟩ := T5.m.form
  have hl4 : s.r.length = 4 := hlr
  rw [hl4] at O4 ⊢
  rw [hlc] at T5 ⊢
  rw [hlm] at T5 ⊢
  have b15 := b14.trans (b5.mono s24)
  obtain ⟨v9, w9, hr9, S9⟩ := S1.push (by rw [HP2.out]; exact b15) (by omega) ⟨s.pc, ⟨a4, 4, c4'⟩, ⟨a5, 8, c5'⟩, ⟨am5, 8, cm5⟩, s.t.n⟩ ⟨rfl, rfl⟩ (by rw [HP2.out]; exact O4.on b5 (Nat.le_refl _)) (by rw [HP2.out]; exact T5.c.mono s24) (by rw [HP2.out]; exact T5.m.mono s24)
  go_simp
  refine hK.out _ _ ⟨by have := S5.S.cell 0; simpa using this, by have := S5.S.cell 1; simpa using this, by have := S5.S.cell 2; simpa using this⟩ (fun hH5 => ?_)
  clear hK K
  try simp only [Act.put, List.setIfInBounds_toArray, List.set_cons_zero, List.set_cons_succ]
  refine takeH (i := 7) (some 98) (.agg #[.int .i64 s.pc, .slice a4 4 c4', .slice a5 8 c5', .slice am5 8 cm5, .int .i64 s.t.n]) rfl rfl (by kernel_rfl) (by kernel_rfl) (by kernel_rfl) (fun _ _ _ h => h) (Or.inl ⟨by rfl, fun W hSw => by obtain ⟨y0, y1, y2⟩ := hSw; go_simp⟩) (by assumption) ?_
  try simp only [Act.put, List.setIfInBounds_toArray, List.set_cons_zero, List.set_cons_succ]
  refine wpAnyH_ready (rs := [8]) (by kernel_rfl) (by simp) ?_
  refine AllReadyH.cons rfl (fun K hK => ?_) AllReadyH.nil
  go_simp
  have S8 := S5.on (alloc_below w5 (.cells #[.int .i64 s.pc, .slice a4 4 c4', .slice a5 8 c5', .slice am5 8 cm5, .int .i64 s.t.n] 133))
  refine hK.out _ _ ⟨by have := S8.S.cell 0; simpa using this, by have := S8.S.cell 1; simpa using this, by have := S8.S.cell 2; simpa using this⟩ (fun hH8 => ?_)
  clear hK K
  try simp only [Act.put, List.setIfInBounds_toArray, List.set_cons_zero, List.set_cons_succ]
  refine wpAnyH_ready (rs := [9]) (by kernel_rfl) (by simp) ?_
  refine AllReadyH.cons rfl (fun K hK => ?_) AllReadyH.nil
  refine step_app rfl (.tmp 91) (.tmp 99) 131 rfl _ _ v9 w9 rfl rfl hr9 ?_
  refine hK.out _ _ ⟨by have := S9.S.cell 0; simpa using this, by have := S9.S.cell 1; simpa using this, by have := S9.S.cell 2; simpa using this⟩ (fun hH9 => ?_)
  clear hK K
  try simp only [Act.put, List.setIfInBounds_toArray, List.set_cons_zero, List.set_cons_succ]
  refine wpAnyH_ready (rs := [10]) (by kernel_rfl) (by simp) ?_
  refine AllReadyH.cons rfl (fun K hK => ?_) AllReadyH.nil
  go_simp
  refine hK.out _ _ ⟨by have := S9.S.cell 0; simpa using this, by have := S9.S.cell 1; simpa using this, by have := S9.S.cell 2; simpa using this⟩ (fun hH10 => ?_)
  clear hK K
  try simp only [Act.put, List.setIfInBounds_toArray, List.set_cons_zero, List.set_cons_succ]
  refine wpAnyH_done (by kernel_rfl) (NoPanic.normal ?_) _
  clear hr9 S2 S4 S5 S8 O4 T5 b5 b14 b12 b15 hH2 hH4 hH5 hH8 hH9 hH10
  have hkl : (ms ++ [(⟨s.pc, ⟨a4, 4, c4'⟩, ⟨a5, 8, c5'⟩, ⟨am5, 8, cm5⟩, s.t.n⟩ : M5)]).length = mk + 1 := by have := H.l; simp; omega
  obtain ⟨a9, c9, rfl⟩ := S9.k.form
  rw [hkl] at S9 ⊢
  have HL : Hid (Leads xs t F ⟨0, r, t, []⟩ _) := H.led.trans (Leads.step hlt hst1)
  have HO : Hid (CfOk xs _) := hst2
  go_wp2
  refine ⟨?_, by simp [WMu, intOf]; omega⟩
  unfold WI
  refine ⟨_, _, _, _, _, _, _, _, _, _, _, _, _, _, _, _, _, _, _, _, _, _, _, _, _, _, _, _, _, _, _, _, _, _, _, _, _, _, _, _, _, _, _, _, _, _, _, _, _, _, _, _, _, _, _, _, _, _, _, _, _, _, _, _, _, _, _, _, _, _, _, _, _, _, _, _, _, _, _, _, _, _, _, _, _, _, _, _, _, _, _, _, _, _, _, _, _, _, _, _, _, _, _, _, _, _, _, _, _, _, _, _, _, _, _, _, _, _, _, _, _, _, _, _, _, _, _, _, _, _, _, _, _, _, _, _, _, _, _, _, _, _, _, _, _, _, _, _, _, _, _, _, _, _, _, _, _, _, _, _, _, _, _, _, _, _, _, _, _, _, _, _, _, _, _, _, _, _, _, _, _, _, _, _, _, _, _, _, _, _, _, _, _, _, _, _, _, _, _, _, _, _, _, _, _, _, _, _, _, _, _, _, _, _, _, _, _, _, _, _, _, _, _, _, _, _, _, _, _, _, _, _, _, _, _, _, _, _, _, _, _, _, _, _, _, _, _, _, _, _, _, _, _, _, _, _, _, _, _, _, _, _, _, _, _, _, _, _, _, _, ?_, rfl⟩
  exact ⟨_, _, gr, cr, gc, cc, gm, cm, _, _, _, { rg := rfl, kg := rfl, p := by go_num, l := hkl, ok := HO.out, led := HL.out, st := S9.pc _ }⟩
end Ops
end Go.Proofs.Ytppkohkcffnghaa
