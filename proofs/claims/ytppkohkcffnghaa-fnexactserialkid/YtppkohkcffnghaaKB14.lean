/- Several texts of one proof, in build order: WalkNo, ShapeSpec3, ShapeSpec4, KidSpec, IntMark, OpMark. -/
import Derived.Deep.QuietTactic
import Derived.BigQuiet
import Derived.Test.YtppkohkcffnghaaKB1
import Derived.Test.YtppkohkcffnghaaKB3
import Derived.Test.YtppkohkcffnghaaKB5
import Derived.Test.YtppkohkcffnghaaKB6
import Derived.Test.YtppkohkcffnghaaKB13
/- What the specification's l7Walk answers of code without forks. -/
set_option linter.unusedVariables false
set_option linter.unusedSimpArgs false
namespace Go.Proofs.Ytppkohkcffnghaa
open Go.RowKit
namespace Ops
open Bas Flat

/-- how a walk ends -/
def ToldRun (B : Nat) (xs : List O4) (F : List Int → Th → List Int × Th) (r : List Int) (t : Th) (e : Ending) (w' : World) : Prop :=
  ∃ v' vc' vm' q, e = .returned (.agg #[.int .i64 q.out, v', vc', vm', .int .i64 q.t.n]) ∧ Ends xs t F ⟨0, r, t, []⟩ q ∧ Ints.Owns B w' v' q.r ∧ OwnT B w' vc' vm' q.t ∧ Dj v' vc' ∧ Dj v' vm' ∧ (q.out = 1 ∨ q.out = 2) ∧ regsOk q.r = true ∧ thOk q.t = true

theorem retPost {xs : List O4} {F : List Int → Th → List Int × Th} {r : List Int} {t : Th} {w : World} {pR : Nat} {a' : Act} {w' : World} (h : RetW xs F r t w pR a' w') :
    bodyPost Try.prog Try.f78 (fun e w'' => ToldRun w.heap.size xs F r t e w'' ∧ Below w.heap.size w w'') .ret a' w' := by
  obtain ⟨h1, h2, v', vc', vm', q, hb, hE, o1, o2, o3, o4, o5, o6, o7, o8⟩ := h
  obtain ⟨a1, c1, rfl⟩ := o1.form
  obtain ⟨a2, c2, rfl⟩ := o2.c.form
  obtain ⟨a3, c3, rfl⟩ := o2.m.form
  have b0 := hb.cell 0; have b1 := hb.cell 1; have b2 := hb.cell 2; have b3 := hb.cell 3; have b4 := hb.cell 4
  refine bodyPost_ret (v := .agg #[.int .i64 q.out, .slice a1 q.r.length c1, .slice a2 q.t.c.length c2, .slice a3 q.t.m.length c3, .int .i64 q.t.n]) ?_ h2 ⟨⟨_, _, _, q, rfl, hE, o1, o2, o3, o4, o5, o6, o7⟩, o8⟩
  have h1' : a'.tmps[10]?.getD undef = .pointer (some ⟨pR, 0, none⟩) := by simpa using h1
  simp [results, Try.results78, go_sem, h1', b0, b1, b2, b3, b4]
theorem exit_told {xs : List O4} {F : List Int → Th → List Int × Th} {r : List Int} {t : Th} {w W : World} {pR pS pT : Nat} {vr vc vm vk v0 v1 : Value} {ms : List M5} {s : Cf} (S1 : WSt w W pR pS pT vr vc vm vk v0 v1 ms s t) (out : Int)
    (hE : Ends xs t F ⟨0, r, t, []⟩ ⟨out, s.r, s.t⟩) (ho : out = 1 ∨ out = 2) (hr : regsOk s.r = true) (ht : thOk s.t = true) :
    Blk (((((W.setCell ⟨pR, 0, none⟩ (.int .i64 out)).setCell ⟨pR, 1, none⟩ vr).setCell ⟨pR, 2, none⟩ vc).setCell ⟨pR, 3, none⟩ vm).setCell ⟨pR, 4, none⟩ (.int .i64 s.t.n)) pR #[.int .i64 out, vr, vc, vm, .int .i64 s.t.n] 45 ∧ Ends xs t F ⟨0, r, t, []⟩ ⟨out, s.r, s.t⟩ ∧ Ints.Owns w.heap.size (((((W.setCell ⟨pR, 0, none⟩ (.int .i64 out)).setCell ⟨pR, 1, none⟩ vr).setCell ⟨pR, 2, none⟩ vc).setCell ⟨pR, 3, none⟩ vm).setCell ⟨pR, 4, none⟩ (.int .i64 s.t.n)) vr s.r ∧ OwnT w.heap.size (((((W.setCell ⟨pR, 0, none⟩ (.int .i64 out)).setCell ⟨pR, 1, none⟩ vr).setCell ⟨pR, 2, none⟩ vc).setCell ⟨pR, 3, none⟩ vm).setCell ⟨pR, 4, none⟩ (.int .i64 s.t.n)) vc vm s.t ∧ Dj vr vc ∧ Dj vr vm ∧ (out = 1 ∨ out = 2) ∧ regsOk s.r = true ∧ thOk s.t = true ∧ Below w.heap.size w (((((W.setCell ⟨pR, 0, none⟩ (.int .i64 out)).setCell ⟨pR, 1, none⟩ vr).setCell ⟨pR, 2, none⟩ vc).setCell ⟨pR, 3, none⟩ vm).setCell ⟨pR, 4, none⟩ (.int .i64 s.t.n)) := by
  have oR : ∀ {v : Value} {zs : List Int} {B : Nat}, Ints.Owns B W v zs → ∀ k, v.ownBlock = some k → k ≠ pR := fun ho k e => int_off ho S1.R (by decide) k e
  have hk5 : ∀ k, k ≠ pR → (((((W.setCell ⟨pR, 0, none⟩ (.int .i64 out)).setCell ⟨pR, 1, none⟩ vr).setCell ⟨pR, 2, none⟩ vc).setCell ⟨pR, 3, none⟩ vm).setCell ⟨pR, 4, none⟩ (.int .i64 s.t.n)).heap[k]? = W.heap[k]? := fun k hk => by
    rw [Below.heap_setCell _ ⟨pR, 4, none⟩ _ k hk, Below.heap_setCell _ ⟨pR, 3, none⟩ _ k hk, Below.heap_setCell _ ⟨pR, 2, none⟩ _ k hk, Below.heap_setCell _ ⟨pR, 1, none⟩ _ k hk, Below.heap_setCell _ ⟨pR, 0, none⟩ _ k hk]
  refine ⟨((((S1.R.set 0 (.int .i64 out)).set 1 vr).set 2 vc).set 3 vm).set 4 (.int .i64 s.t.n), hE, S1.r.keep fun k e => hk5 k (oR S1.r k e), ⟨S1.c.keep fun k e => hk5 k (oR S1.c k e), S1.m.keep fun k e => hk5 k (oR S1.m k e), S1.d.2.2⟩, S1.d.1, S1.d.2.1, ho, hr, ht, ?_⟩
  exact ((((S1.b.setCell (p := ⟨pR, 0, none⟩) S1.p.1 (.int .i64 out)).setCell (p := ⟨pR, 1, none⟩) S1.p.1 vr).setCell (p := ⟨pR, 2, none⟩) S1.p.1 vc).setCell (p := ⟨pR, 3, none⟩) S1.p.1 vm).setCell (p := ⟨pR, 4, none⟩) S1.p.1 (.int .i64 s.t.n)
set_option maxRecDepth 1000000 in
theorem startWI {xs : List O4} {n : Nat} {F : List Int → Th → List Int × Th} {r : List Int} {t : Th} {w wr : World} {pR pS pT : Nat} {v0 v1 : Value} (cx c1 c2 c4 c5 c6 c7 c8 c26 c27 c28 c29 c30 c31 c32 c33 c289 c290 c291 : Value) (u3 u12 u13 u14 u15 u16 u17 u18 u19 u20 u21 u22 u23 u24 u25 u34 u35 u36 u37 u38 u39 u40 u41 u42 u43 u44 u45 u46 u47 u48 u49 u50 u51 u52 u53 u54 u55 u56 u57 u58 u59 u60 u61 u62 u63 u64 u65 u66 u67 u68 u69 u70 u71 u72 u73 u74 u75 u76 u77 u78 u79 u80 u81 u82 u83 u84 u85 u86 u87 u88 u89 u90 u91 u92 u93 u94 u95 u96 u97 u98 u99 u100 u101 u102 u103 u104 u105 u106 u107 u108 u109 u110 u111 u112 u113 u114 u115 u116 u117 u118 u119 u120 u121 u122 u123 u124 u125 u126 u127 u128 u129 u130 u131 u132 u133 u134 u135 u136 u137 u138 u139 u140 u141 u142 u143 u144 u145 u146 u147 u148 u149 u150 u151 u152 u153 u154 u155 u156 u157 u158 u159 u160 u161 u162 u163 u164 u165 u166 u167 u168 u169 u170 u171 u172 u173 u174 u175 u176 u177 u178 u179 u180 u181 u182 u183 u184 u185 u186 u187 u188 u189 u190 u191 u192 u193 u194 u195 u196 u197 u198 u199 u200 u201 u202 u203 u204 u205 u206 u207 u208 u209 u210 u211 u212 u213 u214 u215 u216 u217 u218 u219 u220 u221 u222 u223 u224 u225 u226 u227 u228 u229 u230 u231 u232 u233 u234 u235 u236 u237 u238 u239 u240 u241 u242 u243 u244 u245 u246 u247 u248 u249 u250 u251 u252 u253 u254 u255 u256 u257 u258 u259 u260 u261 u262 u263 u264 u265 u266 u267 u268 u269 u270 u271 u272 u273 u274 u275 u276 u277 u278 u279 u280 u281 u282 u283 u284 u285 u286 u287 u288 : Value) (h : RelE xs n F r t w pR pS pT v0 v1 u3 u12 u13 wr) : WI xs n F r t w pR pS pT v0 v1 cx c1 c2 c4 c5 c6 c7 c8 c26 c27 c28 c29 c30 c31 c32 c33 c289 c290 c291 ⟨#[cx, c1, c2, u3, c4, c5, c6, c7, c8, .pointer (some ⟨pS, 0, none⟩), .pointer (some ⟨pR, 0, none⟩), .pointer (some ⟨pT, 0, none⟩), u12, u13, u14, u15, u16, u17, u18, u19, u20, u21, u22, u23, u24, u25, c26, c27, c28, c29, c30, c31, c32, c33, u34, u35, u36, u37, u38, u39, u40, u41, u42, u43, u44, u45, u46, u47, u48, u49, u50, u51, u52, u53, u54, u55, u56, u57, u58, u59, u60, u61, u62, u63, u64, u65, u66, u67, u68, u69, u70, u71, u72, u73, u74, u75, u76, u77, u78, u79, u80, u81, u82, u83, u84, u85, u86, u87, u88, u89, u90, u91, u92, u93, u94, u95, u96, u97, u98, u99, u100, u101, u102, u103, u104, u105, u106, u107, u108, u109, u110, u111, u112, u113, u114, u115, u116, u117, u118, u119, u120, u121, u122, u123, u124, u125, u126, u127, u128, u129, u130, u131, u132, u133, u134, u135, u136, u137, u138, u139, u140, u141, u142, u143, u144, u145, u146, u147, u148, u149, u150, u151, u152, u153, u154, u155, u156, u157, u158, u159, u160, u161, u162, u163, u164, u165, u166, u167, u168, u169, u170, u171, u172, u173, u174, u175, u176, u177, u178, u179, u180, u181, u182, u183, u184, u185, u186, u187, u188, u189, u190, u191, u192, u193, u194, u195, u196, u197, u198, u199, u200, u201, u202, u203, u204, u205, u206, u207, u208, u209, u210, u211, u212, u213, u214, u215, u216, u217, u218, u219, u220, u221, u222, u223, u224, u225, u226, u227, u228, u229, u230, u231, u232, u233, u234, u235, u236, u237, u238, u239, u240, u241, u242, u243, u244, u245, u246, u247, u248, u249, u250, u251, u252, u253, u254, u255, u256, u257, u258, u259, u260, u261, u262, u263, u264, u265, u266, u267, u268, u269, u270, u271, u272, u273, u274, u275, u276, u277, u278, u279, u280, u281, u282, u283, u284, u285, u286, u287, u288, c289, c290, c291], []⟩ wr := by
  unfold WI
  exact ⟨_, _, _, _, _, _, _, _, _, _, _, _, _, _, _, _, _, _, _, _, _, _, _, _, _, _, _, _, _, _, _, _, _, _, _, _, _, _, _, _, _, _, _, _, _, _, _, _, _, _, _, _, _, _, _, _, _, _, _, _, _, _, _, _, _, _, _, _, _, _, _, _, _, _, _, _, _, _, _, _, _, _, _, _, _, _, _, _, _, _, _, _, _, _, _, _, _, _, _, _, _, _, _, _, _, _, _, _, _, _, _, _, _, _, _, _, _, _, _, _, _, _, _, _, _, _, _, _, _, _, _, _, _, _, _, _, _, _, _, _, _, _, _, _, _, _, _, _, _, _, _, _, _, _, _, _, _, _, _, _, _, _, _, _, _, _, _, _, _, _, _, _, _, _, _, _, _, _, _, _, _, _, _, _, _, _, _, _, _, _, _, _, _, _, _, _, _, _, _, _, _, _, _, _, _, _, _, _, _, _, _, _, _, _, _, _, _, _, _, _, _, _, _, _, _, _, _, _, _, _, _, _, _, _, _, _, _, _, _, _, _, _, _, _, _, _, _, _, _, _, _, _, _, _, _, _, _, _, _, _, _, _, _, _, _, _, _, _, _, _, h, rfl⟩
set_option maxRecDepth 1000000 in
set_option maxHeartbeats 16000000 in
theorem walkNo (vx : Value) (xs : List O4) (Bc : Nat) (w : World) (hv : Sees4 Bc w vx xs) (hB : Bc ≤ w.heap.size) (hc : codeOk xs = true) (hf : hasFork xs = false)
    (vr0 : Value) (r : List Int) (hr : Ints.Sees Bc w vr0 r) (hrk : regsOk r = true) (vc00 vm00 : Value) (t : Th) (ht : SeeT Bc w vc00 vm00 t) (htk : thOk t = true) :
    Calls Try.prog 78 #[vx, .slice none 0 0, .slice none 0 0, vr0, .agg #[vc00, vm00, .int .i64 t.n]] w fun e w' => ToldRun w.heap.size xs noF r t e w' ∧ Below w.heap.size w w' := by
  obtain ⟨ax, cx, rfl⟩ := hv.form
  obtain ⟨ar, cr, rfl⟩ := hr.form
  obtain ⟨ac, cc, rfl⟩ := ht.c.form
  obtain ⟨am, cm, rfl⟩ := ht.m.form
  have hrl := (regsOk_out hrk).1
  obtain ⟨tk1, tk2, tk3⟩ := th_parts htk
  have hcl := (cellsOk_out tk1).1
  have hml := (mapOk_out tk2).1
  have hxl := (code_four hc).1
  obtain ⟨n, hn⟩ : ∃ n, xs.length = n := ⟨_, rfl⟩
  rw [hrl] at hr ⊢
  rw [hcl] at ht ⊢
  rw [hml] at ht ⊢
  rw [hn] at hv hxl ⊢
  obtain ⟨tn, htn⟩ : ∃ x, t.n = x := ⟨_, rfl⟩
  have HTN : Hid (t.n = tn) := htn
  rw [htn]
  clear htn
  have b0 := alloc_below w (.cells #[.slice ac 8 cc, .slice am 8 cm, .int .i64 tn] 37)
  have S0 := Blk.new w #[.slice ac 8 cc, .slice am 8 cm, .int .i64 tn] 37
  obtain ⟨w0, hw0⟩ : ∃ W, w.alloc (.cells #[.slice ac 8 cc, .slice am 8 cm, .int .i64 tn] 37) = W := ⟨_, rfl⟩
  have HW0 := (show Hid _ from hw0)
  have hz0 : w0.heap.size = w.heap.size + 1 := by rw [← hw0]; simp
  rw [hw0] at b0 S0
  clear hw0
  have b1 := alloc_below w0 (.cells #[.int .i64 0, .slice none 0 0, .slice none 0 0, .slice none 0 0, .int .i64 0] 45)
  have R1 := Blk.new w0 #[.int .i64 0, .slice none 0 0, .slice none 0 0, .slice none 0 0, .int .i64 0] 45
  have S1 := S0.on b1 S0.lt
  have bb1 := b0.trans (b1.mono b0.size)
  obtain ⟨w1, hw1⟩ : ∃ W, w0.alloc (.cells #[.int .i64 0, .slice none 0 0, .slice none 0 0, .slice none 0 0, .int .i64 0] 45) = W := ⟨_, rfl⟩
  have HW1 := (show Hid _ from hw1)
  have hz1 : w1.heap.size = w.heap.size + 2 := by rw [← hw1]; simp [hz0]
  rw [hw1] at R1 S1 bb1
  rw [hz0] at R1
  clear hw1 b0 S0 b1
  have c1 := copyC (.slice ac 8 cc) (.slice am 8 cm) t Bc w1 (ht.on bb1 hB) (by omega) (by omega) (by omega)
  rw [HTN.out] at c1
  obtain ⟨pS, hpS⟩ : ∃ p, w.heap.size = p := ⟨_, rfl⟩
  have HPS := (show Hid _ from hpS)
  obtain ⟨pR, hpR⟩ : ∃ p, w.heap.size + 1 = p := ⟨_, rfl⟩
  have HPR := (show Hid _ from hpR)
  have hS1 := S1
  rw [hpS] at hS1
  rw [hpR] at R1
  have hpRS : pS < pR := by omega
  have hpR1 : pR < w1.heap.size := by omega
  clear hpS hpR hz0 hz1
  have x0 := S1.cell 0; have x1 := S1.cell 1; have x2 := S1.cell 2
  go_enter Try.func78, Try.ntmps78
  go_wp2_with fail
  rw [HW0.out, HW1.out, HPR.out, HPS.out]
  refine c1.mono ?_
  rintro e w2 ⟨vc0, vm0, rfl, T2, b2⟩
  clear c1 x0 x1 x2 HW0 HW1
  obtain ⟨a0, c0, rfl⟩ := T2.c.form
  obtain ⟨am0, cm0, rfl⟩ := T2.m.form
  rw [hcl, hml] at T2 ⊢
  have R2 := R1.on b2 hpR1
  have S2 := hS1.on b2 hS1.lt
  have bb2 := bb1.trans (b2.mono bb1.size)
  clear R1 S1 hS1
  have bA := alloc_below w2 (.cells #[.slice a0 8 c0, .slice am0 8 cm0, .int .i64 tn] 37)
  have TA := Blk.new w2 #[.slice a0 8 c0, .slice am0 8 cm0, .int .i64 tn] 37
  have RA := R2.on bA R2.lt
  have SA := S2.on bA S2.lt
  have T3 := T2.on bA
  have bb3 := bb2.trans (bA.mono bb2.size)
  have h2A : w2.heap.size < (w2.alloc (.cells #[.slice a0 8 c0, .slice am0 8 cm0, .int .i64 tn] 37)).heap.size := TA.lt
  have h12 := b2.size
  have hrA := hr.on bb3 hB
  obtain ⟨w3, hw3⟩ : ∃ W, w2.alloc (.cells #[.slice a0 8 c0, .slice am0 8 cm0, .int .i64 tn] 37) = W := ⟨_, rfl⟩
  have HW3 := (show Hid _ from hw3)
  rw [hw3] at TA RA SA T3 bb3 h2A hrA
  clear hw3 bA
  obtain ⟨pT, hpT⟩ : ∃ p, w2.heap.size = p := ⟨_, rfl⟩
  have HPT := (show Hid _ from hpT)
  rw [hpT] at TA h2A h12
  clear hpT R2 S2 T2 bb2 b2
  have L3 := Ints.owns_lit w3 (B := w3.heap.size) (Nat.le_refl _)
  have bL := alloc_below w3 (.cells #[] 3)
  have hszw : w.heap.size ≤ w3.heap.size := bb3.size
  obtain ⟨v4, w4, hr4, O4, G4, N4⟩ := Ints.appJ (.slice (some ⟨w3.heap.size, 0, none⟩) 0 0) (.slice ar 4 cr) 25 [] r Bc w3.heap.size _ L3 (by simp) (hrA.on bL (by omega)) (by simp; omega)
  rw [List.nil_append] at O4
  have b4 : Below w3.heap.size w3 w4 := bL.grown G4 (by simp) (fun k hk => by cases hk; exact Nat.le_refl _)
  obtain ⟨a4, c4, rfl⟩ := O4.form
  rw [hrl] at O4 hr4
  have RB := RA.on b4 RA.lt
  have SB := SA.on b4 SA.lt
  have TB := TA.on b4 TA.lt
  have T4 := T3.on b4
  have bb4 := bb3.trans (b4.mono bb3.size)
  have y0 := SB.cell 0; have y1 := SB.cell 1; have y2 := SB.cell 2
  have hz3 : (w2.alloc (.cells #[.slice a0 8 c0, .slice am0 8 cm0, .int .i64 tn] 37)).heap.size = w3.heap.size := by rw [HW3.out]
  have hr4 : (Builtin.append_ #[25, 25] 25 #[.slice (some ⟨w3.heap.size, 0, none⟩) 0 0, .slice ar 4 cr]).run Try.prog ((w2.alloc (.cells #[.slice a0 8 c0, .slice am0 8 cm0, .int .i64 tn] 37)).alloc (.cells #[] 3)) = .ok (.slice a4 4 c4) w4 := by rw [HW3.out]; exact hr4
  go_wp2_with (at_builtin; refine wpList_app _ rfl _ _ 25 rfl _ _ _ _ rfl rfl hr4 ?_)
  clear y0 y1 y2 hr4 HW3 hz3
  have c5 := copyC (.slice ac 8 cc) (.slice am 8 cm) t Bc w4 (ht.on bb4 hB) (by have := bb4.size; omega) (by omega) (by omega)
  rw [HTN.out] at c5
  refine c5.mono ?_
  rintro e w5 ⟨vc5, vm5, rfl, T5, b5⟩
  clear c5
  rw [HPT.out]
  clear HPT
  obtain ⟨a5, c5, rfl⟩ := T5.c.form
  obtain ⟨am5, cm5, rfl⟩ := T5.m.form
  rw [hcl, hml] at T5 ⊢
  have h34 := b4.size
  have h45 := b5.size
  have hw1z := bb1.size
  have bb5 := bb4.trans (b5.mono bb4.size)
  have SS : WSt w (((w5.setCell ⟨pS, 0, none⟩ (.slice a5 8 c5)).setCell ⟨pS, 1, none⟩ (.slice am5 8 cm5)).setCell ⟨pS, 2, none⟩ (.int .i64 tn)) pR pS pT (.slice a4 4 c4) (.slice a5 8 c5) (.slice am5 8 cm5) (.slice none 0 0) (.slice a0 8 c0) (.slice am0 8 cm0) [] ⟨0, r, t, []⟩ t := by
    have key := WSt.start (w := w) (W := w5) (pR := pR) (pS := pS) (pT := pT) (vr := .slice a4 4 c4) (vc := .slice a5 8 c5) (vm := .slice am5 8 cm5) (vc0 := .slice a0 8 c0) (vm0 := .slice am0 8 cm0) (pc := 0) (r := r) (t := t) (RB.on b5 RB.lt) (SB.on b5 SB.lt) (by rw [HTN.out]; exact TB.on b5 TB.lt)
      ((O4.on b5 (Nat.le_refl _)).mono hszw) ((T4.on b5).mono hw1z) (T5.mono bb4.size)
      ⟨fun k e e' => by have := (O4.at k e).2; have := (T5.c.at k e').1; omega, fun k e e' => by have := (O4.at k e).2; have := (T5.m.at k e').1; omega⟩
      ⟨fun k e e' => by have := (O4.at k e).1; have := (T3.c.at k e').2; omega, fun k e e' => by have := (O4.at k e).1; have := (T3.m.at k e').2; omega,
       fun k e e' => by have := (T5.c.at k e).1; have := (T3.c.at k e').2; omega, fun k e e' => by have := (T5.c.at k e).1; have := (T3.m.at k e').2; omega,
       fun k e e' => by have := (T5.m.at k e).1; have := (T3.c.at k e').2; omega, fun k e e' => by have := (T5.m.at k e).1; have := (T3.m.at k e').2; omega⟩ bb5 (by have := HPS.out; have := HPR.out; omega)
    rw [HTN.out] at key
    exact key
  have s0 := (SB.on b5 SB.lt).cell 0; have s1 := (SB.on b5 SB.lt).cell 1; have s2 := (SB.on b5 SB.lt).cell 2
  have f0 := (SB.on b5 SB.lt).froz 0; have f1 := (SB.on b5 SB.lt).froz 1; have f2 := (SB.on b5 SB.lt).froz 2
  have S0 := SS.marks0
  obtain ⟨g4, rfl⟩ := own_some O4 (by omega)
  obtain ⟨g5, rfl⟩ := own_some T5.c (by omega)
  obtain ⟨gm5, rfl⟩ := own_some T5.m (by omega)
  have HTK := (show Hid _ from htk)
  clear SS RA SA TA RB SB TB T3 T4 T5 O4 L3 bL G4 N4 hrA
  go_wp2
  have K0 : CfOk xs ⟨0, r, t, []⟩ := CfOk.start hrk htk
  have HKS : Hid (∀ W, Below w.heap.size w W → Sees4 Bc W (.slice ax n cx) xs) := fun W hb => hv.on hb hB
  have HC : Hid (codeOk xs = true ∧ hasFork xs = false ∧ xs.length = n) := ⟨hc, hf, hn⟩
  clear hv hr ht s0 s1 s2 f0 f1 f2 hc hf hn hrl hcl hml tk1 tk2 tk3 hrk htk h12 h2A h34 h45 hw1z b4 b5 bb1 bb3 bb4 bb5 hpR1 hpRS hszw
  have hz5 : (((w5.setCell ⟨pS, 0, none⟩ (.slice (some ⟨g5, 0, none⟩) 8 c5)).setCell ⟨pS, 1, none⟩ (.slice (some ⟨gm5, 0, none⟩) 8 cm5)).setCell ⟨pS, 2, none⟩ (.int .i64 tn)).heap.size = w5.heap.size := by simp
  rw [hz5] at S0
  clear hz5
  obtain ⟨W0, hW0⟩ : ∃ W, (((w5.setCell ⟨pS, 0, none⟩ (.slice (some ⟨g5, 0, none⟩) 8 c5)).setCell ⟨pS, 1, none⟩ (.slice (some ⟨gm5, 0, none⟩) 8 cm5)).setCell ⟨pS, 2, none⟩ (.int .i64 tn)).alloc (.cells #[] 133) = W := ⟨_, rfl⟩
  rw [hW0] at S0 ⊢
  clear hW0
  have KR : RelE xs n noF r t w pR pS pT (.slice a0 8 c0) (.slice am0 8 cm0) (.slice (some ⟨g4, 0, none⟩) 4 c4) (.slice (some ⟨w5.heap.size, 0, none⟩) 0 0) (.int .i64 0) W0 := ⟨⟨0, r, t, []⟩, [], g4, c4, g5, c5, gm5, cm5, _, 0, 0, { rg := rfl, kg := rfl, p := rfl, l := rfl, ok := K0, led := Leads.refl _, st := S0 }⟩
  refine wp_loop (c := (bodyOf Try.f78.body)) _ (WMu n) (startWI _ _ _ _ _ _ _ _ _ _ _ _ _ _ _ _ _ _ _ _ _ _ _ _ _ _ _ _ _ _ _ _ _ _ _ _ _ _ _ _ _ _ _ _ _ _ _ _ _ _ _ _ _ _ _ _ _ _ _ _ _ _ _ _ _ _ _ _ _ _ _ _ _ _ _ _ _ _ _ _ _ _ _ _ _ _ _ _ _ _ _ _ _ _ _ _ _ _ _ _ _ _ _ _ _ _ _ _ _ _ _ _ _ _ _ _ _ _ _ _ _ _ _ _ _ _ _ _ _ _ _ _ _ _ _ _ _ _ _ _ _ _ _ _ _ _ _ _ _ _ _ _ _ _ _ _ _ _ _ _ _ _ _ _ _ _ _ _ _ _ _ _ _ _ _ _ _ _ _ _ _ _ _ _ _ _ _ _ _ _ _ _ _ _ _ _ _ _ _ _ _ _ _ _ _ _ _ _ _ _ _ _ _ _ _ _ _ _ _ _ _ _ _ _ _ _ _ _ _ _ _ _ _ _ _ _ _ _ _ _ _ _ _ _ _ _ _ _ _ _ _ _ _ _ _ _ _ _ _ _ _ _ _ _ _ _ _ _ _ _ _ _ _ _ _ _ _ _ _ _ _ _ _ _ _ _ _ _ _ KR) (roundW _ Bc ax cx _ _ _ _ _ _ _ _ _ _ _ _ _ _ _ _ _ _ (HKS.out w (Below.refl _ _)) hB HC.out.2.2 hxl HC.out.1 HTK.out a0 am0 c0 cm0 rfl rfl ?_ ?_ ?_)
  · intro a' w' hR
    exact retPost hR
  · intro a' w' hI hge
    refine WI.elim hI ?_
    intro u3 u12 u13 u14 u15 u16 u17 u18 u19 u20 u21 u22 u23 u24 u25 u34 u35 u36 u37 u38 u39 u40 u41 u42 u43 u44 u45 u46 u47 u48 u49 u50 u51 u52 u53 u54 u55 u56 u57 u58 u59 u60 u61 u62 u63 u64 u65 u66 u67 u68 u69 u70 u71 u72 u73 u74 u75 u76 u77 u78 u79 u80 u81 u82 u83 u84 u85 u86 u87 u88 u89 u90 u91 u92 u93 u94 u95 u96 u97 u98 u99 u100 u101 u102 u103 u104 u105 u106 u107 u108 u109 u110 u111 u112 u113 u114 u115 u116 u117 u118 u119 u120 u121 u122 u123 u124 u125 u126 u127 u128 u129 u130 u131 u132 u133 u134 u135 u136 u137 u138 u139 u140 u141 u142 u143 u144 u145 u146 u147 u148 u149 u150 u151 u152 u153 u154 u155 u156 u157 u158 u159 u160 u161 u162 u163 u164 u165 u166 u167 u168 u169 u170 u171 u172 u173 u174 u175 u176 u177 u178 u179 u180 u181 u182 u183 u184 u185 u186 u187 u188 u189 u190 u191 u192 u193 u194 u195 u196 u197 u198 u199 u200 u201 u202 u203 u204 u205 u206 u207 u208 u209 u210 u211 u212 u213 u214 u215 u216 u217 u218 u219 u220 u221 u222 u223 u224 u225 u226 u227 u228 u229 u230 u231 u232 u233 u234 u235 u236 u237 u238 u239 u240 u241 u242 u243 u244 u245 u246 u247 u248 u249 u250 u251 u252 u253 u254 u255 u256 u257 u258 u259 u260 u261 u262 u263 u264 u265 u266 u267 u268 u269 u270 u271 u272 u273 u274 u275 u276 u277 u278 u279 u280 u281 u282 u283 u284 u285 u286 u287 u288 hrel ha
    subst ha
    obtain ⟨s, ms, gr, cr, gc, cc, gm, cm, ak, mk, ck, H⟩ := hrel
    obtain rfl := H.rg
    obtain rfl := H.kg
    obtain rfl := H.p
    have hge' : ¬ s.pc < n := by simpa [intOf] using hge
    have y0 := H.st.S.cell 0; have y1 := H.st.S.cell 1; have y2 := H.st.S.cell 2
    have r0 := H.st.R.cell 0; have r1 := H.st.R.cell 1; have r2 := H.st.R.cell 2; have r3 := H.st.R.cell 3; have r4 := H.st.R.cell 4
    have z0 := H.st.R.froz 0; have z1 := H.st.R.froz 1; have z2 := H.st.R.froz 2; have z3 := H.st.R.froz 3; have z4 := H.st.R.froz 4
    have HH := (show Hid _ from H)
    clear H hI hge KR S0 K0
    go_wp2_with fail
    refine retPost ⟨rfl, rfl, .slice (some ⟨gr, 0, none⟩) 4 cr, .slice (some ⟨gc, 0, none⟩) 8 cc, .slice (some ⟨gm, 0, none⟩) 8 cm, ⟨1, s.r, s.t⟩, ?_⟩
    exact exit_told HH.out.st 1 (HH.out.led _ (Ends.over (by rw [HC.out.2.2]; omega))) (.inl rfl) HH.out.ok.r HH.out.ok.t
  · intro a wr _ hlt h11
    exact absurd (hasFork_yes hlt h11) (by rw [HC.out.2.1]; simp)
end Ops
end Go.Proofs.Ytppkohkcffnghaa
/- What the specification's CodeOk and KidOk answer. -/
set_option linter.unusedVariables false
namespace Go.Proofs.Ytppkohkcffnghaa
open Go.RowKit
namespace Ops
open Bas Flat

/-- one op more of a code, by its kind -/
theorem go_bad {xs : List O4} {k : Nat} (h : k < xs.length) {d : Int} {f : Nat} (ho : okOp xs[k] = false) : codeGo xs (xs.drop k) k d f = false := by
  rw [codeGo_step h, ho]; simp
theorem go_begin {xs : List O4} {k : Nat} (h : k < xs.length) {d : Int} {f : Nat} (ho : okOp xs[k] = true) (hd : 0 ≤ d) (h8 : xs[k].k = 8) : codeGo xs (xs.drop k) k d f = codeGo xs (xs.drop (k + 1)) (k + 1) (d + 1) f := by
  have e : delta xs[k] = 1 := by unfold delta; rw [if_pos h8]
  rw [codeGo_step h, ho, e, h8, decide_eq_true (show 0 ≤ d + 1 by omega)]; simp
theorem go_end {xs : List O4} {k : Nat} (h : k < xs.length) {d : Int} {f : Nat} (ho : okOp xs[k] = true) (h9 : xs[k].k = 9) : codeGo xs (xs.drop k) k d f = (decide (0 ≤ d - 1) && codeGo xs (xs.drop (k + 1)) (k + 1) (d - 1) f) := by
  have e : delta xs[k] = -1 := by unfold delta; rw [if_neg (by omega), if_pos h9]
  rw [codeGo_step h, ho, e, h9, Int.add_neg_one]; simp
theorem go_skip {xs : List O4} {k : Nat} (h : k < xs.length) {d : Int} {f : Nat} (ho : okOp xs[k] = true) (hd : 0 ≤ d) (h7 : xs[k].k = 7) : codeGo xs (xs.drop k) k d f = (skipOk xs k && codeGo xs (xs.drop (k + 1)) (k + 1) d f) := by
  have e : delta xs[k] = 0 := by unfold delta; rw [if_neg (by omega), if_neg (by omega)]
  rw [codeGo_step h, ho, e, h7, Int.add_zero, decide_eq_true hd]; simp
theorem go_fork {xs : List O4} {k : Nat} (h : k < xs.length) {d : Int} {f : Nat} (ho : okOp xs[k] = true) (hd : 0 ≤ d) (h11 : xs[k].k = 11) : codeGo xs (xs.drop k) k d f = (decide (d ≤ 0) && decide (f = 0) && codeGo xs (xs.drop (k + 1)) (k + 1) d (f + 1)) := by
  have e : delta xs[k] = 0 := by unfold delta; rw [if_neg (by omega), if_neg (by omega)]
  rw [codeGo_step h, ho, e, h11, Int.add_zero, decide_eq_true hd]; simp
theorem go_else {xs : List O4} {k : Nat} (h : k < xs.length) {d : Int} {f : Nat} (ho : okOp xs[k] = true) (hd : 0 ≤ d) (h8 : ¬ xs[k].k = 8) (h9 : ¬ xs[k].k = 9) (h7 : ¬ xs[k].k = 7) (h11 : ¬ xs[k].k = 11) : codeGo xs (xs.drop k) k d f = codeGo xs (xs.drop (k + 1)) (k + 1) d f := by
  have e : delta xs[k] = 0 := by unfold delta; rw [if_neg h8, if_neg h9]
  rw [codeGo_step h, ho, e, Int.add_zero, decide_eq_true hd]; simp [h7, h11]
theorem ok_skip {x : O4} (h : okOp x = true) (h7 : x.k = 7) : 1 ≤ x.b ∧ x.b ≤ 20 := by
  unfold okOp at h
  rw [h7] at h
  have h' : (inn 0 3 x.a && inn 1 20 x.b && inn 0 0 x.c) = true := h
  rw [Bool.and_eq_true, Bool.and_eq_true] at h'
  have := h'.1.2
  unfold inn at this
  simpa using this

set_option maxRecDepth 100000 in
set_option maxHeartbeats 6400000 in
theorem codeSpec (v : Value) (xs : List O4) (B : Nat) (w : World) (hv : Sees4 B w v xs) (hB : B ≤ w.heap.size) (hlen : xs.length ≤ 1048576) :
    Calls Try.prog 50 #[v] w fun e w' => e = .returned (.bool (codeOk xs)) ∧ Below w.heap.size w w' := by
  obtain ⟨a, cap, rfl⟩ := hv.form
  obtain ⟨n, hn⟩ : ∃ n, xs.length = n := ⟨_, rfl⟩
  rw [hn] at hv hlen ⊢
  by_cases h24 : n ≤ 24
  · have HE : Hid (codeOk xs = codeGo xs (xs.drop 0) 0 0 0) := by
      show _ = _
      unfold codeOk
      rw [decide_eq_true (show xs.length ≤ 24 by omega), Bool.true_and]; rfl
    have h24' : ¬ (24 : Int) < n := by omega
    obtain ⟨g, hg⟩ : ∃ g, w.heap.size = g := ⟨_, rfl⟩
    rw [hg] at hB ⊢
    have hb0 : Below g w w := Below.refl _ _
    go_enter Try.func50, Try.ntmps50
    go_wp2
    go_loopw [3, 4, 5] (fun d ff i' wr => ∃ (k f : Nat) (q : Int), k ≤ n ∧ f ≤ k ∧ 0 ≤ q ∧ q ≤ k ∧ i' = .int .i64 k ∧ d = .int .i64 q ∧ ff = .int .i64 f ∧ codeOk xs = codeGo xs (xs.drop k) k q f ∧ Below g w wr) (fun _ _ i' _ => n - (intOf i').toNat)
    case atStart => exact ⟨0, 0, 0, Nat.zero_le _, Nat.le_refl _, by omega, by omega, rfl, rfl, rfl, HE.out, hb0⟩
    case round =>
      obtain ⟨k, f, q, hk, hf, hq1, hq2, rfl, rfl, rfl, he, hb⟩ := hrel
      clear HE hb0
      have hsz : g ≤ wr.heap.size := by have := hb.size; omega
      by_cases hlt : k < n
      · have hvr := hv.on hb hB
        obtain ⟨b, off, rfl, hbB, hc⟩ := hvr.open (by omega)
        obtain ⟨a0, a1, a2, a3⟩ := see4 (B := B) hc k (by omega)
        have HN := (show Hid _ from he)
        have i1 : (k : Int) < n := by omega
        have hkx : k < xs.length := by omega
        have cO := specC xs[k].k xs[k].a xs[k].b xs[k].c wr
        have eV : opV xs[k].k xs[k].a xs[k].b xs[k].c = .agg #[.int .i64 xs[k].k, .int .i64 xs[k].a, .int .i64 xs[k].b, .int .i64 xs[k].c] := rfl
        rw [eV] at cO
        have eO : opOk xs[k].k xs[k].a xs[k].b xs[k].c = okOp xs[k] := rfl
        rw [eO] at cO
        obtain ⟨p, hp⟩ : ∃ p, okOp xs[k] = p := ⟨_, rfl⟩
        have HP : Hid (okOp xs[k] = p) := hp
        rw [hp] at cO
        obtain ⟨x, hx⟩ : ∃ x, xs[k] = x := ⟨_, rfl⟩
        have HX : Hid (xs[k] = x) := hx
        rw [hx] at a0 a1 a2 a3 cO
        clear he hp hx eV eO
        cases p
        · have HF : Hid (false = codeOk xs) := by show _ = _; rw [HN.out, go_bad hkx HP.out]
          clear HN hc
          go_wp2_with fail
          refine cO.mono ?_
          rintro e w2 ⟨rfl, hb2⟩
          clear cO
          go_wp2
          go_ret
          exact ⟨ret_b HF.out, hb.trans (hb2.mono hsz)⟩
        go_wp2_with fail
        refine cO.mono ?_
        rintro e w2 ⟨rfl, hb2⟩
        have hbb := hb.trans (hb2.mono hsz)
        have hv2 := hvr.on hb2 (by omega)
        have a0 := (hb2.cell (p := ⟨b, off + k * 4, none⟩) (by show b < wr.heap.size; omega)).trans a0
        clear cO a1 a2 a3 hc
        have hok := HP.out
        by_cases h8 : x.k = 8
        · have HF : Hid (codeOk xs = codeGo xs (xs.drop (k + 1)) (k + 1) (q + 1) f) := by show _ = _; rw [HN.out, go_begin hkx hok hq1 (by rw [HX.out]; exact h8)]
          rw [h8] at a0
          clear h8 HN hok
          go_wp2
          go_roundw
          case rel => exact ⟨k + 1, f, q + 1, by omega, by omega, by omega, by omega, by go_num, rfl, rfl, HF.out, hbb⟩
          case measure => simp [intOf]; omega
        by_cases h9 : x.k = 9
        · have he := go_end hkx (d := q) (f := f) hok (by rw [HX.out]; exact h9)
          rw [h9] at a0
          clear h8 h9
          by_cases hz : 0 ≤ q - 1
          · have HF : Hid (codeOk xs = codeGo xs (xs.drop (k + 1)) (k + 1) (q - 1) f) := by show _ = _; rw [HN.out, he, decide_eq_true hz, Bool.true_and]
            have hz' : ¬ q - 1 < 0 := by omega
            clear he HN hok hz
            go_wp2
            go_roundw
            case rel => exact ⟨k + 1, f, q - 1, by omega, by omega, by omega, by omega, by go_num, rfl, rfl, HF.out, hbb⟩
            case measure => simp [intOf]; omega
          · have HF : Hid (false = codeOk xs) := by show _ = _; rw [HN.out, he, decide_eq_false hz, Bool.false_and]
            obtain rfl : q = 0 := by omega
            clear he HN hok hz
            go_wp2
            go_ret
            exact ⟨ret_b HF.out, hbb⟩
        have e8 : (x.k == 8) = false := by simp [h8]
        have e9 : (x.k == 9) = false := by simp [h9]
        by_cases h7 : x.k = 7
        · have he := go_skip hkx (d := q) (f := f) hok hq1 (by rw [HX.out]; exact h7)
          obtain ⟨s1, s2⟩ := ok_skip (by rw [← HX.out]; exact hok) h7
          have hgx : xs.getD k z4 = x := by rw [getD_at4 hkx]; exact HX.out
          have cK := skipSpec _ xs k B w2 hv2 (by omega) hkx (by rw [hgx]; omega) (by rw [hgx]; omega)
          rw [h7] at a0
          obtain ⟨p, hp⟩ : ∃ p, skipOk xs k = p := ⟨_, rfl⟩
          rw [hp] at cK he
          clear h8 h9 h7 e8 e9 hgx hp
          cases p
          · have HF : Hid (false = codeOk xs) := by show _ = _; rw [HN.out, he, Bool.false_and]
            clear he HN hok
            go_wp2_with fail
            refine cK.mono ?_
            rintro e w3 ⟨rfl, rfl⟩
            clear cK
            go_wp2
            go_ret
            exact ⟨ret_b HF.out, hbb⟩
          · have HF : Hid (codeOk xs = codeGo xs (xs.drop (k + 1)) (k + 1) q f) := by show _ = _; rw [HN.out, he, Bool.true_and]
            have hq' : ¬ q < 0 := by omega
            clear he HN hok
            go_wp2_with fail
            refine cK.mono ?_
            rintro e w3 ⟨rfl, rfl⟩
            clear cK
            go_wp2
            go_roundw
            case rel => exact ⟨k + 1, f, q, by omega, by omega, by omega, by omega, by go_num, rfl, rfl, HF.out, hbb⟩
            case measure => simp [intOf]; omega
        have e7 : (x.k == 7) = false := by simp [h7]
        by_cases h11 : x.k = 11
        · have he := go_fork hkx (d := q) (f := f) hok hq1 (by rw [HX.out]; exact h11)
          rw [h11] at a0
          clear h8 h9 h7 e8 e9 e7 h11
          by_cases hq0 : q ≤ 0
          · obtain rfl : q = 0 := by omega
            by_cases hf0 : f = 0
            · subst hf0
              have HF : Hid (codeOk xs = codeGo xs (xs.drop (k + 1)) (k + 1) 0 1) := by show _ = _; rw [HN.out, he]; simp
              clear he HN hok hq0
              go_wp2
              go_roundw
              case rel => exact ⟨k + 1, 1, 0, by omega, by omega, by omega, by omega, by go_num, rfl, rfl, HF.out, hbb⟩
              case measure => simp [intOf]; omega
            · have HF : Hid (false = codeOk xs) := by show _ = _; rw [HN.out, he, decide_eq_false hf0]; simp
              have hf1 : (1 : Int) < (f : Int) + 1 := by omega
              clear he HN hok hq0
              go_wp2
              go_ret
              exact ⟨ret_b HF.out, hbb⟩
          · have HF : Hid (false = codeOk xs) := by show _ = _; rw [HN.out, he, decide_eq_false hq0]; simp
            have hq' : 0 < q := by omega
            clear he HN hok hq0
            go_wp2
            go_ret
            exact ⟨ret_b HF.out, hbb⟩
        have e11 : (x.k == 11) = false := by simp [h11]
        have HF : Hid (codeOk xs = codeGo xs (xs.drop (k + 1)) (k + 1) q f) := by show _ = _; rw [HN.out, go_else hkx hok hq1 (by rw [HX.out]; exact h8) (by rw [HX.out]; exact h9) (by rw [HX.out]; exact h7) (by rw [HX.out]; exact h11)]
        have hq' : ¬ q < 0 := by omega
        clear HN hok h8 h9 h7 h11
        go_wp2
        go_roundw
        case rel => exact ⟨k + 1, f, q, by omega, by omega, by omega, by omega, by go_num, rfl, rfl, HF.out, hbb⟩
        case measure => simp [intOf]; omega
      · obtain rfl : k = n := by omega
        have HF : Hid ((q == 0) = codeOk xs) := by
          show _ = _
          rw [he, List.drop_of_length_le (by omega)]; rfl
        clear he
        go_wp2
        go_ret
        exact ⟨ret_b HF.out, hb⟩
  · have HF : Hid (false = codeOk xs) := by
      show _ = _
      unfold codeOk
      rw [decide_eq_false (show ¬ xs.length ≤ 24 by omega), Bool.false_and]
    have h24' : (24 : Int) < n := by omega
    go_enter Try.func50, Try.ntmps50
    go_wp2
    go_ret
    exact ⟨ret_b HF.out, Below.refl _ _⟩
end Ops
end Go.Proofs.Ytppkohkcffnghaa
/- What the specification's KidOk, ProgOk and SameProg answer. -/
set_option linter.unusedVariables false
set_option linter.unusedSimpArgs false
namespace Go.Proofs.Ytppkohkcffnghaa
open Go.RowKit
namespace Ops
open Bas Flat

theorem kid_no1 {xs : List O4} (h : codeOk xs = false) : kidOk xs = false := by unfold kidOk; rw [h]; rfl
theorem kid_no2 {xs : List O4} (h : hasFork xs = true) : kidOk xs = false := by unfold kidOk; rw [h]; simp
theorem kid_all {xs : List O4} (h1 : codeOk xs = true) (h2 : hasFork xs = false) : kidOk xs = xs.all fun o => !(touch o == 2) := by unfold kidOk; rw [h1, h2]; simp

set_option maxRecDepth 100000 in
set_option maxHeartbeats 1600000 in
theorem kidSpec (v : Value) (xs : List O4) (B : Nat) (w : World) (hv : Sees4 B w v xs) (hB : B ≤ w.heap.size) (hlen : xs.length ≤ 1048576) :
    Calls Try.prog 11 #[v] w fun e w' => e = .returned (.bool (kidOk xs)) ∧ Below w.heap.size w w' := by
  have c0 := codeSpec v xs B w hv hB hlen
  obtain ⟨a, cap, rfl⟩ := hv.form
  obtain ⟨n, hn⟩ : ∃ n, xs.length = n := ⟨_, rfl⟩
  rw [hn] at hv hlen c0 ⊢
  obtain ⟨p, hp⟩ : ∃ p, codeOk xs = p := ⟨_, rfl⟩
  rw [hp] at c0
  cases p
  · have HF : Hid (false = kidOk xs) := (kid_no1 hp).symm
    clear hp
    go_enter Try.func11, Try.ntmps11
    go_wp2_with fail
    refine c0.mono ?_
    rintro e w1 ⟨rfl, b1⟩
    go_wp2
    go_ret
    exact ⟨ret_b HF.out, b1⟩
  obtain ⟨q, hq⟩ : ∃ q, hasFork xs = q := ⟨_, rfl⟩
  have HP : Hid (codeOk xs = true) := hp
  clear hp
  cases q
  · have HE : Hid (kidOk xs = xs.all fun o => !(touch o == 2)) := kid_all HP.out hq
    have HQ : Hid (hasFork xs = false) := hq
    clear hq
    obtain ⟨g, hg⟩ : ∃ g, w.heap.size = g := ⟨_, rfl⟩
    rw [hg] at hB c0 ⊢
    go_enter Try.func11, Try.ntmps11
    go_wp2_with fail
    refine c0.mono ?_
    rintro e w1 ⟨rfl, b1⟩
    clear c0
    go_wp2_with fail
    refine (forkSpec _ xs B w1 (hv.on b1 hB) (by omega)).mono ?_
    rw [HQ.out]
    rintro e w2 ⟨rfl, rfl⟩
    go_wp2
    go_loopw [3] (fun i' wr => ∃ k : Nat, k ≤ n ∧ i' = .int .i64 k ∧ (∀ j (h : j < xs.length), j < k → (!(touch xs[j] == 2)) = true) ∧ Below g w wr) (fun i' _ => n - (intOf i').toNat)
    case atStart => exact ⟨0, Nat.zero_le _, rfl, fun j _ h => by omega, b1⟩
    case round =>
      obtain ⟨k, hk, rfl, hall, hb⟩ := hrel
      clear b1
      have hsz : g ≤ wr.heap.size := by have := hb.size; omega
      by_cases hlt : k < n
      · have hvr := hv.on hb hB
        obtain ⟨b, off, rfl, hbB, hc⟩ := hvr.open (by omega)
        obtain ⟨a0, a1, a2, a3⟩ := see4 (B := B) hc k (by omega)
        have cT := touchSpec xs[k].k xs[k].a xs[k].b xs[k].c wr
        have eV : opV xs[k].k xs[k].a xs[k].b xs[k].c = .agg #[.int .i64 xs[k].k, .int .i64 xs[k].a, .int .i64 xs[k].b, .int .i64 xs[k].c] := rfl
        have eT : touches xs[k].k xs[k].a xs[k].b xs[k].c = touch xs[k] := rfl
        rw [eV, eT] at cT
        have HA := (show Hid _ from hall)
        by_cases h2 : touch xs[k] = 2
        · have HF : Hid (false = kidOk xs) := by
            show _ = _
            rw [HE.out]
            exact (all_no (k := k) (by omega) (by simp [h2])).symm
          rw [h2] at cT
          clear hall h2 hc eV eT
          go_wp2_with fail
          refine cT.mono ?_
          rintro e w2 ⟨rfl, hb2⟩
          clear cT
          go_wp2
          go_ret
          exact ⟨ret_b HF.out, hb.trans (hb2.mono hsz)⟩
        · have HF : Hid (∀ j (h : j < xs.length), j < k + 1 → (!(touch xs[j] == 2)) = true) := fun j hj hjk => by
            rcases Nat.lt_succ_iff_lt_or_eq.1 hjk with h | h
            · exact HA.out j hj h
            · subst h; simp [h2]
          obtain ⟨t, ht⟩ : ∃ t, touch xs[k] = t := ⟨_, rfl⟩
          rw [ht] at cT h2
          have e2 : (t == 2) = false := by simp [h2]
          clear hall h2 hc eV eT ht HA
          go_wp2_with fail
          refine cT.mono ?_
          rintro e w2 ⟨rfl, hb2⟩
          clear cT
          go_wp2
          go_roundw
          case rel => exact ⟨k + 1, by omega, by go_num, HF.out, hb.trans (hb2.mono hsz)⟩
          case measure => simp [intOf]; omega
      · have HF : Hid (true = kidOk xs) := by
          show _ = _
          rw [HE.out]
          exact (all_yes fun j hj => hall j hj (by omega)).symm
        clear hall
        go_wp2
        go_ret
        exact ⟨ret_b HF.out, hb⟩
  · have HF : Hid (false = kidOk xs) := (kid_no2 hq).symm
    have HQ : Hid (hasFork xs = true) := hq
    clear hq
    go_enter Try.func11, Try.ntmps11
    go_wp2_with fail
    refine c0.mono ?_
    rintro e w1 ⟨rfl, b1⟩
    clear c0
    go_wp2_with fail
    refine (forkSpec _ xs B w1 (hv.on b1 hB) (by omega)).mono ?_
    rw [HQ.out]
    rintro e w2 ⟨rfl, rfl⟩
    go_wp2
    go_ret
    exact ⟨ret_b HF.out, b1⟩

theorem prog_no1 {xs : List O4} {kss : List (List O4)} (h : codeOk xs = false) : progOk xs kss = false := by unfold progOk; rw [h]; rfl
theorem prog_no2 {xs : List O4} {kss : List (List O4)} (h : ¬ kss.length ≤ 3) : progOk xs kss = false := by unfold progOk; rw [decide_eq_false h]; simp
theorem prog_no3 {xs : List O4} {kss : List (List O4)} (h : ¬ hasFork xs = decide (0 < kss.length)) : progOk xs kss = false := by unfold progOk; rw [beq_eq_false_iff_ne.2 h]; simp
theorem prog_all {xs : List O4} {kss : List (List O4)} (h1 : codeOk xs = true) (h2 : kss.length ≤ 3) (h3 : hasFork xs = decide (0 < kss.length)) : progOk xs kss = kss.all kidOk := by unfold progOk; rw [h1, decide_eq_true h2, h3]; simp

set_option maxRecDepth 100000 in
set_option maxHeartbeats 3200000 in
theorem progSpec (vc vk : Value) (xs : List O4) (kss : List (List O4)) (B : Nat) (w : World) (hv : SeesP B w vc vk xs kss) (hB : B ≤ w.heap.size) (hf : Fits xs kss) :
    Calls Try.prog 76 #[.agg #[vc, vk]] w fun e w' => e = .returned (.bool (progOk xs kss)) ∧ Below w.heap.size w w' := by
  obtain ⟨a, cap, rfl⟩ := hv.c.form
  obtain ⟨ak, capk, rfl⟩ := hv.k.form
  obtain ⟨n, hn⟩ : ∃ n, xs.length = n := ⟨_, rfl⟩
  obtain ⟨m, hm⟩ : ∃ m, kss.length = m := ⟨_, rfl⟩
  obtain ⟨hf1, hf2, hf3⟩ := hf
  rw [hn, hm] at hv ⊢
  rw [hm] at hf2
  have HA3 := (show Hid _ from hf3)
  clear hf3
  have b0 := alloc_below w (.cells #[.slice a n cap, .slice ak m capk] 49)
  have X0 := Blk.new w #[.slice a n cap, .slice ak m capk] 49
  obtain ⟨W0, hW0⟩ : ∃ W0, w.alloc (.cells #[.slice a n cap, .slice ak m capk] 49) = W0 := ⟨_, rfl⟩
  rw [hW0] at b0 X0
  have hs := X0.lt
  have hv0 := hv.on b0 hB
  have c0 := codeSpec _ xs B W0.drew hv0.c.drew (by show B ≤ W0.heap.size; omega) hf1
  obtain ⟨p, hp⟩ : ∃ p, codeOk xs = p := ⟨_, rfl⟩
  rw [hp] at c0
  have HP : Hid (codeOk xs = p) := hp
  clear hp
  have x0 := X0.cell 0; have x1 := X0.cell 1
  have f1 : (0 : Int) ≤ m := by omega
  cases p
  · have HF : Hid (false = progOk xs kss) := (prog_no1 HP.out).symm
    go_enter Try.func76, Try.ntmps76
    go_wp2_with fail
    clear hW0
    refine wp_region_held_drew (S := fun W => W.cell? ⟨w.heap.size, 0, none⟩ = some (.slice a n cap) ∧ W.cell? ⟨w.heap.size, 1, none⟩ = some (.slice ak m capk)) (by kernel_rfl) ⟨x0, x1⟩ (fun hHeld => ?_)
    refine takeH (i := 0) (some 4) (.pointer (some ⟨w.heap.size, 0, none⟩)) rfl rfl (by kernel_rfl) (by kernel_rfl) (by kernel_rfl) (fun _ _ _ h => h) (Or.inl ⟨by rfl, fun w hSw => by (try dsimp only at hSw); go_simp⟩) (by assumption) ?_
    simp only [Act.put, List.setIfInBounds_toArray, List.set_cons_zero, List.set_cons_succ]
    refine takeH (i := 1) (some 5) (.slice a n cap) rfl rfl (by kernel_rfl) (by kernel_rfl) (by kernel_rfl) (fun _ _ _ h => h) (Or.inl ⟨by rfl, fun w hSw => by (try dsimp only at hSw); go_simp⟩) (by assumption) ?_
    simp only [Act.put, List.setIfInBounds_toArray, List.set_cons_zero, List.set_cons_succ]
    refine wpAnyH_ready (rs := [2]) (by kernel_rfl) (by simp) ?_
    refine AllReadyH.cons rfl (fun K hK => ?_) AllReadyH.nil
    go_simp
    refine c0.mono ?_
    rintro e w1 ⟨rfl, b1⟩
    have b1 := undrewB b1
    have X1 := X0.on b1 hs
    have bb1 := b0.trans (b1.mono b0.size)
    go_simp
    refine hK.out _ _ ⟨X1.cell 0, X1.cell 1⟩ (fun hHeld1 => ?_)
    clear hK K c0 hHeld x0 x1
    refine takeH (i := 3) (some 7) (.bool true) rfl rfl (by kernel_rfl) (by kernel_rfl) (by kernel_rfl) (fun _ _ _ h => h) (Or.inl ⟨by rfl, fun w hSw => by (try dsimp only at hSw); go_simp⟩) (by assumption) ?_
    simp only [Act.put, List.setIfInBounds_toArray, List.set_cons_zero, List.set_cons_succ]
    refine takeH (i := 4) (some 8) (.bool true) rfl rfl (by kernel_rfl) (by kernel_rfl) (by kernel_rfl) (fun _ _ _ h => h) (Or.inl ⟨by rfl, fun w hSw => by (try dsimp only at hSw); go_simp⟩) (by assumption) ?_
    simp only [Act.put, List.setIfInBounds_toArray, List.set_cons_zero, List.set_cons_succ]
    refine takeH (i := 5) (some 9) undef rfl rfl (by kernel_rfl) (by kernel_rfl) (by kernel_rfl) (fun _ _ _ h => h) (Or.inr ⟨by rfl, rfl⟩) (by assumption) ?_
    simp only [Act.put, List.setIfInBounds_toArray, List.set_cons_zero, List.set_cons_succ]
    refine takeH (i := 6) (some 10) undef rfl rfl (by kernel_rfl) (by kernel_rfl) (by kernel_rfl) (fun _ _ _ h => h) (Or.inr ⟨by rfl, rfl⟩) (by assumption) ?_
    simp only [Act.put, List.setIfInBounds_toArray, List.set_cons_zero, List.set_cons_succ]
    refine takeH (i := 7) (some 11) undef rfl rfl (by kernel_rfl) (by kernel_rfl) (by kernel_rfl) (fun _ _ _ h => h) (Or.inr ⟨by rfl, rfl⟩) (by assumption) ?_
    simp only [Act.put, List.setIfInBounds_toArray, List.set_cons_zero, List.set_cons_succ]
    refine takeH (i := 8) (some 12) undef rfl rfl (by kernel_rfl) (by kernel_rfl) (by kernel_rfl) (fun _ _ _ h => h) (Or.inr ⟨by rfl, rfl⟩) (by assumption) ?_
    simp only [Act.put, List.setIfInBounds_toArray, List.set_cons_zero, List.set_cons_succ]
    refine takeH (i := 9) (some 13) (.bool true) rfl rfl (by kernel_rfl) (by kernel_rfl) (by kernel_rfl) (fun _ _ _ h => h) (Or.inl ⟨by rfl, fun w hSw => by (try dsimp only at hSw); go_simp⟩) (by assumption) ?_
    simp only [Act.put, List.setIfInBounds_toArray, List.set_cons_zero, List.set_cons_succ]
    refine takeH (i := 10) (some 14) (.bool true) rfl rfl (by kernel_rfl) (by kernel_rfl) (by kernel_rfl) (fun _ _ _ h => h) (Or.inl ⟨by rfl, fun w hSw => by (try dsimp only at hSw); go_simp⟩) (by assumption) ?_
    simp only [Act.put, List.setIfInBounds_toArray, List.set_cons_zero, List.set_cons_succ]
    refine takeH (i := 11) (some 15) undef rfl rfl (by kernel_rfl) (by kernel_rfl) (by kernel_rfl) (fun _ _ _ h => h) (Or.inr ⟨by rfl, rfl⟩) (by assumption) ?_
    simp only [Act.put, List.setIfInBounds_toArray, List.set_cons_zero, List.set_cons_succ]
    refine takeH (i := 12) (some 16) undef rfl rfl (by kernel_rfl) (by kernel_rfl) (by kernel_rfl) (fun _ _ _ h => h) (Or.inr ⟨by rfl, rfl⟩) (by assumption) ?_
    simp only [Act.put, List.setIfInBounds_toArray, List.set_cons_zero, List.set_cons_succ]
    refine takeH (i := 13) (some 17) undef rfl rfl (by kernel_rfl) (by kernel_rfl) (by kernel_rfl) (fun _ _ _ h => h) (Or.inr ⟨by rfl, rfl⟩) (by assumption) ?_
    simp only [Act.put, List.setIfInBounds_toArray, List.set_cons_zero, List.set_cons_succ]
    refine takeH (i := 14) (some 18) undef rfl rfl (by kernel_rfl) (by kernel_rfl) (by kernel_rfl) (fun _ _ _ h => h) (Or.inr ⟨by rfl, rfl⟩) (by assumption) ?_
    simp only [Act.put, List.setIfInBounds_toArray, List.set_cons_zero, List.set_cons_succ]
    refine takeH (i := 15) (some 19) undef rfl rfl (by kernel_rfl) (by kernel_rfl) (by kernel_rfl) (fun _ _ _ h => h) (Or.inr ⟨by rfl, rfl⟩) (by assumption) ?_
    simp only [Act.put, List.setIfInBounds_toArray, List.set_cons_zero, List.set_cons_succ]
    refine takeH (i := 16) (some 20) undef rfl rfl (by kernel_rfl) (by kernel_rfl) (by kernel_rfl) (fun _ _ _ h => h) (Or.inr ⟨by rfl, rfl⟩) (by assumption) ?_
    simp only [Act.put, List.setIfInBounds_toArray, List.set_cons_zero, List.set_cons_succ]
    refine takeH (i := 17) (some 21) undef rfl rfl (by kernel_rfl) (by kernel_rfl) (by kernel_rfl) (fun _ _ _ h => h) (Or.inr ⟨by rfl, rfl⟩) (by assumption) ?_
    simp only [Act.put, List.setIfInBounds_toArray, List.set_cons_zero, List.set_cons_succ]
    refine takeH (i := 18) (some 22) undef rfl rfl (by kernel_rfl) (by kernel_rfl) (by kernel_rfl) (fun _ _ _ h => h) (Or.inr ⟨by rfl, rfl⟩) (by assumption) ?_
    simp only [Act.put, List.setIfInBounds_toArray, List.set_cons_zero, List.set_cons_succ]
    refine takeH (i := 19) (some 23) (.bool true) rfl rfl (by kernel_rfl) (by kernel_rfl) (by kernel_rfl) (fun _ _ _ h => h) (Or.inl ⟨by rfl, fun w hSw => by (try dsimp only at hSw); go_simp⟩) (by assumption) ?_
    simp only [Act.put, List.setIfInBounds_toArray, List.set_cons_zero, List.set_cons_succ]
    refine wpAnyH_done (by kernel_rfl) ?_ _
    go_wp2
    go_ret
    exact ⟨ret_b HF.out, bb1⟩
  · by_cases h3 : 3 < m
    · have HF : Hid (false = progOk xs kss) := (prog_no2 (by omega)).symm
      have d3 : decide ((3 : Int) < m) = true := decide_eq_true (by omega)
      go_enter Try.func76, Try.ntmps76
      go_wp2_with fail
      clear hW0
      refine wp_region_held_drew (S := fun W => W.cell? ⟨w.heap.size, 0, none⟩ = some (.slice a n cap) ∧ W.cell? ⟨w.heap.size, 1, none⟩ = some (.slice ak m capk)) (by kernel_rfl) ⟨x0, x1⟩ (fun hHeld => ?_)
      refine takeH (i := 0) (some 4) (.pointer (some ⟨w.heap.size, 0, none⟩)) rfl rfl (by kernel_rfl) (by kernel_rfl) (by kernel_rfl) (fun _ _ _ h => h) (Or.inl ⟨by rfl, fun w hSw => by (try dsimp only at hSw); go_simp⟩) (by assumption) ?_
      simp only [Act.put, List.setIfInBounds_toArray, List.set_cons_zero, List.set_cons_succ]
      refine takeH (i := 1) (some 5) (.slice a n cap) rfl rfl (by kernel_rfl) (by kernel_rfl) (by kernel_rfl) (fun _ _ _ h => h) (Or.inl ⟨by rfl, fun w hSw => by (try dsimp only at hSw); go_simp⟩) (by assumption) ?_
      simp only [Act.put, List.setIfInBounds_toArray, List.set_cons_zero, List.set_cons_succ]
      refine wpAnyH_ready (rs := [2]) (by kernel_rfl) (by simp) ?_
      refine AllReadyH.cons rfl (fun K hK => ?_) AllReadyH.nil
      go_simp
      refine c0.mono ?_
      rintro e w1 ⟨rfl, b1⟩
      have b1 := undrewB b1
      have X1 := X0.on b1 hs
      have bb1 := b0.trans (b1.mono b0.size)
      go_simp
      refine hK.out _ _ ⟨X1.cell 0, X1.cell 1⟩ (fun hHeld1 => ?_)
      clear hK K c0 hHeld x0 x1
      refine takeH (i := 3) (some 7) (.bool false) rfl rfl (by kernel_rfl) (by kernel_rfl) (by kernel_rfl) (fun _ _ _ h => h) (Or.inl ⟨by rfl, fun w hSw => by (try dsimp only at hSw); go_simp⟩) (by assumption) ?_
      simp only [Act.put, List.setIfInBounds_toArray, List.set_cons_zero, List.set_cons_succ]
      refine takeH (i := 4) (some 8) (.bool false) rfl rfl (by kernel_rfl) (by kernel_rfl) (by kernel_rfl) (fun _ _ _ h => h) (Or.inl ⟨by rfl, fun w hSw => by (try dsimp only at hSw); go_simp⟩) (by assumption) ?_
      simp only [Act.put, List.setIfInBounds_toArray, List.set_cons_zero, List.set_cons_succ]
      refine takeH (i := 5) (some 9) (.pointer (some ⟨w.heap.size, 1, none⟩)) rfl rfl (by kernel_rfl) (by kernel_rfl) (by kernel_rfl) (fun _ _ _ h => h) (Or.inl ⟨by rfl, fun w hSw => by (try dsimp only at hSw); go_simp⟩) (by assumption) ?_
      simp only [Act.put, List.setIfInBounds_toArray, List.set_cons_zero, List.set_cons_succ]
      refine takeH (i := 6) (some 10) (.slice ak m capk) rfl rfl (by kernel_rfl) (by kernel_rfl) (by kernel_rfl) (fun _ _ _ h => h) (Or.inl ⟨by rfl, fun w hSw => by (try dsimp only at hSw); go_simp⟩) (by assumption) ?_
      simp only [Act.put, List.setIfInBounds_toArray, List.set_cons_zero, List.set_cons_succ]
      refine takeH (i := 7) (some 11) (.int .i64 m) rfl rfl (by kernel_rfl) (by kernel_rfl) (by kernel_rfl) (fun _ _ _ h => h) (Or.inl ⟨by rfl, fun w hSw => by (try dsimp only at hSw); go_simp⟩) (by assumption) ?_
      simp only [Act.put, List.setIfInBounds_toArray, List.set_cons_zero, List.set_cons_succ]
      refine takeH (i := 8) (some 12) (.bool true) rfl rfl (by kernel_rfl) (by kernel_rfl) (by kernel_rfl) (fun _ _ _ h => h) (Or.inl ⟨by rfl, fun w hSw => by (try dsimp only at hSw); go_simp⟩) (by assumption) ?_
      simp only [Act.put, List.setIfInBounds_toArray, List.set_cons_zero, List.set_cons_succ]
      refine takeH (i := 9) (some 13) (.bool true) rfl rfl (by kernel_rfl) (by kernel_rfl) (by kernel_rfl) (fun _ _ _ h => h) (Or.inl ⟨by rfl, fun w hSw => by (try dsimp only at hSw); go_simp⟩) (by assumption) ?_
      simp only [Act.put, List.setIfInBounds_toArray, List.set_cons_zero, List.set_cons_succ]
      refine takeH (i := 10) (some 14) (.bool true) rfl rfl (by kernel_rfl) (by kernel_rfl) (by kernel_rfl) (fun _ _ _ h => h) (Or.inl ⟨by rfl, fun w hSw => by (try dsimp only at hSw); go_simp⟩) (by assumption) ?_
      simp only [Act.put, List.setIfInBounds_toArray, List.set_cons_zero, List.set_cons_succ]
      refine takeH (i := 11) (some 15) undef rfl rfl (by kernel_rfl) (by kernel_rfl) (by kernel_rfl) (fun _ _ _ h => h) (Or.inr ⟨by rfl, rfl⟩) (by assumption) ?_
      simp only [Act.put, List.setIfInBounds_toArray, List.set_cons_zero, List.set_cons_succ]
      refine takeH (i := 12) (some 16) undef rfl rfl (by kernel_rfl) (by kernel_rfl) (by kernel_rfl) (fun _ _ _ h => h) (Or.inr ⟨by rfl, rfl⟩) (by assumption) ?_
      simp only [Act.put, List.setIfInBounds_toArray, List.set_cons_zero, List.set_cons_succ]
      refine takeH (i := 13) (some 17) undef rfl rfl (by kernel_rfl) (by kernel_rfl) (by kernel_rfl) (fun _ _ _ h => h) (Or.inr ⟨by rfl, rfl⟩) (by assumption) ?_
      simp only [Act.put, List.setIfInBounds_toArray, List.set_cons_zero, List.set_cons_succ]
      refine takeH (i := 14) (some 18) undef rfl rfl (by kernel_rfl) (by kernel_rfl) (by kernel_rfl) (fun _ _ _ h => h) (Or.inr ⟨by rfl, rfl⟩) (by assumption) ?_
      simp only [Act.put, List.setIfInBounds_toArray, List.set_cons_zero, List.set_cons_succ]
      refine takeH (i := 15) (some 19) undef rfl rfl (by kernel_rfl) (by kernel_rfl) (by kernel_rfl) (fun _ _ _ h => h) (Or.inr ⟨by rfl, rfl⟩) (by assumption) ?_
      simp only [Act.put, List.setIfInBounds_toArray, List.set_cons_zero, List.set_cons_succ]
      refine takeH (i := 16) (some 20) undef rfl rfl (by kernel_rfl) (by kernel_rfl) (by kernel_rfl) (fun _ _ _ h => h) (Or.inr ⟨by rfl, rfl⟩) (by assumption) ?_
      simp only [Act.put, List.setIfInBounds_toArray, List.set_cons_zero, List.set_cons_succ]
      refine takeH (i := 17) (some 21) undef rfl rfl (by kernel_rfl) (by kernel_rfl) (by kernel_rfl) (fun _ _ _ h => h) (Or.inr ⟨by rfl, rfl⟩) (by assumption) ?_
      simp only [Act.put, List.setIfInBounds_toArray, List.set_cons_zero, List.set_cons_succ]
      refine takeH (i := 18) (some 22) undef rfl rfl (by kernel_rfl) (by kernel_rfl) (by kernel_rfl) (fun _ _ _ h => h) (Or.inr ⟨by rfl, rfl⟩) (by assumption) ?_
      simp only [Act.put, List.setIfInBounds_toArray, List.set_cons_zero, List.set_cons_succ]
      refine takeH (i := 19) (some 23) (.bool true) rfl rfl (by kernel_rfl) (by kernel_rfl) (by kernel_rfl) (fun _ _ _ h => h) (Or.inl ⟨by rfl, fun w hSw => by (try dsimp only at hSw); go_simp⟩) (by assumption) ?_
      simp only [Act.put, List.setIfInBounds_toArray, List.set_cons_zero, List.set_cons_succ]
      refine wpAnyH_done (by kernel_rfl) ?_ _
      go_wp2
      go_ret
      exact ⟨ret_b HF.out, bb1⟩
    · have d3 : decide ((3 : Int) < m) = false := decide_eq_false (by omega)
      obtain ⟨t, ht'⟩ : ∃ t, decide (0 < m) = t := ⟨_, rfl⟩
      have ht : decide ((0 : Int) < m) = t := by rw [← ht']; simp
      go_enter Try.func76, Try.ntmps76
      go_wp2_with fail
      clear hW0
      refine wp_region_held_drew (S := fun W => W.cell? ⟨w.heap.size, 0, none⟩ = some (.slice a n cap) ∧ W.cell? ⟨w.heap.size, 1, none⟩ = some (.slice ak m capk)) (by kernel_rfl) ⟨x0, x1⟩ (fun hHeld => ?_)
      refine takeH (i := 0) (some 4) (.pointer (some ⟨w.heap.size, 0, none⟩)) rfl rfl (by kernel_rfl) (by kernel_rfl) (by kernel_rfl) (fun _ _ _ h => h) (Or.inl ⟨by rfl, fun w hSw => by (try dsimp only at hSw); go_simp⟩) (by assumption) ?_
      simp only [Act.put, List.setIfInBounds_toArray, List.set_cons_zero, List.set_cons_succ]
      refine takeH (i := 1) (some 5) (.slice a n cap) rfl rfl (by kernel_rfl) (by kernel_rfl) (by kernel_rfl) (fun _ _ _ h => h) (Or.inl ⟨by rfl, fun w hSw => by (try dsimp only at hSw); go_simp⟩) (by assumption) ?_
      simp only [Act.put, List.setIfInBounds_toArray, List.set_cons_zero, List.set_cons_succ]
      refine wpAnyH_ready (rs := [2]) (by kernel_rfl) (by simp) ?_
      refine AllReadyH.cons rfl (fun K hK => ?_) AllReadyH.nil
      go_simp
      refine c0.mono ?_
      rintro e w1 ⟨rfl, b1⟩
      have b1 := undrewB b1
      have X1 := X0.on b1 hs
      have bb1 := b0.trans (b1.mono b0.size)
      go_simp
      refine hK.out _ _ ⟨X1.cell 0, X1.cell 1⟩ (fun hHeld1 => ?_)
      clear hK K c0 hHeld x0 x1
      refine takeH (i := 3) (some 7) (.bool false) rfl rfl (by kernel_rfl) (by kernel_rfl) (by kernel_rfl) (fun _ _ _ h => h) (Or.inl ⟨by rfl, fun w hSw => by (try dsimp only at hSw); go_simp⟩) (by assumption) ?_
      simp only [Act.put, List.setIfInBounds_toArray, List.set_cons_zero, List.set_cons_succ]
      refine takeH (i := 4) (some 8) (.bool false) rfl rfl (by kernel_rfl) (by kernel_rfl) (by kernel_rfl) (fun _ _ _ h => h) (Or.inl ⟨by rfl, fun w hSw => by (try dsimp only at hSw); go_simp⟩) (by assumption) ?_
      simp only [Act.put, List.setIfInBounds_toArray, List.set_cons_zero, List.set_cons_succ]
      refine takeH (i := 5) (some 9) (.pointer (some ⟨w.heap.size, 1, none⟩)) rfl rfl (by kernel_rfl) (by kernel_rfl) (by kernel_rfl) (fun _ _ _ h => h) (Or.inl ⟨by rfl, fun w hSw => by (try dsimp only at hSw); go_simp⟩) (by assumption) ?_
      simp only [Act.put, List.setIfInBounds_toArray, List.set_cons_zero, List.set_cons_succ]
      refine takeH (i := 6) (some 10) (.slice ak m capk) rfl rfl (by kernel_rfl) (by kernel_rfl) (by kernel_rfl) (fun _ _ _ h => h) (Or.inl ⟨by rfl, fun w hSw => by (try dsimp only at hSw); go_simp⟩) (by assumption) ?_
      simp only [Act.put, List.setIfInBounds_toArray, List.set_cons_zero, List.set_cons_succ]
      refine takeH (i := 7) (some 11) (.int .i64 m) rfl rfl (by kernel_rfl) (by kernel_rfl) (by kernel_rfl) (fun _ _ _ h => h) (Or.inl ⟨by rfl, fun w hSw => by (try dsimp only at hSw); go_simp⟩) (by assumption) ?_
      simp only [Act.put, List.setIfInBounds_toArray, List.set_cons_zero, List.set_cons_succ]
      refine takeH (i := 8) (some 12) (.bool false) rfl rfl (by kernel_rfl) (by kernel_rfl) (by kernel_rfl) (fun _ _ _ h => h) (Or.inl ⟨by rfl, fun w hSw => by (try dsimp only at hSw); go_simp⟩) (by assumption) ?_
      simp only [Act.put, List.setIfInBounds_toArray, List.set_cons_zero, List.set_cons_succ]
      refine takeH (i := 9) (some 13) (.bool false) rfl rfl (by kernel_rfl) (by kernel_rfl) (by kernel_rfl) (fun _ _ _ h => h) (Or.inl ⟨by rfl, fun w hSw => by (try dsimp only at hSw); go_simp⟩) (by assumption) ?_
      simp only [Act.put, List.setIfInBounds_toArray, List.set_cons_zero, List.set_cons_succ]
      refine takeH (i := 10) (some 14) (.bool false) rfl rfl (by kernel_rfl) (by kernel_rfl) (by kernel_rfl) (fun _ _ _ h => h) (Or.inl ⟨by rfl, fun w hSw => by (try dsimp only at hSw); go_simp⟩) (by assumption) ?_
      simp only [Act.put, List.setIfInBounds_toArray, List.set_cons_zero, List.set_cons_succ]
      refine takeH (i := 11) (some 15) (.pointer (some ⟨w.heap.size, 0, none⟩)) rfl rfl (by kernel_rfl) (by kernel_rfl) (by kernel_rfl) (fun _ _ _ h => h) (Or.inl ⟨by rfl, fun w hSw => by (try dsimp only at hSw); go_simp⟩) (by assumption) ?_
      simp only [Act.put, List.setIfInBounds_toArray, List.set_cons_zero, List.set_cons_succ]
      refine takeH (i := 12) (some 16) (.slice a n cap) rfl rfl (by kernel_rfl) (by kernel_rfl) (by kernel_rfl) (fun _ _ _ h => h) (Or.inl ⟨by rfl, fun w hSw => by (try dsimp only at hSw); go_simp⟩) (by assumption) ?_
      simp only [Act.put, List.setIfInBounds_toArray, List.set_cons_zero, List.set_cons_succ]
      refine takeH (i := 14) (some 18) (.pointer (some ⟨w.heap.size, 1, none⟩)) rfl rfl (by kernel_rfl) (by kernel_rfl) (by kernel_rfl) (fun _ _ _ h => h) (Or.inl ⟨by rfl, fun w hSw => by (try dsimp only at hSw); go_simp⟩) (by assumption) ?_
      simp only [Act.put, List.setIfInBounds_toArray, List.set_cons_zero, List.set_cons_succ]
      refine takeH (i := 15) (some 19) (.slice ak m capk) rfl rfl (by kernel_rfl) (by kernel_rfl) (by kernel_rfl) (fun _ _ _ h => h) (Or.inl ⟨by rfl, fun w hSw => by (try dsimp only at hSw); go_simp⟩) (by assumption) ?_
      simp only [Act.put, List.setIfInBounds_toArray, List.set_cons_zero, List.set_cons_succ]
      refine takeH (i := 16) (some 20) (.int .i64 m) rfl rfl (by kernel_rfl) (by kernel_rfl) (by kernel_rfl) (fun _ _ _ h => h) (Or.inl ⟨by rfl, fun w hSw => by (try dsimp only at hSw); go_simp⟩) (by assumption) ?_
      simp only [Act.put, List.setIfInBounds_toArray, List.set_cons_zero, List.set_cons_succ]
      refine takeH (i := 17) (some 21) (.bool t) rfl rfl (by kernel_rfl) (by kernel_rfl) (by kernel_rfl) (fun _ _ _ h => h) (Or.inl ⟨by rfl, fun w hSw => by (try dsimp only at hSw); go_simp⟩) (by assumption) ?_
      simp only [Act.put, List.setIfInBounds_toArray, List.set_cons_zero, List.set_cons_succ]
      refine wpAnyH_ready (rs := [13]) (by kernel_rfl) (by simp) ?_
      refine AllReadyH.cons rfl (fun K hK => ?_) AllReadyH.nil
      go_simp
      refine (forkSpec _ xs B w1 (hv.c.on bb1 hB) (by omega)).mono ?_
      rintro e w2 ⟨rfl, rfl⟩
      go_simp
      refine hK.out _ _ ⟨X1.cell 0, X1.cell 1⟩ (fun hHeld2 => ?_)
      clear hK K hHeld1
      obtain ⟨q, hq⟩ : ∃ q, hasFork xs = q := ⟨_, rfl⟩
      rw [hq]
      by_cases hqt : q = t
      · have HE : Hid (progOk xs kss = kss.all kidOk) := prog_all HP.out (by omega) (by rw [hq, hqt, hm]; exact ht'.symm)
        subst hqt
        have d4 : (q != q) = false := by simp
        clear hq ht ht'
        refine takeH (i := 18) (some 22) (.bool false) rfl rfl (by kernel_rfl) (by kernel_rfl) (by kernel_rfl) (fun _ _ _ h => h) (Or.inl ⟨by rfl, fun w hSw => by (try dsimp only at hSw); go_simp⟩) (by assumption) ?_
        simp only [Act.put, List.setIfInBounds_toArray, List.set_cons_zero, List.set_cons_succ]
        refine takeH (i := 19) (some 23) (.bool false) rfl rfl (by kernel_rfl) (by kernel_rfl) (by kernel_rfl) (fun _ _ _ h => h) (Or.inl ⟨by rfl, fun w hSw => by (try dsimp only at hSw); go_simp⟩) (by assumption) ?_
        simp only [Act.put, List.setIfInBounds_toArray, List.set_cons_zero, List.set_cons_succ]
        refine wpAnyH_done (by kernel_rfl) ?_ _
        clear hHeld2
        have hvk := hv.k
        have HV := (show Hid _ from hvk)
        clear hvk
        obtain ⟨g, hg⟩ : ∃ g, w.heap.size = g := ⟨_, rfl⟩
        rw [hg] at hB bb1 X1 ⊢
        have hgw : g < w1.heap.size := X1.lt
        have y0 := X1.cell 1
        go_wp2
        clear y0
        go_loopw [3] (fun i' wr => ∃ k : Nat, k ≤ m ∧ i' = .int .i64 k ∧ (∀ j (h : j < kss.length), j < k → kidOk kss[j] = true) ∧ Below g w wr ∧ Blk wr g #[.slice a n cap, .slice ak m capk] 49) (fun i' _ => m - (intOf i').toNat)
        case atStart => exact ⟨0, Nat.zero_le _, rfl, fun j _ h => by omega, bb1, X1⟩
        case round =>
          obtain ⟨k, hk, rfl, hall, hb, X⟩ := hrel
          have y1 := X.cell 1
          have hsz : g ≤ wr.heap.size := by have := X.lt; omega
          by_cases hlt : k < m
          · obtain ⟨b, off, rfl, hbB, hc⟩ := SeesK.open HV.out (by omega)
            obtain ⟨s, hs1, hs2⟩ := hc k (by omega)
            have a0 := (hb.cell (p := ⟨b, off + k, none⟩) (by show b < g; omega)).trans hs1
            have cK := kidSpec _ _ B wr (hs2.on hb hB) (by omega) (HA3.out _ (List.getElem_mem (show k < kss.length by omega)))
            have HAl := (show Hid _ from hall)
            have i1 : (k : Int) < m := by omega
            by_cases hko : kidOk kss[k] = true
            · have HF : Hid (∀ j (h : j < kss.length), j < k + 1 → kidOk kss[j] = true) := fun j hj hjk => by
                rcases Nat.lt_succ_iff_lt_or_eq.1 hjk with h | h
                · exact HAl.out j hj h
                · subst h; exact hko
              rw [hko] at cK
              clear hall hc hs1 hs2 hko
              go_wp2_with fail
              refine cK.mono ?_
              rintro e w3 ⟨rfl, hb3⟩
              clear cK
              go_wp2
              go_roundw
              case rel => exact ⟨k + 1, by omega, by go_num, HF.out, hb.trans (hb3.mono hsz), X.on hb3 X.lt⟩
              case measure => simp [intOf]; omega
            · have hko' : kidOk kss[k] = false := by simpa using hko
              have HF : Hid (false = progOk xs kss) := by
                show _ = _
                rw [HE.out]
                exact (List.all_eq_false.2 ⟨kss[k], List.getElem_mem (by omega), by simp [hko']⟩).symm
              rw [hko'] at cK
              clear hall hc hs1 hs2 hko hko'
              go_wp2_with fail
              refine cK.mono ?_
              rintro e w3 ⟨rfl, hb3⟩
              clear cK
              go_wp2
              go_ret
              exact ⟨ret_b HF.out, by rw [hg]; exact hb.trans (hb3.mono hsz)⟩
          · have HF : Hid (true = progOk xs kss) := by
              show _ = _
              rw [HE.out]
              exact (List.all_eq_true.2 fun ks hks => by
                obtain ⟨j, hj, rfl⟩ := List.mem_iff_getElem.1 hks
                exact hall j hj (by omega)).symm
            obtain rfl : k = m := by omega
            clear hall
            go_wp2
            go_ret
            exact ⟨ret_b HF.out, by rw [hg]; exact hb⟩
      · have HF : Hid (false = progOk xs kss) := (prog_no3 (by rw [hq, hm, ht']; exact hqt)).symm
        have d4 : (q != t) = true := by simp [hqt]
        clear hq ht ht'
        refine takeH (i := 18) (some 22) (.bool true) rfl rfl (by kernel_rfl) (by kernel_rfl) (by kernel_rfl) (fun _ _ _ h => h) (Or.inl ⟨by rfl, fun w hSw => by (try dsimp only at hSw); go_simp⟩) (by assumption) ?_
        simp only [Act.put, List.setIfInBounds_toArray, List.set_cons_zero, List.set_cons_succ]
        refine takeH (i := 19) (some 23) (.bool true) rfl rfl (by kernel_rfl) (by kernel_rfl) (by kernel_rfl) (fun _ _ _ h => h) (Or.inl ⟨by rfl, fun w hSw => by (try dsimp only at hSw); go_simp⟩) (by assumption) ?_
        simp only [Act.put, List.setIfInBounds_toArray, List.set_cons_zero, List.set_cons_succ]
        refine wpAnyH_done (by kernel_rfl) ?_ _
        clear hHeld2
        go_wp2
        go_ret
        exact ⟨ret_b HF.out, bb1⟩

end Ops
end Go.Proofs.Ytppkohkcffnghaa
/- What the specification's SerialKid answers. -/
set_option linter.unusedVariables false
set_option linter.unusedSimpArgs false
namespace Go.Proofs.Ytppkohkcffnghaa
open Go.RowKit
namespace Ops
open Bas Flat

/-- two new empty rows -/
theorem kid_bad2 {xs : List O4} {zs cs : List Int} {w w' : World} {q : Nat} (hq : w'.heap.size = q) (h : (kidOk xs && regsOk zs && cellsOk cs) = false) (hb : Below w.heap.size w w') : KidAns xs zs cs w (.returned (.tuple #[.int .i64 0, .slice (some ⟨q, 0, none⟩) 0 0, .slice (some ⟨q + 1, 0, none⟩) 0 0])) ((w'.alloc (.cells #[] 3)).alloc (.cells #[] 3)) := by
  subst hq
  have u1 := Ints.owns_lit w' (B := w.heap.size) hb.size
  have z1 : (w'.alloc (.cells #[] 3)).heap.size = w'.heap.size + 1 := by simp
  have b2 := alloc_below (w'.alloc (.cells #[] 3)) (.cells #[] 3)
  have u2 := Ints.owns_lit (w'.alloc (.cells #[] 3)) (B := w.heap.size) (by rw [z1]; have := hb.size; omega)
  rw [z1] at u2
  refine ⟨0, [], [], _, _, rfl, .inr ⟨h, rfl, rfl, rfl⟩, u1.on b2 (Nat.le_refl _), u2, fun k h1 h2 => ?_, (hb.trans ((alloc_below w' _).mono hb.size)).trans (b2.mono (by rw [z1]; have := hb.size; omega))⟩
  have a := ob_eq h1
  have b := ob_eq h2
  omega

set_option maxRecDepth 100000 in
set_option maxHeartbeats 3200000 in
theorem kidSpecC (vC vr vc : Value) (xs : List O4) (zs cs : List Int) (B : Nat) (w : World) (hx : Sees4 B w vC xs) (hr : Ints.Sees B w vr zs) (hc : Ints.Sees B w vc cs) (hB : B ≤ w.heap.size) (hlen : xs.length ≤ 1048576) :
    Calls Try.prog 38 #[vC, vr, vc] w (KidAns xs zs cs w) := by
  have cK := kidSpec vC xs B w hx hB hlen
  obtain ⟨bK, hbK⟩ : ∃ b, kidOk xs = b := ⟨_, rfl⟩
  rw [hbK] at cK
  cases bK with
  | false =>
    have HF : Hid ((kidOk xs && regsOk zs && cellsOk cs) = false) := by show _ = _; rw [hbK]; rfl
    go_enter Try.func38, Try.ntmps38
    go_wp2_with (go_at_call 11; refine cK.mono ?_; rintro e w1 ⟨rfl, b1⟩; obtain ⟨q, hq⟩ : ∃ q, w1.heap.size = q := ⟨_, rfl⟩)
    go_ret3
    exact kid_bad2 hq HF.out b1
  | true =>
    obtain ⟨bR, hbR⟩ : ∃ b, regsOk zs = b := ⟨_, rfl⟩
    obtain ⟨bC, hbC⟩ : ∃ b, cellsOk cs = b := ⟨_, rfl⟩
    have cR : ∀ w1, Below w.heap.size w w1 → Calls Try.prog 83 #[vr] w1 fun e w' => e = .returned (.bool bR) ∧ w1 = w' := fun w1 b1 => by
      have := regsSpec vr zs B w1 (hr.on b1 hB)
      rw [hbR] at this; exact this
    have cV : ∀ w1, Below w.heap.size w w1 → Calls Try.prog 69 #[vc] w1 fun e w' => e = .returned (.bool bC) ∧ w1 = w' := fun w1 b1 => by
      have := Ths.specCells vc cs B w1 (hc.on b1 hB)
      rw [hbC] at this; exact this
    cases bR with
    | false =>
      have HF : Hid ((kidOk xs && regsOk zs && cellsOk cs) = false) := by show _ = _; rw [hbK, hbR]; rfl
      go_enter Try.func38, Try.ntmps38
      go_wp2_with (first | (go_at_call 11; refine cK.mono ?_; rintro e w1 ⟨rfl, b1⟩; obtain ⟨q, hq⟩ : ∃ q, w1.heap.size = q := ⟨_, rfl⟩) | (go_at_call 83; refine (cR _ b1).mono ?_; rintro e w2 ⟨rfl, rfl⟩))
      go_ret3
      exact kid_bad2 hq HF.out b1
    | true =>
      cases bC with
      | false =>
        have HF : Hid ((kidOk xs && regsOk zs && cellsOk cs) = false) := by show _ = _; rw [hbK, hbR, hbC]; rfl
        go_enter Try.func38, Try.ntmps38
        go_wp2_with (first | (go_at_call 11; refine cK.mono ?_; rintro e w1 ⟨rfl, b1⟩; obtain ⟨q, hq⟩ : ∃ q, w1.heap.size = q := ⟨_, rfl⟩) | (go_at_call 83; refine (cR _ b1).mono ?_; rintro e w2 ⟨rfl, rfl⟩) | (go_at_call 69; refine (cV _ b1).mono ?_; rintro e w2 ⟨rfl, rfl⟩))
        go_ret3
        exact kid_bad2 hq HF.out b1
      | true =>
        have HF : Hid ((kidOk xs && regsOk zs && cellsOk cs) = true) := by show _ = _; rw [hbK, hbR, hbC]; rfl
        have HK : Hid (kidOk xs = true) := hbK
        have HR : Hid (regsOk zs = true) := hbR
        have HC : Hid (cellsOk cs = true) := hbC
        obtain ⟨aC, cC, rfl⟩ := hx.form
        obtain ⟨ar, cr, rfl⟩ := hr.form
        obtain ⟨ac, cc, rfl⟩ := hc.form
        clear hbK hbR hbC
        go_enter Try.func38, Try.ntmps38
        go_wp2_with (first | (go_at_call 11; refine cK.mono ?_; rintro e w1 ⟨rfl, b1⟩; obtain ⟨w2, m1, m2, m3, m4⟩ := Ints.makeI 8 (by omega) w1 w1.heap.size (Nat.le_refl _); obtain ⟨q, hq⟩ : ∃ q, w1.heap.size = q := ⟨_, rfl⟩; rw [hq] at m3 m4 m2; have m3 : (Instr.makeSlice 25 (.int .i64 8) (.int .i64 8)).run Try.prog w1 = .ok (.slice (some ⟨q, 0, none⟩) 8 8) w2 := m3) | (go_at_call 83; refine (cR _ b1).mono ?_; rintro e w2' ⟨rfl, rfl⟩) | (go_at_call 69; refine (cV _ b1).mono ?_; rintro e w2' ⟨rfl, rfl⟩))
        have b2 := b1.trans (m1.mono b1.size)
        have OM : Ints.Owns q w2 (.slice (some ⟨q, 0, none⟩) 8 8) (zeros 8) := m4
        have z2 : w.heap.size ≤ w2.heap.size := b2.size
        have cW := walkNo (.slice aC xs.length cC) xs w2.heap.size w2 ((hx.on b2 hB).up (by omega)) (Nat.le_refl _) (kid_dry HK.out).1 (kid_dry HK.out).2.1 (.slice ar zs.length cr) zs ((hr.on b2 hB).up (by omega)) HR.out (.slice ac cs.length cc) (.slice (some ⟨q, 0, none⟩) 8 8) ⟨cs, zeros 8, 0⟩ ⟨(hc.on b2 hB).up (by omega), OM.sees⟩ (zeros_ok HC.out)
        refine cW.mono ?_
        rintro e w3 ⟨⟨v', vc', vm', qq, rfl, hE, o1, o2, o3, o4, o5, o6, o7⟩, b3⟩
        have HA : Hid (KidTold xs zs cs qq.out qq.r qq.t.c) := .inl ⟨HF.out, ⟨qq, hE, rfl, rfl, rfl, o7⟩, o5, o6⟩
        obtain ⟨qo, qr, qt⟩ := qq
        obtain ⟨a1, k1, rfl⟩ := o1.form
        obtain ⟨a2, k2, rfl⟩ := o2.c.form
        obtain ⟨a3, k3, rfl⟩ := o2.m.form
        have X4 := Blk.new w3 #[.int .i64 qo, .slice a1 qr.length k1, .slice a2 qt.c.length k2, .slice a3 qt.m.length k3, .int .i64 qt.n] 45
        have b4 := alloc_below w3 (.cells #[.int .i64 qo, .slice a1 qr.length k1, .slice a2 qt.c.length k2, .slice a3 qt.m.length k3, .int .i64 qt.n] 45)
        obtain ⟨w4, hw4⟩ : ∃ W, w3.alloc (.cells #[.int .i64 qo, .slice a1 qr.length k1, .slice a2 qt.c.length k2, .slice a3 qt.m.length k3, .int .i64 qt.n] 45) = W := ⟨_, rfl⟩
        rw [hw4] at X4 b4
        have x0 := X4.cell 0; have x1 := X4.cell 1; have x2 := X4.cell 2
        have bF := (b2.trans (b3.mono z2)).trans (b4.mono (Nat.le_trans z2 b3.size))
        have Oa := ((o1.on b4 (Nat.le_refl _)).mono z2)
        have Ob := ((o2.c.on b4 (Nat.le_refl _)).mono z2)
        clear cK cR cV cW m1 m2 m3 m4 hE o5 o6 o7
        go_wp2
        go_region
        all_goals
          go_wp2
          go_ret3
          exact ⟨qo, qr, qt.c, _, _, rfl, HA.out, Oa, Ob, o3, bF.drew⟩
end Ops
end Go.Proofs.Ytppkohkcffnghaa
/- Marks on rows of numbers, from any number on. -/
set_option linter.unusedVariables false
set_option linter.unusedSimpArgs false
namespace Go.Proofs.Ytppkohkcffnghaa
open Go.RowKit
namespace Ints
open Bas (grownBy_trans)
def markK (k0 : Int) (i : Nat) : Int := k0 + (i : Int)
def markedK (zs : List Int) (k0 : Int) (k : Nat) : List Int := (List.range k).map (markK k0) ++ zs.drop k
def marksK (k0 : Int) (n : Nat) : List Int := (List.range n).map (markK k0)
theorem markedK_zero (zs : List Int) (k0 : Int) : markedK zs k0 0 = zs := by simp [markedK]
theorem markedK_full (zs : List Int) (k0 : Int) : markedK zs k0 zs.length = marksK k0 zs.length := by simp [markedK, marksK]
theorem markedK_length (zs : List Int) (k0 : Int) (k : Nat) (h : k ≤ zs.length) : (markedK zs k0 k).length = zs.length := by simp [markedK]; omega
theorem markedK_set (zs : List Int) (k0 : Int) (k : Nat) (h : k < zs.length) : (markedK zs k0 k).set k (markK k0 k) = markedK zs k0 (k + 1) := by
  unfold markedK
  have hl : ((List.range k).map (markK k0)).length = k := by simp
  rw [List.drop_eq_getElem_cons h, List.set_append_right _ _ (by omega), hl, Nat.sub_self, List.set_cons_zero, List.range_succ, List.map_append, List.append_assoc]
  rfl
theorem marksK_get (k0 : Int) (n k : Nat) (h : k < (marksK k0 n).length) : (marksK k0 n)[k] = markK k0 k := by simp [marksK]
theorem marksK_length (k0 : Int) (n : Nat) : (marksK k0 n).length = n := by simp [marksK]

set_option maxRecDepth 100000 in
set_option maxHeartbeats 800000 in
theorem markIntsK (v : Value) (zs : List Int) (k0 : Int) (h0 : 0 ≤ k0) (h1' : k0 ≤ 1000000000) (B : Nat) (w : World) (hv : Owns B w v zs) (hlen : zs.length ≤ 1048576) :
    Calls Try.prog 33 #[v, .int .i64 k0] w fun e w' => e = .returned (.int .i64 (k0 + (zs.length : Int))) ∧ Owns B w' v (marksK k0 zs.length) ∧ w.grownBy w' v.ownBlock := by
  obtain ⟨n, hn⟩ : ∃ n, zs.length = n := ⟨_, rfl⟩
  obtain ⟨hv1, hv2⟩ := id hv
  rcases hv2 with ⟨rfl, h0⟩ | ⟨g, cap, cur, rfl, hBg, hg, hle, hm, -, -⟩
  · obtain rfl : zs = [] := List.eq_nil_of_length_eq_zero h0
    clear hn hv1 h0
    go_enter Try.func33, Try.ntmps33
    go_wp2
    go_loop [1, 5] (fun q i => q = .int .i64 k0 ∧ i = .int .i64 0) (fun _ _ => 0)
    case atStart => exact ⟨rfl, rfl⟩
    case round =>
      obtain ⟨rfl, rfl⟩ := hrel
      go_wp2
      go_ret
      exact ⟨rfl, hv, ⟨rfl, rfl, rfl, Nat.le_refl _, fun _ _ _ => rfl⟩⟩
  · unfold Owns at hv
    rw [hn] at hv hlen hle ⊢
    clear hv1 hg hm
    go_enter Try.func33, Try.ntmps33
    go_wp2
    go_loopw [1, 5] (fun q i wr => ∃ k : Nat, k ≤ n ∧ q = .int .i64 (k0 + (k : Int)) ∧ i = .int .i64 k ∧ wr.ownsRow B 3 1 (.slice (some ⟨g, 0, none⟩) n cap) n (iv (markedK zs k0 k)) ∧ w.grownBy wr (some g)) (fun _ i _ => n - (intOf i).toNat)
    case atStart => exact ⟨0, Nat.zero_le _, by simp, rfl, by rw [markedK_zero]; exact hv, ⟨rfl, rfl, rfl, Nat.le_refl _, fun _ _ _ => rfl⟩⟩
    case round =>
      obtain ⟨k, hk, rfl, rfl, hR, hgr⟩ := hrel
      by_cases hlt : k < n
      · have hpl : (markedK zs k0 k).length = n := by rw [markedK_length zs k0 k (by omega)]; exact hn
        have HP : Hid ((markedK zs k0 k).set k (markK k0 k) = markedK zs k0 (k + 1)) := markedK_set zs k0 k (by omega)
        have c0 := owns_at hR k (by omega)
        have hfz := fun j => hR.frozenAt j
        go_wp2
        have hR3 := owns_set hR k (markK k0 k)
        rw [HP.out] at hR3
        unfold markK at hR3
        have t1 := (hR.stored k (.int .i64 (k0 + (k : Int)))).2
        go_roundw
        case rel => exact ⟨k + 1, by omega, by go_num, by go_num, hR3, grownBy_trans hgr t1⟩
        case measure => simp [intOf]; omega
      · obtain rfl : k = n := by omega
        go_wp2
        go_ret
        rw [← hn, markedK_full, hn] at hR
        refine ⟨rfl, ?_, hgr⟩
        unfold Owns
        rw [marksK_length]
        exact hR

set_option maxRecDepth 100000 in
set_option maxHeartbeats 800000 in
theorem heldIntsK (v : Value) (n : Nat) (k0 : Int) (h0 : 0 ≤ k0) (h1' : k0 ≤ 1000000000) (B : Nat) (w : World) (hv : Sees B w v (marksK k0 n)) (hlen : n ≤ 1048576) :
    Calls Try.prog 42 #[v, .int .i64 k0] w fun e w' => e = .returned (.int .i64 (k0 + (n : Int))) ∧ w = w' := by
  obtain ⟨a, cap, rfl, h1, h2, h3⟩ := hv
  rw [marksK_length]
  clear h1 h2
  go_enter Try.func42, Try.ntmps42
  go_wp2
  go_loop [1, 5] (fun q i => ∃ k : Nat, k ≤ n ∧ q = .int .i64 (k0 + (k : Int)) ∧ i = .int .i64 k) (fun _ i => n - (intOf i).toNat)
  case atStart => exact ⟨0, Nat.zero_le _, by simp, rfl⟩
  case round =>
    obtain ⟨k, hk, rfl, rfl⟩ := hrel
    by_cases hlt : k < n
    · obtain ⟨b, off, rfl, hbB, hc⟩ := h3 (fun h => by have := congrArg List.length h; rw [marksK_length] at this; simp at this; omega)
      have a0 := hc k (by rw [marksK_length]; omega)
      simp only [marksK_get, markK] at a0
      clear hc h3
      go_wp2
      go_round
      case rel => exact ⟨k + 1, by omega, by go_num, by go_num⟩
      case measure => simp [intOf]; omega
    · obtain rfl : k = n := by omega
      go_wp2
      go_ret
      exact ⟨rfl, rfl⟩
end Ints
end Go.Proofs.Ytppkohkcffnghaa
/- Marks on rows of ops: what the laws' markOpS and heldOpS do. -/
set_option linter.unusedVariables false
set_option linter.unusedSimpArgs false
namespace Go.Proofs.Ytppkohkcffnghaa
open Go.RowKit
namespace Ops
open Bas Flat

theorem ret_k {a b : Int} (h : a = b) : Ending.returned (.int .i64 a) = .returned (.int .i64 b) := by rw [h]
def mkO (k0 : Int) (j : Nat) : O4 := ⟨k0 + 4 * j, k0 + 4 * j + 1, k0 + 4 * j + 2, k0 + 4 * j + 3⟩
def marksO (k0 : Int) (n : Nat) : List O4 := (List.range n).map (mkO k0)
theorem marksO_length (k0 : Int) (n : Nat) : (marksO k0 n).length = n := by simp [marksO]
theorem marksO_get (k0 : Int) (n j : Nat) (h : j < (marksO k0 n).length) : (marksO k0 n)[j] = mkO k0 j := by simp [marksO]
def markedO (xs : List O4) (k0 : Int) (k : Nat) : List O4 := marksO k0 k ++ xs.drop k
theorem markedO_zero (xs : List O4) (k0 : Int) : markedO xs k0 0 = xs := by simp [markedO, marksO]
theorem markedO_full (xs : List O4) (k0 : Int) : markedO xs k0 xs.length = marksO k0 xs.length := by simp [markedO]
theorem markedO_length (xs : List O4) (k0 : Int) (k : Nat) (h : k ≤ xs.length) : (markedO xs k0 k).length = xs.length := by simp [markedO, marksO_length]; omega
theorem markedO_set (xs : List O4) (k0 : Int) (k : Nat) (h : k < xs.length) : (markedO xs k0 k).set k (mkO k0 k) = markedO xs k0 (k + 1) := by
  unfold markedO
  rw [List.set_append_right _ _ (by rw [marksO_length]; exact Nat.le_refl _), marksO_length, Nat.sub_self, List.drop_eq_getElem_cons h, List.set_cons_zero]
  simp [marksO, List.range_succ]
theorem own_some' {B n cap : Nat} {w : World} {a : Option Addr} {xs : List O4} (h : Owns4 B w (.slice a n cap) xs) (hn : 0 < xs.length) : ∃ q, a = some ⟨q, 0, none⟩ ∧ B ≤ q ∧ q < w.heap.size ∧ n = xs.length := by
  obtain ⟨h1, h2⟩ := h
  rcases h2 with ⟨h', h0⟩ | ⟨q, c, cur, h', hB, hg, hle, _⟩
  · omega
  · simp only [Value.slice.injEq] at h'
    obtain ⟨rfl, rfl, rfl⟩ := h'
    exact ⟨q, rfl, hB, (Array.getElem?_eq_some_iff.1 hg).1, rfl⟩
theorem grown_set {w w' : World} {q : Nat} (h : w.grownBy w' (some q)) (i : Nat) (u : Value) : w.grownBy (w'.setCell ⟨q, i, none⟩ u) (some q) :=
  ⟨h.os, h.tape, h.output, by simpa [World.setCell] using h.size, fun k hk hne => (Below.heap_setCell w' _ _ _ (fun e => hne (by rw [e]))).trans (h.block k hk hne)⟩

set_option maxRecDepth 100000 in
set_option maxHeartbeats 3200000 in
theorem markOpsC (v : Value) (xs : List O4) (k0 : Int) (B : Nat) (w : World) (hv : Owns4 B w v xs) (h0 : 0 ≤ k0) (h1 : k0 ≤ 1000000000) (hlen : xs.length ≤ 1048576) :
    Calls Try.prog 41 #[v, .int .i64 k0] w fun e w' => e = .returned (.int .i64 (k0 + 4 * (xs.length : Int))) ∧ Owns4 B w' v (marksO k0 xs.length) ∧ w.grownBy w' v.ownBlock := by
  obtain ⟨a, cap, rfl⟩ := hv.form
  obtain ⟨n, hn⟩ : ∃ n, xs.length = n := ⟨_, rfl⟩
  rw [hn] at hv hlen ⊢
  by_cases hn0 : n = 0
  · have HF : Hid (Owns4 B w (.slice a n cap) (marksO k0 n)) := by
      subst hn0
      have : xs = [] := List.eq_nil_of_length_eq_zero hn
      subst this
      exact hv
    subst hn0
    clear hv
    go_enter Try.func41, Try.ntmps41
    go_wp2
    go_loop [1, 5] (fun kv iv => kv = .int .i64 k0 ∧ iv = .int .i64 0) (fun _ _ => 0)
    case atStart => exact ⟨rfl, rfl⟩
    case round =>
      obtain ⟨rfl, rfl⟩ := hrel
      go_wp2
      go_ret
      exact ⟨by simp, HF.out, ⟨rfl, rfl, rfl, Nat.le_refl _, fun _ _ _ => rfl⟩⟩
  obtain ⟨q, rfl, hq1, hq2, -⟩ := own_some' hv (by omega)
  have hO : w.ownsRow B 30 4 (.slice (some ⟨q, 0, none⟩) n cap) n (fv opEl (markedO xs k0 0)) := by
    rw [markedO_zero]
    have := hv
    unfold Owns4 Owns at this
    rw [hn] at this; exact this
  have hG : w.grownBy w (some q) := ⟨rfl, rfl, rfl, Nat.le_refl _, fun _ _ _ => rfl⟩
  clear hv
  go_enter Try.func41, Try.ntmps41
  go_wp2
  go_loopw [1, 5] (fun kv iv wr => ∃ (j : Nat) (k : Int), j ≤ n ∧ kv = .int .i64 k ∧ k = k0 + 4 * (j : Int) ∧ iv = .int .i64 j ∧ wr.ownsRow B 30 4 (.slice (some ⟨q, 0, none⟩) n cap) n (fv opEl (markedO xs k0 j)) ∧ w.grownBy wr (some q)) (fun _ iv _ => n - (intOf iv).toNat)
  case atStart => exact ⟨0, k0, Nat.zero_le _, rfl, by simp, rfl, hO, hG⟩
  case round =>
    obtain ⟨j, k, hj, rfl, hk, rfl, hR, hGr⟩ := hrel
    clear hO hG
    by_cases hlt : j < n
    · have hpl : (markedO xs k0 j).length = n := by rw [markedO_length xs k0 j (by omega)]; exact hn
      obtain ⟨c0, c1, c2, c3⟩ := at4 (own_at (E := opEl) hR j (by omega))
      obtain ⟨y, hy⟩ : ∃ y, (markedO xs k0 j)[j]'(by omega) = y := ⟨_, rfl⟩
      rw [hy] at c0 c1 c2 c3
      change wr.cell? ⟨q, j * 4, none⟩ = _ at c0
      change wr.cell? ⟨q, j * 4 + 1, none⟩ = _ at c1
      change wr.cell? ⟨q, j * 4 + 2, none⟩ = _ at c2
      change wr.cell? ⟨q, j * 4 + 3, none⟩ = _ at c3
      have hfz := fun j => hR.frozenAt j
      have hR3 := own_set4 hR j (by omega) (mkO k0 j)
      rw [markedO_set xs k0 j (by omega)] at hR3
      have eM : mkO k0 j = ⟨k, k + 1, k + 2, k + 3⟩ := by unfold mkO; rw [hk]
      rw [eM] at hR3
      unfold set4 at hR3
      have hG3 := grown_set (grown_set (grown_set (grown_set hGr (j * 4) (.int .i64 k)) (j * 4 + 1) (.int .i64 (k + 1))) (j * 4 + 2) (.int .i64 (k + 2))) (j * 4 + 3) (.int .i64 (k + 3))
      have HK : Hid (k = k0 + 4 * (j : Int)) := hk
      have i1 : (j : Int) < n := by omega
      have i2 : (0 : Int) ≤ j := by omega
      have k1 : 0 ≤ k := by omega
      have k2 : k ≤ 2000000000 := by omega
      have e2 : k + 1 + 1 = k + 2 := by omega
      have e3 : k + 2 + 1 = k + 3 := by omega
      have e4 : k + 3 + 1 = k + 4 := by omega
      clear hR hGr eM hk hy hpl
      go_wp2
      go_roundw
      case rel => exact ⟨j + 1, k + 4, by omega, by first | rfl | go_num, by rw [HK.out]; omega, by go_num, hR3, hG3⟩
      case measure => simp [intOf]; omega
    · obtain rfl : j = n := by omega
      have i1 : ¬ (j : Int) < j := by omega
      have HF : Hid (k = k0 + 4 * (j : Int)) := hk
      clear hk
      go_wp2
      go_ret
      refine ⟨ret_k HF.out, ?_, hGr⟩
      rw [← hn, markedO_full, hn] at hR
      unfold Owns4 Owns
      rw [marksO_length]; exact hR

end Ops
end Go.Proofs.Ytppkohkcffnghaa
