/- Several texts of one proof, in build order: WalkNo, SerForkL. -/
import Derived.Deep.QuietTactic
import Derived.BigQuiet
import Derived.Test.YtajbmokidcdfnaaSB1
import Derived.Test.YtajbmokidcdfnaaSB5
import Derived.Test.YtajbmokidcdfnaaSB8
import Derived.Test.YtajbmokidcdfnaaSB9
import Derived.Test.YtajbmokidcdfnaaSB10
import Derived.Test.YtajbmokidcdfnaaSB16
/- What the specification's l7Walk answers of code without forks. -/
set_option linter.unusedVariables false
set_option linter.unusedSimpArgs false
namespace Go.Proofs.Ytajbmokidcdfnaa
open Go.RowKit
namespace Ops
open Bas Flat

/-- how a walk ends -/
def ToldRun (B : Nat) (xs : List O4) (F : List Int → Th → List Int × Th) (r : List Int) (t : Th) (e : Ending) (w' : World) : Prop :=
  ∃ v' vc' vm' q, e = .returned (.agg #[.int .i64 q.out, v', vc', vm', .int .i64 q.t.n]) ∧ Ends xs t F ⟨0, r, t, []⟩ q ∧ Ints.Owns B w' v' q.r ∧ OwnT B w' vc' vm' q.t ∧ Dj v' vc' ∧ Dj v' vm' ∧ (q.out = 1 ∨ q.out = 2) ∧ regsOk q.r = true ∧ thOk q.t = true

theorem retPost {xs : List O4} {F : List Int → Th → List Int × Th} {r : List Int} {t : Th} {w : World} {pR : Nat} {a' : Act} {w' : World} (h : RetW xs F r t w pR a' w') :
    bodyPost Try.prog Try.f95 (fun e w'' => ToldRun w.heap.size xs F r t e w'' ∧ Below w.heap.size w w'') .ret a' w' := by
  obtain ⟨h1, h2, v', vc', vm', q, hb, hE, o1, o2, o3, o4, o5, o6, o7, o8⟩ := h
  obtain ⟨a1, c1, rfl⟩ := o1.form
  obtain ⟨a2, c2, rfl⟩ := o2.c.form
  obtain ⟨a3, c3, rfl⟩ := o2.m.form
  have b0 := hb.cell 0; have b1 := hb.cell 1; have b2 := hb.cell 2; have b3 := hb.cell 3; have b4 := hb.cell 4
  refine bodyPost_ret (v := .agg #[.int .i64 q.out, .slice a1 q.r.length c1, .slice a2 q.t.c.length c2, .slice a3 q.t.m.length c3, .int .i64 q.t.n]) ?_ h2 ⟨⟨_, _, _, q, rfl, hE, o1, o2, o3, o4, o5, o6, o7⟩, o8⟩
  have h1' : a'.tmps[10]?.getD undef = .pointer (some ⟨pR, 0, none⟩) := by simpa using h1
  simp [results, Try.results95, go_sem, h1', b0, b1, b2, b3, b4]
theorem exit_told {xs : List O4} {F : List Int → Th → List Int × Th} {r : List Int} {t : Th} {w W : World} {pR pS pT : Nat} {vr vc vm vk v0 v1 : Value} {ms : List M5} {s : Cf} (S1 : WSt w W pR pS pT vr vc vm vk v0 v1 ms s t) (out : Int)
    (hE : Ends xs t F ⟨0, r, t, []⟩ ⟨out, s.r, s.t⟩) (ho : out = 1 ∨ out = 2) (hr : regsOk s.r = true) (ht : thOk s.t = true) :
    Blk (((((W.setCell ⟨pR, 0, none⟩ (.int .i64 out)).setCell ⟨pR, 1, none⟩ vr).setCell ⟨pR, 2, none⟩ vc).setCell ⟨pR, 3, none⟩ vm).setCell ⟨pR, 4, none⟩ (.int .i64 s.t.n)) pR #[.int .i64 out, vr, vc, vm, .int .i64 s.t.n] 57 ∧ Ends xs t F ⟨0, r, t, []⟩ ⟨out, s.r, s.t⟩ ∧ Ints.Owns w.heap.size (((((W.setCell ⟨pR, 0, none⟩ (.int .i64 out)).setCell ⟨pR, 1, none⟩ vr).setCell ⟨pR, 2, none⟩ vc).setCell ⟨pR, 3, none⟩ vm).setCell ⟨pR, 4, none⟩ (.int .i64 s.t.n)) vr s.r ∧ OwnT w.heap.size (((((W.setCell ⟨pR, 0, none⟩ (.int .i64 out)).setCell ⟨pR, 1, none⟩ vr).setCell ⟨pR, 2, none⟩ vc).setCell ⟨pR, 3, none⟩ vm).setCell ⟨pR, 4, none⟩ (.int .i64 s.t.n)) vc vm s.t ∧ Dj vr vc ∧ Dj vr vm ∧ (out = 1 ∨ out = 2) ∧ regsOk s.r = true ∧ thOk s.t = true ∧ Below w.heap.size w (((((W.setCell ⟨pR, 0, none⟩ (.int .i64 out)).setCell ⟨pR, 1, none⟩ vr).setCell ⟨pR, 2, none⟩ vc).setCell ⟨pR, 3, none⟩ vm).setCell ⟨pR, 4, none⟩ (.int .i64 s.t.n)) := by
  have oR : ∀ {v : Value} {zs : List Int} {B : Nat}, Ints.Owns B W v zs → ∀ k, v.ownBlock = some k → k ≠ pR := fun ho k e => int_off ho S1.R (by decide) k e
  have hk5 : ∀ k, k ≠ pR → (((((W.setCell ⟨pR, 0, none⟩ (.int .i64 out)).setCell ⟨pR, 1, none⟩ vr).setCell ⟨pR, 2, none⟩ vc).setCell ⟨pR, 3, none⟩ vm).setCell ⟨pR, 4, none⟩ (.int .i64 s.t.n)).heap[k]? = W.heap[k]? := fun k hk => by
    rw [Below.heap_setCell _ ⟨pR, 4, none⟩ _ k hk, Below.heap_setCell _ ⟨pR, 3, none⟩ _ k hk, Below.heap_setCell _ ⟨pR, 2, none⟩ _ k hk, Below.heap_setCell _ ⟨pR, 1, none⟩ _ k hk, Below.heap_setCell _ ⟨pR, 0, none⟩ _ k hk]
  refine ⟨((((S1.R.set 0 (.int .i64 out)).set 1 vr).set 2 vc).set 3 vm).set 4 (.int .i64 s.t.n), hE, S1.r.keep fun k e => hk5 k (oR S1.r k e), ⟨S1.c.keep fun k e => hk5 k (oR S1.c k e), S1.m.keep fun k e => hk5 k (oR S1.m k e), S1.d.2.2⟩, S1.d.1, S1.d.2.1, ho, hr, ht, ?_⟩
  exact ((((S1.b.setCell (p := ⟨pR, 0, none⟩) S1.p.1 (.int .i64 out)).setCell (p := ⟨pR, 1, none⟩) S1.p.1 vr).setCell (p := ⟨pR, 2, none⟩) S1.p.1 vc).setCell (p := ⟨pR, 3, none⟩) S1.p.1 vm).setCell (p := ⟨pR, 4, none⟩) S1.p.1 (.int .i64 s.t.n)
set_option maxRecDepth 1000000 in
theorem startWI {xs : List O4} {n : Nat} {F : List Int → Th → List Int × Th} {r : List Int} {t : Th} {w wr : World} {pR pS pT : Nat} {v0 v1 : Value} (cx c1 c2 c4 c5 c6 c7 c8 c26 c27 c28 c29 c30 c31 c32 c33 c289 c290 c291 : Value) (u3 u12 u13 u14 u15 u16 u17 u18 u19 u20 u21 u22 u23 u24 u25 u34 u35 u36 u37 u38 u39 u40 u41 u42 u43 u44 u45 u46 u47 u48 u49 u50 u51 u52 u53 u54 u55 u56 u57 u58 u59 u60 u61 u62 u63 u64 u65 u66 u67 u68 u69 u70 u71 u72 u73 u74 u75 u76 u77 u78 u79 u80 u81 u82 u83 u84 u85 u86 u87 u88 u89 u90 u91 u92 u93 u94 u95 u96 u97 u98 u99 u100 u101 u102 u103 u104 u105 u106 u107 u108 u109 u110 u111 u112 u113 u114 u115 u116 u117 u118 u119 u120 u121 u122 u123 u124 u125 u126 u127 u128 u129 u130 u131 u132 u133 u134 u135 u136 u137 u138 u139 u140 u141 u142 u143 u144 u145 u146 u147 u148 u149 u150 u151 u152 u153 u154 u155 u156 u157 u158 u159 u160 u161 u162 u163 u164 u165 u166 u167 u168 u169 u170 u171 u172 u173 u174 u175 u176 u177 u178 u179 u180 u181 u182 u183 u184 u185 u186 u187 u188 u189 u190 u191 u192 u193 u194 u195 u196 u197 u198 u199 u200 u201 u202 u203 u204 u205 u206 u207 u208 u209 u210 u211 u212 u213 u214 u215 u216 u217 u218 u219 u220 u221 u222 u223 u224 u225 u226 u227 u228 u229 u230 u231 u232 u233 u234 u235 u236 u237 u238 u239 u240 u241 u242 u243 u244 u245 u246 u247 u248 u249 u250 u251 u252 u253 u254 u255 u256 u257 u258 u259 u260 u261 u262 u263 u264 u265 u266 u267 u268 u269 u270 u271 u272 u273 u274 u275 u276 u277 u278 u279 u280 u281 u282 u283 u284 u285 u286 u287 u288 : Value) (h : RelE xs n F r t w pR pS pT v0 v1 u3 u12 u13 wr) : WI xs n F r t w pR pS pT v0 v1 cx c1 c2 c4 c5 c6 c7 c8 c26 c27 c28 c29 c30 c31 c32 c33 c289 c290 c291 ⟨#[cx, c1, c2, u3, c4, c5, c6, c7, c8, .pointer (some ⟨pS, 0, none⟩), .pointer (some ⟨pR, 0, none⟩), .pointer (some ⟨pT, 0, none⟩), u12, u13, u14, u15, u16, u17, u18, u19, u20, u21, u22, u23, u24, u25, c26, c27, c28, c29, c30, c31, c32, c33, u34, u35, u36, u37, u38, u39, u40, u41, u42, u43, u44, u45, u46, u47, u48, u49, u50, u51, u52, u53, u54, u55, u56, u57, u58, u59, u60, u61, u62, u63, u64, u65, u66, u67, u68, u69, u70, u71, u72, u73, u74, u75, u76, u77, u78, u79, u80, u81, u82, u83, u84, u85, u86, u87, u88, u89, u90, u91, u92, u93, u94, u95, u96, u97, u98, u99, u100, u101, u102, u103, u104, u105, u106, u107, u108, u109, u110, u111, u112, u113, u114, u115, u116, u117, u118, u119, u120, u121, u122, u123, u124, u125, u126, u127, u128, u129, u130, u131, u132, u133, u134, u135, u136, u137, u138, u139, u140, u141, u142, u143, u144, u145, u146, u147, u148, u149, u150, u151, u152, u153, u154, u155, u156, u157, u158, u159, u160, u161, u162, u163, u164, u165, u166, u167, u168, u169, u170, u171, u172, u173, u174, u175, u176, u177, u178, u179, u180, u181, u182, u183, u184, u185, u186, u187, u188, u189, u190, u191, u192, u193, u194, u195, u196, u197, u198, u199, u200, u201, u202, u203, u204, u205, u206, u207, u208, u209, u210, u211, u212, u213, u214, u215, u216, u217, u218, u219, u220, u221, u222, u223, u224, u225, u226, u227, u228, u229, u230, u231, u232, u233, u234, u235, u236, u237, u238, u239, u240, u241, u242, u243, u244, u245, u246, u247, u248, u249, u250, u251, u252, u253, u254, u255, u256, u257, u258, u259, u260, u261, u262, u263, u264, u265, u266, u267, u268, u269, u270, u271, u272, u273, u274, u275, u276, u277, u278, u279, u280, u281, u282, u283, u284, u285, u286, u287, u288, c289, c290, c291], []⟩ wr := by
  unfold WI
  exact ⟨_, _, _, _, _, _, _, _, _, _, _, _, _, _, _, _, _, _, _, _, _, _, _, _, _, _, _, _, _, _, _, _, _, _, _, _, _, _, _, _, _, _, _, _, _, _, _, _, _, _, _, _, _, _, _, _, _, _, _, _, _, _, _, _, _, _, _, _, _, _, _, _, _, _, _, _, _, _, _, _, _, _, _, _, _, _, _, _, _, _, _, _, _, _, _, _, _, _, _, _, _, _, _, _, _, _, _, _, _, _, _, _, _, _, _, _, _, _, _, _, _, _, _, _, _, _, _, _, _, _, _, _, _, _, _, _, _, _, _, _, _, _, _, _, _, _, _, _, _, _, _, _, _, _, _, _, _, _, _, _, _, _, _, _, _, _, _, _, _, _, _, _, _, _, _, _, _, _, _, _, _, _, _, _, _, _, _, _, _, _, _, _, _, _, _, _, _, _, _, _, _, _, _, _, _, _, _, _, _, _, _, _, _, _, _, _, _, _, _, _, _, _, _, _, _, _, _, _, _, _, _, _, _, _, _, _, _, _, _, _, _, _, _, _, _, _, _, _, _, _, _, _, _, _, _, _, _, _, _, _, _, _, _, _, _, _, _, _, _, _, h, rfl⟩
set_option maxRecDepth 1000000 in
set_option maxHeartbeats 16000000 in
theorem walkNo (vx : Value) (xs : List O4) (Bc : Nat) (w : World) (hv : Sees4 Bc w vx xs) (hB : Bc ≤ w.heap.size) (hc : codeOk xs = true) (hf : hasFork xs = false)
    (vr0 : Value) (r : List Int) (hr : Ints.Sees Bc w vr0 r) (hrk : regsOk r = true) (vc00 vm00 : Value) (t : Th) (ht : SeeT Bc w vc00 vm00 t) (htk : thOk t = true) :
    Calls Try.prog 95 #[vx, .slice none 0 0, .slice none 0 0, vr0, .agg #[vc00, vm00, .int .i64 t.n]] w fun e w' => ToldRun w.heap.size xs noF r t e w' ∧ Below w.heap.size w w' := by
  obtain ⟨ax, cx, rfl⟩ := hv.form
  obtain ⟨ar, cr, rfl⟩ := hr.form
  obtain ⟨ac, cc, rfl⟩ := ht.c.form
  obtain ⟨am, cm, rfl⟩ := ht.m.form
  have hrl := (regsOk_out hrk).1
  obtain ⟨tk1, tk2, tk3⟩ := th_parts htk
  have hcl := (cellsOk_out tk1).1
  have hml := (mapOk_out tk2).1
  have hxl := (code_four hc).1
  obtain ⟨n, hn⟩ : ∃ n, xs.length = n := ⟨_, rfl⟩
  rw [hrl] at hr ⊢
  rw [hcl] at ht ⊢
  rw [hml] at ht ⊢
  rw [hn] at hv hxl ⊢
  obtain ⟨tn, htn⟩ : ∃ x, t.n = x := ⟨_, rfl⟩
  have HTN : Hid (t.n = tn) := htn
  rw [htn]
  clear htn
  have b0 := alloc_below w (.cells #[.slice ac 8 cc, .slice am 8 cm, .int .i64 tn] 49)
  have S0 := Blk.new w #[.slice ac 8 cc, .slice am 8 cm, .int .i64 tn] 49
  obtain ⟨w0, hw0⟩ : ∃ W, w.alloc (.cells #[.slice ac 8 cc, .slice am 8 cm, .int .i64 tn] 49) = W := ⟨_, rfl⟩
  have HW0 := (show Hid _ from hw0)
  have hz0 : w0.heap.size = w.heap.size + 1 := by rw [← hw0]; simp
  rw [hw0] at b0 S0
  clear hw0
  have b1 := alloc_below w0 (.cells #[.int .i64 0, .slice none 0 0, .slice none 0 0, .slice none 0 0, .int .i64 0] 57)
  have R1 := Blk.new w0 #[.int .i64 0, .slice none 0 0, .slice none 0 0, .slice none 0 0, .int .i64 0] 57
  have S1 := S0.on b1 S0.lt
  have bb1 := b0.trans (b1.mono b0.size)
  obtain ⟨w1, hw1⟩ : ∃ W, w0.alloc (.cells #[.int .i64 0, .slice none 0 0, .slice none 0 0, .slice none 0 0, .int .i64 0] 57) = W := ⟨_, rfl⟩
  have HW1 := (show Hid _ from hw1)
  have hz1 : w1.heap.size = w.heap.size + 2 := by rw [← hw1]; simp [hz0]
  rw [hw1] at R1 S1 bb1
  rw [hz0] at R1
  clear hw1 b0 S0 b1
  have c1 := copyC (.slice ac 8 cc) (.slice am 8 cm) t Bc w1 (ht.on bb1 hB) (by omega) (by omega) (by omega)
  rw [HTN.out] at c1
  obtain ⟨pS, hpS⟩ : ∃ p, w.heap.size = p := ⟨_, rfl⟩
  have HPS := (show Hid _ from hpS)
  obtain ⟨pR, hpR⟩ : ∃ p, w.heap.size + 1 = p := ⟨_, rfl⟩
  have HPR := (show Hid _ from hpR)
  have hS1 := S1
  rw [hpS] at hS1
  rw [hpR] at R1
  have hpRS : pS < pR := by omega
  have hpR1 : pR < w1.heap.size := by omega
  clear hpS hpR hz0 hz1
  have x0 := S1.cell 0; have x1 := S1.cell 1; have x2 := S1.cell 2
  go_enter Try.func95, Try.ntmps95
  go_wp2_with fail
  rw [HW0.out, HW1.out, HPR.out, HPS.out]
  refine c1.mono ?_
  rintro e w2 ⟨vc0, vm0, rfl, T2, b2⟩
  clear c1 x0 x1 x2 HW0 HW1
  obtain ⟨a0, c0, rfl⟩ := T2.c.form
  obtain ⟨am0, cm0, rfl⟩ := T2.m.form
  rw [hcl, hml] at T2 ⊢
  have R2 := R1.on b2 hpR1
  have S2 := hS1.on b2 hS1.lt
  have bb2 := bb1.trans (b2.mono bb1.size)
  clear R1 S1 hS1
  have bA := alloc_below w2 (.cells #[.slice a0 8 c0, .slice am0 8 cm0, .int .i64 tn] 49)
  have TA := Blk.new w2 #[.slice a0 8 c0, .slice am0 8 cm0, .int .i64 tn] 49
  have RA := R2.on bA R2.lt
  have SA := S2.on bA S2.lt
  have T3 := T2.on bA
  have bb3 := bb2.trans (bA.mono bb2.size)
  have h2A : w2.heap.size < (w2.alloc (.cells #[.slice a0 8 c0, .slice am0 8 cm0, .int .i64 tn] 49)).heap.size := TA.lt
  have h12 := b2.size
  have hrA := hr.on bb3 hB
  obtain ⟨w3, hw3⟩ : ∃ W, w2.alloc (.cells #[.slice a0 8 c0, .slice am0 8 cm0, .int .i64 tn] 49) = W := ⟨_, rfl⟩
  have HW3 := (show Hid _ from hw3)
  rw [hw3] at TA RA SA T3 bb3 h2A hrA
  clear hw3 bA
  obtain ⟨pT, hpT⟩ : ∃ p, w2.heap.size = p := ⟨_, rfl⟩
  have HPT := (show Hid _ from hpT)
  rw [hpT] at TA h2A h12
  clear hpT R2 S2 T2 bb2 b2
  have L3 := Ints.owns_lit w3 (B := w3.heap.size) (Nat.le_refl _)
  have bL := alloc_below w3 (.cells #[] 3)
  have hszw : w.heap.size ≤ w3.heap.size := bb3.size
  obtain ⟨v4, w4, hr4, O4, G4, N4⟩ := Ints.appJ (.slice (some ⟨w3.heap.size, 0, none⟩) 0 0) (.slice ar 4 cr) 23 [] r Bc w3.heap.size _ L3 (by simp) (hrA.on bL (by omega)) (by simp; omega)
  rw [List.nil_append] at O4
  have b4 : Below w3.heap.size w3 w4 := bL.grown G4 (by simp) (fun k hk => by cases hk; exact Nat.le_refl _)
  obtain ⟨a4, c4, rfl⟩ := O4.form
  rw [hrl] at O4 hr4
  have RB := RA.on b4 RA.lt
  have SB := SA.on b4 SA.lt
  have TB := TA.on b4 TA.lt
  have T4 := T3.on b4
  have bb4 := bb3.trans (b4.mono bb3.size)
  have y0 := SB.cell 0; have y1 := SB.cell 1; have y2 := SB.cell 2
  have hz3 : (w2.alloc (.cells #[.slice a0 8 c0, .slice am0 8 cm0, .int .i64 tn] 49)).heap.size = w3.heap.size := by rw [HW3.out]
  have hr4 : (Builtin.append_ #[23, 23] 23 #[.slice (some ⟨w3.heap.size, 0, none⟩) 0 0, .slice ar 4 cr]).run Try.prog ((w2.alloc (.cells #[.slice a0 8 c0, .slice am0 8 cm0, .int .i64 tn] 49)).alloc (.cells #[] 3)) = .ok (.slice a4 4 c4) w4 := by rw [HW3.out]; exact hr4
  go_wp2_with (at_builtin; refine wpList_app _ rfl _ _ 23 rfl _ _ _ _ rfl rfl hr4 ?_)
  clear y0 y1 y2 hr4 HW3 hz3
  have c5 := copyC (.slice ac 8 cc) (.slice am 8 cm) t Bc w4 (ht.on bb4 hB) (by have := bb4.size; omega) (by omega) (by omega)
  rw [HTN.out] at c5
  refine c5.mono ?_
  rintro e w5 ⟨vc5, vm5, rfl, T5, b5⟩
  clear c5
  rw [HPT.out]
  clear HPT
  obtain ⟨a5, c5, rfl⟩ := T5.c.form
  obtain ⟨am5, cm5, rfl⟩ := T5.m.form
  rw [hcl, hml] at T5 ⊢
  have h34 := b4.size
  have h45 := b5.size
  have hw1z := bb1.size
  have bb5 := bb4.trans (b5.mono bb4.size)
  have SS : WSt w (((w5.setCell ⟨pS, 0, none⟩ (.slice a5 8 c5)).setCell ⟨pS, 1, none⟩ (.slice am5 8 cm5)).setCell ⟨pS, 2, none⟩ (.int .i64 tn)) pR pS pT (.slice a4 4 c4) (.slice a5 8 c5) (.slice am5 8 cm5) (.slice none 0 0) (.slice a0 8 c0) (.slice am0 8 cm0) [] ⟨0, r, t, []⟩ t := by
    have key := WSt.start (w := w) (W := w5) (pR := pR) (pS := pS) (pT := pT) (vr := .slice a4 4 c4) (vc := .slice a5 8 c5) (vm := .slice am5 8 cm5) (vc0 := .slice a0 8 c0) (vm0 := .slice am0 8 cm0) (pc := 0) (r := r) (t := t) (RB.on b5 RB.lt) (SB.on b5 SB.lt) (by rw [HTN.out]; exact TB.on b5 TB.lt)
      ((O4.on b5 (Nat.le_refl _)).mono hszw) ((T4.on b5).mono hw1z) (T5.mono bb4.size)
      ⟨fun k e e' => by have := (O4.at k e).2; have := (T5.c.at k e').1; omega, fun k e e' => by have := (O4.at k e).2; have := (T5.m.at k e').1; omega⟩
      ⟨fun k e e' => by have := (O4.at k e).1; have := (T3.c.at k e').2; omega, fun k e e' => by have := (O4.at k e).1; have := (T3.m.at k e').2; omega,
       fun k e e' => by have := (T5.c.at k e).1; have := (T3.c.at k e').2; omega, fun k e e' => by have := (T5.c.at k e).1; have := (T3.m.at k e').2; omega,
       fun k e e' => by have := (T5.m.at k e).1; have := (T3.c.at k e').2; omega, fun k e e' => by have := (T5.m.at k e).1; have := (T3.m.at k e').2; omega⟩ bb5 (by have := HPS.out; have := HPR.out; omega)
    rw [HTN.out] at key
    exact key
  have s0 := (SB.on b5 SB.lt).cell 0; have s1 := (SB.on b5 SB.lt).cell 1; have s2 := (SB.on b5 SB.lt).cell 2
  have f0 := (SB.on b5 SB.lt).froz 0; have f1 := (SB.on b5 SB.lt).froz 1; have f2 := (SB.on b5 SB.lt).froz 2
  have S0 := SS.marks0
  obtain ⟨g4, rfl⟩ := own_someW O4 (by omega)
  obtain ⟨g5, rfl⟩ := own_someW T5.c (by omega)
  obtain ⟨gm5, rfl⟩ := own_someW T5.m (by omega)
  have HTK := (show Hid _ from htk)
  clear SS RA SA TA RB SB TB T3 T4 T5 O4 L3 bL G4 N4 hrA
  go_wp2
  have K0 : CfOk xs ⟨0, r, t, []⟩ := CfOk.start hrk htk
  have HKS : Hid (∀ W, Below w.heap.size w W → Sees4 Bc W (.slice ax n cx) xs) := fun W hb => hv.on hb hB
  have HC : Hid (codeOk xs = true ∧ hasFork xs = false ∧ xs.length = n) := ⟨hc, hf, hn⟩
  clear hv hr ht s0 s1 s2 f0 f1 f2 hc hf hn hrl hcl hml tk1 tk2 tk3 hrk htk h12 h2A h34 h45 hw1z b4 b5 bb1 bb3 bb4 bb5 hpR1 hpRS hszw
  have hz5 : (((w5.setCell ⟨pS, 0, none⟩ (.slice (some ⟨g5, 0, none⟩) 8 c5)).setCell ⟨pS, 1, none⟩ (.slice (some ⟨gm5, 0, none⟩) 8 cm5)).setCell ⟨pS, 2, none⟩ (.int .i64 tn)).heap.size = w5.heap.size := by simp
  rw [hz5] at S0
  clear hz5
  obtain ⟨W0, hW0⟩ : ∃ W, (((w5.setCell ⟨pS, 0, none⟩ (.slice (some ⟨g5, 0, none⟩) 8 c5)).setCell ⟨pS, 1, none⟩ (.slice (some ⟨gm5, 0, none⟩) 8 cm5)).setCell ⟨pS, 2, none⟩ (.int .i64 tn)).alloc (.cells #[] 154) = W := ⟨_, rfl⟩
  rw [hW0] at S0 ⊢
  clear hW0
  have KR : RelE xs n noF r t w pR pS pT (.slice a0 8 c0) (.slice am0 8 cm0) (.slice (some ⟨g4, 0, none⟩) 4 c4) (.slice (some ⟨w5.heap.size, 0, none⟩) 0 0) (.int .i64 0) W0 := ⟨⟨0, r, t, []⟩, [], g4, c4, g5, c5, gm5, cm5, _, 0, 0, { rg := rfl, kg := rfl, p := rfl, l := rfl, ok := K0, led := Leads.refl _, st := S0 }⟩
  refine wp_loop (c := (bodyOf Try.f95.body)) _ (WMu n) (startWI _ _ _ _ _ _ _ _ _ _ _ _ _ _ _ _ _ _ _ _ _ _ _ _ _ _ _ _ _ _ _ _ _ _ _ _ _ _ _ _ _ _ _ _ _ _ _ _ _ _ _ _ _ _ _ _ _ _ _ _ _ _ _ _ _ _ _ _ _ _ _ _ _ _ _ _ _ _ _ _ _ _ _ _ _ _ _ _ _ _ _ _ _ _ _ _ _ _ _ _ _ _ _ _ _ _ _ _ _ _ _ _ _ _ _ _ _ _ _ _ _ _ _ _ _ _ _ _ _ _ _ _ _ _ _ _ _ _ _ _ _ _ _ _ _ _ _ _ _ _ _ _ _ _ _ _ _ _ _ _ _ _ _ _ _ _ _ _ _ _ _ _ _ _ _ _ _ _ _ _ _ _ _ _ _ _ _ _ _ _ _ _ _ _ _ _ _ _ _ _ _ _ _ _ _ _ _ _ _ _ _ _ _ _ _ _ _ _ _ _ _ _ _ _ _ _ _ _ _ _ _ _ _ _ _ _ _ _ _ _ _ _ _ _ _ _ _ _ _ _ _ _ _ _ _ _ _ _ _ _ _ _ _ _ _ _ _ _ _ _ _ _ _ _ _ _ _ _ _ _ _ _ _ _ _ _ _ _ _ KR) (roundW _ Bc ax cx _ _ _ _ _ _ _ _ _ _ _ _ _ _ _ _ _ _ (HKS.out w (Below.refl _ _)) hB HC.out.2.2 hxl HC.out.1 HTK.out a0 am0 c0 cm0 rfl rfl ?_ ?_ ?_)
  · intro a' w' hR
    exact retPost hR
  · intro a' w' hI hge
    refine WI.elim hI ?_
    intro u3 u12 u13 u14 u15 u16 u17 u18 u19 u20 u21 u22 u23 u24 u25 u34 u35 u36 u37 u38 u39 u40 u41 u42 u43 u44 u45 u46 u47 u48 u49 u50 u51 u52 u53 u54 u55 u56 u57 u58 u59 u60 u61 u62 u63 u64 u65 u66 u67 u68 u69 u70 u71 u72 u73 u74 u75 u76 u77 u78 u79 u80 u81 u82 u83 u84 u85 u86 u87 u88 u89 u90 u91 u92 u93 u94 u95 u96 u97 u98 u99 u100 u101 u102 u103 u104 u105 u106 u107 u108 u109 u110 u111 u112 u113 u114 u115 u116 u117 u118 u119 u120 u121 u122 u123 u124 u125 u126 u127 u128 u129 u130 u131 u132 u133 u134 u135 u136 u137 u138 u139 u140 u141 u142 u143 u144 u145 u146 u147 u148 u149 u150 u151 u152 u153 u154 u155 u156 u157 u158 u159 u160 u161 u162 u163 u164 u165 u166 u167 u168 u169 u170 u171 u172 u173 u174 u175 u176 u177 u178 u179 u180 u181 u182 u183 u184 u185 u186 u187 u188 u189 u190 u191 u192 u193 u194 u195 u196 u197 u198 u199 u200 u201 u202 u203 u204 u205 u206 u207 u208 u209 u210 u211 u212 u213 u214 u215 u216 u217 u218 u219 u220 u221 u222 u223 u224 u225 u226 u227 u228 u229 u230 u231 u232 u233 u234 u235 u236 u237 u238 u239 u240 u241 u242 u243 u244 u245 u246 u247 u248 u249 u250 u251 u252 u253 u254 u255 u256 u257 u258 u259 u260 u261 u262 u263 u264 u265 u266 u267 u268 u269 u270 u271 u272 u273 u274 u275 u276 u277 u278 u279 u280 u281 u282 u283 u284 u285 u286 u287 u288 hrel ha
    subst ha
    obtain ⟨s, ms, gr, cr, gc, cc, gm, cm, ak, mk, ck, H⟩ := hrel
    obtain rfl := H.rg
    obtain rfl := H.kg
    obtain rfl := H.p
    have hge' : ¬ s.pc < n := by simpa [intOf] using hge
    have y0 := H.st.S.cell 0; have y1 := H.st.S.cell 1; have y2 := H.st.S.cell 2
    have r0 := H.st.R.cell 0; have r1 := H.st.R.cell 1; have r2 := H.st.R.cell 2; have r3 := H.st.R.cell 3; have r4 := H.st.R.cell 4
    have z0 := H.st.R.froz 0; have z1 := H.st.R.froz 1; have z2 := H.st.R.froz 2; have z3 := H.st.R.froz 3; have z4 := H.st.R.froz 4
    have HH := (show Hid _ from H)
    clear H hI hge KR S0 K0
    go_wp2_with fail
    refine retPost ⟨rfl, rfl, .slice (some ⟨gr, 0, none⟩) 4 cr, .slice (some ⟨gc, 0, none⟩) 8 cc, .slice (some ⟨gm, 0, none⟩) 8 cm, ⟨1, s.r, s.t⟩, ?_⟩
    exact exit_told HH.out.st 1 (HH.out.led _ (Ends.over (by rw [HC.out.2.2]; omega))) (.inl rfl) HH.out.ok.r HH.out.ok.t
  · intro a wr _ hlt h11
    exact absurd (hasFork_yes hlt h11) (by rw [HC.out.2.1]; simp)
end Ops
end Go.Proofs.Ytajbmokidcdfnaa
/- The fork of the specification's l7Walk: where its own row of answers lies beside all else. -/
set_option linter.unusedVariables false
set_option linter.unusedSimpArgs false
namespace Go.Proofs.Ytajbmokidcdfnaa
open Go.RowKit
namespace Ops
open Bas Flat

section
variable {w W W' : World} {pR pS pT : Nat} {vr vc vm vk vc0 vm0 : Value} {ms : List M5} {s : Cf} {t0 : Th}
/-- a store into a row of numbers that is none of those that the walk has -/
theorem WSt.far (h : WSt w W pR pS pT vr vc vm vk vc0 vm0 ms s t0) {g : Nat} (hr : ∀ k, vr.ownBlock = some k → k ≠ g) (hc : ∀ k, vc.ownBlock = some k → k ≠ g) (hm : ∀ k, vm.ownBlock = some k → k ≠ g)
    (hi : ∀ q ∈ ((vc0, t0.c) :: (vm0, t0.m) :: marksIm ms s.k.reverse), ∀ k, q.1.ownBlock = some k → k ≠ g) {cur : Array Value} (hT : W.heap[g]? = some (.cells cur 3 (0, 0))) (hB : w.heap.size ≤ g) (i : Nat) (u : Value) :
    WSt w (W.setCell ⟨g, i, none⟩ u) pR pS pT vr vc vm vk vc0 vm0 ms s t0 := by
  have hne : ∀ {p : Nat} {cs : Array Value} {t : TypeId}, Blk W p cs t → 3 ≠ t → p ≠ g := fun hb ht e => by
    unfold Blk at hb
    rw [e, hT] at hb
    simp only [Option.some.injEq, Obj.cells.injEq] at hb
    exact ht hb.2.1
  have hk : ∀ k, k ≠ g → (W.setCell ⟨g, i, none⟩ u).heap[k]? = W.heap[k]? := fun k hk => Below.heap_setCell W ⟨g, i, none⟩ _ k hk
  exact
  { R := h.R.other (hne h.R (by decide)) i _, S := h.S.other (hne h.S (by decide)) i _, T := h.T.other (hne h.T (by decide)) i _
    r := h.r.keep fun k e => hk k (hr k e)
    c := h.c.keep fun k e => hk k (hc k e)
    m := h.m.keep fun k e => hk k (hm k e)
    d := h.d
    d0 := h.d0
    im := { o := fun q hq => (h.im.o q hq).keep fun k e => hk k (hi q hq k e), d := h.im.d }
    k := h.k.keep fun k e => hk k (fun e' => by
      obtain ⟨cur', hc'⟩ := own_blk h.k k e
      rw [e', hT] at hc'
      simp only [Option.some.injEq, Obj.cells.injEq] at hc'
      exact absurd hc'.2.1 (by decide))
    is := h.is
    b := h.b.setCell (by show w.heap.size ≤ g; exact hB) _
    p := h.p }

/-- and the row of the kids' answers -/
structure FkSt (w W : World) (pR pS pT : Nat) (vr vc vm vk vc0 vm0 : Value) (ms : List M5) (s : Cf) (t0 : Th) (gb nk : Nat) (res : List Int) : Prop where
  st : WSt w W pR pS pT vr vc vm vk vc0 vm0 ms s t0
  o : Ints.Owns w.heap.size W (.slice (some ⟨gb, 0, none⟩) nk nk) res
  l : res.length = nk
  nr : ∀ k, vr.ownBlock = some k → k ≠ gb
  nc : ∀ k, vc.ownBlock = some k → k ≠ gb
  nm : ∀ k, vm.ownBlock = some k → k ≠ gb
  ni : ∀ q ∈ ((vc0, t0.c) :: (vm0, t0.m) :: marksIm ms s.k.reverse), ∀ k, q.1.ownBlock = some k → k ≠ gb
variable {gb nk : Nat} {res : List Int}
theorem FkSt.on (h : FkSt w W pR pS pT vr vc vm vk vc0 vm0 ms s t0 gb nk res) (hb : Below W.heap.size W W') : FkSt w W' pR pS pT vr vc vm vk vc0 vm0 ms s t0 gb nk res :=
  { st := h.st.on hb, o := h.o.on hb (Nat.le_refl _), l := h.l, nr := h.nr, nc := h.nc, nm := h.nm, ni := h.ni }
theorem FkSt.drew (h : FkSt w W pR pS pT vr vc vm vk vc0 vm0 ms s t0 gb nk res) : FkSt w W.drew pR pS pT vr vc vm vk vc0 vm0 ms s t0 gb nk res := h.on ⟨rfl, rfl, rfl, Nat.le_refl _, fun _ _ => rfl⟩
theorem FkSt.at (h : FkSt w W pR pS pT vr vc vm vk vc0 vm0 ms s t0 gb nk res) : w.heap.size ≤ gb ∧ gb < W.heap.size := h.o.at gb rfl
theorem FkSt.blk (h : FkSt w W pR pS pT vr vc vm vk vc0 vm0 ms s t0 gb nk res) : ∃ cur, W.heap[gb]? = some (.cells cur 3 (0, 0)) := own_blk (Ints.owns_iff.2 h.o) gb rfl
theorem own_setI {B g n cap : Nat} {zs : List Int} (h : Ints.Owns B W (.slice (some ⟨g, 0, none⟩) n cap) zs) (i : Nat) (x : Int) : Ints.Owns B (W.setCell ⟨g, i, none⟩ (.int .i64 x)) (.slice (some ⟨g, 0, none⟩) n cap) (zs.set i x) := by
  have hl : zs.length = n := by obtain ⟨a', c', e⟩ := h.form; injection e with _ e _; exact e.symm
  have h1 := h
  unfold Ints.Owns at h1 ⊢
  rw [hl] at h1
  have h2 := Ints.owns_set h1 i x
  show World.ownsRow _ _ _ _ _ (zs.set i x).length (Ints.iv (zs.set i x))
  rw [List.length_set, hl]
  exact h2
theorem FkSt.put (h : FkSt w W pR pS pT vr vc vm vk vc0 vm0 ms s t0 gb nk res) (i : Nat) (x : Int) : FkSt w (W.setCell ⟨gb, i, none⟩ (.int .i64 x)) pR pS pT vr vc vm vk vc0 vm0 ms s t0 gb nk (res.set i x) := by
  obtain ⟨cur, hT⟩ := h.blk
  exact { st := h.st.far h.nr h.nc h.nm h.ni hT h.at.1 i _, o := own_setI h.o i x, l := by rw [List.length_set]; exact h.l, nr := h.nr, nc := h.nc, nm := h.nm, ni := h.ni }
theorem FkSt.newT (h : FkSt w W pR pS pT vr vc vm vk vc0 vm0 ms s t0 gb nk res) (hb : Below W.heap.size W W') {vc' vm' : Value} {t' : Th} (ho : OwnT W.heap.size W' vc' vm' t') :
    FkSt w (((W'.setCell ⟨pS, 0, none⟩ vc').setCell ⟨pS, 1, none⟩ vm').setCell ⟨pS, 2, none⟩ (.int .i64 t'.n)) pR pS pT vr vc' vm' vk vc0 vm0 ms { s with t := t' } t0 gb nk res := by
  have hg := h.at.2
  have h' := h.on hb
  have hk : ∀ k, k ≠ pS → (((W'.setCell ⟨pS, 0, none⟩ vc').setCell ⟨pS, 1, none⟩ vm').setCell ⟨pS, 2, none⟩ (.int .i64 t'.n)).heap[k]? = W'.heap[k]? := fun k hk => by
    rw [Below.heap_setCell _ ⟨pS, 2, none⟩ _ k hk, Below.heap_setCell _ ⟨pS, 1, none⟩ _ k hk, Below.heap_setCell _ ⟨pS, 0, none⟩ _ k hk]
  exact
  { st := h.st.newT hb ho, o := h'.o.keep fun k e => hk k (int_off h'.o h'.st.S (by decide) k e), l := h.l, nr := h.nr
    nc := fun k e => by have := (ho.c.at k e).1; omega
    nm := fun k e => by have := (ho.m.at k e).1; omega
    ni := h.ni }
theorem FkSt.setR {g n cap : Nat} (h : FkSt w W pR pS pT (.slice (some ⟨g, 0, none⟩) n cap) vc vm vk vc0 vm0 ms s t0 gb nk res) (i : Nat) (x : Int) : FkSt w (W.setCell ⟨g, i, none⟩ (.int .i64 x)) pR pS pT (.slice (some ⟨g, 0, none⟩) n cap) vc vm vk vc0 vm0 ms { s with r := s.r.set i x } t0 gb nk res :=
  { st := h.st.setR i x, o := h.o.keep fun k e => Below.heap_setCell W ⟨g, i, none⟩ _ k (fun e' => by
      have : k = gb := by cases e; rfl
      exact h.nr g rfl (by show g = gb; exact e'.symm.trans this)), l := h.l, nr := h.nr, nc := h.nc, nm := h.nm, ni := h.ni }
/-- a row that was just made -/
theorem FkSt.new (h : WSt w W pR pS pT vr vc vm vk vc0 vm0 ms s t0) (hb : Below W.heap.size W W') (ho : Ints.Owns W.heap.size W' (.slice (some ⟨gb, 0, none⟩) nk nk) res) (hl : res.length = nk) : FkSt w W' pR pS pT vr vc vm vk vc0 vm0 ms s t0 gb nk res := by
  have hg := (ho.at gb rfl).1
  exact
  { st := h.on hb, o := ho.mono h.b.size, l := hl
    nr := fun k e => by have := (h.r.at k e).2; omega
    nc := fun k e => by have := (h.c.at k e).2; omega
    nm := fun k e => by have := (h.m.at k e).2; omega
    ni := fun q hq k e => by have := ((h.im.o q hq).at k e).2; omega }
end
theorem kidsGo_cons' (kss : List (List O4)) (r : List Int) (i : Int) (l res : List Int) (t : Th) : kidsGo kss r (i :: l) res t = kidsGo kss r l (if (run (kss.getD i.toNat []) noF r t).out = 1 then wr res i (rd (run (kss.getD i.toNat []) noF r t).r 0) else res) (run (kss.getD i.toNat []) noF r t).t := rfl
end Ops
end Go.Proofs.Ytajbmokidcdfnaa
