/- Several texts of one proof, in build order: WalkF, OrdSpec, ShapeSpec3, ShapeSpec4, SerSpec. -/
import Derived.Deep.QuietTactic
import Derived.BigQuiet
import Derived.Test.YtajbmokidcdfnaaSB3
import Derived.Test.YtajbmokidcdfnaaSB8
import Derived.Test.YtajbmokidcdfnaaSB9
import Derived.Test.YtajbmokidcdfnaaSB10
import Derived.Test.YtajbmokidcdfnaaSB17
import Derived.Test.YtajbmokidcdfnaaSB18
/- What the specification's l7Walk answers of code with forks. -/
set_option linter.unusedVariables false
set_option linter.unusedSimpArgs false
namespace Go.Proofs.Ytajbmokidcdfnaa
open Go.RowKit
namespace Ops
open Bas Flat

set_option maxRecDepth 1000000 in
set_option maxHeartbeats 16000000 in
theorem walkF (vx : Value) (xs : List O4) (Bc : Nat) (w : World) (hv : Sees4 Bc w vx xs) (hB : Bc ≤ w.heap.size) (hc : codeOk xs = true) (aKk aOo : Option Addr) (nkk kKk mm kOo : Nat) (kss : List (List O4)) (ord : List Int) (hKs : SeesK Bc w (.slice aKk nkk kKk) kss) (hOs : Ints.Sees Bc w (.slice aOo mm kOo) ord) (hnkk : kss.length = nkk) (hnk3 : nkk ≤ 3) (hmm : ord.length = mm) (hnm : ∀ x ∈ ord, 0 ≤ x ∧ x < (nkk : Int)) (hks : ∀ ks ∈ kss, kidOk ks = true)
    (vr0 : Value) (r : List Int) (hr : Ints.Sees Bc w vr0 r) (hrk : regsOk r = true) (vc00 vm00 : Value) (t : Th) (ht : SeeT Bc w vc00 vm00 t) (htk : thOk t = true) :
    Calls Try.prog 95 #[vx, .slice aKk nkk kKk, .slice aOo mm kOo, vr0, .agg #[vc00, vm00, .int .i64 t.n]] w fun e w' => ToldRun w.heap.size xs (forkF kss ord) r t e w' ∧ Below w.heap.size w w' := by
  obtain ⟨F, hFe⟩ : ∃ F, forkF kss ord = F := ⟨_, rfl⟩
  rw [hFe]
  have HFK : Hid (F = forkF kss ord ∧ kss.length = nkk ∧ nkk ≤ 3 ∧ ord.length = mm ∧ (∀ x ∈ ord, 0 ≤ x ∧ x < (nkk : Int)) ∧ (∀ ks ∈ kss, kidOk ks = true)) := ⟨hFe.symm, hnkk, hnk3, hmm, hnm, hks⟩
  have HKO : Hid (SeesK Bc w (.slice aKk nkk kKk) kss ∧ Ints.Sees Bc w (.slice aOo mm kOo) ord) := ⟨hKs, hOs⟩
  clear hFe hnkk hnk3 hmm hnm hks hKs hOs
  obtain ⟨ax, cx, rfl⟩ := hv.form
  obtain ⟨ar, cr, rfl⟩ := hr.form
  obtain ⟨ac, cc, rfl⟩ := ht.c.form
  obtain ⟨am, cm, rfl⟩ := ht.m.form
  have hrl := (regsOk_out hrk).1
  obtain ⟨tk1, tk2, tk3⟩ := th_parts htk
  have hcl := (cellsOk_out tk1).1
  have hml := (mapOk_out tk2).1
  have hxl := (code_four hc).1
  obtain ⟨n, hn⟩ : ∃ n, xs.length = n := ⟨_, rfl⟩
  rw [hrl] at hr ⊢
  rw [hcl] at ht ⊢
  rw [hml] at ht ⊢
  rw [hn] at hv hxl ⊢
  obtain ⟨tn, htn⟩ : ∃ x, t.n = x := ⟨_, rfl⟩
  have HTN : Hid (t.n = tn) := htn
  rw [htn]
  clear htn
  have b0 := alloc_below w (.cells #[.slice ac 8 cc, .slice am 8 cm, .int .i64 tn] 49)
  have S0 := Blk.new w #[.slice ac 8 cc, .slice am 8 cm, .int .i64 tn] 49
  obtain ⟨w0, hw0⟩ : ∃ W, w.alloc (.cells #[.slice ac 8 cc, .slice am 8 cm, .int .i64 tn] 49) = W := ⟨_, rfl⟩
  have HW0 := (show Hid _ from hw0)
  have hz0 : w0.heap.size = w.heap.size + 1 := by rw [← hw0]; simp
  rw [hw0] at b0 S0
  clear hw0
  have b1 := alloc_below w0 (.cells #[.int .i64 0, .slice none 0 0, .slice none 0 0, .slice none 0 0, .int .i64 0] 57)
  have R1 := Blk.new w0 #[.int .i64 0, .slice none 0 0, .slice none 0 0, .slice none 0 0, .int .i64 0] 57
  have S1 := S0.on b1 S0.lt
  have bb1 := b0.trans (b1.mono b0.size)
  obtain ⟨w1, hw1⟩ : ∃ W, w0.alloc (.cells #[.int .i64 0, .slice none 0 0, .slice none 0 0, .slice none 0 0, .int .i64 0] 57) = W := ⟨_, rfl⟩
  have HW1 := (show Hid _ from hw1)
  have hz1 : w1.heap.size = w.heap.size + 2 := by rw [← hw1]; simp [hz0]
  rw [hw1] at R1 S1 bb1
  rw [hz0] at R1
  clear hw1 b0 S0 b1
  have c1 := copyC (.slice ac 8 cc) (.slice am 8 cm) t Bc w1 (ht.on bb1 hB) (by omega) (by omega) (by omega)
  rw [HTN.out] at c1
  obtain ⟨pS, hpS⟩ : ∃ p, w.heap.size = p := ⟨_, rfl⟩
  have HPS := (show Hid _ from hpS)
  obtain ⟨pR, hpR⟩ : ∃ p, w.heap.size + 1 = p := ⟨_, rfl⟩
  have HPR := (show Hid _ from hpR)
  have hS1 := S1
  rw [hpS] at hS1
  rw [hpR] at R1
  have hpRS : pS < pR := by omega
  have hpR1 : pR < w1.heap.size := by omega
  clear hpS hpR hz0 hz1
  have x0 := S1.cell 0; have x1 := S1.cell 1; have x2 := S1.cell 2
  go_enter Try.func95, Try.ntmps95
  go_wp2_with fail
  rw [HW0.out, HW1.out, HPR.out, HPS.out]
  refine c1.mono ?_
  rintro e w2 ⟨vc0, vm0, rfl, T2, b2⟩
  clear c1 x0 x1 x2 HW0 HW1
  obtain ⟨a0, c0, rfl⟩ := T2.c.form
  obtain ⟨am0, cm0, rfl⟩ := T2.m.form
  rw [hcl, hml] at T2 ⊢
  have R2 := R1.on b2 hpR1
  have S2 := hS1.on b2 hS1.lt
  have bb2 := bb1.trans (b2.mono bb1.size)
  clear R1 S1 hS1
  have bA := alloc_below w2 (.cells #[.slice a0 8 c0, .slice am0 8 cm0, .int .i64 tn] 49)
  have TA := Blk.new w2 #[.slice a0 8 c0, .slice am0 8 cm0, .int .i64 tn] 49
  have RA := R2.on bA R2.lt
  have SA := S2.on bA S2.lt
  have T3 := T2.on bA
  have bb3 := bb2.trans (bA.mono bb2.size)
  have h2A : w2.heap.size < (w2.alloc (.cells #[.slice a0 8 c0, .slice am0 8 cm0, .int .i64 tn] 49)).heap.size := TA.lt
  have h12 := b2.size
  have hrA := hr.on bb3 hB
  obtain ⟨w3, hw3⟩ : ∃ W, w2.alloc (.cells #[.slice a0 8 c0, .slice am0 8 cm0, .int .i64 tn] 49) = W := ⟨_, rfl⟩
  have HW3 := (show Hid _ from hw3)
  rw [hw3] at TA RA SA T3 bb3 h2A hrA
  clear hw3 bA
  obtain ⟨pT, hpT⟩ : ∃ p, w2.heap.size = p := ⟨_, rfl⟩
  have HPT := (show Hid _ from hpT)
  rw [hpT] at TA h2A h12
  clear hpT R2 S2 T2 bb2 b2
  have L3 := Ints.owns_lit w3 (B := w3.heap.size) (Nat.le_refl _)
  have bL := alloc_below w3 (.cells #[] 3)
  have hszw : w.heap.size ≤ w3.heap.size := bb3.size
  obtain ⟨v4, w4, hr4, O4, G4, N4⟩ := Ints.appJ (.slice (some ⟨w3.heap.size, 0, none⟩) 0 0) (.slice ar 4 cr) 23 [] r Bc w3.heap.size _ L3 (by simp) (hrA.on bL (by omega)) (by simp; omega)
  rw [List.nil_append] at O4
  have b4 : Below w3.heap.size w3 w4 := bL.grown G4 (by simp) (fun k hk => by cases hk; exact Nat.le_refl _)
  obtain ⟨a4, c4, rfl⟩ := O4.form
  rw [hrl] at O4 hr4
  have RB := RA.on b4 RA.lt
  have SB := SA.on b4 SA.lt
  have TB := TA.on b4 TA.lt
  have T4 := T3.on b4
  have bb4 := bb3.trans (b4.mono bb3.size)
  have y0 := SB.cell 0; have y1 := SB.cell 1; have y2 := SB.cell 2
  have hz3 : (w2.alloc (.cells #[.slice a0 8 c0, .slice am0 8 cm0, .int .i64 tn] 49)).heap.size = w3.heap.size := by rw [HW3.out]
  have hr4 : (Builtin.append_ #[23, 23] 23 #[.slice (some ⟨w3.heap.size, 0, none⟩) 0 0, .slice ar 4 cr]).run Try.prog ((w2.alloc (.cells #[.slice a0 8 c0, .slice am0 8 cm0, .int .i64 tn] 49)).alloc (.cells #[] 3)) = .ok (.slice a4 4 c4) w4 := by rw [HW3.out]; exact hr4
  go_wp2_with (at_builtin; refine wpList_app _ rfl _ _ 23 rfl _ _ _ _ rfl rfl hr4 ?_)
  clear y0 y1 y2 hr4 HW3 hz3
  have c5 := copyC (.slice ac 8 cc) (.slice am 8 cm) t Bc w4 (ht.on bb4 hB) (by have := bb4.size; omega) (by omega) (by omega)
  rw [HTN.out] at c5
  refine c5.mono ?_
  rintro e w5 ⟨vc5, vm5, rfl, T5, b5⟩
  clear c5
  rw [HPT.out]
  clear HPT
  obtain ⟨a5, c5, rfl⟩ := T5.c.form
  obtain ⟨am5, cm5, rfl⟩ := T5.m.form
  rw [hcl, hml] at T5 ⊢
  have h34 := b4.size
  have h45 := b5.size
  have hw1z := bb1.size
  have bb5 := bb4.trans (b5.mono bb4.size)
  have SS : WSt w (((w5.setCell ⟨pS, 0, none⟩ (.slice a5 8 c5)).setCell ⟨pS, 1, none⟩ (.slice am5 8 cm5)).setCell ⟨pS, 2, none⟩ (.int .i64 tn)) pR pS pT (.slice a4 4 c4) (.slice a5 8 c5) (.slice am5 8 cm5) (.slice none 0 0) (.slice a0 8 c0) (.slice am0 8 cm0) [] ⟨0, r, t, []⟩ t := by
    have key := WSt.start (w := w) (W := w5) (pR := pR) (pS := pS) (pT := pT) (vr := .slice a4 4 c4) (vc := .slice a5 8 c5) (vm := .slice am5 8 cm5) (vc0 := .slice a0 8 c0) (vm0 := .slice am0 8 cm0) (pc := 0) (r := r) (t := t) (RB.on b5 RB.lt) (SB.on b5 SB.lt) (by rw [HTN.out]; exact TB.on b5 TB.lt)
      ((O4.on b5 (Nat.le_refl _)).mono hszw) ((T4.on b5).mono hw1z) (T5.mono bb4.size)
      ⟨fun k e e' => by have := (O4.at k e).2; have := (T5.c.at k e').1; omega, fun k e e' => by have := (O4.at k e).2; have := (T5.m.at k e').1; omega⟩
      ⟨fun k e e' => by have := (O4.at k e).1; have := (T3.c.at k e').2; omega, fun k e e' => by have := (O4.at k e).1; have := (T3.m.at k e').2; omega,
       fun k e e' => by have := (T5.c.at k e).1; have := (T3.c.at k e').2; omega, fun k e e' => by have := (T5.c.at k e).1; have := (T3.m.at k e').2; omega,
       fun k e e' => by have := (T5.m.at k e).1; have := (T3.c.at k e').2; omega, fun k e e' => by have := (T5.m.at k e).1; have := (T3.m.at k e').2; omega⟩ bb5 (by have := HPS.out; have := HPR.out; omega)
    rw [HTN.out] at key
    exact key
  have s0 := (SB.on b5 SB.lt).cell 0; have s1 := (SB.on b5 SB.lt).cell 1; have s2 := (SB.on b5 SB.lt).cell 2
  have f0 := (SB.on b5 SB.lt).froz 0; have f1 := (SB.on b5 SB.lt).froz 1; have f2 := (SB.on b5 SB.lt).froz 2
  have S0 := SS.marks0
  obtain ⟨g4, rfl⟩ := own_someW O4 (by omega)
  obtain ⟨g5, rfl⟩ := own_someW T5.c (by omega)
  obtain ⟨gm5, rfl⟩ := own_someW T5.m (by omega)
  have HTK := (show Hid _ from htk)
  clear SS RA SA TA RB SB TB T3 T4 T5 O4 L3 bL G4 N4 hrA
  go_wp2
  have K0 : CfOk xs ⟨0, r, t, []⟩ := CfOk.start hrk htk
  have HKS : Hid (∀ W, Below w.heap.size w W → Sees4 Bc W (.slice ax n cx) xs) := fun W hb => hv.on hb hB
  have HC : Hid (codeOk xs = true ∧ True ∧ xs.length = n) := ⟨hc, trivial, hn⟩
  clear hv hr ht s0 s1 s2 f0 f1 f2 hc hn hrl hcl hml tk1 tk2 tk3 hrk htk h12 h2A h34 h45 hw1z b4 b5 bb1 bb3 bb4 bb5 hpR1 hpRS hszw
  have hz5 : (((w5.setCell ⟨pS, 0, none⟩ (.slice (some ⟨g5, 0, none⟩) 8 c5)).setCell ⟨pS, 1, none⟩ (.slice (some ⟨gm5, 0, none⟩) 8 cm5)).setCell ⟨pS, 2, none⟩ (.int .i64 tn)).heap.size = w5.heap.size := by simp
  rw [hz5] at S0
  clear hz5
  obtain ⟨W0, hW0⟩ : ∃ W, (((w5.setCell ⟨pS, 0, none⟩ (.slice (some ⟨g5, 0, none⟩) 8 c5)).setCell ⟨pS, 1, none⟩ (.slice (some ⟨gm5, 0, none⟩) 8 cm5)).setCell ⟨pS, 2, none⟩ (.int .i64 tn)).alloc (.cells #[] 154) = W := ⟨_, rfl⟩
  rw [hW0] at S0 ⊢
  clear hW0
  have KR : RelE xs n F r t w pR pS pT (.slice a0 8 c0) (.slice am0 8 cm0) (.slice (some ⟨g4, 0, none⟩) 4 c4) (.slice (some ⟨w5.heap.size, 0, none⟩) 0 0) (.int .i64 0) W0 := ⟨⟨0, r, t, []⟩, [], g4, c4, g5, c5, gm5, cm5, _, 0, 0, { rg := rfl, kg := rfl, p := rfl, l := rfl, ok := K0, led := Leads.refl _, st := S0 }⟩
  refine wp_loop (c := (bodyOf Try.f95.body)) _ (WMu n) (startWI _ _ _ _ _ _ _ _ _ _ _ _ _ _ _ _ _ _ _ _ _ _ _ _ _ _ _ _ _ _ _ _ _ _ _ _ _ _ _ _ _ _ _ _ _ _ _ _ _ _ _ _ _ _ _ _ _ _ _ _ _ _ _ _ _ _ _ _ _ _ _ _ _ _ _ _ _ _ _ _ _ _ _ _ _ _ _ _ _ _ _ _ _ _ _ _ _ _ _ _ _ _ _ _ _ _ _ _ _ _ _ _ _ _ _ _ _ _ _ _ _ _ _ _ _ _ _ _ _ _ _ _ _ _ _ _ _ _ _ _ _ _ _ _ _ _ _ _ _ _ _ _ _ _ _ _ _ _ _ _ _ _ _ _ _ _ _ _ _ _ _ _ _ _ _ _ _ _ _ _ _ _ _ _ _ _ _ _ _ _ _ _ _ _ _ _ _ _ _ _ _ _ _ _ _ _ _ _ _ _ _ _ _ _ _ _ _ _ _ _ _ _ _ _ _ _ _ _ _ _ _ _ _ _ _ _ _ _ _ _ _ _ _ _ _ _ _ _ _ _ _ _ _ _ _ _ _ _ _ _ _ _ _ _ _ _ _ _ _ _ _ _ _ _ _ _ _ _ _ _ _ _ _ _ _ _ _ _ _ KR) (roundW _ Bc ax cx _ _ _ _ _ _ _ _ _ _ _ _ _ _ _ _ _ _ (HKS.out w (Below.refl _ _)) hB HC.out.2.2 hxl HC.out.1 HTK.out a0 am0 c0 cm0 rfl rfl ?_ ?_ ?_)
  · intro a' w' hR
    exact retPost hR
  · intro a' w' hI hge
    refine WI.elim hI ?_
    intro u3 u12 u13 u14 u15 u16 u17 u18 u19 u20 u21 u22 u23 u24 u25 u34 u35 u36 u37 u38 u39 u40 u41 u42 u43 u44 u45 u46 u47 u48 u49 u50 u51 u52 u53 u54 u55 u56 u57 u58 u59 u60 u61 u62 u63 u64 u65 u66 u67 u68 u69 u70 u71 u72 u73 u74 u75 u76 u77 u78 u79 u80 u81 u82 u83 u84 u85 u86 u87 u88 u89 u90 u91 u92 u93 u94 u95 u96 u97 u98 u99 u100 u101 u102 u103 u104 u105 u106 u107 u108 u109 u110 u111 u112 u113 u114 u115 u116 u117 u118 u119 u120 u121 u122 u123 u124 u125 u126 u127 u128 u129 u130 u131 u132 u133 u134 u135 u136 u137 u138 u139 u140 u141 u142 u143 u144 u145 u146 u147 u148 u149 u150 u151 u152 u153 u154 u155 u156 u157 u158 u159 u160 u161 u162 u163 u164 u165 u166 u167 u168 u169 u170 u171 u172 u173 u174 u175 u176 u177 u178 u179 u180 u181 u182 u183 u184 u185 u186 u187 u188 u189 u190 u191 u192 u193 u194 u195 u196 u197 u198 u199 u200 u201 u202 u203 u204 u205 u206 u207 u208 u209 u210 u211 u212 u213 u214 u215 u216 u217 u218 u219 u220 u221 u222 u223 u224 u225 u226 u227 u228 u229 u230 u231 u232 u233 u234 u235 u236 u237 u238 u239 u240 u241 u242 u243 u244 u245 u246 u247 u248 u249 u250 u251 u252 u253 u254 u255 u256 u257 u258 u259 u260 u261 u262 u263 u264 u265 u266 u267 u268 u269 u270 u271 u272 u273 u274 u275 u276 u277 u278 u279 u280 u281 u282 u283 u284 u285 u286 u287 u288 hrel ha
    subst ha
    obtain ⟨s, ms, gr, cr, gc, cc, gm, cm, ak, mk, ck, H⟩ := hrel
    obtain rfl := H.rg
    obtain rfl := H.kg
    obtain rfl := H.p
    have hge' : ¬ s.pc < n := by simpa [intOf] using hge
    have y0 := H.st.S.cell 0; have y1 := H.st.S.cell 1; have y2 := H.st.S.cell 2
    have r0 := H.st.R.cell 0; have r1 := H.st.R.cell 1; have r2 := H.st.R.cell 2; have r3 := H.st.R.cell 3; have r4 := H.st.R.cell 4
    have z0 := H.st.R.froz 0; have z1 := H.st.R.froz 1; have z2 := H.st.R.froz 2; have z3 := H.st.R.froz 3; have z4 := H.st.R.froz 4
    have HH := (show Hid _ from H)
    clear H hI hge KR S0 K0
    go_wp2_with fail
    refine retPost ⟨rfl, rfl, .slice (some ⟨gr, 0, none⟩) 4 cr, .slice (some ⟨gc, 0, none⟩) 8 cc, .slice (some ⟨gm, 0, none⟩) 8 cm, ⟨1, s.r, s.t⟩, ?_⟩
    exact exit_told HH.out.st 1 (HH.out.led _ (Ends.over (by rw [HC.out.2.2]; omega))) (.inl rfl) HH.out.ok.r HH.out.ok.t
  · intro a wr hI hlt h11
    refine WI.elim hI ?_
    intro u3 u12 u13 u14 u15 u16 u17 u18 u19 u20 u21 u22 u23 u24 u25 u34 u35 u36 u37 u38 u39 u40 u41 u42 u43 u44 u45 u46 u47 u48 u49 u50 u51 u52 u53 u54 u55 u56 u57 u58 u59 u60 u61 u62 u63 u64 u65 u66 u67 u68 u69 u70 u71 u72 u73 u74 u75 u76 u77 u78 u79 u80 u81 u82 u83 u84 u85 u86 u87 u88 u89 u90 u91 u92 u93 u94 u95 u96 u97 u98 u99 u100 u101 u102 u103 u104 u105 u106 u107 u108 u109 u110 u111 u112 u113 u114 u115 u116 u117 u118 u119 u120 u121 u122 u123 u124 u125 u126 u127 u128 u129 u130 u131 u132 u133 u134 u135 u136 u137 u138 u139 u140 u141 u142 u143 u144 u145 u146 u147 u148 u149 u150 u151 u152 u153 u154 u155 u156 u157 u158 u159 u160 u161 u162 u163 u164 u165 u166 u167 u168 u169 u170 u171 u172 u173 u174 u175 u176 u177 u178 u179 u180 u181 u182 u183 u184 u185 u186 u187 u188 u189 u190 u191 u192 u193 u194 u195 u196 u197 u198 u199 u200 u201 u202 u203 u204 u205 u206 u207 u208 u209 u210 u211 u212 u213 u214 u215 u216 u217 u218 u219 u220 u221 u222 u223 u224 u225 u226 u227 u228 u229 u230 u231 u232 u233 u234 u235 u236 u237 u238 u239 u240 u241 u242 u243 u244 u245 u246 u247 u248 u249 u250 u251 u252 u253 u254 u255 u256 u257 u258 u259 u260 u261 u262 u263 u264 u265 u266 u267 u268 u269 u270 u271 u272 u273 u274 u275 u276 u277 u278 u279 u280 u281 u282 u283 u284 u285 u286 u287 u288 hrel ha
    subst ha
    obtain ⟨s, ms, gr, cr, gc, cc, gm, cm, ak, mk, ck, H⟩ := hrel
    obtain rfl := H.rg
    obtain rfl := H.kg
    obtain rfl := H.p
    have hlt' : s.pc < xs.length := by simpa [intOf] using hlt
    have hk' : xs[s.pc].k = 11 := by simpa [intOf] using h11
    obtain ⟨f1, f2, f3, f4, f5, f6⟩ := HFK.out
    exact case11 _ Bc _ _ _ _ _ _ _ _ _ _ _ _ _ _ _ _ _ _ _ _ _ _ _ _ _ _ _ _ _ _ _ _ _ _ _ _ _ _ _ _ _ _ _ _ _ _ _ _ _ _ _ _ _ _ _ _ _ _ _ _ _ _ _ _ _ _ _ _ _ _ _ _ _ _ _ _ _ _ _ _ _ _ _ _ _ _ _ _ _ _ _ _ _ _ _ _ _ _ _ _ _ _ _ _ _ _ _ _ _ _ _ _ _ _ _ _ _ _ _ _ _ _ _ _ _ _ _ _ _ _ _ _ _ _ _ _ _ _ _ _ _ _ _ _ _ _ _ _ _ _ _ _ _ _ _ _ _ _ _ _ _ _ _ _ _ _ _ _ _ _ _ _ _ _ _ _ _ _ _ _ _ _ _ _ _ _ _ _ _ _ _ _ _ _ _ _ _ _ _ _ _ _ _ _ _ _ _ _ _ _ _ _ _ _ _ _ _ _ _ _ _ _ _ _ _ _ _ _ _ _ _ _ _ _ _ _ _ _ _ _ _ _ _ _ _ _ _ _ _ _ _ _ _ _ _ _ _ _ _ _ _ _ _ _ _ _ _ _ _ _ _ _ _ _ _ _ _ _ _ _ _ _ _ _ _ _ _ (HKS.out _ H.st.b) HC.out.2.2 hxl HC.out.1 hlt' (Nat.le_trans hB H.st.b.size) H hk' aKk aOo nkk kKk mm kOo kss ord rfl rfl f1 hB (HKO.out.1.on H.st.b hB) (HKO.out.2.on H.st.b hB) f2 f3 f4 f5 f6 (fun vx ys B W vr0 r0 vc0 vm0 t0 h1 h2 h3 h4 h5 h6 h7 h8 => walkNo vx ys B W h1 h2 h3 h4 vr0 r0 h5 h6 vc0 vm0 t0 h7 h8)
end Ops
end Go.Proofs.Ytajbmokidcdfnaa
/- What the specification's l7Order answers. -/
set_option linter.unusedVariables false
set_option linter.unusedSimpArgs false
namespace Go.Proofs.Ytajbmokidcdfnaa
open Go.RowKit
namespace Ops
open Bas

/-- who was named so far -/
def seenV (zs : List Int) : Array Value := #[.bool (decide ((0 : Int) ∈ zs)), .bool (decide ((1 : Int) ∈ zs)), .bool (decide ((2 : Int) ∈ zs))]
theorem seen_at (zs : List Int) {i : Nat} (h : i < 3) : (seenV zs)[i]? = some (.bool (decide ((i : Int) ∈ zs))) := by
  rcases (show i = 0 ∨ i = 1 ∨ i = 2 by omega) with rfl | rfl | rfl <;> rfl
theorem seen_set (zs : List Int) {i : Nat} (h : i < 3) : (seenV zs).setIfInBounds i (.bool true) = seenV (zs ++ [(i : Int)]) := by
  rcases (show i = 0 ∨ i = 1 ∨ i = 2 by omega) with rfl | rfl | rfl <;> simp [seenV]
theorem info_bool : (Try.prog.info? 4).map (fun i => (i.zero, i.size, i.bytes)) = some (some (.bool false), 1, 1) := by kernel_rfl
set_option maxRecDepth 100000 in
/-- make([]bool, 3) -/
theorem make3 (w : World) : ∃ w1, (Instr.makeSlice 151 (.int .i64 3) (.int .i64 3)).run Try.prog w = .ok (.slice (some ⟨w.heap.size, 0, none⟩) 3 3) w1 ∧ Blk w1 w.heap.size (seenV []) 4 ∧ Below w.heap.size w w1 := by
  obtain ⟨i, hi, hz, hs, hb⟩ := info_parts info_bool
  obtain ⟨w1, h1, h2, h3⟩ := run_make_full (P := Try.prog) w w.heap.size 151 4 i _ 1 Try.underlying151 hi hz hs .i64 .i64 3 (by rw [hb]; omega) (by unfold maxLen; omega) (Nat.le_refl _)
  refine ⟨w1, h1, ?_, (Below.refl _ _).grown h3 (Nat.le_refl _) (fun k hk => by cases hk)⟩
  rcases h2.2 with ⟨e, -⟩ | ⟨g, cap, cur, e, -, hg, -, -, hsz, htk⟩
  · simp at e
  · simp only [Value.slice.injEq, Option.some.injEq, Addr.mk.injEq, and_true, true_and] at e
    obtain ⟨rfl, rfl⟩ := e
    have hc : cur.toList = (seenV []).toList := by
      rw [List.take_of_length_le (by rw [Array.length_toList]; omega)] at htk
      rw [htk, show (Value.bool false).cells = #[.bool false] from rfl, Nat.mul_one, toList_madeCells_one]
      simp [seenV, List.replicate]
    have hc2 : cur = seenV [] := by rw [← Array.toArray_toList (xs := cur), hc]
    rw [hc2] at hg
    exact hg
theorem ob_eq' {p k n c : Nat} (h : (Value.slice (some ⟨p, 0, none⟩) n c).ownBlock = some k) : k = p := by cases h; rfl
theorem ret_two {v : Value} {a b : Bool} (h : a = b) : Ending.returned (.tuple #[v, .bool a]) = .returned (.tuple #[v, .bool b]) := by rw [h]
set_option maxRecDepth 100000 in
set_option maxHeartbeats 6400000 in
theorem l7OrderC (v : Value) (zs : List Int) (n : Nat) (B : Nat) (w : World) (hv : Ints.Sees B w v zs) (hB : B ≤ w.heap.size) (hlen : zs.length ≤ 1048576) (hn : n ≤ 3) :
    Calls Try.prog 94 #[v, .int .i64 (n : Int)] w fun e w' => ∃ v' ys, e = .returned (.tuple #[v', .bool (ordOk zs n)]) ∧ Ints.Owns w.heap.size w' v' ys ∧ (ordOk zs n = true → ys = fullOrder zs n) ∧ Below w.heap.size w w' := by
  have hv0 := hv
  obtain ⟨a, cap, rfl, h1, h2, h3⟩ := hv
  obtain ⟨m, hm⟩ : ∃ m, zs.length = m := ⟨_, rfl⟩
  have hmi : (m : Int) ≤ 9223372036854775807 := by unfold maxLen at h2; omega
  have HM := (show Hid _ from hm)
  rw [hm] at hv0 ⊢
  obtain ⟨g, hg⟩ : ∃ g, w.heap.size = g := ⟨_, rfl⟩
  have u0 := Ints.owns_lit w (B := w.heap.size) (Nat.le_refl _)
  have a0 := alloc_below w (.cells #[] 3)
  obtain ⟨w0, hw0⟩ : ∃ W, w.alloc (.cells #[] 3) = W := ⟨_, rfl⟩
  have z0 : w0.heap.size = g + 1 := by rw [← hw0, ← hg]; simp
  rw [hw0] at u0 a0
  obtain ⟨w1, hmk, S1, b1⟩ := make3 w0
  obtain ⟨gs, hgs⟩ : ∃ q, w0.heap.size = q := ⟨_, rfl⟩
  rw [hgs] at hmk S1 b1
  have hgg : g < gs := by omega
  have u1 := u0.on b1 (by omega)
  have bb1 := a0.trans (b1.mono (by omega))
  rw [hg] at u0 u1 a0 bb1 hB ⊢
  clear z0 h1 h2 hm
  go_enter Try.func94, Try.ntmps94
  go_wp2
  go_loopw [6, 8] (fun ov iv wr => ∃ (k cp : Nat) (ao : Option Addr), ov = .slice ao k cp ∧ iv = .int .i64 (k : Int) ∧ k ≤ m ∧ (zs.take k).Nodup ∧ (∀ j (h : j < zs.length), j < k → 0 ≤ zs[j] ∧ zs[j] < (n : Int)) ∧ Blk wr gs (seenV (zs.take k)) 4 ∧ Ints.Owns g wr (.slice ao k cp) (zs.take k) ∧ (∀ q, (Value.slice ao k cp).ownBlock = some q → q ≠ gs) ∧ Below g w wr) (fun _ iv _ => m - (intOf iv).toNat)
  case atStart => exact ⟨0, 0, some ⟨g, 0, none⟩, rfl, rfl, Nat.zero_le _, by simp, fun j _ h => by omega, by simpa using S1, by simpa using u1, fun q hq => by have := ob_eq' hq; omega, bb1⟩
  case round =>
    obtain ⟨k, cp, ao, rfl, rfl, hk, hnd, hall, hS, hO, hne, hb⟩ := hrel
    clear S1 u0 u1 hmk bb1 b1
    have hszr : g ≤ wr.heap.size := by have := hb.size; omega
    by_cases hlt : k < m
    · have hkl : k < zs.length := by rw [HM.out]; exact hlt
      obtain ⟨b, off, rfl, hbB, hc⟩ := h3 (fun h => by rw [h] at hkl; simp at hkl)
      have a1 := (hb.cell (p := ⟨b, off + k, none⟩) (by show b < g; omega)).trans (hc k hkl)
      obtain ⟨x, hx⟩ : ∃ x, zs[k] = x := ⟨_, rfl⟩
      have HA := (show Hid _ from hall)
      have HD := (show Hid _ from hnd)
      have i1 : (k : Int) < m := by omega
      rw [hx] at a1
      have cI := innC x 0 ((n : Int) - 1) wr
      by_cases hr : 0 ≤ x ∧ x < (n : Int)
      · obtain ⟨i, hi⟩ := Int.eq_ofNat_of_zero_le hr.1
        have hi3 : i < 3 := by omega
        have hin : (i : Int) < n := by omega
        have ci : inn 0 ((n : Int) - 1) x = true := by unfold inn; simp; omega
        rw [ci] at cI
        subst hi
        have s0 := hS.cell i
        rw [seen_at _ hi3] at s0
        have f0 := hS.froz i
        have i3 : (i : Int) < 3 := by omega
        by_cases hm2 : (i : Int) ∈ zs.take k
        · have HF : Hid (false = ordOk zs n) := (ordOk_twice hkl (by rw [hx]; exact hm2)).symm
          rw [decide_eq_true hm2] at s0
          have HN : Hid (ordOk zs n = true → zs.take k = fullOrder zs n) := fun h => by rw [← HF.out] at h; cases h
          clear hc h3 hall hnd hx hm2 ci
          go_wp2_with (go_at_call 50; refine cI.mono ?_; rintro e w1 ⟨rfl, rfl⟩)
          go_ret2
          exact ⟨_, zs.take k, ret_two HF.out, hO, HN.out, hb⟩
        · rw [decide_eq_false hm2] at s0
          have e1 : zs.take (k + 1) = zs.take k ++ [(i : Int)] := by rw [List.take_succ_eq_append_getElem hkl, hx]
          have HK : Hid ((zs.take (k + 1)).Nodup) := nodup_step hkl HD.out (by rw [hx]; exact hm2)
          have HX : Hid (0 ≤ zs[k] ∧ zs[k] < (n : Int)) := by show _ ∧ _; rw [hx]; omega
          have S2 := hS.set i (.bool true)
          rw [seen_set _ hi3, ← e1] at S2
          have O2 := hO.keep (w' := wr.setCell ⟨gs, i, none⟩ (.bool true)) (fun q hq => Below.heap_setCell _ _ _ _ (hne q hq))
          have b2 := hb.setCell (p := ⟨gs, i, none⟩) (show g ≤ gs by omega) (.bool true)
          obtain ⟨w2, hw2⟩ : ∃ W, wr.setCell ⟨gs, i, none⟩ (.bool true) = W := ⟨_, rfl⟩
          rw [hw2] at S2 O2 b2
          have hsz2 : g ≤ w2.heap.size := by have := b2.size; omega
          have a2 := alloc_below w2 (.cells #[.int .i64 (i : Int)] 3)
          have O3 := O2.on a2 (Nat.le_refl _)
          obtain ⟨v3, w3, hr3, O4_, G3, L3⟩ := Ints.appJ (.slice ao k cp) _ 23 (zs.take k) [(i : Int)] _ g _ O3 (Nat.le_trans hsz2 a2.size) (seesNum' w2 (i : Int)) (by simp; omega)
          rw [← e1] at O4_
          have S3 : Blk w3 gs (seenV (zs.take (k + 1))) 4 := (S2.on a2 S2.lt).grown G3 (fun e => hne gs e.symm rfl)
          have b3 := (b2.trans (a2.mono hsz2)).grown G3 (Nat.le_trans hsz2 a2.size) (fun q hq => (O3.at q hq).1)
          obtain ⟨a3, c3, rfl⟩ := O4_.form
          have hl3 : (zs.take (k + 1)).length = k + 1 := by rw [List.length_take]; omega
          rw [hl3] at O4_ hr3 L3
          have hn3 : ∀ q, (Value.slice a3 (k + 1) c3).ownBlock = some q → q ≠ gs := fun q hq e => by
            rcases L3 q hq with h | h
            · exact hne q h e
            · have := S2.lt
              have : w2.heap.size < (w2.alloc (.cells #[.int .i64 (i : Int)] 3)).heap.size := by simp
              omega
          clear hc h3 hall hnd hx hm2 ci e1 hl3
          go_wp2_with (first | (go_at_call 50; refine cI.mono ?_; rintro e w1 ⟨rfl, rfl⟩) | (at_builtin; refine wpList_app _ rfl _ _ 23 rfl _ _ _ _ rfl rfl hr3 ?_))
          clear hr3
          go_roundw
          case rel => exact ⟨k + 1, c3, a3, rfl, by go_num, by omega, HK.out, fun j hj hjk => by
            rcases Nat.lt_succ_iff_lt_or_eq.1 hjk with h | h
            · exact HA.out j hj h
            · subst h; exact HX.out, S3, O4_, hn3, b3⟩
          case measure => simp [intOf]; omega
      · have HF : Hid (false = ordOk zs n) := (ordOk_range hkl (by rw [hx]; exact hr)).symm
        have HN : Hid (ordOk zs n = true → zs.take k = fullOrder zs n) := fun h => by rw [← HF.out] at h; cases h
        have ci : inn 0 ((n : Int) - 1) x = false := by
          unfold inn
          rw [Bool.and_eq_false_iff]
          by_cases h0 : 0 ≤ x
          · exact .inr (decide_eq_false (by omega))
          · exact .inl (decide_eq_false h0)
        rw [ci] at cI
        clear hc h3 hall hnd hx hr ci
        go_wp2_with (go_at_call 50; refine cI.mono ?_; rintro e w1 ⟨rfl, rfl⟩)
        go_ret2
        exact ⟨_, zs.take k, ret_two HF.out, hO, HN.out, hb⟩
    · obtain rfl : k = m := by omega
      have hz : zs.take k = zs := List.take_of_length_le (by rw [HM.out]; exact Nat.le_refl _)
      rw [hz] at hnd hS hO
      have HT : Hid (true = ordOk zs n) := (ordOk_all (fun j hj => hall j hj (by rw [← HM.out]; exact hj)) hnd).symm
      clear hall hnd hz h3
      go_wp2
      go_loopw [6, 10] (fun ov iv w4 => ∃ (q cp j : Nat) (ao : Option Addr), ov = .slice ao q cp ∧ (zs ++ missing zs j).length = q ∧ iv = .int .i64 (j : Int) ∧ j ≤ n ∧ Blk w4 gs (seenV zs) 4 ∧ Ints.Owns g w4 (.slice ao q cp) (zs ++ missing zs j) ∧ (∀ q', (Value.slice ao q cp).ownBlock = some q' → q' ≠ gs) ∧ Below g w w4) (fun _ iv _ => n - (intOf iv).toNat)
      case atStart => exact ⟨k, cp, 0, ao, rfl, by simp [missing]; exact HM.out, rfl, Nat.zero_le _, hS, by simpa [missing] using hO, hne, hb⟩
      case round =>
        obtain ⟨q, cp4, j, ao4, rfl, hq, rfl, hj, hS4, hO4, hne4, hb4⟩ := hrel
        clear hS hO hne hb hszr
        have hml := missing_length zs j
        have hzl : zs.length = k := HM.out
        have hql : q = zs.length + (missing zs j).length := by rw [← hq, List.length_append]
        have hq1 : q ≤ 1048580 := by omega
        have HQ := (show Hid _ from hq)
        clear hq hql hzl
        by_cases hlt2 : j < n
        · have i1 : (j : Int) < n := by omega
          have i3 : (j : Int) < 3 := by omega
          have hj3 : j < 3 := by omega
          have s0 := hS4.cell j
          rw [seen_at _ hj3] at s0
          by_cases hm2 : (j : Int) ∈ zs
          · rw [decide_eq_true hm2] at s0
            have HE : Hid (missing zs (j + 1) = missing zs j) := by show _ = _; rw [missing_succ, if_pos hm2]; simp
            clear hm2
            go_wp2
            go_roundw
            case rel => exact ⟨q, cp4, j + 1, ao4, rfl, by rw [HE.out]; exact HQ.out, by go_num, by omega, hS4, by rw [HE.out]; exact hO4, hne4, hb4⟩
            case measure => simp [intOf]; omega
          · rw [decide_eq_false hm2] at s0
            have e1 : zs ++ missing zs (j + 1) = (zs ++ missing zs j) ++ [(j : Int)] := by rw [missing_succ, if_neg hm2, List.append_assoc]
            have hsz2 : g ≤ wr.heap.size := by have := hb4.size; omega
            have a2 := alloc_below wr (.cells #[.int .i64 (j : Int)] 3)
            have O3 := hO4.on a2 (Nat.le_refl _)
            obtain ⟨v3, w3, hr3, O4_, G3, L3⟩ := Ints.appJ (.slice ao4 q cp4) _ 23 (zs ++ missing zs j) [(j : Int)] _ g _ O3 (Nat.le_trans hsz2 a2.size) (seesNum' wr (j : Int)) (by rw [HQ.out]; simp; omega)
            rw [← e1] at O4_
            have S3 : Blk w3 gs (seenV zs) 4 := (hS4.on a2 hS4.lt).grown G3 (fun e => hne4 gs e.symm rfl)
            have b3 := (hb4.trans (a2.mono hsz2)).grown G3 (Nat.le_trans hsz2 a2.size) (fun q hq => (O3.at q hq).1)
            obtain ⟨a3, c3, rfl⟩ := O4_.form
            have hl3 : (zs ++ missing zs (j + 1)).length = q + 1 := by rw [e1, List.length_append, HQ.out]; rfl
            rw [hl3] at O4_ hr3 L3
            have HL := (show Hid _ from hl3)
            have hn3 : ∀ q', (Value.slice a3 (q + 1) c3).ownBlock = some q' → q' ≠ gs := fun q' hq' e => by
              rcases L3 q' hq' with h | h
              · exact hne4 q' h e
              · have := hS4.lt
                have : wr.heap.size < (wr.alloc (.cells #[.int .i64 (j : Int)] 3)).heap.size := by simp
                omega
            clear hm2 e1 hl3
            go_wp2_with (at_builtin; refine wpList_app _ rfl _ _ 23 rfl _ _ _ _ rfl rfl hr3 ?_)
            clear hr3
            go_roundw
            case rel => exact ⟨q + 1, c3, j + 1, a3, rfl, HL.out, by go_num, by omega, S3, O4_, hn3, b3⟩
            case measure => simp [intOf]; omega
        · obtain rfl : j = n := by omega
          have HN : Hid (ordOk zs j = true → zs ++ missing zs j = fullOrder zs j) := fun _ => rfl
          go_wp2
          go_ret2
          exact ⟨_, _, ret_two HT.out, hO4, HN.out, hb4⟩
end Ops
end Go.Proofs.Ytajbmokidcdfnaa
/- What the specification's CodeOk and KidOk answer. -/
set_option linter.unusedVariables false
namespace Go.Proofs.Ytajbmokidcdfnaa
open Go.RowKit
namespace Ops
open Bas Flat

/-- one op more of a code, by its kind -/
theorem go_bad {xs : List O4} {k : Nat} (h : k < xs.length) {d : Int} {f : Nat} (ho : okOp xs[k] = false) : codeGo xs (xs.drop k) k d f = false := by
  rw [codeGo_step h, ho]; simp
theorem go_begin {xs : List O4} {k : Nat} (h : k < xs.length) {d : Int} {f : Nat} (ho : okOp xs[k] = true) (hd : 0 ≤ d) (h8 : xs[k].k = 8) : codeGo xs (xs.drop k) k d f = codeGo xs (xs.drop (k + 1)) (k + 1) (d + 1) f := by
  have e : delta xs[k] = 1 := by unfold delta; rw [if_pos h8]
  rw [codeGo_step h, ho, e, h8, decide_eq_true (show 0 ≤ d + 1 by omega)]; simp
theorem go_end {xs : List O4} {k : Nat} (h : k < xs.length) {d : Int} {f : Nat} (ho : okOp xs[k] = true) (h9 : xs[k].k = 9) : codeGo xs (xs.drop k) k d f = (decide (0 ≤ d - 1) && codeGo xs (xs.drop (k + 1)) (k + 1) (d - 1) f) := by
  have e : delta xs[k] = -1 := by unfold delta; rw [if_neg (by omega), if_pos h9]
  rw [codeGo_step h, ho, e, h9, Int.add_neg_one]; simp
theorem go_skip {xs : List O4} {k : Nat} (h : k < xs.length) {d : Int} {f : Nat} (ho : okOp xs[k] = true) (hd : 0 ≤ d) (h7 : xs[k].k = 7) : codeGo xs (xs.drop k) k d f = (skipOk xs k && codeGo xs (xs.drop (k + 1)) (k + 1) d f) := by
  have e : delta xs[k] = 0 := by unfold delta; rw [if_neg (by omega), if_neg (by omega)]
  rw [codeGo_step h, ho, e, h7, Int.add_zero, decide_eq_true hd]; simp
theorem go_fork {xs : List O4} {k : Nat} (h : k < xs.length) {d : Int} {f : Nat} (ho : okOp xs[k] = true) (hd : 0 ≤ d) (h11 : xs[k].k = 11) : codeGo xs (xs.drop k) k d f = (decide (d ≤ 0) && decide (f = 0) && codeGo xs (xs.drop (k + 1)) (k + 1) d (f + 1)) := by
  have e : delta xs[k] = 0 := by unfold delta; rw [if_neg (by omega), if_neg (by omega)]
  rw [codeGo_step h, ho, e, h11, Int.add_zero, decide_eq_true hd]; simp
theorem go_else {xs : List O4} {k : Nat} (h : k < xs.length) {d : Int} {f : Nat} (ho : okOp xs[k] = true) (hd : 0 ≤ d) (h8 : ¬ xs[k].k = 8) (h9 : ¬ xs[k].k = 9) (h7 : ¬ xs[k].k = 7) (h11 : ¬ xs[k].k = 11) : codeGo xs (xs.drop k) k d f = codeGo xs (xs.drop (k + 1)) (k + 1) d f := by
  have e : delta xs[k] = 0 := by unfold delta; rw [if_neg h8, if_neg h9]
  rw [codeGo_step h, ho, e, Int.add_zero, decide_eq_true hd]; simp [h7, h11]
theorem ok_skip {x : O4} (h : okOp x = true) (h7 : x.k = 7) : 1 ≤ x.b ∧ x.b ≤ 20 := by
  unfold okOp at h
  rw [h7] at h
  have h' : (inn 0 3 x.a && inn 1 20 x.b && inn 0 0 x.c) = true := h
  rw [Bool.and_eq_true, Bool.and_eq_true] at h'
  have := h'.1.2
  unfold inn at this
  simpa using this

set_option maxRecDepth 100000 in
set_option maxHeartbeats 6400000 in
theorem codeSpec (v : Value) (xs : List O4) (B : Nat) (w : World) (hv : Sees4 B w v xs) (hB : B ≤ w.heap.size) (hlen : xs.length ≤ 1048576) :
    Calls Try.prog 121 #[v] w fun e w' => e = .returned (.bool (codeOk xs)) ∧ Below w.heap.size w w' := by
  obtain ⟨a, cap, rfl⟩ := hv.form
  obtain ⟨n, hn⟩ : ∃ n, xs.length = n := ⟨_, rfl⟩
  rw [hn] at hv hlen ⊢
  by_cases h24 : n ≤ 24
  · have HE : Hid (codeOk xs = codeGo xs (xs.drop 0) 0 0 0) := by
      show _ = _
      unfold codeOk
      rw [decide_eq_true (show xs.length ≤ 24 by omega), Bool.true_and]; rfl
    have h24' : ¬ (24 : Int) < n := by omega
    obtain ⟨g, hg⟩ : ∃ g, w.heap.size = g := ⟨_, rfl⟩
    rw [hg] at hB ⊢
    have hb0 : Below g w w := Below.refl _ _
    go_enter Try.func121, Try.ntmps121
    go_wp2
    go_loopw [3, 4, 5] (fun d ff i' wr => ∃ (k f : Nat) (q : Int), k ≤ n ∧ f ≤ k ∧ 0 ≤ q ∧ q ≤ k ∧ i' = .int .i64 k ∧ d = .int .i64 q ∧ ff = .int .i64 f ∧ codeOk xs = codeGo xs (xs.drop k) k q f ∧ Below g w wr) (fun _ _ i' _ => n - (intOf i').toNat)
    case atStart => exact ⟨0, 0, 0, Nat.zero_le _, Nat.le_refl _, by omega, by omega, rfl, rfl, rfl, HE.out, hb0⟩
    case round =>
      obtain ⟨k, f, q, hk, hf, hq1, hq2, rfl, rfl, rfl, he, hb⟩ := hrel
      clear HE hb0
      have hsz : g ≤ wr.heap.size := by have := hb.size; omega
      by_cases hlt : k < n
      · have hvr := hv.on hb hB
        obtain ⟨b, off, rfl, hbB, hc⟩ := hvr.open (by omega)
        obtain ⟨a0, a1, a2, a3⟩ := see4 (B := B) hc k (by omega)
        have HN := (show Hid _ from he)
        have i1 : (k : Int) < n := by omega
        have hkx : k < xs.length := by omega
        have cO := specC xs[k].k xs[k].a xs[k].b xs[k].c wr
        have eV : opV xs[k].k xs[k].a xs[k].b xs[k].c = .agg #[.int .i64 xs[k].k, .int .i64 xs[k].a, .int .i64 xs[k].b, .int .i64 xs[k].c] := rfl
        rw [eV] at cO
        have eO : opOk xs[k].k xs[k].a xs[k].b xs[k].c = okOp xs[k] := rfl
        rw [eO] at cO
        obtain ⟨p, hp⟩ : ∃ p, okOp xs[k] = p := ⟨_, rfl⟩
        have HP : Hid (okOp xs[k] = p) := hp
        rw [hp] at cO
        obtain ⟨x, hx⟩ : ∃ x, xs[k] = x := ⟨_, rfl⟩
        have HX : Hid (xs[k] = x) := hx
        rw [hx] at a0 a1 a2 a3 cO
        clear he hp hx eV eO
        cases p
        · have HF : Hid (false = codeOk xs) := by show _ = _; rw [HN.out, go_bad hkx HP.out]
          clear HN hc
          go_wp2_with fail
          refine cO.mono ?_
          rintro e w2 ⟨rfl, hb2⟩
          clear cO
          go_wp2
          go_ret
          exact ⟨ret_b HF.out, hb.trans (hb2.mono hsz)⟩
        go_wp2_with fail
        refine cO.mono ?_
        rintro e w2 ⟨rfl, hb2⟩
        have hbb := hb.trans (hb2.mono hsz)
        have hv2 := hvr.on hb2 (by omega)
        have a0 := (hb2.cell (p := ⟨b, off + k * 4, none⟩) (by show b < wr.heap.size; omega)).trans a0
        clear cO a1 a2 a3 hc
        have hok := HP.out
        by_cases h8 : x.k = 8
        · have HF : Hid (codeOk xs = codeGo xs (xs.drop (k + 1)) (k + 1) (q + 1) f) := by show _ = _; rw [HN.out, go_begin hkx hok hq1 (by rw [HX.out]; exact h8)]
          rw [h8] at a0
          clear h8 HN hok
          go_wp2
          go_roundw
          case rel => exact ⟨k + 1, f, q + 1, by omega, by omega, by omega, by omega, by go_num, rfl, rfl, HF.out, hbb⟩
          case measure => simp [intOf]; omega
        by_cases h9 : x.k = 9
        · have he := go_end hkx (d := q) (f := f) hok (by rw [HX.out]; exact h9)
          rw [h9] at a0
          clear h8 h9
          by_cases hz : 0 ≤ q - 1
          · have HF : Hid (codeOk xs = codeGo xs (xs.drop (k + 1)) (k + 1) (q - 1) f) := by show _ = _; rw [HN.out, he, decide_eq_true hz, Bool.true_and]
            have hz' : ¬ q - 1 < 0 := by omega
            clear he HN hok hz
            go_wp2
            go_roundw
            case rel => exact ⟨k + 1, f, q - 1, by omega, by omega, by omega, by omega, by go_num, rfl, rfl, HF.out, hbb⟩
            case measure => simp [intOf]; omega
          · have HF : Hid (false = codeOk xs) := by show _ = _; rw [HN.out, he, decide_eq_false hz, Bool.false_and]
            obtain rfl : q = 0 := by omega
            clear he HN hok hz
            go_wp2
            go_ret
            exact ⟨ret_b HF.out, hbb⟩
        have e8 : (x.k == 8) = false := by simp [h8]
        have e9 : (x.k == 9) = false := by simp [h9]
        by_cases h7 : x.k = 7
        · have he := go_skip hkx (d := q) (f := f) hok hq1 (by rw [HX.out]; exact h7)
          obtain ⟨s1, s2⟩ := ok_skip (by rw [← HX.out]; exact hok) h7
          have hgx : xs.getD k z4 = x := by rw [getD_at4 hkx]; exact HX.out
          have cK := skipSpec _ xs k B w2 hv2 (by omega) hkx (by rw [hgx]; omega) (by rw [hgx]; omega)
          rw [h7] at a0
          obtain ⟨p, hp⟩ : ∃ p, skipOk xs k = p := ⟨_, rfl⟩
          rw [hp] at cK he
          clear h8 h9 h7 e8 e9 hgx hp
          cases p
          · have HF : Hid (false = codeOk xs) := by show _ = _; rw [HN.out, he, Bool.false_and]
            clear he HN hok
            go_wp2_with fail
            refine cK.mono ?_
            rintro e w3 ⟨rfl, rfl⟩
            clear cK
            go_wp2
            go_ret
            exact ⟨ret_b HF.out, hbb⟩
          · have HF : Hid (codeOk xs = codeGo xs (xs.drop (k + 1)) (k + 1) q f) := by show _ = _; rw [HN.out, he, Bool.true_and]
            have hq' : ¬ q < 0 := by omega
            clear he HN hok
            go_wp2_with fail
            refine cK.mono ?_
            rintro e w3 ⟨rfl, rfl⟩
            clear cK
            go_wp2
            go_roundw
            case rel => exact ⟨k + 1, f, q, by omega, by omega, by omega, by omega, by go_num, rfl, rfl, HF.out, hbb⟩
            case measure => simp [intOf]; omega
        have e7 : (x.k == 7) = false := by simp [h7]
        by_cases h11 : x.k = 11
        · have he := go_fork hkx (d := q) (f := f) hok hq1 (by rw [HX.out]; exact h11)
          rw [h11] at a0
          clear h8 h9 h7 e8 e9 e7 h11
          by_cases hq0 : q ≤ 0
          · obtain rfl : q = 0 := by omega
            by_cases hf0 : f = 0
            · subst hf0
              have HF : Hid (codeOk xs = codeGo xs (xs.drop (k + 1)) (k + 1) 0 1) := by show _ = _; rw [HN.out, he]; simp
              clear he HN hok hq0
              go_wp2
              go_roundw
              case rel => exact ⟨k + 1, 1, 0, by omega, by omega, by omega, by omega, by go_num, rfl, rfl, HF.out, hbb⟩
              case measure => simp [intOf]; omega
            · have HF : Hid (false = codeOk xs) := by show _ = _; rw [HN.out, he, decide_eq_false hf0]; simp
              have hf1 : (1 : Int) < (f : Int) + 1 := by omega
              clear he HN hok hq0
              go_wp2
              go_ret
              exact ⟨ret_b HF.out, hbb⟩
          · have HF : Hid (false = codeOk xs) := by show _ = _; rw [HN.out, he, decide_eq_false hq0]; simp
            have hq' : 0 < q := by omega
            clear he HN hok hq0
            go_wp2
            go_ret
            exact ⟨ret_b HF.out, hbb⟩
        have e11 : (x.k == 11) = false := by simp [h11]
        have HF : Hid (codeOk xs = codeGo xs (xs.drop (k + 1)) (k + 1) q f) := by show _ = _; rw [HN.out, go_else hkx hok hq1 (by rw [HX.out]; exact h8) (by rw [HX.out]; exact h9) (by rw [HX.out]; exact h7) (by rw [HX.out]; exact h11)]
        have hq' : ¬ q < 0 := by omega
        clear HN hok h8 h9 h7 h11
        go_wp2
        go_roundw
        case rel => exact ⟨k + 1, f, q, by omega, by omega, by omega, by omega, by go_num, rfl, rfl, HF.out, hbb⟩
        case measure => simp [intOf]; omega
      · obtain rfl : k = n := by omega
        have HF : Hid ((q == 0) = codeOk xs) := by
          show _ = _
          rw [he, List.drop_of_length_le (by omega)]; rfl
        clear he
        go_wp2
        go_ret
        exact ⟨ret_b HF.out, hb⟩
  · have HF : Hid (false = codeOk xs) := by
      show _ = _
      unfold codeOk
      rw [decide_eq_false (show ¬ xs.length ≤ 24 by omega), Bool.false_and]
    have h24' : (24 : Int) < n := by omega
    go_enter Try.func121, Try.ntmps121
    go_wp2
    go_ret
    exact ⟨ret_b HF.out, Below.refl _ _⟩
end Ops
end Go.Proofs.Ytajbmokidcdfnaa
/- What the specification's KidOk, ProgOk and SameProg answer. -/
set_option linter.unusedVariables false
set_option linter.unusedSimpArgs false
namespace Go.Proofs.Ytajbmokidcdfnaa
open Go.RowKit
namespace Ops
open Bas Flat

theorem kid_no1 {xs : List O4} (h : codeOk xs = false) : kidOk xs = false := by unfold kidOk; rw [h]; rfl
theorem kid_no2 {xs : List O4} (h : hasFork xs = true) : kidOk xs = false := by unfold kidOk; rw [h]; simp
theorem kid_all {xs : List O4} (h1 : codeOk xs = true) (h2 : hasFork xs = false) : kidOk xs = xs.all fun o => !(touch o == 2) := by unfold kidOk; rw [h1, h2]; simp

set_option maxRecDepth 100000 in
set_option maxHeartbeats 1600000 in
theorem kidSpec (v : Value) (xs : List O4) (B : Nat) (w : World) (hv : Sees4 B w v xs) (hB : B ≤ w.heap.size) (hlen : xs.length ≤ 1048576) :
    Calls Try.prog 123 #[v] w fun e w' => e = .returned (.bool (kidOk xs)) ∧ Below w.heap.size w w' := by
  have c0 := codeSpec v xs B w hv hB hlen
  obtain ⟨a, cap, rfl⟩ := hv.form
  obtain ⟨n, hn⟩ : ∃ n, xs.length = n := ⟨_, rfl⟩
  rw [hn] at hv hlen c0 ⊢
  obtain ⟨p, hp⟩ : ∃ p, codeOk xs = p := ⟨_, rfl⟩
  rw [hp] at c0
  cases p
  · have HF : Hid (false = kidOk xs) := (kid_no1 hp).symm
    clear hp
    go_enter Try.func123, Try.ntmps123
    go_wp2_with fail
    refine c0.mono ?_
    rintro e w1 ⟨rfl, b1⟩
    go_wp2
    go_ret
    exact ⟨ret_b HF.out, b1⟩
  obtain ⟨q, hq⟩ : ∃ q, hasFork xs = q := ⟨_, rfl⟩
  have HP : Hid (codeOk xs = true) := hp
  clear hp
  cases q
  · have HE : Hid (kidOk xs = xs.all fun o => !(touch o == 2)) := kid_all HP.out hq
    have HQ : Hid (hasFork xs = false) := hq
    clear hq
    obtain ⟨g, hg⟩ : ∃ g, w.heap.size = g := ⟨_, rfl⟩
    rw [hg] at hB c0 ⊢
    go_enter Try.func123, Try.ntmps123
    go_wp2_with fail
    refine c0.mono ?_
    rintro e w1 ⟨rfl, b1⟩
    clear c0
    go_wp2_with fail
    refine (forkSpec _ xs B w1 (hv.on b1 hB) (by omega)).mono ?_
    rw [HQ.out]
    rintro e w2 ⟨rfl, rfl⟩
    go_wp2
    go_loopw [3] (fun i' wr => ∃ k : Nat, k ≤ n ∧ i' = .int .i64 k ∧ (∀ j (h : j < xs.length), j < k → (!(touch xs[j] == 2)) = true) ∧ Below g w wr) (fun i' _ => n - (intOf i').toNat)
    case atStart => exact ⟨0, Nat.zero_le _, rfl, fun j _ h => by omega, b1⟩
    case round =>
      obtain ⟨k, hk, rfl, hall, hb⟩ := hrel
      clear b1
      have hsz : g ≤ wr.heap.size := by have := hb.size; omega
      by_cases hlt : k < n
      · have hvr := hv.on hb hB
        obtain ⟨b, off, rfl, hbB, hc⟩ := hvr.open (by omega)
        obtain ⟨a0, a1, a2, a3⟩ := see4 (B := B) hc k (by omega)
        have cT := touchSpec xs[k].k xs[k].a xs[k].b xs[k].c wr
        have eV : opV xs[k].k xs[k].a xs[k].b xs[k].c = .agg #[.int .i64 xs[k].k, .int .i64 xs[k].a, .int .i64 xs[k].b, .int .i64 xs[k].c] := rfl
        have eT : touches xs[k].k xs[k].a xs[k].b xs[k].c = touch xs[k] := rfl
        rw [eV, eT] at cT
        have HA := (show Hid _ from hall)
        by_cases h2 : touch xs[k] = 2
        · have HF : Hid (false = kidOk xs) := by
            show _ = _
            rw [HE.out]
            exact (all_no (k := k) (by omega) (by simp [h2])).symm
          rw [h2] at cT
          clear hall h2 hc eV eT
          go_wp2_with fail
          refine cT.mono ?_
          rintro e w2 ⟨rfl, hb2⟩
          clear cT
          go_wp2
          go_ret
          exact ⟨ret_b HF.out, hb.trans (hb2.mono hsz)⟩
        · have HF : Hid (∀ j (h : j < xs.length), j < k + 1 → (!(touch xs[j] == 2)) = true) := fun j hj hjk => by
            rcases Nat.lt_succ_iff_lt_or_eq.1 hjk with h | h
            · exact HA.out j hj h
            · subst h; simp [h2]
          obtain ⟨t, ht⟩ : ∃ t, touch xs[k] = t := ⟨_, rfl⟩
          rw [ht] at cT h2
          have e2 : (t == 2) = false := by simp [h2]
          clear hall h2 hc eV eT ht HA
          go_wp2_with fail
          refine cT.mono ?_
          rintro e w2 ⟨rfl, hb2⟩
          clear cT
          go_wp2
          go_roundw
          case rel => exact ⟨k + 1, by omega, by go_num, HF.out, hb.trans (hb2.mono hsz)⟩
          case measure => simp [intOf]; omega
      · have HF : Hid (true = kidOk xs) := by
          show _ = _
          rw [HE.out]
          exact (all_yes fun j hj => hall j hj (by omega)).symm
        clear hall
        go_wp2
        go_ret
        exact ⟨ret_b HF.out, hb⟩
  · have HF : Hid (false = kidOk xs) := (kid_no2 hq).symm
    have HQ : Hid (hasFork xs = true) := hq
    clear hq
    go_enter Try.func123, Try.ntmps123
    go_wp2_with fail
    refine c0.mono ?_
    rintro e w1 ⟨rfl, b1⟩
    clear c0
    go_wp2_with fail
    refine (forkSpec _ xs B w1 (hv.on b1 hB) (by omega)).mono ?_
    rw [HQ.out]
    rintro e w2 ⟨rfl, rfl⟩
    go_wp2
    go_ret
    exact ⟨ret_b HF.out, b1⟩

theorem prog_no1 {xs : List O4} {kss : List (List O4)} (h : codeOk xs = false) : progOk xs kss = false := by unfold progOk; rw [h]; rfl
theorem prog_no2 {xs : List O4} {kss : List (List O4)} (h : ¬ kss.length ≤ 3) : progOk xs kss = false := by unfold progOk; rw [decide_eq_false h]; simp
theorem prog_no3 {xs : List O4} {kss : List (List O4)} (h : ¬ hasFork xs = decide (0 < kss.length)) : progOk xs kss = false := by unfold progOk; rw [beq_eq_false_iff_ne.2 h]; simp
theorem prog_all {xs : List O4} {kss : List (List O4)} (h1 : codeOk xs = true) (h2 : kss.length ≤ 3) (h3 : hasFork xs = decide (0 < kss.length)) : progOk xs kss = kss.all kidOk := by unfold progOk; rw [h1, decide_eq_true h2, h3]; simp

set_option maxRecDepth 100000 in
set_option maxHeartbeats 3200000 in
theorem progSpec (vc vk : Value) (xs : List O4) (kss : List (List O4)) (B : Nat) (w : World) (hv : SeesP B w vc vk xs kss) (hB : B ≤ w.heap.size) (hf : Fits xs kss) :
    Calls Try.prog 93 #[.agg #[vc, vk]] w fun e w' => e = .returned (.bool (progOk xs kss)) ∧ Below w.heap.size w w' := by
  obtain ⟨a, cap, rfl⟩ := hv.c.form
  obtain ⟨ak, capk, rfl⟩ := hv.k.form
  obtain ⟨n, hn⟩ : ∃ n, xs.length = n := ⟨_, rfl⟩
  obtain ⟨m, hm⟩ : ∃ m, kss.length = m := ⟨_, rfl⟩
  obtain ⟨hf1, hf2, hf3⟩ := hf
  rw [hn, hm] at hv ⊢
  rw [hm] at hf2
  have HA3 := (show Hid _ from hf3)
  clear hf3
  have b0 := alloc_below w (.cells #[.slice a n cap, .slice ak m capk] 62)
  have X0 := Blk.new w #[.slice a n cap, .slice ak m capk] 62
  obtain ⟨W0, hW0⟩ : ∃ W0, w.alloc (.cells #[.slice a n cap, .slice ak m capk] 62) = W0 := ⟨_, rfl⟩
  rw [hW0] at b0 X0
  have hs := X0.lt
  have hv0 := hv.on b0 hB
  have c0 := codeSpec _ xs B W0.drew hv0.c.drew (by show B ≤ W0.heap.size; omega) hf1
  obtain ⟨p, hp⟩ : ∃ p, codeOk xs = p := ⟨_, rfl⟩
  rw [hp] at c0
  have HP : Hid (codeOk xs = p) := hp
  clear hp
  have x0 := X0.cell 0; have x1 := X0.cell 1
  have f1 : (0 : Int) ≤ m := by omega
  cases p
  · have HF : Hid (false = progOk xs kss) := (prog_no1 HP.out).symm
    go_enter Try.func93, Try.ntmps93
    go_wp2_with fail
    clear hW0
    refine wp_region_held_drew (S := fun W => W.cell? ⟨w.heap.size, 0, none⟩ = some (.slice a n cap) ∧ W.cell? ⟨w.heap.size, 1, none⟩ = some (.slice ak m capk)) (by kernel_rfl) ⟨x0, x1⟩ (fun hHeld => ?_)
    refine takeH (i := 0) (some 4) (.pointer (some ⟨w.heap.size, 0, none⟩)) rfl rfl (by kernel_rfl) (by kernel_rfl) (by kernel_rfl) (fun _ _ _ h => h) (Or.inl ⟨by rfl, fun w hSw => by (try dsimp only at hSw); go_simp⟩) (by assumption) ?_
    simp only [Act.put, List.setIfInBounds_toArray, List.set_cons_zero, List.set_cons_succ]
    refine takeH (i := 1) (some 5) (.slice a n cap) rfl rfl (by kernel_rfl) (by kernel_rfl) (by kernel_rfl) (fun _ _ _ h => h) (Or.inl ⟨by rfl, fun w hSw => by (try dsimp only at hSw); go_simp⟩) (by assumption) ?_
    simp only [Act.put, List.setIfInBounds_toArray, List.set_cons_zero, List.set_cons_succ]
    refine wpAnyH_ready (rs := [2]) (by kernel_rfl) (by simp) ?_
    refine AllReadyH.cons rfl (fun K hK => ?_) AllReadyH.nil
    go_simp
    refine c0.mono ?_
    rintro e w1 ⟨rfl, b1⟩
    have b1 := undrewB b1
    have X1 := X0.on b1 hs
    have bb1 := b0.trans (b1.mono b0.size)
    go_simp
    refine hK.out _ _ ⟨X1.cell 0, X1.cell 1⟩ (fun hHeld1 => ?_)
    clear hK K c0 hHeld x0 x1
    refine takeH (i := 3) (some 7) (.bool true) rfl rfl (by kernel_rfl) (by kernel_rfl) (by kernel_rfl) (fun _ _ _ h => h) (Or.inl ⟨by rfl, fun w hSw => by (try dsimp only at hSw); go_simp⟩) (by assumption) ?_
    simp only [Act.put, List.setIfInBounds_toArray, List.set_cons_zero, List.set_cons_succ]
    refine takeH (i := 4) (some 8) (.bool true) rfl rfl (by kernel_rfl) (by kernel_rfl) (by kernel_rfl) (fun _ _ _ h => h) (Or.inl ⟨by rfl, fun w hSw => by (try dsimp only at hSw); go_simp⟩) (by assumption) ?_
    simp only [Act.put, List.setIfInBounds_toArray, List.set_cons_zero, List.set_cons_succ]
    refine takeH (i := 5) (some 9) undef rfl rfl (by kernel_rfl) (by kernel_rfl) (by kernel_rfl) (fun _ _ _ h => h) (Or.inr ⟨by rfl, rfl⟩) (by assumption) ?_
    simp only [Act.put, List.setIfInBounds_toArray, List.set_cons_zero, List.set_cons_succ]
    refine takeH (i := 6) (some 10) undef rfl rfl (by kernel_rfl) (by kernel_rfl) (by kernel_rfl) (fun _ _ _ h => h) (Or.inr ⟨by rfl, rfl⟩) (by assumption) ?_
    simp only [Act.put, List.setIfInBounds_toArray, List.set_cons_zero, List.set_cons_succ]
    refine takeH (i := 7) (some 11) undef rfl rfl (by kernel_rfl) (by kernel_rfl) (by kernel_rfl) (fun _ _ _ h => h) (Or.inr ⟨by rfl, rfl⟩) (by assumption) ?_
    simp only [Act.put, List.setIfInBounds_toArray, List.set_cons_zero, List.set_cons_succ]
    refine takeH (i := 8) (some 12) undef rfl rfl (by kernel_rfl) (by kernel_rfl) (by kernel_rfl) (fun _ _ _ h => h) (Or.inr ⟨by rfl, rfl⟩) (by assumption) ?_
    simp only [Act.put, List.setIfInBounds_toArray, List.set_cons_zero, List.set_cons_succ]
    refine takeH (i := 9) (some 13) (.bool true) rfl rfl (by kernel_rfl) (by kernel_rfl) (by kernel_rfl) (fun _ _ _ h => h) (Or.inl ⟨by rfl, fun w hSw => by (try dsimp only at hSw); go_simp⟩) (by assumption) ?_
    simp only [Act.put, List.setIfInBounds_toArray, List.set_cons_zero, List.set_cons_succ]
    refine takeH (i := 10) (some 14) (.bool true) rfl rfl (by kernel_rfl) (by kernel_rfl) (by kernel_rfl) (fun _ _ _ h => h) (Or.inl ⟨by rfl, fun w hSw => by (try dsimp only at hSw); go_simp⟩) (by assumption) ?_
    simp only [Act.put, List.setIfInBounds_toArray, List.set_cons_zero, List.set_cons_succ]
    refine takeH (i := 11) (some 15) undef rfl rfl (by kernel_rfl) (by kernel_rfl) (by kernel_rfl) (fun _ _ _ h => h) (Or.inr ⟨by rfl, rfl⟩) (by assumption) ?_
    simp only [Act.put, List.setIfInBounds_toArray, List.set_cons_zero, List.set_cons_succ]
    refine takeH (i := 12) (some 16) undef rfl rfl (by kernel_rfl) (by kernel_rfl) (by kernel_rfl) (fun _ _ _ h => h) (Or.inr ⟨by rfl, rfl⟩) (by assumption) ?_
    simp only [Act.put, List.setIfInBounds_toArray, List.set_cons_zero, List.set_cons_succ]
    refine takeH (i := 13) (some 17) undef rfl rfl (by kernel_rfl) (by kernel_rfl) (by kernel_rfl) (fun _ _ _ h => h) (Or.inr ⟨by rfl, rfl⟩) (by assumption) ?_
    simp only [Act.put, List.setIfInBounds_toArray, List.set_cons_zero, List.set_cons_succ]
    refine takeH (i := 14) (some 18) undef rfl rfl (by kernel_rfl) (by kernel_rfl) (by kernel_rfl) (fun _ _ _ h => h) (Or.inr ⟨by rfl, rfl⟩) (by assumption) ?_
    simp only [Act.put, List.setIfInBounds_toArray, List.set_cons_zero, List.set_cons_succ]
    refine takeH (i := 15) (some 19) undef rfl rfl (by kernel_rfl) (by kernel_rfl) (by kernel_rfl) (fun _ _ _ h => h) (Or.inr ⟨by rfl, rfl⟩) (by assumption) ?_
    simp only [Act.put, List.setIfInBounds_toArray, List.set_cons_zero, List.set_cons_succ]
    refine takeH (i := 16) (some 20) undef rfl rfl (by kernel_rfl) (by kernel_rfl) (by kernel_rfl) (fun _ _ _ h => h) (Or.inr ⟨by rfl, rfl⟩) (by assumption) ?_
    simp only [Act.put, List.setIfInBounds_toArray, List.set_cons_zero, List.set_cons_succ]
    refine takeH (i := 17) (some 21) undef rfl rfl (by kernel_rfl) (by kernel_rfl) (by kernel_rfl) (fun _ _ _ h => h) (Or.inr ⟨by rfl, rfl⟩) (by assumption) ?_
    simp only [Act.put, List.setIfInBounds_toArray, List.set_cons_zero, List.set_cons_succ]
    refine takeH (i := 18) (some 22) undef rfl rfl (by kernel_rfl) (by kernel_rfl) (by kernel_rfl) (fun _ _ _ h => h) (Or.inr ⟨by rfl, rfl⟩) (by assumption) ?_
    simp only [Act.put, List.setIfInBounds_toArray, List.set_cons_zero, List.set_cons_succ]
    refine takeH (i := 19) (some 23) (.bool true) rfl rfl (by kernel_rfl) (by kernel_rfl) (by kernel_rfl) (fun _ _ _ h => h) (Or.inl ⟨by rfl, fun w hSw => by (try dsimp only at hSw); go_simp⟩) (by assumption) ?_
    simp only [Act.put, List.setIfInBounds_toArray, List.set_cons_zero, List.set_cons_succ]
    refine wpAnyH_done (by kernel_rfl) ?_ _
    go_wp2
    go_ret
    exact ⟨ret_b HF.out, bb1⟩
  · by_cases h3 : 3 < m
    · have HF : Hid (false = progOk xs kss) := (prog_no2 (by omega)).symm
      have d3 : decide ((3 : Int) < m) = true := decide_eq_true (by omega)
      go_enter Try.func93, Try.ntmps93
      go_wp2_with fail
      clear hW0
      refine wp_region_held_drew (S := fun W => W.cell? ⟨w.heap.size, 0, none⟩ = some (.slice a n cap) ∧ W.cell? ⟨w.heap.size, 1, none⟩ = some (.slice ak m capk)) (by kernel_rfl) ⟨x0, x1⟩ (fun hHeld => ?_)
      refine takeH (i := 0) (some 4) (.pointer (some ⟨w.heap.size, 0, none⟩)) rfl rfl (by kernel_rfl) (by kernel_rfl) (by kernel_rfl) (fun _ _ _ h => h) (Or.inl ⟨by rfl, fun w hSw => by (try dsimp only at hSw); go_simp⟩) (by assumption) ?_
      simp only [Act.put, List.setIfInBounds_toArray, List.set_cons_zero, List.set_cons_succ]
      refine takeH (i := 1) (some 5) (.slice a n cap) rfl rfl (by kernel_rfl) (by kernel_rfl) (by kernel_rfl) (fun _ _ _ h => h) (Or.inl ⟨by rfl, fun w hSw => by (try dsimp only at hSw); go_simp⟩) (by assumption) ?_
      simp only [Act.put, List.setIfInBounds_toArray, List.set_cons_zero, List.set_cons_succ]
      refine wpAnyH_ready (rs := [2]) (by kernel_rfl) (by simp) ?_
      refine AllReadyH.cons rfl (fun K hK => ?_) AllReadyH.nil
      go_simp
      refine c0.mono ?_
      rintro e w1 ⟨rfl, b1⟩
      have b1 := undrewB b1
      have X1 := X0.on b1 hs
      have bb1 := b0.trans (b1.mono b0.size)
      go_simp
      refine hK.out _ _ ⟨X1.cell 0, X1.cell 1⟩ (fun hHeld1 => ?_)
      clear hK K c0 hHeld x0 x1
      refine takeH (i := 3) (some 7) (.bool false) rfl rfl (by kernel_rfl) (by kernel_rfl) (by kernel_rfl) (fun _ _ _ h => h) (Or.inl ⟨by rfl, fun w hSw => by (try dsimp only at hSw); go_simp⟩) (by assumption) ?_
      simp only [Act.put, List.setIfInBounds_toArray, List.set_cons_zero, List.set_cons_succ]
      refine takeH (i := 4) (some 8) (.bool false) rfl rfl (by kernel_rfl) (by kernel_rfl) (by kernel_rfl) (fun _ _ _ h => h) (Or.inl ⟨by rfl, fun w hSw => by (try dsimp only at hSw); go_simp⟩) (by assumption) ?_
      simp only [Act.put, List.setIfInBounds_toArray, List.set_cons_zero, List.set_cons_succ]
      refine takeH (i := 5) (some 9) (.pointer (some ⟨w.heap.size, 1, none⟩)) rfl rfl (by kernel_rfl) (by kernel_rfl) (by kernel_rfl) (fun _ _ _ h => h) (Or.inl ⟨by rfl, fun w hSw => by (try dsimp only at hSw); go_simp⟩) (by assumption) ?_
      simp only [Act.put, List.setIfInBounds_toArray, List.set_cons_zero, List.set_cons_succ]
      refine takeH (i := 6) (some 10) (.slice ak m capk) rfl rfl (by kernel_rfl) (by kernel_rfl) (by kernel_rfl) (fun _ _ _ h => h) (Or.inl ⟨by rfl, fun w hSw => by (try dsimp only at hSw); go_simp⟩) (by assumption) ?_
      simp only [Act.put, List.setIfInBounds_toArray, List.set_cons_zero, List.set_cons_succ]
      refine takeH (i := 7) (some 11) (.int .i64 m) rfl rfl (by kernel_rfl) (by kernel_rfl) (by kernel_rfl) (fun _ _ _ h => h) (Or.inl ⟨by rfl, fun w hSw => by (try dsimp only at hSw); go_simp⟩) (by assumption) ?_
      simp only [Act.put, List.setIfInBounds_toArray, List.set_cons_zero, List.set_cons_succ]
      refine takeH (i := 8) (some 12) (.bool true) rfl rfl (by kernel_rfl) (by kernel_rfl) (by kernel_rfl) (fun _ _ _ h => h) (Or.inl ⟨by rfl, fun w hSw => by (try dsimp only at hSw); go_simp⟩) (by assumption) ?_
      simp only [Act.put, List.setIfInBounds_toArray, List.set_cons_zero, List.set_cons_succ]
      refine takeH (i := 9) (some 13) (.bool true) rfl rfl (by kernel_rfl) (by kernel_rfl) (by kernel_rfl) (fun _ _ _ h => h) (Or.inl ⟨by rfl, fun w hSw => by (try dsimp only at hSw); go_simp⟩) (by assumption) ?_
      simp only [Act.put, List.setIfInBounds_toArray, List.set_cons_zero, List.set_cons_succ]
      refine takeH (i := 10) (some 14) (.bool true) rfl rfl (by kernel_rfl) (by kernel_rfl) (by kernel_rfl) (fun _ _ _ h => h) (Or.inl ⟨by rfl, fun w hSw => by (try dsimp only at hSw); go_simp⟩) (by assumption) ?_
      simp only [Act.put, List.setIfInBounds_toArray, List.set_cons_zero, List.set_cons_succ]
      refine takeH (i := 11) (some 15) undef rfl rfl (by kernel_rfl) (by kernel_rfl) (by kernel_rfl) (fun _ _ _ h => h) (Or.inr ⟨by rfl, rfl⟩) (by assumption) ?_
      simp only [Act.put, List.setIfInBounds_toArray, List.set_cons_zero, List.set_cons_succ]
      refine takeH (i := 12) (some 16) undef rfl rfl (by kernel_rfl) (by kernel_rfl) (by kernel_rfl) (fun _ _ _ h => h) (Or.inr ⟨by rfl, rfl⟩) (by assumption) ?_
      simp only [Act.put, List.setIfInBounds_toArray, List.set_cons_zero, List.set_cons_succ]
      refine takeH (i := 13) (some 17) undef rfl rfl (by kernel_rfl) (by kernel_rfl) (by kernel_rfl) (fun _ _ _ h => h) (Or.inr ⟨by rfl, rfl⟩) (by assumption) ?_
      simp only [Act.put, List.setIfInBounds_toArray, List.set_cons_zero, List.set_cons_succ]
      refine takeH (i := 14) (some 18) undef rfl rfl (by kernel_rfl) (by kernel_rfl) (by kernel_rfl) (fun _ _ _ h => h) (Or.inr ⟨by rfl, rfl⟩) (by assumption) ?_
      simp only [Act.put, List.setIfInBounds_toArray, List.set_cons_zero, List.set_cons_succ]
      refine takeH (i := 15) (some 19) undef rfl rfl (by kernel_rfl) (by kernel_rfl) (by kernel_rfl) (fun _ _ _ h => h) (Or.inr ⟨by rfl, rfl⟩) (by assumption) ?_
      simp only [Act.put, List.setIfInBounds_toArray, List.set_cons_zero, List.set_cons_succ]
      refine takeH (i := 16) (some 20) undef rfl rfl (by kernel_rfl) (by kernel_rfl) (by kernel_rfl) (fun _ _ _ h => h) (Or.inr ⟨by rfl, rfl⟩) (by assumption) ?_
      simp only [Act.put, List.setIfInBounds_toArray, List.set_cons_zero, List.set_cons_succ]
      refine takeH (i := 17) (some 21) undef rfl rfl (by kernel_rfl) (by kernel_rfl) (by kernel_rfl) (fun _ _ _ h => h) (Or.inr ⟨by rfl, rfl⟩) (by assumption) ?_
      simp only [Act.put, List.setIfInBounds_toArray, List.set_cons_zero, List.set_cons_succ]
      refine takeH (i := 18) (some 22) undef rfl rfl (by kernel_rfl) (by kernel_rfl) (by kernel_rfl) (fun _ _ _ h => h) (Or.inr ⟨by rfl, rfl⟩) (by assumption) ?_
      simp only [Act.put, List.setIfInBounds_toArray, List.set_cons_zero, List.set_cons_succ]
      refine takeH (i := 19) (some 23) (.bool true) rfl rfl (by kernel_rfl) (by kernel_rfl) (by kernel_rfl) (fun _ _ _ h => h) (Or.inl ⟨by rfl, fun w hSw => by (try dsimp only at hSw); go_simp⟩) (by assumption) ?_
      simp only [Act.put, List.setIfInBounds_toArray, List.set_cons_zero, List.set_cons_succ]
      refine wpAnyH_done (by kernel_rfl) ?_ _
      go_wp2
      go_ret
      exact ⟨ret_b HF.out, bb1⟩
    · have d3 : decide ((3 : Int) < m) = false := decide_eq_false (by omega)
      obtain ⟨t, ht'⟩ : ∃ t, decide (0 < m) = t := ⟨_, rfl⟩
      have ht : decide ((0 : Int) < m) = t := by rw [← ht']; simp
      go_enter Try.func93, Try.ntmps93
      go_wp2_with fail
      clear hW0
      refine wp_region_held_drew (S := fun W => W.cell? ⟨w.heap.size, 0, none⟩ = some (.slice a n cap) ∧ W.cell? ⟨w.heap.size, 1, none⟩ = some (.slice ak m capk)) (by kernel_rfl) ⟨x0, x1⟩ (fun hHeld => ?_)
      refine takeH (i := 0) (some 4) (.pointer (some ⟨w.heap.size, 0, none⟩)) rfl rfl (by kernel_rfl) (by kernel_rfl) (by kernel_rfl) (fun _ _ _ h => h) (Or.inl ⟨by rfl, fun w hSw => by (try dsimp only at hSw); go_simp⟩) (by assumption) ?_
      simp only [Act.put, List.setIfInBounds_toArray, List.set_cons_zero, List.set_cons_succ]
      refine takeH (i := 1) (some 5) (.slice a n cap) rfl rfl (by kernel_rfl) (by kernel_rfl) (by kernel_rfl) (fun _ _ _ h => h) (Or.inl ⟨by rfl, fun w hSw => by (try dsimp only at hSw); go_simp⟩) (by assumption) ?_
      simp only [Act.put, List.setIfInBounds_toArray, List.set_cons_zero, List.set_cons_succ]
      refine wpAnyH_ready (rs := [2]) (by kernel_rfl) (by simp) ?_
      refine AllReadyH.cons rfl (fun K hK => ?_) AllReadyH.nil
      go_simp
      refine c0.mono ?_
      rintro e w1 ⟨rfl, b1⟩
      have b1 := undrewB b1
      have X1 := X0.on b1 hs
      have bb1 := b0.trans (b1.mono b0.size)
      go_simp
      refine hK.out _ _ ⟨X1.cell 0, X1.cell 1⟩ (fun hHeld1 => ?_)
      clear hK K c0 hHeld x0 x1
      refine takeH (i := 3) (some 7) (.bool false) rfl rfl (by kernel_rfl) (by kernel_rfl) (by kernel_rfl) (fun _ _ _ h => h) (Or.inl ⟨by rfl, fun w hSw => by (try dsimp only at hSw); go_simp⟩) (by assumption) ?_
      simp only [Act.put, List.setIfInBounds_toArray, List.set_cons_zero, List.set_cons_succ]
      refine takeH (i := 4) (some 8) (.bool false) rfl rfl (by kernel_rfl) (by kernel_rfl) (by kernel_rfl) (fun _ _ _ h => h) (Or.inl ⟨by rfl, fun w hSw => by (try dsimp only at hSw); go_simp⟩) (by assumption) ?_
      simp only [Act.put, List.setIfInBounds_toArray, List.set_cons_zero, List.set_cons_succ]
      refine takeH (i := 5) (some 9) (.pointer (some ⟨w.heap.size, 1, none⟩)) rfl rfl (by kernel_rfl) (by kernel_rfl) (by kernel_rfl) (fun _ _ _ h => h) (Or.inl ⟨by rfl, fun w hSw => by (try dsimp only at hSw); go_simp⟩) (by assumption) ?_
      simp only [Act.put, List.setIfInBounds_toArray, List.set_cons_zero, List.set_cons_succ]
      refine takeH (i := 6) (some 10) (.slice ak m capk) rfl rfl (by kernel_rfl) (by kernel_rfl) (by kernel_rfl) (fun _ _ _ h => h) (Or.inl ⟨by rfl, fun w hSw => by (try dsimp only at hSw); go_simp⟩) (by assumption) ?_
      simp only [Act.put, List.setIfInBounds_toArray, List.set_cons_zero, List.set_cons_succ]
      refine takeH (i := 7) (some 11) (.int .i64 m) rfl rfl (by kernel_rfl) (by kernel_rfl) (by kernel_rfl) (fun _ _ _ h => h) (Or.inl ⟨by rfl, fun w hSw => by (try dsimp only at hSw); go_simp⟩) (by assumption) ?_
      simp only [Act.put, List.setIfInBounds_toArray, List.set_cons_zero, List.set_cons_succ]
      refine takeH (i := 8) (some 12) (.bool false) rfl rfl (by kernel_rfl) (by kernel_rfl) (by kernel_rfl) (fun _ _ _ h => h) (Or.inl ⟨by rfl, fun w hSw => by (try dsimp only at hSw); go_simp⟩) (by assumption) ?_
      simp only [Act.put, List.setIfInBounds_toArray, List.set_cons_zero, List.set_cons_succ]
      refine takeH (i := 9) (some 13) (.bool false) rfl rfl (by kernel_rfl) (by kernel_rfl) (by kernel_rfl) (fun _ _ _ h => h) (Or.inl ⟨by rfl, fun w hSw => by (try dsimp only at hSw); go_simp⟩) (by assumption) ?_
      simp only [Act.put, List.setIfInBounds_toArray, List.set_cons_zero, List.set_cons_succ]
      refine takeH (i := 10) (some 14) (.bool false) rfl rfl (by kernel_rfl) (by kernel_rfl) (by kernel_rfl) (fun _ _ _ h => h) (Or.inl ⟨by rfl, fun w hSw => by (try dsimp only at hSw); go_simp⟩) (by assumption) ?_
      simp only [Act.put, List.setIfInBounds_toArray, List.set_cons_zero, List.set_cons_succ]
      refine takeH (i := 11) (some 15) (.pointer (some ⟨w.heap.size, 0, none⟩)) rfl rfl (by kernel_rfl) (by kernel_rfl) (by kernel_rfl) (fun _ _ _ h => h) (Or.inl ⟨by rfl, fun w hSw => by (try dsimp only at hSw); go_simp⟩) (by assumption) ?_
      simp only [Act.put, List.setIfInBounds_toArray, List.set_cons_zero, List.set_cons_succ]
      refine takeH (i := 12) (some 16) (.slice a n cap) rfl rfl (by kernel_rfl) (by kernel_rfl) (by kernel_rfl) (fun _ _ _ h => h) (Or.inl ⟨by rfl, fun w hSw => by (try dsimp only at hSw); go_simp⟩) (by assumption) ?_
      simp only [Act.put, List.setIfInBounds_toArray, List.set_cons_zero, List.set_cons_succ]
      refine takeH (i := 14) (some 18) (.pointer (some ⟨w.heap.size, 1, none⟩)) rfl rfl (by kernel_rfl) (by kernel_rfl) (by kernel_rfl) (fun _ _ _ h => h) (Or.inl ⟨by rfl, fun w hSw => by (try dsimp only at hSw); go_simp⟩) (by assumption) ?_
      simp only [Act.put, List.setIfInBounds_toArray, List.set_cons_zero, List.set_cons_succ]
      refine takeH (i := 15) (some 19) (.slice ak m capk) rfl rfl (by kernel_rfl) (by kernel_rfl) (by kernel_rfl) (fun _ _ _ h => h) (Or.inl ⟨by rfl, fun w hSw => by (try dsimp only at hSw); go_simp⟩) (by assumption) ?_
      simp only [Act.put, List.setIfInBounds_toArray, List.set_cons_zero, List.set_cons_succ]
      refine takeH (i := 16) (some 20) (.int .i64 m) rfl rfl (by kernel_rfl) (by kernel_rfl) (by kernel_rfl) (fun _ _ _ h => h) (Or.inl ⟨by rfl, fun w hSw => by (try dsimp only at hSw); go_simp⟩) (by assumption) ?_
      simp only [Act.put, List.setIfInBounds_toArray, List.set_cons_zero, List.set_cons_succ]
      refine takeH (i := 17) (some 21) (.bool t) rfl rfl (by kernel_rfl) (by kernel_rfl) (by kernel_rfl) (fun _ _ _ h => h) (Or.inl ⟨by rfl, fun w hSw => by (try dsimp only at hSw); go_simp⟩) (by assumption) ?_
      simp only [Act.put, List.setIfInBounds_toArray, List.set_cons_zero, List.set_cons_succ]
      refine wpAnyH_ready (rs := [13]) (by kernel_rfl) (by simp) ?_
      refine AllReadyH.cons rfl (fun K hK => ?_) AllReadyH.nil
      go_simp
      refine (forkSpec _ xs B w1 (hv.c.on bb1 hB) (by omega)).mono ?_
      rintro e w2 ⟨rfl, rfl⟩
      go_simp
      refine hK.out _ _ ⟨X1.cell 0, X1.cell 1⟩ (fun hHeld2 => ?_)
      clear hK K hHeld1
      obtain ⟨q, hq⟩ : ∃ q, hasFork xs = q := ⟨_, rfl⟩
      rw [hq]
      by_cases hqt : q = t
      · have HE : Hid (progOk xs kss = kss.all kidOk) := prog_all HP.out (by omega) (by rw [hq, hqt, hm]; exact ht'.symm)
        subst hqt
        have d4 : (q != q) = false := by simp
        clear hq ht ht'
        refine takeH (i := 18) (some 22) (.bool false) rfl rfl (by kernel_rfl) (by kernel_rfl) (by kernel_rfl) (fun _ _ _ h => h) (Or.inl ⟨by rfl, fun w hSw => by (try dsimp only at hSw); go_simp⟩) (by assumption) ?_
        simp only [Act.put, List.setIfInBounds_toArray, List.set_cons_zero, List.set_cons_succ]
        refine takeH (i := 19) (some 23) (.bool false) rfl rfl (by kernel_rfl) (by kernel_rfl) (by kernel_rfl) (fun _ _ _ h => h) (Or.inl ⟨by rfl, fun w hSw => by (try dsimp only at hSw); go_simp⟩) (by assumption) ?_
        simp only [Act.put, List.setIfInBounds_toArray, List.set_cons_zero, List.set_cons_succ]
        refine wpAnyH_done (by kernel_rfl) ?_ _
        clear hHeld2
        have hvk := hv.k
        have HV := (show Hid _ from hvk)
        clear hvk
        obtain ⟨g, hg⟩ : ∃ g, w.heap.size = g := ⟨_, rfl⟩
        rw [hg] at hB bb1 X1 ⊢
        have hgw : g < w1.heap.size := X1.lt
        have y0 := X1.cell 1
        go_wp2
        clear y0
        go_loopw [3] (fun i' wr => ∃ k : Nat, k ≤ m ∧ i' = .int .i64 k ∧ (∀ j (h : j < kss.length), j < k → kidOk kss[j] = true) ∧ Below g w wr ∧ Blk wr g #[.slice a n cap, .slice ak m capk] 62) (fun i' _ => m - (intOf i').toNat)
        case atStart => exact ⟨0, Nat.zero_le _, rfl, fun j _ h => by omega, bb1, X1⟩
        case round =>
          obtain ⟨k, hk, rfl, hall, hb, X⟩ := hrel
          have y1 := X.cell 1
          have hsz : g ≤ wr.heap.size := by have := X.lt; omega
          by_cases hlt : k < m
          · obtain ⟨b, off, rfl, hbB, hc⟩ := SeesK.open HV.out (by omega)
            obtain ⟨s, hs1, hs2⟩ := hc k (by omega)
            have a0 := (hb.cell (p := ⟨b, off + k, none⟩) (by show b < g; omega)).trans hs1
            have cK := kidSpec _ _ B wr (hs2.on hb hB) (by omega) (HA3.out _ (List.getElem_mem (show k < kss.length by omega)))
            have HAl := (show Hid _ from hall)
            have i1 : (k : Int) < m := by omega
            by_cases hko : kidOk kss[k] = true
            · have HF : Hid (∀ j (h : j < kss.length), j < k + 1 → kidOk kss[j] = true) := fun j hj hjk => by
                rcases Nat.lt_succ_iff_lt_or_eq.1 hjk with h | h
                · exact HAl.out j hj h
                · subst h; exact hko
              rw [hko] at cK
              clear hall hc hs1 hs2 hko
              go_wp2_with fail
              refine cK.mono ?_
              rintro e w3 ⟨rfl, hb3⟩
              clear cK
              go_wp2
              go_roundw
              case rel => exact ⟨k + 1, by omega, by go_num, HF.out, hb.trans (hb3.mono hsz), X.on hb3 X.lt⟩
              case measure => simp [intOf]; omega
            · have hko' : kidOk kss[k] = false := by simpa using hko
              have HF : Hid (false = progOk xs kss) := by
                show _ = _
                rw [HE.out]
                exact (List.all_eq_false.2 ⟨kss[k], List.getElem_mem (by omega), by simp [hko']⟩).symm
              rw [hko'] at cK
              clear hall hc hs1 hs2 hko hko'
              go_wp2_with fail
              refine cK.mono ?_
              rintro e w3 ⟨rfl, hb3⟩
              clear cK
              go_wp2
              go_ret
              exact ⟨ret_b HF.out, by rw [hg]; exact hb.trans (hb3.mono hsz)⟩
          · have HF : Hid (true = progOk xs kss) := by
              show _ = _
              rw [HE.out]
              exact (List.all_eq_true.2 fun ks hks => by
                obtain ⟨j, hj, rfl⟩ := List.mem_iff_getElem.1 hks
                exact hall j hj (by omega)).symm
            obtain rfl : k = m := by omega
            clear hall
            go_wp2
            go_ret
            exact ⟨ret_b HF.out, by rw [hg]; exact hb⟩
      · have HF : Hid (false = progOk xs kss) := (prog_no3 (by rw [hq, hm, ht']; exact hqt)).symm
        have d4 : (q != t) = true := by simp [hqt]
        clear hq ht ht'
        refine takeH (i := 18) (some 22) (.bool true) rfl rfl (by kernel_rfl) (by kernel_rfl) (by kernel_rfl) (fun _ _ _ h => h) (Or.inl ⟨by rfl, fun w hSw => by (try dsimp only at hSw); go_simp⟩) (by assumption) ?_
        simp only [Act.put, List.setIfInBounds_toArray, List.set_cons_zero, List.set_cons_succ]
        refine takeH (i := 19) (some 23) (.bool true) rfl rfl (by kernel_rfl) (by kernel_rfl) (by kernel_rfl) (fun _ _ _ h => h) (Or.inl ⟨by rfl, fun w hSw => by (try dsimp only at hSw); go_simp⟩) (by assumption) ?_
        simp only [Act.put, List.setIfInBounds_toArray, List.set_cons_zero, List.set_cons_succ]
        refine wpAnyH_done (by kernel_rfl) ?_ _
        clear hHeld2
        go_wp2
        go_ret
        exact ⟨ret_b HF.out, bb1⟩

end Ops
end Go.Proofs.Ytajbmokidcdfnaa
/- What the specification's Serial answers. -/
set_option linter.unusedVariables false
set_option linter.unusedSimpArgs false
namespace Go.Proofs.Ytajbmokidcdfnaa
open Go.RowKit
namespace Ops
open Bas Flat

set_option maxRecDepth 100000 in
set_option maxHeartbeats 12800000 in
theorem specSerial (vC vK vO vc vm : Value) (xs : List O4) (kss : List (List O4)) (zs : List Int) (t : Th) (B : Nat) (w : World) (hP : SeesP B w vC vK xs kss) (hO : Ints.Sees B w vO zs) (hT : SeeT B w vc vm t) (hB : B ≤ w.heap.size) (hf : Fits xs kss) (hzl : zs.length ≤ 1048576) :
    Calls Try.prog 36 #[.agg #[vC, vK], vO, .agg #[vc, vm, .int .i64 t.n]] w (SerAns xs kss zs t w) := by
  obtain ⟨g, hg⟩ : ∃ g, w.heap.size = g := ⟨_, rfl⟩
  have a0 := alloc_below w (.cells #[vC, vK] 62)
  have X0 := Blk.new w #[vC, vK] 62
  obtain ⟨tn, htn⟩ : ∃ n, t.n = n := ⟨_, rfl⟩
  obtain ⟨w0, hw0⟩ : ∃ W, w.alloc (.cells #[vC, vK] 62) = W := ⟨_, rfl⟩
  have z0 : w0.heap.size = g + 1 := by rw [← hw0, ← hg]; simp
  rw [hw0] at a0 X0
  have a1 := alloc_below w0 (.cells #[vc, vm, .int .i64 tn] 49)
  have X1 := Blk.new w0 #[vc, vm, .int .i64 tn] 49
  obtain ⟨w1, hw1⟩ : ∃ W, w0.alloc (.cells #[vc, vm, .int .i64 tn] 49) = W := ⟨_, rfl⟩
  have z1 : w1.heap.size = g + 2 := by rw [← hw1]; simp; omega
  rw [hw1] at a1 X1
  have a2 := alloc_below w1 (.cells #[.int .i64 0, .slice none 0 0, .slice none 0 0, .slice none 0 0, .int .i64 0] 57)
  have X2 := Blk.new w1 #[.int .i64 0, .slice none 0 0, .slice none 0 0, .slice none 0 0, .int .i64 0] 57
  obtain ⟨w2, hw2⟩ : ∃ W, w1.alloc (.cells #[.int .i64 0, .slice none 0 0, .slice none 0 0, .slice none 0 0, .int .i64 0] 57) = W := ⟨_, rfl⟩
  have z2 : w2.heap.size = g + 3 := by rw [← hw2]; simp; omega
  rw [hw2] at a2 X2
  have bb : Below g w w2 := by rw [← hg]; exact (a0.trans (a1.mono (by omega))).trans (a2.mono (by omega))
  have X0 := (X0.on a1 (by omega)).on a2 (by omega)
  have X1 := X1.on a2 (by omega)
  rw [hg] at X0 hB
  rw [z0] at X1
  rw [z1] at X2
  have x00 := X0.cell 0; have x01 := X0.cell 1
  have x10 := X1.cell 0; have x11 := X1.cell 1; have x12 := X1.cell 2
  obtain ⟨aC, cC, rfl⟩ := hP.c.form
  obtain ⟨aK, cK, rfl⟩ := hP.k.form'
  obtain ⟨aO, cO, rfl⟩ := hO.form
  obtain ⟨ac, cc, rfl⟩ := hT.c.form
  obtain ⟨am, cm, rfl⟩ := hT.m.form
  have hB2 : B ≤ w2.heap.size := by omega
  have cP := progSpec _ _ xs kss B w2 (hP.on bb hB) hB2 hf
  obtain ⟨bP, hbP⟩ : ∃ b, progOk xs kss = b := ⟨_, rfl⟩
  rw [hbP] at cP
  have hbb : ∀ W, Below w2.heap.size w2 W → Below g w W := fun W b => bb.trans (b.mono (by omega))
  have HG := (show Hid _ from hg)
  have hgz : g + 3 ≤ w2.heap.size := by omega
  rw [htn]
  clear a0 a1 a2 z2
  cases bP with
  | false =>
    have HF : Hid (serOk xs kss zs t = false) := by show _ = _; unfold serOk; rw [hbP]; rfl
    clear hbP
    go_enter Try.func36, Try.ntmps36
    go_wp2_with fail
    refine cP.mono ?_
    rintro e w3 ⟨rfl, b3⟩
    clear cP x00 x01 x10 x11 x12 hw0 hw1 hw2
    have X0 := X0.on b3 (Nat.lt_of_lt_of_le (show g < g + 3 by omega) hgz)
    have X1 := X1.on b3 (Nat.lt_of_lt_of_le (show g + 1 < g + 3 by omega) hgz)
    have X2 := X2.on b3 (Nat.lt_of_lt_of_le (show g + 2 < g + 3 by omega) hgz)
    have c3 := hbb _ b3
    have hz3 := b3.size
    have hgz3 : g + 3 ≤ w3.heap.size := by omega
    have r0 := fun i => X2.cell i; have rf := fun i => X2.froz i
    go_wp2
    refine bodyPost_ret (v := .agg #[.int .i64 0, .slice none 0 0, .slice none 0 0, .slice none 0 0, .int .i64 0]) (by simp [results, Try.results36, go_sem, r0]) rfl ?_
    refine ser_bad HF.out ?_
    rw [HG.out]
    exact ((((c3.setCell (p := ⟨g + 2, 0, none⟩) (by show g ≤ g + 2; omega) _).setCell (p := ⟨g + 2, 1, none⟩) (by show g ≤ g + 2; omega) _).setCell (p := ⟨g + 2, 2, none⟩) (by show g ≤ g + 2; omega) _).setCell (p := ⟨g + 2, 3, none⟩) (by show g ≤ g + 2; omega) _).setCell (p := ⟨g + 2, 4, none⟩) (by show g ≤ g + 2; omega) _
  | true =>
  obtain ⟨hcode, hk3, hkids⟩ := prog_out hbP
  obtain ⟨bT, hbT⟩ : ∃ b, thOk t = b := ⟨_, rfl⟩
  have cT := fun W (b : Below g w W) (hz : B ≤ W.heap.size) => specThOk (.slice ac t.c.length cc) (.slice am t.m.length cm) t B W (hT.on b hB) hz
  rw [hbT, htn] at cT
  go_enter Try.func36, Try.ntmps36
  go_wp2_with fail
  refine cP.mono ?_
  rintro e w3 ⟨rfl, b3⟩
  clear cP x00 x01 x10 x11 x12 hw0 hw1 hw2
  have X0 := X0.on b3 (Nat.lt_of_lt_of_le (show g < g + 3 by omega) hgz)
  have X1 := X1.on b3 (Nat.lt_of_lt_of_le (show g + 1 < g + 3 by omega) hgz)
  have X2 := X2.on b3 (Nat.lt_of_lt_of_le (show g + 2 < g + 3 by omega) hgz)
  have c3 := hbb _ b3
  have hz3 := b3.size
  have hgz3 : g + 3 ≤ w3.heap.size := by omega
  have x10 := X1.cell 0; have x11 := X1.cell 1; have x12 := X1.cell 2
  go_wp2_with fail
  refine (cT _ c3 (by omega)).mono ?_
  rintro e w4 ⟨rfl, b4⟩
  clear cT x10 x11 x12
  have X0 := X0.on b4 (by omega)
  have X1 := X1.on b4 (by omega)
  have X2 := X2.on b4 (by omega)
  have c4 := c3.trans (b4.mono (by omega))
  have hz4 := b4.size
  cases bT with
  | false =>
    have HF : Hid (serOk xs kss zs t = false) := by show _ = _; unfold serOk; rw [hbP, hbT]; simp
    clear hbP hbT
    have r0 := fun i => X2.cell i; have rf := fun i => X2.froz i
    go_wp2
    refine bodyPost_ret (v := .agg #[.int .i64 0, .slice none 0 0, .slice none 0 0, .slice none 0 0, .int .i64 0]) (by simp [results, Try.results36, go_sem, r0]) rfl ?_
    refine ser_bad HF.out ?_
    rw [HG.out]
    exact ((((c4.setCell (p := ⟨g + 2, 0, none⟩) (by show g ≤ g + 2; omega) _).setCell (p := ⟨g + 2, 1, none⟩) (by show g ≤ g + 2; omega) _).setCell (p := ⟨g + 2, 2, none⟩) (by show g ≤ g + 2; omega) _).setCell (p := ⟨g + 2, 3, none⟩) (by show g ≤ g + 2; omega) _).setCell (p := ⟨g + 2, 4, none⟩) (by show g ≤ g + 2; omega) _
  | true =>
  obtain ⟨nk, hnk⟩ : ∃ n, kss.length = n := ⟨_, rfl⟩
  have cO := l7OrderC (.slice aO zs.length cO) zs nk B w4 (hO.on c4 hB) (by omega) hzl (by omega)
  obtain ⟨bO, hbO⟩ : ∃ b, ordOk zs nk = b := ⟨_, rfl⟩
  rw [hbO] at cO
  have x00 := X0.cell 0; have x01 := X0.cell 1
  have HNK := (show Hid _ from hnk)
  rw [hnk] at x01
  have hnki : (nk : Int) ≤ 3 := by omega
  have hk3' : nk ≤ 3 := by omega
  go_wp2_with fail
  try rw [hnk]
  refine cO.mono ?_
  rintro e w5 ⟨v5, ys, rfl, O5, hys, b5⟩
  clear cO
  have X0 := X0.on b5 (by omega)
  have X1 := X1.on b5 (by omega)
  have X2 := X2.on b5 (by omega)
  have c5 := c4.trans (b5.mono (by omega))
  have hz5 := b5.size
  have HP2 := (show Hid _ from hbP)
  have HT2 := (show Hid _ from hbT)
  cases bO with
  | false =>
    have HF : Hid (serOk xs kss zs t = false) := by show _ = _; unfold serOk; rw [hnk, hbO]; simp
    clear hbP hbT hbO hys x00 x01
    have r0 := fun i => X2.cell i; have rf := fun i => X2.froz i
    go_wp2
    refine bodyPost_ret (v := .agg #[.int .i64 0, .slice none 0 0, .slice none 0 0, .slice none 0 0, .int .i64 0]) (by simp [results, Try.results36, go_sem, r0]) rfl ?_
    refine ser_bad HF.out ?_
    rw [HG.out]
    exact ((((c5.setCell (p := ⟨g + 2, 0, none⟩) (by show g ≤ g + 2; omega) _).setCell (p := ⟨g + 2, 1, none⟩) (by show g ≤ g + 2; omega) _).setCell (p := ⟨g + 2, 2, none⟩) (by show g ≤ g + 2; omega) _).setCell (p := ⟨g + 2, 3, none⟩) (by show g ≤ g + 2; omega) _).setCell (p := ⟨g + 2, 4, none⟩) (by show g ≤ g + 2; omega) _
  | true =>
  have HF : Hid (serOk xs kss zs t = true) := by show _ = _; unfold serOk; rw [hbP, hbT, hnk, hbO]; rfl
  have hys := hys rfl
  subst hys
  obtain ⟨hnm, -⟩ := ordOk_named hbO
  have hfn : ∀ x ∈ fullOrder zs nk, 0 ≤ x ∧ x < (nk : Int) := full_named hnm
  obtain ⟨a5, k5, rfl⟩ := O5.form
  obtain ⟨mo, hmo⟩ : ∃ n, (fullOrder zs nk).length = n := ⟨_, rfl⟩
  rw [hmo] at O5 ⊢
  clear x00 x01 hbO hnm
  obtain ⟨nx, hnx⟩ : ∃ n, xs.length = n := ⟨_, rfl⟩
  obtain ⟨ntc, hntc⟩ : ∃ n, t.c.length = n := ⟨_, rfl⟩
  obtain ⟨ntm, hntm⟩ : ∃ n, t.m.length = n := ⟨_, rfl⟩
  have hP5 := hP.on c5 hB
  have hT5 := hT.on c5 hB
  rw [hnx, hnk] at hP5
  rw [hntc, hntm] at hT5
  rw [hnx, hnk] at X0
  rw [hntc, hntm] at X1
  clear hnk
  have x00 : w5.cell? ⟨g, 0, none⟩ = some (.slice aC nx cC) := X0.cell 0
  have x01 : w5.cell? ⟨g, 1, none⟩ = some (.slice aK nk cK) := X0.cell 1
  have x10 : w5.cell? ⟨g + 1, 0, none⟩ = some (.slice ac ntc cc) := X1.cell 0
  have x11 : w5.cell? ⟨g + 1, 1, none⟩ = some (.slice am ntm cm) := X1.cell 1
  have x12 : w5.cell? ⟨g + 1, 2, none⟩ = some (.int .i64 tn) := X1.cell 2
  go_wp2_with fail
  have hS0 : (fun W => W.cell? ⟨g, 0, none⟩ = some (.slice aC nx cC) ∧ W.cell? ⟨g, 1, none⟩ = some (.slice aK nk cK) ∧ W.cell? ⟨g + 1, 0, none⟩ = some (.slice ac ntc cc) ∧ W.cell? ⟨g + 1, 1, none⟩ = some (.slice am ntm cm) ∧ W.cell? ⟨g + 1, 2, none⟩ = some (.int .i64 tn)) w5.drew := ⟨x00, x01, x10, x11, x12⟩
  refine wp_region_held_drew (S := (fun W => W.cell? ⟨g, 0, none⟩ = some (.slice aC nx cC) ∧ W.cell? ⟨g, 1, none⟩ = some (.slice aK nk cK) ∧ W.cell? ⟨g + 1, 0, none⟩ = some (.slice ac ntc cc) ∧ W.cell? ⟨g + 1, 1, none⟩ = some (.slice am ntm cm) ∧ W.cell? ⟨g + 1, 2, none⟩ = some (.int .i64 tn))) (by kernel_rfl) hS0 (fun hHeld => ?_)
  obtain ⟨WD, hWD⟩ : ∃ W, w5.drew = W := ⟨_, rfl⟩
  have cD : Below g w WD := by rw [← hWD]; exact c5.drew
  have bD : Below w5.heap.size w5 WD := by rw [← hWD]; exact (Below.refl _ _).drew
  have XD := X2.on bD X2.lt
  have OD := O5.on bD (Nat.le_refl _)
  have hzD : w5.heap.size ≤ WD.heap.size := bD.size
  rw [hWD] at hS0 hHeld ⊢
  clear hWD x00 x01 x10 x11 x12
  have hcl : ∀ W, Below WD.heap.size WD W → (fun W => W.cell? ⟨g, 0, none⟩ = some (.slice aC nx cC) ∧ W.cell? ⟨g, 1, none⟩ = some (.slice aK nk cK) ∧ W.cell? ⟨g + 1, 0, none⟩ = some (.slice ac ntc cc) ∧ W.cell? ⟨g + 1, 1, none⟩ = some (.slice am ntm cm) ∧ W.cell? ⟨g + 1, 2, none⟩ = some (.int .i64 tn)) W := fun W b => ⟨(b.cell (p := ⟨g, _, none⟩) (by show g < _; omega)).trans hS0.1, (b.cell (p := ⟨g, _, none⟩) (by show g < _; omega)).trans hS0.2.1, (b.cell (p := ⟨g + 1, _, none⟩) (by show g + 1 < _; omega)).trans hS0.2.2.1, (b.cell (p := ⟨g + 1, _, none⟩) (by show g + 1 < _; omega)).trans hS0.2.2.2.1, (b.cell (p := ⟨g + 1, _, none⟩) (by show g + 1 < _; omega)).trans hS0.2.2.2.2⟩
  refine takeH (i := 0) (some 29) (.pointer (some ⟨g, 0, none⟩)) rfl rfl (by kernel_rfl) (by kernel_rfl) (by kernel_rfl) (fun _ _ _ h => h) (Or.inl ⟨by rfl, fun w hSw => by (try dsimp only at hSw); go_simp⟩) hS0 ?_
  simp only [Act.put, List.setIfInBounds_toArray, List.set_cons_zero, List.set_cons_succ]
  refine takeH (i := 1) (some 30) (.slice aC nx cC) rfl rfl (by kernel_rfl) (by kernel_rfl) (by kernel_rfl) (fun _ _ _ h => h) (Or.inl ⟨by rfl, fun w hSw => by (try dsimp only at hSw); go_simp⟩) hS0 ?_
  simp only [Act.put, List.setIfInBounds_toArray, List.set_cons_zero, List.set_cons_succ]
  refine takeH (i := 2) (some 31) (.pointer (some ⟨g, 1, none⟩)) rfl rfl (by kernel_rfl) (by kernel_rfl) (by kernel_rfl) (fun _ _ _ h => h) (Or.inl ⟨by rfl, fun w hSw => by (try dsimp only at hSw); go_simp⟩) hS0 ?_
  simp only [Act.put, List.setIfInBounds_toArray, List.set_cons_zero, List.set_cons_succ]
  refine takeH (i := 3) (some 32) (.slice aK nk cK) rfl rfl (by kernel_rfl) (by kernel_rfl) (by kernel_rfl) (fun _ _ _ h => h) (Or.inl ⟨by rfl, fun w hSw => by (try dsimp only at hSw); go_simp⟩) hS0 ?_
  simp only [Act.put, List.setIfInBounds_toArray, List.set_cons_zero, List.set_cons_succ]
  refine takeH (i := 4) (some 33) (.slice a5 mo k5) rfl rfl (by kernel_rfl) (by kernel_rfl) (by kernel_rfl) (fun _ _ _ h => h) (Or.inl ⟨by rfl, fun w hSw => by (try dsimp only at hSw); go_simp⟩) hS0 ?_
  simp only [Act.put, List.setIfInBounds_toArray, List.set_cons_zero, List.set_cons_succ]
  refine takeH (i := 6) (some 35) (.agg #[.slice ac ntc cc, .slice am ntm cm, .int .i64 tn]) rfl rfl (by kernel_rfl) (by kernel_rfl) (by kernel_rfl) (fun _ _ _ h => h) (Or.inl ⟨by rfl, fun w hSw => by (try dsimp only at hSw); go_simp⟩) hS0 ?_
  simp only [Act.put, List.setIfInBounds_toArray, List.set_cons_zero, List.set_cons_succ]
  obtain ⟨w6, m1, m2, m3, m4⟩ := Ints.makeI 4 (by omega) WD WD.heap.size (Nat.le_refl _)
  obtain ⟨g6, hg6⟩ : ∃ q, WD.heap.size = q := ⟨_, rfl⟩
  have m3 : (Instr.makeSlice 23 (.int .i64 4) (.int .i64 4)).run Try.prog WD = .ok (.slice (some ⟨g6, 0, none⟩) 4 4) w6 := by rw [← hg6]; exact m3
  have OM : Ints.Owns WD.heap.size w6 (.slice (some ⟨g6, 0, none⟩) 4 4) (zeros 4) := by rw [← hg6]; exact m4
  have hG6 := (show Hid _ from hg6)
  clear hg6
  refine wpAnyH_ready (rs := [5]) (by kernel_rfl) (by simp) ?_
  refine AllReadyH.cons rfl (fun K hK => ?_) AllReadyH.nil
  go_simp
  refine hK.out _ _ (hcl _ m1) (fun _ => ?_)
  clear hK K
  try simp only [Act.put, List.setIfInBounds_toArray, List.set_cons_zero, List.set_cons_succ]
  clear m3 m4
  have c6 := cD.trans (m1.mono (by omega))
  have hz6 := m1.size
  have cW := walkF (.slice aC nx cC) xs w6.heap.size w6 (Sees.up (B := B) (hP5.c.on ((bD.trans (m1.mono hzD)).mono (show B ≤ w5.heap.size by omega)) (Nat.le_refl _)) (by omega)) (Nat.le_refl _) hcode aK a5 nk cK mo k5 kss (fullOrder zs nk) (SeesK.up (SeesK.on hP5.k ((bD.trans (m1.mono hzD)).mono (show B ≤ w5.heap.size by omega)) (Nat.le_refl _)) (by omega)) (Ints.Sees.up (OD.on m1 (Nat.le_refl _)).sees (Nat.le_refl _)) HNK.out hk3' hmo hfn hkids (.slice (some ⟨g6, 0, none⟩) 4 4) (zeros 4) OM.sees (by decide) (.slice ac ntc cc) (.slice am ntm cm) t ⟨Ints.Sees.up (hT5.c.on ((bD.trans (m1.mono hzD)).mono (show B ≤ w5.heap.size by omega)) (Nat.le_refl _)) (by omega), Ints.Sees.up (hT5.m.on ((bD.trans (m1.mono hzD)).mono (show B ≤ w5.heap.size by omega)) (Nat.le_refl _)) (by omega)⟩ HT2.out
  rw [htn] at cW
  refine wpAnyH_ready (rs := [7]) (by kernel_rfl) (by simp) ?_
  refine AllReadyH.cons rfl (fun K hK => ?_) AllReadyH.nil
  go_simp
  refine cW.mono ?_
  clear cW
  rintro e w7 ⟨⟨v7, vc7, vm7, q, rfl, hE, O7, T7, dj1, dj2, ho, hrk, hqk⟩, b7⟩
  obtain ⟨a7, k7, rfl⟩ := O7.form
  obtain ⟨ac7, kc7, rfl⟩ := T7.c.form
  obtain ⟨am7, km7, rfl⟩ := T7.m.form
  obtain ⟨qo, qr, qt⟩ := q
  simp only at ho hrk hqk O7 T7
  have HA : Hid (RunTold xs kss zs t ⟨qo, qr, qt⟩) := .inl ⟨HF.out, by rw [HNK.out]; exact hE, ho, hrk, hqk⟩
  have b67 := m1.trans (b7.mono hz6)
  have hz7 := b7.size
  have X7 := XD.on b67 XD.lt
  have c7 := cD.trans (b67.mono (by omega))
  obtain ⟨qn, hqn⟩ : ∃ x, qt.n = x := ⟨_, rfl⟩
  have HQN := (show Hid _ from hqn)
  simp only
  rw [hqn]
  have r0 := fun i => X7.cell i; have rf := fun i => X7.froz i
  clear hE ho hrk hqk hqn
  go_simp
  refine hK.out _ _ (hcl _ b67) (fun _ => ?_)
  clear hK K
  try simp only [Act.put, List.setIfInBounds_toArray, List.set_cons_zero, List.set_cons_succ]
  have hkk : ∀ {b i : Nat} {u : Option Value}, b ≠ g + 2 → w7.cell? ⟨b, i, none⟩ = u → ((((((w7).setCell ⟨g + 2, 0, none⟩ (.int .i64 qo)).setCell ⟨g + 2, 1, none⟩ (.slice a7 qr.length k7)).setCell ⟨g + 2, 2, none⟩ (.slice ac7 qt.c.length kc7)).setCell ⟨g + 2, 3, none⟩ (.slice am7 qt.m.length km7)).setCell ⟨g + 2, 4, none⟩ (.int .i64 qn)).cell? ⟨b, i, none⟩ = u := fun hb h => ((cell_off hb _).trans ((cell_off hb _).trans ((cell_off hb _).trans ((cell_off hb _).trans (cell_off hb _))))).trans h
  have h7 := hcl _ b67
  refine wpAnyH_ready (rs := [8]) (by kernel_rfl) (by simp) ?_
  refine AllReadyH.cons rfl (fun K hK => ?_) AllReadyH.nil
  go_simp
  refine hK.out _ _ (⟨hkk (by omega) h7.1, hkk (by omega) h7.2.1, hkk (by omega) h7.2.2.1, hkk (by omega) h7.2.2.2.1, hkk (by omega) h7.2.2.2.2⟩) (fun _ => ?_)
  clear hK K
  try simp only [Act.put, List.setIfInBounds_toArray, List.set_cons_zero, List.set_cons_succ]
  refine wpAnyH_done (by kernel_rfl) ?_ _
  go_wp2
  refine bodyPost_ret (v := .agg #[.int .i64 qo, .slice a7 qr.length k7, .slice ac7 qt.c.length kc7, .slice am7 qt.m.length km7, .int .i64 qn]) (by simp [results, Try.results36, go_sem, r0]) rfl ?_
  have hk5 : ∀ k, k ≠ g + 2 → ((((((w7).setCell ⟨g + 2, 0, none⟩ (.int .i64 qo)).setCell ⟨g + 2, 1, none⟩ (.slice a7 qr.length k7)).setCell ⟨g + 2, 2, none⟩ (.slice ac7 qt.c.length kc7)).setCell ⟨g + 2, 3, none⟩ (.slice am7 qt.m.length km7)).setCell ⟨g + 2, 4, none⟩ (.int .i64 qn)).heap[k]? = w7.heap[k]? := fun k hk => by rw [Below.heap_setCell _ ⟨g + 2, 4, none⟩ _ k hk, Below.heap_setCell _ ⟨g + 2, 3, none⟩ _ k hk, Below.heap_setCell _ ⟨g + 2, 2, none⟩ _ k hk, Below.heap_setCell _ ⟨g + 2, 1, none⟩ _ k hk, Below.heap_setCell _ ⟨g + 2, 0, none⟩ _ k hk]
  have hgw := HG.out
  refine ⟨⟨qo, qr, qt⟩, _, _, _, by rw [← HQN.out], HA.out, (O7.keep fun k e => hk5 k (by have := (O7.at k e).1; omega)).mono (by omega), ⟨(T7.c.keep fun k e => hk5 k (by have := (T7.c.at k e).1; omega)).mono (by omega), (T7.m.keep fun k e => hk5 k (by have := (T7.m.at k e).1; omega)).mono (by omega), T7.d⟩, dj1, dj2, ?_⟩
  rw [hgw]
  exact ((((c7.setCell (p := ⟨g + 2, 0, none⟩) (by show g ≤ g + 2; omega) _).setCell (p := ⟨g + 2, 1, none⟩) (by show g ≤ g + 2; omega) _).setCell (p := ⟨g + 2, 2, none⟩) (by show g ≤ g + 2; omega) _).setCell (p := ⟨g + 2, 3, none⟩) (by show g ≤ g + 2; omega) _).setCell (p := ⟨g + 2, 4, none⟩) (by show g ≤ g + 2; omega) _
end Ops
end Go.Proofs.Ytajbmokidcdfnaa
