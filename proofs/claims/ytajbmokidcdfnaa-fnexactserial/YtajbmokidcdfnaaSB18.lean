/- Several texts of one proof, in build order: SerCase11. -/
import Derived.Deep.QuietTactic
import Derived.BigQuiet
import Derived.Test.YtajbmokidcdfnaaSB3
import Derived.Test.YtajbmokidcdfnaaSB5
import Derived.Test.YtajbmokidcdfnaaSB9
import Derived.Test.YtajbmokidcdfnaaSB10
import Derived.Test.YtajbmokidcdfnaaSB17
/- A round of l7Walk: an op of kind 11. -/
set_option linter.unusedVariables false
set_option linter.unusedSimpArgs false
namespace Go.Proofs.Ytajbmokidcdfnaa
open Go.RowKit
namespace Ops
open Bas Flat
theorem own_someF {B : Nat} {W : World} {a : Option Addr} {n c : Nat} {zs : List Int} (h : Ints.Owns B W (.slice a n c) zs) (hn : 0 < n) : ∃ g, a = some ⟨g, 0, none⟩ := by
  unfold Ints.Owns at h
  rcases h.2 with ⟨e, -⟩ | ⟨g, cap, cur, e, -⟩
  · injection e with _ e _; omega
  · injection e with e _ _; exact ⟨g, e⟩
theorem cell_off {W : World} {p b i j : Nat} (h : b ≠ p) (u : Value) : (W.setCell ⟨p, j, none⟩ u).cell? ⟨b, i, none⟩ = W.cell? ⟨b, i, none⟩ := by
  have := Below.heap_setCell W ⟨p, j, none⟩ u b h
  simp [World.cell?, this]
theorem rd_at {l : List Int} {a : Nat} (h : a < l.length) : rd l (a : Int) = l[a] := by unfold rd; rw [Int.toNat_natCast, List.getD_eq_getElem?_getD, List.getElem?_eq_getElem h]; rfl
theorem take_drop_set {xs ys : List Int} {k : Nat} (h : k < xs.length) (h' : k < ys.length) : (xs.take k ++ ys.drop k).set k xs[k] = xs.take (k + 1) ++ ys.drop (k + 1) := by
  have hl : (xs.take k).length = k := by rw [List.length_take]; omega
  rw [List.set_append_right _ _ (by omega), hl, Nat.sub_self, List.drop_eq_getElem_cons h', List.set_cons_zero, List.take_succ_eq_append_getElem h, List.append_assoc]
  rfl
theorem ok_ranges11 {a b c : Int} (h : okOp ⟨11, a, b, c⟩ = true) : (spans 11).elim False (fun p => (p.1.1 ≤ a ∧ a ≤ p.1.2) ∧ (p.2.1.1 ≤ b ∧ b ≤ p.2.1.2) ∧ (p.2.2.1 ≤ c ∧ c ≤ p.2.2.2)) := by
  unfold okOp opOk at h
  simp only [spans, Int.reduceEq, if_true, if_false, reduceIte, or_self, or_false, false_or, Bool.and_eq_true, inn, decide_eq_true_eq] at h ⊢
  simp only [Option.elim]
  omega
set_option maxRecDepth 1000000 in
set_option maxHeartbeats 16000000 in
theorem case11 {xs : List O4} {n : Nat} {F : List Int → Th → List Int × Th} {r : List Int} {t : Th} {w : World} {pR pS pT : Nat} {v0 v1 : Value} {wr : World} {s : Cf} {ms : List M5} {gr cr gc cc gm cm : Nat} {ak : Option Addr} {mk ck : Nat} (Q0 : Exit → Act → World → Prop) (Bc : Nat) (ax : Option Addr) (cxp : Nat)
    (c1 c2 c4 c5 c6 c7 c8 c26 c27 c28 c29 c30 c31 c32 c33 c289 c290 c291 u14 u15 u16 u17 u18 u19 u20 u21 u22 u23 u24 u25 u34 u35 u36 u37 u38 u39 u40 u41 u42 u43 u44 u45 u46 u47 u48 u49 u50 u51 u52 u53 u54 u55 u56 u57 u58 u59 u60 u61 u62 u63 u64 u65 u66 u67 u68 u69 u70 u71 u72 u73 u74 u75 u76 u77 u78 u79 u80 u81 u82 u83 u84 u85 u86 u87 u88 u89 u90 u91 u92 u93 u94 u95 u96 u97 u98 u99 u100 u101 u102 u103 u104 u105 u106 u107 u108 u109 u110 u111 u112 u113 u114 u115 u116 u117 u118 u119 u120 u121 u122 u123 u124 u125 u126 u127 u128 u129 u130 u131 u132 u133 u134 u135 u136 u137 u138 u139 u140 u141 u142 u143 u144 u145 u146 u147 u148 u149 u150 u151 u152 u153 u154 u155 u156 u157 u158 u159 u160 u161 u162 u163 u164 u165 u166 u167 u168 u169 u170 u171 u172 u173 u174 u175 u176 u177 u178 u179 u180 u181 u182 u183 u184 u185 u186 u187 u188 u189 u190 u191 u192 u193 u194 u195 u196 u197 u198 u199 u200 u201 u202 u203 u204 u205 u206 u207 u208 u209 u210 u211 u212 u213 u214 u215 u216 u217 u218 u219 u220 u221 u222 u223 u224 u225 u226 u227 u228 u229 u230 u231 u232 u233 u234 u235 u236 u237 u238 u239 u240 u241 u242 u243 u244 u245 u246 u247 u248 u249 u250 u251 u252 u253 u254 u255 u256 u257 u258 u259 u260 u261 u262 u263 u264 u265 u266 u267 u268 u269 u270 u271 u272 u273 u274 u275 u276 u277 u278 u279 u280 u281 u282 u283 u284 u285 u286 u287 u288 : Value) (hv : Sees4 Bc wr (.slice ax n cxp) xs) (hn : xs.length = n) (hn24 : n ≤ 24) (hc : codeOk xs = true) (hlt : s.pc < xs.length) (hBc : Bc ≤ wr.heap.size)
    (H : RelW xs n F r t w pR pS pT v0 v1 (.slice (some ⟨gr, 0, none⟩) 4 cr) (.slice ak mk ck) (.int .i64 s.pc) wr s ms gr cr gc cc gm cm ak mk ck) (hk : xs[s.pc].k = 11) (aK aO : Option Addr) (nk kK m kO : Nat) (kss : List (List O4)) (ord : List Int) (hc1 : c1 = .slice aK nk kK) (hc2 : c2 = .slice aO m kO) (hF : F = forkF kss ord) (hBw : Bc ≤ w.heap.size) (hK : SeesK Bc wr (.slice aK nk kK) kss) (hO : Ints.Sees Bc wr (.slice aO m kO) ord) (hnk : kss.length = nk) (hnk3 : nk ≤ 3) (hm : ord.length = m) (hnm : ∀ x ∈ ord, 0 ≤ x ∧ x < (nk : Int)) (hks : ∀ ks ∈ kss, kidOk ks = true)
    (hW : ∀ (vx : Value) (ys : List O4) (B : Nat) (W : World) (vr0 : Value) (r0 : List Int) (vc0 vm0 : Value) (t0 : Th), Sees4 B W vx ys → B ≤ W.heap.size → codeOk ys = true → hasFork ys = false → Ints.Sees B W vr0 r0 → regsOk r0 = true → SeeT B W vc0 vm0 t0 → thOk t0 = true →
      Calls Try.prog 95 #[vx, .slice none 0 0, .slice none 0 0, vr0, .agg #[vc0, vm0, .int .i64 t0.n]] W fun e w' => (∃ v' vc' vm' q, e = .returned (.agg #[.int .i64 q.out, v', vc', vm', .int .i64 q.t.n]) ∧ Ends ys t0 noF ⟨0, r0, t0, []⟩ q ∧ Ints.Owns W.heap.size w' v' q.r ∧ OwnT W.heap.size w' vc' vm' q.t ∧ Dj v' vc' ∧ Dj v' vm' ∧ (q.out = 1 ∨ q.out = 2) ∧ regsOk q.r = true ∧ thOk q.t = true) ∧ Below W.heap.size W w') :
    Code.wp Try.prog (bodyOf Try.f95.body) (Exit.then (fun a' w'' => WI xs n F r t w pR pS pT v0 v1 (.slice ax n cxp) c1 c2 c4 c5 c6 c7 c8 c26 c27 c28 c29 c30 c31 c32 c33 c289 c290 c291 a' w'' ∧ WMu n a' w'' < WMu n ⟨#[.slice ax n cxp, c1, c2, .slice (some ⟨gr, 0, none⟩) 4 cr, c4, c5, c6, c7, c8, .pointer (some ⟨pS, 0, none⟩), .pointer (some ⟨pR, 0, none⟩), .pointer (some ⟨pT, 0, none⟩), .slice ak mk ck, .int .i64 s.pc, u14, u15, u16, u17, u18, u19, u20, u21, u22, u23, u24, u25, c26, c27, c28, c29, c30, c31, c32, c33, u34, u35, u36, u37, u38, u39, u40, u41, u42, u43, u44, u45, u46, u47, u48, u49, u50, u51, u52, u53, u54, u55, u56, u57, u58, u59, u60, u61, u62, u63, u64, u65, u66, u67, u68, u69, u70, u71, u72, u73, u74, u75, u76, u77, u78, u79, u80, u81, u82, u83, u84, u85, u86, u87, u88, u89, u90, u91, u92, u93, u94, u95, u96, u97, u98, u99, u100, u101, u102, u103, u104, u105, u106, u107, u108, u109, u110, u111, u112, u113, u114, u115, u116, u117, u118, u119, u120, u121, u122, u123, u124, u125, u126, u127, u128, u129, u130, u131, u132, u133, u134, u135, u136, u137, u138, u139, u140, u141, u142, u143, u144, u145, u146, u147, u148, u149, u150, u151, u152, u153, u154, u155, u156, u157, u158, u159, u160, u161, u162, u163, u164, u165, u166, u167, u168, u169, u170, u171, u172, u173, u174, u175, u176, u177, u178, u179, u180, u181, u182, u183, u184, u185, u186, u187, u188, u189, u190, u191, u192, u193, u194, u195, u196, u197, u198, u199, u200, u201, u202, u203, u204, u205, u206, u207, u208, u209, u210, u211, u212, u213, u214, u215, u216, u217, u218, u219, u220, u221, u222, u223, u224, u225, u226, u227, u228, u229, u230, u231, u232, u233, u234, u235, u236, u237, u238, u239, u240, u241, u242, u243, u244, u245, u246, u247, u248, u249, u250, u251, u252, u253, u254, u255, u256, u257, u258, u259, u260, u261, u262, u263, u264, u265, u266, u267, u268, u269, u270, u271, u272, u273, u274, u275, u276, u277, u278, u279, u280, u281, u282, u283, u284, u285, u286, u287, u288, c289, c290, c291], []⟩ wr) Q0) ⟨#[.slice ax n cxp, c1, c2, .slice (some ⟨gr, 0, none⟩) 4 cr, c4, c5, c6, c7, c8, .pointer (some ⟨pS, 0, none⟩), .pointer (some ⟨pR, 0, none⟩), .pointer (some ⟨pT, 0, none⟩), .slice ak mk ck, .int .i64 s.pc, u14, u15, u16, u17, u18, u19, u20, u21, u22, u23, u24, u25, c26, c27, c28, c29, c30, c31, c32, c33, u34, u35, u36, u37, u38, u39, u40, u41, u42, u43, u44, u45, u46, u47, u48, u49, u50, u51, u52, u53, u54, u55, u56, u57, u58, u59, u60, u61, u62, u63, u64, u65, u66, u67, u68, u69, u70, u71, u72, u73, u74, u75, u76, u77, u78, u79, u80, u81, u82, u83, u84, u85, u86, u87, u88, u89, u90, u91, u92, u93, u94, u95, u96, u97, u98, u99, u100, u101, u102, u103, u104, u105, u106, u107, u108, u109, u110, u111, u112, u113, u114, u115, u116, u117, u118, u119, u120, u121, u122, u123, u124, u125, u126, u127, u128, u129, u130, u131, u132, u133, u134, u135, u136, u137, u138, u139, u140, u141, u142, u143, u144, u145, u146, u147, u148, u149, u150, u151, u152, u153, u154, u155, u156, u157, u158, u159, u160, u161, u162, u163, u164, u165, u166, u167, u168, u169, u170, u171, u172, u173, u174, u175, u176, u177, u178, u179, u180, u181, u182, u183, u184, u185, u186, u187, u188, u189, u190, u191, u192, u193, u194, u195, u196, u197, u198, u199, u200, u201, u202, u203, u204, u205, u206, u207, u208, u209, u210, u211, u212, u213, u214, u215, u216, u217, u218, u219, u220, u221, u222, u223, u224, u225, u226, u227, u228, u229, u230, u231, u232, u233, u234, u235, u236, u237, u238, u239, u240, u241, u242, u243, u244, u245, u246, u247, u248, u249, u250, u251, u252, u253, u254, u255, u256, u257, u258, u259, u260, u261, u262, u263, u264, u265, u266, u267, u268, u269, u270, u271, u272, u273, u274, u275, u276, u277, u278, u279, u280, u281, u282, u283, u284, u285, u286, u287, u288, c289, c290, c291], []⟩ wr := by
  conv => arg 2; whnf
  subst hc1
  subst hc2
  have hok := code_at hc hlt
  obtain ⟨b, off, rfl, hbB, hcc⟩ := hv.open (by omega)
  obtain ⟨o0, o1, o2, o3⟩ := see4 (B := Bc) hcc s.pc hlt
  have HCC := (show Hid _ from hcc)
  have hi : (s.pc : Int) < n := by omega
  have hi0 : (0 : Int) ≤ s.pc := by omega
  have hmu : n - s.pc < n - s.pc + 1 := by omega
  have HX : Hid (∀ x, xs[s.pc] = x → okOp x = true) := fun x hx => by rw [← hx]; exact hok
  obtain ⟨x, hx⟩ : ∃ x, xs[s.pc] = x := ⟨_, rfl⟩
  rw [hx] at o0 o1 o2 o3 hk hok
  have HXE : Hid (xs[s.pc] = x) := hx
  clear hx hcc HX
  obtain ⟨kk, oa, ob, oc⟩ := x
  simp only at o0 o1 o2 o3 hk
  subst hk
  have hokr := ok_ranges11 hok
  have S1 := H.st.on (alloc_below wr (.cells #[.int .i64 11, .int .i64 oa, .int .i64 ob, .int .i64 oc] 140))
  have X1 := Blk.new wr #[.int .i64 11, .int .i64 oa, .int .i64 ob, .int .i64 oc] 140
  obtain ⟨hlr, -⟩ := regsOk_out H.ok.r
  obtain ⟨tc1, tc2, tc3⟩ := th_parts H.ok.t
  have hlc := (cellsOk_out tc1).1
  have hlm := (mapOk_out tc2).1
  have hnk' : nk ≤ 1048576 := by omega
  obtain ⟨w2, bm1, bm2, bm3, bm4⟩ := Ints.makeI nk hnk' (wr.alloc (.cells #[.int .i64 11, .int .i64 oa, .int .i64 ob, .int .i64 oc] 140)) (wr.alloc (.cells #[.int .i64 11, .int .i64 oa, .int .i64 ob, .int .i64 oc] 140)).heap.size (Nat.le_refl _)
  obtain ⟨gb, hgb⟩ : ∃ g, (wr.alloc (.cells #[.int .i64 11, .int .i64 oa, .int .i64 ob, .int .i64 oc] 140)).heap.size = g := ⟨_, rfl⟩
  have hl0 : (List.replicate nk (0 : Int)).length = nk := List.length_replicate
  have F0 : FkSt w w2 pR pS pT (.slice (some ⟨gr, 0, none⟩) 4 cr) (.slice (some ⟨gc, 0, none⟩) 8 cc) (.slice (some ⟨gm, 0, none⟩) 8 cm) (.slice ak mk ck) v0 v1 ms s t gb nk (List.replicate nk 0) := FkSt.new S1 bm1 (by rw [← hgb]; unfold Ints.Owns; rw [hl0]; exact bm4) hl0
  rw [hgb] at bm3
  have bw2 : Below Bc wr w2 := ((Below.refl Bc wr).alloc hBc _).trans (bm1.mono (by simp; omega))
  obtain ⟨R, T, hRT⟩ : ∃ R T, kidsGo kss s.r ord (List.replicate nk 0) s.t = (R, T) := ⟨_, _, rfl⟩
  have hFF : F s.r s.t = (R ++ s.r.drop nk, T) := by
    rw [hF]
    show ((kidsGo kss s.r ord (List.replicate kss.length 0) s.t).1 ++ s.r.drop kss.length, (kidsGo kss s.r ord (List.replicate kss.length 0) s.t).2) = _
    rw [hnk, hRT]
  have hFO : ForkOk F := by rw [hF]; exact fork_ok hks (by omega) (fun x hx => by rw [hnk]; exact hnm x hx)
  have hp := step_fork (t0 := t) hFO H.ok hlt (by rw [HXE.out])
  rw [hFF] at hp
  have hRl : R.length = nk := by
    have := kidsGo_ok hks H.ok.r ord (List.replicate kss.length 0) s.t (fun x hx => by rw [hnk]; exact hnm x hx) H.ok.t (fun x hx => by rw [(List.mem_replicate.1 hx).2]; omega)
    rw [hnk, hRT] at this
    exact this.2.2.trans hl0
  have HP := (show Hid _ from hp)
  have HRT := (show Hid _ from hRT)
  have HRL := (show Hid _ from hRl)
  have HM := (show Hid _ from hm)
  have HNK := (show Hid _ from hnk)
  have HLED := (show Hid _ from H.led)
  have HL := (show Hid _ from H.l)
  have hRok := H.ok.r
  have hTok := H.ok.t
  have hmx : m ≤ maxLen := by obtain ⟨a', c', e, q1, q2, -⟩ := hO; rw [hm] at e; injection e with _ _ e; omega
  have hmi : (m : Int) ≤ 9223372036854775807 := by unfold maxLen at hmx; omega
  clear hp hRT hRl hFF hFO hl0 hm hnk hF S1 bm1 bm2 bm4 hgb hmx HCC hc H tc1 tc2 tc3 hv
  have x0 := X1.cell 0
  go_wp2
  clear o0 o1 o2 o3 x0 X1
  go_loopw [19] (fun iv w3 => ∃ (j : Nat) (gc' cc' gm' cm' : Nat) (t' : Th) (res : List Int), iv = .int .i64 (j : Int) ∧ j ≤ m ∧ thOk t' = true ∧ kidsGo kss s.r (ord.drop j) res t' = (R, T) ∧ FkSt w w3 pR pS pT (.slice (some ⟨gr, 0, none⟩) 4 cr) (.slice (some ⟨gc', 0, none⟩) 8 cc') (.slice (some ⟨gm', 0, none⟩) 8 cm') (.slice ak mk ck) v0 v1 ms { s with t := t' } t gb nk res ∧ Below Bc wr w3) (fun iv _ => m - (intOf iv).toNat)
  case atStart => exact ⟨0, gc, cc, gm, cm, s.t, List.replicate nk 0, rfl, Nat.zero_le _, hTok, by rw [List.drop_zero]; exact HRT.out, F0, bw2⟩
  case round =>
    obtain ⟨j, gc', cc', gm', cm', t', res, rfl, hj, htk, hgo, F3, b3⟩ := hrel
    clear F0 bw2 bm3
    have HGO := (show Hid _ from hgo)
    clear hgo
    by_cases hlt2 : j < m
    · skip
      have hjl : j < ord.length := by rw [HM.out]; exact hlt2
      obtain ⟨x, hx⟩ : ∃ x, ord[j] = x := ⟨_, rfl⟩
      have hxn := hnm x (by rw [← hx]; exact List.getElem_mem _)
      obtain ⟨i, hi'⟩ := Int.eq_ofNat_of_zero_le hxn.1
      have hin : i < nk := by omega
      have HX : Hid (ord.drop j = (i : Int) :: ord.drop (j + 1)) := by show _ = _; rw [List.drop_eq_getElem_cons hjl, hx, hi']
      have hO3 := hO.on b3 (Nat.le_refl _)
      have hK3 := SeesK.on hK b3 (Nat.le_refl _)
      obtain ⟨bk, ok, hk0, hbkB, hck⟩ := hK3.open (by rw [HNK.out]; omega)
      obtain ⟨⟨sa, sn, sc⟩, c1, hcode0⟩ := hck i (by rw [HNK.out]; exact hin)
      simp only at c1 hcode0
      obtain ⟨bo, oo, ho0, hboB, hco⟩ := (show ∃ b off, aO = some ⟨b, off, none⟩ ∧ b < Bc ∧ ∀ j (h : j < ord.length), wr.cell? ⟨b, off + j, none⟩ = some (.int .i64 ord[j]) by
        obtain ⟨a', cap', e, h1, h2, h3⟩ := hO3
        simp only [Value.slice.injEq] at e
        obtain ⟨rfl, -, rfl⟩ := e
        exact h3 (fun h => by rw [h] at hjl; simp at hjl))
      have c0 := hco j hjl
      rw [hx, hi'] at c0
      have hkok := hks (kss[i]'(by rw [HNK.out]; exact hin)) (List.getElem_mem _)
      obtain ⟨kx, hkx⟩ : ∃ y, kss[i]'(by rw [HNK.out]; exact hin) = y := ⟨_, rfl⟩
      have HKX : Hid (kss.getD i [] = kx) := by show _ = _; rw [← hkx]; simp [List.getD, show i < kss.length by rw [HNK.out]; exact hin]
      rw [hkx] at hcode0 hkok
      obtain ⟨hkc, hkf, -⟩ := kid_dry hkok
      subst ho0
      subst hk0
      have hwz := F3.st.b.size
      have hBW : ∀ W, FkSt w W pR pS pT (.slice (some ⟨gr, 0, none⟩) 4 cr) (.slice (some ⟨gc', 0, none⟩) 8 cc') (.slice (some ⟨gm', 0, none⟩) 8 cm') (.slice ak mk ck) v0 v1 ms { s with t := t' } t gb nk res → Bc ≤ W.heap.size := fun W h => Nat.le_trans hBw h.st.b.size
      obtain ⟨tn, htn⟩ : ∃ y, t'.n = y := ⟨_, rfl⟩
      have y0 := F3.st.S.cell 0; have y1 := F3.st.S.cell 1; have y2 := F3.st.S.cell 2
      simp only at y2
      have y0 : wr.cell? ⟨pS, 0, none⟩ = some (.slice (some ⟨gc', 0, none⟩) 8 cc') := y0
      have y1 : wr.cell? ⟨pS, 1, none⟩ = some (.slice (some ⟨gm', 0, none⟩) 8 cm') := y1
      have y2 : wr.cell? ⟨pS, 2, none⟩ = some (.int .i64 t'.n) := y2
      rw [htn] at y2
      have hpS : pS < wr.heap.size := F3.st.S.lt
      have hgbz := F3.at
      have i1 : (j : Int) < m := by omega
      have i2 : (i : Int) < nk := by omega
      have i3 : (0 : Int) ≤ j := by omega
      have i4 : (0 : Int) ≤ i := by omega
      have hBwr : Bc ≤ wr.heap.size := by omega
      have hjm : (j : Int) ≤ 9223372036854775806 := by omega
      have HTN := (show Hid _ from htn)
      clear hx hi' hxn hck hco hO3 hK3 hkx hjl htn
      go_wp2_with fail
      clear y0 y1 y2
      have FD := F3.drew
      have hcode : ∀ {W : World}, FkSt w W pR pS pT (.slice (some ⟨gr, 0, none⟩) 4 cr) (.slice (some ⟨gc', 0, none⟩) 8 cc') (.slice (some ⟨gm', 0, none⟩) 8 cm') (.slice ak mk ck) v0 v1 ms { s with t := t' } t gb nk res → Below Bc wr W → Sees4 Bc W (.slice sa sn sc) kx := fun h b => Sees.on hcode0 b (Nat.le_refl _)
      have hS0 : (fun W => W.cell? ⟨bo, oo + j, none⟩ = some (.int .i64 (i : Int)) ∧ W.cell? ⟨bk, ok + i, none⟩ = some (.slice sa sn sc) ∧ W.cell? ⟨pS, 0, none⟩ = some (.slice (some ⟨gc', 0, none⟩) 8 cc') ∧ W.cell? ⟨pS, 1, none⟩ = some (.slice (some ⟨gm', 0, none⟩) 8 cm') ∧ W.cell? ⟨pS, 2, none⟩ = some (.int .i64 tn)) wr.drew := ⟨c0, c1, F3.st.S.cell 0, F3.st.S.cell 1, by rw [← HTN.out]; exact F3.st.S.cell 2⟩
      refine wp_region_noPanic ?_
      refine wp_region_held_drew (S := (fun W => W.cell? ⟨bo, oo + j, none⟩ = some (.int .i64 (i : Int)) ∧ W.cell? ⟨bk, ok + i, none⟩ = some (.slice sa sn sc) ∧ W.cell? ⟨pS, 0, none⟩ = some (.slice (some ⟨gc', 0, none⟩) 8 cc') ∧ W.cell? ⟨pS, 1, none⟩ = some (.slice (some ⟨gm', 0, none⟩) 8 cm') ∧ W.cell? ⟨pS, 2, none⟩ = some (.int .i64 tn))) (by kernel_rfl) hS0 (fun hHeld => ?_)
      obtain ⟨WD, hWD⟩ : ∃ W, wr.drew = W := ⟨_, rfl⟩
      have hWB : Below Bc wr WD := by rw [← hWD]; exact (Below.refl Bc wr).drew
      have hWZ : wr.heap.size ≤ WD.heap.size := by rw [← hWD]; exact Nat.le_refl _
      rw [hWD] at FD hS0 hHeld ⊢
      clear hWD hHeld
      have hcl : ∀ W, Below WD.heap.size WD W → (fun W => W.cell? ⟨bo, oo + j, none⟩ = some (.int .i64 (i : Int)) ∧ W.cell? ⟨bk, ok + i, none⟩ = some (.slice sa sn sc) ∧ W.cell? ⟨pS, 0, none⟩ = some (.slice (some ⟨gc', 0, none⟩) 8 cc') ∧ W.cell? ⟨pS, 1, none⟩ = some (.slice (some ⟨gm', 0, none⟩) 8 cm') ∧ W.cell? ⟨pS, 2, none⟩ = some (.int .i64 tn)) W := fun W b => ⟨(b.cell (p := ⟨bo, _, none⟩) (by show bo < _; omega)).trans hS0.1, (b.cell (p := ⟨bk, _, none⟩) (by show bk < _; omega)).trans hS0.2.1, (b.cell (p := ⟨pS, _, none⟩) (by show pS < _; omega)).trans hS0.2.2.1, (b.cell (p := ⟨pS, _, none⟩) (by show pS < _; omega)).trans hS0.2.2.2.1, (b.cell (p := ⟨pS, _, none⟩) (by show pS < _; omega)).trans hS0.2.2.2.2⟩
      refine takeH (i := 0) (some 172) (.slice (some ⟨bk, ok, none⟩) nk kK) rfl rfl (by kernel_rfl) (by kernel_rfl) (by kernel_rfl) (fun _ _ _ h => h) (Or.inl ⟨by rfl, fun w hSw => by (try dsimp only at hSw); go_simp⟩) hS0 ?_
      simp only [Act.put, List.setIfInBounds_toArray, List.set_cons_zero, List.set_cons_succ]
      refine takeH (i := 1) (some 173) (.slice (some ⟨bo, oo, none⟩) m kO) rfl rfl (by kernel_rfl) (by kernel_rfl) (by kernel_rfl) (fun _ _ _ h => h) (Or.inl ⟨by rfl, fun w hSw => by (try dsimp only at hSw); go_simp⟩) hS0 ?_
      simp only [Act.put, List.setIfInBounds_toArray, List.set_cons_zero, List.set_cons_succ]
      refine takeH (i := 2) (some 174) (.int .i64 (j : Int)) rfl rfl (by kernel_rfl) (by kernel_rfl) (by kernel_rfl) (fun _ _ _ h => h) (Or.inl ⟨by rfl, fun w hSw => by (try dsimp only at hSw); go_simp⟩) hS0 ?_
      simp only [Act.put, List.setIfInBounds_toArray, List.set_cons_zero, List.set_cons_succ]
      refine takeH (i := 3) (some 175) (.pointer (some ⟨bo, oo + j, none⟩)) rfl rfl (by kernel_rfl) (by kernel_rfl) (by kernel_rfl) (fun _ _ _ h => h) (Or.inl ⟨by rfl, fun w hSw => by (try dsimp only at hSw); go_simp⟩) hS0 ?_
      simp only [Act.put, List.setIfInBounds_toArray, List.set_cons_zero, List.set_cons_succ]
      refine takeH (i := 4) (some 176) (.int .i64 (i : Int)) rfl rfl (by kernel_rfl) (by kernel_rfl) (by kernel_rfl) (fun _ _ _ h => h) (Or.inl ⟨by rfl, fun w hSw => by (try dsimp only at hSw); go_simp⟩) hS0 ?_
      simp only [Act.put, List.setIfInBounds_toArray, List.set_cons_zero, List.set_cons_succ]
      refine takeH (i := 5) (some 177) (.pointer (some ⟨bk, ok + i, none⟩)) rfl rfl (by kernel_rfl) (by kernel_rfl) (by kernel_rfl) (fun _ _ _ h => h) (Or.inl ⟨by rfl, fun w hSw => by (try dsimp only at hSw); go_simp⟩) hS0 ?_
      simp only [Act.put, List.setIfInBounds_toArray, List.set_cons_zero, List.set_cons_succ]
      refine takeH (i := 6) (some 178) (.pointer (some ⟨bk, ok + i, none⟩)) rfl rfl (by kernel_rfl) (by kernel_rfl) (by kernel_rfl) (fun _ _ _ h => h) (Or.inl ⟨by rfl, fun w hSw => by (try dsimp only at hSw); go_simp⟩) hS0 ?_
      simp only [Act.put, List.setIfInBounds_toArray, List.set_cons_zero, List.set_cons_succ]
      refine takeH (i := 7) (some 179) (.slice sa sn sc) rfl rfl (by kernel_rfl) (by kernel_rfl) (by kernel_rfl) (fun _ _ _ h => h) (Or.inl ⟨by rfl, fun w hSw => by (try dsimp only at hSw); go_simp⟩) hS0 ?_
      simp only [Act.put, List.setIfInBounds_toArray, List.set_cons_zero, List.set_cons_succ]
      refine takeH (i := 8) (some 180) (.slice (some ⟨gr, 0, none⟩) 4 cr) rfl rfl (by kernel_rfl) (by kernel_rfl) (by kernel_rfl) (fun _ _ _ h => h) (Or.inl ⟨by rfl, fun w hSw => by (try dsimp only at hSw); go_simp⟩) hS0 ?_
      simp only [Act.put, List.setIfInBounds_toArray, List.set_cons_zero, List.set_cons_succ]
      refine takeH (i := 9) (some 181) (.agg #[.slice (some ⟨gc', 0, none⟩) 8 cc', .slice (some ⟨gm', 0, none⟩) 8 cm', .int .i64 tn]) rfl rfl (by kernel_rfl) (by kernel_rfl) (by kernel_rfl) (fun _ _ _ h => h) (Or.inl ⟨by rfl, fun w hSw => by (try dsimp only at hSw); go_simp⟩) hS0 ?_
      simp only [Act.put, List.setIfInBounds_toArray, List.set_cons_zero, List.set_cons_succ]
      refine wpAnyH_ready (rs := [10, 11]) (by kernel_rfl) (by simp) ?_
      refine AllReadyH.cons rfl (fun K hK => ?_) (AllReadyH.cons rfl (fun K hK => ?_) AllReadyH.nil)
      ·
        go_simp
        have cW := (hW (.slice sa sn sc) kx WD.heap.size WD (.slice (some ⟨gr, 0, none⟩) 4 cr) s.r (.slice (some ⟨gc', 0, none⟩) 8 cc') (.slice (some ⟨gm', 0, none⟩) 8 cm') t' (Sees.up (B := Bc) (hcode FD hWB) (hBW WD FD)) (Nat.le_refl _) hkc hkf FD.st.r.sees hRok ⟨FD.st.c.sees, FD.st.m.sees⟩ htk)
        rw [HTN.out] at cW
        refine cW.mono ?_
        clear cW
        rintro e V ⟨⟨v5, vc5, vm5, q, rfl, hE, Ow, OT, dj1, dj2, ho, hrk, hqk⟩, bV⟩
        have hrun := run_eq hkc noF_ok hRok htk hE
        have HRUN := (show Hid _ from hrun)
        have q4 := (regsOk_out hrk).1
        have qc8 := (cellsOk_out (th_parts hqk).1).1
        have qm8 := (mapOk_out (th_parts hqk).2.1).1
        obtain ⟨a5, k5, rfl⟩ := Ow.form
        obtain ⟨ac5, kc5, rfl⟩ := OT.c.form
        obtain ⟨am5, km5, rfl⟩ := OT.m.form
        rw [q4] at Ow dj1 dj2 ⊢
        rw [qc8] at OT dj1 ⊢
        rw [qm8] at OT dj2 ⊢
        obtain ⟨g5, rfl⟩ := own_someF Ow (by omega)
        obtain ⟨gc5, rfl⟩ := own_someF OT.c (by omega)
        obtain ⟨gm5, rfl⟩ := own_someF OT.m (by omega)
        obtain ⟨qo, qr, qt⟩ := q
        simp only at ho q4 qc8 qm8 hrk hqk Ow OT
        obtain ⟨qn, hqn⟩ : ∃ x, qt.n = x := ⟨_, rfl⟩
        have HQN := (show Hid _ from hqn)
        rw [hqn]
        clear hrun hE hqn
        go_simp
        refine hK.out _ _ (hcl V bV) (fun _ => ?_)
        clear hK K
        try simp only [Act.put, List.setIfInBounds_toArray, List.set_cons_zero, List.set_cons_succ]
        have RB := Blk.new V #[.int .i64 0, .slice none 0 0, .slice none 0 0, .slice none 0 0, .int .i64 0] 57
        have bA := alloc_below V (.cells #[.int .i64 0, .slice none 0 0, .slice none 0 0, .slice none 0 0, .int .i64 0] 57)
        have hNb : WD.heap.size ≤ V.heap.size := bV.size
        have Ow := Ow.on bA (Nat.le_refl _)
        have OT := OT.on bA
        have bV := bV.trans (bA.mono hNb)
        refine wpAnyH_ready (rs := [11]) (by kernel_rfl) (by simp) ?_
        refine AllReadyH.cons rfl (fun K hK => ?_) (AllReadyH.nil)
        go_simp
        refine hK.out _ _ (hcl _ bV) (fun _ => ?_)
        clear hK K
        try simp only [Act.put, List.setIfInBounds_toArray, List.set_cons_zero, List.set_cons_succ]
        obtain ⟨N, hN⟩ : ∃ N, V.heap.size = N := ⟨_, rfl⟩
        obtain ⟨V2, hV2⟩ : ∃ W, V.alloc (.cells #[.int .i64 0, .slice none 0 0, .slice none 0 0, .slice none 0 0, .int .i64 0] 57) = W := ⟨_, rfl⟩
        rw [hV2] at RB Ow OT bV ⊢
        rw [hN] at RB hNb ⊢
        clear hV2 hN bA
        have rb := fun i => RB.cell i; have rf := fun i => RB.froz i
        have R5 := ((((RB.set 0 (.int .i64 qo)).set 1 (.slice (some ⟨g5, 0, none⟩) 4 k5)).set 2 (.slice (some ⟨gc5, 0, none⟩) 8 kc5)).set 3 (.slice (some ⟨gm5, 0, none⟩) 8 km5)).set 4 (.int .i64 qn)
        have hk5 : ∀ k, k ≠ N → ((((((V2).setCell ⟨N, 0, none⟩ (.int .i64 qo)).setCell ⟨N, 1, none⟩ (.slice (some ⟨g5, 0, none⟩) 4 k5)).setCell ⟨N, 2, none⟩ (.slice (some ⟨gc5, 0, none⟩) 8 kc5)).setCell ⟨N, 3, none⟩ (.slice (some ⟨gm5, 0, none⟩) 8 km5)).setCell ⟨N, 4, none⟩ (.int .i64 qn)).heap[k]? = V2.heap[k]? := fun k hk => by rw [Below.heap_setCell _ ⟨N, 4, none⟩ _ k hk, Below.heap_setCell _ ⟨N, 3, none⟩ _ k hk, Below.heap_setCell _ ⟨N, 2, none⟩ _ k hk, Below.heap_setCell _ ⟨N, 1, none⟩ _ k hk, Below.heap_setCell _ ⟨N, 0, none⟩ _ k hk]
        have Ow5 := Ow.keep fun k e => hk5 k (int_off Ow RB (by decide) k e)
        have OT5 : OwnT WD.heap.size ((((((V2).setCell ⟨N, 0, none⟩ (.int .i64 qo)).setCell ⟨N, 1, none⟩ (.slice (some ⟨g5, 0, none⟩) 4 k5)).setCell ⟨N, 2, none⟩ (.slice (some ⟨gc5, 0, none⟩) 8 kc5)).setCell ⟨N, 3, none⟩ (.slice (some ⟨gm5, 0, none⟩) 8 km5)).setCell ⟨N, 4, none⟩ (.int .i64 qn)) (.slice (some ⟨gc5, 0, none⟩) 8 kc5) (.slice (some ⟨gm5, 0, none⟩) 8 km5) qt := { c := OT.c.keep fun k e => hk5 k (int_off OT.c RB (by decide) k e), m := OT.m.keep fun k e => hk5 k (int_off OT.m RB (by decide) k e), d := OT.d }
        have b5 : Below WD.heap.size WD ((((((V2).setCell ⟨N, 0, none⟩ (.int .i64 qo)).setCell ⟨N, 1, none⟩ (.slice (some ⟨g5, 0, none⟩) 4 k5)).setCell ⟨N, 2, none⟩ (.slice (some ⟨gc5, 0, none⟩) 8 kc5)).setCell ⟨N, 3, none⟩ (.slice (some ⟨gm5, 0, none⟩) 8 km5)).setCell ⟨N, 4, none⟩ (.int .i64 qn)) := ((((bV.setCell (p := ⟨N, 0, none⟩) hNb _).setCell (p := ⟨N, 1, none⟩) hNb _).setCell (p := ⟨N, 2, none⟩) hNb _).setCell (p := ⟨N, 3, none⟩) hNb _).setCell (p := ⟨N, 4, none⟩) hNb _
        refine wpAnyH_ready (rs := [12]) (by kernel_rfl) (by simp) ?_
        refine AllReadyH.cons rfl (fun K hK => ?_) (AllReadyH.nil)
        go_simp
        refine hK.out _ _ (hcl _ b5) (fun _ => ?_)
        clear hK K
        try simp only [Act.put, List.setIfInBounds_toArray, List.set_cons_zero, List.set_cons_succ]
        refine wpAnyH_done (by kernel_rfl) (NoPanic.normal ?_) _
        obtain ⟨V5, hV5⟩ : ∃ W, (((((V2).setCell ⟨N, 0, none⟩ (.int .i64 qo)).setCell ⟨N, 1, none⟩ (.slice (some ⟨g5, 0, none⟩) 4 k5)).setCell ⟨N, 2, none⟩ (.slice (some ⟨gc5, 0, none⟩) 8 kc5)).setCell ⟨N, 3, none⟩ (.slice (some ⟨gm5, 0, none⟩) 8 km5)).setCell ⟨N, 4, none⟩ (.int .i64 qn) = W := ⟨_, rfl⟩
        rw [hV5] at R5 Ow5 OT5 b5 ⊢
        clear hV5 hk5 rb rf RB Ow OT bV
        have R5 : Blk V5 N #[.int .i64 qo, .slice (some ⟨g5, 0, none⟩) 4 k5, .slice (some ⟨gc5, 0, none⟩) 8 kc5, .slice (some ⟨gm5, 0, none⟩) 8 km5, .int .i64 qn] 57 := R5
        have F5 := FD.on b5
        have F6 := FD.newT b5 OT5
        rw [HQN.out] at F6
        have hpSb := F5.st.p.2.1
        have n1 : ¬ N = pS := by omega
        have n2 : ¬ pS = N := by omega
        have b6 : Below Bc wr (((V5.setCell ⟨pS, 0, none⟩ (.slice (some ⟨gc5, 0, none⟩) 8 kc5)).setCell ⟨pS, 1, none⟩ (.slice (some ⟨gm5, 0, none⟩) 8 km5)).setCell ⟨pS, 2, none⟩ (.int .i64 qn)) := (((hWB.trans (b5.mono (show Bc ≤ WD.heap.size by omega))).setCell (p := ⟨pS, 0, none⟩) (by show Bc ≤ pS; omega) _).setCell (p := ⟨pS, 1, none⟩) (by show Bc ≤ pS; omega) _).setCell (p := ⟨pS, 2, none⟩) (by show Bc ≤ pS; omega) _
        have R6 := ((R5.other n1 0 (.slice (some ⟨gc5, 0, none⟩) 8 kc5)).other n1 1 (.slice (some ⟨gm5, 0, none⟩) 8 km5)).other n1 2 (.int .i64 qn)
        have hk6 : ∀ k, k ≠ pS → (((V5.setCell ⟨pS, 0, none⟩ (.slice (some ⟨gc5, 0, none⟩) 8 kc5)).setCell ⟨pS, 1, none⟩ (.slice (some ⟨gm5, 0, none⟩) 8 km5)).setCell ⟨pS, 2, none⟩ (.int .i64 qn)).heap[k]? = V5.heap[k]? := fun k hk => by rw [Below.heap_setCell _ ⟨pS, 2, none⟩ _ k hk, Below.heap_setCell _ ⟨pS, 1, none⟩ _ k hk, Below.heap_setCell _ ⟨pS, 0, none⟩ _ k hk]
        have Ow6 := Ow5.keep fun k e => hk6 k (by have := (Ow5.at k e).1; omega)
        have hg5 := (Ow5.at g5 rfl).1
        have r5 := fun i => R5.cell i; have sp := fun i => F5.st.S.cell i; have sf := fun i => F5.st.S.froz i
        have hg := HGO.out
        rw [HX.out, kidsGo_cons', Int.toNat_natCast, HKX.out, HRUN.out] at hg
        clear hk6 OT5 hS0 hcl
        rcases ho with rfl | rfl
        · rw [if_pos (show (⟨1, qr, qt⟩ : Rn).out = 1 from rfl)] at hg
          have HG1 := (show Hid _ from hg)
          clear hg
          go_wp2_with fail
          clear r5 sp sf R5 Ow5 F5
          obtain ⟨V6, hV6⟩ : ∃ W, ((V5.setCell ⟨pS, 0, none⟩ (.slice (some ⟨gc5, 0, none⟩) 8 kc5)).setCell ⟨pS, 1, none⟩ (.slice (some ⟨gm5, 0, none⟩) 8 km5)).setCell ⟨pS, 2, none⟩ (.int .i64 qn) = W := ⟨_, rfl⟩
          rw [hV6] at F6 R6 Ow6 b6 ⊢
          clear hV6
          have y5 : V6.cell? ⟨g5, 0, none⟩ = some (.int .i64 (rd qr 0)) := (int_cell Ow6 0 (by omega)).1
          have y6 := (b6.cell (p := ⟨bo, oo + j, none⟩) hboB).trans c0
          have y7 : V6.cell? ⟨N, 1, none⟩ = some (.slice (some ⟨g5, 0, none⟩) 4 k5) := R6.cell 1
          obtain ⟨z1, z2⟩ := int_cell F6.o i (by rw [F6.l]; exact hin)
          have hS2 : (fun W => W.cell? ⟨bo, oo + j, none⟩ = some (.int .i64 (i : Int)) ∧ W.cell? ⟨N, 1, none⟩ = some (.slice (some ⟨g5, 0, none⟩) 4 k5) ∧ W.cell? ⟨g5, 0, none⟩ = some (.int .i64 (rd qr 0))) V6.drew := ⟨y6, y7, y5⟩
          have m1 : bo ≠ gb := by omega
          have m2 : N ≠ gb := by omega
          have m3 : g5 ≠ gb := by omega
          refine wp_region_noPanic ?_
          refine wp_region_held_drew (S := (fun W => W.cell? ⟨bo, oo + j, none⟩ = some (.int .i64 (i : Int)) ∧ W.cell? ⟨N, 1, none⟩ = some (.slice (some ⟨g5, 0, none⟩) 4 k5) ∧ W.cell? ⟨g5, 0, none⟩ = some (.int .i64 (rd qr 0)))) (by kernel_rfl) hS2 (fun hHeld => ?_)
          refine takeH (i := 0) (some 188) (.slice (some ⟨gb, 0, none⟩) nk nk) rfl rfl (by kernel_rfl) (by kernel_rfl) (by kernel_rfl) (fun _ _ _ h => h) (Or.inl ⟨by rfl, fun w hSw => by (try dsimp only at hSw); go_simp⟩) hS2 ?_
          simp only [Act.put, List.setIfInBounds_toArray, List.set_cons_zero, List.set_cons_succ]
          refine takeH (i := 1) (some 189) (.slice (some ⟨bo, oo, none⟩) m kO) rfl rfl (by kernel_rfl) (by kernel_rfl) (by kernel_rfl) (fun _ _ _ h => h) (Or.inl ⟨by rfl, fun w hSw => by (try dsimp only at hSw); go_simp⟩) hS2 ?_
          simp only [Act.put, List.setIfInBounds_toArray, List.set_cons_zero, List.set_cons_succ]
          refine takeH (i := 2) (some 190) (.int .i64 (j : Int)) rfl rfl (by kernel_rfl) (by kernel_rfl) (by kernel_rfl) (fun _ _ _ h => h) (Or.inl ⟨by rfl, fun w hSw => by (try dsimp only at hSw); go_simp⟩) hS2 ?_
          simp only [Act.put, List.setIfInBounds_toArray, List.set_cons_zero, List.set_cons_succ]
          refine takeH (i := 3) (some 191) (.pointer (some ⟨bo, oo + j, none⟩)) rfl rfl (by kernel_rfl) (by kernel_rfl) (by kernel_rfl) (fun _ _ _ h => h) (Or.inl ⟨by rfl, fun w hSw => by (try dsimp only at hSw); go_simp⟩) hS2 ?_
          simp only [Act.put, List.setIfInBounds_toArray, List.set_cons_zero, List.set_cons_succ]
          refine takeH (i := 4) (some 192) (.int .i64 (i : Int)) rfl rfl (by kernel_rfl) (by kernel_rfl) (by kernel_rfl) (fun _ _ _ h => h) (Or.inl ⟨by rfl, fun w hSw => by (try dsimp only at hSw); go_simp⟩) hS2 ?_
          simp only [Act.put, List.setIfInBounds_toArray, List.set_cons_zero, List.set_cons_succ]
          refine takeH (i := 5) (some 193) (.pointer (some ⟨N, 1, none⟩)) rfl rfl (by kernel_rfl) (by kernel_rfl) (by kernel_rfl) (fun _ _ _ h => h) (Or.inl ⟨by rfl, fun w hSw => by (try dsimp only at hSw); go_simp⟩) hS2 ?_
          simp only [Act.put, List.setIfInBounds_toArray, List.set_cons_zero, List.set_cons_succ]
          refine takeH (i := 6) (some 194) (.slice (some ⟨g5, 0, none⟩) 4 k5) rfl rfl (by kernel_rfl) (by kernel_rfl) (by kernel_rfl) (fun _ _ _ h => h) (Or.inl ⟨by rfl, fun w hSw => by (try dsimp only at hSw); go_simp⟩) hS2 ?_
          simp only [Act.put, List.setIfInBounds_toArray, List.set_cons_zero, List.set_cons_succ]
          refine takeH (i := 7) (some 195) (.pointer (some ⟨g5, 0, none⟩)) rfl rfl (by kernel_rfl) (by kernel_rfl) (by kernel_rfl) (fun _ _ _ h => h) (Or.inl ⟨by rfl, fun w hSw => by (try dsimp only at hSw); go_simp⟩) hS2 ?_
          simp only [Act.put, List.setIfInBounds_toArray, List.set_cons_zero, List.set_cons_succ]
          refine takeH (i := 8) (some 196) (.int .i64 (rd qr 0)) rfl rfl (by kernel_rfl) (by kernel_rfl) (by kernel_rfl) (fun _ _ _ h => h) (Or.inl ⟨by rfl, fun w hSw => by (try dsimp only at hSw); go_simp⟩) hS2 ?_
          simp only [Act.put, List.setIfInBounds_toArray, List.set_cons_zero, List.set_cons_succ]
          refine takeH (i := 9) (some 197) (.pointer (some ⟨gb, i, none⟩)) rfl rfl (by kernel_rfl) (by kernel_rfl) (by kernel_rfl) (fun _ _ _ h => h) (Or.inl ⟨by rfl, fun w hSw => by (try dsimp only at hSw); go_simp⟩) hS2 ?_
          simp only [Act.put, List.setIfInBounds_toArray, List.set_cons_zero, List.set_cons_succ]
          refine wpAnyH_ready (rs := [10]) (by kernel_rfl) (by simp) ?_
          refine AllReadyH.cons rfl (fun K hK => ?_) (AllReadyH.nil)
          go_simp
          refine hK.out _ _ (⟨(cell_off m1 _).trans y6, (cell_off m2 _).trans y7, (cell_off m3 _).trans y5⟩) (fun _ => ?_)
          clear hK K
          try simp only [Act.put, List.setIfInBounds_toArray, List.set_cons_zero, List.set_cons_succ]
          refine wpAnyH_done (by kernel_rfl) (NoPanic.normal ?_) _
          have F8 := F6.put i (rd qr 0)
          have b8 := b6.setCell (p := ⟨gb, i, none⟩) (show Bc ≤ gb by omega) (.int .i64 (rd qr 0))
          clear z1 z2 y5 y6 y7 F6
          go_wp2
          go_roundw
          case rel => exact ⟨j + 1, gc5, kc5, gm5, km5, qt, _, by go_num, by omega, hqk, HG1.out, by first | exact F8 | exact F8.drew, by first | exact b3.trans b8 | exact (b3.trans b8).drew⟩
          case measure => simp [intOf]; omega
        · rw [if_neg (show ¬ (⟨2, qr, qt⟩ : Rn).out = 1 by simp)] at hg
          have HG1 := (show Hid _ from hg)
          clear hg
          go_wp2
          go_roundw
          case rel => exact ⟨j + 1, gc5, kc5, gm5, km5, qt, res, by go_num, by omega, hqk, HG1.out, F6, b3.trans b6⟩
          case measure => simp [intOf]; omega
      ·
        go_simp
        have RB := Blk.new WD #[.int .i64 0, .slice none 0 0, .slice none 0 0, .slice none 0 0, .int .i64 0] 57
        have bA := alloc_below WD (.cells #[.int .i64 0, .slice none 0 0, .slice none 0 0, .slice none 0 0, .int .i64 0] 57)
        have hNb : WD.heap.size ≤ WD.heap.size := Nat.le_refl _
        have FA := FD.on bA
        have hWA := hWB.trans (bA.mono (show Bc ≤ WD.heap.size by omega))
        refine hK.out _ _ (hcl _ bA) (fun _ => ?_)
        clear hK K
        try simp only [Act.put, List.setIfInBounds_toArray, List.set_cons_zero, List.set_cons_succ]
        obtain ⟨WA, hWAe⟩ : ∃ W, WD.alloc (.cells #[.int .i64 0, .slice none 0 0, .slice none 0 0, .slice none 0 0, .int .i64 0] 57) = W := ⟨_, rfl⟩
        obtain ⟨N, hN⟩ : ∃ N, WD.heap.size = N := ⟨_, rfl⟩
        rw [hWAe] at RB bA FA hWA ⊢
        have RB : Blk WA N #[.int .i64 0, .slice none 0 0, .slice none 0 0, .slice none 0 0, .int .i64 0] 57 := by rw [← hN]; exact RB
        have hNb : WD.heap.size ≤ N := by omega
        rw [hN]
        have HNE := (show Hid _ from hN)
        clear hWAe hN
        refine wpAnyH_ready (rs := [10]) (by kernel_rfl) (by simp) ?_
        refine AllReadyH.cons rfl (fun K hK => ?_) (AllReadyH.nil)
        go_simp
        have cW := (hW (.slice sa sn sc) kx WA.heap.size WA (.slice (some ⟨gr, 0, none⟩) 4 cr) s.r (.slice (some ⟨gc', 0, none⟩) 8 cc') (.slice (some ⟨gm', 0, none⟩) 8 cm') t' (Sees.up (B := Bc) (hcode FA hWA) (hBW WA FA)) (Nat.le_refl _) hkc hkf FA.st.r.sees hRok ⟨FA.st.c.sees, FA.st.m.sees⟩ htk)
        rw [HTN.out] at cW
        refine cW.mono ?_
        clear cW
        rintro e V ⟨⟨v5, vc5, vm5, q, rfl, hE, Ow, OT, dj1, dj2, ho, hrk, hqk⟩, bV⟩
        have hrun := run_eq hkc noF_ok hRok htk hE
        have HRUN := (show Hid _ from hrun)
        have q4 := (regsOk_out hrk).1
        have qc8 := (cellsOk_out (th_parts hqk).1).1
        have qm8 := (mapOk_out (th_parts hqk).2.1).1
        obtain ⟨a5, k5, rfl⟩ := Ow.form
        obtain ⟨ac5, kc5, rfl⟩ := OT.c.form
        obtain ⟨am5, km5, rfl⟩ := OT.m.form
        rw [q4] at Ow dj1 dj2 ⊢
        rw [qc8] at OT dj1 ⊢
        rw [qm8] at OT dj2 ⊢
        obtain ⟨g5, rfl⟩ := own_someF Ow (by omega)
        obtain ⟨gc5, rfl⟩ := own_someF OT.c (by omega)
        obtain ⟨gm5, rfl⟩ := own_someF OT.m (by omega)
        obtain ⟨qo, qr, qt⟩ := q
        simp only at ho q4 qc8 qm8 hrk hqk Ow OT
        obtain ⟨qn, hqn⟩ : ∃ x, qt.n = x := ⟨_, rfl⟩
        have HQN := (show Hid _ from hqn)
        rw [hqn]
        clear hrun hE hqn
        have RB := RB.on bV RB.lt
        have hzA := bA.size
        have bV := bA.trans (bV.mono hzA)
        have Ow := Ow.mono hzA
        have OT := OT.mono hzA
        go_simp
        refine hK.out _ _ (hcl V bV) (fun _ => ?_)
        clear hK K
        try simp only [Act.put, List.setIfInBounds_toArray, List.set_cons_zero, List.set_cons_succ]
        have rb := fun i => RB.cell i; have rf := fun i => RB.froz i
        have R5 := ((((RB.set 0 (.int .i64 qo)).set 1 (.slice (some ⟨g5, 0, none⟩) 4 k5)).set 2 (.slice (some ⟨gc5, 0, none⟩) 8 kc5)).set 3 (.slice (some ⟨gm5, 0, none⟩) 8 km5)).set 4 (.int .i64 qn)
        have hk5 : ∀ k, k ≠ N → ((((((V).setCell ⟨N, 0, none⟩ (.int .i64 qo)).setCell ⟨N, 1, none⟩ (.slice (some ⟨g5, 0, none⟩) 4 k5)).setCell ⟨N, 2, none⟩ (.slice (some ⟨gc5, 0, none⟩) 8 kc5)).setCell ⟨N, 3, none⟩ (.slice (some ⟨gm5, 0, none⟩) 8 km5)).setCell ⟨N, 4, none⟩ (.int .i64 qn)).heap[k]? = V.heap[k]? := fun k hk => by rw [Below.heap_setCell _ ⟨N, 4, none⟩ _ k hk, Below.heap_setCell _ ⟨N, 3, none⟩ _ k hk, Below.heap_setCell _ ⟨N, 2, none⟩ _ k hk, Below.heap_setCell _ ⟨N, 1, none⟩ _ k hk, Below.heap_setCell _ ⟨N, 0, none⟩ _ k hk]
        have Ow5 := Ow.keep fun k e => hk5 k (int_off Ow RB (by decide) k e)
        have OT5 : OwnT WD.heap.size ((((((V).setCell ⟨N, 0, none⟩ (.int .i64 qo)).setCell ⟨N, 1, none⟩ (.slice (some ⟨g5, 0, none⟩) 4 k5)).setCell ⟨N, 2, none⟩ (.slice (some ⟨gc5, 0, none⟩) 8 kc5)).setCell ⟨N, 3, none⟩ (.slice (some ⟨gm5, 0, none⟩) 8 km5)).setCell ⟨N, 4, none⟩ (.int .i64 qn)) (.slice (some ⟨gc5, 0, none⟩) 8 kc5) (.slice (some ⟨gm5, 0, none⟩) 8 km5) qt := { c := OT.c.keep fun k e => hk5 k (int_off OT.c RB (by decide) k e), m := OT.m.keep fun k e => hk5 k (int_off OT.m RB (by decide) k e), d := OT.d }
        have b5 : Below WD.heap.size WD ((((((V).setCell ⟨N, 0, none⟩ (.int .i64 qo)).setCell ⟨N, 1, none⟩ (.slice (some ⟨g5, 0, none⟩) 4 k5)).setCell ⟨N, 2, none⟩ (.slice (some ⟨gc5, 0, none⟩) 8 kc5)).setCell ⟨N, 3, none⟩ (.slice (some ⟨gm5, 0, none⟩) 8 km5)).setCell ⟨N, 4, none⟩ (.int .i64 qn)) := ((((bV.setCell (p := ⟨N, 0, none⟩) hNb _).setCell (p := ⟨N, 1, none⟩) hNb _).setCell (p := ⟨N, 2, none⟩) hNb _).setCell (p := ⟨N, 3, none⟩) hNb _).setCell (p := ⟨N, 4, none⟩) hNb _
        refine wpAnyH_ready (rs := [12]) (by kernel_rfl) (by simp) ?_
        refine AllReadyH.cons rfl (fun K hK => ?_) (AllReadyH.nil)
        go_simp
        refine hK.out _ _ (hcl _ b5) (fun _ => ?_)
        clear hK K
        try simp only [Act.put, List.setIfInBounds_toArray, List.set_cons_zero, List.set_cons_succ]
        refine wpAnyH_done (by kernel_rfl) (NoPanic.normal ?_) _
        obtain ⟨V5, hV5⟩ : ∃ W, (((((V).setCell ⟨N, 0, none⟩ (.int .i64 qo)).setCell ⟨N, 1, none⟩ (.slice (some ⟨g5, 0, none⟩) 4 k5)).setCell ⟨N, 2, none⟩ (.slice (some ⟨gc5, 0, none⟩) 8 kc5)).setCell ⟨N, 3, none⟩ (.slice (some ⟨gm5, 0, none⟩) 8 km5)).setCell ⟨N, 4, none⟩ (.int .i64 qn) = W := ⟨_, rfl⟩
        rw [hV5] at R5 Ow5 OT5 b5 ⊢
        clear hV5 hk5 rb rf RB Ow OT bV
        have R5 : Blk V5 N #[.int .i64 qo, .slice (some ⟨g5, 0, none⟩) 4 k5, .slice (some ⟨gc5, 0, none⟩) 8 kc5, .slice (some ⟨gm5, 0, none⟩) 8 km5, .int .i64 qn] 57 := R5
        have F5 := FD.on b5
        have F6 := FD.newT b5 OT5
        rw [HQN.out] at F6
        have hpSb := F5.st.p.2.1
        have n1 : ¬ N = pS := by omega
        have n2 : ¬ pS = N := by omega
        have b6 : Below Bc wr (((V5.setCell ⟨pS, 0, none⟩ (.slice (some ⟨gc5, 0, none⟩) 8 kc5)).setCell ⟨pS, 1, none⟩ (.slice (some ⟨gm5, 0, none⟩) 8 km5)).setCell ⟨pS, 2, none⟩ (.int .i64 qn)) := (((hWB.trans (b5.mono (show Bc ≤ WD.heap.size by omega))).setCell (p := ⟨pS, 0, none⟩) (by show Bc ≤ pS; omega) _).setCell (p := ⟨pS, 1, none⟩) (by show Bc ≤ pS; omega) _).setCell (p := ⟨pS, 2, none⟩) (by show Bc ≤ pS; omega) _
        have R6 := ((R5.other n1 0 (.slice (some ⟨gc5, 0, none⟩) 8 kc5)).other n1 1 (.slice (some ⟨gm5, 0, none⟩) 8 km5)).other n1 2 (.int .i64 qn)
        have hk6 : ∀ k, k ≠ pS → (((V5.setCell ⟨pS, 0, none⟩ (.slice (some ⟨gc5, 0, none⟩) 8 kc5)).setCell ⟨pS, 1, none⟩ (.slice (some ⟨gm5, 0, none⟩) 8 km5)).setCell ⟨pS, 2, none⟩ (.int .i64 qn)).heap[k]? = V5.heap[k]? := fun k hk => by rw [Below.heap_setCell _ ⟨pS, 2, none⟩ _ k hk, Below.heap_setCell _ ⟨pS, 1, none⟩ _ k hk, Below.heap_setCell _ ⟨pS, 0, none⟩ _ k hk]
        have Ow6 := Ow5.keep fun k e => hk6 k (by have := (Ow5.at k e).1; omega)
        have hg5 := (Ow5.at g5 rfl).1
        have r5 := fun i => R5.cell i; have sp := fun i => F5.st.S.cell i; have sf := fun i => F5.st.S.froz i
        have hg := HGO.out
        rw [HX.out, kidsGo_cons', Int.toNat_natCast, HKX.out, HRUN.out] at hg
        clear hk6 OT5 hS0 hcl
        rcases ho with rfl | rfl
        · rw [if_pos (show (⟨1, qr, qt⟩ : Rn).out = 1 from rfl)] at hg
          have HG1 := (show Hid _ from hg)
          clear hg
          go_wp2_with fail
          clear r5 sp sf R5 Ow5 F5
          obtain ⟨V6, hV6⟩ : ∃ W, ((V5.setCell ⟨pS, 0, none⟩ (.slice (some ⟨gc5, 0, none⟩) 8 kc5)).setCell ⟨pS, 1, none⟩ (.slice (some ⟨gm5, 0, none⟩) 8 km5)).setCell ⟨pS, 2, none⟩ (.int .i64 qn) = W := ⟨_, rfl⟩
          rw [hV6] at F6 R6 Ow6 b6 ⊢
          clear hV6
          have y5 : V6.cell? ⟨g5, 0, none⟩ = some (.int .i64 (rd qr 0)) := (int_cell Ow6 0 (by omega)).1
          have y6 := (b6.cell (p := ⟨bo, oo + j, none⟩) hboB).trans c0
          have y7 : V6.cell? ⟨N, 1, none⟩ = some (.slice (some ⟨g5, 0, none⟩) 4 k5) := R6.cell 1
          obtain ⟨z1, z2⟩ := int_cell F6.o i (by rw [F6.l]; exact hin)
          have hS2 : (fun W => W.cell? ⟨bo, oo + j, none⟩ = some (.int .i64 (i : Int)) ∧ W.cell? ⟨N, 1, none⟩ = some (.slice (some ⟨g5, 0, none⟩) 4 k5) ∧ W.cell? ⟨g5, 0, none⟩ = some (.int .i64 (rd qr 0))) V6.drew := ⟨y6, y7, y5⟩
          have m1 : bo ≠ gb := by omega
          have m2 : N ≠ gb := by omega
          have m3 : g5 ≠ gb := by omega
          refine wp_region_noPanic ?_
          refine wp_region_held_drew (S := (fun W => W.cell? ⟨bo, oo + j, none⟩ = some (.int .i64 (i : Int)) ∧ W.cell? ⟨N, 1, none⟩ = some (.slice (some ⟨g5, 0, none⟩) 4 k5) ∧ W.cell? ⟨g5, 0, none⟩ = some (.int .i64 (rd qr 0)))) (by kernel_rfl) hS2 (fun hHeld => ?_)
          refine takeH (i := 0) (some 188) (.slice (some ⟨gb, 0, none⟩) nk nk) rfl rfl (by kernel_rfl) (by kernel_rfl) (by kernel_rfl) (fun _ _ _ h => h) (Or.inl ⟨by rfl, fun w hSw => by (try dsimp only at hSw); go_simp⟩) hS2 ?_
          simp only [Act.put, List.setIfInBounds_toArray, List.set_cons_zero, List.set_cons_succ]
          refine takeH (i := 1) (some 189) (.slice (some ⟨bo, oo, none⟩) m kO) rfl rfl (by kernel_rfl) (by kernel_rfl) (by kernel_rfl) (fun _ _ _ h => h) (Or.inl ⟨by rfl, fun w hSw => by (try dsimp only at hSw); go_simp⟩) hS2 ?_
          simp only [Act.put, List.setIfInBounds_toArray, List.set_cons_zero, List.set_cons_succ]
          refine takeH (i := 2) (some 190) (.int .i64 (j : Int)) rfl rfl (by kernel_rfl) (by kernel_rfl) (by kernel_rfl) (fun _ _ _ h => h) (Or.inl ⟨by rfl, fun w hSw => by (try dsimp only at hSw); go_simp⟩) hS2 ?_
          simp only [Act.put, List.setIfInBounds_toArray, List.set_cons_zero, List.set_cons_succ]
          refine takeH (i := 3) (some 191) (.pointer (some ⟨bo, oo + j, none⟩)) rfl rfl (by kernel_rfl) (by kernel_rfl) (by kernel_rfl) (fun _ _ _ h => h) (Or.inl ⟨by rfl, fun w hSw => by (try dsimp only at hSw); go_simp⟩) hS2 ?_
          simp only [Act.put, List.setIfInBounds_toArray, List.set_cons_zero, List.set_cons_succ]
          refine takeH (i := 4) (some 192) (.int .i64 (i : Int)) rfl rfl (by kernel_rfl) (by kernel_rfl) (by kernel_rfl) (fun _ _ _ h => h) (Or.inl ⟨by rfl, fun w hSw => by (try dsimp only at hSw); go_simp⟩) hS2 ?_
          simp only [Act.put, List.setIfInBounds_toArray, List.set_cons_zero, List.set_cons_succ]
          refine takeH (i := 5) (some 193) (.pointer (some ⟨N, 1, none⟩)) rfl rfl (by kernel_rfl) (by kernel_rfl) (by kernel_rfl) (fun _ _ _ h => h) (Or.inl ⟨by rfl, fun w hSw => by (try dsimp only at hSw); go_simp⟩) hS2 ?_
          simp only [Act.put, List.setIfInBounds_toArray, List.set_cons_zero, List.set_cons_succ]
          refine takeH (i := 6) (some 194) (.slice (some ⟨g5, 0, none⟩) 4 k5) rfl rfl (by kernel_rfl) (by kernel_rfl) (by kernel_rfl) (fun _ _ _ h => h) (Or.inl ⟨by rfl, fun w hSw => by (try dsimp only at hSw); go_simp⟩) hS2 ?_
          simp only [Act.put, List.setIfInBounds_toArray, List.set_cons_zero, List.set_cons_succ]
          refine takeH (i := 7) (some 195) (.pointer (some ⟨g5, 0, none⟩)) rfl rfl (by kernel_rfl) (by kernel_rfl) (by kernel_rfl) (fun _ _ _ h => h) (Or.inl ⟨by rfl, fun w hSw => by (try dsimp only at hSw); go_simp⟩) hS2 ?_
          simp only [Act.put, List.setIfInBounds_toArray, List.set_cons_zero, List.set_cons_succ]
          refine takeH (i := 8) (some 196) (.int .i64 (rd qr 0)) rfl rfl (by kernel_rfl) (by kernel_rfl) (by kernel_rfl) (fun _ _ _ h => h) (Or.inl ⟨by rfl, fun w hSw => by (try dsimp only at hSw); go_simp⟩) hS2 ?_
          simp only [Act.put, List.setIfInBounds_toArray, List.set_cons_zero, List.set_cons_succ]
          refine takeH (i := 9) (some 197) (.pointer (some ⟨gb, i, none⟩)) rfl rfl (by kernel_rfl) (by kernel_rfl) (by kernel_rfl) (fun _ _ _ h => h) (Or.inl ⟨by rfl, fun w hSw => by (try dsimp only at hSw); go_simp⟩) hS2 ?_
          simp only [Act.put, List.setIfInBounds_toArray, List.set_cons_zero, List.set_cons_succ]
          refine wpAnyH_ready (rs := [10]) (by kernel_rfl) (by simp) ?_
          refine AllReadyH.cons rfl (fun K hK => ?_) (AllReadyH.nil)
          go_simp
          refine hK.out _ _ (⟨(cell_off m1 _).trans y6, (cell_off m2 _).trans y7, (cell_off m3 _).trans y5⟩) (fun _ => ?_)
          clear hK K
          try simp only [Act.put, List.setIfInBounds_toArray, List.set_cons_zero, List.set_cons_succ]
          refine wpAnyH_done (by kernel_rfl) (NoPanic.normal ?_) _
          have F8 := F6.put i (rd qr 0)
          have b8 := b6.setCell (p := ⟨gb, i, none⟩) (show Bc ≤ gb by omega) (.int .i64 (rd qr 0))
          clear z1 z2 y5 y6 y7 F6
          go_wp2
          go_roundw
          case rel => exact ⟨j + 1, gc5, kc5, gm5, km5, qt, _, by go_num, by omega, hqk, HG1.out, by first | exact F8 | exact F8.drew, by first | exact b3.trans b8 | exact (b3.trans b8).drew⟩
          case measure => simp [intOf]; omega
        · rw [if_neg (show ¬ (⟨2, qr, qt⟩ : Rn).out = 1 by simp)] at hg
          have HG1 := (show Hid _ from hg)
          clear hg
          go_wp2
          go_roundw
          case rel => exact ⟨j + 1, gc5, kc5, gm5, km5, qt, res, by go_num, by omega, hqk, HG1.out, F6, b3.trans b6⟩
          case measure => simp [intOf]; omega
    · obtain rfl : j = m := by omega
      have e := HGO.out
      rw [List.drop_of_length_le (by rw [HM.out]; exact Nat.le_refl _)] at e
      have e2 : (res, t') = (R, T) := e
      obtain ⟨e3, e4⟩ := Prod.mk.inj e2
      have HE3 := (show Hid _ from e3)
      have HE4 := (show Hid _ from e4)
      have hrl := F3.l
      have HLR := (show Hid _ from hlr)
      have HRESL := (show Hid _ from hrl)
      have hk4 : nk ≤ 4 := by omega
      clear e e2 e3 e4 hrl
      go_wp2
      go_loopw [21] (fun iv w4 => ∃ (k : Nat) (rs : List Int), iv = .int .i64 (k : Int) ∧ k ≤ nk ∧ rs = res.take k ++ s.r.drop k ∧ FkSt w w4 pR pS pT (.slice (some ⟨gr, 0, none⟩) 4 cr) (.slice (some ⟨gc', 0, none⟩) 8 cc') (.slice (some ⟨gm', 0, none⟩) 8 cm') (.slice ak mk ck) v0 v1 ms { s with r := rs, t := t' } t gb nk res) (fun iv _ => nk - (intOf iv).toNat)
      case atStart => exact ⟨0, s.r, rfl, Nat.zero_le _, by simp, F3⟩
      case round =>
        obtain ⟨k, rs, rfl, hk, hrs, F4⟩ := hrel
        have HRS := (show Hid _ from hrs)
        clear F3 hrs
        by_cases hlt3 : k < nk
        · have hrsl : rs.length = 4 := by rw [HRS.out, List.length_append, List.length_take, List.length_drop, HRESL.out, HLR.out]; omega
          obtain ⟨z1, -⟩ := int_cell F4.o k (by rw [HRESL.out]; exact hlt3)
          obtain ⟨q2, z2⟩ := int_cell F4.st.r k (by show k < rs.length; omega)
          have i1 : (k : Int) < nk := by omega
          have i2 : (k : Int) < 4 := by omega
          have i3 : (0 : Int) ≤ k := by omega
          have F5 := F4.setR k (rd res k)
          have HS : Hid (rs.set k (rd res k) = res.take (k + 1) ++ s.r.drop (k + 1)) := by
            show _ = _
            rw [HRS.out, rd_at (by rw [HRESL.out]; exact hlt3)]
            exact take_drop_set (by rw [HRESL.out]; exact hlt3) (by rw [HLR.out]; omega)
          clear F4 hrsl
          go_wp2
          go_roundw
          case rel => exact ⟨k + 1, _, by go_num, by omega, HS.out, F5⟩
          case measure => simp [intOf]; omega
        · obtain rfl : k = nk := by omega
          have hfin : rs = R ++ s.r.drop k := by rw [HRS.out, ← HE3.out, List.take_of_length_le (by rw [HRESL.out]; exact Nat.le_refl _)]
          have htt : t' = T := HE4.out
          have F5 : FkSt w wr pR pS pT (.slice (some ⟨gr, 0, none⟩) 4 cr) (.slice (some ⟨gc', 0, none⟩) 8 cc') (.slice (some ⟨gm', 0, none⟩) 8 cm') (.slice ak mk ck) v0 v1 ms { s with r := R ++ s.r.drop k, t := T } t gb k res := by rw [← hfin, ← htt]; exact F4
          clear F4 hfin htt
          go_wp2
          refine ⟨?_, by simp [WMu, intOf]; omega⟩
          unfold WI
          refine ⟨_, _, _, _, _, _, _, _, _, _, _, _, _, _, _, _, _, _, _, _, _, _, _, _, _, _, _, _, _, _, _, _, _, _, _, _, _, _, _, _, _, _, _, _, _, _, _, _, _, _, _, _, _, _, _, _, _, _, _, _, _, _, _, _, _, _, _, _, _, _, _, _, _, _, _, _, _, _, _, _, _, _, _, _, _, _, _, _, _, _, _, _, _, _, _, _, _, _, _, _, _, _, _, _, _, _, _, _, _, _, _, _, _, _, _, _, _, _, _, _, _, _, _, _, _, _, _, _, _, _, _, _, _, _, _, _, _, _, _, _, _, _, _, _, _, _, _, _, _, _, _, _, _, _, _, _, _, _, _, _, _, _, _, _, _, _, _, _, _, _, _, _, _, _, _, _, _, _, _, _, _, _, _, _, _, _, _, _, _, _, _, _, _, _, _, _, _, _, _, _, _, _, _, _, _, _, _, _, _, _, _, _, _, _, _, _, _, _, _, _, _, _, _, _, _, _, _, _, _, _, _, _, _, _, _, _, _, _, _, _, _, _, _, _, _, _, _, _, _, _, _, _, _, _, _, _, _, _, _, _, _, _, _, _, _, _, _, _, _, _, ?_, rfl⟩
          exact ⟨_, ms, gr, cr, gc', cc', gm', cm', ak, mk, ck, { rg := rfl, kg := rfl, p := by go_num, l := HL.out, ok := HP.out.2, led := fun r' hr' => HLED.out r' (Leads.step hlt HP.out.1 r' hr'), st := F5.st.pc _ }⟩
end Ops
end Go.Proofs.Ytajbmokidcdfnaa
