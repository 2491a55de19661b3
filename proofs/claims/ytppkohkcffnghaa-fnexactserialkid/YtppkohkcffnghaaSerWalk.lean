/- The loop of the specification's l7Walk: its body, what holds at each round, what falls. -/
import Derived.Test.YtppkohkcffnghaaSerSt
set_option linter.unusedVariables false
set_option linter.unusedSimpArgs false
namespace Go.Proofs.Ytppkohkcffnghaa
open Go.RowKit
namespace Ops
open Bas Flat

def firstLoop : Code → Option Code
  | .loop c => some c
  | .seq a b => match firstLoop a with
    | some c => some c
    | none => firstLoop b
  | .block _ c => firstLoop c
  | .scope c => firstLoop c
  | .cond _ a b => match firstLoop a with
    | some c => some c
    | none => firstLoop b
  | _ => none
noncomputable def bodyW : Code := ((Try.f78.body.bind firstLoop).getD .skip)
/-- what holds at each round -/
structure RelW (xs : List O4) (n : Nat) (F : List Int → Th → List Int × Th) (r : List Int) (t : Th) (w : World) (pR pS pT : Nat) (v0 v1 : Value) (rv kv pv : Value) (wr : World) (s : Cf) (ms : List M5) (gr cr gc cc gm cm : Nat) (ak : Option Addr) (mk ck : Nat) : Prop where
  rg : rv = .slice (some ⟨gr, 0, none⟩) 4 cr
  kg : kv = .slice ak mk ck
  p : pv = .int .i64 s.pc
  l : ms.length = mk
  ok : CfOk xs s
  led : Leads xs t F ⟨0, r, t, []⟩ s
  st : WSt w wr pR pS pT (.slice (some ⟨gr, 0, none⟩) 4 cr) (.slice (some ⟨gc, 0, none⟩) 8 cc) (.slice (some ⟨gm, 0, none⟩) 8 cm) (.slice ak mk ck) v0 v1 ms s t
def RelE (xs : List O4) (n : Nat) (F : List Int → Th → List Int × Th) (r : List Int) (t : Th) (w : World) (pR pS pT : Nat) (v0 v1 : Value) (rv kv pv : Value) (wr : World) : Prop := ∃ s ms gr cr gc cc gm cm ak mk ck, RelW xs n F r t w pR pS pT v0 v1 rv kv pv wr s ms gr cr gc cc gm cm ak mk ck
set_option maxRecDepth 1000000 in
def WI (xs : List O4) (n : Nat) (F : List Int → Th → List Int × Th) (r : List Int) (t : Th) (w : World) (pR pS pT : Nat) (v0 v1 : Value) (cx c1 c2 c4 c5 c6 c7 c8 c26 c27 c28 c29 c30 c31 c32 c33 c289 c290 c291 : Value) (a : Act) (w' : World) : Prop :=
  ∃ u3 u12 u13 u14 u15 u16 u17 u18 u19 u20 u21 u22 u23 u24 u25 u34 u35 u36 u37 u38 u39 u40 u41 u42 u43 u44 u45 u46 u47 u48 u49 u50 u51 u52 u53 u54 u55 u56 u57 u58 u59 u60 u61 u62 u63 u64 u65 u66 u67 u68 u69 u70 u71 u72 u73 u74 u75 u76 u77 u78 u79 u80 u81 u82 u83 u84 u85 u86 u87 u88 u89 u90 u91 u92 u93 u94 u95 u96 u97 u98 u99 u100 u101 u102 u103 u104 u105 u106 u107 u108 u109 u110 u111 u112 u113 u114 u115 u116 u117 u118 u119 u120 u121 u122 u123 u124 u125 u126 u127 u128 u129 u130 u131 u132 u133 u134 u135 u136 u137 u138 u139 u140 u141 u142 u143 u144 u145 u146 u147 u148 u149 u150 u151 u152 u153 u154 u155 u156 u157 u158 u159 u160 u161 u162 u163 u164 u165 u166 u167 u168 u169 u170 u171 u172 u173 u174 u175 u176 u177 u178 u179 u180 u181 u182 u183 u184 u185 u186 u187 u188 u189 u190 u191 u192 u193 u194 u195 u196 u197 u198 u199 u200 u201 u202 u203 u204 u205 u206 u207 u208 u209 u210 u211 u212 u213 u214 u215 u216 u217 u218 u219 u220 u221 u222 u223 u224 u225 u226 u227 u228 u229 u230 u231 u232 u233 u234 u235 u236 u237 u238 u239 u240 u241 u242 u243 u244 u245 u246 u247 u248 u249 u250 u251 u252 u253 u254 u255 u256 u257 u258 u259 u260 u261 u262 u263 u264 u265 u266 u267 u268 u269 u270 u271 u272 u273 u274 u275 u276 u277 u278 u279 u280 u281 u282 u283 u284 u285 u286 u287 u288 : Value, RelE xs n F r t w pR pS pT v0 v1 u3 u12 u13 w' ∧ a = ⟨#[cx, c1, c2, u3, c4, c5, c6, c7, c8, .pointer (some ⟨pS, 0, none⟩), .pointer (some ⟨pR, 0, none⟩), .pointer (some ⟨pT, 0, none⟩), u12, u13, u14, u15, u16, u17, u18, u19, u20, u21, u22, u23, u24, u25, c26, c27, c28, c29, c30, c31, c32, c33, u34, u35, u36, u37, u38, u39, u40, u41, u42, u43, u44, u45, u46, u47, u48, u49, u50, u51, u52, u53, u54, u55, u56, u57, u58, u59, u60, u61, u62, u63, u64, u65, u66, u67, u68, u69, u70, u71, u72, u73, u74, u75, u76, u77, u78, u79, u80, u81, u82, u83, u84, u85, u86, u87, u88, u89, u90, u91, u92, u93, u94, u95, u96, u97, u98, u99, u100, u101, u102, u103, u104, u105, u106, u107, u108, u109, u110, u111, u112, u113, u114, u115, u116, u117, u118, u119, u120, u121, u122, u123, u124, u125, u126, u127, u128, u129, u130, u131, u132, u133, u134, u135, u136, u137, u138, u139, u140, u141, u142, u143, u144, u145, u146, u147, u148, u149, u150, u151, u152, u153, u154, u155, u156, u157, u158, u159, u160, u161, u162, u163, u164, u165, u166, u167, u168, u169, u170, u171, u172, u173, u174, u175, u176, u177, u178, u179, u180, u181, u182, u183, u184, u185, u186, u187, u188, u189, u190, u191, u192, u193, u194, u195, u196, u197, u198, u199, u200, u201, u202, u203, u204, u205, u206, u207, u208, u209, u210, u211, u212, u213, u214, u215, u216, u217, u218, u219, u220, u221, u222, u223, u224, u225, u226, u227, u228, u229, u230, u231, u232, u233, u234, u235, u236, u237, u238, u239, u240, u241, u242, u243, u244, u245, u246, u247, u248, u249, u250, u251, u252, u253, u254, u255, u256, u257, u258, u259, u260, u261, u262, u263, u264, u265, u266, u267, u268, u269, u270, u271, u272, u273, u274, u275, u276, u277, u278, u279, u280, u281, u282, u283, u284, u285, u286, u287, u288, c289, c290, c291], []⟩
/-- how the walk returns: the result's place holds how it ended -/
def RetW (xs : List O4) (F : List Int → Th → List Int × Th) (r : List Int) (t : Th) (w : World) (pR : Nat) (a : Act) (w' : World) : Prop :=
  a.tmps.getD 10 undef = .pointer (some ⟨pR, 0, none⟩) ∧ a.defers = [] ∧ ∃ v' vc' vm' q, Blk w' pR #[.int .i64 q.out, v', vc', vm', .int .i64 q.t.n] 45 ∧ Ends xs t F ⟨0, r, t, []⟩ q ∧ Ints.Owns w.heap.size w' v' q.r ∧ OwnT w.heap.size w' vc' vm' q.t ∧ Dj v' vc' ∧ Dj v' vm' ∧ (q.out = 1 ∨ q.out = 2) ∧ regsOk q.r = true ∧ thOk q.t = true ∧ Below w.heap.size w w'
def WMu (n : Nat) (a : Act) (w : World) : Nat := n - (intOf (a.tmps.getD 13 undef)).toNat
end Ops
end Go.Proofs.Ytppkohkcffnghaa
