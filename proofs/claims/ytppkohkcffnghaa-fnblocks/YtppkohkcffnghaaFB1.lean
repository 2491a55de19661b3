/- Several texts of one proof, in build order: DrawL, Byt, DrawWalks, DrawNew, DrawE. -/
import Derived.Laws.Bits128
import Derived.IntWalk
import Derived.Test.YtppkohkcffnghaaProg
import Derived.WalkKit
import Derived.WalkLawsBesides
import Derived.WalkSpells
import Derived.Laws.CopyOwn
import Derived.Laws.IdiomStrings
import Derived.Deep.OwnRows
import Derived.Deep.AppendLies
import Derived.Outline
import Derived.OpenShut
import Derived.Deep.QuietTactic
import Derived.BigQuiet
import Derived.Test.YtppkohkcffnghaaKB1
/- Plain mathematics of the draws: what the cursor's bytes are, as functions of the code. -/
namespace Go.Proofs.Ytppkohkcffnghaa.Num
open Go.RowKit
theorem i64_and255 (n : Int) : bits .and .i64 n 255 = n % 256 := by
  have h : (BitVec.ofInt 64 255).toNat = 2 ^ 8 - 1 := by decide
  have key : (BitVec.ofInt 64 n &&& BitVec.ofInt 64 255).toNat = (n % ((2 ^ 64 : Nat) : Int)).toNat % 2 ^ 8 := by
    rw [BitVec.toNat_and, BitVec.toNat_ofInt, h, Nat.and_two_pow_sub_one_eq_mod]
  show IntKind.i64.wrap ((BitVec.ofInt 64 n &&& BitVec.ofInt 64 255).toNat : Nat) = n % 256
  rw [key, IntKind.wrap_i64]
  omega
theorem i64_and30 (n : Int) : bits .and .i64 n 1073741823 = n % 1073741824 := by
  have h : (BitVec.ofInt 64 1073741823).toNat = 2 ^ 30 - 1 := by decide
  have key : (BitVec.ofInt 64 n &&& BitVec.ofInt 64 1073741823).toNat = (n % ((2 ^ 64 : Nat) : Int)).toNat % 2 ^ 30 := by
    rw [BitVec.toNat_and, BitVec.toNat_ofInt, h, Nat.and_two_pow_sub_one_eq_mod]
  show IntKind.i64.wrap ((BitVec.ofInt 64 n &&& BitVec.ofInt 64 1073741823).toNat : Nat) = n % 1073741824
  rw [key, IntKind.wrap_i64]
  omega

/-! ### The cursor: how many bytes of the code are used up, and the number that is mixed -/
/-- the next number -/
def hNext (h : Int) : Int := wrap64 (wrap64 (h * 6364136223846793005) + 1442695040888963407)
/-- the byte that a number gives -/
def mix (h : Int) : Int := bits .xor .i64 (h / 8589934592) (h / 35184372088832) % 256
theorem mix_range (h : Int) : 0 ≤ mix h ∧ mix h ≤ 255 := by unfold mix; omega
/-- the state: how many bytes are used up, the number -/
abbrev St := Nat × Int
def bx (l : List UInt8) (s : St) : Int := if s.1 < l.length then (mix (hNext s.2) + ((l.getD s.1 0).toNat : Int)) % 256 else mix (hNext s.2)
def bst (l : List UInt8) (s : St) : St := (if s.1 < l.length then s.1 + 1 else s.1, hNext s.2)
theorem bx_range (l : List UInt8) (s : St) : 0 ≤ bx l s ∧ bx l s ≤ 255 := by
  unfold bx; have := mix_range (hNext s.2); split <;> omega
theorem bst_le (l : List UInt8) (s : St) (h : s.1 ≤ l.length) : (bst l s).1 ≤ l.length := by unfold bst; simp only; split <;> omega

/-- a number below n -/
def below (l : List UInt8) (s : St) (n : Int) : Int :=
  if n ≤ 0 then 0 else if n ≤ 256 then bx l s % n else (bx l s * 16777216 + bx l (bst l s) * 65536 + bx l (bst l (bst l s)) * 256 + bx l (bst l (bst l (bst l s)))) % n
def belowSt (l : List UInt8) (s : St) (n : Int) : St :=
  if n ≤ 0 then s else if n ≤ 256 then bst l s else bst l (bst l (bst l (bst l s)))
theorem below_range (l : List UInt8) (s : St) (n : Int) (h : 0 < n) : 0 ≤ below l s n ∧ below l s n < n := by
  unfold below
  rw [if_neg (by omega)]
  split
  · exact ⟨Int.emod_nonneg _ (by omega), Int.emod_lt_of_pos _ h⟩
  · exact ⟨Int.emod_nonneg _ (by omega), Int.emod_lt_of_pos _ h⟩
theorem belowSt_le (l : List UInt8) (s : St) (n : Int) (h : s.1 ≤ l.length) : (belowSt l s n).1 ≤ l.length := by
  unfold belowSt
  split
  · exact h
  · split
    · exact bst_le l s h
    · exact bst_le _ _ (bst_le _ _ (bst_le _ _ (bst_le l s h)))

/-- the first number of a cursor -/
def h0To (l : List UInt8) : Nat → Int
  | 0 => 10101 + (l.length : Int)
  | k + 1 => (h0To l k * 131 + ((l.getD k 0).toNat : Int) + 7) % 1073741824
theorem h0To_range (l : List UInt8) (h : l.length ≤ 1048576) (k : Nat) : 0 ≤ h0To l k ∧ h0To l k ≤ 1073741823 := by
  cases k with
  | zero => simp [h0To]; omega
  | succ k => rw [h0To]; omega
def st0 (l : List UInt8) : St := (0, h0To l (min l.length 4000))

/-- the numbers at limits -/
def nums : List Int := [-1, 0, 127, 128, 255, 256, 16383, 16384, 65535, 65536, 562949953421311, 562949953421312, 999999999, 1000000000, -999999999, 9223372036854775807, -9223372036854775808]
theorem nums_range (j : Nat) : -9223372036854775808 ≤ nums.getD j 0 ∧ nums.getD j 0 ≤ 9223372036854775807 := by
  rcases Nat.lt_or_ge j 17 with h | h
  · have : ∀ k : Fin 17, -9223372036854775808 ≤ nums.getD k.val 0 ∧ nums.getD k.val 0 ≤ 9223372036854775807 := by decide
    exact this ⟨j, h⟩
  · have e : nums.getD j 0 = 0 := by
      have hl : nums.length ≤ j := h
      simp [List.getD, List.getElem?_eq_none hl]
    rw [e]; decide
def num (l : List UInt8) (s : St) : Int :=
  if below l s 8 = 0 then nums.getD (below l (belowSt l s 8) 17).toNat 0
  else if below l s 8 = 1 then below l (belowSt l s 8) 1000000000 * below l (belowSt l (belowSt l s 8) 1000000000) 1000000000
  else if below l s 8 = 2 then -(below l (belowSt l s 8) 100000)
  else below l (belowSt l s 8) 70000
def numSt (l : List UInt8) (s : St) : St :=
  if below l s 8 = 0 then belowSt l (belowSt l s 8) 17
  else if below l s 8 = 1 then belowSt l (belowSt l (belowSt l s 8) 1000000000) 1000000000
  else if below l s 8 = 2 then belowSt l (belowSt l s 8) 100000
  else belowSt l (belowSt l s 8) 70000
theorem mul_bound (a b : Int) (ha : 0 ≤ a ∧ a < 1000000000) (hb : 0 ≤ b ∧ b < 1000000000) : 0 ≤ a * b ∧ a * b ≤ 1000000000000000000 := by
  obtain ⟨x, rfl⟩ := Int.eq_ofNat_of_zero_le ha.1
  obtain ⟨y, rfl⟩ := Int.eq_ofNat_of_zero_le hb.1
  have h : x * y ≤ 1000000000 * 1000000000 := Nat.mul_le_mul (by omega) (by omega)
  have e : ((x : Int) * (y : Int)) = ((x * y : Nat) : Int) := by simp
  rw [e]; omega
theorem num_range (l : List UInt8) (s : St) : -9223372036854775808 ≤ num l s ∧ num l s ≤ 9223372036854775807 := by
  unfold num
  split
  · exact nums_range _
  · split
    · have := mul_bound _ _ (below_range l (belowSt l s 8) 1000000000 (by omega)) (below_range l (belowSt l (belowSt l s 8) 1000000000) 1000000000 (by omega))
      omega
    · split
      · have := below_range l (belowSt l s 8) 100000 (by omega); omega
      · have := below_range l (belowSt l s 8) 70000 (by omega); omega

/-- a byte by its style -/
def styled (style b : Int) : Int := if style = 1 then b % 2 else if style = 2 then 97 + b % 4 else b
theorem styled_range (style b : Int) (h : 0 ≤ b ∧ b ≤ 255) : 0 ≤ styled style b ∧ styled style b ≤ 255 := by
  unfold styled; split
  · omega
  · split <;> omega
/-- the first k bytes of a text, and the cursor behind them -/
def tx (l : List UInt8) (s : St) (style : Int) : Nat → List UInt8 × St
  | 0 => ([], s)
  | k + 1 => ((tx l s style k).1 ++ [UInt8.ofNat (styled style (bx l (tx l s style k).2)).toNat], bst l (tx l s style k).2)
theorem tx_length (l : List UInt8) (s : St) (style : Int) (k : Nat) : (tx l s style k).1.length = k := by
  induction k with
  | zero => rfl
  | succ k ih => simp [tx, ih]
def text (l : List UInt8) (s : St) (most : Nat) : List UInt8 := (tx l (belowSt l (belowSt l s 4) ((most : Int) + 1)) (below l s 4) (below l (belowSt l s 4) ((most : Int) + 1)).toNat).1
def textSt (l : List UInt8) (s : St) (most : Nat) : St := (tx l (belowSt l (belowSt l s 4) ((most : Int) + 1)) (below l s 4) (below l (belowSt l s 4) ((most : Int) + 1)).toNat).2
theorem text_length (l : List UInt8) (s : St) (most : Nat) : (text l s most).length ≤ most := by
  unfold text
  rw [tx_length]
  have := below_range l (belowSt l s 4) ((most : Int) + 1) (by omega)
  omega

/-! ### a text spoilt at one place -/
def spK (l : List UInt8) (s : St) (p : ByteArray) : Nat := (below l s (p.size : Int)).toNat
def spD (l : List UInt8) (s : St) (p : ByteArray) : Int := below l (belowSt l s (p.size : Int)) 4
def spS (l : List UInt8) (s : St) (p : ByteArray) : St := belowSt l (belowSt l s (p.size : Int)) 4
def spoil (l : List UInt8) (s : St) (p : ByteArray) : ByteArray :=
  if p.size = 0 then ⟨(text l s 3).toArray⟩
  else if spD l s p = 0 then p.extract 0 (spK l s p) ++ p.extract (spK l s p + 1) p.size
  else if spD l s p = 1 then p.extract 0 (spK l s p) ++ ⟨#[UInt8.ofNat (bx l (spS l s p)).toNat]⟩ ++ p.extract (spK l s p) p.size
  else if spD l s p = 2 then p.extract 0 (spK l s p)
  else p.extract 0 (spK l s p) ++ ⟨#[UInt8.ofNat (bits .xor .i64 ((p.data.toList.getD (spK l s p) 0).toNat : Int) (1 + below l (spS l s p) 255) % 256).toNat]⟩ ++ p.extract (spK l s p + 1) p.size
def spoilSt (l : List UInt8) (s : St) (p : ByteArray) : St :=
  if p.size = 0 then textSt l s 3
  else if spD l s p = 0 then spS l s p
  else if spD l s p = 1 then bst l (spS l s p)
  else if spD l s p = 2 then spS l s p
  else belowSt l (spS l s p) 255
theorem spK_lt (l : List UInt8) (s : St) (p : ByteArray) (h : p.size ≠ 0) : spK l s p < p.size := by
  unfold spK
  have := below_range l s (p.size : Int) (by omega)
  omega
theorem spoil_size (l : List UInt8) (s : St) (p : ByteArray) : (spoil l s p).size ≤ p.size + 3 := by
  unfold spoil
  split
  · have := text_length l s 3
    show (text l s 3).toArray.size ≤ _
    simp; omega
  · have e1 : ∀ q : UInt8, (ByteArray.mk #[q]).size = 1 := fun _ => rfl
    split
    · simp [ByteArray.size_append, ByteArray.size_extract]; omega
    · split
      · simp [ByteArray.size_append, ByteArray.size_extract, e1]; omega
      · split
        · simp [ByteArray.size_extract]; omega
        · simp [ByteArray.size_append, ByteArray.size_extract, e1]; omega
end Go.Proofs.Ytppkohkcffnghaa.Num
/- Rows of bytes in memory: what they read as, texts made of them, bytes put behind them. -/
namespace Go.Proofs.Ytppkohkcffnghaa
open Go.RowKit

theorem Try.infoByte : (Try.prog.info? 5).map (fun i => (i.zero, i.size, i.bytes)) = some (some (.int .u8 0), 1, 1) := by kernel_rfl

namespace Bytes

def bv (l : List UInt8) : List Value := l.map fun b => Value.int .u8 (b.toNat : Int)
theorem bv_length (l : List UInt8) : (bv l).length = l.length := by simp [bv]
theorem bv_get (l : List UInt8) (j : Nat) (v : Value) (h : (bv l)[j]? = some v) : ∃ b, l[j]? = some b ∧ v = .int .u8 (b.toNat : Int) := by
  unfold bv at h; rw [List.getElem?_map] at h
  cases hb : l[j]? with
  | none => rw [hb] at h; simp at h
  | some b => rw [hb] at h; simp at h; exact ⟨b, rfl, h.symm⟩
theorem bv_one (l : List UInt8) : ∀ v ∈ bv l, v.oneCell' = true := by
  intro v hv; unfold bv at hv; obtain ⟨b, _, rfl⟩ := List.mem_map.1 hv; rfl
theorem bv_splice (l cs : List UInt8) (k : Nat) : bv (splice l k cs) = splice (bv l) k (bv cs) := by simp [bv, splice]

/-- block g holds just these bytes -/
def Row (w : World) (g : Nat) (l : List UInt8) : Prop := w.heap[g]? = some (.cells (bv l).toArray 5 (0, 0))

theorem Row.lt {w : World} {g : Nat} {l : List UInt8} (h : Row w g l) : g < w.heap.size := by
  unfold Row at h
  rcases Nat.lt_or_ge g w.heap.size with h1 | h1
  · exact h1
  · rw [Array.getElem?_eq_none h1] at h; cases h
theorem Row.alloc {w : World} {g : Nat} {l : List UInt8} (h : Row w g l) (o : Obj) : Row (w.alloc o) g l := by
  have := h.lt; unfold Row at *; rw [Below.heap_alloc _ _ _ this]; exact h
theorem Row.below {w w' : World} {g B : Nat} {l : List UInt8} (h : Row w g l) (hb : Below B w w') (hg : g < B) : Row w' g l := by
  unfold Row at *; rw [hb.block g hg]; exact h
theorem Row.cell {w : World} {g : Nat} {l : List UInt8} (h : Row w g l) (j : Nat) (hj : j < l.length) : w.cell? ⟨g, j, none⟩ = some (.int .u8 (l[j].toNat : Int)) := by
  unfold Row at h; simp [World.cell?, h, bv, hj]
theorem Row.made (w : World) (n : Nat) : Row (w.alloc (.cells (madeCells #[.int .u8 0] n) 5)) w.heap.size (List.replicate n 0) := by
  have e : (madeCells #[Value.int .u8 0] n) = (bv (List.replicate n 0)).toArray := by
    apply Array.ext
    · simp [size_madeCells, bv]
    · intro i h1 h2; simp [madeCells, bv, Nat.mod_one]
  unfold Row
  rw [e]
  show (w.heap.push _)[w.heap.size]? = _
  simp

/-- a row that is filled so far, noughts behind -/
def pad (n : Nat) (A : List UInt8) : List UInt8 := A ++ List.replicate (n - A.length) 0
theorem pad_length (n : Nat) (A : List UInt8) (h : A.length ≤ n) : (pad n A).length = n := by simp [pad]; omega
theorem pad_nil (n : Nat) : pad n [] = List.replicate n 0 := by simp [pad]
theorem pad_full (A : List UInt8) : pad A.length A = A := by simp [pad]
theorem pad_take (n : Nat) (A : List UInt8) : (pad n A).take A.length = A := by simp [pad]
theorem splice_pad (n : Nat) (A cs : List UInt8) (h : A.length + cs.length ≤ n) : splice (pad n A) A.length cs = pad n (A ++ cs) := by
  unfold splice pad
  rw [List.take_left, List.drop_append, List.drop_of_length_le (by omega), List.nil_append, List.drop_replicate, List.append_assoc, List.length_append]
  congr 3
  omega

/-- the text of a row's beginning -/
theorem Row.str {w : World} {g : Nat} {l : List UInt8} (h : Row w g l) (k c : Nat) (hk : k ≤ l.length) :
    (convert 22 9 (.slice (some ⟨g, 0, none⟩) k c)).run Try.prog w = .ok (.string ⟨(l.take k).toArray⟩) w := by
  have hl : (l.take k).length = k := by simp; omega
  have := run_convert_bytes_back (P := Try.prog) w 22 9 5 ⟨g, 0, none⟩ c (l.take k) Try.underlying22 Try.underlying5 Try.underlying9
    (fun j hj => by
      have h1 := h.cell j (by omega)
      have h2 : (⟨g, 0, none⟩ : Addr).add j = ⟨g, j, none⟩ := by unfold Addr.add; split <;> simp_all
      rw [h2, h1]; simp)
  rw [hl] at this
  exact this

/-- the cells of a new block of one byte, or of two -/
theorem new1 (w : World) (v : Int) (b : UInt8) (h : v = (b.toNat : Int)) : ∀ j c, [b][j]? = some c → (w.alloc (.cells #[.int .u8 v] 5)).cell? ((⟨w.heap.size, 0, none⟩ : Addr).add j) = some (.int .u8 (c.toNat : Int)) := by
  intro j c hj
  match j, hj with
  | 0, hj => simp at hj; subst hj; subst h; simp [Addr.add, World.cell?_alloc_at]
  | j + 1, hj => simp at hj
theorem new2 (w : World) (v u : Int) (b d : UInt8) (h : v = (b.toNat : Int)) (h' : u = (d.toNat : Int)) : ∀ j c, [b, d][j]? = some c → (w.alloc (.cells #[.int .u8 v, .int .u8 u] 5)).cell? ((⟨w.heap.size, 0, none⟩ : Addr).add j) = some (.int .u8 (c.toNat : Int)) := by
  intro j c hj
  match j, hj with
  | 0, hj => simp at hj; subst hj; subst h; simp [Addr.add, World.cell?_alloc_at]
  | 1, hj => simp at hj; subst hj; subst h'; simp [Addr.add, World.cell?_alloc_at]
  | j + 2, hj => simp at hj

/-- the text of one byte -/
theorem str1 (v : Int) (b : UInt8) (h : v = (b.toNat : Int)) (w : World) : (convert 22 9 (.slice (some ⟨w.heap.size, 0, none⟩) 1 1)).run Try.prog (w.alloc (.cells #[.int .u8 v] 5)) = .ok (.string ⟨#[b]⟩) (w.alloc (.cells #[.int .u8 v] 5)) := by
  have := run_convert_bytes_back (P := Try.prog) (w.alloc (.cells #[.int .u8 v] 5)) 22 9 5 ⟨w.heap.size, 0, none⟩ 1 [b] Try.underlying22 Try.underlying5 Try.underlying9
    (fun j hj => new1 w v b h j _ (List.getElem?_eq_getElem hj))
  exact this

theorem makeRow (n : Nat) (h : n ≤ 140737488355328) (w : World) :
    (Instr.makeSlice 22 (.int .i64 (n : Int)) (.int .i64 (n : Int))).run Try.prog w = .ok (.slice (some ⟨w.heap.size, 0, none⟩) n n) (w.alloc (.cells (madeCells #[.int .u8 0] n) 5)) :=
  run_make_row' (P := Try.prog) 22 5 (.int .u8 0) 1 Try.underlying22 Try.infoByte rfl .i64 .i64 n (by omega) (by omega) w

/-- the text of what the call owns -/
theorem own_str {w : World} {B : Nat} {v : Value} {n : Nat} {A : List UInt8} (h : w.ownsRow B 5 1 v n (bv A)) :
    (convert 22 9 v).run Try.prog w = .ok (.string ⟨A.toArray⟩) w := by
  obtain ⟨h1, h2⟩ := h
  rw [bv_length] at h1
  rcases h2 with ⟨rfl, rfl⟩ | ⟨g, cap, cur, rfl, _, hg, hnc, _, hsz, htk⟩
  · obtain rfl : A = [] := List.eq_nil_of_length_eq_zero (by omega)
    rw [run_convert_bytes_string w 22 9 5 none 0 0 Try.underlying22 Try.underlying5 Try.underlying9]
    rfl
  · have hl : A.length = n := by omega
    have := run_convert_bytes_back (P := Try.prog) w 22 9 5 ⟨g, 0, none⟩ cap A Try.underlying22 Try.underlying5 Try.underlying9
      (fun j hj => by
        have h2 : (⟨g, 0, none⟩ : Addr).add j = ⟨g, j, none⟩ := by unfold Addr.add; split <;> simp_all
        have h3 : cur[j]? = some (.int .u8 (A[j].toNat : Int)) := by
          have h4 : (cur.toList.take (n * 1))[j]? = (bv A)[j]? := by rw [htk]
          rw [List.getElem?_take, if_pos (by omega)] at h4
          rw [← Array.getElem?_toList, h4]
          simp [bv, hj]
        rw [h2]
        simp [World.cell?, hg, h3])
    rw [hl] at this
    exact this
/-- an empty literal owns nothing -/
theorem own_lit (w : World) (B : Nat) (hB : B ≤ w.heap.size) : (w.alloc (.cells #[] 5)).ownsRow B 5 1 (.slice (some ⟨w.heap.size, 0, none⟩) 0 0) 0 (bv []) :=
  World.ownsRow_made w #[] 0 hB (by simp [maxLen]) rfl

/-- bytes put behind what the call owns, as one step of a region that draws its order -/
theorem step_app {ops : Array Oper} {o : Oper} {a : Act} {K : Act → World → Prop} {Q : Exit → Act → World → Prop} {E : Prop} (w w0 : World) (hgd : o.guard = none) (s x : Operand)
    (ho : o.op = .call { callee := .builtin .append, args := #[s, x], argTypes := #[22, 22] }) (B n m c : Nat) (A C : List UInt8) (v : Value) (ad : Addr)
    (hs : a.eval s = v) (hx : a.eval x = .slice (some ad) m c) (hown : w.ownsRow B 5 1 v n (bv A)) (hl : C.length = m)
    (hnews : ∀ j b, C[j]? = some b → w.cell? (ad.add j) = some (.int .u8 (b.toNat : Int))) (hm : 0 < m) (hbig : n + m ≤ 140737488355328) (hB : Below B w0 w) (hbase : B ≤ w.heap.size)
    (h : ∀ g cap w', Hid (w'.ownsRow B 5 1 (.slice (some ⟨g, 0, none⟩) (n + m) cap) (n + m) (bv (A ++ C))) → Hid (Below B w0 w') → K (a.put o.dst (.slice (some ⟨g, 0, none⟩) (n + m) cap)) w') :
    if Region.wanted o (yielded ops a.tmps) = true then Oper.wp Try.prog o a w K Q else E := by
  obtain ⟨i0, hi, hz0, hz1, hz2⟩ := info_parts Try.infoByte
  refine step_append_lies w hgd s x 22 ho B 5 i0 (.int .u8 0) 1 1 Try.underlying22 hi hz0 hz1 hz2 rfl (by decide) v n (bv A) hs hown ad m c (bv C) hx (by rw [bv_length, hl]; omega)
    (fun j u hj => by obtain ⟨b, hb, rfl⟩ := bv_get _ _ _ hj; exact hnews j b hb) (bv_one C) hm (by unfold maxLen; omega) (by omega) hbase w.heap.size rfl ?_
  intro g cap w' hown' hgr _ _
  refine h g cap w' ?_ (hB.grown hgr hbase (fun g hg => (hown.lt g hg).1))
  have e : bv (A ++ C) = bv A ++ bv C := by simp [bv]
  show World.ownsRow _ _ _ _ _ _ _
  rw [e]; exact hown'
end Bytes
end Go.Proofs.Ytppkohkcffnghaa
/- The cursor over a code's bytes: each step's answer is a function of the code and of the steps ahead of it. -/
namespace Go.Proofs.Ytppkohkcffnghaa
open Go.RowKit
namespace Draw
open Num Bytes

/-- a code that came in: a slice of bytes below block B -/
def Code (B : Nat) (w : World) (v : Value) (l : List UInt8) : Prop :=
  ∃ a cap, v = .slice a l.length cap ∧ l.length ≤ cap ∧ (l ≠ [] → ∃ b off, a = some ⟨b, off, none⟩ ∧ b < B ∧ ∀ j (h : j < l.length), w.cell? ⟨b, off + j, none⟩ = some (.int .u8 (l[j].toNat : Int)))
/-- the cursor lies in block g -/
def Cur (w : World) (g : Nat) (v : Value) (s : St) : Prop := w.heap[g]? = some (.cells #[v, .int .i64 (s.1 : Int), .int .i64 s.2] 116 (0, 0))

theorem Code.below {B : Nat} {w w' : World} {v : Value} {l : List UInt8} (h : Code B w v l) (hb : Below B w w') : Code B w' v l := by
  obtain ⟨a, cap, h1, h0, h2⟩ := h
  refine ⟨a, cap, h1, h0, fun hl => ?_⟩
  obtain ⟨b, off, e, hB, hc⟩ := h2 hl
  exact ⟨b, off, e, hB, fun j hj => by rw [hb.cell (p := ⟨b, off + j, none⟩) hB]; exact hc j hj⟩
theorem Cur.lt {w : World} {g : Nat} {v : Value} {s : St} (h : Cur w g v s) : g < w.heap.size := by
  unfold Cur at h
  rcases Nat.lt_or_ge g w.heap.size with h1 | h1
  · exact h1
  · rw [Array.getElem?_eq_none h1] at h; cases h
theorem Cur.cells {w : World} {g : Nat} {v : Value} {s : St} (h : Cur w g v s) :
    w.cell? ⟨g, 0, none⟩ = some v ∧ w.cell? ⟨g, 1, none⟩ = some (.int .i64 (s.1 : Int)) ∧ w.cell? ⟨g, 2, none⟩ = some (.int .i64 s.2) ∧ w.frozen? ⟨g, 1, none⟩ = false ∧ w.frozen? ⟨g, 2, none⟩ = false := by
  unfold Cur at h
  refine ⟨?_, ?_, ?_, ?_, ?_⟩ <;> simp [World.cell?, World.frozen?, h]
theorem Cur.grown {w w' : World} {g : Nat} {v : Value} {s : St} {r : Option Nat} (h : Cur w g v s) (hg : w.grownBy w' r) (hr : r ≠ some g) : Cur w' g v s := by
  unfold Cur at *
  rw [hg.block g (Cur.lt h) (fun e => hr e.symm)]; exact h

theorem Cur.set2 {w : World} {g : Nat} {v : Value} {i : Nat} {h : Int} (hc : Cur w g v (i, h)) (h' : Int) : Cur (w.setCell ⟨g, 2, none⟩ (.int .i64 h')) g v (i, h') := by
  unfold Cur at *; simp [World.setCell, Array.getElem?_modify, hc]
theorem Cur.set1 {w : World} {g : Nat} {v : Value} {i : Nat} {h : Int} (hc : Cur w g v (i, h)) (i' : Nat) : Cur (w.setCell ⟨g, 1, none⟩ (.int .i64 (i' : Int))) g v (i', h) := by
  unfold Cur at *; simp [World.setCell, Array.getElem?_modify, hc]
theorem grown_set (w : World) (g o : Nat) (x : Value) : w.grownBy (w.setCell ⟨g, o, none⟩ x) (some g) :=
  ⟨rfl, rfl, rfl, by simp [World.setCell], fun k _ hk => Below.heap_setCell _ _ _ _ (fun e => hk (by rw [e]))⟩
theorem grown_trans {a b c : World} {r : Option Nat} (h : a.grownBy b r) (k : b.grownBy c r) : a.grownBy c r :=
  ⟨k.os.trans h.os, k.tape.trans h.tape, k.output.trans h.output, Nat.le_trans h.size k.size, fun i hi hr => (k.block i (Nat.lt_of_lt_of_le hi h.size) hr).trans (h.block i hi hr)⟩
theorem Cur.drewN {w : World} {g : Nat} {v : Value} {s : St} (h : Cur w g v s) (n : Nat) : Cur (w.drewN n) g v s := h
theorem grown_drewN {a b : World} {r : Option Nat} (h : a.grownBy b r) (n : Nat) : a.grownBy (b.drewN n) r := ⟨h.os, h.tape, h.output, h.size, h.block⟩
theorem ret_i {a b : Int} (h : a = b) : Ending.returned (.int .i64 a) = .returned (.int .i64 b) := by rw [h]
theorem size_set (w : World) (a : Addr) (x : Value) : (w.setCell a x).heap.size = w.heap.size := by simp [World.setCell]

set_option maxRecDepth 100000 in
set_option maxHeartbeats 800000 in
theorem byte (B g : Nat) (v : Value) (l : List UInt8) (i : Nat) (h : Int) (w : World) (_hl : l.length ≤ 1048576) (hC : Code B w v l) (hK : Cur w g v (i, h)) (hB : B ≤ g) (hi : i ≤ l.length) :
    Calls Try.prog 89 #[.pointer (some ⟨g, 0, none⟩)] w
      fun e w' => e = .returned (.int .i64 (bx l (i, h))) ∧ Cur w' g v (bst l (i, h)) ∧ w.grownBy w' (some g) ∧ w'.heap.size = w.heap.size := by
  obtain ⟨c0, c1, c2, f1, f2⟩ := hK.cells
  obtain ⟨a, cap, rfl, hcap, hcode⟩ := hC
  have hh : wrap64 (wrap64 (h * 6364136223846793005) + 1442695040888963407) = hNext h := rfl
  have HH : Hid (wrap64 (wrap64 (h * 6364136223846793005) + 1442695040888963407) = hNext h) := hh
  have HK : Hid (Cur (w.setCell ⟨g, 2, none⟩ (.int .i64 (hNext h))) g (.slice a l.length cap) (i, hNext h)) := hK.set2 _
  have HG : Hid (w.grownBy (w.setCell ⟨g, 2, none⟩ (.int .i64 (hNext h))) (some g)) := grown_set _ _ _ _
  have HZ : Hid ((w.setCell ⟨g, 2, none⟩ (.int .i64 (hNext h))).heap.size = w.heap.size) := size_set _ _ _
  have HCo : Hid (l ≠ [] → ∃ b off, a = some ⟨b, off, none⟩ ∧ b < B ∧ ∀ j (h : j < l.length), w.cell? ⟨b, off + j, none⟩ = some (.int .u8 (l[j].toNat : Int))) := hcode
  clear hcode hh
  go_enter Try.func89, Try.ntmps89
  go_wp2
  rw [HH.out]
  generalize w.setCell ⟨g, 2, none⟩ (.int .i64 (hNext h)) = w2 at *
  clear c0 c1 c2 f1 f2 hK
  obtain ⟨c0, c1, c2, f1, f2⟩ := HK.out.cells
  have h255 := i64_and255
  by_cases hlt : i < l.length
  · have hltI : (i : Int) < (l.length : Int) := by omega
    have h0I : (0 : Int) ≤ (i : Int) := by omega
    obtain ⟨b, off, rfl, hbB, hcells⟩ := HCo.out (by intro e; rw [e] at hlt; simp at hlt)
    have hcw : w2.cell? ⟨b, off + i, none⟩ = some (.int .u8 (l[i].toNat : Int)) := by
      rw [World.cell?_of_block (w := w) (HG.out.block b (by have := HK.out.lt; rw [HZ.out] at this; omega) (by intro e; injection e with e; omega))]
      exact hcells i hlt
    have hby : l[i].toNat < 256 := l[i].toNat_lt
    have HX : Hid (bx l (i, h) = (bits .xor .i64 (hNext h / 8589934592) (hNext h / 35184372088832) + (l[i].toNat : Int)) % 256) := by
      show _ = _
      unfold bx mix
      rw [if_pos hlt]
      have e : l.getD i 0 = l[i] := by simp [List.getD, hlt]
      simp only [e]
      omega
    have HS : Hid (bst l (i, h) = (i + 1, hNext h)) := by show _ = _; unfold bst; rw [if_pos hlt]
    clear hcells HCo HH
    go_quiet (fail)
    go_wp2
    go_quiet (fail)
    go_wp2
    go_quiet (fail)
    go_wp2
    go_ret
    refine ⟨ret_i HX.out.symm, ?_, ?_, ?_⟩
    · rw [HS.out]
      have e : ((i + 1 : Nat) : Int) = (i : Int) + 1 := by omega
      rw [← e]
      exact Cur.set1 (Cur.drewN HK.out _) (i + 1)
    · exact grown_trans (grown_drewN HG.out _) (grown_set _ _ _ _)
    · rw [size_set]; exact HZ.out
  · have hltI : ¬ (i : Int) < (l.length : Int) := by omega
    have HX : Hid (bx l (i, h) = bits .xor .i64 (hNext h / 8589934592) (hNext h / 35184372088832) % 256) := by
      show _ = _
      unfold bx mix
      rw [if_neg hlt]
    have HS : Hid (bst l (i, h) = (i, hNext h)) := by show _ = _; unfold bst; rw [if_neg hlt]
    clear HCo HH
    go_quiet (fail)
    go_wp2
    go_quiet (fail)
    go_wp2
    go_ret
    refine ⟨ret_i HX.out.symm, ?_, ?_, ?_⟩
    · rw [HS.out]; exact Cur.drewN (Cur.drewN HK.out _) _
    · exact grown_drewN (grown_drewN HG.out _) _
    · exact HZ.out

/-- a cursor over a code, in a world -/
structure Ctx (B g : Nat) (v : Value) (l : List UInt8) (s : St) (w : World) : Prop where
  code : Code B w v l
  cur : Cur w g v s
  low : B ≤ g
  len : l.length ≤ 1048576
  at_ : s.1 ≤ l.length

theorem Ctx.grown {B g : Nat} {v : Value} {l : List UInt8} {s : St} {w w' : World} {r : Option Nat} (h : Ctx B g v l s w) (hg : w.grownBy w' r) (hr : ∀ k, r = some k → g < k) : Ctx B g v l s w' :=
  ⟨h.code.below ⟨hg.os, hg.tape, hg.output, hg.size, fun k hk => hg.block k (by have := h.cur.lt; have := h.low; omega) (fun e => by have := hr k e.symm; have := h.low; omega)⟩,
   h.cur.grown hg (fun e => by have := hr g e; omega), h.low, h.len, h.at_⟩
theorem Ctx.alloc {B g : Nat} {v : Value} {l : List UInt8} {s : St} {w : World} (h : Ctx B g v l s w) (o : Obj) : Ctx B g v l s (w.alloc o) :=
  h.grown (World.grownBy_alloc w o none) (fun k e => by cases e)
theorem below_of {B g : Nat} {w w' : World} (hg : w.grownBy w' (some g)) (hB : B ≤ g) (hs : g < w.heap.size) : Below B w w' :=
  ⟨hg.os, hg.tape, hg.output, hg.size, fun k hk => hg.block k (by omega) (fun e => by injection e with e; omega)⟩

theorem byteC (B g : Nat) (v : Value) (l : List UInt8) (s : St) (w : World) (h : Ctx B g v l s w) :
    Calls Try.prog 89 #[.pointer (some ⟨g, 0, none⟩)] w fun e w' => e = .returned (.int .i64 (bx l s)) ∧ Ctx B g v l (bst l s) w' ∧ w.grownBy w' (some g) := by
  obtain ⟨i, k⟩ := s
  refine (byte B g v l i k w h.len h.code h.cur h.low h.at_).mono ?_
  rintro e w' ⟨rfl, hc, hg, _⟩
  exact ⟨rfl, ⟨h.code.below (below_of hg h.low h.cur.lt), hc, h.low, h.len, bst_le l _ h.at_⟩, hg⟩

set_option maxRecDepth 100000 in
set_option maxHeartbeats 800000 in
theorem belowC (B g : Nat) (v : Value) (l : List UInt8) (s : St) (n : Int) (w : World) (h : Ctx B g v l s w) :
    Calls Try.prog 49 #[.pointer (some ⟨g, 0, none⟩), .int .i64 n] w fun e w' => e = .returned (.int .i64 (below l s n)) ∧ Ctx B g v l (belowSt l s n) w' ∧ w.grownBy w' (some g) := by
  by_cases h0 : n ≤ 0
  · have HX : Hid (below l s n = 0) := by show _ = _; unfold below; rw [if_pos h0]
    have HS : Hid (belowSt l s n = s) := by show _ = _; unfold belowSt; rw [if_pos h0]
    go_enter Try.func49, Try.ntmps49
    go_wp2
    go_ret
    exact ⟨ret_i HX.out.symm, by rw [HS.out]; exact h, World.grownBy.refl _ _⟩
  · by_cases h256 : n ≤ 256
    · have HX : Hid (below l s n = bx l s % n) := by show _ = _; unfold below; rw [if_neg h0, if_pos h256]
      have HS : Hid (belowSt l s n = bst l s) := by show _ = _; unfold belowSt; rw [if_neg h0, if_pos h256]
      have hr := bx_range l s
      obtain ⟨x, hx⟩ : ∃ x, bx l s = x := ⟨_, rfl⟩
      have HC : Hid (Ctx B g v l s w) := h
      have HX1 : Hid (bx l s = x) := hx
      rw [hx] at hr HX
      clear hx h
      go_enter Try.func49, Try.ntmps49
      go_wp2_with fail
      refine (byteC B g v l s _ HC.out).mono ?_
      rw [HX1.out]
      rintro e w1 ⟨rfl, hc, hg⟩
      go_wp2
      go_ret
      exact ⟨ret_i HX.out.symm, by rw [HS.out]; exact hc, hg⟩
    · have HX : Hid (below l s n = (bx l s * 16777216 + bx l (bst l s) * 65536 + bx l (bst l (bst l s)) * 256 + bx l (bst l (bst l (bst l s)))) % n) := by show _ = _; unfold below; rw [if_neg h0, if_neg h256]
      have HS : Hid (belowSt l s n = bst l (bst l (bst l (bst l s)))) := by show _ = _; unfold belowSt; rw [if_neg h0, if_neg h256]
      have hr1 := bx_range l s
      have hr2 := bx_range l (bst l s)
      have hr3 := bx_range l (bst l (bst l s))
      have hr4 := bx_range l (bst l (bst l (bst l s)))
      have HC : Hid (Ctx B g v l s w) := h
      obtain ⟨x1, hx1⟩ : ∃ x, bx l s = x := ⟨_, rfl⟩
      obtain ⟨x2, hx2⟩ : ∃ x, bx l (bst l s) = x := ⟨_, rfl⟩
      obtain ⟨x3, hx3⟩ : ∃ x, bx l (bst l (bst l s)) = x := ⟨_, rfl⟩
      obtain ⟨x4, hx4⟩ : ∃ x, bx l (bst l (bst l (bst l s))) = x := ⟨_, rfl⟩
      rw [hx1, hx2, hx3, hx4] at HX
      rw [hx1] at hr1
      rw [hx2] at hr2
      rw [hx3] at hr3
      rw [hx4] at hr4
      have HX1 : Hid (bx l s = x1) := hx1
      have HX2 : Hid (bx l (bst l s) = x2) := hx2
      have HX3 : Hid (bx l (bst l (bst l s)) = x3) := hx3
      have HX4 : Hid (bx l (bst l (bst l (bst l s))) = x4) := hx4
      clear hx1 hx2 hx3 hx4 h
      go_enter Try.func49, Try.ntmps49
      go_wp2_with fail
      refine (byteC B g v l s _ HC.out).mono ?_
      rw [HX1.out]
      rintro e w1 ⟨rfl, hc1, hg1⟩
      go_wp2_with fail
      refine (byteC B g v l _ _ hc1).mono ?_
      rw [HX2.out]
      rintro e w2 ⟨rfl, hc2, hg2⟩
      go_wp2_with fail
      refine (byteC B g v l _ _ hc2).mono ?_
      rw [HX3.out]
      rintro e w3 ⟨rfl, hc3, hg3⟩
      go_wp2_with fail
      refine (byteC B g v l _ _ hc3).mono ?_
      rw [HX4.out]
      rintro e w4 ⟨rfl, hc4, hg4⟩
      go_wp2
      go_ret
      exact ⟨ret_i HX.out.symm, by rw [HS.out]; exact hc4, grown_trans hg1 (grown_trans hg2 (grown_trans hg3 hg4))⟩
end Draw
end Go.Proofs.Ytppkohkcffnghaa
/- A new cursor over a code; one of n; a number out of a list; a number drawn. -/
namespace Go.Proofs.Ytppkohkcffnghaa
open Go.RowKit
namespace Draw
open Num Bytes

set_option maxRecDepth 100000 in
set_option maxHeartbeats 800000 in
theorem newC (B : Nat) (v : Value) (l : List UInt8) (w : World) (hC : Code B w v l) (hB : B ≤ w.heap.size) (hl : l.length ≤ 1048576) :
    Calls Try.prog 43 #[v] w fun e w' => e = .returned (.pointer (some ⟨w.heap.size, 0, none⟩)) ∧ Ctx B w.heap.size v l (st0 l) w' ∧ w.grownBy w' none := by
  have HC : Hid (Code B w v l) := hC
  obtain ⟨a, cap, rfl, hcap, hcode⟩ := hC
  have HCo : Hid (l ≠ [] → ∃ b off, a = some ⟨b, off, none⟩ ∧ b < B ∧ ∀ j (h : j < l.length), w.cell? ⟨b, off + j, none⟩ = some (.int .u8 (l[j].toNat : Int))) := hcode
  have h30 := i64_and30
  clear hcode
  go_enter Try.func43, Try.ntmps43
  go_wp2
  go_loop [3, 4] (fun x i => ∃ k : Nat, k ≤ l.length ∧ k ≤ 4000 ∧ i = .int .i64 k ∧ x = .int .i64 (h0To l k)) (fun _ i => 4000 - (intOf i).toNat)
  case atStart => exact ⟨0, by omega, by omega, rfl, rfl⟩
  case round =>
    obtain ⟨k, hk1, hk2, rfl, rfl⟩ := hrel
    have hr := h0To_range l hl k
    by_cases hlt : k < l.length ∧ k < 4000
    · obtain ⟨hlt1, hlt2⟩ := hlt
      obtain ⟨b, off, rfl, hbB, hcells⟩ := HCo.out (by intro e; rw [e] at hlt1; simp at hlt1)
      have hcw := hcells k hlt1
      have hby : l[k].toNat < 256 := l[k].toNat_lt
      have hltI : (k : Int) < (l.length : Int) := by omega
      have h0I : (0 : Int) ≤ (k : Int) := by omega
      have HS : Hid (h0To l (k + 1) = (h0To l k * 131 + (l[k].toNat : Int) + 7) % 1073741824) := by
        show _ = _
        rw [h0To]
        have e : l.getD k 0 = l[k] := by simp [List.getD, hlt1]
        rw [e]
      obtain ⟨H, hH⟩ : ∃ H, h0To l k = H := ⟨_, rfl⟩
      rw [hH] at HS hr
      rw [hH]
      clear hH hcells HCo
      go_wp2
      go_round
      case rel => exact ⟨k + 1, by omega, by omega, by go_num, by rw [HS.out]⟩
      case measure => simp only [intOf]; omega
    · have HM : Hid (st0 l = (0, h0To l k)) := by
        show _ = _
        unfold st0
        rw [show min l.length 4000 = k by omega]
      obtain ⟨H, hH⟩ : ∃ H, h0To l k = H := ⟨_, rfl⟩
      rw [hH] at HM hr
      rw [hH]
      clear hH h30
      by_cases hkl : (k : Int) < (l.length : Int)
      all_goals
        go_wp2
        go_ret
        refine ⟨rfl, ⟨HC.out.below ((Below.refl _ _).alloc hB _), ?_, hB, hl, by rw [HM.out]; exact Nat.zero_le _⟩, World.grownBy_alloc _ _ _⟩
        rw [HM.out]
        unfold Cur
        show (w.heap.push _)[w.heap.size]? = _
        simp

theorem onceC (B g : Nat) (v : Value) (l : List UInt8) (s : St) (n : Int) (w : World) (h : Ctx B g v l s w) :
    Calls Try.prog 45 #[.pointer (some ⟨g, 0, none⟩), .int .i64 n] w fun e w' => e = .returned (.bool (below l s n == 0)) ∧ Ctx B g v l (belowSt l s n) w' ∧ w.grownBy w' (some g) := by
  have HC : Hid (Ctx B g v l s w) := h
  clear h
  go_enter Try.func45, Try.ntmps45
  go_wp2_with fail
  refine (belowC B g v l s n _ HC.out).mono ?_
  rintro e w1 ⟨rfl, hc, hg⟩
  go_wp2
  go_ret
  exact ⟨rfl, hc, hg⟩

set_option maxRecDepth 100000 in
theorem pickC (B g p m : Nat) (v : Value) (l : List UInt8) (s : St) (zs : List Int) (w : World) (h : Ctx B g v l s w) (hp : p ≠ g) (hpz : p < w.heap.size) (hm : 0 < m) (hm2 : m ≤ 1000)
    (hz : ∀ j, j < m → w.cell? ⟨p, j, none⟩ = some (.int .i64 (zs.getD j 0))) :
    Calls Try.prog 88 #[.pointer (some ⟨g, 0, none⟩), .slice (some ⟨p, 0, none⟩) m m] w
      fun e w' => e = .returned (.int .i64 (zs.getD (below l s m).toNat 0)) ∧ Ctx B g v l (belowSt l s m) w' ∧ w.grownBy w' (some g) := by
  have HC : Hid (Ctx B g v l s w) := h
  have HZ : Hid (∀ j, j < m → w.cell? ⟨p, j, none⟩ = some (.int .i64 (zs.getD j 0))) := hz
  have hr := below_range l s m (by omega)
  clear h hz
  go_enter Try.func88, Try.ntmps88
  go_wp2_with fail
  refine (belowC B g v l s m _ HC.out).mono ?_
  obtain ⟨d, hd⟩ := Int.eq_ofNat_of_zero_le hr.1
  rw [hd]
  rw [hd] at hr
  rintro e w1 ⟨rfl, hc, hg⟩
  have hcell : w1.cell? ⟨p, d, none⟩ = some (.int .i64 (zs.getD d 0)) := by
    rw [World.cell?_of_block (w := w) (hg.block p hpz (fun e => hp (by injection e)))]
    exact HZ.out d (by omega)
  have HD : Hid (below l s m = (d : Int)) := hd
  obtain ⟨q, hq⟩ : ∃ q, zs.getD d 0 = q := ⟨_, rfl⟩
  rw [hq] at hcell
  have HQ : Hid (zs.getD d 0 = q) := hq
  have hdm : (d : Int) < (m : Int) := hr.2
  have hd0 : (0 : Int) ≤ (d : Int) := by omega
  clear hd hq hr
  go_wp2
  go_ret
  exact ⟨ret_i (by rw [HD.out, Int.toNat_natCast]; exact HQ.out.symm), hc, hg⟩

theorem nums_cells (w : World) (j : Nat) (hj : j < 17) :
    (w.alloc (.cells #[.int .i64 (-1), .int .i64 0, .int .i64 127, .int .i64 128, .int .i64 255, .int .i64 256, .int .i64 16383, .int .i64 16384, .int .i64 65535, .int .i64 65536, .int .i64 562949953421311, .int .i64 562949953421312, .int .i64 999999999, .int .i64 1000000000, .int .i64 (-999999999), .int .i64 9223372036854775807, .int .i64 (-9223372036854775808)] 3)).cell? ⟨w.heap.size, j, none⟩ = some (.int .i64 (nums.getD j 0)) := by
  rw [World.cell?_alloc_at _ _ _ _ rfl]
  match j, hj with
  | 0, _ => rfl
  | 1, _ => rfl
  | 2, _ => rfl
  | 3, _ => rfl
  | 4, _ => rfl
  | 5, _ => rfl
  | 6, _ => rfl
  | 7, _ => rfl
  | 8, _ => rfl
  | 9, _ => rfl
  | 10, _ => rfl
  | 11, _ => rfl
  | 12, _ => rfl
  | 13, _ => rfl
  | 14, _ => rfl
  | 15, _ => rfl
  | 16, _ => rfl
  | n + 17, h => omega

end Draw
end Go.Proofs.Ytppkohkcffnghaa
/- The draws told loosely: a cursor somewhere over its code; the answer within its bounds. -/
set_option linter.unusedVariables false
namespace Go.Proofs.Ytppkohkcffnghaa
open Go.RowKit
namespace Draw
open Num (below belowSt below_range)
open Bas (Blk)

/-- a cursor somewhere over the code -/
def Dr (B g : Nat) (v : Value) (l : List UInt8) (w : World) : Prop := ∃ s, Ctx B g v l s w
section
variable {B g : Nat} {v : Value} {l : List UInt8} {w w' : World}
theorem Dr.lt (h : Dr B g v l w) : g < w.heap.size := by obtain ⟨s, h⟩ := h; exact h.cur.lt
theorem Dr.low (h : Dr B g v l w) : B ≤ g := by obtain ⟨s, h⟩ := h; exact h.low
theorem Dr.alloc (h : Dr B g v l w) (o : Obj) : Dr B g v l (w.alloc o) := by obtain ⟨s, h⟩ := h; exact ⟨s, h.alloc o⟩
theorem Dr.grown (h : Dr B g v l w) {r : Option Nat} (hg : w.grownBy w' r) (hr : ∀ k, r = some k → g < k) : Dr B g v l w' := by obtain ⟨s, h⟩ := h; exact ⟨s, h.grown hg hr⟩
theorem Dr.set (h : Dr B g v l w) {p : Nat} (hp : g < p) (i : Nat) (u : Value) : Dr B g v l (w.setCell ⟨p, i, none⟩ u) :=
  h.grown (grown_set w p i u) (fun k hk => by cases hk; exact hp)
theorem Dr.drew (h : Dr B g v l w) : Dr B g v l w.drew := by obtain ⟨s, h⟩ := h; exact ⟨s, ⟨h.code.below (Below.refl _ _).drew, h.cur, h.low, h.len, h.at_⟩⟩
theorem Dr.below (h : Dr B g v l w) (hg : w.grownBy w' (some g)) : Below B w w' := below_of hg h.low h.lt
end
theorem grown_new {w w' : World} {r : Option Nat} (h : w.grownBy w' r) (o : Obj) : w.grownBy (w'.alloc o) r :=
  ⟨h.os, h.tape, h.output, Nat.le_trans h.size (by simp), fun k hk hne => (Below.heap_alloc w' o k (Nat.lt_of_lt_of_le hk h.size)).trans (h.block k hk hne)⟩
theorem grown_store {w w' : World} {r : Option Nat} (h : w.grownBy w' r) {p : Nat} (hp : w.heap.size ≤ p) (i : Nat) (u : Value) : w.grownBy (w'.setCell ⟨p, i, none⟩ u) r :=
  ⟨h.os, h.tape, h.output, by rw [size_set]; exact h.size, fun k hk hne => by rw [Below.heap_setCell _ _ _ _ (by show k ≠ p; omega)]; exact h.block k hk hne⟩
theorem grown_refl (w : World) (r : Option Nat) : w.grownBy w r := ⟨rfl, rfl, rfl, Nat.le_refl _, fun _ _ _ => rfl⟩
theorem grown_drew {a b : World} {r : Option Nat} (h : a.grownBy b r) : a.grownBy b.drew r := ⟨h.os, h.tape, h.output, h.size, h.block⟩

theorem belowE {B g : Nat} {v : Value} {l : List UInt8} {w : World} (h : Dr B g v l w) (n : Int) (hn : 0 < n) :
    Calls Try.prog 49 #[.pointer (some ⟨g, 0, none⟩), .int .i64 n] w fun e w' => ∃ r, e = .returned (.int .i64 r) ∧ 0 ≤ r ∧ r < n ∧ Dr B g v l w' ∧ w.grownBy w' (some g) := by
  obtain ⟨s, h⟩ := h
  refine (belowC B g v l s n w h).mono ?_
  rintro e w' ⟨rfl, C, G⟩
  have := below_range l s n hn
  exact ⟨_, rfl, this.1, this.2, ⟨_, C⟩, G⟩
theorem onceE {B g : Nat} {v : Value} {l : List UInt8} {w : World} (h : Dr B g v l w) (n : Int) :
    Calls Try.prog 45 #[.pointer (some ⟨g, 0, none⟩), .int .i64 n] w fun e w' => ∃ b, e = .returned (.bool b) ∧ Dr B g v l w' ∧ w.grownBy w' (some g) := by
  obtain ⟨s, h⟩ := h
  refine (onceC B g v l s n w h).mono ?_
  rintro e w' ⟨rfl, C, G⟩
  exact ⟨_, rfl, ⟨_, C⟩, G⟩
theorem getD_range {zs : List Int} {lo hi : Int} (h : ∀ z ∈ zs, lo ≤ z ∧ z ≤ hi) (h0 : lo ≤ 0 ∧ 0 ≤ hi) (j : Nat) : lo ≤ zs.getD j 0 ∧ zs.getD j 0 ≤ hi := by
  by_cases hj : j < zs.length
  · rw [List.getD_eq_getElem?_getD, List.getElem?_eq_getElem hj]; exact h _ (List.getElem_mem hj)
  · rw [List.getD_eq_getElem?_getD, List.getElem?_eq_none (by omega)]; exact h0
/-- one of a list that was just laid -/
theorem pickE {B g : Nat} {v : Value} {l : List UInt8} {w : World} (h : Dr B g v l w) (zs : List Int) (lo hi : Int) (hz : ∀ z ∈ zs, lo ≤ z ∧ z ≤ hi) (h0 : lo ≤ 0 ∧ 0 ≤ hi) (m : Nat) (hm : zs.length = m) (hm0 : 0 < m) (hm1 : m ≤ 1000) (cs : Array Value) (hcs : cs = (zs.map (Value.int .i64)).toArray) :
    Calls Try.prog 88 #[.pointer (some ⟨g, 0, none⟩), .slice (some ⟨w.heap.size, 0, none⟩) m m] (w.alloc (.cells cs 3)) fun e w' => ∃ r, e = .returned (.int .i64 r) ∧ lo ≤ r ∧ r ≤ hi ∧ Dr B g v l w' ∧ w.grownBy w' (some g) := by
  have hlt := h.lt
  obtain ⟨s, h⟩ := h
  refine (pickC B g w.heap.size m v l s zs _ (h.alloc _) (by omega) (by simp) hm0 hm1 (fun j hj => ?_)).mono ?_
  · subst hcs
    rw [cell_of_row _ _ _ _ _ _ (heap_alloc_new w _)]
    simp [List.getD, show j < zs.length by omega]
  · rintro e w' ⟨rfl, C, G⟩
    have := getD_range (zs := zs) (lo := lo) (hi := hi) hz h0 (Num.below l s m).toNat
    refine ⟨_, rfl, this.1, this.2, ⟨_, C⟩, ?_⟩
    exact grown_trans (World.grownBy_alloc w _ _) G

set_option maxRecDepth 100000 in
set_option maxHeartbeats 800000 in
theorem drawE {B g : Nat} {v : Value} {l : List UInt8} {w : World} (h : Dr B g v l w) :
    Calls Try.prog 47 #[.pointer (some ⟨g, 0, none⟩)] w fun e w' => ∃ r, e = .returned (.int .i64 r) ∧ 0 ≤ r ∧ r ≤ 65535 ∧ Dr B g v l w' ∧ w.grownBy w' (some g) := by
  go_enter Try.func47, Try.ntmps47
  go_wp2_with fail
  refine (onceE h 6).mono ?_
  rintro e w1 ⟨b, rfl, D1, G1⟩
  clear h
  cases b
  · go_wp2_with fail
    refine (belowE D1 9 (by omega)).mono ?_
    rintro e w2 ⟨r, rfl, h1, h2, D2, G2⟩
    go_wp2
    go_ret
    exact ⟨_, rfl, h1, by omega, D2, grown_trans G1 G2⟩
  · go_wp2_with fail
    refine (pickE D1 [0, 65535, 65534, 256] 0 65535 (by simp) (by omega) 4 rfl (by omega) (by omega) _ rfl).mono ?_
    rintro e w2 ⟨r, rfl, h1, h2, D2, G2⟩
    go_wp2
    go_ret
    exact ⟨_, rfl, h1, h2, D2, grown_trans G1 G2⟩
set_option maxRecDepth 100000 in
theorem regE {B g : Nat} {v : Value} {l : List UInt8} {w : World} (h : Dr B g v l w) :
    Calls Try.prog 103 #[.pointer (some ⟨g, 0, none⟩)] w fun e w' => ∃ r, e = .returned (.int .i64 r) ∧ 0 ≤ r ∧ r ≤ 65535 ∧ Dr B g v l w' ∧ w.grownBy w' (some g) := by
  go_enter Try.func103, Try.ntmps103
  go_wp2_with fail
  refine (belowE h 4 (by omega)).mono ?_
  rintro e w2 ⟨r, rfl, h1, h2, D2, G2⟩
  clear h
  go_wp2
  go_ret
  exact ⟨_, rfl, h1, by omega, D2, G2⟩
set_option maxRecDepth 100000 in
theorem cellE {B g : Nat} {v : Value} {l : List UInt8} {w : World} (h : Dr B g v l w) :
    Calls Try.prog 104 #[.pointer (some ⟨g, 0, none⟩)] w fun e w' => ∃ r, e = .returned (.int .i64 r) ∧ 0 ≤ r ∧ r ≤ 65535 ∧ Dr B g v l w' ∧ w.grownBy w' (some g) := by
  go_enter Try.func104, Try.ntmps104
  go_wp2_with fail
  refine (onceE h 8).mono ?_
  rintro e w1 ⟨b, rfl, D1, G1⟩
  clear h
  cases b
  · go_wp2_with fail
    refine (belowE D1 3 (by omega)).mono ?_
    rintro e w2 ⟨r, rfl, h1, h2, D2, G2⟩
    go_wp2
    go_ret
    exact ⟨_, rfl, h1, by omega, D2, grown_trans G1 G2⟩
  · go_wp2_with fail
    refine (belowE D1 8 (by omega)).mono ?_
    rintro e w2 ⟨r, rfl, h1, h2, D2, G2⟩
    go_wp2
    go_ret
    exact ⟨_, rfl, h1, by omega, D2, grown_trans G1 G2⟩
set_option maxRecDepth 100000 in
set_option maxHeartbeats 800000 in
theorem keyE {B g : Nat} {v : Value} {l : List UInt8} {w : World} (h : Dr B g v l w) :
    Calls Try.prog 105 #[.pointer (some ⟨g, 0, none⟩)] w fun e w' => ∃ r, e = .returned (.int .i64 r) ∧ 0 ≤ r ∧ r ≤ 65535 ∧ Dr B g v l w' ∧ w.grownBy w' (some g) := by
  go_enter Try.func105, Try.ntmps105
  go_wp2_with fail
  refine (onceE h 4).mono ?_
  rintro e w1 ⟨b, rfl, D1, G1⟩
  clear h
  cases b
  · go_wp2_with fail
    refine (pickE D1 [0, 4, 1] 0 65535 (by simp) (by omega) 3 rfl (by omega) (by omega) _ rfl).mono ?_
    rintro e w2 ⟨r, rfl, h1, h2, D2, G2⟩
    go_wp2
    go_ret
    exact ⟨_, rfl, h1, h2, D2, grown_trans G1 G2⟩
  · go_wp2_with fail
    refine (belowE D1 8 (by omega)).mono ?_
    rintro e w2 ⟨r, rfl, h1, h2, D2, G2⟩
    go_wp2
    go_ret
    exact ⟨_, rfl, h1, by omega, D2, grown_trans G1 G2⟩
end Draw
end Go.Proofs.Ytppkohkcffnghaa
