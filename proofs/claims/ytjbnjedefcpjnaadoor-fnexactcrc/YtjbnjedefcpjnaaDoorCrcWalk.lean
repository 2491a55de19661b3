/- The law of the sum: the specification and the program answer alike. -/
import Derived.Test.YtjbnjedefcpjnaaDoorCrcImpl
import Derived.Test.YtjbnjedefcpjnaaDoorShelfU
import Derived.Lib.LaidTab
namespace Go.Proofs.YtjbnjedefcpjnaaDoor
open Go.RowKit
namespace CrcW
open Num CrcM

theorem decodeN_width (n b0 b1 b2 b3 : Nat) (hn : 1 ≤ n) : 1 ≤ (Lib.decodeN n b0 b1 b2 b3).2 ∧ (Lib.decodeN n b0 b1 b2 b3).2 ≤ n := by
  unfold Lib.decodeN
  repeat' split
  all_goals (simp only; omega)
theorem width (s : ByteArray) (pos : Nat) (h : pos < s.size) : 1 ≤ (Utf8.decode s pos).2 ∧ pos + (Utf8.decode s pos).2 ≤ s.size := by
  have := decodeN_width (s.size - pos) (s.get! pos).toNat (s.get! (pos + 1)).toNat (s.get! (pos + 2)).toNat (s.get! (pos + 3)).toNat (by omega)
  rw [← Lib.decode_at] at this
  omega

theorem get_tail (s : ByteArray) (pos k : Nat) : (s.extract pos s.size).get! k = s.get! (pos + k) := by
  by_cases h : pos + k < s.size
  · have h1 : k < (s.extract pos s.size).size := by rw [ByteArray.size_extract]; omega
    rw [Utf8W.get!_of_lt _ _ h1, Utf8W.get!_of_lt _ _ h, ByteArray.getElem_extract]
  · cases hd : s with
    | mk d =>
      rw [hd] at h
      have hz : (ByteArray.mk d).size = d.size := rfl
      have e1 : (ByteArray.mk d).get! (pos + k) = default := getElem!_neg d (pos + k) (by omega)
      have e2 : ((ByteArray.mk d).extract pos (ByteArray.mk d).size).get! k = default := by
        have hs : ((ByteArray.mk d).extract pos (ByteArray.mk d).size).data.size ≤ k := by
          have := ByteArray.size_extract (a := ByteArray.mk d) (b := pos) (e := (ByteArray.mk d).size)
          have h2 : ((ByteArray.mk d).extract pos (ByteArray.mk d).size).data.size = ((ByteArray.mk d).extract pos (ByteArray.mk d).size).size := rfl
          omega
        exact getElem!_neg ((ByteArray.mk d).extract pos (ByteArray.mk d).size).data k (by omega)
      rw [e1, e2]
theorem decode_tail (s : ByteArray) (pos : Nat) (h : pos < s.size) : Lib.decodeGo (s.extract pos s.size) = Utf8.decode s pos := by
  have hz : (s.extract pos s.size).size = s.size - pos := by rw [ByteArray.size_extract]; omega
  unfold Lib.decodeGo
  rw [if_neg (by omega), Lib.decode_at, Lib.decode_at s pos, hz]
  simp only [get_tail, Nat.zero_add, Nat.sub_zero, Nat.add_zero]

/-- what a table of integers gives -/
theorem half_of {W : World} (h : Lib.TabIs Tryd.prog W "loop.example/g01277/impl.halfSums" .u32 [0, 274646895, 549293790, 820201905, 1098587580, 1361435347, 1640403810, 1905808397, 2197175160, 2460548119, 2722870694, 2987750089, 3280807620, 3553878443, 3811616794, 4084100981]) : Half W := by
  intro i hi
  have hg : Tryd.prog.globalNamed "loop.example/g01277/impl.halfSums" = some 0 := by kernel_rfl
  rw [World.var?_cell hg h i]
  have := (by decide : ∀ j : Fin 16, ([0, 274646895, 549293790, 820201905, 1098587580, 1361435347, 1640403810, 1905808397, 2197175160, 2460548119, 2722870694, 2987750089, 3280807620, 3553878443, 3811616794, 4084100981] : List Int)[j.val]? = some (row j.val : Int)) ⟨i, hi⟩
  simp only [List.getElem?_toArray, List.getElem?_map]
  rw [show ([0, 274646895, 549293790, 820201905, 1098587580, 1361435347, 1640403810, 1905808397, 2197175160, 2460548119, 2722870694, 2987750089, 3280807620, 3553878443, 3811616794, 4084100981] : List Int)[i]? = some (row i : Int) from this]
  rfl

theorem decodes (s : ByteArray) (w : World) (hT : Lib.Utf8Tabs (Tryd.lays197_ren.g 3) (Tryd.lays197_ren.g 4) w) : Decodes s w := by
  intro wr hb pos hp
  have h := Any.utf8_DecodeRuneInString Tryd.lays197 (s.extract pos s.size) wr (Utf8Tabs_below hT hb)
  rw [decode_tail s pos hp] at h
  exact h

set_option maxRecDepth 100000 in
set_option maxHeartbeats 400000 in
theorem walk (s : ByteArray) (w : World) (hs : s.size ≤ maxLen) (hH : Half w) (hT : Lib.Utf8Tabs (Tryd.lays197_ren.g 3) (Tryd.lays197_ren.g 4) w) :
    Calls Tryd.prog 3 #[.string s] w fun e w' => e = .returned (.bool true) ∧ Below w.heap.size w w' := by
  have hs0 := hs
  have HD : Hid (Decodes s w) := decodes s w hT
  have HH : Hid (Half w) := hH
  clear hT hH
  unfold maxLen at hs
  by_cases hb : (1048576 : Int) < s.size
  · go_enter Tryd.func3, Tryd.ntmps3
    go_wp2
    go_ret
    exact ⟨rfl, Below.refl _ _⟩
  · go_enter Tryd.func3, Tryd.ntmps3
    go_wp2_with fail
    refine (spec_any s _ hs0).mono ?_
    rintro e w1 ⟨rfl, rfl⟩
    go_wp2_with fail
    refine (impl_any s _ hs0 HH.out HD.out (width s)).mono ?_
    rintro e w2 ⟨rfl, hB2⟩
    go_wp2
    go_ret
    exact ⟨rfl, hB2⟩
end CrcW
end Go.Proofs.YtjbnjedefcpjnaaDoor
