/- What the library's SplitN, Index and CutSuffix answer, as the program calls them; its first line. -/
import Derived.Test.YtjopmakbnompnaaDoorPartsL
import Derived.Test.YtjopmakbnompnaaDoorStrRow
import Derived.Test.YtjopmakbnompnaaDoorShelfS
import Derived.Shelf.Strings.SplitCore
import Derived.Shelf.Strings.Count
import Derived.Shelf.Strings.Search3
import Derived.Shelf.Small.Wraps
import Derived.Lib.SplitLaws
import Derived.Deep.QuietTactic
import Derived.BigQuiet
set_option linter.unusedVariables false
set_option linter.unusedSimpArgs false
namespace Go.Proofs.YtjopmakbnompnaaDoor
open Go.RowKit
namespace Ops
open Bas Flat Strs

theorem cells_own (w : World) (ps : List ByteArray) (n : Nat) (hn : ps.length ≤ n) (hm : n ≤ 1000) (qs : List Txt) (hq : ps.map (fun x => x.data.toList) = qs) :
    OwnsS w.heap.size (w.alloc (.cells (Lib.cellsOf ps n) 9)) (.slice (some ⟨w.heap.size, 0, none⟩) ps.length n) qs := by
  subst hq
  have hf : fv strEl (ps.map (fun x => x.data.toList)) = ps.map Value.string := by
    unfold fv
    induction ps with
    | nil => rfl
    | cons x r ih => 
      have := ih (by simp at hn; omega)
      simp only [List.map_cons, List.flatMap_cons, this]
      show [Value.string ⟨x.data.toList.toArray⟩] ++ _ = _
      simp
  show World.ownsRow _ _ _ 1 _ _ _
  rw [hf]
  have hz : (Lib.cellsOf ps n).size = n := Lib.cellsOf_size hn
  refine ⟨by simp, .inr ⟨w.heap.size, n, Lib.cellsOf ps n, by simp, Nat.le_refl _, heap_alloc_new w _, by simpa using hn, by unfold maxLen; omega, by rw [hz]; omega, ?_⟩⟩
  unfold Lib.cellsOf
  simp
theorem hiStr : (Tryd.prog.info? (Tryd.lays147_ren.t 9)).map (fun i => (i.zero, i.size, i.bytes)) = some (some (.string ByteArray.empty), 1, 16) := by kernel_rfl
theorem blank_index (x : ByteArray) : Lib.indexB x ⟨#[32]⟩ = Lib.indexByte x.data.toList 32 := Lib.index_one _ _
set_option maxRecDepth 100000 in
theorem genC (s : ByteArray) (hs : s.size ≤ 1048576) (w : World) :
    Calls Tryd.prog 56 #[.string s, .string ⟨#[32]⟩, .int .i64 0, .int .i64 4] w fun e w' => ∃ v', e = .returned v' ∧ OwnsS w.heap.size w' v' (Lib.splitK [32] 0 (min 3 s.size) s.data.toList) ∧ Below w.heap.size w w' := by
  have hc : Calls Tryd.prog (Tryd.lays147_ren.f 138) #[.string s, .string ⟨#[32]⟩] w fun e w' => e = .returned (.int .i64 (Lib.countB s ⟨#[32]⟩)) ∧ w' = w := by
    refine (Any.strings_Count_one { Tryd.lays147 with } s 32 w).mono fun e w' ⟨he, hw⟩ => ⟨?_, hw⟩
    rw [he]
    show _ = Ending.returned (Value.int .i64 ((Lib.count s.data.toList [32] : Nat) : Int))
    rw [Lib.count_one]
    rfl
  have := Any.strings_genSplit_core { Tryd.lays147 with } hiStr s ⟨#[32]⟩ 0 4 (min 4 (s.size + 1)) w (by omega) (by decide) (by decide)
    (fun x c hx => by
      refine (Any.strings_Index_one { Tryd.lays147 with } x 32 _).mono fun e w' ⟨he, hw⟩ => ⟨?_, hw⟩
      rw [he, blank_index])
    hc (by decide) (by decide) (by rw [if_neg (by decide)]; omega)
  refine this.mono ?_
  rintro e w' ⟨rfl, rfl⟩
  have hk : min 4 (s.size + 1) - 1 = min 3 s.size := by omega
  rw [hk]
  have hl := Lib.splitB_length_le ⟨#[32]⟩ 0 (min 3 s.size) s
  have := cells_own w (Lib.splitB ⟨#[32]⟩ 0 (min 3 s.size) s) (min 4 (s.size + 1)) (by omega) (by omega) _ (Lib.splitB_data _ _ _ _)
  exact ⟨_, rfl, this, alloc_below w _⟩
set_option maxRecDepth 100000 in
theorem splitNC (L : Txt) (hs : L.length ≤ 1048576) (w : World) :
    Calls Tryd.prog 37 #[.string ⟨L.toArray⟩, .string ⟨#[32]⟩, .int .i64 4] w fun e w' => ∃ v' p0 r, e = .returned v' ∧ OwnsS w.heap.size w' v' (p0 :: r) ∧ PartsIs L p0 r ∧ (∀ q ∈ p0 :: r, q.length ≤ L.length) ∧ Below w.heap.size w w' := by
  have hz : (⟨L.toArray⟩ : ByteArray).size = L.length := by show L.toArray.size = _; simp
  have c := genC ⟨L.toArray⟩ (by rw [hz]; exact hs) w
  have hL : (⟨L.toArray⟩ : ByteArray).data.toList = L := by simp
  rw [hz, hL] at c
  obtain ⟨p0, r, e, hp, hl⟩ := parts_is (L := L) rfl
  rw [e] at c
  go_enter Tryd.func37, Tryd.ntmps37
  go_wp2_with fail
  refine c.mono ?_
  rintro e w1 ⟨v1, rfl, S1, b1⟩
  go_wp2
  go_ret
  exact ⟨_, p0, r, rfl, S1, hp, hl, b1⟩
theorem cutC (L : Txt) (hs : L.length ≤ 1048576) (w : World) :
    Calls Tryd.prog 63 #[.string ⟨L.toArray⟩, .string ⟨#[10]⟩] w fun e w' => e = .returned (.tuple #[.string ⟨(Lib.trimSuffix L [10]).toArray⟩, .bool (Lib.hasSuffix L [10])]) ∧ w = w' := by
  have := Any.strings_CutSuffix Tryd.lays104 ⟨L.toArray⟩ ⟨#[10]⟩ w (by show L.toArray.size ≤ _; simp; omega)
  refine this.mono ?_
  rintro e w' ⟨rfl, rfl⟩
  exact ⟨by first | rfl | simp, rfl⟩
/-- the first line, with its end, and what stands behind it -/
def firstOf (L : Txt) : Txt × Txt := if Lib.indexByte L 10 = -1 then (L, []) else (L.take ((Lib.indexByte L 10).toNat + 1), L.drop ((Lib.indexByte L 10).toNat + 1))
set_option maxRecDepth 100000 in
set_option maxHeartbeats 800000 in
theorem firstC (L : Txt) (hs : L.length ≤ 1048576) (w : World) :
    Calls Tryd.prog 62 #[.string ⟨L.toArray⟩] w fun e w' => e = .returned (.tuple #[.string ⟨(firstOf L).1.toArray⟩, .string ⟨(firstOf L).2.toArray⟩]) ∧ Below w.heap.size w w' := by
  have c := Any.strings_Index_one { Tryd.lays143 with } ⟨L.toArray⟩ 10 w
  have hL : (⟨L.toArray⟩ : ByteArray).data.toList = L := by simp
  rw [hL] at c
  rcases index_two L 10 with hi | ⟨i, hi⟩
  · have HF : Hid (firstOf L = (L, [])) := by show _ = _; unfold firstOf; rw [if_pos hi]
    rw [hi] at c
    go_enter Tryd.func62, Tryd.ntmps62
    go_wp2_with fail
    refine c.mono ?_
    rintro e w1 ⟨rfl, rfl⟩
    clear c
    go_wp2
    go_ret2
    rw [HF.out]
    exact ⟨rfl, Below.refl _ _⟩
  · have HF : Hid (firstOf L = (L.take (i + 1), L.drop (i + 1))) := by
      show _ = _
      unfold firstOf
      rw [hi, if_neg (by omega), Int.toNat_natCast]
    obtain ⟨hlt, -, -⟩ := at_index hi
    rw [hi] at c
    have i1 : ¬ (i : Int) < 0 := by omega
    have i2 : (i : Int) + 1 ≤ L.length := by omega
    have i3 : (0 : Int) ≤ (i : Int) + 1 := by omega
    have HX : Hid (∀ a b, (⟨L.toArray⟩ : ByteArray).extract a b = ⟨((L.drop a).take (b - a)).toArray⟩) := fun a b => by rw [piece]
    have hz : (⟨L.toArray⟩ : ByteArray).size = L.length := by show L.toArray.size = _; simp
    obtain ⟨n, hn⟩ : ∃ n, L.length = n := ⟨_, rfl⟩
    rw [hn] at hz i2 hs
    go_enter Tryd.func62, Tryd.ntmps62
    go_wp2_with fail
    refine c.mono ?_
    rintro e w1 ⟨rfl, rfl⟩
    clear c
    go_wp2_with fail
    go_quiet (fail)
    go_wp2
    go_ret2
    rw [HF.out]
    refine ⟨?_, ⟨rfl, rfl, rfl, Nat.le_refl _, fun _ _ => rfl⟩⟩
    have e1 := HX.out 0 (i + 1)
    have e2 := HX.out (i + 1) n
    rw [List.take_of_length_le (by simp; omega)] at e2
    rw [← e2]
    simp only [Nat.sub_zero, List.drop_zero] at e1
    rw [← e1]
    rfl
end Ops
end Go.Proofs.YtjopmakbnompnaaDoor
