/- The table of the words, out of what a row lists: a variable that reads as an array of texts holds them, cell for cell. -/
import Derived.Test.YtjopmakbnompnaaDoorImplWords
import Derived.Lib.LaidTab
set_option linter.unusedVariables false
namespace Go.Proofs.YtjopmakbnompnaaDoor
open Go.RowKit
namespace Ops

/-- an array of texts, as a row lists it -/
def strData {H : Type} (ls : List Txt) : DataW H := .agg (ls.map fun l => .lit (.string l))
theorem cells_of_strs {H : Type} {enc : TypeId × Value → H} {P : Program} {w : World} {base : Nat} {sp : Nat → Bool} {held : Bool} {fuel : Nat} {t e : TypeId} {n : Nat} {cs : List Value} {ls : List Txt} {p : List MemPlace}
    (ht : P.underlying t = some (.array n e)) (he : P.underlying e = some .string) (hce : P.cellsOf e = 1) (hct : P.cellsOf t = n)
    (h : DataW.trod enc P w base sp held fuel t cs = some (strData ls, p)) : cs = ls.map fun l => Value.string ⟨l.toArray⟩ := by
  cases fuel with
  | zero => simp [DataW.trod] at h
  | succ fuel =>
    simp only [DataW.trod, ht, hce, hct, Nat.mul_one] at h
    split at h
    case isFalse => cases h
    rename_i hl
    obtain ⟨xs, hm, hx⟩ := Option.map_eq_some_iff.1 h
    have hxs : xs.map Prod.fst = ls.map fun l => (DataW.lit (.string l) : DataW H) := by
      have := congrArg Prod.fst hx
      simpa [strData] using this
    have hxl : xs.length = n := by simpa using Lib.mapM_length hm
    have hll : ls.length = n := by
      have := congrArg List.length hxs
      rw [List.length_map, List.length_map] at this
      omega
    refine List.ext_getElem (by rw [List.length_map]; omega) fun i h1 h2 => ?_
    obtain ⟨b, hb, hf⟩ := Lib.mapM_at hm i i (by rw [List.getElem?_range (by omega)])
    obtain ⟨s, hc, rfl, -⟩ := DataW.trod_string he hf
    have c1 : cs[i]? = some (.string s) := by
      have := congrArg (fun l => l[0]?) hc
      simpa [List.getElem?_take, List.getElem?_drop] using this
    have c2 : (xs.map Prod.fst)[i]? = some (DataW.lit (.string s.data.toList) : DataW H) := by rw [List.getElem?_map, hb]; rfl
    rw [hxs, List.getElem?_map] at c2
    have hi : i < ls.length := by omega
    rw [List.getElem?_eq_getElem hi] at c2
    simp only [Option.map_some, Option.some.injEq, DataW.lit.injEq, Lit.string.injEq] at c2
    rw [List.getElem?_eq_getElem h1] at c1
    rw [Option.some.inj c1, List.getElem_map, c2]
/-- from the row's condition to the words -/
theorem gWords : Tryd.prog.globalNamed "loop.example/g01277/impl.opWords" = some 0 := by kernel_rfl
theorem gWordsType : (Tryd.prog.globals[0]?).map (·.type) = some 58 := by kernel_rfl
theorem cellsStr1 : Tryd.prog.cellsOf 9 = 1 := by kernel_rfl
theorem cellsTab : Tryd.prog.cellsOf 58 = 17 := by kernel_rfl
theorem wtab_of_head {W : World} {rest : List (String × DataW Unit)} (h : laidMet Tryd.prog (("loop.example/g01277/impl.opWords", strData words) :: rest) W) : WTab W := by
  obtain ⟨ps, ⟨g', t', cs, fuel, p, q, hg', ht', hvar, hd, _, _⟩, _⟩ := h
  obtain rfl := Option.some.inj (gWords.symm.trans hg')
  obtain rfl := Option.some.inj (gWordsType.symm.trans ht')
  have hcs := cells_of_strs Tryd.underlying58 Tryd.underlying9 cellsStr1 cellsTab hd
  intro i hi
  have := World.var?_cell gWords hvar i
  rw [this]
  have h2 : cs[i]? = some (.string ⟨words[i].toArray⟩) := by rw [← Array.getElem?_toList, hcs, List.getElem?_map, List.getElem?_eq_getElem hi]; rfl
  simpa using h2
end Ops
end Go.Proofs.YtjopmakbnompnaaDoor
