/- The laws' own sameInts, of such as are equal; whether a code is great. -/
import Derived.Test.YthmkijbokfiljaaIntRow
namespace Go.Proofs.Ythmkijbokfiljaa
open Go.RowKit
namespace Ints
theorem bigC (a : Option Addr) (len cap : Nat) (w : World) : Calls Try.prog 4 #[.slice a len cap] w fun e w' => e = .returned (.bool (decide ((1048576 : Int) < (len : Int)))) ∧ w = w' := by
  go_enter Try.func4, Try.ntmps4
  go_wp2
  go_ret
  exact ⟨rfl, rfl⟩
end Ints
end Go.Proofs.Ythmkijbokfiljaa
