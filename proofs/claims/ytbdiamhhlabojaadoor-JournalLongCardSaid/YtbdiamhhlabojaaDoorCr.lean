/- The document's sum: the same plain function. -/
import Derived.Test.YtbdiamhhlabojaaDoorCk
namespace Go.Proofs.YtbdiamhhlabojaaDoor
open Go.RowKit
set_option linter.unusedVariables false

theorem and1 (m : Nat) (hm : m < 4294967296) : bits .and .u32 (m : Int) 1 = ((m % 2 : Nat) : Int) := by
  rw [show (1 : Int) = ((1 : Nat) : Int) from rfl, u32_and_nat m 1 hm (by omega), nat_mask1]

end Go.Proofs.YtbdiamhhlabojaaDoor
