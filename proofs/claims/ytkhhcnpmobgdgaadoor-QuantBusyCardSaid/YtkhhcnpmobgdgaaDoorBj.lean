/- Two counters together, whatever the most. -/
import Derived.Test.YtkhhcnpmobgdgaaDoorJoinN
import Derived.Test.YtkhhcnpmobgdgaaDoorBk
namespace Go.Proofs.YtkhhcnpmobgdgaaDoor
open Go.RowKit

/-- Two counters together, whatever the most. -/
theorem join_all (x y : List Int) (m : Int) (w : World) (hx : okC x) (hy : okC y) (hm1 : m ≤ 9223372036854775807) :
    Calls Tryd.prog 59 #[.agg (Cv x), .agg (Cv y), .int .i64 m] w fun e w' => e = .returned (.agg (Cv (joinC x y m))) ∧ Below w.heap.size w w' := by
  by_cases h : 0 ≤ m
  · exact join_any x y m w hx hy h hm1
  · have := join_neg x y m w hx hy (by omega)
    rw [join_neg_eq x y m (by omega)] at this
    exact this
end Go.Proofs.YtkhhcnpmobgdgaaDoor
