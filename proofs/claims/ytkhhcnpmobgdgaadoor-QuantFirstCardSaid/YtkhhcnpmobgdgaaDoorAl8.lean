/- The example of chapter 8, whatever counters are made of. -/
import Derived.Test.YtkhhcnpmobgdgaaDoorAdd8
namespace Go.Proofs.YtkhhcnpmobgdgaaDoor
open Go.RowKit
theorem of7 : Bm.of 7 = 2 := by decide
theorem of0 : Bm.of 0 = 0 := by decide
theorem okZ : okC [0, 0, 0, 0, 0, 0, 0, 0, 0, 0] := fun i => by
  rcases i with _ | _ | _ | _ | _ | _ | _ | _ | _ | _ | _ <;> simp
theorem joinO : joinC [0, 0, 0, 0, 0, 0, 0, 0, 0, 0] (oneC 2 true) 9 = [1, 1, 0, 0, 1, 0, 0, 0, 0, 0] := by decide
end Go.Proofs.YtkhhcnpmobgdgaaDoor
