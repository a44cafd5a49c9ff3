/- Chapter 3's example. -/
import Derived.Test.YtchcjbapbdfhkaaRk
namespace Go.Proofs.Ytchcjbapbdfhkaa
open Go.RowKit
set_option linter.unusedVariables false
set_option maxRecDepth 100000

def ex3 : Sp := ⟨0, 0, 0, 0, ⟨#[97]⟩, ⟨#[98]⟩, 0, 7, false, []⟩
theorem ex3_ok : ex3.ok := ⟨⟨by decide, by decide⟩, ⟨by decide, by decide⟩, ⟨by decide, by decide⟩, ⟨by decide, by decide⟩, by decide, by decide, ⟨by decide, by decide⟩, ⟨by decide, by decide⟩, by decide, fun a h => by cases h⟩
theorem ex3_right : right ex3 = true := by decide +kernel
theorem ex3_enc : enc ex3 = [0, 0, 0, 0, 1, 97, 1, 98, 0, 7, 0, 0] := by decide +kernel
theorem zero_right : right Rm.zero = false := by decide +kernel
end Go.Proofs.Ytchcjbapbdfhkaa
