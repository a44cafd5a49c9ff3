/- One episode as it comes in. -/
import Derived.Test.YtajpnimjkkmcmaaOe
namespace Go.Proofs.Ytajpnimjkkmcmaa
open Go.ChangeShapes Go.WideShapes Go.RowKit Go.Joins Go.Deep
set_option linter.unusedVariables false
set_option linter.unusedSimpArgs false
set_option maxRecDepth 100000

section
variable {H : Type} {enc : TypeId × Value → H} {base : Nat}
end
end Go.Proofs.Ytajpnimjkkmcmaa
