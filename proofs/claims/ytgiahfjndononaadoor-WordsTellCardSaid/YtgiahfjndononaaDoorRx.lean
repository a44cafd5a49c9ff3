/- A reader's Byte, Take of one, Done. -/
import Derived.Test.YtgiahfjndononaaDoorRd
import Derived.Test.YtgiahfjndononaaDoorGr
namespace Go.Proofs.YtgiahfjndononaaDoor
open Go.RowKit
set_option linter.unusedVariables false
set_option linter.unusedSimpArgs false
set_option maxRecDepth 100000

end Go.Proofs.YtgiahfjndononaaDoor
