/- What the code and the document write of a number and of a text, onto a row of one's own. -/
import Derived.Test.YtgiahfjndononaaDoorPuta
namespace Go.Proofs.YtgiahfjndononaaDoor
open Go.RowKit
end Go.Proofs.YtgiahfjndononaaDoor
