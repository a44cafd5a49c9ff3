/- The library at this program: a laying of the shelf. -/
import Derived.Test.YtgiahfjndononaaDoorProg
import Derived.Shelf.Strconv.Itoa3
namespace Go.Proofs.YtgiahfjndononaaDoor
open Go.Shelf
set_option maxRecDepth 100000
end Go.Proofs.YtgiahfjndononaaDoor
