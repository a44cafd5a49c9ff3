/- GetText, of the code and of the document. -/
import Derived.Test.YtgiahfjndononaaDoorGet
namespace Go.Proofs.YtgiahfjndononaaDoor
open Go.RowKit

end Go.Proofs.YtgiahfjndononaaDoor
