/- Which bucket the code finds. -/
import Derived.Test.YtobgnendfnmnpaaRows
import Derived.WalkKit
import Derived.WalkSpells
import Derived.WalkLawsBesides
import Derived.Lib.Hide
import Derived.Test.YtobgnendfnmnpaaBm
namespace Go.Proofs.Ytobgnendfnmnpaa
open Go.RowKit

end Go.Proofs.Ytobgnendfnmnpaa
