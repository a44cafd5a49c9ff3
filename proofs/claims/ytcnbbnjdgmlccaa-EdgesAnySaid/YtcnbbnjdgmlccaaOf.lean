/- Which bucket the code finds. -/
import Derived.Test.YtcnbbnjdgmlccaaRows
import Derived.WalkKit
import Derived.WalkSpells
import Derived.WalkLawsBesides
import Derived.Lib.Hide
import Derived.Test.YtcnbbnjdgmlccaaBm
namespace Go.Proofs.Ytcnbbnjdgmlccaa
open Go.RowKit

end Go.Proofs.Ytcnbbnjdgmlccaa
