/- Contract of bytes.Clone. -/
import Derived.Test.YtiijbklaapaheabJD
import Derived.Test.YtiijbklaapaheabW4
namespace Go.Proofs.Ytiijbklaapaheab
open Go.RowKit
set_option maxRecDepth 100000

end Go.Proofs.Ytiijbklaapaheab
