/-
  What each call of overlay on planes leaves: contracts.
-/
import Derived.Test.YtadkcgpkbcgeoaaPlnG
set_option maxRecDepth 100000
namespace Go.Proofs.Ytadkcgpkbcgeoaa
open Go.RowKit

end Go.Proofs.Ytadkcgpkbcgeoaa
