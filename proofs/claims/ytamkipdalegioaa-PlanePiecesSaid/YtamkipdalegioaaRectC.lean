/-
  What each call of divisor and Reduce returns and leaves: contracts.
-/
import Derived.Test.YtamkipdalegioaaRectB
import Derived.StillTailTactics
namespace Go.Proofs.Ytamkipdalegioaa
open Go.RowKit

end Go.Proofs.Ytamkipdalegioaa
