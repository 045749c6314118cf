/-
  Layer 11, the code's encoder: Encode at a bit.
-/
import Derived.Test.YtnmmgjbjnhiaoaaDoorQEe
set_option maxRecDepth 100000
namespace Go.Proofs.YtnmmgjbjnhiaoaaDoor
open Go.RowKit

end Go.Proofs.YtnmmgjbjnhiaoaaDoor
