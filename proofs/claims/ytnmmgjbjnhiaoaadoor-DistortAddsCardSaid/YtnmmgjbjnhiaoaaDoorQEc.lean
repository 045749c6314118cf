/-
  Layer 11, the code's encoder: its cells; begin, NewEncoder, Probability, Size, Reset, raise.
-/
import Derived.Test.YtnmmgjbjnhiaoaaDoorQEb
set_option maxRecDepth 100000
namespace Go.Proofs.YtnmmgjbjnhiaoaaDoor
open Go.RowKit

section
variable {w w1 : World} {B a : Nat} {pv hv : Value} {P R : List Int} {t rg : Int} {x : Am.X}
end
/-- How many bytes suffice. -/
def szF (s : Am.St) : Int := if s.rg = 4294967295 then 0 else (s.n : Int) + 4
end Go.Proofs.YtnmmgjbjnhiaoaaDoor
