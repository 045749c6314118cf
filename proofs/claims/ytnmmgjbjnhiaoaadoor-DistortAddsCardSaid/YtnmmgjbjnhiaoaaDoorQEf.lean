/-
  Layer 11, the code's encoder: gap, Terminate.
-/
import Derived.Test.YtnmmgjbjnhiaoaaDoorQEe
set_option maxRecDepth 100000
namespace Go.Proofs.YtnmmgjbjnhiaoaaDoor
open Go.RowKit

/-- How far the codeword's number lies above low. -/
def gapF (s : Am.St) : Int := if (-s.lo) % 4294967296 < s.rg then (-s.lo) % 4294967296 else (-s.lo) % 16777216
theorem gap_cwv (s : Am.St) : s.lo + gapF s = Am.cwv s := by unfold gapF Am.cwv; split <;> rfl
theorem word_eq {s : Am.St} (v : Int) (hv : v % 16777216 = 0) : Am.dig s.n (v / 4294967296) ++ [v % 4294967296 / 16777216] = Am.dig (s.n + 1) (v / 16777216) := by
  rw [Am.dig, show v / 16777216 / 256 = v / 4294967296 by omega, show v / 16777216 % 256 = v % 4294967296 / 16777216 by omega]
end Go.Proofs.YtnmmgjbjnhiaoaaDoor
