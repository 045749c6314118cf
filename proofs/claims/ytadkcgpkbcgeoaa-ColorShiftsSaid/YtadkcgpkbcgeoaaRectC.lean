/-
  What each call of divisor and Reduce returns and leaves: contracts.
-/
import Derived.Test.YtadkcgpkbcgeoaaRectB
import Derived.StillTailTactics
set_option maxRecDepth 100000
namespace Go.Proofs.Ytadkcgpkbcgeoaa
open Go.RowKit

theorem fd_rs (a b : Int) (w : World) (h0 : -9223372036854775808 ≤ a) (h1 : a ≤ 9223372036854775807) :
    Calls Try.prog 62 #[.int .i64 a, .int .i64 b] w fun e w' => e = .returned (.int .i64 (Pl.fd a b)) ∧ w' = w := (fd_r a b w h0 h1).mono fun _ _ h => ⟨h.1, h.2.symm⟩
end Go.Proofs.Ytadkcgpkbcgeoaa
