/-
  What each call of divisor and Reduce returns and leaves: contracts.
-/
import Derived.Test.YtcdjkofgnelgeaaRectB
import Derived.StillTailTactics
set_option maxRecDepth 100000
namespace Go.Proofs.Ytcdjkofgnelgeaa
open Go.RowKit

theorem cd_cs (a b : Int) (w : World) (h0 : -9223372036854775808 ≤ a) (h1 : a ≤ 9223372036854775807) :
    Calls Try.prog 37 #[.int .i64 a, .int .i64 b] w fun e w' => e = .returned (.int .i64 (Pl.cd a b)) ∧ w' = w := (cd_c a b w h0 h1).mono fun _ _ h => ⟨h.1, h.2.symm⟩
theorem fd_cs (a b : Int) (w : World) (h0 : -9223372036854775808 ≤ a) (h1 : a ≤ 9223372036854775807) :
    Calls Try.prog 40 #[.int .i64 a, .int .i64 b] w fun e w' => e = .returned (.int .i64 (Pl.fd a b)) ∧ w' = w := (fd_c a b w h0 h1).mono fun _ _ h => ⟨h.1, h.2.symm⟩
theorem cd_rs (a b : Int) (w : World) (h0 : -9223372036854775808 ≤ a) (h1 : a ≤ 9223372036854775807) :
    Calls Try.prog 25 #[.int .i64 a, .int .i64 b] w fun e w' => e = .returned (.int .i64 (Pl.cd a b)) ∧ w' = w := (cd_r a b w h0 h1).mono fun _ _ h => ⟨h.1, h.2.symm⟩
theorem fd_rs (a b : Int) (w : World) (h0 : -9223372036854775808 ≤ a) (h1 : a ≤ 9223372036854775807) :
    Calls Try.prog 26 #[.int .i64 a, .int .i64 b] w fun e w' => e = .returned (.int .i64 (Pl.fd a b)) ∧ w' = w := (fd_r a b w h0 h1).mono fun _ _ h => ⟨h.1, h.2.symm⟩
end Go.Proofs.Ytcdjkofgnelgeaa
