/-
  Apply of layer 8: the program and the reference give one answer.
-/
import Derived.Test.YtadkcgpkbcgeoaaFams
import Derived.Test.YtadkcgpkbcgeoaaPlnP
set_option maxRecDepth 100000
namespace Go.Proofs.Ytadkcgpkbcgeoaa
open Go.RowKit

theorem qap_both (a b c d lo hi : Int) (s : Option Addr) (m : Nat) (l : List Int) (hI : ∀ z ∈ l, InI z) :
    ∃ (R0 : Pl.R) (L0 : List Int) (E0 : Int), L0.length ≤ 1048576 ∧ (∀ w : World, HoldsI w s l → Calls Try.prog 58 #[.agg #[.int .i64 a, .int .i64 b, .int .i64 c, .int .i64 d, .slice s l.length m], .int .i64 lo, .int .i64 hi] w (GivesPlane R0 L0 E0 w)) ∧ (∀ w : World, HoldsI w s l → Calls Try.prog 59 #[.agg #[.int .i64 a, .int .i64 b, .int .i64 c, .int .i64 d, .slice s l.length m], .int .i64 lo, .int .i64 hi] w (GivesPlane R0 L0 E0 w)) := by
  by_cases hp : pvB a b c d l.length = true
  · by_cases hv : Qu.vB lo hi = true
    · exact ⟨_, _, _, by rw [qL_len]; exact pv_le hp, fun w hH => qa_yes _ _ _ _ _ _ _ _ _ w hp hv hI hH, fun w hH => qar_yes _ _ _ _ _ _ _ _ _ w hp hv hH⟩
    · have hv' : Qu.vB lo hi = false := by simpa using hv
      exact ⟨_, _, _, Nat.zero_le _, fun w _ => qa_no2 _ _ _ _ _ _ _ _ _ w hp hv', fun w _ => qar_no2 _ _ _ _ _ _ _ _ _ w hp hv'⟩
  · have hp' : pvB a b c d l.length = false := by simpa using hp
    exact ⟨_, _, _, Nat.zero_le _, fun w _ => qa_no1 _ _ _ _ _ _ _ _ _ w hp', fun w _ => qar_no1 _ _ _ _ _ _ _ _ _ w hp'⟩
end Go.Proofs.Ytadkcgpkbcgeoaa
