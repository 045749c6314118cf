/-
  What each call of At (both), Get, Few, Small, ValidSmall, Limits (reference) and of 'of' returns and leaves.
-/
import Derived.Test.YtnfnidgabgdphaaPlnK
set_option maxRecDepth 100000
namespace Go.Proofs.Ytnfnidgabgdphaa
open Go.RowKit

def smB (a b c d : Int) : Bool := decide (Pl.validB a b c d = true ∧ c - a ≤ 20 ∧ d - b ≤ 20)
def vsB (a b c d : Int) (n : Nat) : Bool := pvB a b c d n && smB a b c d
theorem foldI_zero {f : Int → Int → Int} {l : List Int} (h : 0 < l.length) (hf : f l[0] l[0] = l[0]) : foldI f (l.take 1) = f l[0] l[0] := by rw [foldI_one f l h, hf]
theorem fold_next (f : Int → Int → Int) (hf : ∀ x, f x x = x) {l : List Int} {k : Nat} (h0 : 0 < l.length) (hk : k < l.length) : f (foldI f (l.take (max k 1))) l[k] = foldI f (l.take (max (k + 1) 1)) := by
  by_cases h : k = 0
  · subst h
    show f (foldI f (l.take 1)) l[0] = foldI f (l.take 1)
    rw [foldI_one f l h0, hf]
  · rw [show max k 1 = k by omega, show max (k + 1) 1 = k + 1 by omega, foldI_succ f l k (by omega) hk]
end Go.Proofs.Ytnfnidgabgdphaa
