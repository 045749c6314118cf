/-
  What each call of At (both), Get, Few, Small, ValidSmall, Limits (reference) and of 'of' returns and leaves.
-/
import Derived.Test.YtadkcgpkbcgeoaaPlnK
set_option maxRecDepth 100000
namespace Go.Proofs.Ytadkcgpkbcgeoaa
open Go.RowKit

theorem few_r (a b c d : Int) (s : Option Addr) (n m : Nat) (w : World) :
    Calls Try.prog 32 #[.agg #[.int .i64 a, .int .i64 b, .int .i64 c, .int .i64 d, .slice s n m]] w fun e w' => e = .returned (.bool (decide (n ≤ 400))) ∧ Below w.heap.size w w' := by
  by_cases h : n ≤ 400
  · have h' : (n : Int) ≤ 400 := by omega
    go_enter Try.func32, Try.ntmps32
    go_wp2
    go_ret
    exact ⟨ret_bool (by simp [h]), (Below.refl _ _).alloc (Nat.le_refl _) _⟩
  · have h' : ¬ (n : Int) ≤ 400 := by omega
    go_enter Try.func32, Try.ntmps32
    go_wp2
    go_ret
    exact ⟨ret_bool (by simp), (Below.refl _ _).alloc (Nat.le_refl _) _⟩
def smB (a b c d : Int) : Bool := decide (Pl.validB a b c d = true ∧ c - a ≤ 20 ∧ d - b ≤ 20)
def vsB (a b c d : Int) (n : Nat) : Bool := pvB a b c d n && smB a b c d
theorem foldI_zero {f : Int → Int → Int} {l : List Int} (h : 0 < l.length) (hf : f l[0] l[0] = l[0]) : foldI f (l.take 1) = f l[0] l[0] := by rw [foldI_one f l h, hf]
theorem fold_next (f : Int → Int → Int) (hf : ∀ x, f x x = x) {l : List Int} {k : Nat} (h0 : 0 < l.length) (hk : k < l.length) : f (foldI f (l.take (max k 1))) l[k] = foldI f (l.take (max (k + 1) 1)) := by
  by_cases h : k = 0
  · subst h
    show f (foldI f (l.take 1)) l[0] = foldI f (l.take 1)
    rw [foldI_one f l h0, hf]
  · rw [show max k 1 = k by omega, show max (k + 1) 1 = k + 1 by omega, foldI_succ f l k (by omega) hk]
end Go.Proofs.Ytadkcgpkbcgeoaa
