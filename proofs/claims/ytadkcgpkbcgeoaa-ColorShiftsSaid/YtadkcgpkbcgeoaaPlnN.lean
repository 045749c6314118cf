/-
  What each call of the reference's Paste and Clip returns and leaves.
-/
import Derived.Test.YtadkcgpkbcgeoaaPlnM
set_option maxRecDepth 100000
namespace Go.Proofs.Ytadkcgpkbcgeoaa
open Go.RowKit

theorem clip_take {lo hi : Int} {l : List Int} {k : Nat} (hk : k < l.length) : (clipL lo hi l).take k ++ [min (max l[k] lo) hi] = (clipL lo hi l).take (k + 1) := by
  rw [List.take_succ_eq_append_getElem (by rw [clipL_len]; exact hk), clip_at hk]
end Go.Proofs.Ytadkcgpkbcgeoaa
