/-
  What each call of width, index and At on planes returns and leaves: contracts.
-/
import Derived.Test.YtadkcgpkbcgeoaaPlnA
set_option maxRecDepth 100000
namespace Go.Proofs.Ytadkcgpkbcgeoaa
open Go.RowKit

/-- Where the sample of a point is. -/
def idx (a b c x y : Int) : Int := (y - b) * (c - a) + (x - a)
theorem idx_bd {a b c d x y : Int} (hv : Pl.validB a b c d = true) (hx : a ≤ x) (hx' : x ≤ c) (hy : b ≤ y) (hy' : y ≤ d) :
    0 ≤ (y - b) * (c - a) ∧ (y - b) * (c - a) ≤ 16777216 ∧ 0 ≤ idx a b c x y ∧ idx a b c x y ≤ 16781312 := by
  obtain ⟨v1, v2, v3, v4, v5, v6⟩ := Pl.valid_iff.1 hv
  have p0 : 0 ≤ (y - b) * (c - a) := Int.mul_nonneg (by omega) (by omega)
  have p1 : (y - b) * (c - a) ≤ 4096 * 4096 := Int.le_trans (Int.mul_le_mul_of_nonneg_right (show y - b ≤ 4096 by omega) (by omega)) (Int.mul_le_mul_of_nonneg_left (show c - a ≤ 4096 by omega) (by omega))
  unfold idx
  omega
/-- A point's sample is one of the samples. -/
theorem idx_lt {a b c d x y : Int} (hv : Pl.validB a b c d = true) (hx : a ≤ x) (hx' : x < c) (_hy : b ≤ y) (hy' : y < d) : idx a b c x y < Pl.areaI a b c d := by
  have h1 : (y - b) * (c - a) ≤ (d - b - 1) * (c - a) := Int.mul_le_mul_of_nonneg_right (show y - b ≤ d - b - 1 by omega) (by omega)
  rw [Int.sub_mul (d - b) 1, Int.one_mul] at h1
  rw [Pl.areaI, if_pos hv, Int.mul_comm (c - a)]
  unfold idx
  omega
/-- A plane in its box. -/
structure Q1 (a b c d : Int) (s : Option Addr) (n m : Nat) (w W : World) : Prop where
  below : Below w.heap.size w W
  q : QBox W w.heap.size ⟨a, b, c, d⟩ (.slice s n m)
theorem Q1.step {a b c d : Int} {s : Option Addr} {n m : Nat} {w W W1 : World} (h : Q1 a b c d s n m w W) (hb : Below W.heap.size W W1) : Q1 a b c d s n m w W1 :=
  ⟨bcall h.below hb (by have := h.q.lt; omega), h.q.below hb⟩
theorem Q1.fresh (a b c d : Int) (s : Option Addr) (n m : Nat) (w : World) : Q1 a b c d s n m w (w.alloc (.cells #[.int .i64 a, .int .i64 b, .int .i64 c, .int .i64 d, .slice s n m] 40)) :=
  ⟨(Below.refl _ _).alloc (Nat.le_refl _) _, QBox.fresh w a b c d s n m _⟩
structure Q1F (a b c d : Int) (s : Option Addr) (n m : Nat) (w : World) where
  W : World
  ok : Q1 a b c d s n m w W
end Go.Proofs.Ytadkcgpkbcgeoaa
