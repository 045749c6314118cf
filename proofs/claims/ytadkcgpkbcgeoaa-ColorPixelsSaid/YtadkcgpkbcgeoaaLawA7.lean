/-
  An array of three integers that came by value; what the statements of layer 7 ask of pixels.
-/
import Derived.Test.YtadkcgpkbcgeoaaEx07
set_option maxRecDepth 100000
namespace Go.Proofs.Ytadkcgpkbcgeoaa
open Go.RowKit

structure TBox (W : World) (B : Nat) (x y z : Int) : Prop where
  c0 : W.cell? ⟨B, 0, none⟩ = some (.int .i64 x)
  c1 : W.cell? ⟨B, 1, none⟩ = some (.int .i64 y)
  c2 : W.cell? ⟨B, 2, none⟩ = some (.int .i64 z)
  lt : B < W.heap.size
theorem TBox.fresh (w : World) (x y z : Int) (t : TypeId) : TBox (w.alloc (.cells #[.int .i64 x, .int .i64 y, .int .i64 z] t)) w.heap.size x y z := ⟨by simp, by simp, by simp, by simp⟩
theorem TBox.below {W w1 : World} {B : Nat} {x y z : Int} (h : TBox W B x y z) (hb : Below W.heap.size W w1) : TBox w1 B x y z :=
  ⟨(hb.cell (p := ⟨B, 0, none⟩) h.lt).trans h.c0, (hb.cell (p := ⟨B, 1, none⟩) h.lt).trans h.c1, (hb.cell (p := ⟨B, 2, none⟩) h.lt).trans h.c2, Nat.lt_of_lt_of_le h.lt hb.size⟩
def bnd3 (a b c m : Int) : Bool := decide (-m ≤ a ∧ a ≤ m ∧ -m ≤ b ∧ b ≤ m ∧ -m ≤ c ∧ c ≤ m)
theorem bnd3_iff {a b c m : Int} : bnd3 a b c m = true ↔ (-m ≤ a ∧ a ≤ m ∧ -m ≤ b ∧ b ≤ m ∧ -m ≤ c ∧ c ≤ m) := by simp [bnd3]
set_option maxHeartbeats 1000000 in
theorem bn_r (a b c m : Int) (w : World) (h0 : 0 ≤ m) (h1 : m ≤ 9223372036854775807) : Calls Try.prog 20 #[.int .i64 a, .int .i64 b, .int .i64 c, .int .i64 m] w fun e w' => e = .returned (.bool (bnd3 a b c m)) ∧ w' = w := by
  have w1 : IntKind.i64.wrap (-m) = -m := i64_in' _ (by omega) (by omega)
  go_enter Try.func20, Try.ntmps20
  go_wp2
  all_goals
    go_ret
    exact ⟨ret_bool (by simp [bnd3]; try omega), rfl⟩
end Go.Proofs.Ytadkcgpkbcgeoaa
