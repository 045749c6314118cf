/-
  What each call of width, index and At on planes returns and leaves: contracts.
-/
import Derived.Test.YtnfnidgabgdphaaPlnA
set_option maxRecDepth 100000
namespace Go.Proofs.Ytnfnidgabgdphaa
open Go.RowKit

/-- Where the sample of a point is. -/
def idx (a b c x y : Int) : Int := (y - b) * (c - a) + (x - a)
theorem idx_bd {a b c d x y : Int} (hv : Pl.validB a b c d = true) (hx : a ≤ x) (hx' : x ≤ c) (hy : b ≤ y) (hy' : y ≤ d) :
    0 ≤ (y - b) * (c - a) ∧ (y - b) * (c - a) ≤ 16777216 ∧ 0 ≤ idx a b c x y ∧ idx a b c x y ≤ 16781312 := by
  obtain ⟨v1, v2, v3, v4, v5, v6⟩ := Pl.valid_iff.1 hv
  have p0 : 0 ≤ (y - b) * (c - a) := Int.mul_nonneg (by omega) (by omega)
  have p1 : (y - b) * (c - a) ≤ 4096 * 4096 := Int.le_trans (Int.mul_le_mul_of_nonneg_right (show y - b ≤ 4096 by omega) (by omega)) (Int.mul_le_mul_of_nonneg_left (show c - a ≤ 4096 by omega) (by omega))
  unfold idx
  omega
/-- A point's sample is one of the samples. -/
theorem idx_lt {a b c d x y : Int} (hv : Pl.validB a b c d = true) (hx : a ≤ x) (hx' : x < c) (_hy : b ≤ y) (hy' : y < d) : idx a b c x y < Pl.areaI a b c d := by
  have h1 : (y - b) * (c - a) ≤ (d - b - 1) * (c - a) := Int.mul_le_mul_of_nonneg_right (show y - b ≤ d - b - 1 by omega) (by omega)
  rw [Int.sub_mul (d - b) 1, Int.one_mul] at h1
  rw [Pl.areaI, if_pos hv, Int.mul_comm (c - a)]
  unfold idx
  omega
/-- A plane in its box. -/
structure Q1 (a b c d : Int) (s : Option Addr) (n m : Nat) (w W : World) : Prop where
  below : Below w.heap.size w W
  q : QBox W w.heap.size ⟨a, b, c, d⟩ (.slice s n m)
theorem Q1.step {a b c d : Int} {s : Option Addr} {n m : Nat} {w W W1 : World} (h : Q1 a b c d s n m w W) (hb : Below W.heap.size W W1) : Q1 a b c d s n m w W1 :=
  ⟨bcall h.below hb (by have := h.q.lt; omega), h.q.below hb⟩
theorem Q1.fresh (a b c d : Int) (s : Option Addr) (n m : Nat) (w : World) : Q1 a b c d s n m w (w.alloc (.cells #[.int .i64 a, .int .i64 b, .int .i64 c, .int .i64 d, .slice s n m] 30)) :=
  ⟨(Below.refl _ _).alloc (Nat.le_refl _) _, QBox.fresh w a b c d s n m _⟩
structure Q1F (a b c d : Int) (s : Option Addr) (n m : Nat) (w : World) where
  W : World
  ok : Q1 a b c d s n m w W
set_option maxHeartbeats 400000 in
theorem width_c (a b c d : Int) (s : Option Addr) (n m : Nat) (w : World) (hv : Pl.validB a b c d = true) :
    Calls Try.prog 129 #[.agg #[.int .i64 a, .int .i64 b, .int .i64 c, .int .i64 d, .slice s n m]] w fun e w' => e = .returned (.int .i64 (c - a)) ∧ Below w.heap.size w w' := by
  obtain ⟨v1, v2, v3, v4, v5, v6⟩ := Pl.valid_iff.1 hv
  go_enter Try.func129, Try.ntmps129
  go_wp2
  go_ret
  exact ⟨rfl, (Below.refl _ _).alloc (Nat.le_refl _) _⟩
set_option maxHeartbeats 1000000 in
theorem index_c (a b c d x y : Int) (s : Option Addr) (n m : Nat) (w : World) (hv : Pl.validB a b c d = true) (hx : a ≤ x) (hx' : x ≤ c) (hy : b ≤ y) (hy' : y ≤ d) :
    Calls Try.prog 109 #[.agg #[.int .i64 a, .int .i64 b, .int .i64 c, .int .i64 d, .slice s n m], .int .i64 x, .int .i64 y] w fun e w' => e = .returned (.int .i64 (idx a b c x y)) ∧ Below w.heap.size w w' := by
  obtain ⟨v1, v2, v3, v4, v5, v6⟩ := Pl.valid_iff.1 hv
  obtain ⟨p0, p1, p2, p3⟩ := idx_bd hv hx hx' hy hy'
  have e1 : IntKind.i64.wrap (y - b) = y - b := IntWalk.i64_in _ (by omega)
  have e2 : IntKind.i64.wrap ((y - b) * (c - a)) = (y - b) * (c - a) := IntWalk.i64_in _ (by omega)
  have e2' : wrap64 ((y - b) * (c - a)) = (y - b) * (c - a) := IntWalk.wrap64_in _ ⟨by omega, by omega⟩
  have e3 : IntKind.i64.wrap (x - a) = x - a := IntWalk.i64_in _ (by omega)
  have e4 : IntKind.i64.wrap ((y - b) * (c - a) + (x - a)) = (y - b) * (c - a) + (x - a) := IntWalk.i64_in _ (by unfold idx at p2 p3; omega)
  clear p2 p3
  have hS := Q1.fresh a b c d s n m w
  go_enter Try.func109, Try.ntmps109
  go_wp2_with fail
  have hst : ∀ (X : Q1F a b c d s n m w) (w' : World), Below X.W.heap.size X.W w' → ∃ Y : Q1F a b c d s n m w, w' = Y.W := fun X w' hb => ⟨⟨w', X.ok.step hb⟩, rfl⟩
  have hne : Nonempty (Q1F a b c d s n m w) := ⟨⟨_, hS⟩⟩
  have hx0 : ∀ X : Q1F a b c d s n m w, X.W.cell? ⟨w.heap.size, 0, none⟩ = some (.int .i64 a) := fun X => X.ok.q.open.1
  have hx1 : ∀ X : Q1F a b c d s n m w, X.W.cell? ⟨w.heap.size, 1, none⟩ = some (.int .i64 b) := fun X => X.ok.q.open.2.1
  have hx2 : ∀ X : Q1F a b c d s n m w, X.W.cell? ⟨w.heap.size, 2, none⟩ = some (.int .i64 c) := fun X => X.ok.q.open.2.2.1
  have hx3 : ∀ X : Q1F a b c d s n m w, X.W.cell? ⟨w.heap.size, 3, none⟩ = some (.int .i64 d) := fun X => X.ok.q.open.2.2.2.1
  have hx4 : ∀ X : Q1F a b c d s n m w, X.W.cell? ⟨w.heap.size, 4, none⟩ = some (.slice s n m) := fun X => X.ok.q.open.2.2.2.2
  refine wp_region_in (fun X : Q1F a b c d s n m w => X.W) (by kernel_rfl) (by kernel_rfl) ⟨⟨_, hS.step (Below.refl _ _).drew⟩, rfl⟩ ?_
  repeat (first | go_big_quiet_step ((first | (go_at_call 129; exact call_in (width_c _ _ _ _ _ _ _ _ hv) (hst _)))) | quiet_step ((first | (go_at_call 129; exact call_in (width_c _ _ _ _ _ _ _ _ hv) (hst _)))))
  refine wpQuiet_nil ?_
  intro w2 hw'
  obtain ⟨⟨_, hS2⟩, hw''⟩ := hw'
  subst hw''
  clear hst hne hx0 hx1 hx2 hx3 hx4
  go_wp2
  go_ret
  exact ⟨rfl, hS2.below⟩

end Go.Proofs.Ytnfnidgabgdphaa
