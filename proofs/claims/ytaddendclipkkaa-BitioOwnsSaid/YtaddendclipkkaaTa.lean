/-
  Layer 10: a tree of the code in memory; has, on, Value.
-/
import Derived.Test.YtaddendclipkkaaTm
import Derived.Test.YtaddendclipkkaaObj
import Derived.BigQuiet
import Derived.Lib.Hide
import Derived.LaidEqlPtr
set_option maxRecDepth 100000
namespace Go.Proofs.Ytaddendclipkkaa
open Go.RowKit

theorem drewN_below (w : World) (n : Nat) : Below w.heap.size w (w.drewN n) := by
  induction n with
  | zero => exact Below.refl _ _
  | succ n ih => exact ih.drew
/-- A tree of the code: object A, levels at L, the nodes of level k at nd k. -/
structure Tr (W : World) (B A L : Nat) (nd : Nat → Nat) (w h D : Nat) (u : Int) (Q : Nat → Nat → Nat → Nd) : Prop where
  w1 : 1 ≤ w
  h1 : 1 ≤ h
  sz : w * h ≤ 65536
  ws : w ≤ 65536
  hs : h ≤ 65536
  d1 : 1 ≤ D
  d2 : D ≤ 17
  top : dm w (D - 1) = 1 ∧ dm h (D - 1) = 1
  us : 0 ≤ u ∧ u ≤ 2
  geA : B ≤ A
  geL : B ≤ L
  geN : ∀ k, k < D → B ≤ nd k
  inj : ∀ i j, i < D → j < D → nd i = nd j → i = j
  obj : ∃ m, Blk W A 77 #[.pointer (some ⟨A, 0, none⟩), .slice (some ⟨L, 0, none⟩) D m, .int .i64 u]
  lvs : ∃ cs, Blk W L 94 cs ∧ ∀ k, k < D → cs[k * 3]? = some (.int .i64 (dm w k : Int)) ∧ cs[k * 3 + 1]? = some (.int .i64 (dm h k : Int)) ∧ ∃ m, cs[k * 3 + 2]? = some (.slice (some ⟨nd k, 0, none⟩) (dm w k * dm h k) m)
  nds : ∀ k, k < D → ∃ cs, Blk W (nd k) 100 cs ∧ ∀ x y, x < dm w k → y < dm h k → cs[(y * dm w k + x) * 3]? = some (.int .i64 (Q k x y).v) ∧ cs[(y * dm w k + x) * 3 + 1]? = some (.int .i64 (Q k x y).l) ∧ cs[(y * dm w k + x) * 3 + 2]? = some (.bool (Q k x y).b)
  qb : ∀ k x y, 0 ≤ (Q k x y).l ∧ (Q k x y).l ≤ 65536
section
variable {W W' W1 : World} {B A L w h D : Nat} {nd : Nat → Nat} {u : Int} {Q : Nat → Nat → Nat → Nd}
/-- The tree's blocks. -/
def Tf (A L : Nat) (nd : Nat → Nat) (D k : Nat) : Prop := k = A ∨ k = L ∨ ∃ i, i < D ∧ k = nd i
theorem Tr.keep (H : Tr W B A L nd w h D u Q) (hk : ∀ k, Tf A L nd D k → W'.heap[k]? = W.heap[k]?) : Tr W' B A L nd w h D u Q := by
  obtain ⟨m, ho⟩ := H.obj
  obtain ⟨cs, hl, hl2⟩ := H.lvs
  refine ⟨H.w1, H.h1, H.sz, H.ws, H.hs, H.d1, H.d2, H.top, H.us, H.geA, H.geL, H.geN, H.inj, ⟨m, (hk A (.inl rfl)).trans ho⟩, ⟨cs, (hk L (.inr (.inl rfl))).trans hl, hl2⟩, fun k hkD => ?_, H.qb⟩
  obtain ⟨cs, hn, hn2⟩ := H.nds k hkD
  exact ⟨cs, (hk (nd k) (.inr (.inr ⟨k, hkD, rfl⟩))).trans hn, hn2⟩
theorem Tr.foot (H : Tr W B A L nd w h D u Q) (k : Nat) (hk : Tf A L nd D k) : B ≤ k ∧ k < W.heap.size := by
  rcases hk with rfl | rfl | ⟨i, hi, rfl⟩
  · obtain ⟨m, ho⟩ := H.obj
    exact ⟨H.geA, ho.lt⟩
  · obtain ⟨cs, hl, _⟩ := H.lvs
    exact ⟨H.geL, hl.lt⟩
  · obtain ⟨cs, hn, _⟩ := H.nds i hi
    exact ⟨H.geN i hi, hn.lt⟩
theorem Tr.below (H : Tr W B A L nd w h D u Q) (hb : Below W.heap.size W W') : Tr W' B A L nd w h D u Q := H.keep fun k hk => hb.block k (H.foot k hk).2
theorem Tr.cells (H : Tr W B A L nd w h D u Q) : W.cell? ⟨A, 0, none⟩ = some (.pointer (some ⟨A, 0, none⟩)) ∧ (∃ m, W.cell? ⟨A, 1, none⟩ = some (.slice (some ⟨L, 0, none⟩) D m)) ∧ W.cell? ⟨A, 2, none⟩ = some (.int .i64 u) := by
  obtain ⟨m, ho⟩ := H.obj
  exact ⟨ho.cell 0, ⟨m, ho.cell 1⟩, ho.cell 2⟩
theorem Tr.level (H : Tr W B A L nd w h D u Q) {k : Nat} (hk : k < D) : W.cell? ⟨L, k * 3, none⟩ = some (.int .i64 (dm w k : Int)) ∧ W.cell? ⟨L, k * 3 + 1, none⟩ = some (.int .i64 (dm h k : Int)) ∧ ∃ m, W.cell? ⟨L, k * 3 + 2, none⟩ = some (.slice (some ⟨nd k, 0, none⟩) (dm w k * dm h k) m) := by
  obtain ⟨cs, hl, hl2⟩ := H.lvs
  obtain ⟨a, b, m, c⟩ := hl2 k hk
  exact ⟨by rw [hl.cell]; exact a, by rw [hl.cell]; exact b, m, by rw [hl.cell]; exact c⟩
theorem Tr.node (H : Tr W B A L nd w h D u Q) {k x y : Nat} (hk : k < D) (hx : x < dm w k) (hy : y < dm h k) : W.cell? ⟨nd k, (y * dm w k + x) * 3, none⟩ = some (.int .i64 (Q k x y).v) ∧ W.cell? ⟨nd k, (y * dm w k + x) * 3 + 1, none⟩ = some (.int .i64 (Q k x y).l) ∧ W.cell? ⟨nd k, (y * dm w k + x) * 3 + 2, none⟩ = some (.bool (Q k x y).b) := by
  obtain ⟨cs, hn, hn2⟩ := H.nds k hk
  obtain ⟨a, b, c⟩ := hn2 x y hx hy
  exact ⟨by rw [hn.cell]; exact a, by rw [hn.cell]; exact b, by rw [hn.cell]; exact c⟩
theorem Tr.dims (H : Tr W B A L nd w h D u Q) (k : Nat) : 1 ≤ dm w k ∧ dm w k ≤ w ∧ 1 ≤ dm h k ∧ dm h k ≤ h ∧ dm w k * dm h k ≤ 65536 :=
  ⟨dm_pos H.w1 k, dm_le H.w1 k, dm_pos H.h1 k, dm_le H.h1 k, Nat.le_trans (Nat.mul_le_mul (dm_le H.w1 k) (dm_le H.h1 k)) H.sz⟩
end
theorem ptrT (w : World) (a : Addr) : (binOp .eql 45 (.pointer (some a)) (.pointer (some a))).run Try.prog w = .ok (.bool true) w := by
  obtain ⟨j, hj⟩ : ∃ j, Try.prog.info? 77 = some j := ⟨_, rfl⟩
  exact run_eql_ptr_same w a (te := 77) Try.underlying45 hj
theorem ptrTz (w : World) (a : Addr) : (binOp .eql 45 (.pointer none) (.pointer (some a))).run Try.prog w = .ok (.bool false) w := by
  have h : ∀ d : Nat, (Op.equalIn (d + 1) 45 (.pointer none) (.pointer (some a))).run Try.prog w = .ok false w := fun d => by
    simp [Op.equalIn, run_underlying (P := Try.prog) (t := 45) Try.underlying45]
  simp only [binOp]
  simp [Op.equal, Op.maxDepth, h 9999]
theorem tmade_y (a : Nat) (w : World) (h0 : w.cell? ⟨a, 0, none⟩ = some (.pointer (some ⟨a, 0, none⟩))) : Calls Try.prog 59 #[.pointer (some ⟨a, 0, none⟩)] w fun e w' => e = .returned (.bool true) ∧ w = w' := by
  have hp := fun W => ptrT W ⟨a, 0, none⟩
  go_enter Try.func59, Try.ntmps59
  go_wp2_with fail
  go_ret
  exact ⟨rfl, rfl⟩
theorem tmade_n (w : World) : Calls Try.prog 59 #[.pointer none] w fun e w' => e = .returned (.bool false) ∧ w = w' := by
  go_enter Try.func59, Try.ntmps59
  go_wp2_with fail
  go_ret
  exact ⟨rfl, rfl⟩
theorem tmade_z (a : Nat) (w : World) (h0 : w.cell? ⟨a, 0, none⟩ = some (.pointer none)) : Calls Try.prog 59 #[.pointer (some ⟨a, 0, none⟩)] w fun e w' => e = .returned (.bool false) ∧ w = w' := by
  have hp := fun W => ptrTz W ⟨a, 0, none⟩
  go_enter Try.func59, Try.ntmps59
  go_wp2_with fail
  go_ret
  exact ⟨rfl, rfl⟩
theorem grid_lt {w h X Y : Nat} (hX : X < w) (hY : Y < h) : Y * w + X < w * h := by
  calc Y * w + X < Y * w + w := by omega
    _ = (Y + 1) * w := (Nat.succ_mul Y w).symm
    _ ≤ h * w := Nat.mul_le_mul_right _ hY
    _ = w * h := Nat.mul_comm h w
theorem grid_inj {w X Y X' Y' : Nat} (hX : X < w) (hX' : X' < w) (h : Y * w + X = Y' * w + X') : X = X' ∧ Y = Y' := by
  have d1 : (Y' * w + X') / w = Y' := by rw [Nat.mul_comm, Nat.mul_add_div (by omega), Nat.div_eq_of_lt hX']; omega
  have d2 : (Y * w + X) / w = Y := by rw [Nat.mul_comm, Nat.mul_add_div (by omega), Nat.div_eq_of_lt hX]; omega
  rw [h, d1] at d2
  subst d2
  omega
def inT (w h : Nat) (x y : Int) : Prop := 0 ≤ x ∧ x < w ∧ 0 ≤ y ∧ y < h
instance (w h : Nat) (x y : Int) : Decidable (inT w h x y) := by unfold inT; infer_instance
theorem has_c {W : World} {B A L w h D : Nat} {nd : Nat → Nat} {u : Int} {Q : Nat → Nat → Nat → Nd} (H : Tr W B A L nd w h D u Q) (x y : Int) : Calls Try.prog 60 #[.pointer (some ⟨A, 0, none⟩), .int .i64 x, .int .i64 y] W fun e w' => e = .returned (.bool (decide (inT w h x y))) ∧ Below W.heap.size W w' := by
  obtain ⟨c0, ⟨m, c1⟩, c2⟩ := H.cells
  obtain ⟨l0, l1, m2, l2⟩ := H.level (k := 0) (by have := H.d1; omega)
  have hd : 0 < D := H.d1
  have hdI : (0 : Int) < (D : Int) := by omega
  rw [Nat.zero_mul] at l0 l1 l2
  have hA := below_alloc (Below.refl _ W) (.cells #[.int .i64 (dm w 0 : Int), .int .i64 (dm h 0 : Int), .slice (some ⟨nd 0, 0, none⟩) (dm w 0 * dm h 0) m2] 94)
  have HA := Lib.hid hA
  have e0 : dm w 0 = w := rfl
  have e1 : dm h 0 = h := rfl
  have HE := Lib.hid (And.intro e0 e1)
  clear hA e0 e1
  generalize dm w 0 * dm h 0 = z at *
  generalize dm w 0 = w0 at *
  generalize dm h 0 = h0 at *
  obtain ⟨rfl, rfl⟩ := HE.out
  clear HE
  have hc : inT w0 h0 x y ∨ ¬ (0 ≤ x) ∨ (0 ≤ x ∧ ¬ x < w0) ∨ (0 ≤ x ∧ x < w0 ∧ ¬ 0 ≤ y) ∨ (0 ≤ x ∧ x < w0 ∧ 0 ≤ y ∧ ¬ y < h0) := by unfold inT; omega
  clear H
  rcases hc with hc | hc | hc | hc | hc
  · obtain ⟨i1, i2, i3, i4⟩ := id hc
    rw [decide_eq_true hc]
    clear hc
    go_enter Try.func60, Try.ntmps60
    go_wp2_with fail
    go_ret
    exact ⟨rfl, HA.out⟩
  all_goals
    rw [decide_eq_false (by unfold inT; omega)]
  · go_enter Try.func60, Try.ntmps60
    go_wp2_with fail
    go_ret
    exact ⟨rfl, HA.out⟩
  · obtain ⟨i1, i2⟩ := hc
    go_enter Try.func60, Try.ntmps60
    go_wp2_with fail
    go_ret
    exact ⟨rfl, HA.out⟩
  · obtain ⟨i1, i2, i3⟩ := hc
    go_enter Try.func60, Try.ntmps60
    go_wp2_with fail
    go_ret
    exact ⟨rfl, HA.out⟩
  · obtain ⟨i1, i2, i3, i4⟩ := hc
    go_enter Try.func60, Try.ntmps60
    go_wp2_with fail
    go_ret
    exact ⟨by first | rfl | simpa using i4, HA.out⟩
theorem cast_pow (x k : Nat) : (x : Int) / 2 ^ k = ((x / 2 ^ k : Nat) : Int) := by simp
theorem on_c {W : World} {B A L w h D : Nat} {nd : Nat → Nat} {u : Int} {Q : Nat → Nat → Nat → Nd} (H : Tr W B A L nd w h D u Q) (k x y : Nat) (hk : k < D) (hx : x < w) (hy : y < h) (i : Nat) (hi : i = y / 2 ^ k * dm w k + x / 2 ^ k) : Calls Try.prog 61 #[.pointer (some ⟨A, 0, none⟩), .int .i64 (k : Int), .int .i64 (x : Int), .int .i64 (y : Int)] W fun e w' => e = .returned (.pointer (some ⟨nd k, i * 3, none⟩)) ∧ Below W.heap.size W w' := by
  subst hi
  obtain ⟨c0, ⟨m, c1⟩, c2⟩ := H.cells
  obtain ⟨l0, l1, m2, l2⟩ := H.level hk
  obtain ⟨d1, d2, d3, d4, d5⟩ := H.dims k
  have hX := dm_at hx k
  have hY := dm_at hy k
  have hi := grid_lt hX hY
  have hk17 : k ≤ 17 := by have := H.d2; omega
  have px := cast_pow x k
  have py := cast_pow y k
  have hw1 := H.ws
  generalize x / 2 ^ k = X at *
  generalize y / 2 ^ k = Y at *
  have hYw : Y * dm w k ≤ 65536 := by omega
  have p1 : IntKind.i64.wrap ((Y : Int) * ((dm w k : Nat) : Int)) = ((Y * dm w k : Nat) : Int) := by rw [← Int.natCast_mul, IntWalk.i64_left]; generalize Y * dm w k = P at *; unfold wrap64; omega
  have p2 : IntKind.i64.wrap (((Y * dm w k : Nat) : Int) + (X : Int)) = ((Y * dm w k + X : Nat) : Int) := by rw [IntWalk.i64_left]; generalize Y * dm w k = P at *; unfold wrap64; omega
  have B1 := Lib.hid (below_alloc (Below.refl _ W) (.cells #[.int .i64 (dm w k : Int), .int .i64 (dm h k : Int), .slice (some ⟨nd k, 0, none⟩) (dm w k * dm h k) m2] 94))
  have hiI : ((Y * dm w k + X : Nat) : Int) < ((dm w k * dm h k : Nat) : Int) := by omega
  generalize Y * dm w k + X = i at *
  generalize Y * dm w k = P at *
  generalize dm w k * dm h k = N at *
  generalize dm w k = wk at *
  generalize dm h k = hkk at *
  clear H hx hy hX hY
  go_enter Try.func61, Try.ntmps61
  go_wp2_with fail
  go_quiet (fail)
  go_wp2_with fail
  go_ret
  exact ⟨rfl, below_call B1.out (drewN_below _ nq)⟩
theorem Tr.at {W : World} {B A L w h D : Nat} {nd : Nat → Nat} {u : Int} {Q : Nat → Nat → Nat → Nd} (H : Tr W B A L nd w h D u Q) {k x y : Nat} (hk : k < D) (hx : x < w) (hy : y < h) {i : Nat} (hi : i = y / 2 ^ k * dm w k + x / 2 ^ k) :
    W.cell? ⟨nd k, i * 3, none⟩ = some (.int .i64 (Q k (x / 2 ^ k) (y / 2 ^ k)).v) ∧ W.cell? ⟨nd k, i * 3 + 1, none⟩ = some (.int .i64 (Q k (x / 2 ^ k) (y / 2 ^ k)).l) ∧ W.cell? ⟨nd k, i * 3 + 2, none⟩ = some (.bool (Q k (x / 2 ^ k) (y / 2 ^ k)).b) := by
  subst hi
  exact H.node hk (dm_at hx k) (dm_at hy k)
/-- What Value returns. -/
def vlV (w h : Nat) (Q : Nat → Nat → Nat → Nd) (x y : Int) : Int := if inT w h x y ∧ (Q 0 x.toNat y.toNat).b = true then (Q 0 x.toNat y.toNat).l else 0
def vlB (w h : Nat) (Q : Nat → Nat → Nat → Nd) (x y : Int) : Bool := decide (inT w h x y) && (Q 0 x.toNat y.toNat).b
theorem value_c {W : World} {B A L w h D : Nat} {nd : Nat → Nat} {u : Int} {Q : Nat → Nat → Nat → Nd} (H : Tr W B A L nd w h D u Q) (x y : Int) : Calls Try.prog 37 #[.pointer (some ⟨A, 0, none⟩), .int .i64 x, .int .i64 y] W fun e w' => e = .returned (.tuple #[.int .i64 (vlV w h Q x y), .bool (vlB w h Q x y)]) ∧ Below W.heap.size W w' := by
  have tm := tmade_y A W H.cells.1
  have hc := has_c H x y
  unfold vlV vlB
  by_cases hin : inT w h x y
  · rw [decide_eq_true hin] at hc ⊢
    obtain ⟨i1, i2, i3, i4⟩ := id hin
    obtain ⟨x0, rfl⟩ : ∃ n : Nat, x = n := ⟨x.toNat, by omega⟩
    obtain ⟨y0, rfl⟩ : ∃ n : Nat, y = n := ⟨y.toNat, by omega⟩
    have hon := fun (X : World) (hX : Below W.heap.size W X) => on_c (H.below hX) 0 x0 y0 (by have := H.d1; omega) (by omega) (by omega) _ rfl
    have hat := fun (X : World) (hX : Below W.heap.size W X) => (H.below hX).at (k := 0) (x := x0) (y := y0) (by have := H.d1; omega) (by omega) (by omega) rfl
    rw [show (Int.toNat (x0 : Int)) = x0 by omega, show (Int.toNat (y0 : Int)) = y0 by omega]
    simp only [Nat.pow_zero, Nat.div_one, Bool.true_and] at hon hat ⊢
    generalize y0 * dm w 0 + x0 = i at *
    cases hb : (Q 0 x0 y0).b with
    | false =>
      simp only [hb] at hat
      rw [if_neg (by simp)]
      have HON := Lib.hid hon
      have HAT := Lib.hid hat
      clear hon hat hb hin H
      go_enter Try.func37, Try.ntmps37
      go_wp2_with (first | (go_at_call 59; (with_reducible refine tm.mono ?_); rintro e wn ⟨rfl, rfl⟩))
      refine hc.mono ?_
      rintro e w1 ⟨rfl, hb1⟩
      have h1 := HON.out w1 hb1
      have B1 := Lib.hid hb1
      clear hb1 hc tm
      go_wp2_with fail
      refine h1.mono ?_
      rintro e w2 ⟨rfl, hb2⟩
      have B2 := Lib.hid (below_call B1.out hb2)
      obtain ⟨a1, a2, a3⟩ := HAT.out w2 B2.out
      clear h1 hb2
      go_wp2_with fail
      go_ret2
      exact ⟨rfl, B2.out⟩
    | true =>
      simp only [hb] at hat
      rw [if_pos ⟨hin, rfl⟩]
      have HON := Lib.hid hon
      have HAT := Lib.hid hat
      clear hon hat hb hin H
      go_enter Try.func37, Try.ntmps37
      go_wp2_with (first | (go_at_call 59; (with_reducible refine tm.mono ?_); rintro e wn ⟨rfl, rfl⟩))
      refine hc.mono ?_
      rintro e w1 ⟨rfl, hb1⟩
      have h1 := HON.out w1 hb1
      have B1 := Lib.hid hb1
      clear hb1 hc tm
      go_wp2_with fail
      refine h1.mono ?_
      rintro e w2 ⟨rfl, hb2⟩
      have B2 := Lib.hid (below_call B1.out hb2)
      obtain ⟨a1, a2, a3⟩ := HAT.out w2 B2.out
      clear h1 hb2
      go_wp2_with fail
      go_ret2
      exact ⟨rfl, B2.out⟩
  · rw [decide_eq_false hin] at hc ⊢
    rw [if_neg (fun c => hin c.1), Bool.false_and]
    clear hin H
    go_enter Try.func37, Try.ntmps37
    go_wp2_with (first | (go_at_call 59; (with_reducible refine tm.mono ?_); rintro e wn ⟨rfl, rfl⟩))
    refine hc.mono ?_
    rintro e w1 ⟨rfl, hb1⟩
    have B1 := Lib.hid hb1
    clear hb1 hc tm
    go_wp2_with fail
    go_ret2
    exact ⟨rfl, B1.out⟩
end Go.Proofs.Ytaddendclipkkaa
