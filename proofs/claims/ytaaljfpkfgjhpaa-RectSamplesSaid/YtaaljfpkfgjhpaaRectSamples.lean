/-
  For all rectangles r, all four bytes d and all points p the statement RectSamples returns true, and its arguments read afterwards as before.
  Conditions: none beyond those of the given statement.
-/
import Derived.Test.YtaaljfpkfgjhpaaFrame
import Derived.Test.YtaaljfpkfgjhpaaRectX
import Derived.Test.YtaaljfpkfgjhpaaMore
import Derived.Test.YtaaljfpkfgjhpaaIn
namespace Go.Proofs.Ytaaljfpkfgjhpaa.rectSamples
open Go.ChangeShapes Go.WideShapes Go.ChangeAt Go.RowKit Go.Joins Go.Deep

structure StS0 (a b c d x y : Int) (w W : World) : Prop where
  below : Below w.heap.size w W
  le : w.heap.size ≤ W.heap.size
  b0 : Box W (w.heap.size) ⟨a, b, c, d⟩
  b1 : PBox W (w.heap.size + 1 + 1) x y
theorem StS0.step {a b c d x y : Int} {w W W1 : World} (h : StS0 a b c d x y w W) (hb : Below W.heap.size W W1) : StS0 a b c d x y w W1 :=
  ⟨bcall h.below hb h.le, Nat.le_trans h.le hb.size, h.b0.below hb, h.b1.below hb⟩
theorem StS0.open {a b c d x y : Int} {w W : World} (h : StS0 a b c d x y w W) : W.cell? ⟨w.heap.size, 0, none⟩ = some (.int .i64 a) ∧ W.cell? ⟨w.heap.size, 1, none⟩ = some (.int .i64 b) ∧ W.cell? ⟨w.heap.size, 2, none⟩ = some (.int .i64 c) ∧ W.cell? ⟨w.heap.size, 3, none⟩ = some (.int .i64 d) ∧ W.cell? ⟨w.heap.size + 1 + 1, 0, none⟩ = some (.int .i64 x) ∧ W.cell? ⟨w.heap.size + 1 + 1, 1, none⟩ = some (.int .i64 y) ∧ StS0 a b c d x y w W := by
  obtain ⟨c00, c01, c02, c03⟩ := h.b0.open
  exact ⟨c00, c01, c02, c03, h.b1.c0, h.b1.c1, h⟩
theorem StS0.go {a b c d x y : Int} {w W W1 : World} (h : W.cell? ⟨w.heap.size, 0, none⟩ = some (.int .i64 a) ∧ W.cell? ⟨w.heap.size, 1, none⟩ = some (.int .i64 b) ∧ W.cell? ⟨w.heap.size, 2, none⟩ = some (.int .i64 c) ∧ W.cell? ⟨w.heap.size, 3, none⟩ = some (.int .i64 d) ∧ W.cell? ⟨w.heap.size + 1 + 1, 0, none⟩ = some (.int .i64 x) ∧ W.cell? ⟨w.heap.size + 1 + 1, 1, none⟩ = some (.int .i64 y) ∧ StS0 a b c d x y w W) (hb : Below W.heap.size W W1) : W1.cell? ⟨w.heap.size, 0, none⟩ = some (.int .i64 a) ∧ W1.cell? ⟨w.heap.size, 1, none⟩ = some (.int .i64 b) ∧ W1.cell? ⟨w.heap.size, 2, none⟩ = some (.int .i64 c) ∧ W1.cell? ⟨w.heap.size, 3, none⟩ = some (.int .i64 d) ∧ W1.cell? ⟨w.heap.size + 1 + 1, 0, none⟩ = some (.int .i64 x) ∧ W1.cell? ⟨w.heap.size + 1 + 1, 1, none⟩ = some (.int .i64 y) ∧ StS0 a b c d x y w W1 := (h.2.2.2.2.2.2.step hb).open
structure StS0F (a b c d x y : Int) (w : World) where
  W : World
  ok : StS0 a b c d x y w W
structure StS (a b c d x y d0 d1 : Int) (cb : Nat) (w W : World) : Prop where
  below : Below w.heap.size w W
  le : w.heap.size ≤ W.heap.size
  b0 : Box W (w.heap.size) ⟨a, b, c, d⟩
  b1 : PBox W (w.heap.size + 1 + 1) x y
  b2 : Box W (cb) (Pl.redR a b c d (d0 % 64 + 1) (d1 % 64 + 1))
theorem StS.step {a b c d x y d0 d1 : Int} {cb : Nat} {w W W1 : World} (h : StS a b c d x y d0 d1 cb w W) (hb : Below W.heap.size W W1) : StS a b c d x y d0 d1 cb w W1 :=
  ⟨bcall h.below hb h.le, Nat.le_trans h.le hb.size, h.b0.below hb, h.b1.below hb, h.b2.below hb⟩
theorem StS.open {a b c d x y d0 d1 : Int} {cb : Nat} {w W : World} (h : StS a b c d x y d0 d1 cb w W) : W.cell? ⟨w.heap.size, 0, none⟩ = some (.int .i64 a) ∧ W.cell? ⟨w.heap.size, 1, none⟩ = some (.int .i64 b) ∧ W.cell? ⟨w.heap.size, 2, none⟩ = some (.int .i64 c) ∧ W.cell? ⟨w.heap.size, 3, none⟩ = some (.int .i64 d) ∧ W.cell? ⟨w.heap.size + 1 + 1, 0, none⟩ = some (.int .i64 x) ∧ W.cell? ⟨w.heap.size + 1 + 1, 1, none⟩ = some (.int .i64 y) ∧ W.cell? ⟨cb, 0, none⟩ = some (.int .i64 (Pl.redR a b c d (d0 % 64 + 1) (d1 % 64 + 1)).x0) ∧ W.cell? ⟨cb, 1, none⟩ = some (.int .i64 (Pl.redR a b c d (d0 % 64 + 1) (d1 % 64 + 1)).y0) ∧ W.cell? ⟨cb, 2, none⟩ = some (.int .i64 (Pl.redR a b c d (d0 % 64 + 1) (d1 % 64 + 1)).x1) ∧ W.cell? ⟨cb, 3, none⟩ = some (.int .i64 (Pl.redR a b c d (d0 % 64 + 1) (d1 % 64 + 1)).y1) ∧ StS a b c d x y d0 d1 cb w W := by
  obtain ⟨c00, c01, c02, c03⟩ := h.b0.open
  obtain ⟨c20, c21, c22, c23⟩ := h.b2.open
  exact ⟨c00, c01, c02, c03, h.b1.c0, h.b1.c1, c20, c21, c22, c23, h⟩
theorem StS.go {a b c d x y d0 d1 : Int} {cb : Nat} {w W W1 : World} (h : W.cell? ⟨w.heap.size, 0, none⟩ = some (.int .i64 a) ∧ W.cell? ⟨w.heap.size, 1, none⟩ = some (.int .i64 b) ∧ W.cell? ⟨w.heap.size, 2, none⟩ = some (.int .i64 c) ∧ W.cell? ⟨w.heap.size, 3, none⟩ = some (.int .i64 d) ∧ W.cell? ⟨w.heap.size + 1 + 1, 0, none⟩ = some (.int .i64 x) ∧ W.cell? ⟨w.heap.size + 1 + 1, 1, none⟩ = some (.int .i64 y) ∧ W.cell? ⟨cb, 0, none⟩ = some (.int .i64 (Pl.redR a b c d (d0 % 64 + 1) (d1 % 64 + 1)).x0) ∧ W.cell? ⟨cb, 1, none⟩ = some (.int .i64 (Pl.redR a b c d (d0 % 64 + 1) (d1 % 64 + 1)).y0) ∧ W.cell? ⟨cb, 2, none⟩ = some (.int .i64 (Pl.redR a b c d (d0 % 64 + 1) (d1 % 64 + 1)).x1) ∧ W.cell? ⟨cb, 3, none⟩ = some (.int .i64 (Pl.redR a b c d (d0 % 64 + 1) (d1 % 64 + 1)).y1) ∧ StS a b c d x y d0 d1 cb w W) (hb : Below W.heap.size W W1) : W1.cell? ⟨w.heap.size, 0, none⟩ = some (.int .i64 a) ∧ W1.cell? ⟨w.heap.size, 1, none⟩ = some (.int .i64 b) ∧ W1.cell? ⟨w.heap.size, 2, none⟩ = some (.int .i64 c) ∧ W1.cell? ⟨w.heap.size, 3, none⟩ = some (.int .i64 d) ∧ W1.cell? ⟨w.heap.size + 1 + 1, 0, none⟩ = some (.int .i64 x) ∧ W1.cell? ⟨w.heap.size + 1 + 1, 1, none⟩ = some (.int .i64 y) ∧ W1.cell? ⟨cb, 0, none⟩ = some (.int .i64 (Pl.redR a b c d (d0 % 64 + 1) (d1 % 64 + 1)).x0) ∧ W1.cell? ⟨cb, 1, none⟩ = some (.int .i64 (Pl.redR a b c d (d0 % 64 + 1) (d1 % 64 + 1)).y0) ∧ W1.cell? ⟨cb, 2, none⟩ = some (.int .i64 (Pl.redR a b c d (d0 % 64 + 1) (d1 % 64 + 1)).x1) ∧ W1.cell? ⟨cb, 3, none⟩ = some (.int .i64 (Pl.redR a b c d (d0 % 64 + 1) (d1 % 64 + 1)).y1) ∧ StS a b c d x y d0 d1 cb w W1 := (h.2.2.2.2.2.2.2.2.2.2.step hb).open
structure StSF (a b c d x y d0 d1 : Int) (cb : Nat) (w : World) where
  W : World
  ok : StS a b c d x y d0 d1 cb w W
theorem cells43 : Try.prog.cellsOf 43 = 4 := by kernel_rfl
theorem cells5 : Try.prog.cellsOf 5 = 1 := by kernel_rfl
/-- Four bytes by value. -/
theorem open_u8x4 {H : Type} {enc : TypeId × Value → H} {w : World} {r : Reach} {b0 base : Nat} {spare : Nat → Bool} {held : Bool} {v : Value} {d : DataW H} {p : List MemPlace}
    (hv : Value.okWide Try.prog w r b0 43 v) (h : DataW.Trod enc Try.prog w base spare held 43 v d p) :
    ∃ a b c d' : Int, v = .agg #[.int .u8 a, .int .u8 b, .int .u8 c, .int .u8 d'] ∧ (Lit.int .u8 a).wf = true ∧ (Lit.int .u8 b).wf = true ∧ (Lit.int .u8 c).wf = true ∧ (Lit.int .u8 d').wf = true := by
  obtain ⟨cs, rfl, hsz⟩ : ∃ cs : Array Value, v = .agg cs ∧ cs.size = Try.prog.cellsOf 43 := by
    simp only [Value.okWide, Try.underlying43] at hv
    obtain ⟨cs, h1, h2, _⟩ := hv
    exact ⟨cs, h1, h2⟩
  obtain ⟨c0, c1, c2, c3, rfl⟩ := array4 (hsz.trans cells43)
  obtain ⟨fuel, hf⟩ := h
  obtain ⟨xs, m, _, _, _, hl, hi⟩ := DataW.trod_array Try.underlying43 hf
  rw [cells5] at hi
  match xs, hl with
  | [z0, z1, z2, z3], _ =>
    obtain ⟨a, e0, _, wa⟩ := DataW.trod_int Try.underlying5 (hi 0 (by omega))
    obtain ⟨b, e1, _, wb⟩ := DataW.trod_int Try.underlying5 (hi 1 (by omega))
    obtain ⟨c, e2, _, wc⟩ := DataW.trod_int Try.underlying5 (hi 2 (by omega))
    obtain ⟨d', e3, _, wd⟩ := DataW.trod_int Try.underlying5 (hi 3 (by omega))
    simp [Value.cells] at e0 e1 e2 e3
    subst e0 e1 e2 e3
    exact ⟨a, b, c, d', rfl, wa, wb, wc, wd⟩
theorem prod_ok {x D m n : Int} (h0 : 0 ≤ x) (h1 : x ≤ m) (h2 : 0 ≤ D) (h3 : D ≤ n) (hm : m ≤ 4096) (hn : n ≤ 4096) : IntKind.i64.wrap (x * D) = x * D ∧ wrap64 (x * D) = x * D ∧ 0 ≤ x * D ∧ x * D ≤ m * n := by
  have p0 : 0 ≤ x * D := Int.mul_nonneg h0 h2
  have p1 : x * D ≤ m * n := Int.le_trans (Int.mul_le_mul_of_nonneg_right h1 h2) (Int.mul_le_mul_of_nonneg_left h3 (by omega))
  have p2 : m * n ≤ 4096 * 4096 := Int.le_trans (Int.mul_le_mul_of_nonneg_right hm (by omega)) (Int.mul_le_mul_of_nonneg_left hn (by omega))
  exact ⟨IntWalk.i64_in _ (by omega), IntWalk.wrap64_in _ ⟨by omega, by omega⟩, p0, p1⟩
set_option maxRecDepth 100000 in
set_option maxHeartbeats 1000000 in
theorem walk_invalid (a b c d x y d0 d1 d2 d3 : Int) (b0 : 0 ≤ d0 ∧ d0 ≤ 255) (b1 : 0 ≤ d1 ∧ d1 ≤ 255) (b2 : 0 ≤ d2 ∧ d2 ≤ 255) (b3 : 0 ≤ d3 ∧ d3 ≤ 255) (w : World) (hv : Pl.validB a b c d = false) :
    Calls Try.prog 11 #[.agg #[.int .i64 a, .int .i64 b, .int .i64 c, .int .i64 d], .agg #[.int .u8 d0, .int .u8 d1, .int .u8 d2, .int .u8 d3], .agg #[.int .i64 x, .int .i64 y]] w fun e w' => e = .returned (.bool true) ∧ Below w.heap.size w w' := by
  obtain ⟨l0, u0⟩ := b0
  obtain ⟨l1, u1⟩ := b1
  obtain ⟨l2, u2⟩ := b2
  obtain ⟨l3, u3⟩ := b3
  go_enter Try.func11, Try.ntmps11
  go_wp2_with fail
  go_quiet (fail)
  go_wp2_with fail
  refine (valid_r _ _ _ _ _).mono ?_
  rintro e w1 ⟨rfl, hb1⟩
  have z1 := hb1.size
  simp at z1
  have x1 := (((Box.fresh w a b c d 26).alloc #[.int .u8 d0, .int .u8 d1, .int .u8 d2, .int .u8 d3] 43).alloc #[.int .i64 x, .int .i64 y] 28)
  have p1 := PBox.freshAt ((w.alloc (.cells #[.int .i64 a, .int .i64 b, .int .i64 c, .int .i64 d] 26)).alloc (.cells #[.int .u8 d0, .int .u8 d1, .int .u8 d2, .int .u8 d3] 43)) (w.heap.size + 1 + 1) (by simp) x y 28
  have B1 : Below w.heap.size w w1 := bcall (below_drewN ((((Below.refl _ _).alloc (Nat.le_refl _) _).alloc (by simp) _).alloc (by simp; omega) _) _) hb1 (by simp; omega)
  have hS0 : StS0 a b c d x y w w1 := ⟨B1, by omega, (x1.belowAt (below_drewN (Below.refl _ _) _) x1.lt).below hb1, ⟨(hb1.cell (p := ⟨_, _, none⟩) (by simp)).trans p1.c0, (hb1.cell (p := ⟨_, _, none⟩) (by simp)).trans p1.c1, by have := p1.lt; simp at this; omega⟩⟩
  clear hb1 x1 p1 B1
  obtain ⟨c0, c1, c2, c3, q0, q1, _⟩ := hS0.open
  go_wp2_with fail
  refine (example_c _).mono ?_
  rintro e w2 ⟨rfl, hb2⟩
  go_wp2
  go_ret
  exact ⟨rfl, (hS0.step hb2).below⟩
set_option maxRecDepth 100000 in
set_option maxHeartbeats 2000000 in
theorem walk_out (a b c d x y d0 d1 d2 d3 : Int) (b0 : 0 ≤ d0 ∧ d0 ≤ 255) (b1 : 0 ≤ d1 ∧ d1 ≤ 255) (b2 : 0 ≤ d2 ∧ d2 ≤ 255) (b3 : 0 ≤ d3 ∧ d3 ≤ 255) (w : World) (hv : Pl.validB a b c d = true) (hp : x < 0 ∨ 4096 < x ∨ y < 0 ∨ 4096 < y) :
    Calls Try.prog 11 #[.agg #[.int .i64 a, .int .i64 b, .int .i64 c, .int .i64 d], .agg #[.int .u8 d0, .int .u8 d1, .int .u8 d2, .int .u8 d3], .agg #[.int .i64 x, .int .i64 y]] w fun e w' => e = .returned (.bool true) ∧ Below w.heap.size w w' := by
  obtain ⟨l0, u0⟩ := b0
  obtain ⟨l1, u1⟩ := b1
  obtain ⟨l2, u2⟩ := b2
  obtain ⟨l3, u3⟩ := b3
  rcases hp with hp | hp | hp | hp
  all_goals
    go_enter Try.func11, Try.ntmps11
    go_wp2_with fail
    go_quiet (fail)
    go_wp2_with fail
    refine (valid_r _ _ _ _ _).mono ?_
    rintro e w1 ⟨rfl, hb1⟩
    have z1 := hb1.size
    simp at z1
    have x1 := (((Box.fresh w a b c d 26).alloc #[.int .u8 d0, .int .u8 d1, .int .u8 d2, .int .u8 d3] 43).alloc #[.int .i64 x, .int .i64 y] 28)
    have p1 := PBox.freshAt ((w.alloc (.cells #[.int .i64 a, .int .i64 b, .int .i64 c, .int .i64 d] 26)).alloc (.cells #[.int .u8 d0, .int .u8 d1, .int .u8 d2, .int .u8 d3] 43)) (w.heap.size + 1 + 1) (by simp) x y 28
    have B1 : Below w.heap.size w w1 := bcall (below_drewN ((((Below.refl _ _).alloc (Nat.le_refl _) _).alloc (by simp) _).alloc (by simp; omega) _) _) hb1 (by simp; omega)
    have hS0 : StS0 a b c d x y w w1 := ⟨B1, by omega, (x1.belowAt (below_drewN (Below.refl _ _) _) x1.lt).below hb1, ⟨(hb1.cell (p := ⟨_, _, none⟩) (by simp)).trans p1.c0, (hb1.cell (p := ⟨_, _, none⟩) (by simp)).trans p1.c1, by have := p1.lt; simp at this; omega⟩⟩
    clear hb1 x1 p1 B1
    obtain ⟨c0, c1, c2, c3, q0, q1, _⟩ := hS0.open
    go_wp2_with fail
    all_goals
      refine (example_c _).mono ?_
      rintro e w2 ⟨rfl, hb2⟩
      go_wp2
      go_ret
      exact ⟨rfl, (hS0.step hb2).below⟩
set_option maxRecDepth 100000 in
set_option maxHeartbeats 4000000 in
theorem walk_in (a b c d x y d0 d1 d2 d3 : Int) (b0 : 0 ≤ d0 ∧ d0 ≤ 255) (b1 : 0 ≤ d1 ∧ d1 ≤ 255) (b2 : 0 ≤ d2 ∧ d2 ≤ 255) (b3 : 0 ≤ d3 ∧ d3 ≤ 255) (w : World) (hv : Pl.validB a b c d = true) (x0 : 0 ≤ x) (x4 : x ≤ 4096) (y0 : 0 ≤ y) (y4 : y ≤ 4096) :
    Calls Try.prog 11 #[.agg #[.int .i64 a, .int .i64 b, .int .i64 c, .int .i64 d], .agg #[.int .u8 d0, .int .u8 d1, .int .u8 d2, .int .u8 d3], .agg #[.int .i64 x, .int .i64 y]] w fun e w' => e = .returned (.bool true) ∧ Below w.heap.size w w' := by
  obtain ⟨l0, u0⟩ := b0
  obtain ⟨l1, u1⟩ := b1
  obtain ⟨l2, u2⟩ := b2
  obtain ⟨l3, u3⟩ := b3
  have heq := eqR
  have hself := Pl.eq_self
  have hdx : Pl.divB (d0 % 64 + 1) = true := Pl.div_iff.2 (by omega)
  have hdy : Pl.divB (d1 % 64 + 1) = true := Pl.div_iff.2 (by omega)
  have hex : Pl.divB (d2 % 64 + 1) = true := Pl.div_iff.2 (by omega)
  have hey : Pl.divB (d3 % 64 + 1) = true := Pl.div_iff.2 (by omega)
  obtain ⟨r1, r1', _, _⟩ := prod_ok (x := x) (D := (d0 % 64 + 1)) (m := 4096) (n := 64) x0 x4 (by omega) (by omega) (by omega) (by omega)
  obtain ⟨r2, r2', _, _⟩ := prod_ok (x := y) (D := (d1 % 64 + 1)) (m := 4096) (n := 64) y0 y4 (by omega) (by omega) (by omega) (by omega)
  obtain ⟨r3, r3', _, t3⟩ := prod_ok (x := (d0 % 64 + 1)) (D := (d2 % 64 + 1)) (m := 64) (n := 64) (by omega) (by omega) (by omega) (by omega) (by omega) (by omega)
  obtain ⟨r4, r4', _, t4⟩ := prod_ok (x := (d1 % 64 + 1)) (D := (d3 % 64 + 1)) (m := 64) (n := 64) (by omega) (by omega) (by omega) (by omega) (by omega) (by omega)
  have hred := Pl.has_red (x := x) (y := y) hv hdx hdy
  have hrr := Pl.red_red hv hdx hdy hex hey (by omega) (by omega)
  clear hdx hdy hex hey
  go_enter Try.func11, Try.ntmps11
  go_wp2_with fail
  go_quiet (fail)
  go_wp2_with fail
  refine (valid_r _ _ _ _ _).mono ?_
  rintro e w1 ⟨rfl, hb1⟩
  have z1 := hb1.size
  simp at z1
  have x1 := (((Box.fresh w a b c d 26).alloc #[.int .u8 d0, .int .u8 d1, .int .u8 d2, .int .u8 d3] 43).alloc #[.int .i64 x, .int .i64 y] 28)
  have p1 := PBox.freshAt ((w.alloc (.cells #[.int .i64 a, .int .i64 b, .int .i64 c, .int .i64 d] 26)).alloc (.cells #[.int .u8 d0, .int .u8 d1, .int .u8 d2, .int .u8 d3] 43)) (w.heap.size + 1 + 1) (by simp) x y 28
  have B1 : Below w.heap.size w w1 := bcall (below_drewN ((((Below.refl _ _).alloc (Nat.le_refl _) _).alloc (by simp) _).alloc (by simp; omega) _) _) hb1 (by simp; omega)
  have hS0 : StS0 a b c d x y w w1 := ⟨B1, by omega, (x1.belowAt (below_drewN (Below.refl _ _) _) x1.lt).below hb1, ⟨(hb1.cell (p := ⟨_, _, none⟩) (by simp)).trans p1.c0, (hb1.cell (p := ⟨_, _, none⟩) (by simp)).trans p1.c1, by have := p1.lt; simp at this; omega⟩⟩
  clear hb1 x1 p1 B1
  obtain ⟨c0, c1, c2, c3, q0, q1, _⟩ := hS0.open
  go_wp2_with fail
  refine (red_c _ _ _ _ _ _ _).mono ?_
  rintro e w3 ⟨rfl, hb3⟩
  have hS3 := hS0.step hb3
  have hS : StS a b c d x y d0 d1 w3.heap.size w (w3.alloc (.cells #[.int .i64 (Pl.redR a b c d (d0 % 64 + 1) (d1 % 64 + 1)).x0, .int .i64 (Pl.redR a b c d (d0 % 64 + 1) (d1 % 64 + 1)).y0, .int .i64 (Pl.redR a b c d (d0 % 64 + 1) (d1 % 64 + 1)).x1, .int .i64 (Pl.redR a b c d (d0 % 64 + 1) (d1 % 64 + 1)).y1] 26)) :=
    ⟨hS3.below.alloc hS3.le _, by have := hS3.le; simp; omega, hS3.b0.alloc _ _, hS3.b1.alloc _, Box.freshAt _ _ rfl _ _ _ _ _⟩
  clear hb3 hS3 hS0 c0 c1 c2 c3 q0 q1
  go_wp2_with fail
  have hX : ∀ X : StSF a b c d x y d0 d1 w3.heap.size w, X.W.cell? ⟨w.heap.size, 0, none⟩ = some (.int .i64 a) ∧ X.W.cell? ⟨w.heap.size, 1, none⟩ = some (.int .i64 b) ∧ X.W.cell? ⟨w.heap.size, 2, none⟩ = some (.int .i64 c) ∧ X.W.cell? ⟨w.heap.size, 3, none⟩ = some (.int .i64 d) ∧ X.W.cell? ⟨w.heap.size + 1 + 1, 0, none⟩ = some (.int .i64 x) ∧ X.W.cell? ⟨w.heap.size + 1 + 1, 1, none⟩ = some (.int .i64 y) ∧ X.W.cell? ⟨w3.heap.size, 0, none⟩ = some (.int .i64 (Pl.redR a b c d (d0 % 64 + 1) (d1 % 64 + 1)).x0) ∧ X.W.cell? ⟨w3.heap.size, 1, none⟩ = some (.int .i64 (Pl.redR a b c d (d0 % 64 + 1) (d1 % 64 + 1)).y0) ∧ X.W.cell? ⟨w3.heap.size, 2, none⟩ = some (.int .i64 (Pl.redR a b c d (d0 % 64 + 1) (d1 % 64 + 1)).x1) ∧ X.W.cell? ⟨w3.heap.size, 3, none⟩ = some (.int .i64 (Pl.redR a b c d (d0 % 64 + 1) (d1 % 64 + 1)).y1) ∧ StS a b c d x y d0 d1 w3.heap.size w X.W := fun X => X.ok.open
  simp only [forall_and] at hX
  have hst : ∀ (X : StSF a b c d x y d0 d1 w3.heap.size w) (w' : World), Below X.W.heap.size X.W w' → ∃ Y : StSF a b c d x y d0 d1 w3.heap.size w, w' = Y.W := fun X w' hb => ⟨⟨w', X.ok.step hb⟩, rfl⟩
  have hne : Nonempty (StSF a b c d x y d0 d1 w3.heap.size w) := ⟨⟨_, hS⟩⟩
  obtain ⟨hx0, hx⟩ := hX
  repeat (obtain ⟨_, hx⟩ := hx)
  clear hx
  refine wp_region_in (fun X : StSF a b c d x y d0 d1 w3.heap.size w => X.W) (by kernel_rfl) (by kernel_rfl) ⟨⟨_, hS.step (Below.refl _ _).drew⟩, rfl⟩ ?_
  repeat (first | go_big_quiet_step ((first | (go_at_call 26; exact call_in (has_c _ _ _ _ _ _ _) (hst _)))) | quiet_step ((first | (go_at_call 26; exact call_in (has_c _ _ _ _ _ _ _) (hst _)))))
  refine wpQuiet_nil ?_
  intro _ hw'
  obtain ⟨⟨w4, hS4⟩, hw''⟩ := hw'
  subst hw''
  clear hst hne hS
  have hS := hS4
  clear hS4
  go_wp2_with fail
  have hX : ∀ X : StSF a b c d x y d0 d1 w3.heap.size w, X.W.cell? ⟨w.heap.size, 0, none⟩ = some (.int .i64 a) ∧ X.W.cell? ⟨w.heap.size, 1, none⟩ = some (.int .i64 b) ∧ X.W.cell? ⟨w.heap.size, 2, none⟩ = some (.int .i64 c) ∧ X.W.cell? ⟨w.heap.size, 3, none⟩ = some (.int .i64 d) ∧ X.W.cell? ⟨w.heap.size + 1 + 1, 0, none⟩ = some (.int .i64 x) ∧ X.W.cell? ⟨w.heap.size + 1 + 1, 1, none⟩ = some (.int .i64 y) ∧ X.W.cell? ⟨w3.heap.size, 0, none⟩ = some (.int .i64 (Pl.redR a b c d (d0 % 64 + 1) (d1 % 64 + 1)).x0) ∧ X.W.cell? ⟨w3.heap.size, 1, none⟩ = some (.int .i64 (Pl.redR a b c d (d0 % 64 + 1) (d1 % 64 + 1)).y0) ∧ X.W.cell? ⟨w3.heap.size, 2, none⟩ = some (.int .i64 (Pl.redR a b c d (d0 % 64 + 1) (d1 % 64 + 1)).x1) ∧ X.W.cell? ⟨w3.heap.size, 3, none⟩ = some (.int .i64 (Pl.redR a b c d (d0 % 64 + 1) (d1 % 64 + 1)).y1) ∧ StS a b c d x y d0 d1 w3.heap.size w X.W := fun X => X.ok.open
  simp only [forall_and] at hX
  have hst : ∀ (X : StSF a b c d x y d0 d1 w3.heap.size w) (w' : World), Below X.W.heap.size X.W w' → ∃ Y : StSF a b c d x y d0 d1 w3.heap.size w, w' = Y.W := fun X w' hb => ⟨⟨w', X.ok.step hb⟩, rfl⟩
  have hne : Nonempty (StSF a b c d x y d0 d1 w3.heap.size w) := ⟨⟨_, hS⟩⟩
  obtain ⟨hx0, hx⟩ := hX
  repeat (obtain ⟨_, hx⟩ := hx)
  clear hx
  refine wp_region_in (fun X : StSF a b c d x y d0 d1 w3.heap.size w => X.W) (by kernel_rfl) (by kernel_rfl) ⟨⟨_, hS.step (Below.refl _ _).drew⟩, rfl⟩ ?_
  repeat (first | go_big_quiet_step ((first | (go_at_call 34; exact call_in (red_c _ _ _ _ _ _ _) (hst _)) | (go_at_call 19; exact call_in (example_c _) (hst _)))) | quiet_step ((first | (go_at_call 34; exact call_in (red_c _ _ _ _ _ _ _) (hst _)) | (go_at_call 19; exact call_in (example_c _) (hst _)))))
  refine wpQuiet_nil ?_
  intro _ hw'
  obtain ⟨⟨w5, hS5⟩, hw''⟩ := hw'
  subst hw''
  go_wp2
  go_ret
  exact ⟨rfl, hS5.below⟩
theorem walk (a b c d x y d0 d1 d2 d3 : Int) (b0 : 0 ≤ d0 ∧ d0 ≤ 255) (b1 : 0 ≤ d1 ∧ d1 ≤ 255) (b2 : 0 ≤ d2 ∧ d2 ≤ 255) (b3 : 0 ≤ d3 ∧ d3 ≤ 255) (w : World) :
    Calls Try.prog 11 #[.agg #[.int .i64 a, .int .i64 b, .int .i64 c, .int .i64 d], .agg #[.int .u8 d0, .int .u8 d1, .int .u8 d2, .int .u8 d3], .agg #[.int .i64 x, .int .i64 y]] w fun e w' => e = .returned (.bool true) ∧ Below w.heap.size w w' := by
  by_cases hv : Pl.validB a b c d = true
  · by_cases hp : x < 0 ∨ 4096 < x ∨ y < 0 ∨ 4096 < y
    · exact walk_out a b c d x y d0 d1 d2 d3 b0 b1 b2 b3 w hv hp
    · exact walk_in a b c d x y d0 d1 d2 d3 b0 b1 b2 b3 w hv (by omega) (by omega) (by omega) (by omega)
  · exact walk_invalid a b c d x y d0 d1 d2 d3 b0 b1 b2 b3 w (by simpa using hv)

set_option maxRecDepth 100000 in
theorem lifted (os : Os) (started : os.Started) (H : Type) (enc : TypeId × Value → H) :
    ReturnsInHanded {} Try.checked os 11 .any (Rows.rectSamplesSpec.pre6 enc Try.prog Try.f11 Rows.rectSamplesRow.domain false) (Rows.rectSamplesSpec.post enc Try.prog Try.f11 false true false false) := by
  refine returnsInHanded_of_change (C := Try.checked) own started (by kernel_rfl) Try.func11
    (ChangeSpec.witness6 (enc := enc) (C := Try.checked) false ⟨#[], #[.agg #[.int .i64 0, .int .i64 0, .int .i64 0, .int .i64 0], .agg #[.int .u8 0, .int .u8 0, .int .u8 0, .int .u8 0], .agg #[.int .i64 0, .int .i64 0]], []⟩ 8 (by kernel_rfl) (by kernel_rfl) (by kernel_rfl) (by kernel_rfl)) ?_
  intro W base args ds gs before hval0 hW _ _
  have hval : ∀ (j : Nat) t v, Try.f11.params[j]? = some t → args[j]? = some v → Value.okWide Try.prog W .any base t v := hval0
  have hW' := hW
  obtain ⟨p, q, hA0, hV, rfl, _, _⟩ := hW
  have hA : DataW.TrodAll enc Try.prog W 0 (fun _ => true) true Try.f11.params.toList args.toList ds p := hA0
  rw [Try.params11] at hA hval
  obtain ⟨v0, vs0, d0, ds0, p0, q0, hargs, rfl, rfl, h0, r0⟩ := trodAll_cons hA
  obtain ⟨v1, vs1, d1, ds1, p1, q1, rfl, rfl, rfl, h1, r1⟩ := trodAll_cons r0
  obtain ⟨v2, vs2, d2, ds2, p2, q2, rfl, rfl, rfl, h2, r2⟩ := trodAll_cons r1
  obtain ⟨rfl, rfl, rfl⟩ := trodAll_nil r2
  obtain rfl : args = #[v0, v1, v2] := by cases args; simp_all
  obtain ⟨rfl, rfl⟩ := trodVars_none hV
  clear hA0 hval0
  simp only [List.append_nil] at hW'
  have l0 : ∀ x ∈ p0, x.block < W.heap.size := fun x hx => hW'.lt x (by simp [hx])
  have l1 : ∀ x ∈ p1, x.block < W.heap.size := fun x hx => hW'.lt x (by simp [hx])
  have l2 : ∀ x ∈ p2, x.block < W.heap.size := fun x hx => hW'.lt x (by simp [hx])
  obtain ⟨a, b, c, d, rfl, wa, wb, wc, wd⟩ := open_rect (hval 0 26 v0 rfl rfl) h0
  obtain ⟨d0, d1, d2, d3, rfl, wd0, wd1, wd2, wd3⟩ := open_u8x4 (hval 1 43 v1 rfl rfl) h1
  obtain ⟨x, y, rfl, wx, wy⟩ := open_point (hval 2 28 v2 rfl rfl) h2
  refine (walk a b c d x y d0 d1 d2 d3 (bounds_u8 wd0) (bounds_u8 wd1) (bounds_u8 wd2) (bounds_u8 wd3) W).mono fun e W' ⟨he, hb⟩ => ?_
  subst he
  exact ⟨_, rfl, post_low (pa := p0 ++ (p1 ++ (p2 ++ ([])))) (pv := []) hW' (fun _ _ _ => (trodAll_cons_mk (shut_bool Try.underlying4 _) trodAll_mk0)) (fun sp hsp => (trodAll_cons_mk (trod_low laidOut (by kernel_rfl) (of_decide_eq_true (by kernel_rfl)) h0 hb l0 (fun x hx => hsp x (by simp [hx]))) (trodAll_cons_mk (trod_low laidOut (by kernel_rfl) (of_decide_eq_true (by kernel_rfl)) h1 hb l1 (fun x hx => hsp x (by simp [hx]))) (trodAll_cons_mk (trod_low laidOut (by kernel_rfl) (of_decide_eq_true (by kernel_rfl)) h2 hb l2 (fun x hx => hsp x (by simp [hx]))) trodAll_mk0)))) (fun _ _ => rfl) (by simp) hb (ok_one (by kernel_rfl) rfl (okWide_bool_mk Try.underlying4 _))⟩

theorem over : Rows.rectSamplesRow.holds Try.pinned (OpenSpec.ofChange Rows.rectSamplesSpec) :=
  OpenClaim.holds_of_wide 11 Try.f11 rfl rfl rfl rfl rfl rfl rfl ⟨rfl, rfl, rfl, rfl, rfl⟩ rfl rfl rfl rfl rfl (by kernel_rfl) Try.func11 (by kernel_rfl)
    (of_decide_eq_true (by kernel_rfl)) (by unfold Func.isWrapper; first | (rw [if_pos (by decide +kernel)]; kernel_rfl) | (rw [if_neg (by decide +kernel)]; exact ⟨rfl, rfl⟩))
    (fun os started H enc _ => lifted os started H enc)

theorem proved : Rows.RectSamplesSaid :=
  over
#print axioms proved
end Go.Proofs.Ytaaljfpkfgjhpaa.rectSamples
