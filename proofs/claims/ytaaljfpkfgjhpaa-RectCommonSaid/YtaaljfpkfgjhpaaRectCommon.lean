/-
  For all rectangles a and b and all points p the statement RectCommon returns true, and its arguments read afterwards as before.
  Conditions: none beyond those of the given statement.
-/
import Derived.Test.YtaaljfpkfgjhpaaFrame
import Derived.Test.YtaaljfpkfgjhpaaRectX
import Derived.Test.YtaaljfpkfgjhpaaMore
import Derived.Test.YtaaljfpkfgjhpaaIn
namespace Go.Proofs.Ytaaljfpkfgjhpaa.rectCommon
open Go.ChangeShapes Go.WideShapes Go.ChangeAt Go.RowKit Go.Joins Go.Deep

structure StC (a b c d a' b' c' d' x y : Int) (cb : Nat) (w W : World) : Prop where
  below : Below w.heap.size w W
  le : w.heap.size ≤ W.heap.size
  b0 : Box W (w.heap.size) ⟨a, b, c, d⟩
  b1 : Box W (w.heap.size + 1) ⟨a', b', c', d'⟩
  b2 : PBox W (w.heap.size + 1 + 1) x y
  b3 : Box W (cb) (Pl.isec a b c d a' b' c' d')
theorem StC.step {a b c d a' b' c' d' x y : Int} {cb : Nat} {w W W1 : World} (h : StC a b c d a' b' c' d' x y cb w W) (hb : Below W.heap.size W W1) : StC a b c d a' b' c' d' x y cb w W1 :=
  ⟨bcall h.below hb h.le, Nat.le_trans h.le hb.size, h.b0.below hb, h.b1.below hb, h.b2.below hb, h.b3.below hb⟩
theorem StC.open {a b c d a' b' c' d' x y : Int} {cb : Nat} {w W : World} (h : StC a b c d a' b' c' d' x y cb w W) : W.cell? ⟨w.heap.size, 0, none⟩ = some (.int .i64 a) ∧ W.cell? ⟨w.heap.size, 1, none⟩ = some (.int .i64 b) ∧ W.cell? ⟨w.heap.size, 2, none⟩ = some (.int .i64 c) ∧ W.cell? ⟨w.heap.size, 3, none⟩ = some (.int .i64 d) ∧ W.cell? ⟨w.heap.size + 1, 0, none⟩ = some (.int .i64 a') ∧ W.cell? ⟨w.heap.size + 1, 1, none⟩ = some (.int .i64 b') ∧ W.cell? ⟨w.heap.size + 1, 2, none⟩ = some (.int .i64 c') ∧ W.cell? ⟨w.heap.size + 1, 3, none⟩ = some (.int .i64 d') ∧ W.cell? ⟨w.heap.size + 1 + 1, 0, none⟩ = some (.int .i64 x) ∧ W.cell? ⟨w.heap.size + 1 + 1, 1, none⟩ = some (.int .i64 y) ∧ W.cell? ⟨cb, 0, none⟩ = some (.int .i64 (Pl.isec a b c d a' b' c' d').x0) ∧ W.cell? ⟨cb, 1, none⟩ = some (.int .i64 (Pl.isec a b c d a' b' c' d').y0) ∧ W.cell? ⟨cb, 2, none⟩ = some (.int .i64 (Pl.isec a b c d a' b' c' d').x1) ∧ W.cell? ⟨cb, 3, none⟩ = some (.int .i64 (Pl.isec a b c d a' b' c' d').y1) ∧ StC a b c d a' b' c' d' x y cb w W := by
  obtain ⟨c00, c01, c02, c03⟩ := h.b0.open
  obtain ⟨c10, c11, c12, c13⟩ := h.b1.open
  obtain ⟨c30, c31, c32, c33⟩ := h.b3.open
  exact ⟨c00, c01, c02, c03, c10, c11, c12, c13, h.b2.c0, h.b2.c1, c30, c31, c32, c33, h⟩
theorem StC.go {a b c d a' b' c' d' x y : Int} {cb : Nat} {w W W1 : World} (h : W.cell? ⟨w.heap.size, 0, none⟩ = some (.int .i64 a) ∧ W.cell? ⟨w.heap.size, 1, none⟩ = some (.int .i64 b) ∧ W.cell? ⟨w.heap.size, 2, none⟩ = some (.int .i64 c) ∧ W.cell? ⟨w.heap.size, 3, none⟩ = some (.int .i64 d) ∧ W.cell? ⟨w.heap.size + 1, 0, none⟩ = some (.int .i64 a') ∧ W.cell? ⟨w.heap.size + 1, 1, none⟩ = some (.int .i64 b') ∧ W.cell? ⟨w.heap.size + 1, 2, none⟩ = some (.int .i64 c') ∧ W.cell? ⟨w.heap.size + 1, 3, none⟩ = some (.int .i64 d') ∧ W.cell? ⟨w.heap.size + 1 + 1, 0, none⟩ = some (.int .i64 x) ∧ W.cell? ⟨w.heap.size + 1 + 1, 1, none⟩ = some (.int .i64 y) ∧ W.cell? ⟨cb, 0, none⟩ = some (.int .i64 (Pl.isec a b c d a' b' c' d').x0) ∧ W.cell? ⟨cb, 1, none⟩ = some (.int .i64 (Pl.isec a b c d a' b' c' d').y0) ∧ W.cell? ⟨cb, 2, none⟩ = some (.int .i64 (Pl.isec a b c d a' b' c' d').x1) ∧ W.cell? ⟨cb, 3, none⟩ = some (.int .i64 (Pl.isec a b c d a' b' c' d').y1) ∧ StC a b c d a' b' c' d' x y cb w W) (hb : Below W.heap.size W W1) : W1.cell? ⟨w.heap.size, 0, none⟩ = some (.int .i64 a) ∧ W1.cell? ⟨w.heap.size, 1, none⟩ = some (.int .i64 b) ∧ W1.cell? ⟨w.heap.size, 2, none⟩ = some (.int .i64 c) ∧ W1.cell? ⟨w.heap.size, 3, none⟩ = some (.int .i64 d) ∧ W1.cell? ⟨w.heap.size + 1, 0, none⟩ = some (.int .i64 a') ∧ W1.cell? ⟨w.heap.size + 1, 1, none⟩ = some (.int .i64 b') ∧ W1.cell? ⟨w.heap.size + 1, 2, none⟩ = some (.int .i64 c') ∧ W1.cell? ⟨w.heap.size + 1, 3, none⟩ = some (.int .i64 d') ∧ W1.cell? ⟨w.heap.size + 1 + 1, 0, none⟩ = some (.int .i64 x) ∧ W1.cell? ⟨w.heap.size + 1 + 1, 1, none⟩ = some (.int .i64 y) ∧ W1.cell? ⟨cb, 0, none⟩ = some (.int .i64 (Pl.isec a b c d a' b' c' d').x0) ∧ W1.cell? ⟨cb, 1, none⟩ = some (.int .i64 (Pl.isec a b c d a' b' c' d').y0) ∧ W1.cell? ⟨cb, 2, none⟩ = some (.int .i64 (Pl.isec a b c d a' b' c' d').x1) ∧ W1.cell? ⟨cb, 3, none⟩ = some (.int .i64 (Pl.isec a b c d a' b' c' d').y1) ∧ StC a b c d a' b' c' d' x y cb w W1 := (h.2.2.2.2.2.2.2.2.2.2.2.2.2.2.step hb).open
structure StCF (a b c d a' b' c' d' x y : Int) (cb : Nat) (w : World) where
  W : World
  ok : StC a b c d a' b' c' d' x y cb w W
set_option maxHeartbeats 2000000 in
theorem walk_tt (a b c d a' b' c' d' x y : Int) (w : World) (hu : Pl.hasB a b c d x y = true) (hv : Pl.hasB a' b' c' d' x y = true) :
    Calls Try.prog 9 #[.agg #[.int .i64 a, .int .i64 b, .int .i64 c, .int .i64 d], .agg #[.int .i64 a', .int .i64 b', .int .i64 c', .int .i64 d'], .agg #[.int .i64 x, .int .i64 y]] w fun e w' => e = .returned (.bool true) ∧ Below w.heap.size w w' := by
  have heq := eqR
  have hself := Pl.eq_self
  have hI : Pl.hasB (Pl.isec a b c d a' b' c' d').x0 (Pl.isec a b c d a' b' c' d').y0 (Pl.isec a b c d a' b' c' d').x1 (Pl.isec a b c d a' b' c' d').y1 x y = true := by rw [Pl.has_isec, hu, hv]; rfl
  have hcm := Pl.isec_comm a b c d a' b' c' d'
  have hl := Pl.cont_isec_l a b c d a' b' c' d'
  have hr := Pl.cont_isec_r a b c d a' b' c' d'
  go_enter Try.func9, Try.ntmps9
  go_wp2_with fail
  refine (isec_c _ _ _ _ _ _ _ _ _).mono ?_
  rintro e w1 ⟨rfl, hb1⟩
  have z1 := hb1.size
  simp at z1
  have hS : StC a b c d a' b' c' d' x y w1.heap.size w (w1.alloc (.cells #[.int .i64 (Pl.isec a b c d a' b' c' d').x0, .int .i64 (Pl.isec a b c d a' b' c' d').y0, .int .i64 (Pl.isec a b c d a' b' c' d').x1, .int .i64 (Pl.isec a b c d a' b' c' d').y1] 26)) :=
    ⟨(bcall ((((Below.refl _ _).alloc (Nat.le_refl _) _).alloc (by simp) _).alloc (by simp; omega) _) hb1 (by simp; omega)).alloc (by omega) _, by simp; omega,
     (((Box.fresh w a b c d _).alloc _ _).alloc _ _).below hb1 |>.alloc _ _, ((Box.freshAt _ _ (by simp) a' b' c' d' _).alloc _ _).below hb1 |>.alloc _ _, (PBox.freshAt _ _ (by simp) x y _).below hb1 |>.alloc _, Box.freshAt _ _ rfl _ _ _ _ _⟩
  clear hb1
  go_wp2_with fail
  have hX : ∀ X : StCF a b c d a' b' c' d' x y w1.heap.size w, X.W.cell? ⟨w.heap.size, 0, none⟩ = some (.int .i64 a) ∧ X.W.cell? ⟨w.heap.size, 1, none⟩ = some (.int .i64 b) ∧ X.W.cell? ⟨w.heap.size, 2, none⟩ = some (.int .i64 c) ∧ X.W.cell? ⟨w.heap.size, 3, none⟩ = some (.int .i64 d) ∧ X.W.cell? ⟨w.heap.size + 1, 0, none⟩ = some (.int .i64 a') ∧ X.W.cell? ⟨w.heap.size + 1, 1, none⟩ = some (.int .i64 b') ∧ X.W.cell? ⟨w.heap.size + 1, 2, none⟩ = some (.int .i64 c') ∧ X.W.cell? ⟨w.heap.size + 1, 3, none⟩ = some (.int .i64 d') ∧ X.W.cell? ⟨w.heap.size + 1 + 1, 0, none⟩ = some (.int .i64 x) ∧ X.W.cell? ⟨w.heap.size + 1 + 1, 1, none⟩ = some (.int .i64 y) ∧ X.W.cell? ⟨w1.heap.size, 0, none⟩ = some (.int .i64 (Pl.isec a b c d a' b' c' d').x0) ∧ X.W.cell? ⟨w1.heap.size, 1, none⟩ = some (.int .i64 (Pl.isec a b c d a' b' c' d').y0) ∧ X.W.cell? ⟨w1.heap.size, 2, none⟩ = some (.int .i64 (Pl.isec a b c d a' b' c' d').x1) ∧ X.W.cell? ⟨w1.heap.size, 3, none⟩ = some (.int .i64 (Pl.isec a b c d a' b' c' d').y1) ∧ StC a b c d a' b' c' d' x y w1.heap.size w X.W := fun X => X.ok.open
  simp only [forall_and] at hX
  have hst : ∀ (X : StCF a b c d a' b' c' d' x y w1.heap.size w) (w' : World), Below X.W.heap.size X.W w' → ∃ Y : StCF a b c d a' b' c' d' x y w1.heap.size w, w' = Y.W := fun X w' hb => ⟨⟨w', X.ok.step hb⟩, rfl⟩
  have hne : Nonempty (StCF a b c d a' b' c' d' x y w1.heap.size w) := ⟨⟨_, hS⟩⟩
  obtain ⟨hx0, hx⟩ := hX
  repeat (obtain ⟨_, hx⟩ := hx)
  clear hx
  refine wp_region_in (fun X : StCF a b c d a' b' c' d' x y w1.heap.size w => X.W) (by kernel_rfl) (by kernel_rfl) ⟨⟨_, hS.step (Below.refl _ _).drew⟩, rfl⟩ ?_
  repeat (first | go_big_quiet_step ((first | (go_at_call 26; exact call_in (has_c _ _ _ _ _ _ _) (hst _)) | (go_at_call 30; exact call_in (isec_c _ _ _ _ _ _ _ _ _) (hst _)) | (go_at_call 28; exact call_in (cont_c _ _ _ _ _ _ _ _ _) (hst _)))) | quiet_step ((first | (go_at_call 26; exact call_in (has_c _ _ _ _ _ _ _) (hst _)) | (go_at_call 30; exact call_in (isec_c _ _ _ _ _ _ _ _ _) (hst _)) | (go_at_call 28; exact call_in (cont_c _ _ _ _ _ _ _ _ _) (hst _)))))
  refine wpQuiet_nil ?_
  intro _ hw'
  obtain ⟨⟨w2, hS2⟩, hw''⟩ := hw'
  subst hw''
  have hT := hS2
  clear hS hst hne
  obtain ⟨c0, c1, c2, c3, d0, d1, d2, d3, q0, q1, g0, g1, g2, g3, _⟩ := hT.open
  go_wp2_with fail
  refine (empty_c _ _ _ _ _).mono ?_
  rintro e w3 ⟨rfl, hb3⟩
  have hT3 := hT.step hb3
  clear c0 c1 c2 c3 d0 d1 d2 d3 q0 q1 g0 g1 g2 g3 hb3 hT
  obtain ⟨c0, c1, c2, c3, d0, d1, d2, d3, q0, q1, g0, g1, g2, g3, _⟩ := hT3.open
  by_cases he : Pl.emptyB a' b' c' d' = true
  · have hc := Pl.cont_empty (a := a) (b := b) (c := c) (d := d) he
    go_wp2_with fail
    refine (cont_c _ _ _ _ _ _ _ _ _).mono ?_
    rintro e w4 ⟨rfl, hb4⟩
    have hT4 := hT3.step hb4
    go_wp2_with fail
    refine (example_c _).mono ?_
    rintro e w5 ⟨rfl, hb5⟩
    go_wp2
    go_ret
    exact ⟨rfl, (hT4.step hb5).below⟩
  · have he' : Pl.emptyB a' b' c' d' = false := by simpa using he
    have hq := Pl.cont_eqB (a := a) (b := b) (c := c) (d := d) he'
    go_wp2_with fail
    go_region_held3 (fun w' => w'.cell? ⟨w.heap.size, 0, none⟩ = some (.int .i64 a) ∧ w'.cell? ⟨w.heap.size, 1, none⟩ = some (.int .i64 b) ∧ w'.cell? ⟨w.heap.size, 2, none⟩ = some (.int .i64 c) ∧ w'.cell? ⟨w.heap.size, 3, none⟩ = some (.int .i64 d) ∧ w'.cell? ⟨w.heap.size + 1, 0, none⟩ = some (.int .i64 a') ∧ w'.cell? ⟨w.heap.size + 1, 1, none⟩ = some (.int .i64 b') ∧ w'.cell? ⟨w.heap.size + 1, 2, none⟩ = some (.int .i64 c') ∧ w'.cell? ⟨w.heap.size + 1, 3, none⟩ = some (.int .i64 d') ∧ w'.cell? ⟨w.heap.size + 1 + 1, 0, none⟩ = some (.int .i64 x) ∧ w'.cell? ⟨w.heap.size + 1 + 1, 1, none⟩ = some (.int .i64 y) ∧ w'.cell? ⟨w1.heap.size, 0, none⟩ = some (.int .i64 (Pl.isec a b c d a' b' c' d').x0) ∧ w'.cell? ⟨w1.heap.size, 1, none⟩ = some (.int .i64 (Pl.isec a b c d a' b' c' d').y0) ∧ w'.cell? ⟨w1.heap.size, 2, none⟩ = some (.int .i64 (Pl.isec a b c d a' b' c' d').x1) ∧ w'.cell? ⟨w1.heap.size, 3, none⟩ = some (.int .i64 (Pl.isec a b c d a' b' c' d').y1) ∧ StC a b c d a' b' c' d' x y w1.heap.size w w')
      (first | assumption | exact (hT3.step (Below.refl _ _).drew).open)
      (first | (go_at_call 28; (with_reducible refine (cont_c _ _ _ _ _ _ _ _ _).mono ?_); rintro e wn ⟨rfl, hb⟩; have hS9 := StC.go (by assumption) hb) | (go_at_call 19; (with_reducible refine (example_c _).mono ?_); rintro e wn ⟨rfl, hb⟩; have hS9 := StC.go (by assumption) hb))
    have hE := (by assumption : wn.cell? ⟨w.heap.size, 0, none⟩ = some (.int .i64 a) ∧ wn.cell? ⟨w.heap.size, 1, none⟩ = some (.int .i64 b) ∧ wn.cell? ⟨w.heap.size, 2, none⟩ = some (.int .i64 c) ∧ wn.cell? ⟨w.heap.size, 3, none⟩ = some (.int .i64 d) ∧ wn.cell? ⟨w.heap.size + 1, 0, none⟩ = some (.int .i64 a') ∧ wn.cell? ⟨w.heap.size + 1, 1, none⟩ = some (.int .i64 b') ∧ wn.cell? ⟨w.heap.size + 1, 2, none⟩ = some (.int .i64 c') ∧ wn.cell? ⟨w.heap.size + 1, 3, none⟩ = some (.int .i64 d') ∧ wn.cell? ⟨w.heap.size + 1 + 1, 0, none⟩ = some (.int .i64 x) ∧ wn.cell? ⟨w.heap.size + 1 + 1, 1, none⟩ = some (.int .i64 y) ∧ wn.cell? ⟨w1.heap.size, 0, none⟩ = some (.int .i64 (Pl.isec a b c d a' b' c' d').x0) ∧ wn.cell? ⟨w1.heap.size, 1, none⟩ = some (.int .i64 (Pl.isec a b c d a' b' c' d').y0) ∧ wn.cell? ⟨w1.heap.size, 2, none⟩ = some (.int .i64 (Pl.isec a b c d a' b' c' d').x1) ∧ wn.cell? ⟨w1.heap.size, 3, none⟩ = some (.int .i64 (Pl.isec a b c d a' b' c' d').y1) ∧ StC a b c d a' b' c' d' x y w1.heap.size w wn)
    go_wp2
    go_ret
    exact ⟨rfl, hE.2.2.2.2.2.2.2.2.2.2.2.2.2.2.below⟩
set_option maxHeartbeats 2000000 in
theorem walk_tf (a b c d a' b' c' d' x y : Int) (w : World) (hu : Pl.hasB a b c d x y = true) (hv : Pl.hasB a' b' c' d' x y = false) :
    Calls Try.prog 9 #[.agg #[.int .i64 a, .int .i64 b, .int .i64 c, .int .i64 d], .agg #[.int .i64 a', .int .i64 b', .int .i64 c', .int .i64 d'], .agg #[.int .i64 x, .int .i64 y]] w fun e w' => e = .returned (.bool true) ∧ Below w.heap.size w w' := by
  have heq := eqR
  have hself := Pl.eq_self
  have hI : Pl.hasB (Pl.isec a b c d a' b' c' d').x0 (Pl.isec a b c d a' b' c' d').y0 (Pl.isec a b c d a' b' c' d').x1 (Pl.isec a b c d a' b' c' d').y1 x y = false := by rw [Pl.has_isec, hu, hv]; rfl
  have hcm := Pl.isec_comm a b c d a' b' c' d'
  have hl := Pl.cont_isec_l a b c d a' b' c' d'
  have hr := Pl.cont_isec_r a b c d a' b' c' d'
  go_enter Try.func9, Try.ntmps9
  go_wp2_with fail
  refine (isec_c _ _ _ _ _ _ _ _ _).mono ?_
  rintro e w1 ⟨rfl, hb1⟩
  have z1 := hb1.size
  simp at z1
  have hS : StC a b c d a' b' c' d' x y w1.heap.size w (w1.alloc (.cells #[.int .i64 (Pl.isec a b c d a' b' c' d').x0, .int .i64 (Pl.isec a b c d a' b' c' d').y0, .int .i64 (Pl.isec a b c d a' b' c' d').x1, .int .i64 (Pl.isec a b c d a' b' c' d').y1] 26)) :=
    ⟨(bcall ((((Below.refl _ _).alloc (Nat.le_refl _) _).alloc (by simp) _).alloc (by simp; omega) _) hb1 (by simp; omega)).alloc (by omega) _, by simp; omega,
     (((Box.fresh w a b c d _).alloc _ _).alloc _ _).below hb1 |>.alloc _ _, ((Box.freshAt _ _ (by simp) a' b' c' d' _).alloc _ _).below hb1 |>.alloc _ _, (PBox.freshAt _ _ (by simp) x y _).below hb1 |>.alloc _, Box.freshAt _ _ rfl _ _ _ _ _⟩
  clear hb1
  go_wp2_with fail
  have hX : ∀ X : StCF a b c d a' b' c' d' x y w1.heap.size w, X.W.cell? ⟨w.heap.size, 0, none⟩ = some (.int .i64 a) ∧ X.W.cell? ⟨w.heap.size, 1, none⟩ = some (.int .i64 b) ∧ X.W.cell? ⟨w.heap.size, 2, none⟩ = some (.int .i64 c) ∧ X.W.cell? ⟨w.heap.size, 3, none⟩ = some (.int .i64 d) ∧ X.W.cell? ⟨w.heap.size + 1, 0, none⟩ = some (.int .i64 a') ∧ X.W.cell? ⟨w.heap.size + 1, 1, none⟩ = some (.int .i64 b') ∧ X.W.cell? ⟨w.heap.size + 1, 2, none⟩ = some (.int .i64 c') ∧ X.W.cell? ⟨w.heap.size + 1, 3, none⟩ = some (.int .i64 d') ∧ X.W.cell? ⟨w.heap.size + 1 + 1, 0, none⟩ = some (.int .i64 x) ∧ X.W.cell? ⟨w.heap.size + 1 + 1, 1, none⟩ = some (.int .i64 y) ∧ X.W.cell? ⟨w1.heap.size, 0, none⟩ = some (.int .i64 (Pl.isec a b c d a' b' c' d').x0) ∧ X.W.cell? ⟨w1.heap.size, 1, none⟩ = some (.int .i64 (Pl.isec a b c d a' b' c' d').y0) ∧ X.W.cell? ⟨w1.heap.size, 2, none⟩ = some (.int .i64 (Pl.isec a b c d a' b' c' d').x1) ∧ X.W.cell? ⟨w1.heap.size, 3, none⟩ = some (.int .i64 (Pl.isec a b c d a' b' c' d').y1) ∧ StC a b c d a' b' c' d' x y w1.heap.size w X.W := fun X => X.ok.open
  simp only [forall_and] at hX
  have hst : ∀ (X : StCF a b c d a' b' c' d' x y w1.heap.size w) (w' : World), Below X.W.heap.size X.W w' → ∃ Y : StCF a b c d a' b' c' d' x y w1.heap.size w, w' = Y.W := fun X w' hb => ⟨⟨w', X.ok.step hb⟩, rfl⟩
  have hne : Nonempty (StCF a b c d a' b' c' d' x y w1.heap.size w) := ⟨⟨_, hS⟩⟩
  obtain ⟨hx0, hx⟩ := hX
  repeat (obtain ⟨_, hx⟩ := hx)
  clear hx
  refine wp_region_in (fun X : StCF a b c d a' b' c' d' x y w1.heap.size w => X.W) (by kernel_rfl) (by kernel_rfl) ⟨⟨_, hS.step (Below.refl _ _).drew⟩, rfl⟩ ?_
  repeat (first | go_big_quiet_step ((first | (go_at_call 26; exact call_in (has_c _ _ _ _ _ _ _) (hst _)) | (go_at_call 30; exact call_in (isec_c _ _ _ _ _ _ _ _ _) (hst _)) | (go_at_call 28; exact call_in (cont_c _ _ _ _ _ _ _ _ _) (hst _)))) | quiet_step ((first | (go_at_call 26; exact call_in (has_c _ _ _ _ _ _ _) (hst _)) | (go_at_call 30; exact call_in (isec_c _ _ _ _ _ _ _ _ _) (hst _)) | (go_at_call 28; exact call_in (cont_c _ _ _ _ _ _ _ _ _) (hst _)))))
  refine wpQuiet_nil ?_
  intro _ hw'
  obtain ⟨⟨w2, hS2⟩, hw''⟩ := hw'
  subst hw''
  have hT := hS2
  clear hS hst hne
  obtain ⟨c0, c1, c2, c3, d0, d1, d2, d3, q0, q1, g0, g1, g2, g3, _⟩ := hT.open
  go_wp2_with fail
  refine (empty_c _ _ _ _ _).mono ?_
  rintro e w3 ⟨rfl, hb3⟩
  have hT3 := hT.step hb3
  clear c0 c1 c2 c3 d0 d1 d2 d3 q0 q1 g0 g1 g2 g3 hb3 hT
  obtain ⟨c0, c1, c2, c3, d0, d1, d2, d3, q0, q1, g0, g1, g2, g3, _⟩ := hT3.open
  by_cases he : Pl.emptyB a' b' c' d' = true
  · have hc := Pl.cont_empty (a := a) (b := b) (c := c) (d := d) he
    go_wp2_with fail
    refine (cont_c _ _ _ _ _ _ _ _ _).mono ?_
    rintro e w4 ⟨rfl, hb4⟩
    have hT4 := hT3.step hb4
    go_wp2_with fail
    refine (example_c _).mono ?_
    rintro e w5 ⟨rfl, hb5⟩
    go_wp2
    go_ret
    exact ⟨rfl, (hT4.step hb5).below⟩
  · have he' : Pl.emptyB a' b' c' d' = false := by simpa using he
    have hq := Pl.cont_eqB (a := a) (b := b) (c := c) (d := d) he'
    go_wp2_with fail
    go_region_held3 (fun w' => w'.cell? ⟨w.heap.size, 0, none⟩ = some (.int .i64 a) ∧ w'.cell? ⟨w.heap.size, 1, none⟩ = some (.int .i64 b) ∧ w'.cell? ⟨w.heap.size, 2, none⟩ = some (.int .i64 c) ∧ w'.cell? ⟨w.heap.size, 3, none⟩ = some (.int .i64 d) ∧ w'.cell? ⟨w.heap.size + 1, 0, none⟩ = some (.int .i64 a') ∧ w'.cell? ⟨w.heap.size + 1, 1, none⟩ = some (.int .i64 b') ∧ w'.cell? ⟨w.heap.size + 1, 2, none⟩ = some (.int .i64 c') ∧ w'.cell? ⟨w.heap.size + 1, 3, none⟩ = some (.int .i64 d') ∧ w'.cell? ⟨w.heap.size + 1 + 1, 0, none⟩ = some (.int .i64 x) ∧ w'.cell? ⟨w.heap.size + 1 + 1, 1, none⟩ = some (.int .i64 y) ∧ w'.cell? ⟨w1.heap.size, 0, none⟩ = some (.int .i64 (Pl.isec a b c d a' b' c' d').x0) ∧ w'.cell? ⟨w1.heap.size, 1, none⟩ = some (.int .i64 (Pl.isec a b c d a' b' c' d').y0) ∧ w'.cell? ⟨w1.heap.size, 2, none⟩ = some (.int .i64 (Pl.isec a b c d a' b' c' d').x1) ∧ w'.cell? ⟨w1.heap.size, 3, none⟩ = some (.int .i64 (Pl.isec a b c d a' b' c' d').y1) ∧ StC a b c d a' b' c' d' x y w1.heap.size w w')
      (first | assumption | exact (hT3.step (Below.refl _ _).drew).open)
      (first | (go_at_call 28; (with_reducible refine (cont_c _ _ _ _ _ _ _ _ _).mono ?_); rintro e wn ⟨rfl, hb⟩; have hS9 := StC.go (by assumption) hb) | (go_at_call 19; (with_reducible refine (example_c _).mono ?_); rintro e wn ⟨rfl, hb⟩; have hS9 := StC.go (by assumption) hb))
    have hE := (by assumption : wn.cell? ⟨w.heap.size, 0, none⟩ = some (.int .i64 a) ∧ wn.cell? ⟨w.heap.size, 1, none⟩ = some (.int .i64 b) ∧ wn.cell? ⟨w.heap.size, 2, none⟩ = some (.int .i64 c) ∧ wn.cell? ⟨w.heap.size, 3, none⟩ = some (.int .i64 d) ∧ wn.cell? ⟨w.heap.size + 1, 0, none⟩ = some (.int .i64 a') ∧ wn.cell? ⟨w.heap.size + 1, 1, none⟩ = some (.int .i64 b') ∧ wn.cell? ⟨w.heap.size + 1, 2, none⟩ = some (.int .i64 c') ∧ wn.cell? ⟨w.heap.size + 1, 3, none⟩ = some (.int .i64 d') ∧ wn.cell? ⟨w.heap.size + 1 + 1, 0, none⟩ = some (.int .i64 x) ∧ wn.cell? ⟨w.heap.size + 1 + 1, 1, none⟩ = some (.int .i64 y) ∧ wn.cell? ⟨w1.heap.size, 0, none⟩ = some (.int .i64 (Pl.isec a b c d a' b' c' d').x0) ∧ wn.cell? ⟨w1.heap.size, 1, none⟩ = some (.int .i64 (Pl.isec a b c d a' b' c' d').y0) ∧ wn.cell? ⟨w1.heap.size, 2, none⟩ = some (.int .i64 (Pl.isec a b c d a' b' c' d').x1) ∧ wn.cell? ⟨w1.heap.size, 3, none⟩ = some (.int .i64 (Pl.isec a b c d a' b' c' d').y1) ∧ StC a b c d a' b' c' d' x y w1.heap.size w wn)
    go_wp2
    go_ret
    exact ⟨rfl, hE.2.2.2.2.2.2.2.2.2.2.2.2.2.2.below⟩
set_option maxHeartbeats 2000000 in
theorem walk_f (a b c d a' b' c' d' x y : Int) (w : World) (hu : Pl.hasB a b c d x y = false) :
    Calls Try.prog 9 #[.agg #[.int .i64 a, .int .i64 b, .int .i64 c, .int .i64 d], .agg #[.int .i64 a', .int .i64 b', .int .i64 c', .int .i64 d'], .agg #[.int .i64 x, .int .i64 y]] w fun e w' => e = .returned (.bool true) ∧ Below w.heap.size w w' := by
  have heq := eqR
  have hself := Pl.eq_self
  have hI : Pl.hasB (Pl.isec a b c d a' b' c' d').x0 (Pl.isec a b c d a' b' c' d').y0 (Pl.isec a b c d a' b' c' d').x1 (Pl.isec a b c d a' b' c' d').y1 x y = false := by rw [Pl.has_isec, hu]; rfl
  have hcm := Pl.isec_comm a b c d a' b' c' d'
  have hl := Pl.cont_isec_l a b c d a' b' c' d'
  have hr := Pl.cont_isec_r a b c d a' b' c' d'
  go_enter Try.func9, Try.ntmps9
  go_wp2_with fail
  refine (isec_c _ _ _ _ _ _ _ _ _).mono ?_
  rintro e w1 ⟨rfl, hb1⟩
  have z1 := hb1.size
  simp at z1
  have hS : StC a b c d a' b' c' d' x y w1.heap.size w (w1.alloc (.cells #[.int .i64 (Pl.isec a b c d a' b' c' d').x0, .int .i64 (Pl.isec a b c d a' b' c' d').y0, .int .i64 (Pl.isec a b c d a' b' c' d').x1, .int .i64 (Pl.isec a b c d a' b' c' d').y1] 26)) :=
    ⟨(bcall ((((Below.refl _ _).alloc (Nat.le_refl _) _).alloc (by simp) _).alloc (by simp; omega) _) hb1 (by simp; omega)).alloc (by omega) _, by simp; omega,
     (((Box.fresh w a b c d _).alloc _ _).alloc _ _).below hb1 |>.alloc _ _, ((Box.freshAt _ _ (by simp) a' b' c' d' _).alloc _ _).below hb1 |>.alloc _ _, (PBox.freshAt _ _ (by simp) x y _).below hb1 |>.alloc _, Box.freshAt _ _ rfl _ _ _ _ _⟩
  clear hb1
  go_wp2_with fail
  have hX : ∀ X : StCF a b c d a' b' c' d' x y w1.heap.size w, X.W.cell? ⟨w.heap.size, 0, none⟩ = some (.int .i64 a) ∧ X.W.cell? ⟨w.heap.size, 1, none⟩ = some (.int .i64 b) ∧ X.W.cell? ⟨w.heap.size, 2, none⟩ = some (.int .i64 c) ∧ X.W.cell? ⟨w.heap.size, 3, none⟩ = some (.int .i64 d) ∧ X.W.cell? ⟨w.heap.size + 1, 0, none⟩ = some (.int .i64 a') ∧ X.W.cell? ⟨w.heap.size + 1, 1, none⟩ = some (.int .i64 b') ∧ X.W.cell? ⟨w.heap.size + 1, 2, none⟩ = some (.int .i64 c') ∧ X.W.cell? ⟨w.heap.size + 1, 3, none⟩ = some (.int .i64 d') ∧ X.W.cell? ⟨w.heap.size + 1 + 1, 0, none⟩ = some (.int .i64 x) ∧ X.W.cell? ⟨w.heap.size + 1 + 1, 1, none⟩ = some (.int .i64 y) ∧ X.W.cell? ⟨w1.heap.size, 0, none⟩ = some (.int .i64 (Pl.isec a b c d a' b' c' d').x0) ∧ X.W.cell? ⟨w1.heap.size, 1, none⟩ = some (.int .i64 (Pl.isec a b c d a' b' c' d').y0) ∧ X.W.cell? ⟨w1.heap.size, 2, none⟩ = some (.int .i64 (Pl.isec a b c d a' b' c' d').x1) ∧ X.W.cell? ⟨w1.heap.size, 3, none⟩ = some (.int .i64 (Pl.isec a b c d a' b' c' d').y1) ∧ StC a b c d a' b' c' d' x y w1.heap.size w X.W := fun X => X.ok.open
  simp only [forall_and] at hX
  have hst : ∀ (X : StCF a b c d a' b' c' d' x y w1.heap.size w) (w' : World), Below X.W.heap.size X.W w' → ∃ Y : StCF a b c d a' b' c' d' x y w1.heap.size w, w' = Y.W := fun X w' hb => ⟨⟨w', X.ok.step hb⟩, rfl⟩
  have hne : Nonempty (StCF a b c d a' b' c' d' x y w1.heap.size w) := ⟨⟨_, hS⟩⟩
  obtain ⟨hx0, hx⟩ := hX
  repeat (obtain ⟨_, hx⟩ := hx)
  clear hx
  refine wp_region_in (fun X : StCF a b c d a' b' c' d' x y w1.heap.size w => X.W) (by kernel_rfl) (by kernel_rfl) ⟨⟨_, hS.step (Below.refl _ _).drew⟩, rfl⟩ ?_
  repeat (first | go_big_quiet_step ((first | (go_at_call 26; exact call_in (has_c _ _ _ _ _ _ _) (hst _)) | (go_at_call 30; exact call_in (isec_c _ _ _ _ _ _ _ _ _) (hst _)) | (go_at_call 28; exact call_in (cont_c _ _ _ _ _ _ _ _ _) (hst _)))) | quiet_step ((first | (go_at_call 26; exact call_in (has_c _ _ _ _ _ _ _) (hst _)) | (go_at_call 30; exact call_in (isec_c _ _ _ _ _ _ _ _ _) (hst _)) | (go_at_call 28; exact call_in (cont_c _ _ _ _ _ _ _ _ _) (hst _)))))
  refine wpQuiet_nil ?_
  intro _ hw'
  obtain ⟨⟨w2, hS2⟩, hw''⟩ := hw'
  subst hw''
  have hT := hS2
  clear hS hst hne
  obtain ⟨c0, c1, c2, c3, d0, d1, d2, d3, q0, q1, g0, g1, g2, g3, _⟩ := hT.open
  go_wp2_with fail
  refine (empty_c _ _ _ _ _).mono ?_
  rintro e w3 ⟨rfl, hb3⟩
  have hT3 := hT.step hb3
  clear c0 c1 c2 c3 d0 d1 d2 d3 q0 q1 g0 g1 g2 g3 hb3 hT
  obtain ⟨c0, c1, c2, c3, d0, d1, d2, d3, q0, q1, g0, g1, g2, g3, _⟩ := hT3.open
  by_cases he : Pl.emptyB a' b' c' d' = true
  · have hc := Pl.cont_empty (a := a) (b := b) (c := c) (d := d) he
    go_wp2_with fail
    refine (cont_c _ _ _ _ _ _ _ _ _).mono ?_
    rintro e w4 ⟨rfl, hb4⟩
    have hT4 := hT3.step hb4
    go_wp2_with fail
    refine (example_c _).mono ?_
    rintro e w5 ⟨rfl, hb5⟩
    go_wp2
    go_ret
    exact ⟨rfl, (hT4.step hb5).below⟩
  · have he' : Pl.emptyB a' b' c' d' = false := by simpa using he
    have hq := Pl.cont_eqB (a := a) (b := b) (c := c) (d := d) he'
    go_wp2_with fail
    go_region_held3 (fun w' => w'.cell? ⟨w.heap.size, 0, none⟩ = some (.int .i64 a) ∧ w'.cell? ⟨w.heap.size, 1, none⟩ = some (.int .i64 b) ∧ w'.cell? ⟨w.heap.size, 2, none⟩ = some (.int .i64 c) ∧ w'.cell? ⟨w.heap.size, 3, none⟩ = some (.int .i64 d) ∧ w'.cell? ⟨w.heap.size + 1, 0, none⟩ = some (.int .i64 a') ∧ w'.cell? ⟨w.heap.size + 1, 1, none⟩ = some (.int .i64 b') ∧ w'.cell? ⟨w.heap.size + 1, 2, none⟩ = some (.int .i64 c') ∧ w'.cell? ⟨w.heap.size + 1, 3, none⟩ = some (.int .i64 d') ∧ w'.cell? ⟨w.heap.size + 1 + 1, 0, none⟩ = some (.int .i64 x) ∧ w'.cell? ⟨w.heap.size + 1 + 1, 1, none⟩ = some (.int .i64 y) ∧ w'.cell? ⟨w1.heap.size, 0, none⟩ = some (.int .i64 (Pl.isec a b c d a' b' c' d').x0) ∧ w'.cell? ⟨w1.heap.size, 1, none⟩ = some (.int .i64 (Pl.isec a b c d a' b' c' d').y0) ∧ w'.cell? ⟨w1.heap.size, 2, none⟩ = some (.int .i64 (Pl.isec a b c d a' b' c' d').x1) ∧ w'.cell? ⟨w1.heap.size, 3, none⟩ = some (.int .i64 (Pl.isec a b c d a' b' c' d').y1) ∧ StC a b c d a' b' c' d' x y w1.heap.size w w')
      (first | assumption | exact (hT3.step (Below.refl _ _).drew).open)
      (first | (go_at_call 28; (with_reducible refine (cont_c _ _ _ _ _ _ _ _ _).mono ?_); rintro e wn ⟨rfl, hb⟩; have hS9 := StC.go (by assumption) hb) | (go_at_call 19; (with_reducible refine (example_c _).mono ?_); rintro e wn ⟨rfl, hb⟩; have hS9 := StC.go (by assumption) hb))
    have hE := (by assumption : wn.cell? ⟨w.heap.size, 0, none⟩ = some (.int .i64 a) ∧ wn.cell? ⟨w.heap.size, 1, none⟩ = some (.int .i64 b) ∧ wn.cell? ⟨w.heap.size, 2, none⟩ = some (.int .i64 c) ∧ wn.cell? ⟨w.heap.size, 3, none⟩ = some (.int .i64 d) ∧ wn.cell? ⟨w.heap.size + 1, 0, none⟩ = some (.int .i64 a') ∧ wn.cell? ⟨w.heap.size + 1, 1, none⟩ = some (.int .i64 b') ∧ wn.cell? ⟨w.heap.size + 1, 2, none⟩ = some (.int .i64 c') ∧ wn.cell? ⟨w.heap.size + 1, 3, none⟩ = some (.int .i64 d') ∧ wn.cell? ⟨w.heap.size + 1 + 1, 0, none⟩ = some (.int .i64 x) ∧ wn.cell? ⟨w.heap.size + 1 + 1, 1, none⟩ = some (.int .i64 y) ∧ wn.cell? ⟨w1.heap.size, 0, none⟩ = some (.int .i64 (Pl.isec a b c d a' b' c' d').x0) ∧ wn.cell? ⟨w1.heap.size, 1, none⟩ = some (.int .i64 (Pl.isec a b c d a' b' c' d').y0) ∧ wn.cell? ⟨w1.heap.size, 2, none⟩ = some (.int .i64 (Pl.isec a b c d a' b' c' d').x1) ∧ wn.cell? ⟨w1.heap.size, 3, none⟩ = some (.int .i64 (Pl.isec a b c d a' b' c' d').y1) ∧ StC a b c d a' b' c' d' x y w1.heap.size w wn)
    go_wp2
    go_ret
    exact ⟨rfl, hE.2.2.2.2.2.2.2.2.2.2.2.2.2.2.below⟩
theorem walk (a b c d a' b' c' d' x y : Int) (w : World) :
    Calls Try.prog 9 #[.agg #[.int .i64 a, .int .i64 b, .int .i64 c, .int .i64 d], .agg #[.int .i64 a', .int .i64 b', .int .i64 c', .int .i64 d'], .agg #[.int .i64 x, .int .i64 y]] w fun e w' => e = .returned (.bool true) ∧ Below w.heap.size w w' := by
  cases hu : Pl.hasB a b c d x y with
  | false => exact walk_f a b c d a' b' c' d' x y w hu
  | true =>
    cases hv : Pl.hasB a' b' c' d' x y with
    | false => exact walk_tf a b c d a' b' c' d' x y w hu hv
    | true => exact walk_tt a b c d a' b' c' d' x y w hu hv

set_option maxRecDepth 100000 in
theorem lifted (os : Os) (started : os.Started) (H : Type) (enc : TypeId × Value → H) :
    ReturnsInHanded {} Try.checked os 9 .any (Rows.rectCommonSpec.pre6 enc Try.prog Try.f9 Rows.rectCommonRow.domain false) (Rows.rectCommonSpec.post enc Try.prog Try.f9 false true false false) := by
  refine returnsInHanded_of_change (C := Try.checked) own started (by kernel_rfl) Try.func9
    (ChangeSpec.witness6 (enc := enc) (C := Try.checked) false ⟨#[], #[.agg #[.int .i64 0, .int .i64 0, .int .i64 0, .int .i64 0], .agg #[.int .i64 0, .int .i64 0, .int .i64 0, .int .i64 0], .agg #[.int .i64 0, .int .i64 0]], []⟩ 8 (by kernel_rfl) (by kernel_rfl) (by kernel_rfl) (by kernel_rfl)) ?_
  intro W base args ds gs before hval0 hW _ _
  have hval : ∀ (j : Nat) t v, Try.f9.params[j]? = some t → args[j]? = some v → Value.okWide Try.prog W .any base t v := hval0
  have hW' := hW
  obtain ⟨p, q, hA0, hV, rfl, _, _⟩ := hW
  have hA : DataW.TrodAll enc Try.prog W 0 (fun _ => true) true Try.f9.params.toList args.toList ds p := hA0
  rw [Try.params9] at hA hval
  obtain ⟨v0, vs0, d0, ds0, p0, q0, hargs, rfl, rfl, h0, r0⟩ := trodAll_cons hA
  obtain ⟨v1, vs1, d1, ds1, p1, q1, rfl, rfl, rfl, h1, r1⟩ := trodAll_cons r0
  obtain ⟨v2, vs2, d2, ds2, p2, q2, rfl, rfl, rfl, h2, r2⟩ := trodAll_cons r1
  obtain ⟨rfl, rfl, rfl⟩ := trodAll_nil r2
  obtain rfl : args = #[v0, v1, v2] := by cases args; simp_all
  obtain ⟨rfl, rfl⟩ := trodVars_none hV
  clear hA0 hval0
  simp only [List.append_nil] at hW'
  have l0 : ∀ x ∈ p0, x.block < W.heap.size := fun x hx => hW'.lt x (by simp [hx])
  have l1 : ∀ x ∈ p1, x.block < W.heap.size := fun x hx => hW'.lt x (by simp [hx])
  have l2 : ∀ x ∈ p2, x.block < W.heap.size := fun x hx => hW'.lt x (by simp [hx])
  obtain ⟨a, b, c, d, rfl, wa, wb, wc, wd⟩ := open_rect (hval 0 26 v0 rfl rfl) h0
  obtain ⟨a', b', c', d', rfl, wap, wbp, wcp, wdp⟩ := open_rect (hval 1 26 v1 rfl rfl) h1
  obtain ⟨x, y, rfl, wx, wy⟩ := open_point (hval 2 28 v2 rfl rfl) h2
  refine (walk a b c d a' b' c' d' x y W).mono fun e W' ⟨he, hb⟩ => ?_
  subst he
  exact ⟨_, rfl, post_low (pa := p0 ++ (p1 ++ (p2 ++ ([])))) (pv := []) hW' (fun _ _ _ => (trodAll_cons_mk (shut_bool Try.underlying4 _) trodAll_mk0)) (fun sp hsp => (trodAll_cons_mk (trod_low laidOut (by kernel_rfl) (of_decide_eq_true (by kernel_rfl)) h0 hb l0 (fun x hx => hsp x (by simp [hx]))) (trodAll_cons_mk (trod_low laidOut (by kernel_rfl) (of_decide_eq_true (by kernel_rfl)) h1 hb l1 (fun x hx => hsp x (by simp [hx]))) (trodAll_cons_mk (trod_low laidOut (by kernel_rfl) (of_decide_eq_true (by kernel_rfl)) h2 hb l2 (fun x hx => hsp x (by simp [hx]))) trodAll_mk0)))) (fun _ _ => rfl) (by simp) hb (ok_one (by kernel_rfl) rfl (okWide_bool_mk Try.underlying4 _))⟩

theorem over : Rows.rectCommonRow.holds Try.pinned (OpenSpec.ofChange Rows.rectCommonSpec) :=
  OpenClaim.holds_of_wide 9 Try.f9 rfl rfl rfl rfl rfl rfl rfl ⟨rfl, rfl, rfl, rfl, rfl⟩ rfl rfl rfl rfl rfl (by kernel_rfl) Try.func9 (by kernel_rfl)
    (of_decide_eq_true (by kernel_rfl)) (by unfold Func.isWrapper; first | (rw [if_pos (by decide +kernel)]; kernel_rfl) | (rw [if_neg (by decide +kernel)]; exact ⟨rfl, rfl⟩))
    (fun os started H enc _ => lifted os started H enc)

theorem proved : Rows.RectCommonSaid :=
  over
#print axioms proved
end Go.Proofs.Ytaaljfpkfgjhpaa.rectCommon
