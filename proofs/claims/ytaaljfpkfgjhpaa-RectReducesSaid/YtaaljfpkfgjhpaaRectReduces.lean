/-
  For all rectangles r and integers dx and dy the statement RectReduces returns true, and its arguments read afterwards as before.
  Conditions: none beyond those of the given statement.
-/
import Derived.Test.YtaaljfpkfgjhpaaFrame
import Derived.Test.YtaaljfpkfgjhpaaRectX
namespace Go.Proofs.Ytaaljfpkfgjhpaa.rectReduces
open Go.ChangeShapes Go.WideShapes Go.ChangeAt Go.RowKit Go.Joins Go.Deep

structure StD (a b c d : Int) (w W : World) : Prop where
  below : Below w.heap.size w W
  le : w.heap.size ≤ W.heap.size
  b0 : Box W (w.heap.size) ⟨a, b, c, d⟩
theorem StD.step {a b c d : Int} {w W W1 : World} (h : StD a b c d w W) (hb : Below W.heap.size W W1) : StD a b c d w W1 :=
  ⟨bcall h.below hb h.le, Nat.le_trans h.le hb.size, h.b0.below hb⟩
theorem StD.open {a b c d : Int} {w W : World} (h : StD a b c d w W) : W.cell? ⟨w.heap.size, 0, none⟩ = some (.int .i64 a) ∧ W.cell? ⟨w.heap.size, 1, none⟩ = some (.int .i64 b) ∧ W.cell? ⟨w.heap.size, 2, none⟩ = some (.int .i64 c) ∧ W.cell? ⟨w.heap.size, 3, none⟩ = some (.int .i64 d) ∧ StD a b c d w W := by
  obtain ⟨c00, c01, c02, c03⟩ := h.b0.open
  exact ⟨c00, c01, c02, c03, h⟩
theorem StD.go {a b c d : Int} {w W W1 : World} (h : W.cell? ⟨w.heap.size, 0, none⟩ = some (.int .i64 a) ∧ W.cell? ⟨w.heap.size, 1, none⟩ = some (.int .i64 b) ∧ W.cell? ⟨w.heap.size, 2, none⟩ = some (.int .i64 c) ∧ W.cell? ⟨w.heap.size, 3, none⟩ = some (.int .i64 d) ∧ StD a b c d w W) (hb : Below W.heap.size W W1) : W1.cell? ⟨w.heap.size, 0, none⟩ = some (.int .i64 a) ∧ W1.cell? ⟨w.heap.size, 1, none⟩ = some (.int .i64 b) ∧ W1.cell? ⟨w.heap.size, 2, none⟩ = some (.int .i64 c) ∧ W1.cell? ⟨w.heap.size, 3, none⟩ = some (.int .i64 d) ∧ StD a b c d w W1 := (h.2.2.2.2.step hb).open
structure StDF (a b c d : Int) (w : World) where
  W : World
  ok : StD a b c d w W
set_option maxHeartbeats 1000000 in
theorem walk (a b c d dx dy : Int) (w : World) :
    Calls Try.prog 7 #[.agg #[.int .i64 a, .int .i64 b, .int .i64 c, .int .i64 d], .int .i64 dx, .int .i64 dy] w fun e w' => e = .returned (.bool true) ∧ Below w.heap.size w w' := by
  have heq := eqR
  have hself := Pl.eq_self
  go_enter Try.func7, Try.ntmps7
  go_wp2_with fail
  have hS : StD a b c d w (w.alloc (.cells #[.int .i64 a, .int .i64 b, .int .i64 c, .int .i64 d] 26)).drew :=
    ⟨((Below.refl _ _).alloc (Nat.le_refl _) _).drew, by simp, (Box.fresh w a b c d _).drew⟩
  go_region_held3 (fun w' => w'.cell? ⟨w.heap.size, 0, none⟩ = some (.int .i64 a) ∧ w'.cell? ⟨w.heap.size, 1, none⟩ = some (.int .i64 b) ∧ w'.cell? ⟨w.heap.size, 2, none⟩ = some (.int .i64 c) ∧ w'.cell? ⟨w.heap.size, 3, none⟩ = some (.int .i64 d) ∧ StD a b c d w w')
    (first | assumption | exact hS.open)
    (first | (go_at_call 34; (with_reducible refine (red_c _ _ _ _ _ _ _).mono ?_); rintro e wn ⟨rfl, hb⟩; have hS9 := StD.go (by assumption) hb) | (go_at_call 35; (with_reducible refine (red_r _ _ _ _ _ _ _).mono ?_); rintro e wn ⟨rfl, hb⟩; have hS9 := StD.go (by assumption) hb) | (go_at_call 19; (with_reducible refine (example_c _).mono ?_); rintro e wn ⟨rfl, hb⟩; have hS9 := StD.go (by assumption) hb))
  have hE := (by assumption : wn.cell? ⟨w.heap.size, 0, none⟩ = some (.int .i64 a) ∧ wn.cell? ⟨w.heap.size, 1, none⟩ = some (.int .i64 b) ∧ wn.cell? ⟨w.heap.size, 2, none⟩ = some (.int .i64 c) ∧ wn.cell? ⟨w.heap.size, 3, none⟩ = some (.int .i64 d) ∧ StD a b c d w wn)
  go_wp2
  go_ret
  exact ⟨rfl, hE.2.2.2.2.below⟩

set_option maxRecDepth 100000 in
theorem lifted (os : Os) (started : os.Started) (H : Type) (enc : TypeId × Value → H) :
    ReturnsInHanded {} Try.checked os 7 .any (Rows.rectReducesSpec.pre6 enc Try.prog Try.f7 Rows.rectReducesRow.domain false) (Rows.rectReducesSpec.post enc Try.prog Try.f7 false true false false) := by
  refine returnsInHanded_of_change (C := Try.checked) own started (by kernel_rfl) Try.func7
    (ChangeSpec.witness6 (enc := enc) (C := Try.checked) false ⟨#[], #[.agg #[.int .i64 0, .int .i64 0, .int .i64 0, .int .i64 0], .int .i64 0, .int .i64 0], []⟩ 8 (by kernel_rfl) (by kernel_rfl) (by kernel_rfl) (by kernel_rfl)) ?_
  intro W base args ds gs before hval0 hW _ _
  have hval : ∀ (j : Nat) t v, Try.f7.params[j]? = some t → args[j]? = some v → Value.okWide Try.prog W .any base t v := hval0
  have hW' := hW
  obtain ⟨p, q, hA0, hV, rfl, _, _⟩ := hW
  have hA : DataW.TrodAll enc Try.prog W 0 (fun _ => true) true Try.f7.params.toList args.toList ds p := hA0
  rw [Try.params7] at hA hval
  obtain ⟨v0, vs0, d0, ds0, p0, q0, hargs, rfl, rfl, h0, r0⟩ := trodAll_cons hA
  obtain ⟨v1, vs1, d1, ds1, p1, q1, rfl, rfl, rfl, h1, r1⟩ := trodAll_cons r0
  obtain ⟨v2, vs2, d2, ds2, p2, q2, rfl, rfl, rfl, h2, r2⟩ := trodAll_cons r1
  obtain ⟨rfl, rfl, rfl⟩ := trodAll_nil r2
  obtain rfl : args = #[v0, v1, v2] := by cases args; simp_all
  obtain ⟨rfl, rfl⟩ := trodVars_none hV
  clear hA0 hval0
  simp only [List.append_nil] at hW'
  have l0 : ∀ x ∈ p0, x.block < W.heap.size := fun x hx => hW'.lt x (by simp [hx])
  have l1 : ∀ x ∈ p1, x.block < W.heap.size := fun x hx => hW'.lt x (by simp [hx])
  have l2 : ∀ x ∈ p2, x.block < W.heap.size := fun x hx => hW'.lt x (by simp [hx])
  obtain ⟨a, b, c, d, rfl, wa, wb, wc, wd⟩ := open_rect (hval 0 26 v0 rfl rfl) h0
  obtain ⟨dx, rfl, _, _, wdx⟩ := open_int Try.underlying3 (hval 1 3 v1 rfl rfl) h1
  obtain ⟨dy, rfl, _, _, wdy⟩ := open_int Try.underlying3 (hval 2 3 v2 rfl rfl) h2
  refine (walk a b c d dx dy W).mono fun e W' ⟨he, hb⟩ => ?_
  subst he
  exact ⟨_, rfl, post_low (pa := p0 ++ (p1 ++ (p2 ++ ([])))) (pv := []) hW' (fun _ _ _ => (trodAll_cons_mk (shut_bool Try.underlying4 _) trodAll_mk0)) (fun sp hsp => (trodAll_cons_mk (trod_low laidOut (by kernel_rfl) (of_decide_eq_true (by kernel_rfl)) h0 hb l0 (fun x hx => hsp x (by simp [hx]))) (trodAll_cons_mk (trod_low laidOut (by kernel_rfl) (of_decide_eq_true (by kernel_rfl)) h1 hb l1 (fun x hx => hsp x (by simp [hx]))) (trodAll_cons_mk (trod_low laidOut (by kernel_rfl) (of_decide_eq_true (by kernel_rfl)) h2 hb l2 (fun x hx => hsp x (by simp [hx]))) trodAll_mk0)))) (fun _ _ => rfl) (by simp) hb (ok_one (by kernel_rfl) rfl (okWide_bool_mk Try.underlying4 _))⟩

theorem over : Rows.rectReducesRow.holds Try.pinned (OpenSpec.ofChange Rows.rectReducesSpec) :=
  OpenClaim.holds_of_wide 7 Try.f7 rfl rfl rfl rfl rfl rfl rfl ⟨rfl, rfl, rfl, rfl, rfl⟩ rfl rfl rfl rfl rfl (by kernel_rfl) Try.func7 (by kernel_rfl)
    (of_decide_eq_true (by kernel_rfl)) (by unfold Func.isWrapper; first | (rw [if_pos (by decide +kernel)]; kernel_rfl) | (rw [if_neg (by decide +kernel)]; exact ⟨rfl, rfl⟩))
    (fun os started H enc _ => lifted os started H enc)

theorem proved : Rows.RectReducesSaid :=
  over
#print axioms proved
end Go.Proofs.Ytaaljfpkfgjhpaa.rectReduces
