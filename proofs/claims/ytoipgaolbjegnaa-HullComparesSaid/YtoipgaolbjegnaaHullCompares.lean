/-
  For all pairs of numbers the statement HullCompares returns true; they read afterwards as before.
  Conditions: none beyond those of the given statement.
-/
import Derived.Test.YtoipgaolbjegnaaIe
import Derived.Test.YtoipgaolbjegnaaIf
import Derived.Test.YtoipgaolbjegnaaIg
set_option maxRecDepth 100000
namespace Go.Proofs.Ytoipgaolbjegnaa.hullCompares
open Go.ChangeShapes Go.WideShapes Go.ChangeAt Go.RowKit Go.Joins Go.Deep

set_option maxHeartbeats 8000000 in
theorem walk (a b c d : Int) (W : World) : Calls Try.prog 4 #[.agg #[.int .i64 a, .int .i64 b], .agg #[.int .i64 c, .int .i64 d]] W fun e w' => e = .returned (.bool true) ∧ Below W.heap.size W w' := by
  obtain ⟨X, hX⟩ : ∃ X, X = (W.alloc (.cells #[.int .i64 a, .int .i64 b] 27)).alloc (.cells #[.int .i64 c, .int .i64 d] 27) := ⟨_, rfl⟩
  have hb : Below W.heap.size W X.drew := by rw [hX]; exact (below_alloc (below_alloc (Below.refl _ W) _) _).drew
  have h1 : Blk X.drew W.heap.size 27 #[.int .i64 a, .int .i64 b] := by rw [hX]; exact ((Blk.new W _ _).alloc _).drew
  have h2 : Blk X.drew (W.heap.size + 1) 27 #[.int .i64 c, .int .i64 d] := by
    have := Blk.new (W.alloc (.cells #[.int .i64 a, .int .i64 b] 27)) 27 #[.int .i64 c, .int .i64 d]
    rw [hX]; exact Blk.drew (by simpa using this)
  have k1 := hsteeper_c a b c d X.drew
  have k2 := zsteeper_c a b c d X.drew
  have ke := ex20_c X.drew
  have z0 : X.drew.cell? ⟨W.heap.size, 0, none⟩ = some (.int .i64 a) ∧ X.drew.cell? ⟨W.heap.size, 1, none⟩ = some (.int .i64 b) ∧ X.drew.cell? ⟨W.heap.size + 1, 0, none⟩ = some (.int .i64 c) ∧ X.drew.cell? ⟨W.heap.size + 1, 1, none⟩ = some (.int .i64 d) := ⟨h1.cell 0, h1.cell 1, h2.cell 0, h2.cell 1⟩
  have H1 := Lib.hid h1
  have H2 := Lib.hid h2
  have HB := Lib.hid hb
  have HX := Lib.hid hX
  rw [hX] at k1 k2 ke z0
  clear h1 h2 hb hX
  generalize steep a b c d = r at *
  have hrr : (r == r) = true := by simp
  go_enter Try.func4, Try.ntmps4
  go_wp2_with fail
  go_region_held3 (fun w' => w'.cell? ⟨W.heap.size, 0, none⟩ = some (.int .i64 a) ∧ w'.cell? ⟨W.heap.size, 1, none⟩ = some (.int .i64 b) ∧ w'.cell? ⟨W.heap.size + 1, 0, none⟩ = some (.int .i64 c) ∧ w'.cell? ⟨W.heap.size + 1, 1, none⟩ = some (.int .i64 d))
    (first | (with_reducible exact z0) | (with_reducible exact z1) | fail)
    (first | (go_simp; go_at_call 14; (with_reducible refine k1.mono ?_); rintro e wn ⟨rfl, rfl⟩) | (go_simp; go_at_call 15; (with_reducible refine k2.mono ?_); rintro e wn ⟨rfl, rfl⟩) | (go_simp; go_at_call 11; (with_reducible refine ke.mono ?_); rintro e w5 ⟨rfl, hb5⟩; have B5 := Lib.hid (below_call HB.out (by rw [HX.out]; exact hb5)); have z1 : w5.cell? ⟨W.heap.size, 0, none⟩ = some (.int .i64 a) ∧ w5.cell? ⟨W.heap.size, 1, none⟩ = some (.int .i64 b) ∧ w5.cell? ⟨W.heap.size + 1, 0, none⟩ = some (.int .i64 c) ∧ w5.cell? ⟨W.heap.size + 1, 1, none⟩ = some (.int .i64 d) := ⟨(H1.out.below (by rw [HX.out]; exact hb5)).cell 0, (H1.out.below (by rw [HX.out]; exact hb5)).cell 1, (H2.out.below (by rw [HX.out]; exact hb5)).cell 0, (H2.out.below (by rw [HX.out]; exact hb5)).cell 1⟩; clear hb5) | fail)
  all_goals
    go_wp2_with fail
    go_ret
    exact ⟨rfl, B5.out⟩

set_option maxRecDepth 100000 in
theorem lifted (os : Os) (started : os.Started) (H : Type) (enc : TypeId × Value → H) :
    ReturnsInHanded {} Try.checked os 4 .any (Rows.hullComparesSpec.pre6 enc Try.prog Try.f4 Rows.hullComparesRow.domain false) (Rows.hullComparesSpec.post enc Try.prog Try.f4 false true false false) := by
  refine returnsInHanded_of_change (C := Try.checked) own started (by kernel_rfl) Try.func4
    (ChangeSpec.witness6 (enc := enc) (C := Try.checked) false ⟨#[], #[.agg #[.int .i64 0, .int .i64 0], .agg #[.int .i64 0, .int .i64 0]], []⟩ 8 (by kernel_rfl) (by kernel_rfl) (by kernel_rfl) (by kernel_rfl)) ?_
  intro W base args ds gs before hval0 hW _ _
  have hval : ∀ (j : Nat) t v, Try.f4.params[j]? = some t → args[j]? = some v → Value.okWide Try.prog W .any base t v := hval0
  have hW' := hW
  obtain ⟨p, q, hA0, hV, rfl, _, _⟩ := hW
  have hA : DataW.TrodAll enc Try.prog W 0 (fun _ => true) true Try.f4.params.toList args.toList ds p := hA0
  rw [Try.params4] at hA hval
  obtain ⟨v0, vs0, d0, ds0, p0, q0, hargs, rfl, rfl, h0, r0⟩ := trodAll_cons hA
  obtain ⟨v1, vs1, d1, ds1, p1, q1, rfl, rfl, rfl, h1, r1⟩ := trodAll_cons r0
  obtain ⟨rfl, rfl, rfl⟩ := trodAll_nil r1
  obtain rfl : args = #[v0, v1] := by cases args; simp_all
  obtain ⟨rfl, rfl⟩ := trodVars_none hV
  clear hA0 hval0
  simp only [List.append_nil] at hW'
  have l0 : ∀ x ∈ p0, x.block < W.heap.size := fun x hx => hW'.lt x (by simp [hx])
  have l1 : ∀ x ∈ p1, x.block < W.heap.size := fun x hx => hW'.lt x (by simp [hx])
  obtain ⟨a0, b0, rfl, ra0, rb0⟩ := open_N2 (hval 0 27 v0 rfl rfl) h0
  obtain ⟨a1, b1, rfl, ra1, rb1⟩ := open_N2 (hval 1 27 v1 rfl rfl) h1
  refine (walk a0 b0 a1 b1 W).mono fun e W' ⟨he, hb⟩ => ?_
  subst he
  exact ⟨_, rfl, post_low (pa := p0 ++ (p1 ++ ([]))) (pv := []) hW' (fun _ _ _ => (trodAll_cons_mk (shut_bool Try.underlying4 _) trodAll_mk0)) (fun sp hsp => (trodAll_cons_mk (trod_low laidOut (by kernel_rfl) (of_decide_eq_true (by kernel_rfl)) h0 hb l0 (fun x hx => hsp x (by simp [hx]))) (trodAll_cons_mk (trod_low laidOut (by kernel_rfl) (of_decide_eq_true (by kernel_rfl)) h1 hb l1 (fun x hx => hsp x (by simp [hx]))) trodAll_mk0))) (fun _ _ => rfl) (by simp) hb (ok_one (by kernel_rfl) rfl (okWide_bool_mk Try.underlying4 _))⟩

theorem over : Rows.hullComparesRow.holds Try.pinned (OpenSpec.ofChange Rows.hullComparesSpec) :=
  OpenClaim.holds_of_wide 4 Try.f4 rfl rfl rfl rfl rfl rfl rfl ⟨rfl, rfl, rfl, rfl, rfl⟩ rfl rfl rfl rfl rfl (by kernel_rfl) Try.func4 (by kernel_rfl)
    (of_decide_eq_true (by kernel_rfl)) (by unfold Func.isWrapper; first | (rw [if_pos (by decide +kernel)]; kernel_rfl) | (rw [if_neg (by decide +kernel)]; exact ⟨rfl, rfl⟩))
    (fun os started H enc _ => lifted os started H enc)

theorem proved : Rows.HullComparesSaid :=
  over
#print axioms proved
end Go.Proofs.Ytoipgaolbjegnaa.hullCompares
