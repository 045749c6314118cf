/-
  For all rectangles r the statement DwtBands returns true, and its argument reads afterwards as before.
  Conditions: none beyond those of the given statement.
-/
import Derived.Test.YtnfnidgabgdphaaFrame
import Derived.Test.YtnfnidgabgdphaaOpenP
import Derived.Test.YtnfnidgabgdphaaAwk
set_option maxRecDepth 100000
namespace Go.Proofs.Ytnfnidgabgdphaa.dwtBands
open Go.ChangeShapes Go.WideShapes Go.ChangeAt Go.RowKit Go.Joins Go.Deep

structure Bw (w : World) (r : Pl.R) (W : World) : Prop where
  below : Below w.heap.size w W
  box : Box W w.heap.size r
theorem Bw.step {w W W1 : World} {r : Pl.R} (h : Bw w r W) (hb : Below W.heap.size W W1) : Bw w r W1 := ⟨below_call h.below hb, h.box.below hb⟩
set_option maxRecDepth 100000 in
set_option maxHeartbeats 8000000 in
theorem walk (a b c d : Int) (w : World) : Calls Try.prog 3 #[.agg #[.int .i64 a, .int .i64 b, .int .i64 c, .int .i64 d]] w fun e w' => e = .returned (.bool true) ∧ Below w.heap.size w w' := by
  have x0 : Bw w ⟨a, b, c, d⟩ (w.alloc (.cells #[.int .i64 a, .int .i64 b, .int .i64 c, .int .i64 d] 23)) := ⟨below_alloc (Below.refl _ w) _, Box.fresh w a b c d 23⟩
  obtain ⟨A, hA⟩ : ∃ A, A = arr4 (bnds ⟨a, b, c, d⟩) := ⟨_, rfl⟩
  have cB := fun W => bands_q a b c d W
  have cR := fun W => bands_r a b c d W
  have heq := fun W => eqA (bnds ⟨a, b, c, d⟩) W
  rw [← hA] at cB cR heq
  clear hA
  go_enter Try.func3, Try.ntmps3
  go_wp2_with fail
  have hst := Fam.next (I := Bw w ⟨a, b, c, d⟩) (fun _ _ p q => p.step q)
  have hne : Nonempty (Fam (Bw w ⟨a, b, c, d⟩)) := ⟨⟨_, x0⟩⟩
  have c0 : ∀ X : Fam (Bw w ⟨a, b, c, d⟩), X.W.cell? ⟨w.heap.size, 0, none⟩ = some (.int .i64 a) := fun X => X.ok.box.open.1
  have c1 : ∀ X : Fam (Bw w ⟨a, b, c, d⟩), X.W.cell? ⟨w.heap.size, 1, none⟩ = some (.int .i64 b) := fun X => X.ok.box.open.2.1
  have c2 : ∀ X : Fam (Bw w ⟨a, b, c, d⟩), X.W.cell? ⟨w.heap.size, 2, none⟩ = some (.int .i64 c) := fun X => X.ok.box.open.2.2.1
  have c3 : ∀ X : Fam (Bw w ⟨a, b, c, d⟩), X.W.cell? ⟨w.heap.size, 3, none⟩ = some (.int .i64 d) := fun X => X.ok.box.open.2.2.2
  refine wp_region_in (fun X : Fam (Bw w ⟨a, b, c, d⟩) => X.W) (by kernel_rfl) (by kernel_rfl) ⟨⟨_, x0.step (Below.refl _ _).drew⟩, rfl⟩ ?_
  repeat (first | go_big_quiet_step ((first | (go_at_call 17; exact call_in (cB _) (hst _)) | (go_at_call 18; exact call_in (cR _) (hst _)) | (go_at_call 19; exact call_in (awake_c _) (hst _)))) | quiet_step ((first | (go_at_call 17; exact call_in (cB _) (hst _)) | (go_at_call 18; exact call_in (cR _) (hst _)) | (go_at_call 19; exact call_in (awake_c _) (hst _)))))
  refine wpQuiet_nil ?_
  intro w5 hw'
  obtain ⟨⟨_, hS5⟩, hw''⟩ := hw'
  subst hw''
  clear hst hne c0 c1 c2 c3
  go_wp2
  go_ret
  exact ⟨rfl, hS5.below⟩

set_option maxRecDepth 100000 in
theorem lifted (os : Os) (started : os.Started) (H : Type) (enc : TypeId × Value → H) :
    ReturnsInHanded {} Try.checked os 3 .any (Rows.dwtBandsSpec.pre6 enc Try.prog Try.f3 Rows.dwtBandsRow.domain false) (Rows.dwtBandsSpec.post enc Try.prog Try.f3 false true false false) := by
  refine returnsInHanded_of_change (C := Try.checked) own started (by kernel_rfl) Try.func3
    (ChangeSpec.witness6 (enc := enc) (C := Try.checked) false ⟨#[], #[.agg #[.int .i64 0, .int .i64 0, .int .i64 0, .int .i64 0]], []⟩ 8 (by kernel_rfl) (by kernel_rfl) (by kernel_rfl) (by kernel_rfl)) ?_
  intro W base args ds gs before hval0 hW _ _
  have hval : ∀ (j : Nat) t v, Try.f3.params[j]? = some t → args[j]? = some v → Value.okWide Try.prog W .any base t v := hval0
  have hW' := hW
  obtain ⟨p, q, hA0, hV, rfl, _, _⟩ := hW
  have hA : DataW.TrodAll enc Try.prog W 0 (fun _ => true) true Try.f3.params.toList args.toList ds p := hA0
  rw [Try.params3] at hA hval
  obtain ⟨v0, vs0, d0, ds0, p0, q0, hargs, rfl, rfl, h0, r0⟩ := trodAll_cons hA
  obtain ⟨rfl, rfl, rfl⟩ := trodAll_nil r0
  obtain rfl : args = #[v0] := by cases args; simp_all
  obtain ⟨rfl, rfl⟩ := trodVars_none hV
  clear hA0 hval0
  simp only [List.append_nil] at hW'
  have l0 : ∀ x ∈ p0, x.block < W.heap.size := fun x hx => hW'.lt x (by simp [hx])
  obtain ⟨a, b, c, d, rfl, w0a, w0b, w0c, w0d⟩ := open_rect (hval 0 23 v0 rfl rfl) h0
  refine (walk a b c d W).mono fun e W' ⟨he, hb⟩ => ?_
  subst he
  exact ⟨_, rfl, post_low (pa := p0 ++ ([])) (pv := []) hW' (fun _ _ _ => (trodAll_cons_mk (shut_bool Try.underlying4 _) trodAll_mk0)) (fun sp hsp => (trodAll_cons_mk (trod_low laidOut (by kernel_rfl) (of_decide_eq_true (by kernel_rfl)) h0 hb l0 (fun x hx => hsp x (by simp [hx]))) trodAll_mk0)) (fun _ _ => rfl) (by simp) hb (ok_one (by kernel_rfl) rfl (okWide_bool_mk Try.underlying4 _))⟩

theorem over : Rows.dwtBandsRow.holds Try.pinned (OpenSpec.ofChange Rows.dwtBandsSpec) :=
  OpenClaim.holds_of_wide 3 Try.f3 rfl rfl rfl rfl rfl rfl rfl ⟨rfl, rfl, rfl, rfl, rfl⟩ rfl rfl rfl rfl rfl (by kernel_rfl) Try.func3 (by kernel_rfl)
    (of_decide_eq_true (by kernel_rfl)) (by unfold Func.isWrapper; first | (rw [if_pos (by decide +kernel)]; kernel_rfl) | (rw [if_neg (by decide +kernel)]; exact ⟨rfl, rfl⟩))
    (fun os started H enc _ => lifted os started H enc)

theorem proved : Rows.DwtBandsSaid :=
  over
#print axioms proved
end Go.Proofs.Ytnfnidgabgdphaa.dwtBands
