/-
  For all curves the statement HullConvex returns true; they read afterwards as before.
  Conditions: none beyond those of the given statement.
-/
import Derived.Test.YtoipgaolbjegnaaIe
import Derived.Test.YtoipgaolbjegnaaIf
import Derived.Test.YtoipgaolbjegnaaHcY
set_option maxRecDepth 100000
namespace Go.Proofs.Ytoipgaolbjegnaa.hullConvex
open Go.ChangeShapes Go.WideShapes Go.ChangeAt Go.RowKit Go.Joins Go.Deep

set_option maxHeartbeats 8000000 in
theorem walk (R D : List Int) (sr sd : Option Addr) (mr md : Nat) (W : World) (hR : HoldsI W sr R) (hD : HoldsI W sd D) : Calls Try.prog 8 #[.agg #[.slice sr R.length mr, .slice sd D.length md]] W fun e w' => e = .returned (.bool true) ∧ Below W.heap.size W w' := by
  by_cases hy : VP R D
  · have k := hc_y R D hy D.length mr md sr sd W hR hD rfl
    rw [show D.length = R.length from hy.1] at k ⊢
    exact k
  obtain ⟨WA, hWA⟩ : ∃ x, x = W.alloc (.cells #[.slice sr R.length mr, .slice sd D.length md] 24) := ⟨_, rfl⟩
  have hB : Below W.heap.size W WA := by rw [hWA]; exact below_alloc (Below.refl _ W) _
  have hX : Blk WA W.heap.size 24 #[.slice sr R.length mr, .slice sd D.length md] := by rw [hWA]; exact Blk.new W _ _
  have HB := Lib.hid hB
  have HX := Lib.hid hX
  have HR := Lib.hid (hR.below hB (Nat.le_refl _))
  have HD := Lib.hid (hD.below hB (Nat.le_refl _))
  have HWA := Lib.hid hWA
  obtain ⟨q0, q1⟩ := cv2 hX
  have kv := zvalid_c R D R.length D.length mr md sr sd WA HR.out HD.out rfl rfl
  have ke := ex20_c
  rw [hWA] at kv q0 q1
  clear hB hX hR hD hWA
  rw [decide_eq_false hy] at kv
  clear hy
  go_enter Try.func8, Try.ntmps8
  go_wp2_with (first | (go_at_call 13; (with_reducible refine kv.mono ?_); rintro e w1 ⟨rfl, hb⟩; have B1 := Lib.hid (show Below WA.heap.size WA w1 by rw [HWA.out]; exact hb); clear hb) | (go_at_call 11; (with_reducible refine (ke _).mono ?_); rintro e w9 ⟨rfl, hb9⟩; have B9 := Lib.hid (below_call (below_call HB.out B1.out) hb9); clear hb9) | fail)
  go_ret
  exact ⟨rfl, B9.out⟩

set_option maxRecDepth 100000 in
theorem lifted (os : Os) (started : os.Started) (H : Type) (enc : TypeId × Value → H) :
    ReturnsInHanded {} Try.checked os 8 .any (Rows.hullConvexSpec.pre6 enc Try.prog Try.f8 Rows.hullConvexRow.domain false) (Rows.hullConvexSpec.post enc Try.prog Try.f8 false true false false) := by
  refine returnsInHanded_of_change (C := Try.checked) own started (by kernel_rfl) Try.func8
    (ChangeSpec.witness6 (enc := enc) (C := Try.checked) false ⟨#[], #[.agg #[.slice none 0 0, .slice none 0 0]], []⟩ 8 (by kernel_rfl) (by kernel_rfl) (by kernel_rfl) (by kernel_rfl)) ?_
  intro W base args ds gs before hval0 hW _ _
  have hval : ∀ (j : Nat) t v, Try.f8.params[j]? = some t → args[j]? = some v → Value.okWide Try.prog W .any base t v := hval0
  have hW' := hW
  obtain ⟨p, q, hA0, hV, rfl, _, _⟩ := hW
  have hA : DataW.TrodAll enc Try.prog W 0 (fun _ => true) true Try.f8.params.toList args.toList ds p := hA0
  rw [Try.params8] at hA hval
  obtain ⟨v0, vs0, d0, ds0, p0, q0, hargs, rfl, rfl, h0, r0⟩ := trodAll_cons hA
  obtain ⟨rfl, rfl, rfl⟩ := trodAll_nil r0
  obtain rfl : args = #[v0] := by cases args; simp_all
  obtain ⟨rfl, rfl⟩ := trodVars_none hV
  clear hA0 hval0
  simp only [List.append_nil] at hW'
  have l0 : ∀ x ∈ p0, x.block < W.heap.size := fun x hx => hW'.lt x (by simp [hx])
  obtain ⟨R0, D0, sr0, sd0, mr0, md0, hC0⟩ := open_curve (hval 0 24 v0 rfl rfl) h0
  obtain ⟨rfl, hR0, hD0⟩ := hC0
  refine (walk R0 D0 sr0 sd0 mr0 md0 W hR0 hD0).mono fun e W' ⟨he, hb⟩ => ?_
  subst he
  exact ⟨_, rfl, post_low (pa := p0 ++ ([])) (pv := []) hW' (fun _ _ _ => (trodAll_cons_mk (shut_bool Try.underlying4 _) trodAll_mk0)) (fun sp hsp => (trodAll_cons_mk (trod_low laidOut (by kernel_rfl) (of_decide_eq_true (by kernel_rfl)) h0 hb l0 (fun x hx => hsp x (by simp [hx]))) trodAll_mk0)) (fun _ _ => rfl) (by simp) hb (ok_one (by kernel_rfl) rfl (okWide_bool_mk Try.underlying4 _))⟩

theorem over : Rows.hullConvexRow.holds Try.pinned (OpenSpec.ofChange Rows.hullConvexSpec) :=
  OpenClaim.holds_of_wide 8 Try.f8 rfl rfl rfl rfl rfl rfl rfl ⟨rfl, rfl, rfl, rfl, rfl⟩ rfl rfl rfl rfl rfl (by kernel_rfl) Try.func8 (by kernel_rfl)
    (of_decide_eq_true (by kernel_rfl)) (by unfold Func.isWrapper; first | (rw [if_pos (by decide +kernel)]; kernel_rfl) | (rw [if_neg (by decide +kernel)]; exact ⟨rfl, rfl⟩))
    (fun os started H enc _ => lifted os started H enc)

theorem proved : Rows.HullConvexSaid :=
  over
#print axioms proved
end Go.Proofs.Ytoipgaolbjegnaa.hullConvex
