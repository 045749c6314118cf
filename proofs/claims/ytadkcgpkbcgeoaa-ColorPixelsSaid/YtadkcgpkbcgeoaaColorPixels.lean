/-
  For all transforms t and pixels p the statement ColorPixels returns true. Its arguments read afterwards as before.
  Conditions: none beyond those of the given statement.
-/
import Derived.Test.YtadkcgpkbcgeoaaFrame
import Derived.Test.YtadkcgpkbcgeoaaEx07
import Derived.Test.YtadkcgpkbcgeoaaOpenQ
import Derived.Test.YtadkcgpkbcgeoaaLawA7
set_option maxRecDepth 100000
namespace Go.Proofs.Ytadkcgpkbcgeoaa.colorPixels
open Go.ChangeShapes Go.WideShapes Go.ChangeAt Go.RowKit Go.Joins Go.Deep

set_option maxRecDepth 100000 in
set_option maxHeartbeats 8000000 in
theorem no (t a b c : Int) (w : World) (hf : bnd3 a b c 281474976710656 = false) (ht : t = 1 ∨ t = 2) : Calls Try.prog 3 #[.int .i64 t, .agg #[.int .i64 a, .int .i64 b, .int .i64 c]] w fun e w' => e = .returned (.bool true) ∧ Below w.heap.size w w' := by
  rcases ht with rfl | rfl
  · skip
    have x := TBox.fresh w a b c 23
    have B := below_alloc (Below.refl _ w) (.cells #[.int .i64 a, .int .i64 b, .int .i64 c] 23)
    go_enter Try.func3, Try.ntmps3
    have c0 := x.c0
    have c1 := x.c1
    have c2 := x.c2
    go_wp2_with (first | (go_at_call 20; refine (bn_r _ _ _ _ _ (by decide) (by decide)).mono ?_; rintro e wn ⟨rfl, hw⟩; replace hw := hw.symm; subst hw))
    clear c0 c1 c2
    refine (example07_c _).mono ?_
    rintro e w1 ⟨rfl, hb⟩
    replace x := x.below hb
    replace B := below_call B hb
    clear hb
    have c0 := x.c0
    have c1 := x.c1
    have c2 := x.c2
    go_wp2_with fail
    clear c0 c1 c2
    go_ret
    exact ⟨rfl, B⟩
  · skip
    have x := TBox.fresh w a b c 23
    have B := below_alloc (Below.refl _ w) (.cells #[.int .i64 a, .int .i64 b, .int .i64 c] 23)
    go_enter Try.func3, Try.ntmps3
    have c0 := x.c0
    have c1 := x.c1
    have c2 := x.c2
    go_wp2_with (first | (go_at_call 20; refine (bn_r _ _ _ _ _ (by decide) (by decide)).mono ?_; rintro e wn ⟨rfl, hw⟩; replace hw := hw.symm; subst hw))
    clear c0 c1 c2
    refine (example07_c _).mono ?_
    rintro e w1 ⟨rfl, hb⟩
    replace x := x.below hb
    replace B := below_call B hb
    clear hb
    have c0 := x.c0
    have c1 := x.c1
    have c2 := x.c2
    go_wp2_with fail
    clear c0 c1 c2
    go_ret
    exact ⟨rfl, B⟩
set_option maxRecDepth 100000 in
set_option maxHeartbeats 8000000 in
theorem yes (t a b c : Int) (w : World) (hf : bnd3 a b c 281474976710656 = true) : Calls Try.prog 3 #[.int .i64 t, .agg #[.int .i64 a, .int .i64 b, .int .i64 c]] w fun e w' => e = .returned (.bool true) ∧ Below w.heap.size w w' := by
  have hok : Co.ok3 t a b c := fun _ => by have := bnd3_iff.1 hf; omega
  have x := TBox.fresh w a b c 23
  have B := below_alloc (Below.refl _ w) (.cells #[.int .i64 a, .int .i64 b, .int .i64 c] 23)
  go_enter Try.func3, Try.ntmps3
  have c0 := x.c0
  have c1 := x.c1
  have c2 := x.c2
  go_wp2_with (first | (go_at_call 20; refine (bn_r _ _ _ _ _ (by decide) (by decide)).mono ?_; rintro e wn ⟨rfl, hw⟩; replace hw := hw.symm; subst hw))
  clear c0 c1 c2
  refine (Fw_q _ _ _ _ _ hok).mono ?_
  rintro e w1 ⟨rfl, hb⟩
  replace x := x.below hb
  replace B := below_call B hb
  clear hb
  have c0 := x.c0
  have c1 := x.c1
  have c2 := x.c2
  go_wp2_with fail
  clear c0 c1 c2
  refine (Fw_r _ _ _ _ _ hok).mono ?_
  rintro e wn ⟨rfl, hw⟩
  replace hw := hw.symm
  subst hw
  have c0 := x.c0
  have c1 := x.c1
  have c2 := x.c2
  go_wp2_with fail
  clear c0 c1 c2
  refine (Iv_q _ _ _ _ _ hok).mono ?_
  rintro e w3 ⟨rfl, hb⟩
  replace x := x.below hb
  replace B := below_call B hb
  clear hb
  have c0 := x.c0
  have c1 := x.c1
  have c2 := x.c2
  go_wp2_with fail
  clear c0 c1 c2
  refine (Iv_r _ _ _ _ _ hok).mono ?_
  rintro e wn ⟨rfl, hw⟩
  replace hw := hw.symm
  subst hw
  have c0 := x.c0
  have c1 := x.c1
  have c2 := x.c2
  go_wp2_with fail
  clear c0 c1 c2
  refine (example07_c _).mono ?_
  rintro e w5 ⟨rfl, hb⟩
  replace x := x.below hb
  replace B := below_call B hb
  clear hb
  have c0 := x.c0
  have c1 := x.c1
  have c2 := x.c2
  go_wp2_with fail
  clear c0 c1 c2
  go_ret
  exact ⟨rfl, B⟩
set_option maxRecDepth 100000 in
set_option maxHeartbeats 8000000 in
theorem other (t a b c : Int) (w : World) (hf : bnd3 a b c 281474976710656 = false) (h1 : ¬ t = 1) (h2 : ¬ t = 2) : Calls Try.prog 3 #[.int .i64 t, .agg #[.int .i64 a, .int .i64 b, .int .i64 c]] w fun e w' => e = .returned (.bool true) ∧ Below w.heap.size w w' := by
  have hok : Co.ok3 t a b c := fun q => by omega
  have z1 : (t == 1) = false := by simp [h1]
  have z2 : (t == 2) = false := by simp [h2]
  have z3 : (t != 1) = true := by simp [h1]
  have z4 : (t != 2) = true := by simp [h2]
  have x := TBox.fresh w a b c 23
  have B := below_alloc (Below.refl _ w) (.cells #[.int .i64 a, .int .i64 b, .int .i64 c] 23)
  go_enter Try.func3, Try.ntmps3
  have c0 := x.c0
  have c1 := x.c1
  have c2 := x.c2
  go_wp2_with (first | (go_at_call 20; refine (bn_r _ _ _ _ _ (by decide) (by decide)).mono ?_; rintro e wn ⟨rfl, hw⟩; replace hw := hw.symm; subst hw))
  clear c0 c1 c2
  refine (Fw_q _ _ _ _ _ hok).mono ?_
  rintro e w1 ⟨rfl, hb⟩
  replace x := x.below hb
  replace B := below_call B hb
  clear hb
  have c0 := x.c0
  have c1 := x.c1
  have c2 := x.c2
  go_wp2_with fail
  clear c0 c1 c2
  refine (Fw_r _ _ _ _ _ hok).mono ?_
  rintro e wn ⟨rfl, hw⟩
  replace hw := hw.symm
  subst hw
  have c0 := x.c0
  have c1 := x.c1
  have c2 := x.c2
  go_wp2_with fail
  clear c0 c1 c2
  refine (Iv_q _ _ _ _ _ hok).mono ?_
  rintro e w3 ⟨rfl, hb⟩
  replace x := x.below hb
  replace B := below_call B hb
  clear hb
  have c0 := x.c0
  have c1 := x.c1
  have c2 := x.c2
  go_wp2_with fail
  clear c0 c1 c2
  refine (Iv_r _ _ _ _ _ hok).mono ?_
  rintro e wn ⟨rfl, hw⟩
  replace hw := hw.symm
  subst hw
  have c0 := x.c0
  have c1 := x.c1
  have c2 := x.c2
  go_wp2_with fail
  clear c0 c1 c2
  refine (example07_c _).mono ?_
  rintro e w5 ⟨rfl, hb⟩
  replace x := x.below hb
  replace B := below_call B hb
  clear hb
  have c0 := x.c0
  have c1 := x.c1
  have c2 := x.c2
  go_wp2_with fail
  clear c0 c1 c2
  go_ret
  exact ⟨rfl, B⟩
theorem walk (t a b c : Int) (w : World) : Calls Try.prog 3 #[.int .i64 t, .agg #[.int .i64 a, .int .i64 b, .int .i64 c]] w fun e w' => e = .returned (.bool true) ∧ Below w.heap.size w w' := by
  cases hf : bnd3 a b c 281474976710656 with
  | true => exact yes t a b c w hf
  | false =>
    by_cases h1 : t = 1
    · exact no t a b c w hf (.inl h1)
    by_cases h2 : t = 2
    · exact no t a b c w hf (.inr h2)
    exact other t a b c w hf h1 h2

set_option maxRecDepth 100000 in
theorem lifted (os : Os) (started : os.Started) (H : Type) (enc : TypeId × Value → H) :
    ReturnsInHanded {} Try.checked os 3 .any (Rows.colorPixelsSpec.pre6 enc Try.prog Try.f3 Rows.colorPixelsRow.domain false) (Rows.colorPixelsSpec.post enc Try.prog Try.f3 false true false false) := by
  refine returnsInHanded_of_change (C := Try.checked) own started (by kernel_rfl) Try.func3
    (ChangeSpec.witness6 (enc := enc) (C := Try.checked) false ⟨#[], #[.int .i64 0, .agg #[.int .i64 0, .int .i64 0, .int .i64 0]], []⟩ 8 (by kernel_rfl) (by kernel_rfl) (by kernel_rfl) (by kernel_rfl)) ?_
  intro W base args ds gs before hval0 hW _ _
  have hval : ∀ (j : Nat) t v, Try.f3.params[j]? = some t → args[j]? = some v → Value.okWide Try.prog W .any base t v := hval0
  have hW' := hW
  obtain ⟨p, q, hA0, hV, rfl, _, _⟩ := hW
  have hA : DataW.TrodAll enc Try.prog W 0 (fun _ => true) true Try.f3.params.toList args.toList ds p := hA0
  rw [Try.params3] at hA hval
  obtain ⟨v0, vs0, d0, ds0, p0, q0, hargs, rfl, rfl, h0, r0⟩ := trodAll_cons hA
  obtain ⟨v1, vs1, d1, ds1, p1, q1, rfl, rfl, rfl, h1, r1⟩ := trodAll_cons r0
  obtain ⟨rfl, rfl, rfl⟩ := trodAll_nil r1
  obtain rfl : args = #[v0, v1] := by cases args; simp_all
  obtain ⟨rfl, rfl⟩ := trodVars_none hV
  clear hA0 hval0
  simp only [List.append_nil] at hW'
  have l0 : ∀ x ∈ p0, x.block < W.heap.size := fun x hx => hW'.lt x (by simp [hx])
  have l1 : ∀ x ∈ p1, x.block < W.heap.size := fun x hx => hW'.lt x (by simp [hx])
  obtain ⟨t, rfl, _, _, w0⟩ := open_int Try.underlying22 (hval 0 22 v0 rfl rfl) h0
  obtain ⟨a, b, c, rfl, ba, bb, bc⟩ := open_arr3 (hval 1 23 v1 rfl rfl) h1
  refine (walk t a b c W).mono fun e W' ⟨he, hb⟩ => ?_
  subst he
  exact ⟨_, rfl, post_low (pa := p0 ++ (p1 ++ ([]))) (pv := []) hW' (fun _ _ _ => (trodAll_cons_mk (shut_bool Try.underlying4 _) trodAll_mk0)) (fun sp hsp => (trodAll_cons_mk (trod_low laidOut (by kernel_rfl) (of_decide_eq_true (by kernel_rfl)) h0 hb l0 (fun x hx => hsp x (by simp [hx]))) (trodAll_cons_mk (trod_low laidOut (by kernel_rfl) (of_decide_eq_true (by kernel_rfl)) h1 hb l1 (fun x hx => hsp x (by simp [hx]))) trodAll_mk0))) (fun _ _ => rfl) (by simp) hb (ok_one (by kernel_rfl) rfl (okWide_bool_mk Try.underlying4 _))⟩

theorem over : Rows.colorPixelsRow.holds Try.pinned (OpenSpec.ofChange Rows.colorPixelsSpec) :=
  OpenClaim.holds_of_wide 3 Try.f3 rfl rfl rfl rfl rfl rfl rfl ⟨rfl, rfl, rfl, rfl, rfl⟩ rfl rfl rfl rfl rfl (by kernel_rfl) Try.func3 (by kernel_rfl)
    (of_decide_eq_true (by kernel_rfl)) (by unfold Func.isWrapper; first | (rw [if_pos (by decide +kernel)]; kernel_rfl) | (rw [if_neg (by decide +kernel)]; exact ⟨rfl, rfl⟩))
    (fun os started H enc _ => lifted os started H enc)

theorem proved : Rows.ColorPixelsSaid :=
  over
#print axioms proved
end Go.Proofs.Ytadkcgpkbcgeoaa.colorPixels
