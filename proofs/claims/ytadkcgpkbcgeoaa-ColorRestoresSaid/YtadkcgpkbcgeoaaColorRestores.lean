/-
  For all transforms t, pixels p and integers d the statement ColorRestores returns true. Its arguments read afterwards as before.
  Conditions: none beyond those of the given statement.
-/
import Derived.Test.YtadkcgpkbcgeoaaFrame
import Derived.Test.YtadkcgpkbcgeoaaEx07
import Derived.Test.YtadkcgpkbcgeoaaOpenQ
import Derived.Test.YtadkcgpkbcgeoaaLawA7
set_option maxRecDepth 100000
namespace Go.Proofs.Ytadkcgpkbcgeoaa.colorRestores
open Go.ChangeShapes Go.WideShapes Go.ChangeAt Go.RowKit Go.Joins Go.Deep

set_option maxRecDepth 100000 in
set_option maxHeartbeats 8000000 in
theorem no1 (t a b c d : Int) (w : World) (hf : bnd3 a b c 1048576 = false) : Calls Try.prog 8 #[.int .i64 t, .agg #[.int .i64 a, .int .i64 b, .int .i64 c], .int .i64 d] w fun e w' => e = .returned (.bool true) ∧ Below w.heap.size w w' := by
  have x := TBox.fresh w a b c 23
  have B := below_alloc (Below.refl _ w) (.cells #[.int .i64 a, .int .i64 b, .int .i64 c] 23)
  go_enter Try.func8, Try.ntmps8
  have c0 := x.c0
  have c1 := x.c1
  have c2 := x.c2
  go_wp2_with (first | (go_at_call 20; refine (bn_r _ _ _ _ _ (by decide) (by decide)).mono ?_; rintro e wn ⟨rfl, hw⟩; replace hw := hw.symm; subst hw))
  clear c0 c1 c2
  refine (example07_c _).mono ?_
  rintro e w1 ⟨rfl, hb⟩
  replace x := x.below hb
  replace B := below_call B hb
  clear hb
  have c0 := x.c0
  have c1 := x.c1
  have c2 := x.c2
  go_wp2_with fail
  clear c0 c1 c2
  go_ret
  exact ⟨rfl, B⟩
set_option maxRecDepth 100000 in
set_option maxHeartbeats 8000000 in
theorem no2 (t a b c d : Int) (w : World) (hf : bnd3 a b c 1048576 = true) (hg : bnd3 d d d 1048576 = false) : Calls Try.prog 8 #[.int .i64 t, .agg #[.int .i64 a, .int .i64 b, .int .i64 c], .int .i64 d] w fun e w' => e = .returned (.bool true) ∧ Below w.heap.size w w' := by
  have x := TBox.fresh w a b c 23
  have B := below_alloc (Below.refl _ w) (.cells #[.int .i64 a, .int .i64 b, .int .i64 c] 23)
  go_enter Try.func8, Try.ntmps8
  have c0 := x.c0
  have c1 := x.c1
  have c2 := x.c2
  go_wp2_with (first | (go_at_call 20; refine (bn_r _ _ _ _ _ (by decide) (by decide)).mono ?_; rintro e wn ⟨rfl, hw⟩; replace hw := hw.symm; subst hw))
  clear c0 c1 c2
  refine (example07_c _).mono ?_
  rintro e w1 ⟨rfl, hb⟩
  replace x := x.below hb
  replace B := below_call B hb
  clear hb
  have c0 := x.c0
  have c1 := x.c1
  have c2 := x.c2
  go_wp2_with fail
  clear c0 c1 c2
  go_ret
  exact ⟨rfl, B⟩
set_option maxRecDepth 100000 in
set_option maxHeartbeats 8000000 in
theorem other (t a b c d : Int) (w : World) (hf : bnd3 a b c 1048576 = true) (hg : bnd3 d d d 1048576 = true) (h1 : ¬ t = 1) (h2 : ¬ t = 2) : Calls Try.prog 8 #[.int .i64 t, .agg #[.int .i64 a, .int .i64 b, .int .i64 c], .int .i64 d] w fun e w' => e = .returned (.bool true) ∧ Below w.heap.size w w' := by
  have hb3 := bnd3_iff.1 hf
  have hd3 := bnd3_iff.1 hg
  have hok : Co.ok3 t a b c := fun _ => by omega
  have hf1 : Co.ok3 t (Co.fwY t a b c) (Co.fwU t a b c) (Co.fwV t a b c) := fun q => by
    unfold Co.fwY Co.fwU Co.fwV
    rcases q with rfl | rfl <;> simp <;> omega
  have hf2 : Co.ok3 t (Co.ivA t a b c) (Co.ivB t a b c) (Co.ivC t a b c) := fun q => by
    unfold Co.ivA Co.ivB Co.ivC
    rcases q with rfl | rfl <;> simp <;> omega
  obtain ⟨i1, i2, i3⟩ := Co.inv_fw t a b c
  obtain ⟨j1, j2, j3⟩ := Co.fw_inv t a b c
  have cF := fun W => Fw_q t a b c W hok
  have cI := fun W => Iv_q t _ _ _ W hf1
  have cJ := fun W => Iv_q t a b c W hok
  have cG := fun W => Fw_q t _ _ _ W hf2
  rw [i1, i2, i3] at cI
  rw [j1, j2, j3] at cG
  have z1 : (t == 1) = false := by simp [h1]
  have z2 : (t == 2) = false := by simp [h2]
  have z3 : (t != 1) = true := by simp [h1]
  have z4 : (t != 2) = true := by simp [h2]
  clear hb3 hd3 hok hf1 hf2 i1 i2 i3 j1 j2 j3
  have x := TBox.fresh w a b c 23
  have B := below_alloc (Below.refl _ w) (.cells #[.int .i64 a, .int .i64 b, .int .i64 c] 23)
  go_enter Try.func8, Try.ntmps8
  have c0 := x.c0
  have c1 := x.c1
  have c2 := x.c2
  go_wp2_with (first | (go_at_call 20; refine (bn_r _ _ _ _ _ (by decide) (by decide)).mono ?_; rintro e wn ⟨rfl, hw⟩; replace hw := hw.symm; subst hw))
  clear c0 c1 c2
  refine (cF _).mono ?_
  rintro e w1 ⟨rfl, hb⟩
  replace x := x.below hb
  replace B := below_call B hb
  clear hb
  have c0 := x.c0
  have c1 := x.c1
  have c2 := x.c2
  go_wp2_with fail
  clear c0 c1 c2
  refine (cI _).mono ?_
  rintro e w2 ⟨rfl, hb⟩
  replace x := x.below hb
  replace B := below_call B hb
  clear hb
  have c0 := x.c0
  have c1 := x.c1
  have c2 := x.c2
  go_wp2_with fail
  clear c0 c1 c2
  refine (cJ _).mono ?_
  rintro e w3 ⟨rfl, hb⟩
  replace x := x.below hb
  replace B := below_call B hb
  clear hb
  have c0 := x.c0
  have c1 := x.c1
  have c2 := x.c2
  go_wp2_with fail
  clear c0 c1 c2
  refine (cG _).mono ?_
  rintro e w4 ⟨rfl, hb⟩
  replace x := x.below hb
  replace B := below_call B hb
  clear hb
  have c0 := x.c0
  have c1 := x.c1
  have c2 := x.c2
  go_wp2_with fail
  clear c0 c1 c2
  refine (example07_c _).mono ?_
  rintro e w5 ⟨rfl, hb⟩
  replace x := x.below hb
  replace B := below_call B hb
  clear hb
  have c0 := x.c0
  have c1 := x.c1
  have c2 := x.c2
  go_wp2_with fail
  clear c0 c1 c2
  go_ret
  exact ⟨rfl, B⟩
set_option maxRecDepth 100000 in
set_option maxHeartbeats 8000000 in
theorem main (t a b c d : Int) (w : World) (hf : bnd3 a b c 1048576 = true) (hg : bnd3 d d d 1048576 = true) (ht : t = 1 ∨ t = 2) : Calls Try.prog 8 #[.int .i64 t, .agg #[.int .i64 a, .int .i64 b, .int .i64 c], .int .i64 d] w fun e w' => e = .returned (.bool true) ∧ Below w.heap.size w w' := by
  have hb3 := bnd3_iff.1 hf
  have hd3 := bnd3_iff.1 hg
  have hok : Co.ok3 t a b c := fun _ => by omega
  have hf1 : Co.ok3 t (Co.fwY t a b c) (Co.fwU t a b c) (Co.fwV t a b c) := fun q => by
    unfold Co.fwY Co.fwU Co.fwV
    rcases q with rfl | rfl <;> simp <;> omega
  have hf2 : Co.ok3 t (Co.ivA t a b c) (Co.ivB t a b c) (Co.ivC t a b c) := fun q => by
    unfold Co.ivA Co.ivB Co.ivC
    rcases q with rfl | rfl <;> simp <;> omega
  obtain ⟨i1, i2, i3⟩ := Co.inv_fw t a b c
  obtain ⟨j1, j2, j3⟩ := Co.fw_inv t a b c
  have cF := fun W => Fw_q t a b c W hok
  have cI := fun W => Iv_q t _ _ _ W hf1
  have cJ := fun W => Iv_q t a b c W hok
  have cG := fun W => Fw_q t _ _ _ W hf2
  rw [i1, i2, i3] at cI
  rw [j1, j2, j3] at cG
  have hok2 : Co.ok3 t d d d := fun _ => by omega
  have hok3 : Co.ok3 t (a + d) (b + d) (c + d) := fun _ => by omega
  have cD := fun W => Fw_q t d d d W hok2
  have cE := fun W => Fw_q t (a + d) (b + d) (c + d) W hok3
  have e1 : Co.fwY t d d d = d ∧ Co.fwU t d d d = 0 ∧ Co.fwV t d d d = 0 := by
    unfold Co.fwY Co.fwU Co.fwV
    rcases ht with rfl | rfl <;> simp <;> omega
  have e2 : Co.fwY t (a + d) (b + d) (c + d) = Co.fwY t a b c + d ∧ Co.fwU t (a + d) (b + d) (c + d) = Co.fwU t a b c ∧ Co.fwV t (a + d) (b + d) (c + d) = Co.fwV t a b c := by
    unfold Co.fwY Co.fwU Co.fwV
    rcases ht with rfl | rfl <;> simp <;> omega
  have yb := hf1 ht
  rw [e1.1, e1.2.1, e1.2.2] at cD
  rw [e2.1, e2.2.1, e2.2.2] at cE
  have q1 : IntKind.i64.wrap (a + d) = a + d := i64_in' _ (by omega) (by omega)
  have q2 : IntKind.i64.wrap (b + d) = b + d := i64_in' _ (by omega) (by omega)
  have q3 : IntKind.i64.wrap (c + d) = c + d := i64_in' _ (by omega) (by omega)
  have q4 : IntKind.i64.wrap (Co.fwY t a b c + d) = Co.fwY t a b c + d := i64_in' _ (by omega) (by omega)
  clear hb3 hd3 hok hf1 hf2 i1 i2 i3 j1 j2 j3 e1 e2 yb hok2 hok3
  rcases ht with rfl | rfl
  · skip
    have x := TBox.fresh w a b c 23
    have B := below_alloc (Below.refl _ w) (.cells #[.int .i64 a, .int .i64 b, .int .i64 c] 23)
    go_enter Try.func8, Try.ntmps8
    have c0 := x.c0
    have c1 := x.c1
    have c2 := x.c2
    go_wp2_with (first | (go_at_call 20; refine (bn_r _ _ _ _ _ (by decide) (by decide)).mono ?_; rintro e wn ⟨rfl, hw⟩; replace hw := hw.symm; subst hw))
    clear c0 c1 c2
    refine (cF _).mono ?_
    rintro e w1 ⟨rfl, hb⟩
    replace x := x.below hb
    replace B := below_call B hb
    clear hb
    have c0 := x.c0
    have c1 := x.c1
    have c2 := x.c2
    go_wp2_with fail
    clear c0 c1 c2
    refine (cI _).mono ?_
    rintro e w2 ⟨rfl, hb⟩
    replace x := x.below hb
    replace B := below_call B hb
    clear hb
    have c0 := x.c0
    have c1 := x.c1
    have c2 := x.c2
    go_wp2_with fail
    clear c0 c1 c2
    refine (cJ _).mono ?_
    rintro e w3 ⟨rfl, hb⟩
    replace x := x.below hb
    replace B := below_call B hb
    clear hb
    have c0 := x.c0
    have c1 := x.c1
    have c2 := x.c2
    go_wp2_with fail
    clear c0 c1 c2
    refine (cG _).mono ?_
    rintro e w4 ⟨rfl, hb⟩
    replace x := x.below hb
    replace B := below_call B hb
    clear hb
    have c0 := x.c0
    have c1 := x.c1
    have c2 := x.c2
    go_wp2_with fail
    clear c0 c1 c2
    refine (cD _).mono ?_
    rintro e w5 ⟨rfl, hb⟩
    replace x := x.below hb
    replace B := below_call B hb
    clear hb
    have c0 := x.c0
    have c1 := x.c1
    have c2 := x.c2
    go_wp2_with fail
    clear c0 c1 c2
    refine (cE _).mono ?_
    rintro e w6 ⟨rfl, hb⟩
    replace x := x.below hb
    replace B := below_call B hb
    clear hb
    have c0 := x.c0
    have c1 := x.c1
    have c2 := x.c2
    go_wp2_with fail
    clear c0 c1 c2
    refine (example07_c _).mono ?_
    rintro e w7 ⟨rfl, hb⟩
    replace x := x.below hb
    replace B := below_call B hb
    clear hb
    have c0 := x.c0
    have c1 := x.c1
    have c2 := x.c2
    go_wp2_with fail
    clear c0 c1 c2
    go_ret
    exact ⟨rfl, B⟩
  · skip
    have x := TBox.fresh w a b c 23
    have B := below_alloc (Below.refl _ w) (.cells #[.int .i64 a, .int .i64 b, .int .i64 c] 23)
    go_enter Try.func8, Try.ntmps8
    have c0 := x.c0
    have c1 := x.c1
    have c2 := x.c2
    go_wp2_with (first | (go_at_call 20; refine (bn_r _ _ _ _ _ (by decide) (by decide)).mono ?_; rintro e wn ⟨rfl, hw⟩; replace hw := hw.symm; subst hw))
    clear c0 c1 c2
    refine (cF _).mono ?_
    rintro e w1 ⟨rfl, hb⟩
    replace x := x.below hb
    replace B := below_call B hb
    clear hb
    have c0 := x.c0
    have c1 := x.c1
    have c2 := x.c2
    go_wp2_with fail
    clear c0 c1 c2
    refine (cI _).mono ?_
    rintro e w2 ⟨rfl, hb⟩
    replace x := x.below hb
    replace B := below_call B hb
    clear hb
    have c0 := x.c0
    have c1 := x.c1
    have c2 := x.c2
    go_wp2_with fail
    clear c0 c1 c2
    refine (cJ _).mono ?_
    rintro e w3 ⟨rfl, hb⟩
    replace x := x.below hb
    replace B := below_call B hb
    clear hb
    have c0 := x.c0
    have c1 := x.c1
    have c2 := x.c2
    go_wp2_with fail
    clear c0 c1 c2
    refine (cG _).mono ?_
    rintro e w4 ⟨rfl, hb⟩
    replace x := x.below hb
    replace B := below_call B hb
    clear hb
    have c0 := x.c0
    have c1 := x.c1
    have c2 := x.c2
    go_wp2_with fail
    clear c0 c1 c2
    refine (cD _).mono ?_
    rintro e w5 ⟨rfl, hb⟩
    replace x := x.below hb
    replace B := below_call B hb
    clear hb
    have c0 := x.c0
    have c1 := x.c1
    have c2 := x.c2
    go_wp2_with fail
    clear c0 c1 c2
    refine (cE _).mono ?_
    rintro e w6 ⟨rfl, hb⟩
    replace x := x.below hb
    replace B := below_call B hb
    clear hb
    have c0 := x.c0
    have c1 := x.c1
    have c2 := x.c2
    go_wp2_with fail
    clear c0 c1 c2
    refine (example07_c _).mono ?_
    rintro e w7 ⟨rfl, hb⟩
    replace x := x.below hb
    replace B := below_call B hb
    clear hb
    have c0 := x.c0
    have c1 := x.c1
    have c2 := x.c2
    go_wp2_with fail
    clear c0 c1 c2
    go_ret
    exact ⟨rfl, B⟩
theorem walk (t a b c d : Int) (w : World) : Calls Try.prog 8 #[.int .i64 t, .agg #[.int .i64 a, .int .i64 b, .int .i64 c], .int .i64 d] w fun e w' => e = .returned (.bool true) ∧ Below w.heap.size w w' := by
  cases hf : bnd3 a b c 1048576 with
  | false => exact no1 t a b c d w hf
  | true =>
    cases hg : bnd3 d d d 1048576 with
    | false => exact no2 t a b c d w hf hg
    | true =>
      by_cases h1 : t = 1
      · exact main t a b c d w hf hg (.inl h1)
      by_cases h2 : t = 2
      · exact main t a b c d w hf hg (.inr h2)
      exact other t a b c d w hf hg h1 h2

set_option maxRecDepth 100000 in
theorem lifted (os : Os) (started : os.Started) (H : Type) (enc : TypeId × Value → H) :
    ReturnsInHanded {} Try.checked os 8 .any (Rows.colorRestoresSpec.pre6 enc Try.prog Try.f8 Rows.colorRestoresRow.domain false) (Rows.colorRestoresSpec.post enc Try.prog Try.f8 false true false false) := by
  refine returnsInHanded_of_change (C := Try.checked) own started (by kernel_rfl) Try.func8
    (ChangeSpec.witness6 (enc := enc) (C := Try.checked) false ⟨#[], #[.int .i64 0, .agg #[.int .i64 0, .int .i64 0, .int .i64 0], .int .i64 0], []⟩ 8 (by kernel_rfl) (by kernel_rfl) (by kernel_rfl) (by kernel_rfl)) ?_
  intro W base args ds gs before hval0 hW _ _
  have hval : ∀ (j : Nat) t v, Try.f8.params[j]? = some t → args[j]? = some v → Value.okWide Try.prog W .any base t v := hval0
  have hW' := hW
  obtain ⟨p, q, hA0, hV, rfl, _, _⟩ := hW
  have hA : DataW.TrodAll enc Try.prog W 0 (fun _ => true) true Try.f8.params.toList args.toList ds p := hA0
  rw [Try.params8] at hA hval
  obtain ⟨v0, vs0, d0, ds0, p0, q0, hargs, rfl, rfl, h0, r0⟩ := trodAll_cons hA
  obtain ⟨v1, vs1, d1, ds1, p1, q1, rfl, rfl, rfl, h1, r1⟩ := trodAll_cons r0
  obtain ⟨v2, vs2, d2, ds2, p2, q2, rfl, rfl, rfl, h2, r2⟩ := trodAll_cons r1
  obtain ⟨rfl, rfl, rfl⟩ := trodAll_nil r2
  obtain rfl : args = #[v0, v1, v2] := by cases args; simp_all
  obtain ⟨rfl, rfl⟩ := trodVars_none hV
  clear hA0 hval0
  simp only [List.append_nil] at hW'
  have l0 : ∀ x ∈ p0, x.block < W.heap.size := fun x hx => hW'.lt x (by simp [hx])
  have l1 : ∀ x ∈ p1, x.block < W.heap.size := fun x hx => hW'.lt x (by simp [hx])
  have l2 : ∀ x ∈ p2, x.block < W.heap.size := fun x hx => hW'.lt x (by simp [hx])
  obtain ⟨t, rfl, _, _, w0⟩ := open_int Try.underlying22 (hval 0 22 v0 rfl rfl) h0
  obtain ⟨a, b, c, rfl, ba, bb, bc⟩ := open_arr3 (hval 1 23 v1 rfl rfl) h1
  obtain ⟨d, rfl, _, _, w2⟩ := open_int Try.underlying3 (hval 2 3 v2 rfl rfl) h2
  refine (walk t a b c d W).mono fun e W' ⟨he, hb⟩ => ?_
  subst he
  exact ⟨_, rfl, post_low (pa := p0 ++ (p1 ++ (p2 ++ ([])))) (pv := []) hW' (fun _ _ _ => (trodAll_cons_mk (shut_bool Try.underlying4 _) trodAll_mk0)) (fun sp hsp => (trodAll_cons_mk (trod_low laidOut (by kernel_rfl) (of_decide_eq_true (by kernel_rfl)) h0 hb l0 (fun x hx => hsp x (by simp [hx]))) (trodAll_cons_mk (trod_low laidOut (by kernel_rfl) (of_decide_eq_true (by kernel_rfl)) h1 hb l1 (fun x hx => hsp x (by simp [hx]))) (trodAll_cons_mk (trod_low laidOut (by kernel_rfl) (of_decide_eq_true (by kernel_rfl)) h2 hb l2 (fun x hx => hsp x (by simp [hx]))) trodAll_mk0)))) (fun _ _ => rfl) (by simp) hb (ok_one (by kernel_rfl) rfl (okWide_bool_mk Try.underlying4 _))⟩

theorem over : Rows.colorRestoresRow.holds Try.pinned (OpenSpec.ofChange Rows.colorRestoresSpec) :=
  OpenClaim.holds_of_wide 8 Try.f8 rfl rfl rfl rfl rfl rfl rfl ⟨rfl, rfl, rfl, rfl, rfl⟩ rfl rfl rfl rfl rfl (by kernel_rfl) Try.func8 (by kernel_rfl)
    (of_decide_eq_true (by kernel_rfl)) (by unfold Func.isWrapper; first | (rw [if_pos (by decide +kernel)]; kernel_rfl) | (rw [if_neg (by decide +kernel)]; exact ⟨rfl, rfl⟩))
    (fun os started H enc _ => lifted os started H enc)

theorem proved : Rows.ColorRestoresSaid :=
  over
#print axioms proved
end Go.Proofs.Ytadkcgpkbcgeoaa.colorRestores
