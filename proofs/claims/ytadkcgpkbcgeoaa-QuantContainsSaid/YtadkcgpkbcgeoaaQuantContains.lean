/-
  For all integers c, missing of 8 bits and pairs q of integers the statement QuantContains returns true. Its arguments read afterwards as before.
  Conditions: none beyond those of the given statement.
-/
import Derived.Test.YtadkcgpkbcgeoaaFrame
import Derived.Test.YtadkcgpkbcgeoaaEx08
import Derived.Test.YtadkcgpkbcgeoaaOpenQ
import Derived.Test.YtadkcgpkbcgeoaaFams
import Derived.Test.YtadkcgpkbcgeoaaQct
set_option maxRecDepth 100000
namespace Go.Proofs.Ytadkcgpkbcgeoaa.quantContains
open Go.ChangeShapes Go.WideShapes Go.ChangeAt Go.RowKit Go.Joins Go.Deep

set_option maxRecDepth 100000 in
set_option maxHeartbeats 8000000 in
theorem n1 (c mi st de : Int) (w : World) (bm : 0 ≤ mi ∧ mi ≤ 255) (h : c < -1073741824) : Calls Try.prog 18 #[.int .i64 c, .int .u8 mi, .agg #[.int .i64 st, .int .i64 de]] w fun e w' => e = .returned (.bool true) ∧ Below w.heap.size w w' := by
  have B := below_alloc (Below.refl _ w) (.cells #[.int .i64 st, .int .i64 de] 60)
  have e1 : mi.tmod 21 = mi % 21 := Int.tmod_eq_emod_of_nonneg bm.1
  have wm : IntKind.i64.wrap mi = mi := i64_in' _ (by omega) (by omega)
  have wm2 : IntKind.i64.wrap (mi % 21) = mi % 21 := i64_in' _ (by omega) (by omega)
  go_enter Try.func18, Try.ntmps18
  go_wp2_with (first | (go_at_call 44; refine (vd_r _ _ _).mono ?_; rintro e wn ⟨rfl, hw⟩; replace hw := hw.symm; subst hw) | (go_at_call 49; refine (example08_c _).mono ?_; rintro e w1 ⟨rfl, hb⟩))
  go_ret
  exact ⟨rfl, below_call B hb⟩
set_option maxRecDepth 100000 in
set_option maxHeartbeats 8000000 in
theorem n2 (c mi st de : Int) (w : World) (bm : 0 ≤ mi ∧ mi ≤ 255) (h0 : -1073741824 ≤ c) (h : 1073741824 < c) : Calls Try.prog 18 #[.int .i64 c, .int .u8 mi, .agg #[.int .i64 st, .int .i64 de]] w fun e w' => e = .returned (.bool true) ∧ Below w.heap.size w w' := by
  have B := below_alloc (Below.refl _ w) (.cells #[.int .i64 st, .int .i64 de] 60)
  have e1 : mi.tmod 21 = mi % 21 := Int.tmod_eq_emod_of_nonneg bm.1
  have wm : IntKind.i64.wrap mi = mi := i64_in' _ (by omega) (by omega)
  have wm2 : IntKind.i64.wrap (mi % 21) = mi % 21 := i64_in' _ (by omega) (by omega)
  go_enter Try.func18, Try.ntmps18
  go_wp2_with (first | (go_at_call 44; refine (vd_r _ _ _).mono ?_; rintro e wn ⟨rfl, hw⟩; replace hw := hw.symm; subst hw) | (go_at_call 49; refine (example08_c _).mono ?_; rintro e w1 ⟨rfl, hb⟩))
  go_ret
  exact ⟨rfl, below_call B hb⟩
set_option maxRecDepth 100000 in
set_option maxHeartbeats 8000000 in
theorem n3 (c mi st de : Int) (w : World) (bm : 0 ≤ mi ∧ mi ≤ 255) (h0 : -1073741824 ≤ c) (h1 : c ≤ 1073741824) (h : Qu.vB st de = false) : Calls Try.prog 18 #[.int .i64 c, .int .u8 mi, .agg #[.int .i64 st, .int .i64 de]] w fun e w' => e = .returned (.bool true) ∧ Below w.heap.size w w' := by
  have B := below_alloc (Below.refl _ w) (.cells #[.int .i64 st, .int .i64 de] 60)
  have e1 : mi.tmod 21 = mi % 21 := Int.tmod_eq_emod_of_nonneg bm.1
  have wm : IntKind.i64.wrap mi = mi := i64_in' _ (by omega) (by omega)
  have wm2 : IntKind.i64.wrap (mi % 21) = mi % 21 := i64_in' _ (by omega) (by omega)
  go_enter Try.func18, Try.ntmps18
  go_wp2_with (first | (go_at_call 44; refine (vd_r _ _ _).mono ?_; rintro e wn ⟨rfl, hw⟩; replace hw := hw.symm; subst hw) | (go_at_call 49; refine (example08_c _).mono ?_; rintro e w1 ⟨rfl, hb⟩))
  go_ret
  exact ⟨rfl, below_call B hb⟩
set_option maxRecDepth 100000 in
set_option maxHeartbeats 8000000 in
theorem main (c mi st de : Int) (w : World) (bm : 0 ≤ mi ∧ mi ≤ 255) (h0 : -1073741824 ≤ c) (h1 : c ≤ 1073741824) (h : Qu.vB st de = true) : Calls Try.prog 18 #[.int .i64 c, .int .u8 mi, .agg #[.int .i64 st, .int .i64 de]] w fun e w' => e = .returned (.bool true) ∧ Below w.heap.size w w' := by
  have B := below_alloc (Below.refl _ w) (.cells #[.int .i64 st, .int .i64 de] 60)
  have e1 : mi.tmod 21 = mi % 21 := Int.tmod_eq_emod_of_nonneg bm.1
  have wm : IntKind.i64.wrap mi = mi := i64_in' _ (by omega) (by omega)
  have wm2 : IntKind.i64.wrap (mi % 21) = mi % 21 := i64_in' _ (by omega) (by omega)
  obtain ⟨M, hM⟩ : ∃ M, M = mi % 21 := ⟨_, rfl⟩
  have mb : 0 ≤ M ∧ M ≤ 20 := by omega
  rw [← hM] at e1 wm2
  clear hM
  have hc := Qu.cont_c h h0 h1 mb.1 mb.2
  have pb := Qu.pow_bd M.toNat (by omega)
  have hs := (Qu.v_iff.1 h).1
  have v1 := Qu.qI_mono (s := st) (d := de) (a := c) (b := 1073741824) h (by omega) (by omega) h1
  have v2 := Qu.qI_mono (s := st) (d := de) (a := -1073741824) (b := c) h (by omega) (by omega) h0
  have v3 := qI_nn0 (b := 1073741824) (s := st) (d := de) (by decide)
  rw [Qu.qI_neg] at v2
  have cV := fun W => qz_q c st de W (by omega) (by omega)
  obtain ⟨V, hV⟩ : ∃ V, V = Qu.qI c st de := ⟨_, rfl⟩
  rw [← hV] at hc cV v1 v2
  have vb : -281474976710656 ≤ V ∧ V ≤ 281474976710656 := by omega
  obtain ⟨P, hP⟩ : ∃ P : Int, P = 2 ^ M.toNat := ⟨_, rfl⟩
  rw [← hP] at hc pb
  obtain ⟨D, hD⟩ : ∃ D, D = V.tdiv P := ⟨_, rfl⟩
  obtain ⟨Z, hZ⟩ : ∃ Z, Z = D * P := ⟨_, rfl⟩
  have zb : (-281474976710656 ≤ D ∧ D ≤ 281474976710656) ∧ -281474976710656 ≤ Z ∧ Z ≤ 281474976710656 := by
    by_cases hv : 0 ≤ V
    · have e : D = V / P := by rw [hD, Int.tdiv_eq_ediv_of_nonneg hv]
      have a1 := Int.ediv_nonneg hv (show 0 ≤ P by omega)
      have a2 := Int.ediv_le_self P hv
      have a3 : V / P * P ≤ V := Int.ediv_mul_le _ (by omega)
      have a4 := Int.mul_nonneg a1 (show 0 ≤ P by omega)
      rw [hZ, e]; omega
    · have e : D = -((-V) / P) := by
        have : V.tdiv P = -((-V).tdiv P) := by rw [Int.neg_tdiv]; omega
        rw [hD, this, Int.tdiv_eq_ediv_of_nonneg (by omega)]
      have a1 := Int.ediv_nonneg (a := -V) (b := P) (by omega) (by omega)
      have a2 := Int.ediv_le_self (a := -V) P (by omega)
      have a3 : -V / P * P ≤ -V := Int.ediv_mul_le _ (by omega)
      have a4 := Int.mul_nonneg a1 (show 0 ≤ P by omega)
      rw [hZ, e, Int.neg_mul]; omega
  rw [← hD, ← hZ] at hc
  obtain ⟨⟨d1, d2⟩, z1, z2⟩ := zb
  have rb : -4294967296 ≤ Qu.rec_ V 0 st de ∧ Qu.rec_ V 0 st de ≤ 4294967296 := by
    unfold Qu.rec_
    split
    · rename_i q
      have l1 := lo_pos (n := Qu.absI V) h (abs_pos q.1)
      have l2 := lo_hi (n := Qu.absI V) (m := 0) h
      unfold Qu.sgn; split <;> omega
    · omega
  have cI := fun W => iv_q V 0 st de W (by omega) (by omega)
  have cJ := fun W => iv_q Z M st de W (by omega) (by omega)
  have cX := fun W => rec_q V 0 st de W (by omega) (by omega)
  have cY := fun W => rec_q Z M st de W (by omega) (by omega)
  have cQ := fun W => qz_q (Qu.rec_ V 0 st de) st de W (by omega) (by omega)
  rw [hc.q] at cQ
  obtain ⟨a1, a2, b1, b2, b3, b4, x1, x2, y1, y2, _⟩ := hc
  generalize Qu.ivL V 0 st de = L at *
  generalize Qu.ivH V 0 st de = H at *
  generalize Qu.ivL Z M st de = L2 at *
  generalize Qu.ivH Z M st de = H2 at *
  generalize Qu.rec_ V 0 st de = X at *
  generalize Qu.rec_ Z M st de = Y at *
  have hmx := hmxq
  have hmn := hmnq
  have ey : min (max Y L2) H2 = Y := by omega
  have m1 : min M.toNat 64 = M.toNat := by omega
  have hD2 : V.tdiv P = D := hD.symm
  have hP2 : (2 : Int) ^ M.toNat = P := hP.symm
  have hZ2 : D * P = Z := hZ.symm
  have w3 : IntKind.i64.wrap P = P := i64_in' _ (by omega) (by omega)
  have w4 : IntKind.i64.wrap D = D := i64_in' _ (by omega) (by omega)
  have w5 : IntKind.i64.wrap Z = Z := i64_in' _ (by omega) (by omega)
  have p0 : ¬ P = 0 := by omega
  have m0 : 0 ≤ M := mb.1
  have g1 : ¬ c < L := by omega
  have g2 : ¬ H < c := by omega
  have g3 : ¬ c < L2 := by omega
  have g4 : ¬ H2 < c := by omega
  have g5 : ¬ L < L2 := by omega
  have g6 : ¬ H2 < H := by omega
  have g7 : ¬ X < L := by omega
  have g8 : ¬ H < X := by omega
  clear hV hP hD hZ d1 d2 z1 z2 rb pb vb v1 v2 v3 a1 a2 b1 b2 b3 b4 x1 x2 y1 y2 mb hs bm
  go_enter Try.func18, Try.ntmps18
  go_wp2_with (first | (go_at_call 44; refine (vd_r _ _ _).mono ?_; rintro e wn ⟨rfl, hw⟩; replace hw := hw.symm; subst hw) | (go_at_call 47; (first | (with_reducible refine (cV _).mono ?_) | (with_reducible refine (cQ _).mono ?_)); rintro e wn ⟨rfl, hw⟩; replace hw := hw.symm; subst hw) | (go_at_call 50; (first | (with_reducible refine (cI _).mono ?_) | (with_reducible refine (cJ _).mono ?_)); rintro e wn ⟨rfl, hw⟩; replace hw := hw.symm; subst hw) | (go_at_call 52; (first | (with_reducible refine (cX _).mono ?_) | (with_reducible refine (cY _).mono ?_)); rintro e wn ⟨rfl, hw⟩; replace hw := hw.symm; subst hw) | (go_at_call 49; refine (example08_c _).mono ?_; rintro e w1 ⟨rfl, hb⟩))
  go_region
  go_wp2_with (first | (go_at_call 44; refine (vd_r _ _ _).mono ?_; rintro e wn ⟨rfl, hw⟩; replace hw := hw.symm; subst hw) | (go_at_call 47; (first | (with_reducible refine (cV _).mono ?_) | (with_reducible refine (cQ _).mono ?_)); rintro e wn ⟨rfl, hw⟩; replace hw := hw.symm; subst hw) | (go_at_call 50; (first | (with_reducible refine (cI _).mono ?_) | (with_reducible refine (cJ _).mono ?_)); rintro e wn ⟨rfl, hw⟩; replace hw := hw.symm; subst hw) | (go_at_call 52; (first | (with_reducible refine (cX _).mono ?_) | (with_reducible refine (cY _).mono ?_)); rintro e wn ⟨rfl, hw⟩; replace hw := hw.symm; subst hw) | (go_at_call 49; refine (example08_c _).mono ?_; rintro e w1 ⟨rfl, hb⟩))
  go_ret
  exact ⟨rfl, below_call B.drew hb⟩
theorem walk (c mi st de : Int) (w : World) (bm : 0 ≤ mi ∧ mi ≤ 255) (_bc : -9223372036854775808 ≤ c ∧ c ≤ 9223372036854775807) : Calls Try.prog 18 #[.int .i64 c, .int .u8 mi, .agg #[.int .i64 st, .int .i64 de]] w fun e w' => e = .returned (.bool true) ∧ Below w.heap.size w w' := by
  by_cases h0 : c < -1073741824
  · exact n1 c mi st de w bm h0
  by_cases h1 : 1073741824 < c
  · exact n2 c mi st de w bm (by omega) h1
  cases h : Qu.vB st de with
  | false => exact n3 c mi st de w bm (by omega) (by omega) h
  | true => exact main c mi st de w bm (by omega) (by omega) h

set_option maxRecDepth 100000 in
theorem lifted (os : Os) (started : os.Started) (H : Type) (enc : TypeId × Value → H) :
    ReturnsInHanded {} Try.checked os 18 .any (Rows.quantContainsSpec.pre6 enc Try.prog Try.f18 Rows.quantContainsRow.domain false) (Rows.quantContainsSpec.post enc Try.prog Try.f18 false true false false) := by
  refine returnsInHanded_of_change (C := Try.checked) own started (by kernel_rfl) Try.func18
    (ChangeSpec.witness6 (enc := enc) (C := Try.checked) false ⟨#[], #[.int .i64 0, .int .u8 0, .agg #[.int .i64 0, .int .i64 0]], []⟩ 8 (by kernel_rfl) (by kernel_rfl) (by kernel_rfl) (by kernel_rfl)) ?_
  intro W base args ds gs before hval0 hW _ _
  have hval : ∀ (j : Nat) t v, Try.f18.params[j]? = some t → args[j]? = some v → Value.okWide Try.prog W .any base t v := hval0
  have hW' := hW
  obtain ⟨p, q, hA0, hV, rfl, _, _⟩ := hW
  have hA : DataW.TrodAll enc Try.prog W 0 (fun _ => true) true Try.f18.params.toList args.toList ds p := hA0
  rw [Try.params18] at hA hval
  obtain ⟨v0, vs0, d0, ds0, p0, q0, hargs, rfl, rfl, h0, r0⟩ := trodAll_cons hA
  obtain ⟨v1, vs1, d1, ds1, p1, q1, rfl, rfl, rfl, h1, r1⟩ := trodAll_cons r0
  obtain ⟨v2, vs2, d2, ds2, p2, q2, rfl, rfl, rfl, h2, r2⟩ := trodAll_cons r1
  obtain ⟨rfl, rfl, rfl⟩ := trodAll_nil r2
  obtain rfl : args = #[v0, v1, v2] := by cases args; simp_all
  obtain ⟨rfl, rfl⟩ := trodVars_none hV
  clear hA0 hval0
  simp only [List.append_nil] at hW'
  have l0 : ∀ x ∈ p0, x.block < W.heap.size := fun x hx => hW'.lt x (by simp [hx])
  have l1 : ∀ x ∈ p1, x.block < W.heap.size := fun x hx => hW'.lt x (by simp [hx])
  have l2 : ∀ x ∈ p2, x.block < W.heap.size := fun x hx => hW'.lt x (by simp [hx])
  obtain ⟨c, rfl, _, _, w0⟩ := open_int Try.underlying3 (hval 0 3 v0 rfl rfl) h0
  have bc := bounds_i64 w0
  obtain ⟨mi, rfl, _, _, w1⟩ := open_int Try.underlying5 (hval 1 5 v1 rfl rfl) h1
  have bmi := bounds_u8 w1
  obtain ⟨st, de, rfl, bst, bde⟩ := open_arr2 (hval 2 60 v2 rfl rfl) h2
  refine (walk c mi st de W bmi bc).mono fun e W' ⟨he, hb⟩ => ?_
  subst he
  exact ⟨_, rfl, post_low (pa := p0 ++ (p1 ++ (p2 ++ ([])))) (pv := []) hW' (fun _ _ _ => (trodAll_cons_mk (shut_bool Try.underlying4 _) trodAll_mk0)) (fun sp hsp => (trodAll_cons_mk (trod_low laidOut (by kernel_rfl) (of_decide_eq_true (by kernel_rfl)) h0 hb l0 (fun x hx => hsp x (by simp [hx]))) (trodAll_cons_mk (trod_low laidOut (by kernel_rfl) (of_decide_eq_true (by kernel_rfl)) h1 hb l1 (fun x hx => hsp x (by simp [hx]))) (trodAll_cons_mk (trod_low laidOut (by kernel_rfl) (of_decide_eq_true (by kernel_rfl)) h2 hb l2 (fun x hx => hsp x (by simp [hx]))) trodAll_mk0)))) (fun _ _ => rfl) (by simp) hb (ok_one (by kernel_rfl) rfl (okWide_bool_mk Try.underlying4 _))⟩

theorem over : Rows.quantContainsRow.holds Try.pinned (OpenSpec.ofChange Rows.quantContainsSpec) :=
  OpenClaim.holds_of_wide 18 Try.f18 rfl rfl rfl rfl rfl rfl rfl ⟨rfl, rfl, rfl, rfl, rfl⟩ rfl rfl rfl rfl rfl (by kernel_rfl) Try.func18 (by kernel_rfl)
    (of_decide_eq_true (by kernel_rfl)) (by unfold Func.isWrapper; first | (rw [if_pos (by decide +kernel)]; kernel_rfl) | (rw [if_neg (by decide +kernel)]; exact ⟨rfl, rfl⟩))
    (fun os started H enc _ => lifted os started H enc)

theorem proved : Rows.QuantContainsSaid :=
  over
#print axioms proved
end Go.Proofs.Ytadkcgpkbcgeoaa.quantContains
