/-
  For all integers i, lo and hi the statement ExtendReflects returns true (arguments outside the range of Mirror are left alone), and its arguments read afterwards as before.
  Conditions: none beyond those of the given statement.
-/
import Derived.Test.YtpobmmdjcfdfoaaFrameI
import Derived.Test.YtpobmmdjcfdfoaaExtB
namespace Go.Proofs.Ytpobmmdjcfdfoaa.extendReflects
open Go.ChangeShapes Go.WideShapes Go.ChangeAt Go.RowKit Go.Joins Go.Deep

set_option maxRecDepth 100000 in
set_option maxHeartbeats 2000000 in
theorem walk (i lo hi : Int) (w : World) :
    Calls Try.prog 8 #[.int .i64 i, .int .i64 lo, .int .i64 hi] w fun e w' => e = .returned (.bool true) ∧ Below w.heap.size w w' := by
  by_cases h0 : hi ≤ lo
  · have B := Below.refl w.heap.size w
    go_enter Try.func8, Try.ntmps8
    go_wp2_with fail
    refine (example03_c _).mono ?_
    rintro e w1 ⟨rfl, hb⟩
    replace B := below_call B hb
    clear hb
    go_wp2
    go_ret
    exact ⟨rfl, B⟩
  · by_cases h1 : lo < -281474976710656
    · have B := Below.refl w.heap.size w
      go_enter Try.func8, Try.ntmps8
      go_wp2_with fail
      refine (example03_c _).mono ?_
      rintro e w1 ⟨rfl, hb⟩
      replace B := below_call B hb
      clear hb
      go_wp2
      go_ret
      exact ⟨rfl, B⟩
    · by_cases h2 : 281474976710656 < hi
      · have B := Below.refl w.heap.size w
        go_enter Try.func8, Try.ntmps8
        go_wp2_with fail
        refine (example03_c _).mono ?_
        rintro e w1 ⟨rfl, hb⟩
        replace B := below_call B hb
        clear hb
        go_wp2
        go_ret
        exact ⟨rfl, B⟩
      · by_cases h3 : i < -281474976710656
        · have B := Below.refl w.heap.size w
          go_enter Try.func8, Try.ntmps8
          go_wp2_with fail
          refine (example03_c _).mono ?_
          rintro e w1 ⟨rfl, hb⟩
          replace B := below_call B hb
          clear hb
          go_wp2
          go_ret
          exact ⟨rfl, B⟩
        · by_cases h4 : 281474976710656 < i
          · have B := Below.refl w.heap.size w
            go_enter Try.func8, Try.ntmps8
            go_wp2_with fail
            refine (example03_c _).mono ?_
            rintro e w1 ⟨rfl, hb⟩
            replace B := below_call B hb
            clear hb
            go_wp2
            go_ret
            exact ⟨rfl, B⟩
          · skip
            obtain ⟨J, hJe⟩ : ∃ J, mirV i lo hi = J := ⟨_, rfl⟩
            have hvl : viB lo = true := vi_iff.2 (by omega)
            have hvh : viB hi = true := vi_iff.2 (by omega)
            have hvi : viB i = true := vi_iff.2 (by omega)
            have hlh : lo < hi := by omega
            have hM : ∀ q, viB q = true → mirV q lo hi = Ex.mirI q lo hi := fun q hq => if_pos ⟨hlh, hq, hvl, hvh⟩
            have hJ0 : Ex.mirI i lo hi = J := by rw [← hM i hvi]; exact hJe
            obtain ⟨m0, m1⟩ := Ex.mir_mem (i := i) (lo := lo) (hi := hi) hlh
            rw [hJ0] at m0 m1
            have hvJ : viB J = true := vi_iff.2 (by omega)
            have c1 : ∀ w, Calls Try.prog 18 #[.int .i64 i, .int .i64 lo, .int .i64 hi] w fun e w' => e = .returned (.int .i64 J) ∧ Below w.heap.size w w' := fun w => hJe ▸ mir_c i lo hi w
            have c2 : ∀ w, Calls Try.prog 18 #[.int .i64 J, .int .i64 lo, .int .i64 hi] w fun e w' => e = .returned (.int .i64 J) ∧ Below w.heap.size w w' := fun w => by
              have h := mir_c J lo hi w
              rw [hM J hvJ, Ex.mir_id m0 m1] at h
              exact h
            obtain ⟨Lf, hLf⟩ : ∃ Lf, 2 * lo - i = Lf := ⟨_, rfl⟩
            obtain ⟨Rt, hRt⟩ : ∃ Rt, 2 * (hi - 1) - i = Rt := ⟨_, rfl⟩
            have c3 : viB Lf = true → ∀ w, Calls Try.prog 18 #[.int .i64 Lf, .int .i64 lo, .int .i64 hi] w fun e w' => e = .returned (.int .i64 J) ∧ Below w.heap.size w w' := fun hv w => by
              have h := mir_c Lf lo hi w
              rw [hM Lf hv, ← hLf, Ex.mir_left hlh, hJ0, hLf] at h
              exact h
            have c4 : viB Rt = true → ∀ w, Calls Try.prog 18 #[.int .i64 Rt, .int .i64 lo, .int .i64 hi] w fun e w' => e = .returned (.int .i64 J) ∧ Below w.heap.size w w' := fun hv w => by
              have h := mir_c Rt lo hi w
              rw [hM Rt hv, ← hRt, Ex.mir_right hlh, hJ0, hRt] at h
              exact h
            have hin : lo ≤ i → i < hi → J = i := fun a b => by rw [← hJ0, Ex.mir_id a b]
            have hpar : 2 ≤ hi - lo → (i - J).tmod 2 = 0 := fun a => by
              have := Ex.mir_par (i := i) (lo := lo) (hi := hi) a
              rw [hJ0] at this
              exact Int.tmod_eq_zero_of_dvd (Int.dvd_of_emod_eq_zero this)
            have w1 : IntKind.i64.wrap (hi - lo) = hi - lo := IntWalk.i64_in _ (by omega)
            have w2 : IntKind.i64.wrap (i - J) = i - J := IntWalk.i64_in _ (by omega)
            have w3 : IntKind.i64.wrap (2 * lo) = 2 * lo := IntWalk.i64_in _ (by omega)
            have w3' : wrap64 (2 * lo) = 2 * lo := IntWalk.wrap64_in _ ⟨by omega, by omega⟩
            have w4 : IntKind.i64.wrap (2 * lo - i) = Lf := by rw [IntWalk.i64_in _ (by omega)]; exact hLf
            have w5 : IntKind.i64.wrap (hi - 1) = hi - 1 := IntWalk.i64_in _ (by omega)
            have w6 : IntKind.i64.wrap (2 * (hi - 1)) = 2 * (hi - 1) := IntWalk.i64_in _ (by omega)
            have w6' : wrap64 (2 * (hi - 1)) = 2 * (hi - 1) := IntWalk.wrap64_in _ ⟨by omega, by omega⟩
            have w7 : IntKind.i64.wrap (2 * (hi - 1) - i) = Rt := by rw [IntWalk.i64_in _ (by omega)]; exact hRt
            have n1 : ¬ J < lo := by omega
            have n2 : ¬ hi ≤ J := by omega
            clear hM hJ0 hvl hvh hvi hvJ hlh m0 m1 hLf hRt hJe
            have B := Below.refl w.heap.size w
            go_enter Try.func8, Try.ntmps8
            go_wp2_with fail
            refine (c1 _).mono ?_
            rintro e wi ⟨rfl, hb⟩
            replace B := below_call B hb
            clear hb c1
            go_upto_region 4 with fail
            go_cut [64] (fun b wx => b = .bool false ∧ Below w.heap.size w wx)
            case first =>
              go_wp2_with fail
              refine (c2 _).mono ?_
              rintro e wj ⟨rfl, hb⟩
              replace B := below_call B hb
              clear hb c2 c3 c4
              by_cases p1 : lo ≤ i
              · by_cases p2 : i < hi
                · have hJi := hin p1 p2
                  have g1 : (J == i) = true := by simp [hJi]
                  have g2 : (J != i) = false := by simp [hJi]
                  have g3 : decide (J = i) = true := by simp [hJi]
                  clear hJi hin
                  go_wp2
                  go_meet
                  exact ⟨by first | rfl | (simp; omega), B⟩
                · clear hin
                  go_wp2
                  go_meet
                  exact ⟨by first | rfl | (simp; omega), B⟩
              · clear hin
                go_wp2
                go_meet
                exact ⟨by first | rfl | (simp; omega), B⟩
            case rest =>
              obtain ⟨rfl, B⟩ := hcut
              clear hin c2 n1 n2
              go_upto_region 6 with fail
              go_cut [75] (fun b wx => b = .bool false ∧ Below w.heap.size w wx)
              case first =>
                clear c3 c4
                by_cases p1 : 2 ≤ hi - lo
                · have hz := hpar p1
                  clear hpar
                  go_wp2
                  go_meet
                  exact ⟨by first | rfl | (simp; omega), B⟩
                · clear hpar
                  go_wp2
                  go_meet
                  exact ⟨by first | rfl | (simp; omega), B⟩
              case rest =>
                obtain ⟨rfl, B⟩ := hcut
                clear hpar
                go_upto_region 9 with fail
                go_cut [98] (fun b wx => b = .bool false ∧ Below w.heap.size w wx)
                case first =>
                  clear c4
                  by_cases p1 : -281474976710656 ≤ Lf
                  · by_cases p2 : Lf ≤ 281474976710656
                    · have c5 := c3 (vi_iff.2 ⟨p1, p2⟩)
                      clear c3
                      go_wp2_with fail
                      refine (c5 _).mono ?_
                      rintro e wj ⟨rfl, hb⟩
                      replace B := below_call B hb
                      go_wp2
                      go_meet
                      exact ⟨by first | rfl | (simp; omega), B⟩
                    · clear c3
                      go_wp2
                      go_meet
                      exact ⟨by first | rfl | (simp; omega), B⟩
                  · clear c3
                    go_wp2
                    go_meet
                    exact ⟨by first | rfl | (simp; omega), B⟩
                case rest =>
                  obtain ⟨rfl, B⟩ := hcut
                  clear c3
                  go_upto_region 11 with fail
                  go_cut [112] (fun b wx => b = .bool false ∧ Below w.heap.size w wx)
                  case first =>
                    by_cases p1 : -281474976710656 ≤ Rt
                    · by_cases p2 : Rt ≤ 281474976710656
                      · have c5 := c4 (vi_iff.2 ⟨p1, p2⟩)
                        clear c4
                        go_wp2_with fail
                        refine (c5 _).mono ?_
                        rintro e wj ⟨rfl, hb⟩
                        replace B := below_call B hb
                        go_wp2
                        go_meet
                        exact ⟨by first | rfl | (simp; omega), B⟩
                      · clear c4
                        go_wp2
                        go_meet
                        exact ⟨by first | rfl | (simp; omega), B⟩
                    · clear c4
                      go_wp2
                      go_meet
                      exact ⟨by first | rfl | (simp; omega), B⟩
                  case rest =>
                    obtain ⟨rfl, B⟩ := hcut
                    clear c4
                    go_wp2_with fail
                    refine (example03_c _).mono ?_
                    rintro e wj ⟨rfl, hb⟩
                    replace B := below_call B hb
                    go_wp2
                    go_ret
                    exact ⟨rfl, B⟩

set_option maxRecDepth 100000 in
theorem lifted (os : Os) (started : os.Started) (H : Type) (enc : TypeId × Value → H) :
    ReturnsInHanded {} Try.checked os 8 .any (Rows.extendReflectsSpec.pre6 enc Try.prog Try.f8 Rows.extendReflectsRow.domain false) (Rows.extendReflectsSpec.post enc Try.prog Try.f8 false true false false) := by
  refine returnsInHanded_of_change (C := Try.checked) own started (by kernel_rfl) Try.func8
    (ChangeSpec.witness6 (enc := enc) (C := Try.checked) false ⟨#[], #[.int .i64 0, .int .i64 0, .int .i64 0], []⟩ 8 (by kernel_rfl) (by kernel_rfl) (by kernel_rfl) (by kernel_rfl)) ?_
  intro W base args ds gs before hval0 hW _ _
  have hval : ∀ (j : Nat) t v, Try.f8.params[j]? = some t → args[j]? = some v → Value.okWide Try.prog W .any base t v := hval0
  have hW' := hW
  obtain ⟨p, q, hA0, hV, rfl, _, _⟩ := hW
  have hA : DataW.TrodAll enc Try.prog W 0 (fun _ => true) true Try.f8.params.toList args.toList ds p := hA0
  rw [Try.params8] at hA hval
  obtain ⟨v0, vs0, d0, ds0, p0, q0, hargs, rfl, rfl, h0, r0⟩ := trodAll_cons hA
  obtain ⟨v1, vs1, d1, ds1, p1, q1, rfl, rfl, rfl, h1, r1⟩ := trodAll_cons r0
  obtain ⟨v2, vs2, d2, ds2, p2, q2, rfl, rfl, rfl, h2, r2⟩ := trodAll_cons r1
  obtain ⟨rfl, rfl, rfl⟩ := trodAll_nil r2
  obtain rfl : args = #[v0, v1, v2] := by cases args; simp_all
  obtain ⟨rfl, rfl⟩ := trodVars_none hV
  clear hA0 hval0
  simp only [List.append_nil] at hW'
  have l0 : ∀ x ∈ p0, x.block < W.heap.size := fun x hx => hW'.lt x (by simp [hx])
  have l1 : ∀ x ∈ p1, x.block < W.heap.size := fun x hx => hW'.lt x (by simp [hx])
  have l2 : ∀ x ∈ p2, x.block < W.heap.size := fun x hx => hW'.lt x (by simp [hx])
  obtain ⟨i, rfl, _, _, wi⟩ := open_int Try.underlying3 (hval 0 3 v0 rfl rfl) h0
  obtain ⟨lo, rfl, _, _, wlo⟩ := open_int Try.underlying3 (hval 1 3 v1 rfl rfl) h1
  obtain ⟨hi, rfl, _, _, whi⟩ := open_int Try.underlying3 (hval 2 3 v2 rfl rfl) h2
  refine (walk i lo hi W).mono fun e W' ⟨he, hb⟩ => ?_
  subst he
  exact ⟨_, rfl, post_low (pa := p0 ++ (p1 ++ (p2 ++ ([])))) (pv := []) hW' (fun _ _ _ => (trodAll_cons_mk (shut_bool Try.underlying4 _) trodAll_mk0)) (fun sp hsp => (trodAll_cons_mk (trod_low laidOut (by kernel_rfl) (of_decide_eq_true (by kernel_rfl)) h0 hb l0 (fun x hx => hsp x (by simp [hx]))) (trodAll_cons_mk (trod_low laidOut (by kernel_rfl) (of_decide_eq_true (by kernel_rfl)) h1 hb l1 (fun x hx => hsp x (by simp [hx]))) (trodAll_cons_mk (trod_low laidOut (by kernel_rfl) (of_decide_eq_true (by kernel_rfl)) h2 hb l2 (fun x hx => hsp x (by simp [hx]))) trodAll_mk0)))) (fun _ _ => rfl) (by simp) hb (ok_one (by kernel_rfl) rfl (okWide_bool_mk Try.underlying4 _))⟩

theorem over : Rows.extendReflectsRow.holds Try.pinned (OpenSpec.ofChange Rows.extendReflectsSpec) :=
  OpenClaim.holds_of_wide 8 Try.f8 rfl rfl rfl rfl rfl rfl rfl ⟨rfl, rfl, rfl, rfl, rfl⟩ rfl rfl rfl rfl rfl (by kernel_rfl) Try.func8 (by kernel_rfl)
    (of_decide_eq_true (by kernel_rfl)) (by unfold Func.isWrapper; first | (rw [if_pos (by decide +kernel)]; kernel_rfl) | (rw [if_neg (by decide +kernel)]; exact ⟨rfl, rfl⟩))
    (fun os started H enc _ => lifted os started H enc)

theorem proved : Rows.ExtendReflectsSaid :=
  over
#print axioms proved
end Go.Proofs.Ytpobmmdjcfdfoaa.extendReflects
