/-
  For all coefficients and parameters the statement DistortHalf returns true.
  Conditions: none beyond those of the given statement (the listed variables are tied by the card).
-/
import Derived.Test.YtnmmgjbjnhiaoaaDoorDm19
import Derived.Test.YtnmmgjbjnhiaoaaDoorTie
import Derived.Test.YtnmmgjbjnhiaoaaDoorCards
import Derived.LaidMore
import Derived.Lay
import Derived.SevenTiedAt
import Derived.Stop.Joined
set_option maxRecDepth 100000
namespace Go.Proofs.YtnmmgjbjnhiaoaaDoor.distortHalf
open Go.ChangeShapes Go.WideShapes Go.ChangeAt Go.RowKit Go.Joins Go.Deep

set_option maxHeartbeats 8000000 in
theorem walk (c s d : Int) (W : World) : Calls Tryd.prog 7 #[.int .i64 c, .agg #[.int .i64 s, .int .i64 d]] W fun e w' => e = .returned (.bool true) ∧ Below W.heap.size W w' := by
  obtain ⟨X, hX⟩ : ∃ X, X = W.alloc (.cells #[.int .i64 s, .int .i64 d] 25) := ⟨_, rfl⟩
  have hb : Below W.heap.size W X := by rw [hX]; exact below_alloc (Below.refl _ W) _
  have h1 : Blk X W.heap.size 25 #[.int .i64 s, .int .i64 d] := by rw [hX]; exact Blk.new W _ _
  have y0 : X.cell? ⟨W.heap.size, 0, none⟩ = some (.int .i64 s) := h1.cell 0
  have y1 : X.cell? ⟨W.heap.size, 1, none⟩ = some (.int .i64 d) := h1.cell 1
  have HB := Lib.hid hb
  have HX := Lib.hid hX
  rw [hX] at y0 y1
  have ke := ex19_c
  have kv := vd_r s d
  clear hb h1 hX
  by_cases g1 : c < -1073741824
  · go_enter Tryd.func7, Tryd.ntmps7
    go_wp2_with (first | (go_at_call 11; (with_reducible refine (ke _).mono ?_); rintro e w9 ⟨rfl, hb9⟩; have B9 := Lib.hid (below_call HB.out (by rw [HX.out]; exact hb9)); clear hb9) | fail)
    go_ret
    exact ⟨rfl, B9.out⟩
  · by_cases g2 : 1073741824 < c
    · go_enter Tryd.func7, Tryd.ntmps7
      go_wp2_with (first | (go_at_call 11; (with_reducible refine (ke _).mono ?_); rintro e w9 ⟨rfl, hb9⟩; have B9 := Lib.hid (below_call HB.out (by rw [HX.out]; exact hb9)); clear hb9) | fail)
      go_ret
      exact ⟨rfl, B9.out⟩
    · by_cases hv : Qu.vB s d = true
      · have hh := half_m hv (by omega) (by omega : c ≤ 1073741824)
        have hs := Qu.v_iff.1 hv
        have ht := Qu.thr_bd hv
        have kq := qz_r c s d
        have hqi : i64R (Qu.qI c s d) := by
          have h3 : Qu.qI c s d = Qu.sgn (Qu.qn (min (Qu.absI c) 281474976710656) s d) c := by unfold Qu.qI; rw [if_pos hv]
          have h4 := Qu.qn_le hv (n := min (Qu.absI c) 281474976710656) (by unfold Qu.absI; split <;> omega)
          have h5 := Qu.qn_nonneg (n := min (Qu.absI c) 281474976710656) (s := s) (d := d) hs.1
          rw [h3]
          unfold Qu.sgn i64R
          split <;> omega
        have kr := fun w : World => derror_c c (Qu.qI c s d) 0 s d w hqi
        have hei := er_in c (Qu.qI c s d) 0 s d
        have kt := thr_r s d
        rw [hv] at kv
        clear hqi hv
        have hmx9 := fun x y : Int => hmxq x y
        obtain ⟨hh1, hh2⟩ := hh
        by_cases hz : Qu.qI c s d = 0
        · have hh := hh1 hz
          rw [hz] at kq kr hei
          clear hz hh1 hh2
          generalize erI c 0 0 s d = e0 at *
          generalize Qu.thr s d = t at *
          have g3 : e0 < max t 1 := hh
          clear hh hs hei
          go_enter Tryd.func7, Tryd.ntmps7
          go_wp2_with (first | (go_at_call 16; (with_reducible refine (kv _).mono ?_); rintro e wn ⟨rfl, rfl⟩) | (go_at_call 17; (with_reducible refine (kq _).mono ?_); rintro e wn ⟨rfl, rfl⟩) | (go_at_call 12; (with_reducible refine (kr _).mono ?_); rintro e wn ⟨rfl, rfl⟩) | (go_at_call 18; (with_reducible refine (kt _).mono ?_); rintro e wn ⟨rfl, rfl⟩) | (go_at_call 11; (with_reducible refine (ke _).mono ?_); rintro e w9 ⟨rfl, hb9⟩; have B9 := Lib.hid (below_call HB.out (by rw [HX.out]; exact hb9)); clear hb9) | fail)
          go_ret
          exact ⟨rfl, B9.out⟩
        · have hh := hh2 hz
          clear hh1 hh2
          generalize Qu.qI c s d = v at *
          generalize erI c v 0 s d = e0 at *
          have g0 : (v == 0) = false := by simpa using hz
          have w1 : IntKind.i64.wrap (2 * e0) = 2 * e0 := by rw [IntWalk.i64_left]; unfold wrap64; omega
          have g3 : 2 * e0 ≤ s := hh
          clear hh hs hei kt ht
          go_enter Tryd.func7, Tryd.ntmps7
          go_wp2_with (first | (go_at_call 16; (with_reducible refine (kv _).mono ?_); rintro e wn ⟨rfl, rfl⟩) | (go_at_call 17; (with_reducible refine (kq _).mono ?_); rintro e wn ⟨rfl, rfl⟩) | (go_at_call 12; (with_reducible refine (kr _).mono ?_); rintro e wn ⟨rfl, rfl⟩) | (go_at_call 11; (with_reducible refine (ke _).mono ?_); rintro e w9 ⟨rfl, hb9⟩; have B9 := Lib.hid (below_call HB.out (by rw [HX.out]; exact hb9)); clear hb9) | fail)
          go_ret
          exact ⟨rfl, B9.out⟩
      · have hv2 : Qu.vB s d = false := by simpa using hv
        rw [hv2] at kv
        clear hv hv2
        go_enter Tryd.func7, Tryd.ntmps7
        go_wp2_with (first | (go_at_call 16; (with_reducible refine (kv _).mono ?_); rintro e wn ⟨rfl, rfl⟩) | (go_at_call 11; (with_reducible refine (ke _).mono ?_); rintro e w9 ⟨rfl, hb9⟩; have B9 := Lib.hid (below_call HB.out (by rw [HX.out]; exact hb9)); clear hb9) | fail)
        go_ret
        exact ⟨rfl, B9.out⟩

set_option maxRecDepth 100000 in
theorem lifted (os : Os) (started : os.Started) (H : Type) (enc : TypeId × Value → H) :
    ReturnsInHanded {} Tryd.checked os 7 .any (fun w args => (Rows.distortHalfSpec.pre enc Tryd.prog Tryd.f7 Rows.distortHalfRow.domain false w args ∧ laidMetH Tryd.prog Rows.distortHalfRow.laid w) ∧ sizedMet enc Tryd.prog Tryd.f7 (OpenSpec.ofChange Rows.distortHalfSpec) false w args)
      (Rows.distortHalfSpec.post enc Tryd.prog Tryd.f7 false true false false) := by
  refine returnsInHanded_of_change_and (C := Tryd.checked) (X := fun w _ => laidMetH Tryd.prog Rows.distortHalfRow.laid w) (fun _ _ _ hh h => h.of_heap hh) own started (by kernel_rfl) Tryd.func7
    (ChangeSpec.witness_shaped (enc := enc) (C := Tryd.checked) (os := os) (X := fun w _ => laidMetH Tryd.prog Rows.distortHalfRow.laid w) false (World.laidAll Tryd.prog os Rows.distortHalfRow.laid) #[.int .i64 0, .agg #[.int .i64 0, .int .i64 0]] 8 (World.laidAll_os _ _ _)
      (World.shaped_of_ZipB (by kernel_rfl) (by kernel_rfl)) (by kernel_rfl) (by kernel_rfl) (by kernel_rfl)
      (by rw [MakeChecks.laidMetH_plain _ _ _ (by kernel_rfl)]; exact laidMet_laidAll _ (by kernel_rfl) (by kernel_rfl))) ?_
  intro W base args ds gs before hval0 hW _ _ _ _
  have hval : ∀ (j : Nat) t v, Tryd.f7.params[j]? = some t → args[j]? = some v → Value.okWide Tryd.prog W .any base t v := hval0
  have hW' := hW
  obtain ⟨p, q, hA0, hV, rfl, _, _⟩ := hW
  have hA : DataW.TrodAll enc Tryd.prog W 0 (fun _ => true) true Tryd.f7.params.toList args.toList ds p := hA0
  rw [Tryd.params7] at hA hval
  obtain ⟨v0, vs0, d0, ds0, p0, q0, hargs, rfl, rfl, h0, r0⟩ := trodAll_cons hA
  obtain ⟨v1, vs1, d1, ds1, p1, q1, rfl, rfl, rfl, h1, r1⟩ := trodAll_cons r0
  obtain ⟨rfl, rfl, rfl⟩ := trodAll_nil r1
  obtain rfl : args = #[v0, v1] := by cases args; simp_all
  obtain ⟨rfl, rfl⟩ := trodVars_none hV
  clear hA0 hval0
  simp only [List.append_nil] at hW'
  have l0 : ∀ x ∈ p0, x.block < W.heap.size := fun x hx => hW'.lt x (by simp [hx])
  have l1 : ∀ x ∈ p1, x.block < W.heap.size := fun x hx => hW'.lt x (by simp [hx])
  obtain ⟨i0, rfl, _, _, wi0⟩ := open_int Tryd.underlying3 (hval 0 3 v0 rfl rfl) h0
  obtain ⟨a1, b1, rfl, ra1, rb1⟩ := open_N2 (hval 1 25 v1 rfl rfl) h1
  refine (walk i0 a1 b1 W).mono fun e W' ⟨he, hb⟩ => ?_
  subst he
  exact ⟨_, rfl, post_low (pa := p0 ++ (p1 ++ ([]))) (pv := []) hW' (fun _ _ _ => (trodAll_cons_mk (shut_bool Tryd.underlying4 _) trodAll_mk0)) (fun sp hsp => (trodAll_cons_mk (trod_low laidOut (by kernel_rfl) (of_decide_eq_true (by kernel_rfl)) h0 hb l0 (fun x hx => hsp x (by simp [hx]))) (trodAll_cons_mk (trod_low laidOut (by kernel_rfl) (of_decide_eq_true (by kernel_rfl)) h1 hb l1 (fun x hx => hsp x (by simp [hx]))) trodAll_mk0))) (fun _ _ => rfl) (by simp) hb (ok_one (by kernel_rfl) rfl (okWide_bool_mk Tryd.underlying4 _))⟩

theorem over : Rows.distortHalfRow.holds Tryd.pinned (OpenSpec.ofChange Rows.distortHalfSpec) :=
  OpenClaim.holds_of_wide 7 Tryd.f7 rfl rfl rfl rfl rfl rfl rfl ⟨rfl, rfl, rfl, rfl, rfl⟩ rfl rfl rfl rfl rfl (by kernel_rfl) Tryd.func7 (by kernel_rfl)
    (of_decide_eq_true (by kernel_rfl)) (by unfold Func.isWrapper; first | (rw [if_pos (by decide +kernel)]; kernel_rfl) | (rw [if_neg (by decide +kernel)]; exact ⟨rfl, rfl⟩))
    (fun os started H enc _ => lifted os started H enc)
theorem proved : Rows.DistortHalfCardSaid :=
  Claim7.holds_tied_plain_at .later [] [.data, .data, .data] true Rows.distortHalfCard.stood.harness false over (fun _ h => by cases h) (by kernel_rfl) (fun _ h => by cases h) distortHalf_row_tie rfl ⟨rfl, rfl⟩ (by kernel_rfl) rfl
    (fun f fn hf hfn => by
      obtain rfl : f = 7 := Option.some.inj ((show Tryd.prog.funcNamed Rows.distortHalfRow.func = some 7 by kernel_rfl).symm.trans hf) |>.symm
      obtain rfl : fn = Tryd.f7 := (Option.some.inj (Tryd.func7.symm.trans hfn)).symm
      exact ⟨by kernel_rfl, fun j t ht => by
        rw [Tryd.params7] at ht
        have hm : t ∈ [3, 25] := by simpa using Array.mem_of_getElem? ht
        have hall : ([3, 25].all fun u => !Tryd.prog.wantsStandIn u) = true := by kernel_rfl
        exact (show Tryd.prog.wantsStandIn t = false by simpa using List.all_eq_true.1 hall t hm)⟩)
    (by kernel_rfl)
#print axioms proved
end Go.Proofs.YtnmmgjbjnhiaoaaDoor.distortHalf
