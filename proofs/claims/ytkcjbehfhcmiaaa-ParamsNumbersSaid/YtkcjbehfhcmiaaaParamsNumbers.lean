/-
  For all parameters, resolutions and subbands the statement ParamsNumbers returns true.
  Conditions: none beyond those of the given statement.
-/
import Derived.Test.YtkcjbehfhcmiaaaHz2
import Derived.Test.YtkcjbehfhcmiaaaHg
import Derived.Test.YtkcjbehfhcmiaaaJp
import Derived.Test.YtkcjbehfhcmiaaaJo
set_option maxRecDepth 100000
namespace Go.Proofs.Ytkcjbehfhcmiaaa.paramsNumbers
open Go.ChangeShapes Go.WideShapes Go.ChangeAt Go.RowKit Go.Joins Go.Deep

/-- What the walk keeps in memory. -/
structure LaP (W : World) (p : Hp.Ps) (s : Option Addr) (m : Nat) (s2 : Option Addr) (m2 : Nat) (w : World) : Prop where
  bl : Below W.heap.size W w
  bp : Blk w W.heap.size 35 (pvA p s m s2 m2)
  hP : HoldsP w s p.prec
  hS : HoldsI w s2 p.steps
theorem LaP.keep {W w w' : World} {p : Hp.Ps} {s s2 : Option Addr} {m m2 : Nat} (a : LaP W p s m s2 m2 w) (hb : Below w.heap.size w w') : LaP W p s m s2 m2 w' :=
  ⟨a.bl.trans (hb.mono a.bl.size), a.bp.below hb, a.hP.below hb (Nat.le_refl _), a.hS.below hb (Nat.le_refl _)⟩
set_option maxHeartbeats 8000000 in
theorem walk (p : Hp.Ps) (s : Option Addr) (m : Nat) (s2 : Option Addr) (m2 : Nat) (res band : Int) (W : World) (hP : HoldsP W s p.prec) (hS : HoldsI W s2 p.steps) : Calls Try.prog 4 #[.agg (pvA p s m s2 m2), .int .i64 res, .int .i64 band] W fun e w' => e = .returned (.bool true) ∧ Below W.heap.size W w' := by
  obtain ⟨WB, hWB⟩ : ∃ ww, ww = (W.alloc (.cells (pvA p s m s2 m2) 35)) := ⟨_, rfl⟩
  have hb0 : Below W.heap.size W WB := by rw [hWB]; exact (below_alloc (Below.refl _ W) (Nat.le_refl _) _)
  have hH : Blk WB W.heap.size 35 (pvA p s m s2 m2) := by
    rw [hWB]
    exact Blk.new W 35 (pvA p s m s2 m2)
  have A0 := Lib.hid (show LaP W p s m s2 m2 WB from ⟨hb0, hH, hP.below hb0 (Nat.le_refl _), hS.below hb0 (Nat.le_refl _)⟩)
  have KF := Lib.hid (fun w : World => few_c ⟨0, 0, 0, 0, 0, 0, []⟩ p none s s2 0 m m2 w)
  have HW2 := hWB
  clear hb0 hH hWB hP hS
  have heq := eqPt
  by_cases hf : fewB ⟨0, 0, 0, 0, 0, 0, []⟩ p = true
  · have hl : p.steps.length ≤ 4398046511104 := by
      unfold fewB at hf
      have := of_decide_eq_true hf
      omega
    rw [hf] at KF
    have kf : ∀ w : World, Calls Try.prog 9 #[.agg #[.int .i64 0, .int .i64 0, .int .i64 0, .int .i64 0, .int .i64 0, .int .i64 0, .slice none 0 0], .agg (pvA p s m s2 m2)] w fun e w' => e = .returned (.bool true) ∧ Below w.heap.size w w' := fun w => KF.out w
    have HKF := Lib.hid kf
    have K1 := Lib.hid (fun (w : World) (a : LaP W p s m s2 m2 w) => precinct_p p s s2 m m2 res w a.hP)
    have K2 := Lib.hid (fun (w : World) (a : LaP W p s m s2 m2 w) => rprec_c p s s2 m m2 res w a.hP)
    have K3 := Lib.hid (fun (w : World) (a : LaP W p s m s2 m2 w) => planes_p p s s2 m m2 band w hl a.hS)
    have K4 := Lib.hid (fun (w : World) (a : LaP W p s m s2 m2 w) => rplanes_c p s s2 m m2 band w hl a.hS)
    have K5 := Lib.hid (fun (w : World) (a : LaP W p s m s2 m2 w) => lossless_p p s s2 m m2 w hl a.hS)
    have K6 := Lib.hid (fun (w : World) (a : LaP W p s m s2 m2 w) => rlossless_c p s s2 m m2 w hl a.hS)
    generalize (Hp.precM p res).x = ex at *
    generalize (Hp.precM p res).y = ey at *
    generalize planeM p band = PM at *
    generalize losM p = LB at *
    have heq1 : eqP ex ey ex ey = true := by simp [eqP]
    have hs1 : (PM == PM) = true := by simp
    have hs2 : (LB == LB) = true := by simp
    have HPV := Lib.hid (rfl : pvA p s m s2 m2 = pvA p s m s2 m2)
    clear hf hl KF kf
    show Calls Try.prog 4 #[.agg #[.int .i64 p.kern, .int .i64 p.lev, .int .i64 p.col, .int .i64 p.bx, .int .i64 p.yb, .slice s p.prec.length m, .int .i64 p.ord, .int .i64 p.lay, .bool p.m0, .bool p.m1, .bool p.m2, .bool p.m3, .bool p.m4, .bool p.dv, .bool p.sy, .bool p.fe, .slice s2 p.steps.length m2, .int .i64 p.dead, .int .i64 p.sh], .int .i64 res, .int .i64 band] W _
    unfold pvA at HW2
    go_enter Try.func4, Try.ntmps4
    go_upto_region 1 with fail
    rw [← HW2]
    clear HW2
    go_upto_region 3 with (first | (refine wpList_load_mid rfl 35 (.tmp 3) rfl W.heap.size 0 rfl (pvA p s m s2 m2).toList _ A0.out.bp.range Try.underlying35 rfl info19 ?_) | (go_at_call 9; (with_reducible refine (HKF.out _).mono ?_); rintro e w1 ⟨rfl, hb1⟩; have HS := Lib.hid (show LaP W p s m s2 m2 w1.drew from A0.out.keep hb1.drew); clear hb1) | fail)
    refine wp_region_held_drew (S := (LaP W p s m s2 m2)) (by kernel_rfl) (by (try dsimp only); exact HS.out) (fun hHeld => ?_)
    refine takeD (i := 0) (oi := _) (some 12) (v := .agg (pvA p s m s2 m2)) rfl rfl (by kernel_rfl) (by kernel_rfl) (by kernel_rfl) (fun _ _ _ h => h) (yieldsIf_load_mid (by rfl) 35 (.tmp 3) rfl W.heap.size 0 rfl (pvA p s m s2 m2).toList _ (fun w hw => hw.bp.range) Try.underlying35 rfl info19) (by assumption) ?_
    simp only [Act.put, List.setIfInBounds_toArray, List.set]
    refine takeD (i := 1) (oi := _) (some 13) (v := ?_) rfl rfl (by kernel_rfl) (by kernel_rfl) (by kernel_rfl) (fun _ _ _ h => h) (Or.inl ⟨by rfl, ?_⟩) (by assumption) ?_
    rotate_left
    · (intro w hSw; (try dsimp only at hSw); go_simp; try with_reducible rfl)
    simp only [Act.put, List.setIfInBounds_toArray, List.set]
    refine takeD (i := 3) (oi := _) (some 15) (v := .agg (pvA p s m s2 m2)) rfl rfl (by kernel_rfl) (by kernel_rfl) (by kernel_rfl) (fun _ _ _ h => h) (yieldsIf_load_mid (by rfl) 35 (.tmp 3) rfl W.heap.size 0 rfl (pvA p s m s2 m2).toList _ (fun w hw => hw.bp.range) Try.underlying35 rfl info19) (by assumption) ?_
    simp only [Act.put, List.setIfInBounds_toArray, List.set]
    refine takeD (i := 4) (oi := _) (some 16) (v := ?_) rfl rfl (by kernel_rfl) (by kernel_rfl) (by kernel_rfl) (fun _ _ _ h => h) (Or.inl ⟨by rfl, ?_⟩) (by assumption) ?_
    rotate_left
    · (intro w hSw; (try dsimp only at hSw); go_simp; try with_reducible rfl)
    simp only [Act.put, List.setIfInBounds_toArray, List.set]
    refine wpAnyH_ready (rs := [2]) (by kernel_rfl) (by simp) ?_
    refine AllReadyH.cons (o := _) rfl (fun K hK => ?_) AllReadyH.nil
    (go_simp; go_at_call 13; (with_reducible refine (K1.out _ hHeld).mono ?_); rintro e wn ⟨rfl, hbn⟩)
    refine hK.out _ _ (by (try dsimp only); first | exact hHeld | exact hHeld.keep hbn) (fun hHeld => ?_)
    clear hK K
    try simp only [Act.put, List.setIfInBounds_toArray, List.set]
    refine wpAnyH_ready (rs := [5]) (by kernel_rfl) (by simp) ?_
    refine AllReadyH.cons (o := _) rfl (fun K hK => ?_) AllReadyH.nil
    (go_simp; go_at_call 14; (with_reducible refine (K2.out _ hHeld).mono ?_); rintro e wn ⟨rfl, hbn⟩)
    refine hK.out _ _ (by (try dsimp only); first | exact hHeld | exact hHeld.keep hbn) (fun hHeld => ?_)
    clear hK K
    try simp only [Act.put, List.setIfInBounds_toArray, List.set]
    refine takeD (i := 6) (oi := _) (some 18) (v := ?_) rfl rfl (by kernel_rfl) (by kernel_rfl) (by kernel_rfl) (fun _ _ _ h => h) (Or.inl ⟨by rfl, ?_⟩) (by assumption) ?_
    rotate_left
    · (intro w hSw; (try dsimp only at hSw); go_simp; try with_reducible rfl)
    simp only [Act.put, List.setIfInBounds_toArray, List.set]
    refine takeD (i := 7) (oi := _) (some 19) (v := ?_) rfl rfl (by kernel_rfl) (by kernel_rfl) (by kernel_rfl) (fun _ _ _ h => h) (Or.inl ⟨by rfl, ?_⟩) (by assumption) ?_
    rotate_left
    · (intro w hSw; (try dsimp only at hSw); go_simp; try with_reducible rfl)
    simp only [Act.put, List.setIfInBounds_toArray, List.set]
    refine takeD (i := 8) (oi := _) (some 20) (v := .agg (pvA p s m s2 m2)) rfl rfl (by kernel_rfl) (by kernel_rfl) (by kernel_rfl) (fun _ _ _ h => h) (yieldsIf_load_mid (by rfl) 35 (.tmp 3) rfl W.heap.size 0 rfl (pvA p s m s2 m2).toList _ (fun w hw => hw.bp.range) Try.underlying35 rfl info19) (by assumption) ?_
    simp only [Act.put, List.setIfInBounds_toArray, List.set]
    refine takeD (i := 9) (oi := _) (some 21) (v := ?_) rfl rfl (by kernel_rfl) (by kernel_rfl) (by kernel_rfl) (fun _ _ _ h => h) (Or.inl ⟨by rfl, ?_⟩) (by assumption) ?_
    rotate_left
    · (intro w hSw; (try dsimp only at hSw); go_simp; try with_reducible rfl)
    simp only [Act.put, List.setIfInBounds_toArray, List.set]
    refine takeD (i := 11) (oi := _) (some 23) (v := .agg (pvA p s m s2 m2)) rfl rfl (by kernel_rfl) (by kernel_rfl) (by kernel_rfl) (fun _ _ _ h => h) (yieldsIf_load_mid (by rfl) 35 (.tmp 3) rfl W.heap.size 0 rfl (pvA p s m s2 m2).toList _ (fun w hw => hw.bp.range) Try.underlying35 rfl info19) (by assumption) ?_
    simp only [Act.put, List.setIfInBounds_toArray, List.set]
    refine takeD (i := 12) (oi := _) (some 24) (v := ?_) rfl rfl (by kernel_rfl) (by kernel_rfl) (by kernel_rfl) (fun _ _ _ h => h) (Or.inl ⟨by rfl, ?_⟩) (by assumption) ?_
    rotate_left
    · (intro w hSw; (try dsimp only at hSw); go_simp; try with_reducible rfl)
    simp only [Act.put, List.setIfInBounds_toArray, List.set]
    refine wpAnyH_ready (rs := [10]) (by kernel_rfl) (by simp) ?_
    refine AllReadyH.cons (o := _) rfl (fun K hK => ?_) AllReadyH.nil
    (go_simp; go_at_call 15; (with_reducible refine (K3.out _ hHeld).mono ?_); rintro e wn ⟨rfl, hbn⟩)
    refine hK.out _ _ (by (try dsimp only); first | exact hHeld | exact hHeld.keep hbn) (fun hHeld => ?_)
    clear hK K
    try simp only [Act.put, List.setIfInBounds_toArray, List.set]
    refine wpAnyH_ready (rs := [13]) (by kernel_rfl) (by simp) ?_
    refine AllReadyH.cons (o := _) rfl (fun K hK => ?_) AllReadyH.nil
    (go_simp; go_at_call 16; (with_reducible refine (K4.out _ hHeld).mono ?_); rintro e wn ⟨rfl, hbn⟩)
    refine hK.out _ _ (by (try dsimp only); first | exact hHeld | exact hHeld.keep hbn) (fun hHeld => ?_)
    clear hK K
    try simp only [Act.put, List.setIfInBounds_toArray, List.set]
    refine takeD (i := 14) (oi := _) (some 26) (v := ?_) rfl rfl (by kernel_rfl) (by kernel_rfl) (by kernel_rfl) (fun _ _ _ h => h) (Or.inl ⟨by rfl, ?_⟩) (by assumption) ?_
    rotate_left
    · (intro w hSw; (try dsimp only at hSw); go_simp; try with_reducible rfl)
    simp only [Act.put, List.setIfInBounds_toArray, List.set]
    refine takeD (i := 15) (oi := _) (some 27) (v := ?_) rfl rfl (by kernel_rfl) (by kernel_rfl) (by kernel_rfl) (fun _ _ _ h => h) (Or.inl ⟨by rfl, ?_⟩) (by assumption) ?_
    rotate_left
    · (intro w hSw; (try dsimp only at hSw); go_simp; try with_reducible rfl)
    simp only [Act.put, List.setIfInBounds_toArray, List.set]
    refine takeD (i := 16) (oi := _) (some 28) (v := ?_) rfl rfl (by kernel_rfl) (by kernel_rfl) (by kernel_rfl) (fun _ _ _ h => h) (Or.inl ⟨by rfl, ?_⟩) (by assumption) ?_
    rotate_left
    · (intro w hSw; (try dsimp only at hSw); go_simp; try with_reducible rfl)
    simp only [Act.put, List.setIfInBounds_toArray, List.set]
    refine takeD (i := 17) (oi := _) (some 29) (v := .agg (pvA p s m s2 m2)) rfl rfl (by kernel_rfl) (by kernel_rfl) (by kernel_rfl) (fun _ _ _ h => h) (yieldsIf_load_mid (by rfl) 35 (.tmp 3) rfl W.heap.size 0 rfl (pvA p s m s2 m2).toList _ (fun w hw => hw.bp.range) Try.underlying35 rfl info19) (by assumption) ?_
    simp only [Act.put, List.setIfInBounds_toArray, List.set]
    refine takeD (i := 19) (oi := _) (some 31) (v := .agg (pvA p s m s2 m2)) rfl rfl (by kernel_rfl) (by kernel_rfl) (by kernel_rfl) (fun _ _ _ h => h) (yieldsIf_load_mid (by rfl) 35 (.tmp 3) rfl W.heap.size 0 rfl (pvA p s m s2 m2).toList _ (fun w hw => hw.bp.range) Try.underlying35 rfl info19) (by assumption) ?_
    simp only [Act.put, List.setIfInBounds_toArray, List.set]
    refine wpAnyH_ready (rs := [18]) (by kernel_rfl) (by simp) ?_
    refine AllReadyH.cons (o := _) rfl (fun K hK => ?_) AllReadyH.nil
    (go_simp; go_at_call 17; (with_reducible refine (K5.out _ hHeld).mono ?_); rintro e wn ⟨rfl, hbn⟩)
    refine hK.out _ _ (by (try dsimp only); first | exact hHeld | exact hHeld.keep hbn) (fun hHeld => ?_)
    clear hK K
    try simp only [Act.put, List.setIfInBounds_toArray, List.set]
    refine wpAnyH_ready (rs := [20]) (by kernel_rfl) (by simp) ?_
    refine AllReadyH.cons (o := _) rfl (fun K hK => ?_) AllReadyH.nil
    (go_simp; go_at_call 18; (with_reducible refine (K6.out _ hHeld).mono ?_); rintro e wn ⟨rfl, hbn⟩)
    refine hK.out _ _ (by (try dsimp only); first | exact hHeld | exact hHeld.keep hbn) (fun hHeld => ?_)
    clear hK K
    try simp only [Act.put, List.setIfInBounds_toArray, List.set]
    refine takeD (i := 21) (oi := _) (some 33) (v := ?_) rfl rfl (by kernel_rfl) (by kernel_rfl) (by kernel_rfl) (fun _ _ _ h => h) (Or.inl ⟨by rfl, ?_⟩) (by assumption) ?_
    rotate_left
    · (intro w hSw; (try dsimp only at hSw); go_simp; try with_reducible rfl)
    simp only [Act.put, List.setIfInBounds_toArray, List.set]
    refine takeD (i := 22) (oi := _) (some 34) (v := ?_) rfl rfl (by kernel_rfl) (by kernel_rfl) (by kernel_rfl) (fun _ _ _ h => h) (Or.inl ⟨by rfl, ?_⟩) (by assumption) ?_
    rotate_left
    · (intro w hSw; (try dsimp only at hSw); go_simp; try with_reducible rfl)
    simp only [Act.put, List.setIfInBounds_toArray, List.set]
    refine takeD (i := 23) (oi := _) (some 35) (v := ?_) rfl rfl (by kernel_rfl) (by kernel_rfl) (by kernel_rfl) (fun _ _ _ h => h) (Or.inl ⟨by rfl, ?_⟩) (by assumption) ?_
    rotate_left
    · (intro w hSw; (try dsimp only at hSw); go_simp; try with_reducible rfl)
    simp only [Act.put, List.setIfInBounds_toArray, List.set]
    refine wpAnyH_ready (rs := [24]) (by kernel_rfl) (by simp) ?_
    refine AllReadyH.cons (o := _) rfl (fun K hK => ?_) AllReadyH.nil
    (go_simp; go_at_call 10; (with_reducible refine (awake23_c _).mono ?_); rintro e wn ⟨rfl, hbn⟩)
    refine hK.out _ _ (by (try dsimp only); first | exact hHeld | exact hHeld.keep hbn) (fun hHeld => ?_)
    clear hK K
    try simp only [Act.put, List.setIfInBounds_toArray, List.set]
    refine takeD (i := 25) (oi := _) (some 37) (v := ?_) rfl rfl (by kernel_rfl) (by kernel_rfl) (by kernel_rfl) (fun _ _ _ h => h) (Or.inl ⟨by rfl, ?_⟩) (by assumption) ?_
    rotate_left
    · (intro w hSw; (try dsimp only at hSw); go_simp; try with_reducible rfl)
    simp only [Act.put, List.setIfInBounds_toArray, List.set]
    refine takeD (i := 26) (oi := _) (some 6) (v := ?_) rfl rfl (by kernel_rfl) (by kernel_rfl) (by kernel_rfl) (fun _ _ _ h => h) (Or.inl ⟨by rfl, ?_⟩) (by assumption) ?_
    rotate_left
    · (intro w hSw; (try dsimp only at hSw); go_simp; try with_reducible rfl)
    simp only [Act.put, List.setIfInBounds_toArray, List.set]
    refine wpAnyH_done (by kernel_rfl) ?_ _

    have HB := Lib.hid hHeld.bl
    clear hHeld HS
    go_wp2_with fail
    go_ret
    exact ⟨rfl, HB.out⟩
  · have hf : fewB ⟨0, 0, 0, 0, 0, 0, []⟩ p = false := by simpa using hf
    rw [hf] at KF
    have kf : ∀ w : World, Calls Try.prog 9 #[.agg #[.int .i64 0, .int .i64 0, .int .i64 0, .int .i64 0, .int .i64 0, .int .i64 0, .slice none 0 0], .agg (pvA p s m s2 m2)] w fun e w' => e = .returned (.bool false) ∧ Below w.heap.size w w' := fun w => KF.out w
    have HKF := Lib.hid kf
    clear hf KF kf
    show Calls Try.prog 4 #[.agg #[.int .i64 p.kern, .int .i64 p.lev, .int .i64 p.col, .int .i64 p.bx, .int .i64 p.yb, .slice s p.prec.length m, .int .i64 p.ord, .int .i64 p.lay, .bool p.m0, .bool p.m1, .bool p.m2, .bool p.m3, .bool p.m4, .bool p.dv, .bool p.sy, .bool p.fe, .slice s2 p.steps.length m2, .int .i64 p.dead, .int .i64 p.sh], .int .i64 res, .int .i64 band] W _
    unfold pvA at HW2
    go_enter Try.func4, Try.ntmps4
    go_upto_region 1 with fail
    rw [← HW2]
    clear HW2
    go_wp2_with (first | (refine wpList_load_mid rfl 35 (.tmp 3) rfl W.heap.size 0 rfl (pvA p s m s2 m2).toList _ A0.out.bp.range Try.underlying35 rfl info19 ?_) | (go_at_call 9; (with_reducible refine (HKF.out _).mono ?_); rintro e w1 ⟨rfl, hb1⟩; have A1 := Lib.hid (A0.out.keep hb1); clear hb1) | (go_at_call 10; (with_reducible refine (awake23_c _).mono ?_); rintro e w2 ⟨rfl, hb2⟩; have B2 := Lib.hid (A1.out.keep hb2).bl; clear hb2) | fail)
    go_ret
    exact ⟨rfl, B2.out⟩

set_option maxRecDepth 100000 in
theorem lifted (os : Os) (started : os.Started) (H : Type) (enc : TypeId × Value → H) :
    ReturnsInHanded {} Try.checked os 4 .any (Rows.paramsNumbersSpec.pre6 enc Try.prog Try.f4 Rows.paramsNumbersRow.domain false) (Rows.paramsNumbersSpec.post enc Try.prog Try.f4 false true false false) := by
  refine returnsInHanded_of_change (C := Try.checked) own started (by kernel_rfl) Try.func4
    (ChangeSpec.witness6 (enc := enc) (C := Try.checked) false ⟨#[], #[.agg #[.int .i64 0, .int .i64 0, .int .i64 0, .int .i64 0, .int .i64 0, .slice none 0 0, .int .i64 0, .int .i64 0, .bool false, .bool false, .bool false, .bool false, .bool false, .bool false, .bool false, .bool false, .slice none 0 0, .int .i64 0, .int .i64 0], .int .i64 0, .int .i64 0], []⟩ 8 (by kernel_rfl) (by kernel_rfl) (by kernel_rfl) (by kernel_rfl)) ?_
  intro W base args ds gs before hval0 hW _ _
  have hval : ∀ (j : Nat) t v, Try.f4.params[j]? = some t → args[j]? = some v → Value.okWide Try.prog W .any base t v := hval0
  have hW' := hW
  obtain ⟨p, q, hA0, hV, rfl, _, _⟩ := hW
  have hA : DataW.TrodAll enc Try.prog W 0 (fun _ => true) true Try.f4.params.toList args.toList ds p := hA0
  rw [Try.params4] at hA hval
  obtain ⟨v0, vs0, d0, ds0, p0, q0, hargs, rfl, rfl, h0, r0⟩ := trodAll_cons hA
  obtain ⟨v1, vs1, d1, ds1, p1, q1, rfl, rfl, rfl, h1, r1⟩ := trodAll_cons r0
  obtain ⟨v2, vs2, d2, ds2, p2, q2, rfl, rfl, rfl, h2, r2⟩ := trodAll_cons r1
  obtain ⟨rfl, rfl, rfl⟩ := trodAll_nil r2
  obtain rfl : args = #[v0, v1, v2] := by cases args; simp_all
  obtain ⟨rfl, rfl⟩ := trodVars_none hV
  clear hA0 hval0
  simp only [List.append_nil] at hW'
  have l0 : ∀ x ∈ p0, x.block < W.heap.size := fun x hx => hW'.lt x (by simp [hx])
  have l1 : ∀ x ∈ p1, x.block < W.heap.size := fun x hx => hW'.lt x (by simp [hx])
  have l2 : ∀ x ∈ p2, x.block < W.heap.size := fun x hx => hW'.lt x (by simp [hx])
  obtain ⟨p0', s0, m0, t0, n0, rfl, hP0, hS0, hp0, hs0⟩ := open_params (hval 0 35 v0 rfl rfl) h0
  obtain ⟨i1, rfl, _, _, wi1⟩ := open_int Try.underlying3 (hval 1 3 v1 rfl rfl) h1
  obtain ⟨i2, rfl, _, _, wi2⟩ := open_int Try.underlying3 (hval 2 3 v2 rfl rfl) h2
  refine (walk p0' s0 m0 t0 n0 i1 i2 W hP0 hS0).mono fun e W' ⟨he, hb⟩ => ?_
  subst he
  exact ⟨_, rfl, post_low (pa := p0 ++ (p1 ++ (p2 ++ ([])))) (pv := []) hW' (fun _ _ _ => (trodAll_cons_mk (shut_bool Try.underlying4 _) trodAll_mk0)) (fun sp hsp => (trodAll_cons_mk (trod_low laidOut (by kernel_rfl) (of_decide_eq_true (by kernel_rfl)) h0 hb l0 (fun x hx => hsp x (by simp [hx]))) (trodAll_cons_mk (trod_low laidOut (by kernel_rfl) (of_decide_eq_true (by kernel_rfl)) h1 hb l1 (fun x hx => hsp x (by simp [hx]))) (trodAll_cons_mk (trod_low laidOut (by kernel_rfl) (of_decide_eq_true (by kernel_rfl)) h2 hb l2 (fun x hx => hsp x (by simp [hx]))) trodAll_mk0)))) (fun _ _ => rfl) (by simp) hb (ok_one (by kernel_rfl) rfl (okWide_bool_mk Try.underlying4 _))⟩

theorem over : Rows.paramsNumbersRow.holds Try.pinned (OpenSpec.ofChange Rows.paramsNumbersSpec) :=
  OpenClaim.holds_of_wide 4 Try.f4 rfl rfl rfl rfl rfl rfl rfl ⟨rfl, rfl, rfl, rfl, rfl⟩ rfl rfl rfl rfl rfl (by kernel_rfl) Try.func4 (by kernel_rfl)
    (of_decide_eq_true (by kernel_rfl)) (by unfold Func.isWrapper; first | (rw [if_pos (by decide +kernel)]; kernel_rfl) | (rw [if_neg (by decide +kernel)]; exact ⟨rfl, rfl⟩))
    (fun os started H enc _ => lifted os started H enc)

theorem proved : Rows.ParamsNumbersSaid :=
  over
#print axioms proved
end Go.Proofs.Ytkcjbehfhcmiaaa.paramsNumbers
