/-
  For all triples of integers the statement ContextSymmetry returns true; they read afterwards as before.
  Conditions: none beyond those of the given statement (the listed variables are tied by the card).
-/
import Derived.Test.YthmhapkeadkhbaaDoorCb
import Derived.Test.YthmhapkeadkhbaaDoorFrameC
import Derived.Test.YthmhapkeadkhbaaDoorTie
import Derived.Test.YthmhapkeadkhbaaDoorCards
import Derived.LaidMore
import Derived.Lay
import Derived.SevenTiedAt
import Derived.Stop.Joined
set_option maxRecDepth 100000
namespace Go.Proofs.YthmhapkeadkhbaaDoor.contextSymmetry
open Go.ChangeShapes Go.WideShapes Go.ChangeAt Go.RowKit Go.Joins Go.Deep

theorem sig_swap (h v d : Int) : sigM 1 h v d = sigM 2 v h d := rfl
theorem sig_swap3 (h v d : Int) : sigM 3 h v d = sigM 3 v h d := by
  show ((diaM (l2 h + l2 v) (l4 d) : Nat) : Int) = ((diaM (l2 v + l2 h) (l4 d) : Nat) : Int)
  rw [Nat.add_comm]
theorem l1_neg (h : Int) : l1 (-h) = - l1 h := by unfold l1 limM; omega
theorem sgC_neg (x y : Int) : sgC (-x) (-y) = sgC x y := by unfold sgC; split <;> split <;> omega
theorem sgF_neg (h v : Int) : (h = 0 ∧ v = 0 ∧ sgF (l1 h) (l1 v) = 0 ∧ sgF (-l1 h) (-l1 v) = 0) ∨ (¬ (h = 0 ∧ v = 0) ∧ ((sgF (l1 h) (l1 v) = 0 ∧ sgF (-l1 h) (-l1 v) = 1) ∨ (sgF (l1 h) (l1 v) = 1 ∧ sgF (-l1 h) (-l1 v) = 0))) := by
  by_cases hz : h = 0 ∧ v = 0
  · obtain ⟨rfl, rfl⟩ := hz
    exact .inl ⟨rfl, rfl, rfl, rfl⟩
  · refine .inr ⟨hz, ?_⟩
    have : ¬ (l1 h = 0 ∧ l1 v = 0) := by unfold l1 limM; omega
    unfold sgF
    generalize l1 h = x at *
    generalize l1 v = y at *
    by_cases hp : x < 0 ∨ x = 0 ∧ y < 0
    · rw [if_pos hp, if_neg (by omega)]; exact .inr ⟨rfl, rfl⟩
    · rw [if_neg hp, if_pos (by omega)]; exact .inl ⟨rfl, rfl⟩
theorem con_comm (a b : Int) : conM a b = conM b a := by unfold conM; rw [Int.add_comm]
theorem con_neg (a b : Int) : conM (-a) (-b) = - conM a b := by unfold conM; split <;> split <;> (try split) <;> (try split) <;> omega
theorem con_in (a b : Int) : conM a b = -1 ∨ conM a b = 0 ∨ conM a b = 1 := by unfold conM; split; simp; split <;> simp
theorem out (h v d : Int) (w : World) (T : Tabs w) (hin : h < -1152921504606846976 ∨ (-1152921504606846976 ≤ h ∧ 1152921504606846976 < h) ∨ (-1152921504606846976 ≤ h ∧ h ≤ 1152921504606846976 ∧ v < -1152921504606846976) ∨ (-1152921504606846976 ≤ h ∧ h ≤ 1152921504606846976 ∧ -1152921504606846976 ≤ v ∧ 1152921504606846976 < v)) : Calls Tryd.prog 6 #[.agg #[.int .i64 h, .int .i64 v, .int .i64 d]] w fun e w' => e = .returned (.bool true) ∧ Below w.heap.size w w' := by
  have HT := Lib.hid T
  clear T
  rcases hin with h1 | ⟨h1, h2⟩ | ⟨h1, h2, h3⟩ | ⟨h1, h2, h3, h4⟩ <;>
   (go_enter Tryd.func6, Tryd.ntmps6
    go_wp2_with fail
    go_quiet (fail)
    go_wp2_with fail
    have hb := below_call (below_alloc (Below.refl _ w) (.cells #[.int .i64 h, .int .i64 v, .int .i64 d] 23)) (drewN_below _ nq)
    refine (ex13_c _ (HT.out.below hb)).mono ?_
    rintro e w2 ⟨rfl, hb2⟩
    go_wp2_with fail
    go_ret
    exact ⟨rfl, below_call hb hb2⟩)
set_option maxHeartbeats 4000000 in
theorem inside (h v d C f g : Int) (w : World) (T : Tabs w) (h1 : -1152921504606846976 ≤ h) (h2 : h ≤ 1152921504606846976) (h3 : -1152921504606846976 ≤ v) (h4 : v ≤ 1152921504606846976)
    (e1 : sgC (l1 h) (l1 v) = C) (e2 : sgC (l1 (-h)) (l1 (-v)) = C) (e3 : sgF (l1 h) (l1 v) = f) (e4 : sgF (l1 (-h)) (l1 (-v)) = g)
    (hfg : ((h != 0) = false ∧ (v != 0) = false ∧ f = 0 ∧ g = 0) ∨ (f = 0 ∧ g = 1) ∨ (f = 1 ∧ g = 0)) : Calls Tryd.prog 6 #[.agg #[.int .i64 h, .int .i64 v, .int .i64 d]] w fun e w' => e = .returned (.bool true) ∧ Below w.heap.size w w' := by
  have HT := Lib.hid T
  have s1 := fun W T => sig_c 1 h v d W T
  have s2 := fun W T => sig_c 2 v h d W T
  have s3 := fun W T => sig_c 3 h v d W T
  have s4 := fun W T => sig_c 3 v h d W T
  rw [← sig_swap h v d] at s2
  rw [← sig_swap3 h v d] at s4
  obtain ⟨r1, hr1⟩ : ∃ r, r = sigM 1 h v d := ⟨_, rfl⟩
  obtain ⟨r2, hr2⟩ : ∃ r, r = sigM 3 h v d := ⟨_, rfl⟩
  rw [← hr1] at s1 s2
  rw [← hr2] at s3 s4
  have g1 := fun W T => sgn_c h v W T
  have g2 := fun W T => sgn_c (-h) (-v) W T
  rw [e1, e3] at g1
  rw [e2, e4] at g2
  have rh : i64R h := ⟨by omega, by omega⟩
  have rv : i64R v := ⟨by omega, by omega⟩
  have rh' : i64R (-h) := ⟨by omega, by omega⟩
  have rv' : i64R (-v) := ⟨by omega, by omega⟩
  have k1 := con_c h v rh rv
  have k2 := con_c v h rv rh
  have k3 := con_c (-h) (-v) rh' rv'
  rw [con_comm v h] at k2
  rw [con_neg] at k3
  have hq := con_in h v
  obtain ⟨q, eq⟩ : ∃ q, q = conM h v := ⟨_, rfl⟩
  rw [← eq] at k1 k2 k3 hq
  have w1 : IntKind.i64.wrap (-h) = -h := by rw [IntWalk.i64_left]; unfold wrap64; omega
  have w2 : IntKind.i64.wrap (-v) = -v := by rw [IntWalk.i64_left]; unfold wrap64; omega
  have w3 : IntKind.i64.wrap (-q) = -q := by rw [IntWalk.i64_left]; unfold wrap64; omega
  have b1 : (r1 != r1) = false := by simp
  have b2 : (r2 != r2) = false := by simp
  have b3 : (C != C) = false := by simp
  have b4 : (q == q) = true := by simp
  have b5 : (-q == -q) = true := by simp
  clear T e1 e2 e3 e4 hr1 hr2 rh rv rh' rv' eq hq
  rcases hfg with ⟨z1, z2, rfl, rfl⟩ | ⟨rfl, rfl⟩ | ⟨rfl, rfl⟩ <;>
   (go_enter Tryd.func6, Tryd.ntmps6
    go_wp2_with fail
    go_quiet (fail)
    have hb := below_call (below_alloc (Below.refl _ w) (.cells #[.int .i64 h, .int .i64 v, .int .i64 d] 23)) (drewN_below _ nq)
    have t1 := HT.out.below hb
    replace s1 := s1 _ t1
    replace s2 := s2 _ t1
    replace s3 := s3 _ t1
    replace s4 := s4 _ t1
    have HB := Lib.hid hb
    have HT1 := Lib.hid t1
    clear t1 hb
    go_wp2_with (first | (go_at_call 8; first | ((with_reducible refine s1.mono ?_); rintro e wn ⟨rfl, rfl⟩) | ((with_reducible refine s2.mono ?_); rintro e wn ⟨rfl, rfl⟩) | ((with_reducible refine s3.mono ?_); rintro e wn ⟨rfl, rfl⟩) | ((with_reducible refine s4.mono ?_); rintro e wn ⟨rfl, rfl⟩)))
    refine (g1 _ HT1.out).mono ?_
    rintro e w2 ⟨rfl, hb2⟩
    clear s1 s2 s3 s4
    go_wp2_with fail
    refine (g2 _ (HT1.out.below hb2)).mono ?_
    rintro e w3 ⟨rfl, hb3⟩
    go_wp2_with (first | (go_at_call 15; first | ((with_reducible refine (k1 _).mono ?_); rintro e wn ⟨rfl, rfl⟩) | ((with_reducible refine (k2 _).mono ?_); rintro e wn ⟨rfl, rfl⟩) | ((with_reducible refine (k3 _).mono ?_); rintro e wn ⟨rfl, rfl⟩)))
    refine (ex13_c _ ((HT1.out.below hb2).below hb3)).mono ?_
    rintro e w4 ⟨rfl, hb4⟩
    go_wp2_with fail
    go_ret
    exact ⟨rfl, below_call (below_call (below_call HB.out hb2) hb3) hb4⟩)
theorem walk (h v d : Int) (w : World) (T : Tabs w) : Calls Tryd.prog 6 #[.agg #[.int .i64 h, .int .i64 v, .int .i64 d]] w fun e w' => e = .returned (.bool true) ∧ Below w.heap.size w w' := by
  by_cases hin : (-1152921504606846976 ≤ h ∧ h ≤ 1152921504606846976) ∧ (-1152921504606846976 ≤ v ∧ v ≤ 1152921504606846976)
  · obtain ⟨⟨h1, h2⟩, h3, h4⟩ := hin
    refine inside h v d _ _ _ w T h1 h2 h3 h4 rfl ?_ rfl rfl ?_
    · rw [l1_neg, l1_neg, sgC_neg]
    · rw [l1_neg, l1_neg]
      rcases sgF_neg h v with ⟨a, b, c, d⟩ | ⟨_, ⟨a, b⟩ | ⟨a, b⟩⟩
      · exact .inl ⟨by simp [a], by simp [b], c, d⟩
      · exact .inr (.inl ⟨a, b⟩)
      · exact .inr (.inr ⟨a, b⟩)
  · exact out h v d w T (by omega)

set_option maxRecDepth 100000 in
theorem lifted (os : Os) (started : os.Started) (H : Type) (enc : TypeId × Value → H) :
    ReturnsInHanded {} Tryd.checked os 6 .any (fun w args => (Rows.contextSymmetrySpec.pre enc Tryd.prog Tryd.f6 Rows.contextSymmetryRow.domain false w args ∧ laidMetH Tryd.prog Rows.contextSymmetryRow.laid w) ∧ sizedMet enc Tryd.prog Tryd.f6 (OpenSpec.ofChange Rows.contextSymmetrySpec) false w args)
      (Rows.contextSymmetrySpec.post enc Tryd.prog Tryd.f6 false true false false) := by
  refine returnsInHanded_of_change_and (C := Tryd.checked) (X := fun w _ => laidMetH Tryd.prog Rows.contextSymmetryRow.laid w) (fun _ _ _ hh h => h.of_heap hh) own started (by kernel_rfl) Tryd.func6
    (ChangeSpec.witness_shaped (enc := enc) (C := Tryd.checked) (os := os) (X := fun w _ => laidMetH Tryd.prog Rows.contextSymmetryRow.laid w) false (World.laidAll Tryd.prog os Rows.contextSymmetryRow.laid) #[.agg #[.int .i64 0, .int .i64 0, .int .i64 0]] 8 (World.laidAll_os _ _ _)
      (World.shaped_of_ZipB (by kernel_rfl) (by kernel_rfl)) (by kernel_rfl) (by kernel_rfl) (by kernel_rfl)
      (by rw [MakeChecks.laidMetH_plain _ _ _ (by kernel_rfl)]; exact laidMet_laidAll _ (by kernel_rfl) (by kernel_rfl))) ?_
  intro W base args ds gs before hval0 hW _ _ hL _
  have hval : ∀ (j : Nat) t v, Tryd.f6.params[j]? = some t → args[j]? = some v → Value.okWide Tryd.prog W .any base t v := hval0
  have hT : Tabs W := tabs_of_laid hL
  have hW' := hW
  obtain ⟨p, q, hA0, hV, rfl, _, _⟩ := hW
  have hA : DataW.TrodAll enc Tryd.prog W 0 (fun _ => true) true Tryd.f6.params.toList args.toList ds p := hA0
  rw [Tryd.params6] at hA hval
  obtain ⟨v0, vs0, d0, ds0, p0, q0, hargs, rfl, rfl, h0, r0⟩ := trodAll_cons hA
  obtain ⟨rfl, rfl, rfl⟩ := trodAll_nil r0
  obtain rfl : args = #[v0] := by cases args; simp_all
  obtain ⟨rfl, rfl⟩ := trodVars_none hV
  clear hA0 hval0
  simp only [List.append_nil] at hW'
  have l0 : ∀ x ∈ p0, x.block < W.heap.size := fun x hx => hW'.lt x (by simp [hx])
  obtain ⟨a0, b0, c0, rfl, ra0, rb0, rc0⟩ := open_A3 (hval 0 23 v0 rfl rfl) h0
  refine (walk a0 b0 c0 W hT).mono fun e W' ⟨he, hb⟩ => ?_
  subst he
  exact ⟨_, rfl, post_low (pa := p0 ++ ([])) (pv := []) hW' (fun _ _ _ => (trodAll_cons_mk (shut_bool Tryd.underlying4 _) trodAll_mk0)) (fun sp hsp => (trodAll_cons_mk (trod_low laidOut (by kernel_rfl) (of_decide_eq_true (by kernel_rfl)) h0 hb l0 (fun x hx => hsp x (by simp [hx]))) trodAll_mk0)) (fun _ _ => rfl) (by simp) hb (ok_one (by kernel_rfl) rfl (okWide_bool_mk Tryd.underlying4 _))⟩

theorem over : Rows.contextSymmetryRow.holds Tryd.pinned (OpenSpec.ofChange Rows.contextSymmetrySpec) :=
  OpenClaim.holds_of_wide 6 Tryd.f6 rfl rfl rfl rfl rfl rfl rfl ⟨rfl, rfl, rfl, rfl, rfl⟩ rfl rfl rfl rfl rfl (by kernel_rfl) Tryd.func6 (by kernel_rfl)
    (of_decide_eq_true (by kernel_rfl)) (by unfold Func.isWrapper; first | (rw [if_pos (by decide +kernel)]; kernel_rfl) | (rw [if_neg (by decide +kernel)]; exact ⟨rfl, rfl⟩))
    (fun os started H enc _ => lifted os started H enc)
theorem proved : Rows.ContextSymmetryCardSaid :=
  Claim7.holds_tied_plain_at .later [] [.data, .data, .data] true Rows.contextSymmetryCard.stood.harness false over (fun _ h => by cases h) (by kernel_rfl) (fun _ h => by cases h) contextSymmetry_row_tie rfl ⟨rfl, rfl⟩ (by kernel_rfl) rfl
    (fun f fn hf hfn => by
      obtain rfl : f = 6 := Option.some.inj ((show Tryd.prog.funcNamed Rows.contextSymmetryRow.func = some 6 by kernel_rfl).symm.trans hf) |>.symm
      obtain rfl : fn = Tryd.f6 := (Option.some.inj (Tryd.func6.symm.trans hfn)).symm
      exact ⟨by kernel_rfl, fun j t ht => by
        rw [Tryd.params6] at ht
        have hm : t ∈ [23] := by simpa using Array.mem_of_getElem? ht
        have hall : ([23].all fun u => !Tryd.prog.wantsStandIn u) = true := by kernel_rfl
        exact (show Tryd.prog.wantsStandIn t = false by simpa using List.all_eq_true.1 hall t hm)⟩)
    (by kernel_rfl)
#print axioms proved
end Go.Proofs.YthmhapkeadkhbaaDoor.contextSymmetry
