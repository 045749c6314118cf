/-
  For all coefficients, indices and parameters the statement DistortErrors returns true.
  Conditions: none beyond those of the given statement (the listed variables are tied by the card).
-/
import Derived.Test.YtnmmgjbjnhiaoaaDoorDl19
import Derived.Test.YtnmmgjbjnhiaoaaDoorTie
import Derived.Test.YtnmmgjbjnhiaoaaDoorCards
import Derived.LaidMore
import Derived.Lay
import Derived.SevenTiedAt
import Derived.Stop.Joined
set_option maxRecDepth 100000
namespace Go.Proofs.YtnmmgjbjnhiaoaaDoor.distortErrors
open Go.ChangeShapes Go.WideShapes Go.ChangeAt Go.RowKit Go.Joins Go.Deep

set_option maxHeartbeats 8000000 in
theorem walk (c v0 v1 q0 q1 : Int) (hv : i64R v0) (W : World) : Calls Tryd.prog 4 #[.int .i64 c, .agg #[.int .i64 v0, .int .i64 v1], .agg #[.int .i64 q0, .int .i64 q1]] W fun e w' => e = .returned (.bool true) ∧ Below W.heap.size W w' := by
  obtain ⟨X, hX⟩ : ∃ X, X = (W.alloc (.cells #[.int .i64 v0, .int .i64 v1] 25)).alloc (.cells #[.int .i64 q0, .int .i64 q1] 25) := ⟨_, rfl⟩
  have hb : Below W.heap.size W X.drew := by rw [hX]; exact (below_alloc (below_alloc (Below.refl _ W) _) _).drew
  have h1 : Blk X.drew W.heap.size 25 #[.int .i64 v0, .int .i64 v1] := by rw [hX]; exact ((Blk.new W _ _).alloc _).drew
  have h2 : Blk X.drew (W.heap.size + 1) 25 #[.int .i64 q0, .int .i64 q1] := by
    have := Blk.new (W.alloc (.cells #[.int .i64 v0, .int .i64 v1] 25)) 25 #[.int .i64 q0, .int .i64 q1]
    rw [hX]; exact Blk.drew (by simpa using this)
  have k1 := derror_c c v0 v1 q0 q1 X.drew hv
  have k2 := rerror_c c v0 v1 q0 q1 X.drew
  have ke := ex19_c X.drew
  have z0 : X.drew.cell? ⟨W.heap.size, 0, none⟩ = some (.int .i64 v0) ∧ X.drew.cell? ⟨W.heap.size, 1, none⟩ = some (.int .i64 v1) ∧ X.drew.cell? ⟨W.heap.size + 1, 0, none⟩ = some (.int .i64 q0) ∧ X.drew.cell? ⟨W.heap.size + 1, 1, none⟩ = some (.int .i64 q1) := ⟨h1.cell 0, h1.cell 1, h2.cell 0, h2.cell 1⟩
  have H1 := Lib.hid h1
  have H2 := Lib.hid h2
  have HB := Lib.hid hb
  have HX := Lib.hid hX
  rw [hX] at k1 k2 ke z0
  clear h1 h2 hb hX hv
  generalize erI c v0 v1 q0 q1 = r at *
  have hrr : (r == r) = true := by simp
  go_enter Tryd.func4, Tryd.ntmps4
  go_wp2_with fail
  go_region_held3 (fun w' => w'.cell? ⟨W.heap.size, 0, none⟩ = some (.int .i64 v0) ∧ w'.cell? ⟨W.heap.size, 1, none⟩ = some (.int .i64 v1) ∧ w'.cell? ⟨W.heap.size + 1, 0, none⟩ = some (.int .i64 q0) ∧ w'.cell? ⟨W.heap.size + 1, 1, none⟩ = some (.int .i64 q1))
    (first | (with_reducible exact z0) | (with_reducible exact z1) | fail)
    (first | (go_simp; go_at_call 12; (with_reducible refine k1.mono ?_); rintro e wn ⟨rfl, rfl⟩) | (go_simp; go_at_call 13; (with_reducible refine k2.mono ?_); rintro e wn ⟨rfl, rfl⟩) | (go_simp; go_at_call 11; (with_reducible refine ke.mono ?_); rintro e w5 ⟨rfl, hb5⟩; have B5 := Lib.hid (below_call HB.out (by rw [HX.out]; exact hb5)); have z1 : w5.cell? ⟨W.heap.size, 0, none⟩ = some (.int .i64 v0) ∧ w5.cell? ⟨W.heap.size, 1, none⟩ = some (.int .i64 v1) ∧ w5.cell? ⟨W.heap.size + 1, 0, none⟩ = some (.int .i64 q0) ∧ w5.cell? ⟨W.heap.size + 1, 1, none⟩ = some (.int .i64 q1) := ⟨(H1.out.below (by rw [HX.out]; exact hb5)).cell 0, (H1.out.below (by rw [HX.out]; exact hb5)).cell 1, (H2.out.below (by rw [HX.out]; exact hb5)).cell 0, (H2.out.below (by rw [HX.out]; exact hb5)).cell 1⟩; clear hb5) | fail)
  all_goals
    go_wp2_with fail
    go_ret
    exact ⟨rfl, B5.out⟩

set_option maxRecDepth 100000 in
theorem lifted (os : Os) (started : os.Started) (H : Type) (enc : TypeId × Value → H) :
    ReturnsInHanded {} Tryd.checked os 4 .any (fun w args => (Rows.distortErrorsSpec.pre enc Tryd.prog Tryd.f4 Rows.distortErrorsRow.domain false w args ∧ laidMetH Tryd.prog Rows.distortErrorsRow.laid w) ∧ sizedMet enc Tryd.prog Tryd.f4 (OpenSpec.ofChange Rows.distortErrorsSpec) false w args)
      (Rows.distortErrorsSpec.post enc Tryd.prog Tryd.f4 false true false false) := by
  refine returnsInHanded_of_change_and (C := Tryd.checked) (X := fun w _ => laidMetH Tryd.prog Rows.distortErrorsRow.laid w) (fun _ _ _ hh h => h.of_heap hh) own started (by kernel_rfl) Tryd.func4
    (ChangeSpec.witness_shaped (enc := enc) (C := Tryd.checked) (os := os) (X := fun w _ => laidMetH Tryd.prog Rows.distortErrorsRow.laid w) false (World.laidAll Tryd.prog os Rows.distortErrorsRow.laid) #[.int .i64 0, .agg #[.int .i64 0, .int .i64 0], .agg #[.int .i64 0, .int .i64 0]] 8 (World.laidAll_os _ _ _)
      (World.shaped_of_ZipB (by kernel_rfl) (by kernel_rfl)) (by kernel_rfl) (by kernel_rfl) (by kernel_rfl)
      (by rw [MakeChecks.laidMetH_plain _ _ _ (by kernel_rfl)]; exact laidMet_laidAll _ (by kernel_rfl) (by kernel_rfl))) ?_
  intro W base args ds gs before hval0 hW _ _ _ _
  have hval : ∀ (j : Nat) t v, Tryd.f4.params[j]? = some t → args[j]? = some v → Value.okWide Tryd.prog W .any base t v := hval0
  have hW' := hW
  obtain ⟨p, q, hA0, hV, rfl, _, _⟩ := hW
  have hA : DataW.TrodAll enc Tryd.prog W 0 (fun _ => true) true Tryd.f4.params.toList args.toList ds p := hA0
  rw [Tryd.params4] at hA hval
  obtain ⟨v0, vs0, d0, ds0, p0, q0, hargs, rfl, rfl, h0, r0⟩ := trodAll_cons hA
  obtain ⟨v1, vs1, d1, ds1, p1, q1, rfl, rfl, rfl, h1, r1⟩ := trodAll_cons r0
  obtain ⟨v2, vs2, d2, ds2, p2, q2, rfl, rfl, rfl, h2, r2⟩ := trodAll_cons r1
  obtain ⟨rfl, rfl, rfl⟩ := trodAll_nil r2
  obtain rfl : args = #[v0, v1, v2] := by cases args; simp_all
  obtain ⟨rfl, rfl⟩ := trodVars_none hV
  clear hA0 hval0
  simp only [List.append_nil] at hW'
  have l0 : ∀ x ∈ p0, x.block < W.heap.size := fun x hx => hW'.lt x (by simp [hx])
  have l1 : ∀ x ∈ p1, x.block < W.heap.size := fun x hx => hW'.lt x (by simp [hx])
  have l2 : ∀ x ∈ p2, x.block < W.heap.size := fun x hx => hW'.lt x (by simp [hx])
  obtain ⟨i0, rfl, _, _, wi0⟩ := open_int Tryd.underlying3 (hval 0 3 v0 rfl rfl) h0
  obtain ⟨a1, b1, rfl, ra1, rb1⟩ := open_N2 (hval 1 25 v1 rfl rfl) h1
  obtain ⟨a2, b2, rfl, ra2, rb2⟩ := open_N2 (hval 2 25 v2 rfl rfl) h2
  refine (walk i0 a1 b1 a2 b2 ra1 W).mono fun e W' ⟨he, hb⟩ => ?_
  subst he
  exact ⟨_, rfl, post_low (pa := p0 ++ (p1 ++ (p2 ++ ([])))) (pv := []) hW' (fun _ _ _ => (trodAll_cons_mk (shut_bool Tryd.underlying4 _) trodAll_mk0)) (fun sp hsp => (trodAll_cons_mk (trod_low laidOut (by kernel_rfl) (of_decide_eq_true (by kernel_rfl)) h0 hb l0 (fun x hx => hsp x (by simp [hx]))) (trodAll_cons_mk (trod_low laidOut (by kernel_rfl) (of_decide_eq_true (by kernel_rfl)) h1 hb l1 (fun x hx => hsp x (by simp [hx]))) (trodAll_cons_mk (trod_low laidOut (by kernel_rfl) (of_decide_eq_true (by kernel_rfl)) h2 hb l2 (fun x hx => hsp x (by simp [hx]))) trodAll_mk0)))) (fun _ _ => rfl) (by simp) hb (ok_one (by kernel_rfl) rfl (okWide_bool_mk Tryd.underlying4 _))⟩

theorem over : Rows.distortErrorsRow.holds Tryd.pinned (OpenSpec.ofChange Rows.distortErrorsSpec) :=
  OpenClaim.holds_of_wide 4 Tryd.f4 rfl rfl rfl rfl rfl rfl rfl ⟨rfl, rfl, rfl, rfl, rfl⟩ rfl rfl rfl rfl rfl (by kernel_rfl) Tryd.func4 (by kernel_rfl)
    (of_decide_eq_true (by kernel_rfl)) (by unfold Func.isWrapper; first | (rw [if_pos (by decide +kernel)]; kernel_rfl) | (rw [if_neg (by decide +kernel)]; exact ⟨rfl, rfl⟩))
    (fun os started H enc _ => lifted os started H enc)
theorem proved : Rows.DistortErrorsCardSaid :=
  Claim7.holds_tied_plain_at .later [] [.data, .data, .data] true Rows.distortErrorsCard.stood.harness false over (fun _ h => by cases h) (by kernel_rfl) (fun _ h => by cases h) distortErrors_row_tie rfl ⟨rfl, rfl⟩ (by kernel_rfl) rfl
    (fun f fn hf hfn => by
      obtain rfl : f = 4 := Option.some.inj ((show Tryd.prog.funcNamed Rows.distortErrorsRow.func = some 4 by kernel_rfl).symm.trans hf) |>.symm
      obtain rfl : fn = Tryd.f4 := (Option.some.inj (Tryd.func4.symm.trans hfn)).symm
      exact ⟨by kernel_rfl, fun j t ht => by
        rw [Tryd.params4] at ht
        have hm : t ∈ [3, 25, 25] := by simpa using Array.mem_of_getElem? ht
        have hall : ([3, 25, 25].all fun u => !Tryd.prog.wantsStandIn u) = true := by kernel_rfl
        exact (show Tryd.prog.wantsStandIn t = false by simpa using List.all_eq_true.1 hall t hm)⟩)
    (by kernel_rfl)
#print axioms proved
end Go.Proofs.YtnmmgjbjnhiaoaaDoor.distortErrors
