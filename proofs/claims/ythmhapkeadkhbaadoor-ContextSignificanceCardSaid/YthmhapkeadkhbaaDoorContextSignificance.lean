/-
  For all orientations and numbers of neighbors the statement ContextSignificance returns true; they read afterwards as before.
  Conditions: none beyond those of the given statement (the listed variables are tied by the card).
-/
import Derived.Test.YthmhapkeadkhbaaDoorCb
import Derived.Test.YthmhapkeadkhbaaDoorFrameC
import Derived.Test.YthmhapkeadkhbaaDoorTie
import Derived.Test.YthmhapkeadkhbaaDoorCards
import Derived.LaidMore
import Derived.Lay
import Derived.SevenTiedAt
import Derived.Stop.Joined
set_option maxRecDepth 100000
namespace Go.Proofs.YthmhapkeadkhbaaDoor.contextSignificance
open Go.ChangeShapes Go.WideShapes Go.ChangeAt Go.RowKit Go.Joins Go.Deep

set_option maxHeartbeats 4000000 in
theorem walk (o a b c : Int) (w : World) (T : Tabs w) : Calls Tryd.prog 3 #[.int .i64 o, .agg #[.int .i64 a, .int .i64 b, .int .i64 c]] w fun e w' => e = .returned (.bool true) ∧ Below w.heap.size w w' := by
  obtain ⟨X, hX⟩ : ∃ X, X = w.alloc (.cells #[.int .i64 a, .int .i64 b, .int .i64 c] 23) := ⟨_, rfl⟩
  have hb : Below w.heap.size w X.drew := by rw [hX]; exact (below_alloc (Below.refl _ w) _).drew
  have hT := T.below hb
  have s1 := sig_c o a b c X.drew hT
  have s2 := sigR_c o a b c X.drew
  obtain ⟨r, hr⟩ : ∃ r, r = sigM o a b c := ⟨_, rfl⟩
  rw [← hr] at s1 s2
  have hrr : (r == r) = true := by simp
  have hx := ex13_c X.drew hT
  have c0 : X.drew.cell? ⟨w.heap.size, 0, none⟩ = some (.int .i64 a) := by rw [hX]; simp
  have c1 : X.drew.cell? ⟨w.heap.size, 1, none⟩ = some (.int .i64 b) := by rw [hX]; simp
  have c2 : X.drew.cell? ⟨w.heap.size, 2, none⟩ = some (.int .i64 c) := by rw [hX]; simp
  have hlt : w.heap.size < X.drew.heap.size := by rw [hX]; simp
  rw [hX] at s1 s2 hx c0 c1 c2 hlt hb
  have HB := Lib.hid hb
  have HL := Lib.hid hlt
  clear hr hT hX hb hlt T
  go_enter Tryd.func3, Tryd.ntmps3
  go_wp2_with fail
  go_region_held3 (fun w' => w'.cell? ⟨w.heap.size, 0, none⟩ = some (.int .i64 a) ∧ w'.cell? ⟨w.heap.size, 1, none⟩ = some (.int .i64 b) ∧ w'.cell? ⟨w.heap.size, 2, none⟩ = some (.int .i64 c))
    (first | (with_reducible exact ⟨c0, c1, c2⟩) | (with_reducible exact ⟨d0, d1, d2⟩) | fail)
    (first | (go_simp; go_at_call 8; (with_reducible refine s1.mono ?_); rintro e wn ⟨rfl, rfl⟩) | (go_simp; go_at_call 9; (with_reducible refine s2.mono ?_); rintro e wn ⟨rfl, rfl⟩) | (go_simp; go_at_call 10; (with_reducible refine hx.mono ?_); rintro e wx ⟨rfl, hbx⟩; have d0 := (hbx.cell (p := ⟨w.heap.size, 0, none⟩) HL.out).trans c0; have d1 := (hbx.cell (p := ⟨w.heap.size, 1, none⟩) HL.out).trans c1; have d2 := (hbx.cell (p := ⟨w.heap.size, 2, none⟩) HL.out).trans c2; have HX := Lib.hid (below_call HB.out hbx); clear hbx) | fail)
  all_goals
    go_wp2_with fail
    go_ret
    exact ⟨rfl, HX.out⟩

set_option maxRecDepth 100000 in
theorem lifted (os : Os) (started : os.Started) (H : Type) (enc : TypeId × Value → H) :
    ReturnsInHanded {} Tryd.checked os 3 .any (fun w args => (Rows.contextSignificanceSpec.pre enc Tryd.prog Tryd.f3 Rows.contextSignificanceRow.domain false w args ∧ laidMetH Tryd.prog Rows.contextSignificanceRow.laid w) ∧ sizedMet enc Tryd.prog Tryd.f3 (OpenSpec.ofChange Rows.contextSignificanceSpec) false w args)
      (Rows.contextSignificanceSpec.post enc Tryd.prog Tryd.f3 false true false false) := by
  refine returnsInHanded_of_change_and (C := Tryd.checked) (X := fun w _ => laidMetH Tryd.prog Rows.contextSignificanceRow.laid w) (fun _ _ _ hh h => h.of_heap hh) own started (by kernel_rfl) Tryd.func3
    (ChangeSpec.witness_shaped (enc := enc) (C := Tryd.checked) (os := os) (X := fun w _ => laidMetH Tryd.prog Rows.contextSignificanceRow.laid w) false (World.laidAll Tryd.prog os Rows.contextSignificanceRow.laid) #[.int .i64 0, .agg #[.int .i64 0, .int .i64 0, .int .i64 0]] 8 (World.laidAll_os _ _ _)
      (World.shaped_of_ZipB (by kernel_rfl) (by kernel_rfl)) (by kernel_rfl) (by kernel_rfl) (by kernel_rfl)
      (by rw [MakeChecks.laidMetH_plain _ _ _ (by kernel_rfl)]; exact laidMet_laidAll _ (by kernel_rfl) (by kernel_rfl))) ?_
  intro W base args ds gs before hval0 hW _ _ hL _
  have hval : ∀ (j : Nat) t v, Tryd.f3.params[j]? = some t → args[j]? = some v → Value.okWide Tryd.prog W .any base t v := hval0
  have hT : Tabs W := tabs_of_laid hL
  have hW' := hW
  obtain ⟨p, q, hA0, hV, rfl, _, _⟩ := hW
  have hA : DataW.TrodAll enc Tryd.prog W 0 (fun _ => true) true Tryd.f3.params.toList args.toList ds p := hA0
  rw [Tryd.params3] at hA hval
  obtain ⟨v0, vs0, d0, ds0, p0, q0, hargs, rfl, rfl, h0, r0⟩ := trodAll_cons hA
  obtain ⟨v1, vs1, d1, ds1, p1, q1, rfl, rfl, rfl, h1, r1⟩ := trodAll_cons r0
  obtain ⟨rfl, rfl, rfl⟩ := trodAll_nil r1
  obtain rfl : args = #[v0, v1] := by cases args; simp_all
  obtain ⟨rfl, rfl⟩ := trodVars_none hV
  clear hA0 hval0
  simp only [List.append_nil] at hW'
  have l0 : ∀ x ∈ p0, x.block < W.heap.size := fun x hx => hW'.lt x (by simp [hx])
  have l1 : ∀ x ∈ p1, x.block < W.heap.size := fun x hx => hW'.lt x (by simp [hx])
  obtain ⟨i0, rfl, _, _, wi0⟩ := open_int Tryd.underlying22 (hval 0 22 v0 rfl rfl) h0
  obtain ⟨a1, b1, c1, rfl, ra1, rb1, rc1⟩ := open_A3 (hval 1 23 v1 rfl rfl) h1
  refine (walk i0 a1 b1 c1 W hT).mono fun e W' ⟨he, hb⟩ => ?_
  subst he
  exact ⟨_, rfl, post_low (pa := p0 ++ (p1 ++ ([]))) (pv := []) hW' (fun _ _ _ => (trodAll_cons_mk (shut_bool Tryd.underlying4 _) trodAll_mk0)) (fun sp hsp => (trodAll_cons_mk (trod_low laidOut (by kernel_rfl) (of_decide_eq_true (by kernel_rfl)) h0 hb l0 (fun x hx => hsp x (by simp [hx]))) (trodAll_cons_mk (trod_low laidOut (by kernel_rfl) (of_decide_eq_true (by kernel_rfl)) h1 hb l1 (fun x hx => hsp x (by simp [hx]))) trodAll_mk0))) (fun _ _ => rfl) (by simp) hb (ok_one (by kernel_rfl) rfl (okWide_bool_mk Tryd.underlying4 _))⟩

theorem over : Rows.contextSignificanceRow.holds Tryd.pinned (OpenSpec.ofChange Rows.contextSignificanceSpec) :=
  OpenClaim.holds_of_wide 3 Tryd.f3 rfl rfl rfl rfl rfl rfl rfl ⟨rfl, rfl, rfl, rfl, rfl⟩ rfl rfl rfl rfl rfl (by kernel_rfl) Tryd.func3 (by kernel_rfl)
    (of_decide_eq_true (by kernel_rfl)) (by unfold Func.isWrapper; first | (rw [if_pos (by decide +kernel)]; kernel_rfl) | (rw [if_neg (by decide +kernel)]; exact ⟨rfl, rfl⟩))
    (fun os started H enc _ => lifted os started H enc)
theorem proved : Rows.ContextSignificanceCardSaid :=
  Claim7.holds_tied_plain_at .later [] [.data, .data, .data] true Rows.contextSignificanceCard.stood.harness false over (fun _ h => by cases h) (by kernel_rfl) (fun _ h => by cases h) contextSignificance_row_tie rfl ⟨rfl, rfl⟩ (by kernel_rfl) rfl
    (fun f fn hf hfn => by
      obtain rfl : f = 3 := Option.some.inj ((show Tryd.prog.funcNamed Rows.contextSignificanceRow.func = some 3 by kernel_rfl).symm.trans hf) |>.symm
      obtain rfl : fn = Tryd.f3 := (Option.some.inj (Tryd.func3.symm.trans hfn)).symm
      exact ⟨by kernel_rfl, fun j t ht => by
        rw [Tryd.params3] at ht
        have hm : t ∈ [22, 23] := by simpa using Array.mem_of_getElem? ht
        have hall : ([22, 23].all fun u => !Tryd.prog.wantsStandIn u) = true := by kernel_rfl
        exact (show Tryd.prog.wantsStandIn t = false by simpa using List.all_eq_true.1 hall t hm)⟩)
    (by kernel_rfl)
#print axioms proved
end Go.Proofs.YthmhapkeadkhbaaDoor.contextSignificance
