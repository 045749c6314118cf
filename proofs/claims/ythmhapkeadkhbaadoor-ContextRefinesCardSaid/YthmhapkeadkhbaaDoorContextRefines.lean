/-
  For all flags and pairs of integers the statement ContextRefines returns true; they read afterwards as before.
  Conditions: none beyond those of the given statement (the listed variables are tied by the card).
-/
import Derived.Test.YthmhapkeadkhbaaDoorCb
import Derived.Test.YthmhapkeadkhbaaDoorFrameC
import Derived.Test.YthmhapkeadkhbaaDoorTie
import Derived.Test.YthmhapkeadkhbaaDoorCards
import Derived.LaidMore
import Derived.Lay
import Derived.SevenTiedAt
import Derived.Stop.Joined
set_option maxRecDepth 100000
namespace Go.Proofs.YthmhapkeadkhbaaDoor.contextRefines
open Go.ChangeShapes Go.WideShapes Go.ChangeAt Go.RowKit Go.Joins Go.Deep

set_option maxHeartbeats 4000000 in
theorem walk (f g : Bool) (a b : Int) (w : World) (T : Tabs w) (ha : i64R a) (hb : i64R b) : Calls Tryd.prog 5 #[.agg #[.bool f, .bool g], .int .i64 a, .int .i64 b] w fun e w' => e = .returned (.bool true) ∧ Below w.heap.size w w' := by
  obtain ⟨X, hX⟩ : ∃ X, X = w.alloc (.cells #[.bool f, .bool g] 30) := ⟨_, rfl⟩
  have hB : Below w.heap.size w X.drew := by rw [hX]; exact (below_alloc (Below.refl _ w) _).drew
  have hT := T.below hB
  have s1 := ref_c f g X.drew
  have s2 := refR_c f g X.drew
  have s3 := con_c a b ha hb X.drew
  have s4 := conR_c a b ha hb X.drew
  obtain ⟨r, hr⟩ : ∃ r, r = refM f g := ⟨_, rfl⟩
  obtain ⟨q, hq⟩ : ∃ q, q = conM a b := ⟨_, rfl⟩
  rw [← hr] at s1 s2
  rw [← hq] at s3 s4
  have hrr : (r == r) = true := by simp
  have hqq : (q == q) = true := by simp
  have hx := ex13_c X.drew hT
  have c0 : X.drew.cell? ⟨w.heap.size, 0, none⟩ = some (.bool f) := by rw [hX]; simp
  have c1 : X.drew.cell? ⟨w.heap.size, 1, none⟩ = some (.bool g) := by rw [hX]; simp
  have hlt : w.heap.size < X.drew.heap.size := by rw [hX]; simp
  rw [hX] at s1 s2 s3 s4 hx c0 c1 hlt hB
  have HB := Lib.hid hB
  have HL := Lib.hid hlt
  clear hr hq hT hX hB hlt T ha hb
  go_enter Tryd.func5, Tryd.ntmps5
  go_wp2_with fail
  go_region_held3 (fun w' => w'.cell? ⟨w.heap.size, 0, none⟩ = some (.bool f) ∧ w'.cell? ⟨w.heap.size, 1, none⟩ = some (.bool g))
    (first | (with_reducible exact ⟨c0, c1⟩) | (with_reducible exact ⟨d0, d1⟩) | fail)
    (first | (go_simp; go_at_call 13; (with_reducible refine s1.mono ?_); rintro e wn ⟨rfl, rfl⟩) | (go_simp; go_at_call 14; (with_reducible refine s2.mono ?_); rintro e wn ⟨rfl, rfl⟩) | (go_simp; go_at_call 15; (with_reducible refine s3.mono ?_); rintro e wn ⟨rfl, rfl⟩) | (go_simp; go_at_call 16; (with_reducible refine s4.mono ?_); rintro e wn ⟨rfl, rfl⟩) | (go_simp; go_at_call 10; (with_reducible refine hx.mono ?_); rintro e wx ⟨rfl, hbx⟩; have d0 := (hbx.cell (p := ⟨w.heap.size, 0, none⟩) HL.out).trans c0; have d1 := (hbx.cell (p := ⟨w.heap.size, 1, none⟩) HL.out).trans c1; have HX := Lib.hid (below_call HB.out hbx); clear hbx) | fail)
  all_goals
    go_wp2_with fail
    go_ret
    exact ⟨rfl, HX.out⟩

set_option maxRecDepth 100000 in
theorem lifted (os : Os) (started : os.Started) (H : Type) (enc : TypeId × Value → H) :
    ReturnsInHanded {} Tryd.checked os 5 .any (fun w args => (Rows.contextRefinesSpec.pre enc Tryd.prog Tryd.f5 Rows.contextRefinesRow.domain false w args ∧ laidMetH Tryd.prog Rows.contextRefinesRow.laid w) ∧ sizedMet enc Tryd.prog Tryd.f5 (OpenSpec.ofChange Rows.contextRefinesSpec) false w args)
      (Rows.contextRefinesSpec.post enc Tryd.prog Tryd.f5 false true false false) := by
  refine returnsInHanded_of_change_and (C := Tryd.checked) (X := fun w _ => laidMetH Tryd.prog Rows.contextRefinesRow.laid w) (fun _ _ _ hh h => h.of_heap hh) own started (by kernel_rfl) Tryd.func5
    (ChangeSpec.witness_shaped (enc := enc) (C := Tryd.checked) (os := os) (X := fun w _ => laidMetH Tryd.prog Rows.contextRefinesRow.laid w) false (World.laidAll Tryd.prog os Rows.contextRefinesRow.laid) #[.agg #[.bool false, .bool false], .int .i64 0, .int .i64 0] 8 (World.laidAll_os _ _ _)
      (World.shaped_of_ZipB (by kernel_rfl) (by kernel_rfl)) (by kernel_rfl) (by kernel_rfl) (by kernel_rfl)
      (by rw [MakeChecks.laidMetH_plain _ _ _ (by kernel_rfl)]; exact laidMet_laidAll _ (by kernel_rfl) (by kernel_rfl))) ?_
  intro W base args ds gs before hval0 hW _ _ hL _
  have hval : ∀ (j : Nat) t v, Tryd.f5.params[j]? = some t → args[j]? = some v → Value.okWide Tryd.prog W .any base t v := hval0
  have hT : Tabs W := tabs_of_laid hL
  have hW' := hW
  obtain ⟨p, q, hA0, hV, rfl, _, _⟩ := hW
  have hA : DataW.TrodAll enc Tryd.prog W 0 (fun _ => true) true Tryd.f5.params.toList args.toList ds p := hA0
  rw [Tryd.params5] at hA hval
  obtain ⟨v0, vs0, d0, ds0, p0, q0, hargs, rfl, rfl, h0, r0⟩ := trodAll_cons hA
  obtain ⟨v1, vs1, d1, ds1, p1, q1, rfl, rfl, rfl, h1, r1⟩ := trodAll_cons r0
  obtain ⟨v2, vs2, d2, ds2, p2, q2, rfl, rfl, rfl, h2, r2⟩ := trodAll_cons r1
  obtain ⟨rfl, rfl, rfl⟩ := trodAll_nil r2
  obtain rfl : args = #[v0, v1, v2] := by cases args; simp_all
  obtain ⟨rfl, rfl⟩ := trodVars_none hV
  clear hA0 hval0
  simp only [List.append_nil] at hW'
  have l0 : ∀ x ∈ p0, x.block < W.heap.size := fun x hx => hW'.lt x (by simp [hx])
  have l1 : ∀ x ∈ p1, x.block < W.heap.size := fun x hx => hW'.lt x (by simp [hx])
  have l2 : ∀ x ∈ p2, x.block < W.heap.size := fun x hx => hW'.lt x (by simp [hx])
  obtain ⟨a0, b0, rfl⟩ := open_B2 (hval 0 30 v0 rfl rfl) h0
  obtain ⟨i1, rfl, _, _, wi1⟩ := open_int Tryd.underlying3 (hval 1 3 v1 rfl rfl) h1
  obtain ⟨i2, rfl, _, _, wi2⟩ := open_int Tryd.underlying3 (hval 2 3 v2 rfl rfl) h2
  refine (walk a0 b0 i1 i2 W hT (i64_of wi1) (i64_of wi2)).mono fun e W' ⟨he, hb⟩ => ?_
  subst he
  exact ⟨_, rfl, post_low (pa := p0 ++ (p1 ++ (p2 ++ ([])))) (pv := []) hW' (fun _ _ _ => (trodAll_cons_mk (shut_bool Tryd.underlying4 _) trodAll_mk0)) (fun sp hsp => (trodAll_cons_mk (trod_low laidOut (by kernel_rfl) (of_decide_eq_true (by kernel_rfl)) h0 hb l0 (fun x hx => hsp x (by simp [hx]))) (trodAll_cons_mk (trod_low laidOut (by kernel_rfl) (of_decide_eq_true (by kernel_rfl)) h1 hb l1 (fun x hx => hsp x (by simp [hx]))) (trodAll_cons_mk (trod_low laidOut (by kernel_rfl) (of_decide_eq_true (by kernel_rfl)) h2 hb l2 (fun x hx => hsp x (by simp [hx]))) trodAll_mk0)))) (fun _ _ => rfl) (by simp) hb (ok_one (by kernel_rfl) rfl (okWide_bool_mk Tryd.underlying4 _))⟩

theorem over : Rows.contextRefinesRow.holds Tryd.pinned (OpenSpec.ofChange Rows.contextRefinesSpec) :=
  OpenClaim.holds_of_wide 5 Tryd.f5 rfl rfl rfl rfl rfl rfl rfl ⟨rfl, rfl, rfl, rfl, rfl⟩ rfl rfl rfl rfl rfl (by kernel_rfl) Tryd.func5 (by kernel_rfl)
    (of_decide_eq_true (by kernel_rfl)) (by unfold Func.isWrapper; first | (rw [if_pos (by decide +kernel)]; kernel_rfl) | (rw [if_neg (by decide +kernel)]; exact ⟨rfl, rfl⟩))
    (fun os started H enc _ => lifted os started H enc)
theorem proved : Rows.ContextRefinesCardSaid :=
  Claim7.holds_tied_plain_at .later [] [.data, .data, .data] true Rows.contextRefinesCard.stood.harness false over (fun _ h => by cases h) (by kernel_rfl) (fun _ h => by cases h) contextRefines_row_tie rfl ⟨rfl, rfl⟩ (by kernel_rfl) rfl
    (fun f fn hf hfn => by
      obtain rfl : f = 5 := Option.some.inj ((show Tryd.prog.funcNamed Rows.contextRefinesRow.func = some 5 by kernel_rfl).symm.trans hf) |>.symm
      obtain rfl : fn = Tryd.f5 := (Option.some.inj (Tryd.func5.symm.trans hfn)).symm
      exact ⟨by kernel_rfl, fun j t ht => by
        rw [Tryd.params5] at ht
        have hm : t ∈ [30, 3, 3] := by simpa using Array.mem_of_getElem? ht
        have hall : ([30, 3, 3].all fun u => !Tryd.prog.wantsStandIn u) = true := by kernel_rfl
        exact (show Tryd.prog.wantsStandIn t = false by simpa using List.all_eq_true.1 hall t hm)⟩)
    (by kernel_rfl)
#print axioms proved
end Go.Proofs.YthmhapkeadkhbaaDoor.contextRefines
