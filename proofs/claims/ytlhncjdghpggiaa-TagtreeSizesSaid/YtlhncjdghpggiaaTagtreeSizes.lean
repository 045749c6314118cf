/-
  For all numbers of columns and rows the statement TagtreeSizes returns true; they read afterwards as before.
  Conditions: none beyond those of the given statement.
-/
import Derived.Test.YtlhncjdghpggiaaTx
import Derived.Test.YtlhncjdghpggiaaUa
import Derived.Test.YtlhncjdghpggiaaFrameT
set_option maxRecDepth 100000
namespace Go.Proofs.Ytlhncjdghpggiaa.tagtreeSizes
open Go.ChangeShapes Go.WideShapes Go.ChangeAt Go.RowKit Go.Joins Go.Deep

set_option maxHeartbeats 4000000 in
theorem walk (w h : Int) (W : World) : Calls Try.prog 10 #[.int .i64 w, .int .i64 h] W fun e w' => e = .returned (.bool true) ∧ Below W.heap.size W w' := by
  have d1 := depth_c w h
  have d2 := udepth_c w h
  generalize (if okN w h then ((dep w.toNat h.toNat : Nat) : Int) else 0) = dd at *
  have ed : (dd == dd) = true := by simp
  by_cases hok : okN w h
  · obtain ⟨a, rfl⟩ : ∃ n : Nat, w = n := ⟨w.toNat, by unfold okN at hok; omega⟩
    obtain ⟨b, rfl⟩ : ∃ n : Nat, h = n := ⟨h.toNat, by unfold okN at hok; omega⟩
    have n1 := tnew_yes a b hok W
    have n2 := fun X => unew_yes a b hok X
    clear hok
    go_enter Try.func10, Try.ntmps10
    go_wp2_with fail
    refine n1.mono ?_
    rintro e w1 ⟨rfl, hT, hb⟩
    have B1 := Lib.hid hb
    clear hT hb n1
    go_wp2_with fail
    refine (n2 _).mono ?_
    rintro e w2 ⟨rfl, hb, _, _⟩
    have B2 := Lib.hid (below_call B1.out hb)
    clear hb n2 B1
    generalize W.heap.size + 1 = A at *
    go_wp2_with (first | (go_at_call 39; (with_reducible refine (d1 _).mono ?_); rintro e wn ⟨rfl, rfl⟩))
    refine (d2 _).mono ?_
    rintro e w3 ⟨rfl, hb⟩
    have B3 := Lib.hid (below_call B2.out hb)
    clear hb
    go_wp2_with fail
    refine (ex10_c _).mono ?_
    rintro e w4 ⟨rfl, hb⟩
    have B4 := Lib.hid (below_call B3.out hb)
    clear hb
    go_wp2_with fail
    go_ret
    exact ⟨rfl, B4.out⟩
  · have n1 := tnew_no w h hok
    have n2 := unew_no w h hok
    have hne := chE_ne hok
    have hce : chE w h = 2 ∨ chE w h = 5 := by
      unfold chE
      split
      · exact .inl rfl
      · first | exact .inr rfl | (rw [if_neg hok]; exact .inr rfl)
    generalize chE w h = ce at *
    clear hok hne
    rcases hce with rfl | rfl <;>
     (go_enter Try.func10, Try.ntmps10
      go_wp2_with (first | (go_at_call 37; (with_reducible refine (n1 _).mono ?_); rintro e wn ⟨rfl, rfl⟩) | (go_at_call 38; (with_reducible refine (n2 _).mono ?_); rintro e wn ⟨rfl, rfl⟩) | (go_at_call 39; (with_reducible refine (d1 _).mono ?_); rintro e wn ⟨rfl, rfl⟩))
      refine (d2 _).mono ?_
      rintro e w3 ⟨rfl, hb⟩
      have B3 := Lib.hid hb
      clear hb
      go_wp2_with fail
      refine (ex10_c _).mono ?_
      rintro e w4 ⟨rfl, hb⟩
      have B4 := Lib.hid (below_call B3.out hb)
      clear hb
      go_wp2_with fail
      go_ret
      exact ⟨rfl, B4.out⟩)

set_option maxRecDepth 100000 in
theorem lifted (os : Os) (started : os.Started) (H : Type) (enc : TypeId × Value → H) :
    ReturnsInHanded {} Try.checked os 10 .any (Rows.tagtreeSizesSpec.pre6 enc Try.prog Try.f10 Rows.tagtreeSizesRow.domain false) (Rows.tagtreeSizesSpec.post enc Try.prog Try.f10 false true false false) := by
  refine returnsInHanded_of_change (C := Try.checked) own started (by kernel_rfl) Try.func10
    (ChangeSpec.witness6 (enc := enc) (C := Try.checked) false ⟨#[], #[.int .i64 0, .int .i64 0], []⟩ 8 (by kernel_rfl) (by kernel_rfl) (by kernel_rfl) (by kernel_rfl)) ?_
  intro W base args ds gs before hval0 hW _ _
  have hval : ∀ (j : Nat) t v, Try.f10.params[j]? = some t → args[j]? = some v → Value.okWide Try.prog W .any base t v := hval0
  have hW' := hW
  obtain ⟨p, q, hA0, hV, rfl, _, _⟩ := hW
  have hA : DataW.TrodAll enc Try.prog W 0 (fun _ => true) true Try.f10.params.toList args.toList ds p := hA0
  rw [Try.params10] at hA hval
  obtain ⟨v0, vs0, d0, ds0, p0, q0, hargs, rfl, rfl, h0, r0⟩ := trodAll_cons hA
  obtain ⟨v1, vs1, d1, ds1, p1, q1, rfl, rfl, rfl, h1, r1⟩ := trodAll_cons r0
  obtain ⟨rfl, rfl, rfl⟩ := trodAll_nil r1
  obtain rfl : args = #[v0, v1] := by cases args; simp_all
  obtain ⟨rfl, rfl⟩ := trodVars_none hV
  clear hA0 hval0
  simp only [List.append_nil] at hW'
  have l0 : ∀ x ∈ p0, x.block < W.heap.size := fun x hx => hW'.lt x (by simp [hx])
  have l1 : ∀ x ∈ p1, x.block < W.heap.size := fun x hx => hW'.lt x (by simp [hx])
  obtain ⟨i0, rfl, _, _, wi0⟩ := open_int Try.underlying3 (hval 0 3 v0 rfl rfl) h0
  obtain ⟨i1, rfl, _, _, wi1⟩ := open_int Try.underlying3 (hval 1 3 v1 rfl rfl) h1
  refine (walk i0 i1 W).mono fun e W' ⟨he, hb⟩ => ?_
  subst he
  exact ⟨_, rfl, post_low (pa := p0 ++ (p1 ++ ([]))) (pv := []) hW' (fun _ _ _ => (trodAll_cons_mk (shut_bool Try.underlying4 _) trodAll_mk0)) (fun sp hsp => (trodAll_cons_mk (trod_low laidOut (by kernel_rfl) (of_decide_eq_true (by kernel_rfl)) h0 hb l0 (fun x hx => hsp x (by simp [hx]))) (trodAll_cons_mk (trod_low laidOut (by kernel_rfl) (of_decide_eq_true (by kernel_rfl)) h1 hb l1 (fun x hx => hsp x (by simp [hx]))) trodAll_mk0))) (fun _ _ => rfl) (by simp) hb (ok_one (by kernel_rfl) rfl (okWide_bool_mk Try.underlying4 _))⟩

theorem over : Rows.tagtreeSizesRow.holds Try.pinned (OpenSpec.ofChange Rows.tagtreeSizesSpec) :=
  OpenClaim.holds_of_wide 10 Try.f10 rfl rfl rfl rfl rfl rfl rfl ⟨rfl, rfl, rfl, rfl, rfl⟩ rfl rfl rfl rfl rfl (by kernel_rfl) Try.func10 (by kernel_rfl)
    (of_decide_eq_true (by kernel_rfl)) (by unfold Func.isWrapper; first | (rw [if_pos (by decide +kernel)]; kernel_rfl) | (rw [if_neg (by decide +kernel)]; exact ⟨rfl, rfl⟩))
    (fun os started H enc _ => lifted os started H enc)

theorem proved : Rows.TagtreeSizesSaid :=
  over
#print axioms proved
end Go.Proofs.Ytlhncjdghpggiaa.tagtreeSizes
