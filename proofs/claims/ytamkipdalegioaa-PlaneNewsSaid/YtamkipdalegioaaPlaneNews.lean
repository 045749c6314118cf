/-
  For all rectangles r the statement PlaneNews returns true, and its argument reads afterwards as before.
  Conditions: none beyond those of the given statement.
-/
import Derived.Test.YtamkipdalegioaaFrame
import Derived.Test.YtamkipdalegioaaPlnP
import Derived.Test.YtamkipdalegioaaOpenP
import Derived.Test.YtamkipdalegioaaPlnQ
namespace Go.Proofs.Ytamkipdalegioaa.planeNews
open Go.ChangeShapes Go.WideShapes Go.ChangeAt Go.RowKit Go.Joins Go.Deep

set_option maxRecDepth 100000 in
set_option maxHeartbeats 2000000 in
theorem walk (a b c d : Int) (w : World) :
    Calls Try.prog 3 #[.agg #[.int .i64 a, .int .i64 b, .int .i64 c, .int .i64 d]] w fun e w' => e = .returned (.bool true) ∧ Below w.heap.size w w' := by
  have heq := eqR
  have hself := Pl.eq_self
  by_cases h1 : 4096 < Pl.areaI a b c d
  · by_cases h2 : Pl.areaI a b c d ≤ 1048576
    · have hv : Pl.validB a b c d = true := Classical.byContradiction fun h => by rw [Pl.areaI, if_neg h] at h1; omega
      obtain ⟨L0, hLA, hc⟩ : ∃ L0 : List Int, (L0.length : Int) = Pl.areaI a b c d ∧ ∀ w : World, Calls Try.prog 12 #[.agg #[.int .i64 a, .int .i64 b, .int .i64 c, .int .i64 d]] w (GivesPlane ⟨a, b, c, d⟩ L0 0 w) := ⟨_, by rw [List.length_replicate]; omega, fun w => new_yes a b c d w hv h2⟩
      have r := Box.freshAt w (w.heap.size) (rfl) a b c d 23
      have B := below_alloc (Below.refl _ w) (.cells #[.int .i64 a, .int .i64 b, .int .i64 c, .int .i64 d] 23)
      go_enter Try.func3, Try.ntmps3
      go_wp2_with fail
      refine (hc _).mono ?_
      rintro e w1 ⟨s1, m1, rfl, l1, hb, _⟩
      replace r := r.below hb
      replace B := below_call B hb
      clear hb
      replace r := r.allocC (.cells #[.int .i64 a, .int .i64 b, .int .i64 c, .int .i64 d, .slice s1 L0.length m1] 26)
      replace l1 := l1.alloc (.cells #[.int .i64 a, .int .i64 b, .int .i64 c, .int .i64 d, .slice s1 L0.length m1] 26)
      replace B := below_alloc B (.cells #[.int .i64 a, .int .i64 b, .int .i64 c, .int .i64 d, .slice s1 L0.length m1] 26)
      have x := QBox.fresh w1 a b c d s1 L0.length m1 26
      obtain ⟨r0, r1, r2, r3⟩ := r.open
      go_wp2_with fail
      clear r0 r1 r2 r3
      refine (area_r _ _ _ _ _).mono ?_
      rintro e w2 ⟨rfl, hb⟩
      replace r := r.below hb
      replace l1 := l1.call hb
      replace x := x.below hb
      replace B := below_call B hb
      clear hb
      obtain ⟨r0, r1, r2, r3⟩ := r.open
      go_wp2_with fail
      clear r0 r1 r2 r3
      refine (area_r _ _ _ _ _).mono ?_
      rintro e w3 ⟨rfl, hb⟩
      replace r := r.below hb
      replace l1 := l1.call hb
      replace x := x.below hb
      replace B := below_call B hb
      clear hb
      go_wp2_with fail
      have e_r := fun (W : World) (h : Below w3.heap.size w3 W) => (r.below h).open
      have e_x := fun (W : World) (h : Below w3.heap.size w3 W) => (x.below h).open
      have eH := fun (W : World) (h : Below w3.heap.size w3 W) => (And.intro (e_r W h) (e_x W h))
      simp only [and_assoc] at eH
      clear e_r e_x
      go_region_held3 (fun w' => w'.cell? ⟨w.heap.size, 0, none⟩ = some (.int .i64 a) ∧ w'.cell? ⟨w.heap.size, 1, none⟩ = some (.int .i64 b) ∧ w'.cell? ⟨w.heap.size, 2, none⟩ = some (.int .i64 c) ∧ w'.cell? ⟨w.heap.size, 3, none⟩ = some (.int .i64 d) ∧ w'.cell? ⟨w1.heap.size, 0, none⟩ = some (.int .i64 a) ∧ w'.cell? ⟨w1.heap.size, 1, none⟩ = some (.int .i64 b) ∧ w'.cell? ⟨w1.heap.size, 2, none⟩ = some (.int .i64 c) ∧ w'.cell? ⟨w1.heap.size, 3, none⟩ = some (.int .i64 d) ∧ w'.cell? ⟨w1.heap.size, 4, none⟩ = some (.slice s1 L0.length m1))
        (first | (with_reducible assumption) | with_reducible exact eH _ (by repeat (first | exact Below.refl _ _ | assumption | refine Below.drew ?_ | refine below_alloc ?_ _)) | fail)
        (first | (go_at_call 13; (with_reducible refine (area_r _ _ _ _ _).mono ?_); rintro e x1 ⟨rfl, hb⟩; have b_x1 : Below w3.heap.size w3 x1 := below_call (by repeat (first | exact Below.refl _ _ | assumption | refine Below.drew ?_ | refine below_alloc ?_ _)) hb; clear hb) | (go_at_call 14; (with_reducible refine (example02_c _).mono ?_); rintro e x6 ⟨rfl, hb⟩; have b_x6 : Below w3.heap.size w3 x6 := below_call (by repeat (first | exact Below.refl _ _ | assumption | refine Below.drew ?_ | refine below_alloc ?_ _)) hb; clear hb))
      go_wp2
      go_ret
      exact ⟨rfl, below_call B b_x6⟩
    · obtain ⟨R0, L0, E0, hL, hc, hr⟩ := new_both a b c d
      have r := Box.freshAt w (w.heap.size) (rfl) a b c d 23
      have B := below_alloc (Below.refl _ w) (.cells #[.int .i64 a, .int .i64 b, .int .i64 c, .int .i64 d] 23)
      go_enter Try.func3, Try.ntmps3
      go_wp2_with fail
      refine (hc _).mono ?_
      rintro e w1 ⟨s1, m1, rfl, l1, hb, _⟩
      replace r := r.below hb
      replace B := below_call B hb
      clear hb
      replace r := r.allocC (.cells #[.int .i64 R0.x0, .int .i64 R0.y0, .int .i64 R0.x1, .int .i64 R0.y1, .slice s1 L0.length m1] 26)
      replace l1 := l1.alloc (.cells #[.int .i64 R0.x0, .int .i64 R0.y0, .int .i64 R0.x1, .int .i64 R0.y1, .slice s1 L0.length m1] 26)
      replace B := below_alloc B (.cells #[.int .i64 R0.x0, .int .i64 R0.y0, .int .i64 R0.x1, .int .i64 R0.y1, .slice s1 L0.length m1] 26)
      have x := QBox.fresh w1 R0.x0 R0.y0 R0.x1 R0.y1 s1 L0.length m1 26
      obtain ⟨r0, r1, r2, r3⟩ := r.open
      go_wp2_with fail
      clear r0 r1 r2 r3
      refine (area_r _ _ _ _ _).mono ?_
      rintro e w2 ⟨rfl, hb⟩
      replace r := r.below hb
      replace l1 := l1.call hb
      replace x := x.below hb
      replace B := below_call B hb
      clear hb
      obtain ⟨r0, r1, r2, r3⟩ := r.open
      go_wp2_with fail
      clear r0 r1 r2 r3
      refine (area_r _ _ _ _ _).mono ?_
      rintro e w3 ⟨rfl, hb⟩
      replace r := r.below hb
      replace l1 := l1.call hb
      replace x := x.below hb
      replace B := below_call B hb
      clear hb
      obtain ⟨r0, r1, r2, r3⟩ := r.open
      go_wp2_with fail
      clear r0 r1 r2 r3
      refine (hr _).mono ?_
      rintro e w4 ⟨s2, m2, rfl, l2, hb, _⟩
      replace r := r.below hb
      replace l1 := l1.call hb
      replace x := x.below hb
      replace B := below_call B hb
      clear hb
      replace r := r.allocC (.cells #[.int .i64 R0.x0, .int .i64 R0.y0, .int .i64 R0.x1, .int .i64 R0.y1, .slice s2 L0.length m2] 26)
      replace l1 := l1.alloc (.cells #[.int .i64 R0.x0, .int .i64 R0.y0, .int .i64 R0.x1, .int .i64 R0.y1, .slice s2 L0.length m2] 26)
      replace x := x.alloc (.cells #[.int .i64 R0.x0, .int .i64 R0.y0, .int .i64 R0.x1, .int .i64 R0.y1, .slice s2 L0.length m2] 26)
      replace l2 := l2.alloc (.cells #[.int .i64 R0.x0, .int .i64 R0.y0, .int .i64 R0.x1, .int .i64 R0.y1, .slice s2 L0.length m2] 26)
      replace B := below_alloc B (.cells #[.int .i64 R0.x0, .int .i64 R0.y0, .int .i64 R0.x1, .int .i64 R0.y1, .slice s2 L0.length m2] 26)
      have y := QBox.fresh w4 R0.x0 R0.y0 R0.x1 R0.y1 s2 L0.length m2 26
      obtain ⟨x0, x1, x2, x3, x4⟩ := x.open
      obtain ⟨y0, y1, y2, y3, y4⟩ := y.open
      go_wp2_with fail
      clear x0 x1 x2 x3 x4 y0 y1 y2 y3 y4
      refine (ps_rt R0 L0 hL _ _ _ _ _ l1 l2).mono ?_
      rintro e w5 ⟨rfl, hb⟩
      replace r := r.below hb
      replace l1 := l1.call hb
      replace x := x.below hb
      replace l2 := l2.call hb
      replace y := y.below hb
      replace B := below_call B hb
      clear hb
      go_wp2_with fail
      refine (example02_c _).mono ?_
      rintro e w6 ⟨rfl, hb⟩
      replace r := r.below hb
      replace l1 := l1.call hb
      replace x := x.below hb
      replace l2 := l2.call hb
      replace y := y.below hb
      replace B := below_call B hb
      clear hb
      go_wp2
      go_ret
      exact ⟨rfl, B⟩
  · obtain ⟨R0, L0, E0, hL, hc, hr⟩ := new_both a b c d
    have r := Box.freshAt w (w.heap.size) (rfl) a b c d 23
    have B := below_alloc (Below.refl _ w) (.cells #[.int .i64 a, .int .i64 b, .int .i64 c, .int .i64 d] 23)
    go_enter Try.func3, Try.ntmps3
    go_wp2_with fail
    refine (hc _).mono ?_
    rintro e w1 ⟨s1, m1, rfl, l1, hb, _⟩
    replace r := r.below hb
    replace B := below_call B hb
    clear hb
    replace r := r.allocC (.cells #[.int .i64 R0.x0, .int .i64 R0.y0, .int .i64 R0.x1, .int .i64 R0.y1, .slice s1 L0.length m1] 26)
    replace l1 := l1.alloc (.cells #[.int .i64 R0.x0, .int .i64 R0.y0, .int .i64 R0.x1, .int .i64 R0.y1, .slice s1 L0.length m1] 26)
    replace B := below_alloc B (.cells #[.int .i64 R0.x0, .int .i64 R0.y0, .int .i64 R0.x1, .int .i64 R0.y1, .slice s1 L0.length m1] 26)
    have x := QBox.fresh w1 R0.x0 R0.y0 R0.x1 R0.y1 s1 L0.length m1 26
    obtain ⟨r0, r1, r2, r3⟩ := r.open
    go_wp2_with fail
    clear r0 r1 r2 r3
    refine (area_r _ _ _ _ _).mono ?_
    rintro e w2 ⟨rfl, hb⟩
    replace r := r.below hb
    replace l1 := l1.call hb
    replace x := x.below hb
    replace B := below_call B hb
    clear hb
    obtain ⟨r0, r1, r2, r3⟩ := r.open
    go_wp2_with fail
    clear r0 r1 r2 r3
    refine (hr _).mono ?_
    rintro e w3 ⟨s2, m2, rfl, l2, hb, _⟩
    replace r := r.below hb
    replace l1 := l1.call hb
    replace x := x.below hb
    replace B := below_call B hb
    clear hb
    replace r := r.allocC (.cells #[.int .i64 R0.x0, .int .i64 R0.y0, .int .i64 R0.x1, .int .i64 R0.y1, .slice s2 L0.length m2] 26)
    replace l1 := l1.alloc (.cells #[.int .i64 R0.x0, .int .i64 R0.y0, .int .i64 R0.x1, .int .i64 R0.y1, .slice s2 L0.length m2] 26)
    replace x := x.alloc (.cells #[.int .i64 R0.x0, .int .i64 R0.y0, .int .i64 R0.x1, .int .i64 R0.y1, .slice s2 L0.length m2] 26)
    replace l2 := l2.alloc (.cells #[.int .i64 R0.x0, .int .i64 R0.y0, .int .i64 R0.x1, .int .i64 R0.y1, .slice s2 L0.length m2] 26)
    replace B := below_alloc B (.cells #[.int .i64 R0.x0, .int .i64 R0.y0, .int .i64 R0.x1, .int .i64 R0.y1, .slice s2 L0.length m2] 26)
    have y := QBox.fresh w3 R0.x0 R0.y0 R0.x1 R0.y1 s2 L0.length m2 26
    obtain ⟨x0, x1, x2, x3, x4⟩ := x.open
    obtain ⟨y0, y1, y2, y3, y4⟩ := y.open
    go_wp2_with fail
    clear x0 x1 x2 x3 x4 y0 y1 y2 y3 y4
    refine (ps_rt R0 L0 hL _ _ _ _ _ l1 l2).mono ?_
    rintro e w4 ⟨rfl, hb⟩
    replace r := r.below hb
    replace l1 := l1.call hb
    replace x := x.below hb
    replace l2 := l2.call hb
    replace y := y.below hb
    replace B := below_call B hb
    clear hb
    go_wp2_with fail
    refine (example02_c _).mono ?_
    rintro e w5 ⟨rfl, hb⟩
    replace r := r.below hb
    replace l1 := l1.call hb
    replace x := x.below hb
    replace l2 := l2.call hb
    replace y := y.below hb
    replace B := below_call B hb
    clear hb
    go_wp2
    go_ret
    exact ⟨rfl, B⟩

set_option maxRecDepth 100000 in
theorem lifted (os : Os) (started : os.Started) (H : Type) (enc : TypeId × Value → H) :
    ReturnsInHanded {} Try.checked os 3 .any (Rows.planeNewsSpec.pre6 enc Try.prog Try.f3 Rows.planeNewsRow.domain false) (Rows.planeNewsSpec.post enc Try.prog Try.f3 false true false false) := by
  refine returnsInHanded_of_change (C := Try.checked) own started (by kernel_rfl) Try.func3
    (ChangeSpec.witness6 (enc := enc) (C := Try.checked) false ⟨#[], #[.agg #[.int .i64 0, .int .i64 0, .int .i64 0, .int .i64 0]], []⟩ 8 (by kernel_rfl) (by kernel_rfl) (by kernel_rfl) (by kernel_rfl)) ?_
  intro W base args ds gs before hval0 hW _ _
  have hval : ∀ (j : Nat) t v, Try.f3.params[j]? = some t → args[j]? = some v → Value.okWide Try.prog W .any base t v := hval0
  have hW' := hW
  obtain ⟨p, q, hA0, hV, rfl, _, _⟩ := hW
  have hA : DataW.TrodAll enc Try.prog W 0 (fun _ => true) true Try.f3.params.toList args.toList ds p := hA0
  rw [Try.params3] at hA hval
  obtain ⟨v0, vs0, d0, ds0, p0, q0, hargs, rfl, rfl, h0, r0⟩ := trodAll_cons hA
  obtain ⟨rfl, rfl, rfl⟩ := trodAll_nil r0
  obtain rfl : args = #[v0] := by cases args; simp_all
  obtain ⟨rfl, rfl⟩ := trodVars_none hV
  clear hA0 hval0
  simp only [List.append_nil] at hW'
  have l0 : ∀ x ∈ p0, x.block < W.heap.size := fun x hx => hW'.lt x (by simp [hx])
  obtain ⟨a, b, c, d, rfl, wa, wb, wc, wd⟩ := open_rect (hval 0 23 v0 rfl rfl) h0
  refine (walk a b c d W).mono fun e W' ⟨he, hb⟩ => ?_
  subst he
  exact ⟨_, rfl, post_low (pa := p0 ++ ([])) (pv := []) hW' (fun _ _ _ => (trodAll_cons_mk (shut_bool Try.underlying4 _) trodAll_mk0)) (fun sp hsp => (trodAll_cons_mk (trod_low laidOut (by kernel_rfl) (of_decide_eq_true (by kernel_rfl)) h0 hb l0 (fun x hx => hsp x (by simp [hx]))) trodAll_mk0)) (fun _ _ => rfl) (by simp) hb (ok_one (by kernel_rfl) rfl (okWide_bool_mk Try.underlying4 _))⟩

theorem over : Rows.planeNewsRow.holds Try.pinned (OpenSpec.ofChange Rows.planeNewsSpec) :=
  OpenClaim.holds_of_wide 3 Try.f3 rfl rfl rfl rfl rfl rfl rfl ⟨rfl, rfl, rfl, rfl, rfl⟩ rfl rfl rfl rfl rfl (by kernel_rfl) Try.func3 (by kernel_rfl)
    (of_decide_eq_true (by kernel_rfl)) (by unfold Func.isWrapper; first | (rw [if_pos (by decide +kernel)]; kernel_rfl) | (rw [if_neg (by decide +kernel)]; exact ⟨rfl, rfl⟩))
    (fun os started H enc _ => lifted os started H enc)

theorem proved : Rows.PlaneNewsSaid :=
  over
#print axioms proved
end Go.Proofs.Ytamkipdalegioaa.planeNews
