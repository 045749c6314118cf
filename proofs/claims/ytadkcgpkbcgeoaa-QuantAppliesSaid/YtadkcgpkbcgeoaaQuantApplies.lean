/-
  For all planes p and integers step and dead the statement QuantApplies returns true (a plane of more than 400 samples is left alone). Its arguments read afterwards as before.
  Conditions: none beyond those of the given statement.
-/
import Derived.Test.YtadkcgpkbcgeoaaFrame
import Derived.Test.YtadkcgpkbcgeoaaEx08
import Derived.Test.YtadkcgpkbcgeoaaOpenQ
import Derived.Test.YtadkcgpkbcgeoaaFams
import Derived.Test.YtadkcgpkbcgeoaaLawA8
set_option maxRecDepth 100000
namespace Go.Proofs.Ytadkcgpkbcgeoaa.quantApplies
open Go.ChangeShapes Go.WideShapes Go.ChangeAt Go.RowKit Go.Joins Go.Deep

set_option maxRecDepth 100000 in
set_option maxHeartbeats 8000000 in
theorem walk (a b c d lo hi : Int) (s : Option Addr) (l : List Int) (m : Nat) (w : World) (hH : HoldsI w s l) (hI : ∀ z ∈ l, InI z) :
    Calls Try.prog 16 #[.agg #[.int .i64 a, .int .i64 b, .int .i64 c, .int .i64 d, .slice s l.length m], .int .i64 lo, .int .i64 hi] w fun e w' => e = .returned (.bool true) ∧ Below w.heap.size w w' := by
  obtain ⟨R0, L0, E0, hL, hc, hr⟩ := qap_both a b c d lo hi s m l hI
  by_cases hf : l.length ≤ 400
  · have p := QBox.freshAt w (w.heap.size) (rfl) a b c d s l.length m 40
    have B := below_alloc (Below.refl _ w) (.cells #[.int .i64 a, .int .i64 b, .int .i64 c, .int .i64 d, .slice s l.length m] 40)
    have lp := (hH).alloc (.cells #[.int .i64 a, .int .i64 b, .int .i64 c, .int .i64 d, .slice s l.length m] 40)
    go_enter Try.func16, Try.ntmps16
    go_wp2_with fail
    refine (few_r _ _ _ _ _ _ _ _).mono ?_
    rintro e w1 ⟨rfl, hb⟩
    replace p := p.below hb
    replace lp := lp.call hb
    replace B := below_call B hb
    clear hb
    obtain ⟨p0, p1, p2, p3, p4⟩ := p.open
    go_wp2_with fail
    clear p0 p1 p2 p3 p4
    refine (hc _ lp).mono ?_
    rintro e w2 ⟨s1, m1, rfl, l1, hb, _⟩
    replace p := p.below hb
    replace lp := lp.call hb
    replace B := below_call B hb
    clear hb
    replace p := p.alloc (.cells #[.int .i64 R0.x0, .int .i64 R0.y0, .int .i64 R0.x1, .int .i64 R0.y1, .slice s1 L0.length m1] 40)
    replace lp := lp.alloc (.cells #[.int .i64 R0.x0, .int .i64 R0.y0, .int .i64 R0.x1, .int .i64 R0.y1, .slice s1 L0.length m1] 40)
    replace l1 := l1.alloc (.cells #[.int .i64 R0.x0, .int .i64 R0.y0, .int .i64 R0.x1, .int .i64 R0.y1, .slice s1 L0.length m1] 40)
    replace B := below_alloc B (.cells #[.int .i64 R0.x0, .int .i64 R0.y0, .int .i64 R0.x1, .int .i64 R0.y1, .slice s1 L0.length m1] 40)
    have x := QBox.fresh w2 R0.x0 R0.y0 R0.x1 R0.y1 s1 L0.length m1 40
    obtain ⟨p0, p1, p2, p3, p4⟩ := p.open
    go_wp2_with fail
    clear p0 p1 p2 p3 p4
    refine (hr _ lp).mono ?_
    rintro e w3 ⟨s2, m2, rfl, l2, hb, _⟩
    replace p := p.below hb
    replace lp := lp.call hb
    replace l1 := l1.call hb
    replace x := x.below hb
    replace B := below_call B hb
    clear hb
    replace p := p.alloc (.cells #[.int .i64 R0.x0, .int .i64 R0.y0, .int .i64 R0.x1, .int .i64 R0.y1, .slice s2 L0.length m2] 40)
    replace lp := lp.alloc (.cells #[.int .i64 R0.x0, .int .i64 R0.y0, .int .i64 R0.x1, .int .i64 R0.y1, .slice s2 L0.length m2] 40)
    replace l1 := l1.alloc (.cells #[.int .i64 R0.x0, .int .i64 R0.y0, .int .i64 R0.x1, .int .i64 R0.y1, .slice s2 L0.length m2] 40)
    replace x := x.alloc (.cells #[.int .i64 R0.x0, .int .i64 R0.y0, .int .i64 R0.x1, .int .i64 R0.y1, .slice s2 L0.length m2] 40)
    replace l2 := l2.alloc (.cells #[.int .i64 R0.x0, .int .i64 R0.y0, .int .i64 R0.x1, .int .i64 R0.y1, .slice s2 L0.length m2] 40)
    replace B := below_alloc B (.cells #[.int .i64 R0.x0, .int .i64 R0.y0, .int .i64 R0.x1, .int .i64 R0.y1, .slice s2 L0.length m2] 40)
    have y := QBox.fresh w3 R0.x0 R0.y0 R0.x1 R0.y1 s2 L0.length m2 40
    obtain ⟨x0, x1, x2, x3, x4⟩ := x.open
    obtain ⟨y0, y1, y2, y3, y4⟩ := y.open
    go_wp2_with fail
    clear x0 x1 x2 x3 x4 y0 y1 y2 y3 y4
    refine (ps_rt R0 L0 hL _ _ _ _ _ l1 l2).mono ?_
    rintro e w4 ⟨rfl, hb⟩
    replace p := p.below hb
    replace lp := lp.call hb
    replace l1 := l1.call hb
    replace x := x.below hb
    replace l2 := l2.call hb
    replace y := y.below hb
    replace B := below_call B hb
    clear hb
    clear x y l1 l2
    go_wp2_with fail
    refine (example08_c _).mono ?_
    rintro e w5 ⟨rfl, hb⟩
    replace p := p.below hb
    replace lp := lp.call hb
    replace B := below_call B hb
    clear hb
    go_wp2
    go_ret
    exact ⟨rfl, B⟩
  · have p := QBox.freshAt w (w.heap.size) (rfl) a b c d s l.length m 40
    have B := below_alloc (Below.refl _ w) (.cells #[.int .i64 a, .int .i64 b, .int .i64 c, .int .i64 d, .slice s l.length m] 40)
    have lp := (hH).alloc (.cells #[.int .i64 a, .int .i64 b, .int .i64 c, .int .i64 d, .slice s l.length m] 40)
    go_enter Try.func16, Try.ntmps16
    go_wp2_with fail
    refine (few_r _ _ _ _ _ _ _ _).mono ?_
    rintro e w1 ⟨rfl, hb⟩
    replace p := p.below hb
    replace lp := lp.call hb
    replace B := below_call B hb
    clear hb
    go_wp2_with fail
    refine (example08_c _).mono ?_
    rintro e w2 ⟨rfl, hb⟩
    replace p := p.below hb
    replace lp := lp.call hb
    replace B := below_call B hb
    clear hb
    go_wp2
    go_ret
    exact ⟨rfl, B⟩

set_option maxRecDepth 100000 in
theorem lifted (os : Os) (started : os.Started) (H : Type) (enc : TypeId × Value → H) :
    ReturnsInHanded {} Try.checked os 16 .any (Rows.quantAppliesSpec.pre6 enc Try.prog Try.f16 Rows.quantAppliesRow.domain false) (Rows.quantAppliesSpec.post enc Try.prog Try.f16 false true false false) := by
  refine returnsInHanded_of_change (C := Try.checked) own started (by kernel_rfl) Try.func16
    (ChangeSpec.witness6 (enc := enc) (C := Try.checked) false ⟨#[], #[.agg #[.int .i64 0, .int .i64 0, .int .i64 0, .int .i64 0, .slice none 0 0], .int .i64 0, .int .i64 0], []⟩ 8 (by kernel_rfl) (by kernel_rfl) (by kernel_rfl) (by kernel_rfl)) ?_
  intro W base args ds gs before hval0 hW _ _
  have hval : ∀ (j : Nat) t v, Try.f16.params[j]? = some t → args[j]? = some v → Value.okWide Try.prog W .any base t v := hval0
  have hW' := hW
  obtain ⟨p, q, hA0, hV, rfl, _, _⟩ := hW
  have hA : DataW.TrodAll enc Try.prog W 0 (fun _ => true) true Try.f16.params.toList args.toList ds p := hA0
  rw [Try.params16] at hA hval
  obtain ⟨v0, vs0, d0, ds0, p0, q0, hargs, rfl, rfl, h0, r0⟩ := trodAll_cons hA
  obtain ⟨v1, vs1, d1, ds1, p1, q1, rfl, rfl, rfl, h1, r1⟩ := trodAll_cons r0
  obtain ⟨v2, vs2, d2, ds2, p2, q2, rfl, rfl, rfl, h2, r2⟩ := trodAll_cons r1
  obtain ⟨rfl, rfl, rfl⟩ := trodAll_nil r2
  obtain rfl : args = #[v0, v1, v2] := by cases args; simp_all
  obtain ⟨rfl, rfl⟩ := trodVars_none hV
  clear hA0 hval0
  simp only [List.append_nil] at hW'
  have l0 : ∀ x ∈ p0, x.block < W.heap.size := fun x hx => hW'.lt x (by simp [hx])
  have l1 : ∀ x ∈ p1, x.block < W.heap.size := fun x hx => hW'.lt x (by simp [hx])
  have l2 : ∀ x ∈ p2, x.block < W.heap.size := fun x hx => hW'.lt x (by simp [hx])
  obtain ⟨a, b, c, d, s, l, m, rfl, hH0, hm0, hx0, hn0, hI0⟩ := open_planeR (hval 0 40 v0 rfl rfl) h0
  obtain ⟨lo, rfl, _, _, w1⟩ := open_int Try.underlying3 (hval 1 3 v1 rfl rfl) h1
  obtain ⟨hi, rfl, _, _, w2⟩ := open_int Try.underlying3 (hval 2 3 v2 rfl rfl) h2
  refine (walk a b c d lo hi s l m W hH0 hI0).mono fun e W' ⟨he, hb⟩ => ?_
  subst he
  exact ⟨_, rfl, post_low (pa := p0 ++ (p1 ++ (p2 ++ ([])))) (pv := []) hW' (fun _ _ _ => (trodAll_cons_mk (shut_bool Try.underlying4 _) trodAll_mk0)) (fun sp hsp => (trodAll_cons_mk (trod_low laidOut (by kernel_rfl) (of_decide_eq_true (by kernel_rfl)) h0 hb l0 (fun x hx => hsp x (by simp [hx]))) (trodAll_cons_mk (trod_low laidOut (by kernel_rfl) (of_decide_eq_true (by kernel_rfl)) h1 hb l1 (fun x hx => hsp x (by simp [hx]))) (trodAll_cons_mk (trod_low laidOut (by kernel_rfl) (of_decide_eq_true (by kernel_rfl)) h2 hb l2 (fun x hx => hsp x (by simp [hx]))) trodAll_mk0)))) (fun _ _ => rfl) (by simp) hb (ok_one (by kernel_rfl) rfl (okWide_bool_mk Try.underlying4 _))⟩

theorem over : Rows.quantAppliesRow.holds Try.pinned (OpenSpec.ofChange Rows.quantAppliesSpec) :=
  OpenClaim.holds_of_wide 16 Try.f16 rfl rfl rfl rfl rfl rfl rfl ⟨rfl, rfl, rfl, rfl, rfl⟩ rfl rfl rfl rfl rfl (by kernel_rfl) Try.func16 (by kernel_rfl)
    (of_decide_eq_true (by kernel_rfl)) (by unfold Func.isWrapper; first | (rw [if_pos (by decide +kernel)]; kernel_rfl) | (rw [if_neg (by decide +kernel)]; exact ⟨rfl, rfl⟩))
    (fun os started H enc _ => lifted os started H enc)

theorem proved : Rows.QuantAppliesSaid :=
  over
#print axioms proved
end Go.Proofs.Ytadkcgpkbcgeoaa.quantApplies
