/-
  For all planes dst and src the statement PlanePastes returns true (planes of more than 400 samples are left alone), and its arguments read afterwards as before.
  Conditions: none beyond those of the given statement.
-/
import Derived.Test.YtamkipdalegioaaFrame
import Derived.Test.YtamkipdalegioaaPlnP
import Derived.Test.YtamkipdalegioaaOpenP
namespace Go.Proofs.Ytamkipdalegioaa.planePastes
open Go.ChangeShapes Go.WideShapes Go.ChangeAt Go.RowKit Go.Joins Go.Deep

set_option maxRecDepth 100000 in
set_option maxHeartbeats 2000000 in
theorem walk (a b c d a' b' c' d' : Int) (s t : Option Addr) (l k : List Int) (m m' : Nat) (hm' : k.length ≤ m') (hn : s = none → l.length = 0 ∧ m = 0) (w : World) (hH : HoldsI w s l) (hK : HoldsI w t k) :
    Calls Try.prog 6 #[.agg #[.int .i64 a, .int .i64 b, .int .i64 c, .int .i64 d, .slice s l.length m], .agg #[.int .i64 a', .int .i64 b', .int .i64 c', .int .i64 d', .slice t k.length m']] w fun e w' => e = .returned (.bool true) ∧ Below w.heap.size w w' := by
  obtain ⟨R0, L0, E0, hL, hc, hr⟩ := paste_both a b c d a' b' c' d' s t m m' l k hm' hn
  by_cases hf : l.length ≤ 400
  · by_cases hg : k.length ≤ 400
    · have p := (QBox.freshAt w (w.heap.size) (rfl) a b c d s l.length m 26).alloc (.cells #[.int .i64 a', .int .i64 b', .int .i64 c', .int .i64 d', .slice t k.length m'] 26)
      have q := QBox.freshAt (w.alloc (.cells #[.int .i64 a, .int .i64 b, .int .i64 c, .int .i64 d, .slice s l.length m] 26)) (w.heap.size + 1) (by simp) a' b' c' d' t k.length m' 26
      have B := below_alloc (below_alloc (Below.refl _ w) (.cells #[.int .i64 a, .int .i64 b, .int .i64 c, .int .i64 d, .slice s l.length m] 26)) (.cells #[.int .i64 a', .int .i64 b', .int .i64 c', .int .i64 d', .slice t k.length m'] 26)
      have lp := ((hH).alloc (.cells #[.int .i64 a, .int .i64 b, .int .i64 c, .int .i64 d, .slice s l.length m] 26)).alloc (.cells #[.int .i64 a', .int .i64 b', .int .i64 c', .int .i64 d', .slice t k.length m'] 26)
      have lq := ((hK).alloc (.cells #[.int .i64 a, .int .i64 b, .int .i64 c, .int .i64 d, .slice s l.length m] 26)).alloc (.cells #[.int .i64 a', .int .i64 b', .int .i64 c', .int .i64 d', .slice t k.length m'] 26)
      go_enter Try.func6, Try.ntmps6
      go_wp2_with fail
      refine (few_r _ _ _ _ _ _ _ _).mono ?_
      rintro e w1 ⟨rfl, hb⟩
      replace p := p.below hb
      replace q := q.below hb
      replace lp := lp.call hb
      replace lq := lq.call hb
      replace B := below_call B hb
      clear hb
      obtain ⟨q0, q1, q2, q3, q4⟩ := q.open
      go_wp2_with fail
      clear q0 q1 q2 q3 q4
      refine (few_r _ _ _ _ _ _ _ _).mono ?_
      rintro e w2 ⟨rfl, hb⟩
      replace p := p.below hb
      replace q := q.below hb
      replace lp := lp.call hb
      replace lq := lq.call hb
      replace B := below_call B hb
      clear hb
      obtain ⟨p0, p1, p2, p3, p4⟩ := p.open
      obtain ⟨q0, q1, q2, q3, q4⟩ := q.open
      go_wp2_with fail
      clear p0 p1 p2 p3 p4 q0 q1 q2 q3 q4
      refine (hc _ lp lq).mono ?_
      rintro e w3 ⟨s1, m1, rfl, l1, hb, _⟩
      replace p := p.below hb
      replace q := q.below hb
      replace lp := lp.call hb
      replace lq := lq.call hb
      replace B := below_call B hb
      clear hb
      replace p := p.alloc (.cells #[.int .i64 R0.x0, .int .i64 R0.y0, .int .i64 R0.x1, .int .i64 R0.y1, .slice s1 L0.length m1] 26)
      replace q := q.alloc (.cells #[.int .i64 R0.x0, .int .i64 R0.y0, .int .i64 R0.x1, .int .i64 R0.y1, .slice s1 L0.length m1] 26)
      replace lp := lp.alloc (.cells #[.int .i64 R0.x0, .int .i64 R0.y0, .int .i64 R0.x1, .int .i64 R0.y1, .slice s1 L0.length m1] 26)
      replace lq := lq.alloc (.cells #[.int .i64 R0.x0, .int .i64 R0.y0, .int .i64 R0.x1, .int .i64 R0.y1, .slice s1 L0.length m1] 26)
      replace l1 := l1.alloc (.cells #[.int .i64 R0.x0, .int .i64 R0.y0, .int .i64 R0.x1, .int .i64 R0.y1, .slice s1 L0.length m1] 26)
      replace B := below_alloc B (.cells #[.int .i64 R0.x0, .int .i64 R0.y0, .int .i64 R0.x1, .int .i64 R0.y1, .slice s1 L0.length m1] 26)
      have x := QBox.fresh w3 R0.x0 R0.y0 R0.x1 R0.y1 s1 L0.length m1 26
      obtain ⟨p0, p1, p2, p3, p4⟩ := p.open
      obtain ⟨q0, q1, q2, q3, q4⟩ := q.open
      go_wp2_with fail
      clear p0 p1 p2 p3 p4 q0 q1 q2 q3 q4
      refine (hr _ lp lq).mono ?_
      rintro e w4 ⟨s2, m2, rfl, l2, hb, _⟩
      replace p := p.below hb
      replace q := q.below hb
      replace lp := lp.call hb
      replace lq := lq.call hb
      replace l1 := l1.call hb
      replace x := x.below hb
      replace B := below_call B hb
      clear hb
      replace p := p.alloc (.cells #[.int .i64 R0.x0, .int .i64 R0.y0, .int .i64 R0.x1, .int .i64 R0.y1, .slice s2 L0.length m2] 26)
      replace q := q.alloc (.cells #[.int .i64 R0.x0, .int .i64 R0.y0, .int .i64 R0.x1, .int .i64 R0.y1, .slice s2 L0.length m2] 26)
      replace lp := lp.alloc (.cells #[.int .i64 R0.x0, .int .i64 R0.y0, .int .i64 R0.x1, .int .i64 R0.y1, .slice s2 L0.length m2] 26)
      replace lq := lq.alloc (.cells #[.int .i64 R0.x0, .int .i64 R0.y0, .int .i64 R0.x1, .int .i64 R0.y1, .slice s2 L0.length m2] 26)
      replace l1 := l1.alloc (.cells #[.int .i64 R0.x0, .int .i64 R0.y0, .int .i64 R0.x1, .int .i64 R0.y1, .slice s2 L0.length m2] 26)
      replace x := x.alloc (.cells #[.int .i64 R0.x0, .int .i64 R0.y0, .int .i64 R0.x1, .int .i64 R0.y1, .slice s2 L0.length m2] 26)
      replace l2 := l2.alloc (.cells #[.int .i64 R0.x0, .int .i64 R0.y0, .int .i64 R0.x1, .int .i64 R0.y1, .slice s2 L0.length m2] 26)
      replace B := below_alloc B (.cells #[.int .i64 R0.x0, .int .i64 R0.y0, .int .i64 R0.x1, .int .i64 R0.y1, .slice s2 L0.length m2] 26)
      have y := QBox.fresh w4 R0.x0 R0.y0 R0.x1 R0.y1 s2 L0.length m2 26
      obtain ⟨x0, x1, x2, x3, x4⟩ := x.open
      obtain ⟨y0, y1, y2, y3, y4⟩ := y.open
      go_wp2_with fail
      clear x0 x1 x2 x3 x4 y0 y1 y2 y3 y4
      refine (ps_rt R0 L0 hL _ _ _ _ _ l1 l2).mono ?_
      rintro e w5 ⟨rfl, hb⟩
      replace p := p.below hb
      replace q := q.below hb
      replace lp := lp.call hb
      replace lq := lq.call hb
      replace l1 := l1.call hb
      replace x := x.below hb
      replace l2 := l2.call hb
      replace y := y.below hb
      replace B := below_call B hb
      clear hb
      go_wp2_with fail
      refine (example02_c _).mono ?_
      rintro e w6 ⟨rfl, hb⟩
      replace p := p.below hb
      replace q := q.below hb
      replace lp := lp.call hb
      replace lq := lq.call hb
      replace l1 := l1.call hb
      replace x := x.below hb
      replace l2 := l2.call hb
      replace y := y.below hb
      replace B := below_call B hb
      clear hb
      go_wp2
      go_ret
      exact ⟨rfl, B⟩
    · have p := (QBox.freshAt w (w.heap.size) (rfl) a b c d s l.length m 26).alloc (.cells #[.int .i64 a', .int .i64 b', .int .i64 c', .int .i64 d', .slice t k.length m'] 26)
      have q := QBox.freshAt (w.alloc (.cells #[.int .i64 a, .int .i64 b, .int .i64 c, .int .i64 d, .slice s l.length m] 26)) (w.heap.size + 1) (by simp) a' b' c' d' t k.length m' 26
      have B := below_alloc (below_alloc (Below.refl _ w) (.cells #[.int .i64 a, .int .i64 b, .int .i64 c, .int .i64 d, .slice s l.length m] 26)) (.cells #[.int .i64 a', .int .i64 b', .int .i64 c', .int .i64 d', .slice t k.length m'] 26)
      have lp := ((hH).alloc (.cells #[.int .i64 a, .int .i64 b, .int .i64 c, .int .i64 d, .slice s l.length m] 26)).alloc (.cells #[.int .i64 a', .int .i64 b', .int .i64 c', .int .i64 d', .slice t k.length m'] 26)
      have lq := ((hK).alloc (.cells #[.int .i64 a, .int .i64 b, .int .i64 c, .int .i64 d, .slice s l.length m] 26)).alloc (.cells #[.int .i64 a', .int .i64 b', .int .i64 c', .int .i64 d', .slice t k.length m'] 26)
      go_enter Try.func6, Try.ntmps6
      go_wp2_with fail
      refine (few_r _ _ _ _ _ _ _ _).mono ?_
      rintro e w1 ⟨rfl, hb⟩
      replace p := p.below hb
      replace q := q.below hb
      replace lp := lp.call hb
      replace lq := lq.call hb
      replace B := below_call B hb
      clear hb
      obtain ⟨q0, q1, q2, q3, q4⟩ := q.open
      go_wp2_with fail
      clear q0 q1 q2 q3 q4
      refine (few_r _ _ _ _ _ _ _ _).mono ?_
      rintro e w2 ⟨rfl, hb⟩
      replace p := p.below hb
      replace q := q.below hb
      replace lp := lp.call hb
      replace lq := lq.call hb
      replace B := below_call B hb
      clear hb
      go_wp2_with fail
      refine (example02_c _).mono ?_
      rintro e w3 ⟨rfl, hb⟩
      replace p := p.below hb
      replace q := q.below hb
      replace lp := lp.call hb
      replace lq := lq.call hb
      replace B := below_call B hb
      clear hb
      go_wp2
      go_ret
      exact ⟨rfl, B⟩
  · have p := (QBox.freshAt w (w.heap.size) (rfl) a b c d s l.length m 26).alloc (.cells #[.int .i64 a', .int .i64 b', .int .i64 c', .int .i64 d', .slice t k.length m'] 26)
    have q := QBox.freshAt (w.alloc (.cells #[.int .i64 a, .int .i64 b, .int .i64 c, .int .i64 d, .slice s l.length m] 26)) (w.heap.size + 1) (by simp) a' b' c' d' t k.length m' 26
    have B := below_alloc (below_alloc (Below.refl _ w) (.cells #[.int .i64 a, .int .i64 b, .int .i64 c, .int .i64 d, .slice s l.length m] 26)) (.cells #[.int .i64 a', .int .i64 b', .int .i64 c', .int .i64 d', .slice t k.length m'] 26)
    have lp := ((hH).alloc (.cells #[.int .i64 a, .int .i64 b, .int .i64 c, .int .i64 d, .slice s l.length m] 26)).alloc (.cells #[.int .i64 a', .int .i64 b', .int .i64 c', .int .i64 d', .slice t k.length m'] 26)
    have lq := ((hK).alloc (.cells #[.int .i64 a, .int .i64 b, .int .i64 c, .int .i64 d, .slice s l.length m] 26)).alloc (.cells #[.int .i64 a', .int .i64 b', .int .i64 c', .int .i64 d', .slice t k.length m'] 26)
    go_enter Try.func6, Try.ntmps6
    go_wp2_with fail
    refine (few_r _ _ _ _ _ _ _ _).mono ?_
    rintro e w1 ⟨rfl, hb⟩
    replace p := p.below hb
    replace q := q.below hb
    replace lp := lp.call hb
    replace lq := lq.call hb
    replace B := below_call B hb
    clear hb
    go_wp2_with fail
    refine (example02_c _).mono ?_
    rintro e w2 ⟨rfl, hb⟩
    replace p := p.below hb
    replace q := q.below hb
    replace lp := lp.call hb
    replace lq := lq.call hb
    replace B := below_call B hb
    clear hb
    go_wp2
    go_ret
    exact ⟨rfl, B⟩

set_option maxRecDepth 100000 in
theorem lifted (os : Os) (started : os.Started) (H : Type) (enc : TypeId × Value → H) :
    ReturnsInHanded {} Try.checked os 6 .any (Rows.planePastesSpec.pre6 enc Try.prog Try.f6 Rows.planePastesRow.domain false) (Rows.planePastesSpec.post enc Try.prog Try.f6 false true false false) := by
  refine returnsInHanded_of_change (C := Try.checked) own started (by kernel_rfl) Try.func6
    (ChangeSpec.witness6 (enc := enc) (C := Try.checked) false ⟨#[], #[.agg #[.int .i64 0, .int .i64 0, .int .i64 0, .int .i64 0, .slice none 0 0], .agg #[.int .i64 0, .int .i64 0, .int .i64 0, .int .i64 0, .slice none 0 0]], []⟩ 8 (by kernel_rfl) (by kernel_rfl) (by kernel_rfl) (by kernel_rfl)) ?_
  intro W base args ds gs before hval0 hW _ _
  have hval : ∀ (j : Nat) t v, Try.f6.params[j]? = some t → args[j]? = some v → Value.okWide Try.prog W .any base t v := hval0
  have hW' := hW
  obtain ⟨p, q, hA0, hV, rfl, _, _⟩ := hW
  have hA : DataW.TrodAll enc Try.prog W 0 (fun _ => true) true Try.f6.params.toList args.toList ds p := hA0
  rw [Try.params6] at hA hval
  obtain ⟨v0, vs0, d0, ds0, p0, q0, hargs, rfl, rfl, h0, r0⟩ := trodAll_cons hA
  obtain ⟨v1, vs1, d1, ds1, p1, q1, rfl, rfl, rfl, h1, r1⟩ := trodAll_cons r0
  obtain ⟨rfl, rfl, rfl⟩ := trodAll_nil r1
  obtain rfl : args = #[v0, v1] := by cases args; simp_all
  obtain ⟨rfl, rfl⟩ := trodVars_none hV
  clear hA0 hval0
  simp only [List.append_nil] at hW'
  have l0 : ∀ x ∈ p0, x.block < W.heap.size := fun x hx => hW'.lt x (by simp [hx])
  have l1 : ∀ x ∈ p1, x.block < W.heap.size := fun x hx => hW'.lt x (by simp [hx])
  obtain ⟨a, b, c, d, s, l, m, rfl, hH0, hm0, hx0, hn0⟩ := open_plane (hval 0 26 v0 rfl rfl) h0
  obtain ⟨a', b', c', d', t, k, m', rfl, hH1, hm1, hx1, hn1⟩ := open_plane (hval 1 26 v1 rfl rfl) h1
  refine (walk a b c d a' b' c' d' s t l k m m' hm1 hn0 W hH0 hH1).mono fun e W' ⟨he, hb⟩ => ?_
  subst he
  exact ⟨_, rfl, post_low (pa := p0 ++ (p1 ++ ([]))) (pv := []) hW' (fun _ _ _ => (trodAll_cons_mk (shut_bool Try.underlying4 _) trodAll_mk0)) (fun sp hsp => (trodAll_cons_mk (trod_low laidOut (by kernel_rfl) (of_decide_eq_true (by kernel_rfl)) h0 hb l0 (fun x hx => hsp x (by simp [hx]))) (trodAll_cons_mk (trod_low laidOut (by kernel_rfl) (of_decide_eq_true (by kernel_rfl)) h1 hb l1 (fun x hx => hsp x (by simp [hx]))) trodAll_mk0))) (fun _ _ => rfl) (by simp) hb (ok_one (by kernel_rfl) rfl (okWide_bool_mk Try.underlying4 _))⟩

theorem over : Rows.planePastesRow.holds Try.pinned (OpenSpec.ofChange Rows.planePastesSpec) :=
  OpenClaim.holds_of_wide 6 Try.f6 rfl rfl rfl rfl rfl rfl rfl ⟨rfl, rfl, rfl, rfl, rfl⟩ rfl rfl rfl rfl rfl (by kernel_rfl) Try.func6 (by kernel_rfl)
    (of_decide_eq_true (by kernel_rfl)) (by unfold Func.isWrapper; first | (rw [if_pos (by decide +kernel)]; kernel_rfl) | (rw [if_neg (by decide +kernel)]; exact ⟨rfl, rfl⟩))
    (fun os started H enc _ => lifted os started H enc)

theorem proved : Rows.PlanePastesSaid :=
  over
#print axioms proved
end Go.Proofs.Ytamkipdalegioaa.planePastes
