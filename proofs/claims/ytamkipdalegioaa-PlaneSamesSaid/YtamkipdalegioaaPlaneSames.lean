/-
  For all planes a and b the statement PlaneSames returns true (planes of more than 400 samples are left alone), and its arguments read afterwards as before.
  Conditions: none beyond those of the given statement.
-/
import Derived.Test.YtamkipdalegioaaFrame
import Derived.Test.YtamkipdalegioaaPlnP
import Derived.Test.YtamkipdalegioaaOpenP
namespace Go.Proofs.Ytamkipdalegioaa.planeSames
open Go.ChangeShapes Go.WideShapes Go.ChangeAt Go.RowKit Go.Joins Go.Deep

set_option maxRecDepth 100000 in
set_option maxHeartbeats 2000000 in
theorem walk (a b c d a' b' c' d' : Int) (s t : Option Addr) (l k : List Int) (m m' : Nat) (w : World) (hH : HoldsI w s l) (hK : HoldsI w t k) :
    Calls Try.prog 8 #[.agg #[.int .i64 a, .int .i64 b, .int .i64 c, .int .i64 d, .slice s l.length m], .agg #[.int .i64 a', .int .i64 b', .int .i64 c', .int .i64 d', .slice t k.length m']] w fun e w' => e = .returned (.bool true) ∧ Below w.heap.size w w' := by
  by_cases hf : l.length ≤ 400
  · by_cases hg : k.length ≤ 400
    · have p := (QBox.freshAt w (w.heap.size) (rfl) a b c d s l.length m 26).alloc (.cells #[.int .i64 a', .int .i64 b', .int .i64 c', .int .i64 d', .slice t k.length m'] 26)
      have q := QBox.freshAt (w.alloc (.cells #[.int .i64 a, .int .i64 b, .int .i64 c, .int .i64 d, .slice s l.length m] 26)) (w.heap.size + 1) (by simp) a' b' c' d' t k.length m' 26
      have B := below_alloc (below_alloc (Below.refl _ w) (.cells #[.int .i64 a, .int .i64 b, .int .i64 c, .int .i64 d, .slice s l.length m] 26)) (.cells #[.int .i64 a', .int .i64 b', .int .i64 c', .int .i64 d', .slice t k.length m'] 26)
      have lp := ((hH).alloc (.cells #[.int .i64 a, .int .i64 b, .int .i64 c, .int .i64 d, .slice s l.length m] 26)).alloc (.cells #[.int .i64 a', .int .i64 b', .int .i64 c', .int .i64 d', .slice t k.length m'] 26)
      have lq := ((hK).alloc (.cells #[.int .i64 a, .int .i64 b, .int .i64 c, .int .i64 d, .slice s l.length m] 26)).alloc (.cells #[.int .i64 a', .int .i64 b', .int .i64 c', .int .i64 d', .slice t k.length m'] 26)
      go_enter Try.func8, Try.ntmps8
      go_wp2_with fail
      refine (few_r _ _ _ _ _ _ _ _).mono ?_
      rintro e w1 ⟨rfl, hb⟩
      replace p := p.below hb
      replace q := q.below hb
      replace lp := lp.call hb
      replace lq := lq.call hb
      replace B := below_call B hb
      clear hb
      obtain ⟨q0, q1, q2, q3, q4⟩ := q.open
      go_wp2_with fail
      clear q0 q1 q2 q3 q4
      refine (few_r _ _ _ _ _ _ _ _).mono ?_
      rintro e w2 ⟨rfl, hb⟩
      replace p := p.below hb
      replace q := q.below hb
      replace lp := lp.call hb
      replace lq := lq.call hb
      replace B := below_call B hb
      clear hb
      have hl1 : l.length ≤ 140737488351232 := by omega
      have hk1 : k.length ≤ 140737488351232 := by omega
      go_wp2_with fail
      have e_p := fun (W : World) (h : Below w2.heap.size w2 W) => (p.below h).open
      have e_q := fun (W : World) (h : Below w2.heap.size w2 W) => (q.below h).open
      have eH := fun (W : World) (h : Below w2.heap.size w2 W) => (And.intro (e_p W h) (e_q W h))
      simp only [and_assoc] at eH
      clear e_p e_q
      go_region_held3 (fun w' => w'.cell? ⟨w.heap.size, 0, none⟩ = some (.int .i64 a) ∧ w'.cell? ⟨w.heap.size, 1, none⟩ = some (.int .i64 b) ∧ w'.cell? ⟨w.heap.size, 2, none⟩ = some (.int .i64 c) ∧ w'.cell? ⟨w.heap.size, 3, none⟩ = some (.int .i64 d) ∧ w'.cell? ⟨w.heap.size, 4, none⟩ = some (.slice s l.length m) ∧ w'.cell? ⟨w.heap.size + 1, 0, none⟩ = some (.int .i64 a') ∧ w'.cell? ⟨w.heap.size + 1, 1, none⟩ = some (.int .i64 b') ∧ w'.cell? ⟨w.heap.size + 1, 2, none⟩ = some (.int .i64 c') ∧ w'.cell? ⟨w.heap.size + 1, 3, none⟩ = some (.int .i64 d') ∧ w'.cell? ⟨w.heap.size + 1, 4, none⟩ = some (.slice t k.length m'))
        (first | (with_reducible assumption) | with_reducible exact eH _ (by repeat (first | exact Below.refl _ _ | assumption | refine Below.drew ?_ | refine below_alloc ?_ _)) | fail)
        (first | (go_at_call 35; (with_reducible refine (ps_c2 a b c d a' b' c' d' _ _ _ _ l k _ hl1 hk1 (lp.call (by repeat (first | exact Below.refl _ _ | assumption | refine Below.drew ?_ | refine below_alloc ?_ _))) (lq.call (by repeat (first | exact Below.refl _ _ | assumption | refine Below.drew ?_ | refine below_alloc ?_ _)))).mono ?_); rintro e x1 ⟨rfl, hb⟩; have b_x1 : Below w2.heap.size w2 x1 := below_call (by repeat (first | exact Below.refl _ _ | assumption | refine Below.drew ?_ | refine below_alloc ?_ _)) hb; clear hb) | (go_at_call 35; (with_reducible refine (ps_cs a b c d a' b' c' d' _ _ _ _ l k _ hl1 hk1 (lp.call (by repeat (first | exact Below.refl _ _ | assumption | refine Below.drew ?_ | refine below_alloc ?_ _))) (lq.call (by repeat (first | exact Below.refl _ _ | assumption | refine Below.drew ?_ | refine below_alloc ?_ _)))).mono ?_); rintro e x2 ⟨rfl, hb⟩; have b_x2 : Below w2.heap.size w2 x2 := below_call (by repeat (first | exact Below.refl _ _ | assumption | refine Below.drew ?_ | refine below_alloc ?_ _)) hb; clear hb) | (go_at_call 16; (with_reducible refine (ps_r2 a b c d a' b' c' d' _ _ _ _ l k _ hl1 hk1 (lp.call (by repeat (first | exact Below.refl _ _ | assumption | refine Below.drew ?_ | refine below_alloc ?_ _))) (lq.call (by repeat (first | exact Below.refl _ _ | assumption | refine Below.drew ?_ | refine below_alloc ?_ _)))).mono ?_); rintro e x3 ⟨rfl, hb⟩; have b_x3 : Below w2.heap.size w2 x3 := below_call (by repeat (first | exact Below.refl _ _ | assumption | refine Below.drew ?_ | refine below_alloc ?_ _)) hb; clear hb) | (go_at_call 35; (with_reducible refine (ps_c1 a b c d _ _ l _ hl1 (lp.call (by repeat (first | exact Below.refl _ _ | assumption | refine Below.drew ?_ | refine below_alloc ?_ _)))).mono ?_); rintro e x5 ⟨rfl, hb⟩; have b_x5 : Below w2.heap.size w2 x5 := below_call (by repeat (first | exact Below.refl _ _ | assumption | refine Below.drew ?_ | refine below_alloc ?_ _)) hb; clear hb) | (go_at_call 14; (with_reducible refine (example02_c _).mono ?_); rintro e x6 ⟨rfl, hb⟩; have b_x6 : Below w2.heap.size w2 x6 := below_call (by repeat (first | exact Below.refl _ _ | assumption | refine Below.drew ?_ | refine below_alloc ?_ _)) hb; clear hb))
      go_wp2
      go_ret
      exact ⟨rfl, below_call B b_x6⟩
    · have p := (QBox.freshAt w (w.heap.size) (rfl) a b c d s l.length m 26).alloc (.cells #[.int .i64 a', .int .i64 b', .int .i64 c', .int .i64 d', .slice t k.length m'] 26)
      have q := QBox.freshAt (w.alloc (.cells #[.int .i64 a, .int .i64 b, .int .i64 c, .int .i64 d, .slice s l.length m] 26)) (w.heap.size + 1) (by simp) a' b' c' d' t k.length m' 26
      have B := below_alloc (below_alloc (Below.refl _ w) (.cells #[.int .i64 a, .int .i64 b, .int .i64 c, .int .i64 d, .slice s l.length m] 26)) (.cells #[.int .i64 a', .int .i64 b', .int .i64 c', .int .i64 d', .slice t k.length m'] 26)
      have lp := ((hH).alloc (.cells #[.int .i64 a, .int .i64 b, .int .i64 c, .int .i64 d, .slice s l.length m] 26)).alloc (.cells #[.int .i64 a', .int .i64 b', .int .i64 c', .int .i64 d', .slice t k.length m'] 26)
      have lq := ((hK).alloc (.cells #[.int .i64 a, .int .i64 b, .int .i64 c, .int .i64 d, .slice s l.length m] 26)).alloc (.cells #[.int .i64 a', .int .i64 b', .int .i64 c', .int .i64 d', .slice t k.length m'] 26)
      go_enter Try.func8, Try.ntmps8
      go_wp2_with fail
      refine (few_r _ _ _ _ _ _ _ _).mono ?_
      rintro e w1 ⟨rfl, hb⟩
      replace p := p.below hb
      replace q := q.below hb
      replace lp := lp.call hb
      replace lq := lq.call hb
      replace B := below_call B hb
      clear hb
      obtain ⟨q0, q1, q2, q3, q4⟩ := q.open
      go_wp2_with fail
      clear q0 q1 q2 q3 q4
      refine (few_r _ _ _ _ _ _ _ _).mono ?_
      rintro e w2 ⟨rfl, hb⟩
      replace p := p.below hb
      replace q := q.below hb
      replace lp := lp.call hb
      replace lq := lq.call hb
      replace B := below_call B hb
      clear hb
      go_wp2_with fail
      refine (example02_c _).mono ?_
      rintro e w3 ⟨rfl, hb⟩
      replace p := p.below hb
      replace q := q.below hb
      replace lp := lp.call hb
      replace lq := lq.call hb
      replace B := below_call B hb
      clear hb
      go_wp2
      go_ret
      exact ⟨rfl, B⟩
  · have p := (QBox.freshAt w (w.heap.size) (rfl) a b c d s l.length m 26).alloc (.cells #[.int .i64 a', .int .i64 b', .int .i64 c', .int .i64 d', .slice t k.length m'] 26)
    have q := QBox.freshAt (w.alloc (.cells #[.int .i64 a, .int .i64 b, .int .i64 c, .int .i64 d, .slice s l.length m] 26)) (w.heap.size + 1) (by simp) a' b' c' d' t k.length m' 26
    have B := below_alloc (below_alloc (Below.refl _ w) (.cells #[.int .i64 a, .int .i64 b, .int .i64 c, .int .i64 d, .slice s l.length m] 26)) (.cells #[.int .i64 a', .int .i64 b', .int .i64 c', .int .i64 d', .slice t k.length m'] 26)
    have lp := ((hH).alloc (.cells #[.int .i64 a, .int .i64 b, .int .i64 c, .int .i64 d, .slice s l.length m] 26)).alloc (.cells #[.int .i64 a', .int .i64 b', .int .i64 c', .int .i64 d', .slice t k.length m'] 26)
    have lq := ((hK).alloc (.cells #[.int .i64 a, .int .i64 b, .int .i64 c, .int .i64 d, .slice s l.length m] 26)).alloc (.cells #[.int .i64 a', .int .i64 b', .int .i64 c', .int .i64 d', .slice t k.length m'] 26)
    go_enter Try.func8, Try.ntmps8
    go_wp2_with fail
    refine (few_r _ _ _ _ _ _ _ _).mono ?_
    rintro e w1 ⟨rfl, hb⟩
    replace p := p.below hb
    replace q := q.below hb
    replace lp := lp.call hb
    replace lq := lq.call hb
    replace B := below_call B hb
    clear hb
    go_wp2_with fail
    refine (example02_c _).mono ?_
    rintro e w2 ⟨rfl, hb⟩
    replace p := p.below hb
    replace q := q.below hb
    replace lp := lp.call hb
    replace lq := lq.call hb
    replace B := below_call B hb
    clear hb
    go_wp2
    go_ret
    exact ⟨rfl, B⟩

set_option maxRecDepth 100000 in
theorem lifted (os : Os) (started : os.Started) (H : Type) (enc : TypeId × Value → H) :
    ReturnsInHanded {} Try.checked os 8 .any (Rows.planeSamesSpec.pre6 enc Try.prog Try.f8 Rows.planeSamesRow.domain false) (Rows.planeSamesSpec.post enc Try.prog Try.f8 false true false false) := by
  refine returnsInHanded_of_change (C := Try.checked) own started (by kernel_rfl) Try.func8
    (ChangeSpec.witness6 (enc := enc) (C := Try.checked) false ⟨#[], #[.agg #[.int .i64 0, .int .i64 0, .int .i64 0, .int .i64 0, .slice none 0 0], .agg #[.int .i64 0, .int .i64 0, .int .i64 0, .int .i64 0, .slice none 0 0]], []⟩ 8 (by kernel_rfl) (by kernel_rfl) (by kernel_rfl) (by kernel_rfl)) ?_
  intro W base args ds gs before hval0 hW _ _
  have hval : ∀ (j : Nat) t v, Try.f8.params[j]? = some t → args[j]? = some v → Value.okWide Try.prog W .any base t v := hval0
  have hW' := hW
  obtain ⟨p, q, hA0, hV, rfl, _, _⟩ := hW
  have hA : DataW.TrodAll enc Try.prog W 0 (fun _ => true) true Try.f8.params.toList args.toList ds p := hA0
  rw [Try.params8] at hA hval
  obtain ⟨v0, vs0, d0, ds0, p0, q0, hargs, rfl, rfl, h0, r0⟩ := trodAll_cons hA
  obtain ⟨v1, vs1, d1, ds1, p1, q1, rfl, rfl, rfl, h1, r1⟩ := trodAll_cons r0
  obtain ⟨rfl, rfl, rfl⟩ := trodAll_nil r1
  obtain rfl : args = #[v0, v1] := by cases args; simp_all
  obtain ⟨rfl, rfl⟩ := trodVars_none hV
  clear hA0 hval0
  simp only [List.append_nil] at hW'
  have l0 : ∀ x ∈ p0, x.block < W.heap.size := fun x hx => hW'.lt x (by simp [hx])
  have l1 : ∀ x ∈ p1, x.block < W.heap.size := fun x hx => hW'.lt x (by simp [hx])
  obtain ⟨a, b, c, d, s, l, m, rfl, hH0, hm0, hx0, hn0⟩ := open_plane (hval 0 26 v0 rfl rfl) h0
  obtain ⟨a', b', c', d', t, k, m', rfl, hH1, hm1, hx1, hn1⟩ := open_plane (hval 1 26 v1 rfl rfl) h1
  refine (walk a b c d a' b' c' d' s t l k m m' W hH0 hH1).mono fun e W' ⟨he, hb⟩ => ?_
  subst he
  exact ⟨_, rfl, post_low (pa := p0 ++ (p1 ++ ([]))) (pv := []) hW' (fun _ _ _ => (trodAll_cons_mk (shut_bool Try.underlying4 _) trodAll_mk0)) (fun sp hsp => (trodAll_cons_mk (trod_low laidOut (by kernel_rfl) (of_decide_eq_true (by kernel_rfl)) h0 hb l0 (fun x hx => hsp x (by simp [hx]))) (trodAll_cons_mk (trod_low laidOut (by kernel_rfl) (of_decide_eq_true (by kernel_rfl)) h1 hb l1 (fun x hx => hsp x (by simp [hx]))) trodAll_mk0))) (fun _ _ => rfl) (by simp) hb (ok_one (by kernel_rfl) rfl (okWide_bool_mk Try.underlying4 _))⟩

theorem over : Rows.planeSamesRow.holds Try.pinned (OpenSpec.ofChange Rows.planeSamesSpec) :=
  OpenClaim.holds_of_wide 8 Try.f8 rfl rfl rfl rfl rfl rfl rfl ⟨rfl, rfl, rfl, rfl, rfl⟩ rfl rfl rfl rfl rfl (by kernel_rfl) Try.func8 (by kernel_rfl)
    (of_decide_eq_true (by kernel_rfl)) (by unfold Func.isWrapper; first | (rw [if_pos (by decide +kernel)]; kernel_rfl) | (rw [if_neg (by decide +kernel)]; exact ⟨rfl, rfl⟩))
    (fun os started H enc _ => lifted os started H enc)

theorem proved : Rows.PlaneSamesSaid :=
  over
#print axioms proved
end Go.Proofs.Ytamkipdalegioaa.planeSames
