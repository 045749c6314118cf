/-
  For all planes p and integers x and y the statement PlaneReads returns true (a plane of more than 400 samples is left alone), and its arguments read afterwards as before.
  Conditions: none beyond those of the given statement.
-/
import Derived.Test.YtamkipdalegioaaFrame
import Derived.Test.YtamkipdalegioaaPlnP
import Derived.Test.YtamkipdalegioaaOpenP
import Derived.Test.YtamkipdalegioaaPlnQ
namespace Go.Proofs.Ytamkipdalegioaa.planeReads
open Go.ChangeShapes Go.WideShapes Go.ChangeAt Go.RowKit Go.Joins Go.Deep

set_option maxRecDepth 100000 in
set_option maxHeartbeats 2000000 in
theorem walk (a b c d x y : Int) (s : Option Addr) (l : List Int) (m : Nat) (hm : l.length ≤ m) (w : World) (hH : HoldsI w s l) :
    Calls Try.prog 4 #[.agg #[.int .i64 a, .int .i64 b, .int .i64 c, .int .i64 d, .slice s l.length m], .int .i64 x, .int .i64 y] w fun e w' => e = .returned (.bool true) ∧ Below w.heap.size w w' := by
  obtain ⟨v, ok, hac, har⟩ := at_both a b c d x y s m l
  obtain ⟨L1, ok1, hL1, hrc, hrr⟩ := row_both a b c d y s m l hm
  obtain ⟨L2, ok2, hL2, hcc, hcr⟩ := col_both a b c d x s m l
  by_cases hf : l.length ≤ 400
  · have p := QBox.freshAt w (w.heap.size) (rfl) a b c d s l.length m 26
    have B := below_alloc (Below.refl _ w) (.cells #[.int .i64 a, .int .i64 b, .int .i64 c, .int .i64 d, .slice s l.length m] 26)
    have lp := (hH).alloc (.cells #[.int .i64 a, .int .i64 b, .int .i64 c, .int .i64 d, .slice s l.length m] 26)
    go_enter Try.func4, Try.ntmps4
    go_wp2_with fail
    refine (few_r _ _ _ _ _ _ _ _).mono ?_
    rintro e w1 ⟨rfl, hb⟩
    replace p := p.below hb
    replace lp := lp.call hb
    replace B := below_call B hb
    clear hb
    obtain ⟨p0, p1, p2, p3, p4⟩ := p.open
    go_wp2_with fail
    clear p0 p1 p2 p3 p4
    refine (hac _ lp).mono ?_
    rintro e w2 ⟨rfl, hb⟩
    replace p := p.below hb
    replace lp := lp.call hb
    replace B := below_call B hb
    clear hb
    obtain ⟨p0, p1, p2, p3, p4⟩ := p.open
    go_wp2_with fail
    clear p0 p1 p2 p3 p4
    refine (har _ lp).mono ?_
    rintro e w3 ⟨rfl, hb⟩
    replace p := p.below hb
    replace lp := lp.call hb
    replace B := below_call B hb
    clear hb
    go_wp2_with fail
    have e_p := fun (W : World) (h : Below w3.heap.size w3 W) => (p.below h).open
    have eH := fun (W : World) (h : Below w3.heap.size w3 W) => (e_p W h)
    clear e_p
    go_region_held3 (fun w' => w'.cell? ⟨w.heap.size, 0, none⟩ = some (.int .i64 a) ∧ w'.cell? ⟨w.heap.size, 1, none⟩ = some (.int .i64 b) ∧ w'.cell? ⟨w.heap.size, 2, none⟩ = some (.int .i64 c) ∧ w'.cell? ⟨w.heap.size, 3, none⟩ = some (.int .i64 d) ∧ w'.cell? ⟨w.heap.size, 4, none⟩ = some (.slice s l.length m))
      (first | (with_reducible assumption) | with_reducible exact eH _ (by repeat (first | exact Below.refl _ _ | assumption | refine Below.drew ?_ | refine below_alloc ?_ _)) | fail)
      (first | (go_at_call 20; (with_reducible refine (pv_c _ _ _ _ _ _ _ _).mono ?_); rintro e x1 ⟨rfl, hb⟩; have b_x1 : Below w3.heap.size w3 x1 := below_call (by repeat (first | exact Below.refl _ _ | assumption | refine Below.drew ?_ | refine below_alloc ?_ _)) hb; clear hb) | (go_at_call 21; (with_reducible refine (pv_r _ _ _ _ _ _ _ _).mono ?_); rintro e x2 ⟨rfl, hb⟩; have b_x2 : Below w3.heap.size w3 x2 := below_call (by repeat (first | exact Below.refl _ _ | assumption | refine Below.drew ?_ | refine below_alloc ?_ _)) hb; clear hb))
    clear eH b_x1
    replace p := p.below b_x2
    replace lp := lp.call b_x2
    replace B := below_call B b_x2
    clear b_x2
    obtain ⟨p0, p1, p2, p3, p4⟩ := p.open
    go_wp2_with fail
    clear p0 p1 p2 p3 p4
    refine (hrc _ lp).mono ?_
    rintro e w4 ⟨s1, m1, rfl, l1, hb, _⟩
    replace p := p.below hb
    replace lp := lp.call hb
    replace B := below_call B hb
    clear hb
    obtain ⟨p0, p1, p2, p3, p4⟩ := p.open
    go_wp2_with fail
    clear p0 p1 p2 p3 p4
    refine (hrr _ lp).mono ?_
    rintro e w5 ⟨s2, m2, rfl, l2, hb, _⟩
    replace p := p.below hb
    replace lp := lp.call hb
    replace l1 := l1.call hb
    replace B := below_call B hb
    clear hb
    go_wp2_with fail
    refine (ints_t L1 _ rfl (by omega) _ _ _ _ _ l1 l2).mono ?_
    rintro e w6 ⟨rfl, hb⟩
    replace p := p.below hb
    replace lp := lp.call hb
    replace l1 := l1.call hb
    replace l2 := l2.call hb
    replace B := below_call B hb
    clear hb
    clear l1 l2
    obtain ⟨p0, p1, p2, p3, p4⟩ := p.open
    go_wp2_with fail
    clear p0 p1 p2 p3 p4
    refine (hcc _ lp).mono ?_
    rintro e w7 ⟨s3, m3, rfl, l3, hb, _⟩
    replace p := p.below hb
    replace lp := lp.call hb
    replace B := below_call B hb
    clear hb
    obtain ⟨p0, p1, p2, p3, p4⟩ := p.open
    go_wp2_with fail
    clear p0 p1 p2 p3 p4
    refine (hcr _ lp).mono ?_
    rintro e w8 ⟨s4, m4, rfl, l4, hb, _⟩
    replace p := p.below hb
    replace lp := lp.call hb
    replace l3 := l3.call hb
    replace B := below_call B hb
    clear hb
    go_wp2_with fail
    refine (ints_t L2 _ rfl (by omega) _ _ _ _ _ l3 l4).mono ?_
    rintro e w9 ⟨rfl, hb⟩
    replace p := p.below hb
    replace lp := lp.call hb
    replace l3 := l3.call hb
    replace l4 := l4.call hb
    replace B := below_call B hb
    clear hb
    go_wp2_with fail
    refine (example02_c _).mono ?_
    rintro e w10 ⟨rfl, hb⟩
    replace p := p.below hb
    replace lp := lp.call hb
    replace l3 := l3.call hb
    replace l4 := l4.call hb
    replace B := below_call B hb
    clear hb
    go_wp2
    go_ret
    exact ⟨rfl, B⟩
  · have p := QBox.freshAt w (w.heap.size) (rfl) a b c d s l.length m 26
    have B := below_alloc (Below.refl _ w) (.cells #[.int .i64 a, .int .i64 b, .int .i64 c, .int .i64 d, .slice s l.length m] 26)
    have lp := (hH).alloc (.cells #[.int .i64 a, .int .i64 b, .int .i64 c, .int .i64 d, .slice s l.length m] 26)
    go_enter Try.func4, Try.ntmps4
    go_wp2_with fail
    refine (few_r _ _ _ _ _ _ _ _).mono ?_
    rintro e w1 ⟨rfl, hb⟩
    replace p := p.below hb
    replace lp := lp.call hb
    replace B := below_call B hb
    clear hb
    go_wp2_with fail
    refine (example02_c _).mono ?_
    rintro e w2 ⟨rfl, hb⟩
    replace p := p.below hb
    replace lp := lp.call hb
    replace B := below_call B hb
    clear hb
    go_wp2
    go_ret
    exact ⟨rfl, B⟩

set_option maxRecDepth 100000 in
theorem lifted (os : Os) (started : os.Started) (H : Type) (enc : TypeId × Value → H) :
    ReturnsInHanded {} Try.checked os 4 .any (Rows.planeReadsSpec.pre6 enc Try.prog Try.f4 Rows.planeReadsRow.domain false) (Rows.planeReadsSpec.post enc Try.prog Try.f4 false true false false) := by
  refine returnsInHanded_of_change (C := Try.checked) own started (by kernel_rfl) Try.func4
    (ChangeSpec.witness6 (enc := enc) (C := Try.checked) false ⟨#[], #[.agg #[.int .i64 0, .int .i64 0, .int .i64 0, .int .i64 0, .slice none 0 0], .int .i64 0, .int .i64 0], []⟩ 8 (by kernel_rfl) (by kernel_rfl) (by kernel_rfl) (by kernel_rfl)) ?_
  intro W base args ds gs before hval0 hW _ _
  have hval : ∀ (j : Nat) t v, Try.f4.params[j]? = some t → args[j]? = some v → Value.okWide Try.prog W .any base t v := hval0
  have hW' := hW
  obtain ⟨p, q, hA0, hV, rfl, _, _⟩ := hW
  have hA : DataW.TrodAll enc Try.prog W 0 (fun _ => true) true Try.f4.params.toList args.toList ds p := hA0
  rw [Try.params4] at hA hval
  obtain ⟨v0, vs0, d0, ds0, p0, q0, hargs, rfl, rfl, h0, r0⟩ := trodAll_cons hA
  obtain ⟨v1, vs1, d1, ds1, p1, q1, rfl, rfl, rfl, h1, r1⟩ := trodAll_cons r0
  obtain ⟨v2, vs2, d2, ds2, p2, q2, rfl, rfl, rfl, h2, r2⟩ := trodAll_cons r1
  obtain ⟨rfl, rfl, rfl⟩ := trodAll_nil r2
  obtain rfl : args = #[v0, v1, v2] := by cases args; simp_all
  obtain ⟨rfl, rfl⟩ := trodVars_none hV
  clear hA0 hval0
  simp only [List.append_nil] at hW'
  have l0 : ∀ x ∈ p0, x.block < W.heap.size := fun x hx => hW'.lt x (by simp [hx])
  have l1 : ∀ x ∈ p1, x.block < W.heap.size := fun x hx => hW'.lt x (by simp [hx])
  have l2 : ∀ x ∈ p2, x.block < W.heap.size := fun x hx => hW'.lt x (by simp [hx])
  obtain ⟨a, b, c, d, s, l, m, rfl, hH0, hm0, hx0, hn0⟩ := open_plane (hval 0 26 v0 rfl rfl) h0
  obtain ⟨x, rfl, _, _, wx⟩ := open_int Try.underlying3 (hval 1 3 v1 rfl rfl) h1
  obtain ⟨y, rfl, _, _, wy⟩ := open_int Try.underlying3 (hval 2 3 v2 rfl rfl) h2
  refine (walk a b c d x y s l m hm0 W hH0).mono fun e W' ⟨he, hb⟩ => ?_
  subst he
  exact ⟨_, rfl, post_low (pa := p0 ++ (p1 ++ (p2 ++ ([])))) (pv := []) hW' (fun _ _ _ => (trodAll_cons_mk (shut_bool Try.underlying4 _) trodAll_mk0)) (fun sp hsp => (trodAll_cons_mk (trod_low laidOut (by kernel_rfl) (of_decide_eq_true (by kernel_rfl)) h0 hb l0 (fun x hx => hsp x (by simp [hx]))) (trodAll_cons_mk (trod_low laidOut (by kernel_rfl) (of_decide_eq_true (by kernel_rfl)) h1 hb l1 (fun x hx => hsp x (by simp [hx]))) (trodAll_cons_mk (trod_low laidOut (by kernel_rfl) (of_decide_eq_true (by kernel_rfl)) h2 hb l2 (fun x hx => hsp x (by simp [hx]))) trodAll_mk0)))) (fun _ _ => rfl) (by simp) hb (ok_one (by kernel_rfl) rfl (okWide_bool_mk Try.underlying4 _))⟩

theorem over : Rows.planeReadsRow.holds Try.pinned (OpenSpec.ofChange Rows.planeReadsSpec) :=
  OpenClaim.holds_of_wide 4 Try.f4 rfl rfl rfl rfl rfl rfl rfl ⟨rfl, rfl, rfl, rfl, rfl⟩ rfl rfl rfl rfl rfl (by kernel_rfl) Try.func4 (by kernel_rfl)
    (of_decide_eq_true (by kernel_rfl)) (by unfold Func.isWrapper; first | (rw [if_pos (by decide +kernel)]; kernel_rfl) | (rw [if_neg (by decide +kernel)]; exact ⟨rfl, rfl⟩))
    (fun os started H enc _ => lifted os started H enc)

theorem proved : Rows.PlaneReadsSaid :=
  over
#print axioms proved
end Go.Proofs.Ytamkipdalegioaa.planeReads
