/-
  For all planes p and components c the statement ColorShifts returns true (a plane of more than 400 samples is left alone). Its arguments read afterwards as before.
  Conditions: none beyond those of the given statement.
-/
import Derived.Test.YtadkcgpkbcgeoaaFrame
import Derived.Test.YtadkcgpkbcgeoaaEx07
import Derived.Test.YtadkcgpkbcgeoaaOpenQ
import Derived.Test.YtadkcgpkbcgeoaaLawS7
import Derived.Test.YtadkcgpkbcgeoaaPlnP
set_option maxRecDepth 100000
namespace Go.Proofs.Ytadkcgpkbcgeoaa.colorShifts
open Go.ChangeShapes Go.WideShapes Go.ChangeAt Go.RowKit Go.Joins Go.Deep

set_option maxRecDepth 100000 in
set_option maxHeartbeats 8000000 in
theorem walk (a b c d n x y : Int) (sg : Bool) (s : Option Addr) (l : List Int) (m : Nat) (w : World) (hH : HoldsI w s l) (hs : s = none → l.length = 0 ∧ m = 0) :
    Calls Try.prog 6 #[.agg #[.int .i64 a, .int .i64 b, .int .i64 c, .int .i64 d, .slice s l.length m], .agg #[.int .i64 n, .bool sg, .int .i64 x, .int .i64 y]] w fun e w' => e = .returned (.bool true) ∧ Below w.heap.size w w' := by
  obtain ⟨R1, L1, E1, hL1, hc, hr⟩ := sh_both a b c d n x y sg s m l hs
  obtain ⟨R2, L2, E2, hL2, uc, ur⟩ := us_both a b c d n x y sg s m l
  clear hs
  by_cases hf : l.length ≤ 400
  · have p := (QBox.freshAt w (w.heap.size) (rfl) a b c d s l.length m 40).alloc (.cells #[.int .i64 n, .bool sg, .int .i64 x, .int .i64 y] 42)
    have k := CBox.freshAt (w.alloc (.cells #[.int .i64 a, .int .i64 b, .int .i64 c, .int .i64 d, .slice s l.length m] 40)) (w.heap.size + 1) (by simp) n sg x y 42
    have B := below_alloc (below_alloc (Below.refl _ w) (.cells #[.int .i64 a, .int .i64 b, .int .i64 c, .int .i64 d, .slice s l.length m] 40)) (.cells #[.int .i64 n, .bool sg, .int .i64 x, .int .i64 y] 42)
    have lp := (hH.alloc (.cells #[.int .i64 a, .int .i64 b, .int .i64 c, .int .i64 d, .slice s l.length m] 40)).alloc (.cells #[.int .i64 n, .bool sg, .int .i64 x, .int .i64 y] 42)
    go_enter Try.func6, Try.ntmps6
    go_wp2_with fail
    refine (few_r _ _ _ _ _ _ _ _).mono ?_
    rintro e w1 ⟨rfl, hb⟩
    replace p := p.below hb
    replace k := k.below hb
    replace lp := lp.call hb
    replace B := below_call B hb
    clear hb
    obtain ⟨k0, k1, k2, k3⟩ := k.open
    go_wp2_with fail
    clear k0 k1 k2 k3
    refine (rng_q n sg x y _).mono ?_
    rintro e w2 ⟨rfl, hb⟩
    replace p := p.below hb
    replace k := k.below hb
    replace lp := lp.call hb
    replace B := below_call B hb
    clear hb
    obtain ⟨k0, k1, k2, k3⟩ := k.open
    go_wp2_with fail
    clear k0 k1 k2 k3
    refine (rng_r n sg x y _).mono ?_
    rintro e w3 ⟨rfl, hb⟩
    replace p := p.below hb
    replace k := k.below hb
    replace lp := lp.call hb
    replace B := below_call B hb
    clear hb
    obtain ⟨p0, p1, p2, p3, p4⟩ := p.open
    obtain ⟨k0, k1, k2, k3⟩ := k.open
    go_wp2_with fail
    clear p0 p1 p2 p3 p4 k0 k1 k2 k3
    refine (hc _ lp).mono ?_
    rintro e w4 ⟨s1, m1, rfl, l1, hb, _⟩
    replace p := p.below hb
    replace k := k.below hb
    replace lp := lp.call hb
    replace B := below_call B hb
    clear hb
    replace p := p.alloc (.cells #[.int .i64 R1.x0, .int .i64 R1.y0, .int .i64 R1.x1, .int .i64 R1.y1, .slice s1 L1.length m1] 40)
    replace k := k.alloc (.cells #[.int .i64 R1.x0, .int .i64 R1.y0, .int .i64 R1.x1, .int .i64 R1.y1, .slice s1 L1.length m1] 40)
    replace lp := lp.alloc (.cells #[.int .i64 R1.x0, .int .i64 R1.y0, .int .i64 R1.x1, .int .i64 R1.y1, .slice s1 L1.length m1] 40)
    replace l1 := l1.alloc (.cells #[.int .i64 R1.x0, .int .i64 R1.y0, .int .i64 R1.x1, .int .i64 R1.y1, .slice s1 L1.length m1] 40)
    replace B := below_alloc B (.cells #[.int .i64 R1.x0, .int .i64 R1.y0, .int .i64 R1.x1, .int .i64 R1.y1, .slice s1 L1.length m1] 40)
    have x1 := QBox.fresh w4 R1.x0 R1.y0 R1.x1 R1.y1 s1 L1.length m1 40
    obtain ⟨p0, p1, p2, p3, p4⟩ := p.open
    obtain ⟨k0, k1, k2, k3⟩ := k.open
    go_wp2_with fail
    clear p0 p1 p2 p3 p4 k0 k1 k2 k3
    refine (hr _ lp).mono ?_
    rintro e w5 ⟨t1, n1, rfl, k1, hb, _⟩
    replace p := p.below hb
    replace k := k.below hb
    replace lp := lp.call hb
    replace l1 := l1.call hb
    replace x1 := x1.below hb
    replace B := below_call B hb
    clear hb
    replace p := p.alloc (.cells #[.int .i64 R1.x0, .int .i64 R1.y0, .int .i64 R1.x1, .int .i64 R1.y1, .slice t1 L1.length n1] 40)
    replace k := k.alloc (.cells #[.int .i64 R1.x0, .int .i64 R1.y0, .int .i64 R1.x1, .int .i64 R1.y1, .slice t1 L1.length n1] 40)
    replace lp := lp.alloc (.cells #[.int .i64 R1.x0, .int .i64 R1.y0, .int .i64 R1.x1, .int .i64 R1.y1, .slice t1 L1.length n1] 40)
    replace l1 := l1.alloc (.cells #[.int .i64 R1.x0, .int .i64 R1.y0, .int .i64 R1.x1, .int .i64 R1.y1, .slice t1 L1.length n1] 40)
    replace x1 := x1.alloc (.cells #[.int .i64 R1.x0, .int .i64 R1.y0, .int .i64 R1.x1, .int .i64 R1.y1, .slice t1 L1.length n1] 40)
    replace k1 := k1.alloc (.cells #[.int .i64 R1.x0, .int .i64 R1.y0, .int .i64 R1.x1, .int .i64 R1.y1, .slice t1 L1.length n1] 40)
    replace B := below_alloc B (.cells #[.int .i64 R1.x0, .int .i64 R1.y0, .int .i64 R1.x1, .int .i64 R1.y1, .slice t1 L1.length n1] 40)
    have y1 := QBox.fresh w5 R1.x0 R1.y0 R1.x1 R1.y1 t1 L1.length n1 40
    obtain ⟨x10, x11, x12, x13, x14⟩ := x1.open
    obtain ⟨y10, y11, y12, y13, y14⟩ := y1.open
    go_wp2_with fail
    clear x10 x11 x12 x13 x14 y10 y11 y12 y13 y14
    refine (ps_rt R1 L1 hL1 _ _ _ _ _ l1 k1).mono ?_
    rintro e w6 ⟨rfl, hb⟩
    replace p := p.below hb
    replace k := k.below hb
    replace lp := lp.call hb
    replace l1 := l1.call hb
    replace x1 := x1.below hb
    replace k1 := k1.call hb
    replace y1 := y1.below hb
    replace B := below_call B hb
    clear hb
    clear x1 y1 l1 k1
    obtain ⟨p0, p1, p2, p3, p4⟩ := p.open
    obtain ⟨k0, k1, k2, k3⟩ := k.open
    go_wp2_with fail
    clear p0 p1 p2 p3 p4 k0 k1 k2 k3
    refine (uc _ lp).mono ?_
    rintro e w7 ⟨s2, m2, rfl, l2, hb, _⟩
    replace p := p.below hb
    replace k := k.below hb
    replace lp := lp.call hb
    replace B := below_call B hb
    clear hb
    replace p := p.alloc (.cells #[.int .i64 R2.x0, .int .i64 R2.y0, .int .i64 R2.x1, .int .i64 R2.y1, .slice s2 L2.length m2] 40)
    replace k := k.alloc (.cells #[.int .i64 R2.x0, .int .i64 R2.y0, .int .i64 R2.x1, .int .i64 R2.y1, .slice s2 L2.length m2] 40)
    replace lp := lp.alloc (.cells #[.int .i64 R2.x0, .int .i64 R2.y0, .int .i64 R2.x1, .int .i64 R2.y1, .slice s2 L2.length m2] 40)
    replace l2 := l2.alloc (.cells #[.int .i64 R2.x0, .int .i64 R2.y0, .int .i64 R2.x1, .int .i64 R2.y1, .slice s2 L2.length m2] 40)
    replace B := below_alloc B (.cells #[.int .i64 R2.x0, .int .i64 R2.y0, .int .i64 R2.x1, .int .i64 R2.y1, .slice s2 L2.length m2] 40)
    have x2 := QBox.fresh w7 R2.x0 R2.y0 R2.x1 R2.y1 s2 L2.length m2 40
    obtain ⟨p0, p1, p2, p3, p4⟩ := p.open
    obtain ⟨k0, k1, k2, k3⟩ := k.open
    go_wp2_with fail
    clear p0 p1 p2 p3 p4 k0 k1 k2 k3
    refine (ur _ lp).mono ?_
    rintro e w8 ⟨t2, n2, rfl, k2, hb, _⟩
    replace p := p.below hb
    replace k := k.below hb
    replace lp := lp.call hb
    replace l2 := l2.call hb
    replace x2 := x2.below hb
    replace B := below_call B hb
    clear hb
    replace p := p.alloc (.cells #[.int .i64 R2.x0, .int .i64 R2.y0, .int .i64 R2.x1, .int .i64 R2.y1, .slice t2 L2.length n2] 40)
    replace k := k.alloc (.cells #[.int .i64 R2.x0, .int .i64 R2.y0, .int .i64 R2.x1, .int .i64 R2.y1, .slice t2 L2.length n2] 40)
    replace lp := lp.alloc (.cells #[.int .i64 R2.x0, .int .i64 R2.y0, .int .i64 R2.x1, .int .i64 R2.y1, .slice t2 L2.length n2] 40)
    replace l2 := l2.alloc (.cells #[.int .i64 R2.x0, .int .i64 R2.y0, .int .i64 R2.x1, .int .i64 R2.y1, .slice t2 L2.length n2] 40)
    replace x2 := x2.alloc (.cells #[.int .i64 R2.x0, .int .i64 R2.y0, .int .i64 R2.x1, .int .i64 R2.y1, .slice t2 L2.length n2] 40)
    replace k2 := k2.alloc (.cells #[.int .i64 R2.x0, .int .i64 R2.y0, .int .i64 R2.x1, .int .i64 R2.y1, .slice t2 L2.length n2] 40)
    replace B := below_alloc B (.cells #[.int .i64 R2.x0, .int .i64 R2.y0, .int .i64 R2.x1, .int .i64 R2.y1, .slice t2 L2.length n2] 40)
    have y2 := QBox.fresh w8 R2.x0 R2.y0 R2.x1 R2.y1 t2 L2.length n2 40
    obtain ⟨x20, x21, x22, x23, x24⟩ := x2.open
    obtain ⟨y20, y21, y22, y23, y24⟩ := y2.open
    go_wp2_with fail
    clear x20 x21 x22 x23 x24 y20 y21 y22 y23 y24
    refine (ps_rt R2 L2 hL2 _ _ _ _ _ l2 k2).mono ?_
    rintro e w9 ⟨rfl, hb⟩
    replace p := p.below hb
    replace k := k.below hb
    replace lp := lp.call hb
    replace l2 := l2.call hb
    replace x2 := x2.below hb
    replace k2 := k2.call hb
    replace y2 := y2.below hb
    replace B := below_call B hb
    clear hb
    clear x2 y2 l2 k2
    go_wp2_with fail
    refine (example07_c _).mono ?_
    rintro e w10 ⟨rfl, hb⟩
    replace p := p.below hb
    replace k := k.below hb
    replace lp := lp.call hb
    replace B := below_call B hb
    clear hb
    go_wp2
    go_ret
    exact ⟨rfl, B⟩
  · have p := (QBox.freshAt w (w.heap.size) (rfl) a b c d s l.length m 40).alloc (.cells #[.int .i64 n, .bool sg, .int .i64 x, .int .i64 y] 42)
    have k := CBox.freshAt (w.alloc (.cells #[.int .i64 a, .int .i64 b, .int .i64 c, .int .i64 d, .slice s l.length m] 40)) (w.heap.size + 1) (by simp) n sg x y 42
    have B := below_alloc (below_alloc (Below.refl _ w) (.cells #[.int .i64 a, .int .i64 b, .int .i64 c, .int .i64 d, .slice s l.length m] 40)) (.cells #[.int .i64 n, .bool sg, .int .i64 x, .int .i64 y] 42)
    have lp := (hH.alloc (.cells #[.int .i64 a, .int .i64 b, .int .i64 c, .int .i64 d, .slice s l.length m] 40)).alloc (.cells #[.int .i64 n, .bool sg, .int .i64 x, .int .i64 y] 42)
    go_enter Try.func6, Try.ntmps6
    go_wp2_with fail
    refine (few_r _ _ _ _ _ _ _ _).mono ?_
    rintro e w1 ⟨rfl, hb⟩
    replace p := p.below hb
    replace k := k.below hb
    replace lp := lp.call hb
    replace B := below_call B hb
    clear hb
    go_wp2_with fail
    refine (example07_c _).mono ?_
    rintro e w2 ⟨rfl, hb⟩
    replace p := p.below hb
    replace k := k.below hb
    replace lp := lp.call hb
    replace B := below_call B hb
    clear hb
    go_wp2
    go_ret
    exact ⟨rfl, B⟩

set_option maxRecDepth 100000 in
theorem lifted (os : Os) (started : os.Started) (H : Type) (enc : TypeId × Value → H) :
    ReturnsInHanded {} Try.checked os 6 .any (Rows.colorShiftsSpec.pre6 enc Try.prog Try.f6 Rows.colorShiftsRow.domain false) (Rows.colorShiftsSpec.post enc Try.prog Try.f6 false true false false) := by
  refine returnsInHanded_of_change (C := Try.checked) own started (by kernel_rfl) Try.func6
    (ChangeSpec.witness6 (enc := enc) (C := Try.checked) false ⟨#[], #[.agg #[.int .i64 0, .int .i64 0, .int .i64 0, .int .i64 0, .slice none 0 0], .agg #[.int .i64 0, .bool false, .int .i64 0, .int .i64 0]], []⟩ 8 (by kernel_rfl) (by kernel_rfl) (by kernel_rfl) (by kernel_rfl)) ?_
  intro W base args ds gs before hval0 hW _ _
  have hval : ∀ (j : Nat) t v, Try.f6.params[j]? = some t → args[j]? = some v → Value.okWide Try.prog W .any base t v := hval0
  have hW' := hW
  obtain ⟨p, q, hA0, hV, rfl, _, _⟩ := hW
  have hA : DataW.TrodAll enc Try.prog W 0 (fun _ => true) true Try.f6.params.toList args.toList ds p := hA0
  rw [Try.params6] at hA hval
  obtain ⟨v0, vs0, d0, ds0, p0, q0, hargs, rfl, rfl, h0, r0⟩ := trodAll_cons hA
  obtain ⟨v1, vs1, d1, ds1, p1, q1, rfl, rfl, rfl, h1, r1⟩ := trodAll_cons r0
  obtain ⟨rfl, rfl, rfl⟩ := trodAll_nil r1
  obtain rfl : args = #[v0, v1] := by cases args; simp_all
  obtain ⟨rfl, rfl⟩ := trodVars_none hV
  clear hA0 hval0
  simp only [List.append_nil] at hW'
  have l0 : ∀ x ∈ p0, x.block < W.heap.size := fun x hx => hW'.lt x (by simp [hx])
  have l1 : ∀ x ∈ p1, x.block < W.heap.size := fun x hx => hW'.lt x (by simp [hx])
  obtain ⟨a, b, c, d, s, l, m, rfl, hH0, hm0, hx0, hn0, hI0⟩ := open_planeR (hval 0 40 v0 rfl rfl) h0
  obtain ⟨n, sg, x, y, rfl⟩ := open_comp (hval 1 42 v1 rfl rfl) h1
  refine (walk a b c d n x y sg s l m W hH0 hn0).mono fun e W' ⟨he, hb⟩ => ?_
  subst he
  exact ⟨_, rfl, post_low (pa := p0 ++ (p1 ++ ([]))) (pv := []) hW' (fun _ _ _ => (trodAll_cons_mk (shut_bool Try.underlying4 _) trodAll_mk0)) (fun sp hsp => (trodAll_cons_mk (trod_low laidOut (by kernel_rfl) (of_decide_eq_true (by kernel_rfl)) h0 hb l0 (fun x hx => hsp x (by simp [hx]))) (trodAll_cons_mk (trod_low laidOut (by kernel_rfl) (of_decide_eq_true (by kernel_rfl)) h1 hb l1 (fun x hx => hsp x (by simp [hx]))) trodAll_mk0))) (fun _ _ => rfl) (by simp) hb (ok_one (by kernel_rfl) rfl (okWide_bool_mk Try.underlying4 _))⟩

theorem over : Rows.colorShiftsRow.holds Try.pinned (OpenSpec.ofChange Rows.colorShiftsSpec) :=
  OpenClaim.holds_of_wide 6 Try.f6 rfl rfl rfl rfl rfl rfl rfl ⟨rfl, rfl, rfl, rfl, rfl⟩ rfl rfl rfl rfl rfl (by kernel_rfl) Try.func6 (by kernel_rfl)
    (of_decide_eq_true (by kernel_rfl)) (by unfold Func.isWrapper; first | (rw [if_pos (by decide +kernel)]; kernel_rfl) | (rw [if_neg (by decide +kernel)]; exact ⟨rfl, rfl⟩))
    (fun os started H enc _ => lifted os started H enc)

theorem proved : Rows.ColorShiftsSaid :=
  over
#print axioms proved
end Go.Proofs.Ytadkcgpkbcgeoaa.colorShifts
