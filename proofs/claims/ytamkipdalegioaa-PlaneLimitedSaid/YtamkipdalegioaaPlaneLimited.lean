/-
  For all planes p and integers low and high the statement PlaneLimited returns true (a plane that is not valid, or of more than 20 columns or rows, and low > high are left alone), and its arguments read afterwards as before.
  Conditions: none beyond those of the given statement.
-/
import Derived.Test.YtamkipdalegioaaFrame
import Derived.Test.YtamkipdalegioaaPlnS
import Derived.Test.YtamkipdalegioaaOpenP
namespace Go.Proofs.Ytamkipdalegioaa.planeLimited
open Go.ChangeShapes Go.WideShapes Go.ChangeAt Go.RowKit Go.Joins Go.Deep

set_option maxRecDepth 100000 in
set_option maxHeartbeats 2000000 in
theorem walk (a b c d lo hi : Int) (s : Option Addr) (l : List Int) (m : Nat) (w : World) (hH : HoldsI w s l) :
    Calls Try.prog 11 #[.agg #[.int .i64 a, .int .i64 b, .int .i64 c, .int .i64 d, .slice s l.length m], .int .i64 lo, .int .i64 hi] w fun e w' => e = .returned (.bool true) ∧ Below w.heap.size w w' := by
  have heq := eqR
  have hself := Pl.eq_self
  by_cases hv : vsB a b c d l.length = true
  · by_cases hlh : hi < lo
    · have p := QBox.freshAt w (w.heap.size) (rfl) a b c d s l.length m 26
      have B := below_alloc (Below.refl _ w) (.cells #[.int .i64 a, .int .i64 b, .int .i64 c, .int .i64 d, .slice s l.length m] 26)
      have lp := (hH).alloc (.cells #[.int .i64 a, .int .i64 b, .int .i64 c, .int .i64 d, .slice s l.length m] 26)
      go_enter Try.func11, Try.ntmps11
      go_wp2_with fail
      refine (vs_r _ _ _ _ _ _ _ _).mono ?_
      rintro e w1 ⟨rfl, hb⟩
      replace p := p.below hb
      replace lp := lp.call hb
      replace B := below_call B hb
      clear hb
      go_wp2_with fail
      refine (example02_c _).mono ?_
      rintro e w2 ⟨rfl, hb⟩
      replace p := p.below hb
      replace lp := lp.call hb
      replace B := below_call B hb
      clear hb
      go_wp2
      go_ret
      exact ⟨rfl, B⟩
    obtain ⟨K, hKl, hKe, h1, h2, h3, h4⟩ := limited a b c d lo hi s m l (vs_pv hv) (by omega)
    have hl1 : l.length ≤ 1048576 := pv_le (vs_pv hv)
    have hlh' : lo ≤ hi := by omega
    have p := QBox.freshAt w (w.heap.size) (rfl) a b c d s l.length m 26
    have B := below_alloc (Below.refl _ w) (.cells #[.int .i64 a, .int .i64 b, .int .i64 c, .int .i64 d, .slice s l.length m] 26)
    have lp := (hH).alloc (.cells #[.int .i64 a, .int .i64 b, .int .i64 c, .int .i64 d, .slice s l.length m] 26)
    go_enter Try.func11, Try.ntmps11
    go_wp2_with fail
    refine (vs_r _ _ _ _ _ _ _ _).mono ?_
    rintro e w1 ⟨rfl, hb⟩
    replace p := p.below hb
    replace lp := lp.call hb
    replace B := below_call B hb
    clear hb
    obtain ⟨p0, p1, p2, p3, p4⟩ := p.open
    go_wp2_with fail
    clear p0 p1 p2 p3 p4
    refine (h1 _ lp).mono ?_
    rintro e w2 ⟨s1, m1, rfl, l1, hb⟩
    replace p := p.below hb
    replace lp := lp.call hb
    replace B := below_call B hb
    clear hb
    replace p := p.alloc (.cells #[.int .i64 a, .int .i64 b, .int .i64 c, .int .i64 d, .slice s1 l.length m1] 26)
    replace lp := lp.alloc (.cells #[.int .i64 a, .int .i64 b, .int .i64 c, .int .i64 d, .slice s1 l.length m1] 26)
    replace l1 := l1.alloc (.cells #[.int .i64 a, .int .i64 b, .int .i64 c, .int .i64 d, .slice s1 l.length m1] 26)
    replace B := below_alloc B (.cells #[.int .i64 a, .int .i64 b, .int .i64 c, .int .i64 d, .slice s1 l.length m1] 26)
    have x := QBox.fresh w2 a b c d s1 l.length m1 26
    obtain ⟨x0, x1, x2, x3, x4⟩ := x.open
    go_wp2_with fail
    clear x0 x1 x2 x3 x4
    refine (h2 _ _ _ l1).mono ?_
    rintro e w3 ⟨s2, m2, rfl, l2, hb⟩
    replace p := p.below hb
    replace lp := lp.call hb
    replace l1 := l1.call hb
    replace x := x.below hb
    replace B := below_call B hb
    clear hb
    replace p := p.alloc (.cells #[.int .i64 a, .int .i64 b, .int .i64 c, .int .i64 d, .slice s2 l.length m2] 26)
    replace lp := lp.alloc (.cells #[.int .i64 a, .int .i64 b, .int .i64 c, .int .i64 d, .slice s2 l.length m2] 26)
    replace l1 := l1.alloc (.cells #[.int .i64 a, .int .i64 b, .int .i64 c, .int .i64 d, .slice s2 l.length m2] 26)
    replace x := x.alloc (.cells #[.int .i64 a, .int .i64 b, .int .i64 c, .int .i64 d, .slice s2 l.length m2] 26)
    replace l2 := l2.alloc (.cells #[.int .i64 a, .int .i64 b, .int .i64 c, .int .i64 d, .slice s2 l.length m2] 26)
    replace B := below_alloc B (.cells #[.int .i64 a, .int .i64 b, .int .i64 c, .int .i64 d, .slice s2 l.length m2] 26)
    have y := QBox.fresh w3 a b c d s2 l.length m2 26
    obtain ⟨x0, x1, x2, x3, x4⟩ := x.open
    obtain ⟨y0, y1, y2, y3, y4⟩ := y.open
    go_wp2_with fail
    clear x0 x1 x2 x3 x4 y0 y1 y2 y3 y4
    refine (ps_rt2 a b c d K l.length hKl.symm hl1 _ _ _ _ _ l1 l2).mono ?_
    rintro e w4 ⟨rfl, hb⟩
    replace p := p.below hb
    replace lp := lp.call hb
    replace l1 := l1.call hb
    replace x := x.below hb
    replace l2 := l2.call hb
    replace y := y.below hb
    replace B := below_call B hb
    clear hb
    clear y l2
    obtain ⟨p0, p1, p2, p3, p4⟩ := p.open
    obtain ⟨x0, x1, x2, x3, x4⟩ := x.open
    go_wp2_with fail
    go_loopw [11] (fun i wr => ∃ k : Nat, k ≤ l.length ∧ i = .int .i64 k ∧ wr = w4) (fun i _ => l.length - (intOf i).toNat)
    case atStart => exact ⟨0, Nat.zero_le _, rfl, rfl⟩
    case round =>
      obtain ⟨k, hk, rfl, rfl⟩ := hrel
      by_cases hlt : k < l.length
      · have hltK : k < K.length := by omega
        have hwk : IntKind.i64.wrap ((k : Int) + 1) = (k : Int) + 1 := IntWalk.i64_in _ (by omega)
        have hki : (k : Int) < (l.length : Int) := by omega
        obtain ⟨q1, q2, q3⟩ := hKe k hltK hlt
        have n1 : ¬ K[k] < lo := by omega
        have n2 : ¬ hi < K[k] := by omega
        rcases lp with e0 | ⟨bb, off, rfl, hr⟩
        · rw [e0] at hlt; exact absurd hlt (Nat.not_lt_zero _)
        rcases l1 with e0 | ⟨b1, o1, rfl, hr1⟩
        · rw [e0] at hltK; exact absurd hltK (Nat.not_lt_zero _)
        have y0 := hr k hlt
        have y1 := hr1 k hltK
        clear hr hr1 hKe
        obtain ⟨V, hV⟩ : ∃ V, V = K[k] := ⟨_, rfl⟩
        obtain ⟨U, hU⟩ : ∃ U, U = l[k] := ⟨_, rfl⟩
        rw [← hV] at y1 q1 q2 q3 n1 n2
        rw [← hU] at y0 q3
        clear hV hU
        rcases q3 with ⟨q3, rfl⟩ | ⟨⟨q3, q4⟩, rfl⟩ | ⟨q3, rfl⟩
        · have n3 : ¬ V ≤ U := by omega
          have n4 : ¬ hi < U := by omega
          go_wp2
          go_roundw
          case rel => exact ⟨k + 1, by omega, by go_num, by first | trivial | rfl⟩
          case measure => simp [intOf]; omega
        · go_wp2
          go_roundw
          case rel => exact ⟨k + 1, by omega, by go_num, by first | trivial | rfl⟩
          case measure => simp [intOf]; omega
        · have n3 : ¬ U ≤ V := by omega
          have n4 : ¬ U < lo := by omega
          have n5 : lo ≤ U := by omega
          go_wp2
          go_roundw
          case rel => exact ⟨k + 1, by omega, by go_num, by first | trivial | rfl⟩
          case measure => simp [intOf]; omega
      · obtain rfl : k = l.length := by omega
        clear p0 p1 p2 p3 p4 x0 x1 x2 x3 x4
        by_cases h0 : l.length = 0
        · have H0 : Hid _ := h0
          clear h0
          obtain ⟨p0, p1, p2, p3, p4⟩ := p.open
          obtain ⟨x0, x1, x2, x3, x4⟩ := x.open
          go_wp2_with fail
          clear p0 p1 p2 p3 p4 x0 x1 x2 x3 x4
          refine (lim_no a b c d s m l _ (.inr ⟨vs_pv hv, H0.out⟩)).mono ?_
          rintro e w5 ⟨rfl, hb⟩
          replace p := p.below hb
          replace lp := lp.call hb
          replace l1 := l1.call hb
          replace x := x.below hb
          replace B := below_call B hb
          clear hb
          clear x l1
          have h0i : (l.length : Int) = 0 := by have := H0.out; omega
          have h0b : ((l.length : Int) == 0) = true := by rw [h0i]; rfl
          obtain ⟨p0, p1, p2, p3, p4⟩ := p.open
          go_wp2_with fail
          clear p0 p1 p2 p3 p4
          refine (example02_c _).mono ?_
          rintro e w6 ⟨rfl, hb⟩
          replace p := p.below hb
          replace lp := lp.call hb
          replace B := below_call B hb
          clear hb
          go_wp2
          go_ret
          exact ⟨rfl, B⟩
        · obtain ⟨u, v, hu, hv2, h5⟩ := h3 (by omega)
          obtain ⟨u2, v2, h6, h7⟩ := h4 (by omega)
          have H0 : Hid _ := h0
          clear h0 h3 h4
          obtain ⟨p0, p1, p2, p3, p4⟩ := p.open
          obtain ⟨x0, x1, x2, x3, x4⟩ := x.open
          go_wp2_with fail
          clear p0 p1 p2 p3 p4 x0 x1 x2 x3 x4
          refine (h6 _ lp).mono ?_
          rintro e w5 ⟨rfl, hb⟩
          replace p := p.below hb
          replace lp := lp.call hb
          replace l1 := l1.call hb
          replace x := x.below hb
          replace B := below_call B hb
          clear hb
          obtain ⟨p0, p1, p2, p3, p4⟩ := p.open
          go_wp2_with fail
          clear p0 p1 p2 p3 p4
          refine (h7 _ lp).mono ?_
          rintro e w6 ⟨s5, m5, rfl, l5, hb⟩
          replace p := p.below hb
          replace lp := lp.call hb
          replace l1 := l1.call hb
          replace x := x.below hb
          replace B := below_call B hb
          clear hb
          replace p := p.alloc (.cells #[.int .i64 a, .int .i64 b, .int .i64 c, .int .i64 d, .slice s5 l.length m5] 26)
          replace lp := lp.alloc (.cells #[.int .i64 a, .int .i64 b, .int .i64 c, .int .i64 d, .slice s5 l.length m5] 26)
          replace l1 := l1.alloc (.cells #[.int .i64 a, .int .i64 b, .int .i64 c, .int .i64 d, .slice s5 l.length m5] 26)
          replace x := x.alloc (.cells #[.int .i64 a, .int .i64 b, .int .i64 c, .int .i64 d, .slice s5 l.length m5] 26)
          replace l5 := l5.alloc (.cells #[.int .i64 a, .int .i64 b, .int .i64 c, .int .i64 d, .slice s5 l.length m5] 26)
          replace B := below_alloc B (.cells #[.int .i64 a, .int .i64 b, .int .i64 c, .int .i64 d, .slice s5 l.length m5] 26)
          have z := QBox.fresh w6 a b c d s5 l.length m5 26
          obtain ⟨x0, x1, x2, x3, x4⟩ := x.open
          go_wp2_with fail
          clear x0 x1 x2 x3 x4
          refine (h5 _ _ _ l1).mono ?_
          rintro e w7 ⟨rfl, hb⟩
          replace p := p.below hb
          replace lp := lp.call hb
          replace l1 := l1.call hb
          replace x := x.below hb
          replace l5 := l5.call hb
          replace z := z.below hb
          replace B := below_call B hb
          clear hb
          obtain ⟨z0, z1, z2, z3, z4⟩ := z.open
          obtain ⟨p0, p1, p2, p3, p4⟩ := p.open
          go_wp2_with fail
          clear z0 z1 z2 z3 z4 p0 p1 p2 p3 p4
          refine (ps_rt2 a b c d l l.length rfl hl1 _ _ _ _ _ l5 lp).mono ?_
          rintro e w8 ⟨rfl, hb⟩
          replace p := p.below hb
          replace lp := lp.call hb
          replace l1 := l1.call hb
          replace x := x.below hb
          replace l5 := l5.call hb
          replace z := z.below hb
          replace B := below_call B hb
          clear hb
          go_wp2_with fail
          refine (example02_c _).mono ?_
          rintro e w9 ⟨rfl, hb⟩
          replace p := p.below hb
          replace lp := lp.call hb
          replace l1 := l1.call hb
          replace x := x.below hb
          replace l5 := l5.call hb
          replace z := z.below hb
          replace B := below_call B hb
          clear hb
          go_wp2
          go_ret
          exact ⟨rfl, B⟩
  · have hv' : vsB a b c d l.length = false := by simpa using hv
    have p := QBox.freshAt w (w.heap.size) (rfl) a b c d s l.length m 26
    have B := below_alloc (Below.refl _ w) (.cells #[.int .i64 a, .int .i64 b, .int .i64 c, .int .i64 d, .slice s l.length m] 26)
    have lp := (hH).alloc (.cells #[.int .i64 a, .int .i64 b, .int .i64 c, .int .i64 d, .slice s l.length m] 26)
    go_enter Try.func11, Try.ntmps11
    go_wp2_with fail
    refine (vs_r _ _ _ _ _ _ _ _).mono ?_
    rintro e w1 ⟨rfl, hb⟩
    replace p := p.below hb
    replace lp := lp.call hb
    replace B := below_call B hb
    clear hb
    go_wp2_with fail
    refine (example02_c _).mono ?_
    rintro e w2 ⟨rfl, hb⟩
    replace p := p.below hb
    replace lp := lp.call hb
    replace B := below_call B hb
    clear hb
    go_wp2
    go_ret
    exact ⟨rfl, B⟩

set_option maxRecDepth 100000 in
theorem lifted (os : Os) (started : os.Started) (H : Type) (enc : TypeId × Value → H) :
    ReturnsInHanded {} Try.checked os 11 .any (Rows.planeLimitedSpec.pre6 enc Try.prog Try.f11 Rows.planeLimitedRow.domain false) (Rows.planeLimitedSpec.post enc Try.prog Try.f11 false true false false) := by
  refine returnsInHanded_of_change (C := Try.checked) own started (by kernel_rfl) Try.func11
    (ChangeSpec.witness6 (enc := enc) (C := Try.checked) false ⟨#[], #[.agg #[.int .i64 0, .int .i64 0, .int .i64 0, .int .i64 0, .slice none 0 0], .int .i64 0, .int .i64 0], []⟩ 8 (by kernel_rfl) (by kernel_rfl) (by kernel_rfl) (by kernel_rfl)) ?_
  intro W base args ds gs before hval0 hW _ _
  have hval : ∀ (j : Nat) t v, Try.f11.params[j]? = some t → args[j]? = some v → Value.okWide Try.prog W .any base t v := hval0
  have hW' := hW
  obtain ⟨p, q, hA0, hV, rfl, _, _⟩ := hW
  have hA : DataW.TrodAll enc Try.prog W 0 (fun _ => true) true Try.f11.params.toList args.toList ds p := hA0
  rw [Try.params11] at hA hval
  obtain ⟨v0, vs0, d0, ds0, p0, q0, hargs, rfl, rfl, h0, r0⟩ := trodAll_cons hA
  obtain ⟨v1, vs1, d1, ds1, p1, q1, rfl, rfl, rfl, h1, r1⟩ := trodAll_cons r0
  obtain ⟨v2, vs2, d2, ds2, p2, q2, rfl, rfl, rfl, h2, r2⟩ := trodAll_cons r1
  obtain ⟨rfl, rfl, rfl⟩ := trodAll_nil r2
  obtain rfl : args = #[v0, v1, v2] := by cases args; simp_all
  obtain ⟨rfl, rfl⟩ := trodVars_none hV
  clear hA0 hval0
  simp only [List.append_nil] at hW'
  have l0 : ∀ x ∈ p0, x.block < W.heap.size := fun x hx => hW'.lt x (by simp [hx])
  have l1 : ∀ x ∈ p1, x.block < W.heap.size := fun x hx => hW'.lt x (by simp [hx])
  have l2 : ∀ x ∈ p2, x.block < W.heap.size := fun x hx => hW'.lt x (by simp [hx])
  obtain ⟨a, b, c, d, s, l, m, rfl, hH0, hm0, hx0, hn0⟩ := open_plane (hval 0 26 v0 rfl rfl) h0
  obtain ⟨lo, rfl, _, _, wlo⟩ := open_int Try.underlying3 (hval 1 3 v1 rfl rfl) h1
  obtain ⟨hi, rfl, _, _, whi⟩ := open_int Try.underlying3 (hval 2 3 v2 rfl rfl) h2
  refine (walk a b c d lo hi s l m W hH0).mono fun e W' ⟨he, hb⟩ => ?_
  subst he
  exact ⟨_, rfl, post_low (pa := p0 ++ (p1 ++ (p2 ++ ([])))) (pv := []) hW' (fun _ _ _ => (trodAll_cons_mk (shut_bool Try.underlying4 _) trodAll_mk0)) (fun sp hsp => (trodAll_cons_mk (trod_low laidOut (by kernel_rfl) (of_decide_eq_true (by kernel_rfl)) h0 hb l0 (fun x hx => hsp x (by simp [hx]))) (trodAll_cons_mk (trod_low laidOut (by kernel_rfl) (of_decide_eq_true (by kernel_rfl)) h1 hb l1 (fun x hx => hsp x (by simp [hx]))) (trodAll_cons_mk (trod_low laidOut (by kernel_rfl) (of_decide_eq_true (by kernel_rfl)) h2 hb l2 (fun x hx => hsp x (by simp [hx]))) trodAll_mk0)))) (fun _ _ => rfl) (by simp) hb (ok_one (by kernel_rfl) rfl (okWide_bool_mk Try.underlying4 _))⟩

theorem over : Rows.planeLimitedRow.holds Try.pinned (OpenSpec.ofChange Rows.planeLimitedSpec) :=
  OpenClaim.holds_of_wide 11 Try.f11 rfl rfl rfl rfl rfl rfl rfl ⟨rfl, rfl, rfl, rfl, rfl⟩ rfl rfl rfl rfl rfl (by kernel_rfl) Try.func11 (by kernel_rfl)
    (of_decide_eq_true (by kernel_rfl)) (by unfold Func.isWrapper; first | (rw [if_pos (by decide +kernel)]; kernel_rfl) | (rw [if_neg (by decide +kernel)]; exact ⟨rfl, rfl⟩))
    (fun os started H enc _ => lifted os started H enc)

theorem proved : Rows.PlaneLimitedSaid :=
  over
#print axioms proved
end Go.Proofs.Ytamkipdalegioaa.planeLimited
