/-
  For all arguments the statement TagtreeMixes returns true; they read afterwards as before.
  Conditions: none beyond those of the given statement.
-/
import Derived.Test.YtlhncjdghpggiaaTj
import Derived.Test.YtlhncjdghpggiaaUa
set_option maxRecDepth 100000
namespace Go.Proofs.Ytlhncjdghpggiaa.tagtreeMixes
open Go.ChangeShapes Go.WideShapes Go.ChangeAt Go.RowKit Go.Joins Go.Deep

set_option maxHeartbeats 16000000 in
theorem yes (a b : Nat) (hok : okN (a : Int) (b : Int)) (ha : a ≤ 64) (hb64 : b ≤ 64) (x y : Int) (z : Bool) (W : World) : Calls Try.prog 13 #[.int .i64 (a : Int), .int .i64 (b : Int), .int .i64 x, .int .i64 y, .bool z] W fun e w' => e = .returned (.bool true) ∧ Below W.heap.size W w' := by
  have n1 := fun X => tnew_yes a b hok X
  have hab : 1 ≤ a ∧ 1 ≤ b := by unfold okN at hok; omega
  have HAB := Lib.hid hab
  have c1 : ¬ (64 : Int) < (a : Int) := by omega
  have c2 : ¬ (64 : Int) < (b : Int) := by omega
  clear hok ha hb64 hab
  by_cases hin : inT a b x y
  · obtain ⟨i1, i2, i3, i4⟩ := id hin
    have HIN := Lib.hid hin
    have g1 : (0 : Int) ≤ x := i1
    clear hin
    go_enter Try.func13, Try.ntmps13
    go_wp2_with fail
    refine (n1 W).mono ?_
    rintro e w1 ⟨rfl, hT, hb⟩
    obtain ⟨D, hD⟩ : ∃ D, D = dep a b := ⟨_, rfl⟩
    rw [← hD] at hT
    have B1 := Lib.hid hb
    have T1 : Hid (Tr w1 W.heap.size (W.heap.size + 1) W.heap.size (fun i => W.heap.size + 2 + i) a b D 0 (mkQ a b xf0 xl0 xb0)) := Lib.hid hT
    obtain ⟨A, hA⟩ : ∃ A, A = W.heap.size + 1 := ⟨_, rfl⟩
    obtain ⟨nd, hnd⟩ : ∃ nd, nd = (fun i => W.heap.size + 2 + i) := ⟨_, rfl⟩
    obtain ⟨L, hL⟩ : ∃ L, L = W.heap.size := ⟨_, rfl⟩
    have T1' : Hid (Tr w1 W.heap.size A L nd a b D 0 (mkQ a b xf0 xl0 xb0)) := by rw [hA, hnd, hL]; exact T1
    rw [← hA]
    clear hT hb n1 hD T1 hnd hL hA
    have dn := decN T1'.out x y 0
    go_wp2_with fail
    refine dn.mono ?_
    rintro e w2 ⟨rfl, hb⟩
    have T2 := Lib.hid (T1'.out.below hb)
    have B2 := Lib.hid (below_call B1.out hb)
    have en := encN T2.out x y 0
    clear hb dn T1' B1
    go_wp2_with fail
    refine en.mono ?_
    rintro e w3 ⟨rfl, hb⟩
    have T3 := Lib.hid (T2.out.below hb)
    have B3 := Lib.hid (below_call B2.out hb)
    clear hb en T2 B2
    go_wp2_with fail
    refine (new_c _).mono ?_
    rintro e w4 ⟨ra, rfl, hW, hb⟩
    have S4 : Hid (Tw W A L ra nd a b D 0 (mkQ a b xf0 xl0 xb0) [] w4) := ⟨T3.out.below hb, hW.low B3.out.size, Bi.bits_nil, below_call B3.out hb⟩
    have rn := rnew_none w4
    clear hW hb T3 B3
    go_wp2_with fail
    refine rn.mono ?_
    rintro e w5 ⟨r, rfl, hR, hb⟩
    have H5 := Lib.hid (Th3.start S4.out hR hb)
    clear hR hb rn S4
    have OK := Lib.hid (show okT a b x y 0 65536 from ⟨HIN.out, by omega, by omega⟩)
    cases z with
    | true =>
      have en := encode_c H5.out.tw.tr H5.out.tw.wr H5.out.tw.bits (by simp) x y 0
      rw [show enE a b 0 x y 0 = 0 by unfold enE; rw [if_neg (by omega), if_pos OK.out], show enU a b 0 x y 0 = 1 by unfold enU; rw [if_neg (fun c => c.elim (by omega) (fun d => d OK.out))]] at en
      generalize enS (mkQ a b xf0 xl0 xb0) a b D 0 [] x y 0 = s1 at *
      generalize enQ (mkQ a b xf0 xl0 xb0) a b D 0 [] x y 0 = Q1 at *
      go_wp2_with fail
      refine en.mono ?_
      rintro e w6 ⟨rfl, hE⟩
      have S6 := Lib.hid (H5.out.enc hE)
      have de := decode_c S6.out.1.tr S6.out.2 (Nat.zero_le _) (fun x hx => by simp at hx) (by simp) x y 0
      have he : deE [] Q1 a b D 1 0 x y 0 = 6 := by unfold deE; rw [if_pos rfl]
      have hd : deB [] Q1 a b D 1 0 x y 0 = false := by unfold deB; rw [he, if_neg (by decide)]
      have hu : deU [] Q1 a b D 1 0 x y 0 = 1 := by unfold deU; rw [he, if_neg (by decide)]
      rw [he, hd, hu] at de
      generalize deQ [] Q1 a b D 1 0 x y 0 = Q2 at *
      generalize deT [] Q1 a b D 1 0 x y 0 = t2 at *
      clear en hE he hd hu H5
      go_wp2_with fail
      refine de.mono ?_
      rintro e w7 ⟨rfl, hE⟩
      have T7 := Lib.hid hE.tr
      have B7 := Lib.hid (S6.out.1.below.trans (hE.kf.below (fun k hk => hk.elim (fun hf => (S6.out.2.foot k hf).1) (fun ht => (S6.out.1.tr.foot k ht).1)) S6.out.1.below.size))
      have st := set_st T7.out (by omega) x y 1
      clear de hE S6
      go_wp2_with (first | (go_at_call 43; (with_reducible refine st.mono ?_); rintro e wn ⟨rfl, rfl⟩))
      refine (ex10_c _).mono ?_
      rintro e wz ⟨rfl, hb⟩
      have BZ := Lib.hid (below_call B7.out hb)
      clear hb
      go_wp2_with fail
      go_ret
      exact ⟨rfl, BZ.out⟩
    | false =>
      have de := decode_c H5.out.tw.tr H5.out.rd (Nat.zero_le _) (fun x hx => by simp at hx) (by simp) x y 0
      obtain ⟨z1, z2, z3⟩ := de_zero (bs := []) (f := xf0) (D := D) HIN.out
      rw [z1, z2, z3] at de
      generalize deQ [] (mkQ a b xf0 xl0 xb0) a b D 0 0 x y 0 = Q2 at *
      generalize deT [] (mkQ a b xf0 xl0 xb0) a b D 0 0 x y 0 = t2 at *
      clear z1 z2 z3
      go_wp2_with fail
      refine de.mono ?_
      rintro e w6 ⟨rfl, hE⟩
      have S6 := Lib.hid (H5.out.dec hE)
      have en := encode_c S6.out.1.tr S6.out.1.wr S6.out.1.bits (by simp) x y 0
      rw [show enE a b 2 x y 0 = 6 by unfold enE; rw [if_pos rfl], show enU a b 2 x y 0 = 2 by unfold enU; rw [if_pos (.inl rfl)]] at en
      generalize enS Q2 a b D 2 [] x y 0 = s1 at *
      generalize enQ Q2 a b D 2 [] x y 0 = Q1 at *
      clear de hE H5
      go_wp2_with fail
      refine en.mono ?_
      rintro e w7 ⟨rfl, hE⟩
      have S7 := Lib.hid (S6.out.1.enc hE).1
      have B7 := Lib.hid S7.out.below
      have st := set_st S7.out.tr (by omega) x y 1
      clear en hE S6
      go_wp2_with (first | (go_at_call 43; (with_reducible refine st.mono ?_); rintro e wn ⟨rfl, rfl⟩))
      refine (ex10_c _).mono ?_
      rintro e wz ⟨rfl, hb⟩
      have BZ := Lib.hid (below_call B7.out hb)
      clear hb
      go_wp2_with fail
      go_ret
      exact ⟨rfl, BZ.out⟩
  · have HIN := Lib.hid hin
    have hcs : ¬ 0 ≤ x ∨ (0 ≤ x ∧ ¬ x < a) ∨ (0 ≤ x ∧ x < a ∧ ¬ 0 ≤ y) ∨ (0 ≤ x ∧ x < a ∧ 0 ≤ y ∧ decide (y < (b : Int)) = false) := by unfold inT at hin; rw [decide_eq_false_iff_not]; omega
    clear hin
    go_enter Try.func13, Try.ntmps13
    go_wp2_with fail
    refine (n1 W).mono ?_
    rintro e w1 ⟨rfl, hT, hb⟩
    obtain ⟨D, hD⟩ : ∃ D, D = dep a b := ⟨_, rfl⟩
    rw [← hD] at hT
    have B1 := Lib.hid hb
    have T1 : Hid (Tr w1 W.heap.size (W.heap.size + 1) W.heap.size (fun i => W.heap.size + 2 + i) a b D 0 (mkQ a b xf0 xl0 xb0)) := Lib.hid hT
    obtain ⟨A, hA⟩ : ∃ A, A = W.heap.size + 1 := ⟨_, rfl⟩
    obtain ⟨nd, hnd⟩ : ∃ nd, nd = (fun i => W.heap.size + 2 + i) := ⟨_, rfl⟩
    obtain ⟨L, hL⟩ : ∃ L, L = W.heap.size := ⟨_, rfl⟩
    have T1' : Hid (Tr w1 W.heap.size A L nd a b D 0 (mkQ a b xf0 xl0 xb0)) := by rw [hA, hnd, hL]; exact T1
    rw [← hA]
    clear hT hb n1 hD T1 hnd hL hA
    have dn := decN T1'.out x y 0
    go_wp2_with fail
    refine dn.mono ?_
    rintro e w2 ⟨rfl, hb⟩
    have T2 := Lib.hid (T1'.out.below hb)
    have B2 := Lib.hid (below_call B1.out hb)
    have en := encN T2.out x y 0
    clear hb dn T1' B1
    go_wp2_with fail
    refine en.mono ?_
    rintro e w3 ⟨rfl, hb⟩
    have T3 := Lib.hid (T2.out.below hb)
    have B3 := Lib.hid (below_call B2.out hb)
    clear hb en T2 B2
    go_wp2_with fail
    refine (new_c _).mono ?_
    rintro e w4 ⟨ra, rfl, hW, hb⟩
    have S4 : Hid (Tw W A L ra nd a b D 0 (mkQ a b xf0 xl0 xb0) [] w4) := ⟨T3.out.below hb, hW.low B3.out.size, Bi.bits_nil, below_call B3.out hb⟩
    have rn := rnew_none w4
    clear hW hb T3 B3
    go_wp2_with fail
    refine rn.mono ?_
    rintro e w5 ⟨r, rfl, hR, hb⟩
    have H5 := Lib.hid (Th3.start S4.out hR hb)
    clear hR hb rn S4
    have NOK := Lib.hid (show ¬ okT a b x y 0 65536 from fun c => HIN.out c.1)
    have de := decode_c H5.out.tw.tr H5.out.rd (Nat.zero_le _) (fun x hx => by simp at hx) (by simp) x y 0
    have he : deE [] (mkQ a b xf0 xl0 xb0) a b D 0 0 x y 0 = 2 := by unfold deE; rw [if_neg (by omega), if_neg NOK.out]
    have hd : deB [] (mkQ a b xf0 xl0 xb0) a b D 0 0 x y 0 = false := by unfold deB; rw [he, if_neg (by decide)]
    have hu : deU [] (mkQ a b xf0 xl0 xb0) a b D 0 0 x y 0 = 0 := by unfold deU; rw [he, if_neg (by decide)]
    have hq : deQ [] (mkQ a b xf0 xl0 xb0) a b D 0 0 x y 0 = mkQ a b xf0 xl0 xb0 := by unfold deQ; rw [he, if_neg (by decide)]
    rw [he, hd, hu, hq] at de
    generalize deT [] (mkQ a b xf0 xl0 xb0) a b D 0 0 x y 0 = t2 at *
    clear he hd hu hq
    have rest : ∀ (P : Prop), P → P := fun _ h => h
    clear rest
    rcases hcs with p1 | ⟨p1, p2⟩ | ⟨p1, p2, p3⟩ | ⟨p1, p2, p3, p4⟩ <;>
     (go_wp2_with fail
      refine de.mono ?_
      rintro e w6 ⟨rfl, hE⟩
      have S6 := Lib.hid (H5.out.dec hE)
      have en := encode_c S6.out.1.tr S6.out.1.wr S6.out.1.bits (by simp) x y 0
      rw [show enE a b 0 x y 0 = 2 by unfold enE; rw [if_neg (by omega), if_neg NOK.out], show enU a b 0 x y 0 = 0 by unfold enU; rw [if_pos (.inr NOK.out)], show enQ (mkQ a b xf0 xl0 xb0) a b D 0 [] x y 0 = mkQ a b xf0 xl0 xb0 by unfold enQ; rw [if_pos (.inr NOK.out)]] at en
      generalize enS (mkQ a b xf0 xl0 xb0) a b D 0 [] x y 0 = s1 at *
      clear hE
      go_wp2_with fail
      refine en.mono ?_
      rintro e w7 ⟨rfl, hE⟩
      have S7 := Lib.hid (S6.out.1.enc hE).1
      have st := set_c S7.out.tr 0 0 3
      rw [show stE 0 a b 0 0 3 = 0 by unfold stE; rw [if_neg (by omega), if_pos (by have := HAB.out; exact ⟨⟨by omega, by omega, by omega, by omega⟩, by omega, by omega⟩)]] at st
      clear hE
      go_wp2_with fail
      refine st.mono ?_
      rintro e w8 ⟨rfl, hT, hk⟩
      have B8 := Lib.hid (S7.out.set hT hk).below
      clear hT hk
      go_wp2_with fail
      refine (ex10_c _).mono ?_
      rintro e wz ⟨rfl, hb⟩
      have BZ := Lib.hid (below_call B8.out hb)
      clear hb
      go_wp2_with fail
      go_ret
      exact ⟨rfl, BZ.out⟩)
theorem walk (w h x y : Int) (z : Bool) (W : World) : Calls Try.prog 13 #[.int .i64 w, .int .i64 h, .int .i64 x, .int .i64 y, .bool z] W fun e w' => e = .returned (.bool true) ∧ Below W.heap.size W w' := by
  have hcs : 64 < w ∨ (w ≤ 64 ∧ 64 < h) ∨ (w ≤ 64 ∧ h ≤ 64) := by omega
  rcases hcs with p1 | ⟨p1, p2⟩ | ⟨p1, p2⟩
  · have B0 := Lib.hid (Below.refl W.heap.size W)
    go_enter Try.func13, Try.ntmps13
    go_wp2_with fail
    refine (ex10_c _).mono ?_
    rintro e wz ⟨rfl, hb⟩
    have BZ := Lib.hid (below_call B0.out hb)
    clear hb
    go_wp2_with fail
    go_ret
    exact ⟨rfl, BZ.out⟩
  · have B0 := Lib.hid (Below.refl W.heap.size W)
    go_enter Try.func13, Try.ntmps13
    go_wp2_with fail
    refine (ex10_c _).mono ?_
    rintro e wz ⟨rfl, hb⟩
    have BZ := Lib.hid (below_call B0.out hb)
    clear hb
    go_wp2_with fail
    go_ret
    exact ⟨rfl, BZ.out⟩
  · by_cases hok : okN w h
    · obtain ⟨a, rfl⟩ : ∃ n : Nat, w = n := ⟨w.toNat, by unfold okN at hok; omega⟩
      obtain ⟨b, rfl⟩ : ∃ n : Nat, h = n := ⟨h.toNat, by unfold okN at hok; omega⟩
      exact yes a b hok (by omega) (by omega) x y z W
    · have n1 := tnew_no w h hok
      have hne := chE_ne hok
      generalize chE w h = ce at *
      have c1 : ¬ (64 : Int) < w := by omega
      have c2 : ¬ (64 : Int) < h := by omega
      have B0 := Lib.hid (Below.refl W.heap.size W)
      clear hok
      go_enter Try.func13, Try.ntmps13
      go_wp2_with (first | (go_at_call 37; (with_reducible refine (n1 _).mono ?_); rintro e wn ⟨rfl, rfl⟩))
      refine (ex10_c _).mono ?_
      rintro e wz ⟨rfl, hb⟩
      have BZ := Lib.hid (below_call B0.out hb)
      clear hb
      go_wp2_with fail
      go_ret
      exact ⟨rfl, BZ.out⟩


set_option maxRecDepth 100000 in
theorem lifted (os : Os) (started : os.Started) (H : Type) (enc : TypeId × Value → H) :
    ReturnsInHanded {} Try.checked os 13 .any (Rows.tagtreeMixesSpec.pre6 enc Try.prog Try.f13 Rows.tagtreeMixesRow.domain false) (Rows.tagtreeMixesSpec.post enc Try.prog Try.f13 false true false false) := by
  refine returnsInHanded_of_change (C := Try.checked) own started (by kernel_rfl) Try.func13
    (ChangeSpec.witness6 (enc := enc) (C := Try.checked) false ⟨#[], #[.int .i64 0, .int .i64 0, .int .i64 0, .int .i64 0, .bool false], []⟩ 8 (by kernel_rfl) (by kernel_rfl) (by kernel_rfl) (by kernel_rfl)) ?_
  intro W base args ds gs before hval0 hW _ _
  have hval : ∀ (j : Nat) t v, Try.f13.params[j]? = some t → args[j]? = some v → Value.okWide Try.prog W .any base t v := hval0
  have hW' := hW
  obtain ⟨p, q, hA0, hV, rfl, _, _⟩ := hW
  have hA : DataW.TrodAll enc Try.prog W 0 (fun _ => true) true Try.f13.params.toList args.toList ds p := hA0
  rw [Try.params13] at hA hval
  obtain ⟨v0, vs0, d0, ds0, p0, q0, hargs, rfl, rfl, h0, r0⟩ := trodAll_cons hA
  obtain ⟨v1, vs1, d1, ds1, p1, q1, rfl, rfl, rfl, h1, r1⟩ := trodAll_cons r0
  obtain ⟨v2, vs2, d2, ds2, p2, q2, rfl, rfl, rfl, h2, r2⟩ := trodAll_cons r1
  obtain ⟨v3, vs3, d3, ds3, p3, q3, rfl, rfl, rfl, h3, r3⟩ := trodAll_cons r2
  obtain ⟨v4, vs4, d4, ds4, p4, q4, rfl, rfl, rfl, h4, r4⟩ := trodAll_cons r3
  obtain ⟨rfl, rfl, rfl⟩ := trodAll_nil r4
  obtain rfl : args = #[v0, v1, v2, v3, v4] := by cases args; simp_all
  obtain ⟨rfl, rfl⟩ := trodVars_none hV
  clear hA0 hval0
  simp only [List.append_nil] at hW'
  have l0 : ∀ x ∈ p0, x.block < W.heap.size := fun x hx => hW'.lt x (by simp [hx])
  have l1 : ∀ x ∈ p1, x.block < W.heap.size := fun x hx => hW'.lt x (by simp [hx])
  have l2 : ∀ x ∈ p2, x.block < W.heap.size := fun x hx => hW'.lt x (by simp [hx])
  have l3 : ∀ x ∈ p3, x.block < W.heap.size := fun x hx => hW'.lt x (by simp [hx])
  have l4 : ∀ x ∈ p4, x.block < W.heap.size := fun x hx => hW'.lt x (by simp [hx])
  obtain ⟨i0, rfl, _, _, wi0⟩ := open_int Try.underlying3 (hval 0 3 v0 rfl rfl) h0
  obtain ⟨i1, rfl, _, _, wi1⟩ := open_int Try.underlying3 (hval 1 3 v1 rfl rfl) h1
  obtain ⟨i2, rfl, _, _, wi2⟩ := open_int Try.underlying3 (hval 2 3 v2 rfl rfl) h2
  obtain ⟨i3, rfl, _, _, wi3⟩ := open_int Try.underlying3 (hval 3 3 v3 rfl rfl) h3
  obtain ⟨z4, rfl, _⟩ := open_bool Try.underlying4 (hval 4 4 v4 rfl rfl) h4
  refine (walk i0 i1 i2 i3 z4 W).mono fun e W' ⟨he, hb⟩ => ?_
  subst he
  exact ⟨_, rfl, post_low (pa := p0 ++ (p1 ++ (p2 ++ (p3 ++ (p4 ++ ([])))))) (pv := []) hW' (fun _ _ _ => (trodAll_cons_mk (shut_bool Try.underlying4 _) trodAll_mk0)) (fun sp hsp => (trodAll_cons_mk (trod_low laidOut (by kernel_rfl) (of_decide_eq_true (by kernel_rfl)) h0 hb l0 (fun x hx => hsp x (by simp [hx]))) (trodAll_cons_mk (trod_low laidOut (by kernel_rfl) (of_decide_eq_true (by kernel_rfl)) h1 hb l1 (fun x hx => hsp x (by simp [hx]))) (trodAll_cons_mk (trod_low laidOut (by kernel_rfl) (of_decide_eq_true (by kernel_rfl)) h2 hb l2 (fun x hx => hsp x (by simp [hx]))) (trodAll_cons_mk (trod_low laidOut (by kernel_rfl) (of_decide_eq_true (by kernel_rfl)) h3 hb l3 (fun x hx => hsp x (by simp [hx]))) (trodAll_cons_mk (trod_low laidOut (by kernel_rfl) (of_decide_eq_true (by kernel_rfl)) h4 hb l4 (fun x hx => hsp x (by simp [hx]))) trodAll_mk0)))))) (fun _ _ => rfl) (by simp) hb (ok_one (by kernel_rfl) rfl (okWide_bool_mk Try.underlying4 _))⟩

theorem over : Rows.tagtreeMixesRow.holds Try.pinned (OpenSpec.ofChange Rows.tagtreeMixesSpec) :=
  OpenClaim.holds_of_wide 13 Try.f13 rfl rfl rfl rfl rfl rfl rfl ⟨rfl, rfl, rfl, rfl, rfl⟩ rfl rfl rfl rfl rfl (by kernel_rfl) Try.func13 (by kernel_rfl)
    (of_decide_eq_true (by kernel_rfl)) (by unfold Func.isWrapper; first | (rw [if_pos (by decide +kernel)]; kernel_rfl) | (rw [if_neg (by decide +kernel)]; exact ⟨rfl, rfl⟩))
    (fun os started H enc _ => lifted os started H enc)

theorem proved : Rows.TagtreeMixesSaid :=
  over
#print axioms proved
end Go.Proofs.Ytlhncjdghpggiaa.tagtreeMixes
