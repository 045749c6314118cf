/-
  For all pairs of lists, integers start, kernels k, indices at and numbers to the statement LiftReaches returns true (arguments that it doesn't take are left alone), and its arguments read afterwards as before.
  Conditions: none beyond those of the given statement.
-/
import Derived.Test.YtpobmmdjcfdfoaaFrameB
namespace Go.Proofs.Ytpobmmdjcfdfoaa.liftReaches
open Go.ChangeShapes Go.WideShapes Go.ChangeAt Go.RowKit Go.Joins Go.Deep

set_option maxRecDepth 100000 in
set_option maxHeartbeats 2000000 in
theorem walk (l k : List Int) (st kn p q : Int) (s t : Option Addr) (m m' : Nat) (hm : l.length ≤ m) (hm' : k.length ≤ m') (w : World) (hH : HoldsI w s l) (hK : HoldsI w t k) :
    Calls Try.prog 16 #[.agg #[.slice s l.length m, .slice t k.length m', .int .i64 st, .int .i64 kn], .int .i64 p, .int .i64 q] w fun e w' => e = .returned (.bool true) ∧ Below w.heap.size w w' := by
  by_cases hf : (100 : Int) < (l.length : Int)
  · have b := Bb.fresh w s t l.length m k.length m' st kn
    have lx := hH.alloc (.cells #[.slice s l.length m, .slice t k.length m', .int .i64 st, .int .i64 kn] 44)
    have ly := hK.alloc (.cells #[.slice s l.length m, .slice t k.length m', .int .i64 st, .int .i64 kn] 44)
    have B := below_alloc (Below.refl _ w) (.cells #[.slice s l.length m, .slice t k.length m', .int .i64 st, .int .i64 kn] 44)
    go_enter Try.func16, Try.ntmps16
    obtain ⟨b0, b1, b2, b3⟩ := b.open
    go_wp2_with fail
    clear b0 b1 b2 b3
    refine (example04_c _).mono ?_
    rintro e w1 ⟨rfl, hb⟩
    replace b := b.below hb
    replace lx := lx.call hb
    replace ly := ly.call hb
    replace B := below_call B hb
    clear hb
    go_wp2
    go_ret
    exact ⟨rfl, B⟩
  · by_cases hg : (100 : Int) < (k.length : Int)
    · have b := Bb.fresh w s t l.length m k.length m' st kn
      have lx := hH.alloc (.cells #[.slice s l.length m, .slice t k.length m', .int .i64 st, .int .i64 kn] 44)
      have ly := hK.alloc (.cells #[.slice s l.length m, .slice t k.length m', .int .i64 st, .int .i64 kn] 44)
      have B := below_alloc (Below.refl _ w) (.cells #[.slice s l.length m, .slice t k.length m', .int .i64 st, .int .i64 kn] 44)
      go_enter Try.func16, Try.ntmps16
      obtain ⟨b0, b1, b2, b3⟩ := b.open
      go_wp2_with fail
      clear b0 b1 b2 b3
      refine (example04_c _).mono ?_
      rintro e w1 ⟨rfl, hb⟩
      replace b := b.below hb
      replace lx := lx.call hb
      replace ly := ly.call hb
      replace B := below_call B hb
      clear hb
      go_wp2
      go_ret
      exact ⟨rfl, B⟩
    · obtain ⟨n, hn⟩ : ∃ n, l.length + k.length = n := ⟨_, rfl⟩
      have wn : IntKind.i64.wrap ((l.length : Int) + (k.length : Int)) = (n : Int) := by rw [IntWalk.i64_in _ (by omega)]; omega
      by_cases h1 : p < 0
      · have b := Bb.fresh w s t l.length m k.length m' st kn
        have lx := hH.alloc (.cells #[.slice s l.length m, .slice t k.length m', .int .i64 st, .int .i64 kn] 44)
        have ly := hK.alloc (.cells #[.slice s l.length m, .slice t k.length m', .int .i64 st, .int .i64 kn] 44)
        have B := below_alloc (Below.refl _ w) (.cells #[.slice s l.length m, .slice t k.length m', .int .i64 st, .int .i64 kn] 44)
        go_enter Try.func16, Try.ntmps16
        obtain ⟨b0, b1, b2, b3⟩ := b.open
        go_wp2_with fail
        clear b0 b1 b2 b3
        refine (example04_c _).mono ?_
        rintro e w1 ⟨rfl, hb⟩
        replace b := b.below hb
        replace lx := lx.call hb
        replace ly := ly.call hb
        replace B := below_call B hb
        clear hb
        go_wp2
        go_ret
        exact ⟨rfl, B⟩
      · by_cases h2 : (n : Int) ≤ p
        · have b := Bb.fresh w s t l.length m k.length m' st kn
          have lx := hH.alloc (.cells #[.slice s l.length m, .slice t k.length m', .int .i64 st, .int .i64 kn] 44)
          have ly := hK.alloc (.cells #[.slice s l.length m, .slice t k.length m', .int .i64 st, .int .i64 kn] 44)
          have B := below_alloc (Below.refl _ w) (.cells #[.slice s l.length m, .slice t k.length m', .int .i64 st, .int .i64 kn] 44)
          go_enter Try.func16, Try.ntmps16
          obtain ⟨b0, b1, b2, b3⟩ := b.open
          go_wp2_with fail
          clear b0 b1 b2 b3
          refine (example04_c _).mono ?_
          rintro e w1 ⟨rfl, hb⟩
          replace b := b.below hb
          replace lx := lx.call hb
          replace ly := ly.call hb
          replace B := below_call B hb
          clear hb
          go_wp2
          go_ret
          exact ⟨rfl, B⟩
        · by_cases h3 : 281474976710656 < q
          · have b := Bb.fresh w s t l.length m k.length m' st kn
            have lx := hH.alloc (.cells #[.slice s l.length m, .slice t k.length m', .int .i64 st, .int .i64 kn] 44)
            have ly := hK.alloc (.cells #[.slice s l.length m, .slice t k.length m', .int .i64 st, .int .i64 kn] 44)
            have B := below_alloc (Below.refl _ w) (.cells #[.slice s l.length m, .slice t k.length m', .int .i64 st, .int .i64 kn] 44)
            go_enter Try.func16, Try.ntmps16
            obtain ⟨b0, b1, b2, b3⟩ := b.open
            go_wp2_with fail
            clear b0 b1 b2 b3
            refine (example04_c _).mono ?_
            rintro e w1 ⟨rfl, hb⟩
            replace b := b.below hb
            replace lx := lx.call hb
            replace ly := ly.call hb
            replace B := below_call B hb
            clear hb
            go_wp2
            go_ret
            exact ⟨rfl, B⟩
          · by_cases h4 : q < -281474976710656
            · have b := Bb.fresh w s t l.length m k.length m' st kn
              have lx := hH.alloc (.cells #[.slice s l.length m, .slice t k.length m', .int .i64 st, .int .i64 kn] 44)
              have ly := hK.alloc (.cells #[.slice s l.length m, .slice t k.length m', .int .i64 st, .int .i64 kn] 44)
              have B := below_alloc (Below.refl _ w) (.cells #[.slice s l.length m, .slice t k.length m', .int .i64 st, .int .i64 kn] 44)
              go_enter Try.func16, Try.ntmps16
              obtain ⟨b0, b1, b2, b3⟩ := b.open
              go_wp2_with fail
              clear b0 b1 b2 b3
              refine (example04_c _).mono ?_
              rintro e w1 ⟨rfl, hb⟩
              replace b := b.below hb
              replace lx := lx.call hb
              replace ly := ly.call hb
              replace B := below_call B hb
              clear hb
              go_wp2
              go_ret
              exact ⟨rfl, B⟩
            · obtain ⟨kp, rfl⟩ : ∃ kp : Nat, p = (kp : Int) := ⟨p.toNat, by omega⟩
              have hkp : kp < n := by omega
              rcases inv_cases l k st kn s t m m' (by omega) (by omega) with ⟨E, hE, hc0⟩ | ⟨hkn, hh, f1, f2, hc⟩
              · have e1 : (E == 0) = false := by rw [beq_eq_false_iff_ne]; exact hE
                have e2 : (E != 0) = true := by simp [hE]
                have e3 : decide (E = 0) = false := by rw [decide_eq_false_iff_not]; exact hE
                clear hE
                have b := Bb.fresh w s t l.length m k.length m' st kn
                have lx := hH.alloc (.cells #[.slice s l.length m, .slice t k.length m', .int .i64 st, .int .i64 kn] 44)
                have ly := hK.alloc (.cells #[.slice s l.length m, .slice t k.length m', .int .i64 st, .int .i64 kn] 44)
                have B := below_alloc (Below.refl _ w) (.cells #[.slice s l.length m, .slice t k.length m', .int .i64 st, .int .i64 kn] 44)
                go_enter Try.func16, Try.ntmps16
                obtain ⟨b0, b1, b2, b3⟩ := b.open
                go_wp2_with fail
                clear b0 b1 b2 b3
                refine (hc0 _ lx ly).mono ?_
                rintro e w1 ⟨s1, m1, rfl, _, hb, _⟩
                replace b := b.below hb
                replace lx := lx.call hb
                replace ly := ly.call hb
                replace B := below_call B hb
                clear hb
                go_wp2_with fail
                refine (example04_c _).mono ?_
                rintro e w2 ⟨rfl, hb⟩
                replace b := b.below hb
                replace lx := lx.call hb
                replace ly := ly.call hb
                replace B := below_call B hb
                clear hb
                go_wp2
                go_ret
                exact ⟨rfl, B⟩
              · have hkk := k_iff.1 hkn
                obtain ⟨hs0, hs4, hs5⟩ := jn_iff.1 hh
                have ci := fun (w : World) (a : HoldsI w s l) (b : HoldsI w t k) => inv_cyes l k st kn s t m m' w hkn hh f1 f2 hc hm hm' a b
                have hYl : (Ex.joinL st l k).length = n := by rw [Ex.joinL_len]; exact hn
                have hYw := joinL_within (st := st) (show (0 : Int) ≤ 1125899906842624 by decide) (few_iff.1 f1) (few_iff.1 f2)
                have hSl : ((Ex.joinL st l k).set kp q).length = n := by rw [List.length_set]; exact hYl
                have hSw : Ex.within 1125899906842624 ((Ex.joinL st l k).set kp q) := fun v hv => by
                  rcases List.mem_or_eq_of_mem_set hv with h | h
                  · exact hYw v h
                  · rw [h]; omega
                have hsp : spB st ((Ex.joinL st l k).set kp q).length = true := sp_iff.2 ⟨hs0, hs4, by omega⟩
                obtain ⟨j1, j2⟩ := jn_split hsp
                have cs := fun (w : World) (g mg : Nat) (a : HoldsI w (some ⟨g, 0, none⟩) ((Ex.joinL st l k).set kp q)) => split_n ((Ex.joinL st l k).set kp q) n hSl.symm st (some ⟨g, 0, none⟩) mg w hsp a
                have cz := fun (s : Option Addr) (t : Option Addr) (m m' : Nat) (q1 : (Ex.splitE st ((Ex.joinL st l k).set kp q)).length ≤ m) (q2 : (Ex.splitO st ((Ex.joinL st l k).set kp q)).length ≤ m') (w : World) (a : HoldsI w s (Ex.splitE st ((Ex.joinL st l k).set kp q))) (b : HoldsI w t (Ex.splitO st ((Ex.joinL st l k).set kp q))) => inv_cyes _ _ st kn s t m m' w hkn j1 (few_iff.2 fun v hv => by obtain ⟨j, hj, _, rfl⟩ := Ex.splitE_mem hv; exact hSw _ (List.getElem_mem hj)) (few_iff.2 fun v hv => by obtain ⟨j, hj, _, rfl⟩ := Ex.splitO_mem hv; exact hSw _ (List.getElem_mem hj)) j2 q1 q2 a b
                rw [Ex.join_split] at cz
                have hXn : (Ex.invL st (Ex.joinL st l k) kn).length = n := by rw [Ex.inv_len]; exact hYl
                have hZn : (Ex.invL st ((Ex.joinL st l k).set kp q) kn).length = n := by rw [Ex.inv_len]; exact hSl
                have hmg : mgI kn = (Ex.reach kn : Int) + 1 := by rcases hkk with rfl | rfl | rfl <;> rfl
                have hfar : ∀ j (a : j < (Ex.invL st (Ex.joinL st l k) kn).length) (b : j < (Ex.invL st ((Ex.joinL st l k).set kp q) kn).length), (mgI kn < (j : Int) - (kp : Int) ∨ mgI kn < (kp : Int) - (j : Int)) → (Ex.invL st ((Ex.joinL st l k).set kp q) kn)[j] = (Ex.invL st (Ex.joinL st l k) kn)[j] := by
                  intro j a b hj
                  have h := Ex.inv_reach (s := st) (k := kn) (y := Ex.joinL st l k) (z := (Ex.joinL st l k).set kp q) (by rw [List.length_set]) (p := st + (kp : Int)) (fun i i0 i1 hne => by
                    obtain ⟨r, rfl⟩ : ∃ r : Nat, i = st + (r : Int) := ⟨(i - st).toNat, by omega⟩
                    rw [Ex.sg_at (by omega), Ex.sg_at (by omega), List.getElem_set_ne (by omega)]) (i := st + (j : Int)) (by omega) (by omega) (by omega)
                  rw [Ex.sg_at b, Ex.sg_at a] at h
                  exact h
                have HFr : Hid _ := hfar
                clear hSw hsp j1 j2 hSl hYw hmg hkk f1 f2 hfar
                have hfar := HFr.out
                generalize Ex.invL st (Ex.joinL st l k) kn = X at *
                generalize Ex.invL st ((Ex.joinL st l k).set kp q) kn = Z at *
                generalize Ex.splitE st ((Ex.joinL st l k).set kp q) = E1 at *
                generalize Ex.splitO st ((Ex.joinL st l k).set kp q) = O1 at *
                clear HFr
                have b := Bb.fresh w s t l.length m k.length m' st kn
                have lx := hH.alloc (.cells #[.slice s l.length m, .slice t k.length m', .int .i64 st, .int .i64 kn] 44)
                have ly := hK.alloc (.cells #[.slice s l.length m, .slice t k.length m', .int .i64 st, .int .i64 kn] 44)
                have B := below_alloc (Below.refl _ w) (.cells #[.slice s l.length m, .slice t k.length m', .int .i64 st, .int .i64 kn] 44)
                go_enter Try.func16, Try.ntmps16
                obtain ⟨b0, b1, b2, b3⟩ := b.open
                go_wp2_with fail
                clear b0 b1 b2 b3
                refine (ci _ lx ly).mono ?_
                rintro e w1 ⟨s1, m1, rfl, lX, hb, _⟩
                replace b := b.below hb
                replace lx := lx.call hb
                replace ly := ly.call hb
                replace B := below_call B hb
                clear hb
                obtain ⟨b0, b1, b2, b3⟩ := b.open
                go_wp2_with fail
                clear b0 b1 b2 b3
                refine (join_own l k st s t m m' _ hh hc lx ly).mono ?_
                rintro e w2 ⟨vy, rfl, GJ⟩
                obtain ⟨g, mg, hvy, hmg, Yj⟩ := Yr.of GJ (by rw [hYl]; omega)
                rw [hYl] at hvy
                subst hvy
                have y0 := Yj.at (k := kp) (by rw [hYl]; exact hkp)
                have z1 := Yj.free kp
                have Ys := Yj.set (k := kp) (by rw [hYl]; exact hkp) q
                have hYs := Ys.below
                replace b := b.below hYs
                replace lX := lX.call hYs
                replace B := below_call B hYs
                have lY := Ys.holds
                generalize (Ex.joinL st l k)[kp]'(by rw [hYl]; exact hkp) = q0 at *
                clear GJ Yj hYs Ys lx ly
                obtain ⟨b0, b1, b2, b3⟩ := b.open
                go_wp2_with fail
                clear b0 b1 b2 b3
                refine (cs _ _ _ lY).mono ?_
                rintro e w3 ⟨s2, m2, s3, m3, rfl, l2, l3, hb, ⟨c1, _⟩, ⟨c2, _⟩⟩
                replace b := b.below hb
                replace lX := lX.call hb
                replace B := below_call B hb
                clear hb
                clear lY y0 z1
                obtain ⟨b0, b1, b2, b3⟩ := b.open
                go_wp2_with fail
                clear b0 b1 b2 b3
                refine (cz _ _ _ _ c1 c2 _ l2 l3).mono ?_
                rintro e w4 ⟨s4, m4, rfl, lZ, hb, _⟩
                replace b := b.below hb
                replace lX := lX.call hb
                replace l2 := l2.call hb
                replace l3 := l3.call hb
                replace B := below_call B hb
                clear hb
                clear l2 l3
                obtain ⟨b0, b1, b2, b3⟩ := b.open
                go_wp2_with fail
                clear b0 b1 b2 b3
                refine (mg_c _ _).mono ?_
                rintro e w5 ⟨rfl, hb⟩
                replace b := b.below hb
                replace lX := lX.call hb
                replace lZ := lZ.call hb
                replace B := below_call B hb
                clear hb
                clear b
                go_wp2_with fail
                go_loopw [126] (fun i wr => ∃ j : Nat, j ≤ n ∧ i = .int .i64 j ∧ Below w5.heap.size w5 wr) (fun i _ => n - (intOf i).toNat)
                case atStart => exact ⟨0, Nat.zero_le _, rfl, Below.refl _ _⟩
                case round =>
                  obtain ⟨j, hj, rfl, hB⟩ := hrel
                  have w3 : IntKind.i64.wrap ((j : Int) + 1) = (j : Int) + 1 := IntWalk.i64_in _ (by omega)
                  by_cases hlt : j < n
                  · have hji : (j : Int) < (n : Int) := by omega
                    have hjX : j < X.length := by omega
                    have hjZ : j < Z.length := by omega
                    have lXr := lX.call hB
                    have lZr := lZ.call hB
                    have HFar := hfar j hjX hjZ
                    rcases lXr with h0 | ⟨b1, o1, rfl, r1⟩
                    · rw [h0] at hjX; exact absurd hjX (Nat.not_lt_zero _)
                    rcases lZr with h0 | ⟨b2, o2, rfl, r2⟩
                    · rw [h0] at hjZ; exact absurd hjZ (Nat.not_lt_zero _)
                    have y1 := r1 j hjX
                    have y2 := r2 j hjZ
                    clear r1 r2
                    generalize X[j] = xv at *
                    generalize Z[j] = zv at *
                    have w1 : IntKind.i64.wrap ((j : Int) - (kp : Int)) = (j : Int) - (kp : Int) := IntWalk.i64_in _ (by omega)
                    have w2 : IntKind.i64.wrap ((kp : Int) - (j : Int)) = (kp : Int) - (j : Int) := IntWalk.i64_in _ (by omega)
                    by_cases he : xv = zv
                    · have g1 : (xv == zv) = true := by simp [he]
                      have g2 : (xv != zv) = false := by simp [he]
                      have g3 : decide (xv = zv) = true := by simp [he]
                      clear he HFar
                      go_wp2_with fail
                      go_quiet (fail)
                      go_wp2
                      go_roundw
                      case rel => exact ⟨j + 1, by omega, by go_num, below_drewN hB _⟩
                      case measure => simp [intOf]; omega
                    · have g1 : (xv == zv) = false := by simp [he]
                      have g2 : (xv != zv) = true := by simp [he]
                      have g3 : decide (xv = zv) = false := by simp [he]
                      have q1 : ¬ mgI kn < (j : Int) - (kp : Int) := fun h => he (HFar (.inl h)).symm
                      have q2 : ¬ mgI kn < (kp : Int) - (j : Int) := fun h => he (HFar (.inr h)).symm
                      have q1b : decide (mgI kn < (j : Int) - (kp : Int)) = false := by rw [decide_eq_false_iff_not]; exact q1
                      have q2b : decide (mgI kn < (kp : Int) - (j : Int)) = false := by rw [decide_eq_false_iff_not]; exact q2
                      clear he HFar
                      go_wp2_with fail
                      go_quiet (fail)
                      go_wp2
                      go_roundw
                      case rel => exact ⟨j + 1, by omega, by go_num, below_drewN hB _⟩
                      case measure => simp [intOf]; omega
                  · obtain rfl : j = n := by omega
                    replace B := below_call B hB
                    go_wp2_with fail
                    refine (example04_c _).mono ?_
                    rintro e w6 ⟨rfl, hb⟩
                    replace B := below_call B hb
                    clear hb
                    go_wp2
                    go_ret
                    exact ⟨rfl, B⟩

set_option maxRecDepth 100000 in
theorem lifted (os : Os) (started : os.Started) (H : Type) (enc : TypeId × Value → H) :
    ReturnsInHanded {} Try.checked os 16 .any (Rows.liftReachesSpec.pre6 enc Try.prog Try.f16 Rows.liftReachesRow.domain false) (Rows.liftReachesSpec.post enc Try.prog Try.f16 false true false false) := by
  refine returnsInHanded_of_change (C := Try.checked) own started (by kernel_rfl) Try.func16
    (ChangeSpec.witness6 (enc := enc) (C := Try.checked) false ⟨#[], #[.agg #[.slice none 0 0, .slice none 0 0, .int .i64 0, .int .i64 0], .int .i64 0, .int .i64 0], []⟩ 8 (by kernel_rfl) (by kernel_rfl) (by kernel_rfl) (by kernel_rfl)) ?_
  intro W base args ds gs before hval0 hW _ _
  have hval : ∀ (j : Nat) t v, Try.f16.params[j]? = some t → args[j]? = some v → Value.okWide Try.prog W .any base t v := hval0
  have hW' := hW
  obtain ⟨p, q, hA0, hV, rfl, _, _⟩ := hW
  have hA : DataW.TrodAll enc Try.prog W 0 (fun _ => true) true Try.f16.params.toList args.toList ds p := hA0
  rw [Try.params16] at hA hval
  obtain ⟨v0, vs0, d0, ds0, p0, q0, hargs, rfl, rfl, h0, r0⟩ := trodAll_cons hA
  obtain ⟨v1, vs1, d1, ds1, p1, q1, rfl, rfl, rfl, h1, r1⟩ := trodAll_cons r0
  obtain ⟨v2, vs2, d2, ds2, p2, q2, rfl, rfl, rfl, h2, r2⟩ := trodAll_cons r1
  obtain ⟨rfl, rfl, rfl⟩ := trodAll_nil r2
  obtain rfl : args = #[v0, v1, v2] := by cases args; simp_all
  obtain ⟨rfl, rfl⟩ := trodVars_none hV
  clear hA0 hval0
  simp only [List.append_nil] at hW'
  have l0 : ∀ x ∈ p0, x.block < W.heap.size := fun x hx => hW'.lt x (by simp [hx])
  have l1 : ∀ x ∈ p1, x.block < W.heap.size := fun x hx => hW'.lt x (by simp [hx])
  have l2 : ∀ x ∈ p2, x.block < W.heap.size := fun x hx => hW'.lt x (by simp [hx])
  obtain ⟨s, l, m, t, k, m', st, kn, rfl, hH0, hm0, hx0, hn0, hH1, hm1, hx1, hn1⟩ := open_bands (hval 0 44 v0 rfl rfl) h0
  obtain ⟨p, rfl, _, _, wp⟩ := open_int Try.underlying3 (hval 1 3 v1 rfl rfl) h1
  obtain ⟨q, rfl, _, _, wq⟩ := open_int Try.underlying3 (hval 2 3 v2 rfl rfl) h2
  refine (walk l k st kn p q s t m m' hm0 hm1 W hH0 hH1).mono fun e W' ⟨he, hb⟩ => ?_
  subst he
  exact ⟨_, rfl, post_low (pa := p0 ++ (p1 ++ (p2 ++ ([])))) (pv := []) hW' (fun _ _ _ => (trodAll_cons_mk (shut_bool Try.underlying4 _) trodAll_mk0)) (fun sp hsp => (trodAll_cons_mk (trod_low laidOut (by kernel_rfl) (of_decide_eq_true (by kernel_rfl)) h0 hb l0 (fun x hx => hsp x (by simp [hx]))) (trodAll_cons_mk (trod_low laidOut (by kernel_rfl) (of_decide_eq_true (by kernel_rfl)) h1 hb l1 (fun x hx => hsp x (by simp [hx]))) (trodAll_cons_mk (trod_low laidOut (by kernel_rfl) (of_decide_eq_true (by kernel_rfl)) h2 hb l2 (fun x hx => hsp x (by simp [hx]))) trodAll_mk0)))) (fun _ _ => rfl) (by simp) hb (ok_one (by kernel_rfl) rfl (okWide_bool_mk Try.underlying4 _))⟩

theorem over : Rows.liftReachesRow.holds Try.pinned (OpenSpec.ofChange Rows.liftReachesSpec) :=
  OpenClaim.holds_of_wide 16 Try.f16 rfl rfl rfl rfl rfl rfl rfl ⟨rfl, rfl, rfl, rfl, rfl⟩ rfl rfl rfl rfl rfl (by kernel_rfl) Try.func16 (by kernel_rfl)
    (of_decide_eq_true (by kernel_rfl)) (by unfold Func.isWrapper; first | (rw [if_pos (by decide +kernel)]; kernel_rfl) | (rw [if_neg (by decide +kernel)]; exact ⟨rfl, rfl⟩))
    (fun os started H enc _ => lifted os started H enc)

theorem proved : Rows.LiftReachesSaid :=
  over
#print axioms proved
end Go.Proofs.Ytpobmmdjcfdfoaa.liftReaches
