/-
  For all integers c, d and pairs q of integers the statement QuantOrders returns true. Its arguments read afterwards as before.
  Conditions: none beyond those of the given statement.
-/
import Derived.Test.YtadkcgpkbcgeoaaFrame
import Derived.Test.YtadkcgpkbcgeoaaEx08
import Derived.Test.YtadkcgpkbcgeoaaOpenQ
import Derived.Test.YtadkcgpkbcgeoaaFams
import Derived.Test.YtadkcgpkbcgeoaaQct
set_option maxRecDepth 100000
namespace Go.Proofs.Ytadkcgpkbcgeoaa.quantOrders
open Go.ChangeShapes Go.WideShapes Go.ChangeAt Go.RowKit Go.Joins Go.Deep

set_option maxRecDepth 100000 in
set_option maxHeartbeats 8000000 in
theorem n1 (c d st de : Int) (w : World) (h : c < -281474976710656) : Calls Try.prog 17 #[.int .i64 c, .int .i64 d, .agg #[.int .i64 st, .int .i64 de]] w fun e w' => e = .returned (.bool true) ∧ Below w.heap.size w w' := by
  have B := below_alloc (Below.refl _ w) (.cells #[.int .i64 st, .int .i64 de] 60)
  go_enter Try.func17, Try.ntmps17
  go_wp2_with (first | (go_at_call 44; refine (vd_r _ _ _).mono ?_; rintro e wn ⟨rfl, hw⟩; replace hw := hw.symm; subst hw) | (go_at_call 49; refine (example08_c _).mono ?_; rintro e w1 ⟨rfl, hb⟩))
  go_ret
  exact ⟨rfl, below_call B hb⟩
set_option maxRecDepth 100000 in
set_option maxHeartbeats 8000000 in
theorem n2 (c d st de : Int) (w : World) (h0 : -281474976710656 ≤ c) (h : 281474976710656 < c) : Calls Try.prog 17 #[.int .i64 c, .int .i64 d, .agg #[.int .i64 st, .int .i64 de]] w fun e w' => e = .returned (.bool true) ∧ Below w.heap.size w w' := by
  have B := below_alloc (Below.refl _ w) (.cells #[.int .i64 st, .int .i64 de] 60)
  go_enter Try.func17, Try.ntmps17
  go_wp2_with (first | (go_at_call 44; refine (vd_r _ _ _).mono ?_; rintro e wn ⟨rfl, hw⟩; replace hw := hw.symm; subst hw) | (go_at_call 49; refine (example08_c _).mono ?_; rintro e w1 ⟨rfl, hb⟩))
  go_ret
  exact ⟨rfl, below_call B hb⟩
set_option maxRecDepth 100000 in
set_option maxHeartbeats 8000000 in
theorem n3 (c d st de : Int) (w : World) (h0 : -281474976710656 ≤ c) (h1 : c ≤ 281474976710656) (h : d < -281474976710656) : Calls Try.prog 17 #[.int .i64 c, .int .i64 d, .agg #[.int .i64 st, .int .i64 de]] w fun e w' => e = .returned (.bool true) ∧ Below w.heap.size w w' := by
  have B := below_alloc (Below.refl _ w) (.cells #[.int .i64 st, .int .i64 de] 60)
  go_enter Try.func17, Try.ntmps17
  go_wp2_with (first | (go_at_call 44; refine (vd_r _ _ _).mono ?_; rintro e wn ⟨rfl, hw⟩; replace hw := hw.symm; subst hw) | (go_at_call 49; refine (example08_c _).mono ?_; rintro e w1 ⟨rfl, hb⟩))
  go_ret
  exact ⟨rfl, below_call B hb⟩
set_option maxRecDepth 100000 in
set_option maxHeartbeats 8000000 in
theorem n4 (c d st de : Int) (w : World) (h0 : -281474976710656 ≤ c) (h1 : c ≤ 281474976710656) (h2 : -281474976710656 ≤ d) (h : 281474976710656 < d) : Calls Try.prog 17 #[.int .i64 c, .int .i64 d, .agg #[.int .i64 st, .int .i64 de]] w fun e w' => e = .returned (.bool true) ∧ Below w.heap.size w w' := by
  have B := below_alloc (Below.refl _ w) (.cells #[.int .i64 st, .int .i64 de] 60)
  go_enter Try.func17, Try.ntmps17
  go_wp2_with (first | (go_at_call 44; refine (vd_r _ _ _).mono ?_; rintro e wn ⟨rfl, hw⟩; replace hw := hw.symm; subst hw) | (go_at_call 49; refine (example08_c _).mono ?_; rintro e w1 ⟨rfl, hb⟩))
  go_ret
  exact ⟨rfl, below_call B hb⟩
set_option maxRecDepth 100000 in
set_option maxHeartbeats 8000000 in
theorem n5 (c d st de : Int) (w : World) (h0 : -281474976710656 ≤ c) (h1 : c ≤ 281474976710656) (h2 : -281474976710656 ≤ d) (h3 : d ≤ 281474976710656) (h : Qu.vB st de = false) : Calls Try.prog 17 #[.int .i64 c, .int .i64 d, .agg #[.int .i64 st, .int .i64 de]] w fun e w' => e = .returned (.bool true) ∧ Below w.heap.size w w' := by
  have B := below_alloc (Below.refl _ w) (.cells #[.int .i64 st, .int .i64 de] 60)
  go_enter Try.func17, Try.ntmps17
  go_wp2_with (first | (go_at_call 44; refine (vd_r _ _ _).mono ?_; rintro e wn ⟨rfl, hw⟩; replace hw := hw.symm; subst hw) | (go_at_call 49; refine (example08_c _).mono ?_; rintro e w1 ⟨rfl, hb⟩))
  go_ret
  exact ⟨rfl, below_call B hb⟩
set_option maxRecDepth 100000 in
set_option maxHeartbeats 8000000 in
theorem main (c d st de : Int) (w : World) (h0 : -281474976710656 ≤ c) (h1 : c ≤ 281474976710656) (h2 : -281474976710656 ≤ d) (h3 : d ≤ 281474976710656) (h : Qu.vB st de = true)
    (V U N P : Int) (hV : Qu.qI c st de = V) (hU : Qu.qI d st de = U) (hN : plN (max c (-c)) st de = N) (hP : (2 : Int) ^ N.toNat = P) (vb : -281474976710656 ≤ V ∧ V ≤ 281474976710656) (nb : 0 ≤ N ∧ N ≤ 60)
    (hm : c ≤ d → V ≤ U) (hb2 : -(max c (-c)) ≤ d → d ≤ max c (-c) → -P < U ∧ U < P) : Calls Try.prog 17 #[.int .i64 c, .int .i64 d, .agg #[.int .i64 st, .int .i64 de]] w fun e w' => e = .returned (.bool true) ∧ Below w.heap.size w w' := by
  have cc := fun W => qz_q c st de W (by omega) (by omega)
  have cd := fun W => qz_q d st de W (by omega) (by omega)
  have cn := fun W => qz_q (-c) st de W (by omega) (by omega)
  have c1 := fun W => qz_q c 1 16 W (by omega) (by omega)
  have cp := fun W => pl_q (max c (-c)) st de W (by omega)
  have cr := fun (W : World) (z0 : -4294967296 ≤ c) (z1 : c ≤ 4294967296) => show Calls Try.prog 52 #[.int .i64 c, .int .i64 0, .int .i64 1, .int .i64 16] W (fun e w' => e = .returned (.int .i64 c) ∧ w' = W) from by
    have := rec_q c 0 1 16 W (by omega) (by omega)
    rw [Qu.rec_one z0 z1] at this
    exact this
  rw [hV] at cc
  rw [hU] at cd
  rw [Qu.qI_neg, hV] at cn
  rw [Qu.qI_one h0 h1] at c1
  rw [hN] at cp
  have sc := fun W => still (cc W)
  have sd := fun W => still (cd W)
  have pb := Qu.pow_bd N.toNat (by omega)
  rw [hP] at pb
  have hmx := hmxq
  have m1 : min N.toNat 64 = N.toNat := by omega
  have w1 : IntKind.i64.wrap (-c) = -c := i64_in' _ (by omega) (by omega)
  have w2 : IntKind.i64.wrap (-V) = -V := i64_in' _ (by omega) (by omega)
  have w3 : IntKind.i64.wrap P = P := i64_in' _ (by omega) (by omega)
  have w4 : IntKind.i64.wrap (-P) = -P := i64_in' _ (by omega) (by omega)
  have w4' : IntKind.i64.wrap (-1 * P) = -P := by rw [Int.neg_mul, Int.one_mul]; exact w4
  obtain ⟨M, hM⟩ : ∃ M, M = max c (-c) := ⟨_, rfl⟩
  rw [← hM] at cp hb2
  have mb : 0 ≤ M ∧ M ≤ 281474976710656 := by omega
  replace hM := hM.symm
  have w5 : IntKind.i64.wrap (-M) = -M := i64_in' _ (by omega) (by omega)
  have n0 : ¬ N < 0 := by omega
  have n1 : ¬ 60 < N := by omega
  have n2 : 0 ≤ N := nb.1
  have n3 : N ≤ 60 := nb.2
  have x0 := Aw.start w st de 60
  clear cc cd hV hU hN pb vb mb nb
  by_cases hd1 : d < -M
  · clear hb2 hm
    have hcd : ¬ c ≤ d := by omega
    go_enter Try.func17, Try.ntmps17
    go_upto_region 3 with (first | (go_at_call 44; refine (vd_r _ _ _).mono ?_; rintro e wn ⟨rfl, hw⟩; replace hw := hw.symm; subst hw))
    have c1' := c1
    clear c1
    have hst := Fam.next (I := Aw w st de) (fun _ _ p q => p.step q)
    have hne : Nonempty (Fam (Aw w st de)) := ⟨⟨_, x0⟩⟩
    have c0 := Aw.c0 (w := w) (x := st) (y := de)
    have c1 := Aw.c1 (w := w) (x := st) (y := de)
    refine wp_region_in (fun X : Fam (Aw w st de) => X.W) (by kernel_rfl) (by kernel_rfl) ⟨⟨_, (x0).step (Below.refl _ _).drew⟩, rfl⟩ ?_
    repeat (first | go_big_quiet_step ((first | (go_at_call 47; first | with_reducible exact call_in (sc _) (hst _) | with_reducible exact call_in (sd _) (hst _)))) | quiet_step ((first | (go_at_call 47; first | with_reducible exact call_in (sc _) (hst _) | with_reducible exact call_in (sd _) (hst _)))))
    refine wpQuiet_nil ?_
    intro w5 hw'
    obtain ⟨⟨_, hS⟩, hw''⟩ := hw'
    subst hw''
    clear hst hne c0 c1 sc sd
    have c1 := c1'
    clear c1'
    have k0 := hS.box.c0
    have k1 := hS.box.c1
    go_wp2_with (first | (go_at_call 44; refine (vd_r _ _ _).mono ?_; rintro e wn ⟨rfl, hw⟩; replace hw := hw.symm; subst hw) | (go_at_call 47; (first | (with_reducible refine (cn _).mono ?_) | (with_reducible refine (c1 _).mono ?_)); rintro e wn ⟨rfl, hw⟩; replace hw := hw.symm; subst hw) | (go_at_call 52; refine (cr _ (by omega) (by omega)).mono ?_; rintro e wn ⟨rfl, hw⟩; replace hw := hw.symm; subst hw) | (go_at_call 54; refine (cp _).mono ?_; rintro e wn ⟨rfl, hw⟩; replace hw := hw.symm; subst hw) | (go_at_call 49; refine (example08_c _).mono ?_; rintro e w1 ⟨rfl, hb⟩))
    all_goals
      go_ret
      exact ⟨rfl, below_call hS.below hb⟩
  by_cases hd2 : M < d
  · clear hb2
    have hcd : c ≤ d := by omega
    have hvu : V ≤ U := hm hcd
    clear hm
    go_enter Try.func17, Try.ntmps17
    go_upto_region 3 with (first | (go_at_call 44; refine (vd_r _ _ _).mono ?_; rintro e wn ⟨rfl, hw⟩; replace hw := hw.symm; subst hw))
    have c1' := c1
    clear c1
    have hst := Fam.next (I := Aw w st de) (fun _ _ p q => p.step q)
    have hne : Nonempty (Fam (Aw w st de)) := ⟨⟨_, x0⟩⟩
    have c0 := Aw.c0 (w := w) (x := st) (y := de)
    have c1 := Aw.c1 (w := w) (x := st) (y := de)
    refine wp_region_in (fun X : Fam (Aw w st de) => X.W) (by kernel_rfl) (by kernel_rfl) ⟨⟨_, (x0).step (Below.refl _ _).drew⟩, rfl⟩ ?_
    repeat (first | go_big_quiet_step ((first | (go_at_call 47; first | with_reducible exact call_in (sc _) (hst _) | with_reducible exact call_in (sd _) (hst _)))) | quiet_step ((first | (go_at_call 47; first | with_reducible exact call_in (sc _) (hst _) | with_reducible exact call_in (sd _) (hst _)))))
    refine wpQuiet_nil ?_
    intro w5 hw'
    obtain ⟨⟨_, hS⟩, hw''⟩ := hw'
    subst hw''
    clear hst hne c0 c1 sc sd
    have c1 := c1'
    clear c1'
    have k0 := hS.box.c0
    have k1 := hS.box.c1
    go_wp2_with (first | (go_at_call 44; refine (vd_r _ _ _).mono ?_; rintro e wn ⟨rfl, hw⟩; replace hw := hw.symm; subst hw) | (go_at_call 47; (first | (with_reducible refine (cn _).mono ?_) | (with_reducible refine (c1 _).mono ?_)); rintro e wn ⟨rfl, hw⟩; replace hw := hw.symm; subst hw) | (go_at_call 52; refine (cr _ (by omega) (by omega)).mono ?_; rintro e wn ⟨rfl, hw⟩; replace hw := hw.symm; subst hw) | (go_at_call 54; refine (cp _).mono ?_; rintro e wn ⟨rfl, hw⟩; replace hw := hw.symm; subst hw) | (go_at_call 49; refine (example08_c _).mono ?_; rintro e w1 ⟨rfl, hb⟩))
    all_goals
      go_ret
      exact ⟨rfl, below_call hS.below hb⟩
  · obtain ⟨f1, f2⟩ := hb2 (by omega) (by omega)
    clear hb2
    by_cases hcd : c ≤ d
    · have hvu : V ≤ U := hm hcd
      clear hm
      go_enter Try.func17, Try.ntmps17
      go_upto_region 3 with (first | (go_at_call 44; refine (vd_r _ _ _).mono ?_; rintro e wn ⟨rfl, hw⟩; replace hw := hw.symm; subst hw))
      have c1' := c1
      clear c1
      have hst := Fam.next (I := Aw w st de) (fun _ _ p q => p.step q)
      have hne : Nonempty (Fam (Aw w st de)) := ⟨⟨_, x0⟩⟩
      have c0 := Aw.c0 (w := w) (x := st) (y := de)
      have c1 := Aw.c1 (w := w) (x := st) (y := de)
      refine wp_region_in (fun X : Fam (Aw w st de) => X.W) (by kernel_rfl) (by kernel_rfl) ⟨⟨_, (x0).step (Below.refl _ _).drew⟩, rfl⟩ ?_
      repeat (first | go_big_quiet_step ((first | (go_at_call 47; first | with_reducible exact call_in (sc _) (hst _) | with_reducible exact call_in (sd _) (hst _)))) | quiet_step ((first | (go_at_call 47; first | with_reducible exact call_in (sc _) (hst _) | with_reducible exact call_in (sd _) (hst _)))))
      refine wpQuiet_nil ?_
      intro w5 hw'
      obtain ⟨⟨_, hS⟩, hw''⟩ := hw'
      subst hw''
      clear hst hne c0 c1 sc sd
      have c1 := c1'
      clear c1'
      have k0 := hS.box.c0
      have k1 := hS.box.c1
      go_wp2_with (first | (go_at_call 44; refine (vd_r _ _ _).mono ?_; rintro e wn ⟨rfl, hw⟩; replace hw := hw.symm; subst hw) | (go_at_call 47; (first | (with_reducible refine (cn _).mono ?_) | (with_reducible refine (c1 _).mono ?_)); rintro e wn ⟨rfl, hw⟩; replace hw := hw.symm; subst hw) | (go_at_call 52; refine (cr _ (by omega) (by omega)).mono ?_; rintro e wn ⟨rfl, hw⟩; replace hw := hw.symm; subst hw) | (go_at_call 54; refine (cp _).mono ?_; rintro e wn ⟨rfl, hw⟩; replace hw := hw.symm; subst hw) | (go_at_call 49; refine (example08_c _).mono ?_; rintro e w1 ⟨rfl, hb⟩))
      all_goals
        go_ret
        exact ⟨rfl, below_call hS.below hb⟩
    · clear hm
      go_enter Try.func17, Try.ntmps17
      go_upto_region 3 with (first | (go_at_call 44; refine (vd_r _ _ _).mono ?_; rintro e wn ⟨rfl, hw⟩; replace hw := hw.symm; subst hw))
      have c1' := c1
      clear c1
      have hst := Fam.next (I := Aw w st de) (fun _ _ p q => p.step q)
      have hne : Nonempty (Fam (Aw w st de)) := ⟨⟨_, x0⟩⟩
      have c0 := Aw.c0 (w := w) (x := st) (y := de)
      have c1 := Aw.c1 (w := w) (x := st) (y := de)
      refine wp_region_in (fun X : Fam (Aw w st de) => X.W) (by kernel_rfl) (by kernel_rfl) ⟨⟨_, (x0).step (Below.refl _ _).drew⟩, rfl⟩ ?_
      repeat (first | go_big_quiet_step ((first | (go_at_call 47; first | with_reducible exact call_in (sc _) (hst _) | with_reducible exact call_in (sd _) (hst _)))) | quiet_step ((first | (go_at_call 47; first | with_reducible exact call_in (sc _) (hst _) | with_reducible exact call_in (sd _) (hst _)))))
      refine wpQuiet_nil ?_
      intro w5 hw'
      obtain ⟨⟨_, hS⟩, hw''⟩ := hw'
      subst hw''
      clear hst hne c0 c1 sc sd
      have c1 := c1'
      clear c1'
      have k0 := hS.box.c0
      have k1 := hS.box.c1
      go_wp2_with (first | (go_at_call 44; refine (vd_r _ _ _).mono ?_; rintro e wn ⟨rfl, hw⟩; replace hw := hw.symm; subst hw) | (go_at_call 47; (first | (with_reducible refine (cn _).mono ?_) | (with_reducible refine (c1 _).mono ?_)); rintro e wn ⟨rfl, hw⟩; replace hw := hw.symm; subst hw) | (go_at_call 52; refine (cr _ (by omega) (by omega)).mono ?_; rintro e wn ⟨rfl, hw⟩; replace hw := hw.symm; subst hw) | (go_at_call 54; refine (cp _).mono ?_; rintro e wn ⟨rfl, hw⟩; replace hw := hw.symm; subst hw) | (go_at_call 49; refine (example08_c _).mono ?_; rintro e w1 ⟨rfl, hb⟩))
      all_goals
        go_ret
        exact ⟨rfl, below_call hS.below hb⟩
theorem walk (c d st de : Int) (w : World) (bc : -9223372036854775808 ≤ c ∧ c ≤ 9223372036854775807) (bd : -9223372036854775808 ≤ d ∧ d ≤ 9223372036854775807) : Calls Try.prog 17 #[.int .i64 c, .int .i64 d, .agg #[.int .i64 st, .int .i64 de]] w fun e w' => e = .returned (.bool true) ∧ Below w.heap.size w w' := by
  by_cases h0 : c < -281474976710656
  · exact n1 c d st de w h0
  by_cases h1 : 281474976710656 < c
  · exact n2 c d st de w (by omega) h1
  by_cases h2 : d < -281474976710656
  · exact n3 c d st de w (by omega) (by omega) h2
  by_cases h3 : 281474976710656 < d
  · exact n4 c d st de w (by omega) (by omega) (by omega) h3
  cases h : Qu.vB st de with
  | false => exact n5 c d st de w (by omega) (by omega) (by omega) (by omega) h
  | true =>
    have hs := (Qu.v_iff.1 h).1
    have qb := qI_nn0 (b := max c (-c)) (s := st) (d := de) (by omega)
    have hn : plN (max c (-c)) st de = Lib.bitLen (Qu.qI (max c (-c)) st de).toNat := if_neg (by omega)
    have hl : Lib.bitLen (Qu.qI (max c (-c)) st de).toNat ≤ 49 := bit_le 49 (by omega)
    have m1 := Qu.qI_mono (s := st) (d := de) (a := c) (b := max c (-c)) h (by omega) (by omega) (by omega)
    have m2 := Qu.qI_mono (s := st) (d := de) (a := -(max c (-c))) (b := c) h (by omega) (by omega) (by omega)
    rw [Qu.qI_neg] at m2
    refine main c d st de w (by omega) (by omega) (by omega) (by omega) h _ _ _ _ rfl rfl rfl rfl (by omega) (by omega) (fun hcd => Qu.qI_mono h (by omega) (by omega) hcd) (fun a b => Qu.or_bound h (by omega) (by omega) a b ?_)
    rintro q rfl
    have := bit_lt (x := (Qu.qI (max c (-c)) st de).toNat) (by omega)
    rw [hn, Int.toNat_natCast]
    exact_mod_cast this

set_option maxRecDepth 100000 in
theorem lifted (os : Os) (started : os.Started) (H : Type) (enc : TypeId × Value → H) :
    ReturnsInHanded {} Try.checked os 17 .any (Rows.quantOrdersSpec.pre6 enc Try.prog Try.f17 Rows.quantOrdersRow.domain false) (Rows.quantOrdersSpec.post enc Try.prog Try.f17 false true false false) := by
  refine returnsInHanded_of_change (C := Try.checked) own started (by kernel_rfl) Try.func17
    (ChangeSpec.witness6 (enc := enc) (C := Try.checked) false ⟨#[], #[.int .i64 0, .int .i64 0, .agg #[.int .i64 0, .int .i64 0]], []⟩ 8 (by kernel_rfl) (by kernel_rfl) (by kernel_rfl) (by kernel_rfl)) ?_
  intro W base args ds gs before hval0 hW _ _
  have hval : ∀ (j : Nat) t v, Try.f17.params[j]? = some t → args[j]? = some v → Value.okWide Try.prog W .any base t v := hval0
  have hW' := hW
  obtain ⟨p, q, hA0, hV, rfl, _, _⟩ := hW
  have hA : DataW.TrodAll enc Try.prog W 0 (fun _ => true) true Try.f17.params.toList args.toList ds p := hA0
  rw [Try.params17] at hA hval
  obtain ⟨v0, vs0, d0, ds0, p0, q0, hargs, rfl, rfl, h0, r0⟩ := trodAll_cons hA
  obtain ⟨v1, vs1, d1, ds1, p1, q1, rfl, rfl, rfl, h1, r1⟩ := trodAll_cons r0
  obtain ⟨v2, vs2, d2, ds2, p2, q2, rfl, rfl, rfl, h2, r2⟩ := trodAll_cons r1
  obtain ⟨rfl, rfl, rfl⟩ := trodAll_nil r2
  obtain rfl : args = #[v0, v1, v2] := by cases args; simp_all
  obtain ⟨rfl, rfl⟩ := trodVars_none hV
  clear hA0 hval0
  simp only [List.append_nil] at hW'
  have l0 : ∀ x ∈ p0, x.block < W.heap.size := fun x hx => hW'.lt x (by simp [hx])
  have l1 : ∀ x ∈ p1, x.block < W.heap.size := fun x hx => hW'.lt x (by simp [hx])
  have l2 : ∀ x ∈ p2, x.block < W.heap.size := fun x hx => hW'.lt x (by simp [hx])
  obtain ⟨c, rfl, _, _, w0⟩ := open_int Try.underlying3 (hval 0 3 v0 rfl rfl) h0
  have bc := bounds_i64 w0
  obtain ⟨d, rfl, _, _, w1⟩ := open_int Try.underlying3 (hval 1 3 v1 rfl rfl) h1
  have bd := bounds_i64 w1
  obtain ⟨st, de, rfl, bst, bde⟩ := open_arr2 (hval 2 60 v2 rfl rfl) h2
  refine (walk c d st de W bc bd).mono fun e W' ⟨he, hb⟩ => ?_
  subst he
  exact ⟨_, rfl, post_low (pa := p0 ++ (p1 ++ (p2 ++ ([])))) (pv := []) hW' (fun _ _ _ => (trodAll_cons_mk (shut_bool Try.underlying4 _) trodAll_mk0)) (fun sp hsp => (trodAll_cons_mk (trod_low laidOut (by kernel_rfl) (of_decide_eq_true (by kernel_rfl)) h0 hb l0 (fun x hx => hsp x (by simp [hx]))) (trodAll_cons_mk (trod_low laidOut (by kernel_rfl) (of_decide_eq_true (by kernel_rfl)) h1 hb l1 (fun x hx => hsp x (by simp [hx]))) (trodAll_cons_mk (trod_low laidOut (by kernel_rfl) (of_decide_eq_true (by kernel_rfl)) h2 hb l2 (fun x hx => hsp x (by simp [hx]))) trodAll_mk0)))) (fun _ _ => rfl) (by simp) hb (ok_one (by kernel_rfl) rfl (okWide_bool_mk Try.underlying4 _))⟩

theorem over : Rows.quantOrdersRow.holds Try.pinned (OpenSpec.ofChange Rows.quantOrdersSpec) :=
  OpenClaim.holds_of_wide 17 Try.f17 rfl rfl rfl rfl rfl rfl rfl ⟨rfl, rfl, rfl, rfl, rfl⟩ rfl rfl rfl rfl rfl (by kernel_rfl) Try.func17 (by kernel_rfl)
    (of_decide_eq_true (by kernel_rfl)) (by unfold Func.isWrapper; first | (rw [if_pos (by decide +kernel)]; kernel_rfl) | (rw [if_neg (by decide +kernel)]; exact ⟨rfl, rfl⟩))
    (fun os started H enc _ => lifted os started H enc)

theorem proved : Rows.QuantOrdersSaid :=
  over
#print axioms proved
end Go.Proofs.Ytadkcgpkbcgeoaa.quantOrders
