/-
  What each call of color's functions on numbers returns, the program's and the reference's.
-/
import Derived.Test.YtadkcgpkbcgeoaaCol
import Derived.Test.YtadkcgpkbcgeoaaFams
import Derived.Test.YtadkcgpkbcgeoaaQnS
set_option maxRecDepth 100000
namespace Go.Proofs.Ytadkcgpkbcgeoaa
open Go.RowKit

set_option maxHeartbeats 1000000 in
theorem fwp_q (t a b c : Int) (w : World) (h : Co.ok3 t a b c) :
    Calls Try.prog 61 #[.int .i64 t, .agg #[.int .i64 a, .int .i64 b, .int .i64 c]] w fun e w' => e = .returned (.agg #[.int .i64 (Co.fwY t a b c), .int .i64 (Co.fwU t a b c), .int .i64 (Co.fwV t a b c)]) ∧ Below w.heap.size w w' := by
  by_cases h1 : t = 1
  · subst h1
    obtain ⟨a0, a1, b0, b1, c0, c1⟩ := h (.inl rfl)
    have : IntKind.i64.wrap (2 * b) = 2 * b := i64_in' _ (by omega) (by omega)
    have : IntKind.i64.wrap (a + 2 * b) = a + 2 * b := i64_in' _ (by omega) (by omega)
    have : IntKind.i64.wrap (a + 2 * b + c) = a + 2 * b + c := i64_in' _ (by omega) (by omega)
    have : IntKind.i64.wrap ((a + 2 * b + c) / 4) = (a + 2 * b + c) / 4 := i64_in' _ (by omega) (by omega)
    have : IntKind.i64.wrap (c - b) = c - b := i64_in' _ (by omega) (by omega)
    have : IntKind.i64.wrap (a - b) = a - b := i64_in' _ (by omega) (by omega)
    go_enter Try.func61, Try.ntmps61
    go_wp2_with fail
    go_region
    go_wp2
    refine bodyPost_ret (v := .agg #[.int .i64 (Co.fwY 1 a b c), .int .i64 (Co.fwU 1 a b c), .int .i64 (Co.fwV 1 a b c)]) ?_ rfl ?_
    · simp [results, Try.results61, go_sem, Co.fwY, Co.fwU, Co.fwV]
    · exact ⟨rfl, (((Below.refl _ _).alloc (Nat.le_refl _) _).alloc (by simp) _).drew⟩
  · by_cases h2 : t = 2
    · subst h2
      obtain ⟨a0, a1, b0, b1, c0, c1⟩ := h (.inr rfl)
      have : IntKind.i64.wrap (a - c) = a - c := i64_in' _ (by omega) (by omega)
      have : IntKind.i64.wrap ((a - c) / 2) = (a - c) / 2 := i64_in' _ (by omega) (by omega)
      have : IntKind.i64.wrap (c + (a - c) / 2) = c + (a - c) / 2 := i64_in' _ (by omega) (by omega)
      have : IntKind.i64.wrap (b - (c + (a - c) / 2)) = b - (c + (a - c) / 2) := i64_in' _ (by omega) (by omega)
      have : IntKind.i64.wrap ((b - (c + (a - c) / 2)) / 2) = (b - (c + (a - c) / 2)) / 2 := i64_in' _ (by omega) (by omega)
      have : IntKind.i64.wrap (c + (a - c) / 2 + (b - (c + (a - c) / 2)) / 2) = c + (a - c) / 2 + (b - (c + (a - c) / 2)) / 2 := i64_in' _ (by omega) (by omega)
      go_enter Try.func61, Try.ntmps61
      go_wp2_with fail
      go_region
      go_wp2
      refine bodyPost_ret (v := .agg #[.int .i64 (Co.fwY 2 a b c), .int .i64 (Co.fwU 2 a b c), .int .i64 (Co.fwV 2 a b c)]) ?_ rfl ?_
      · simp [results, Try.results61, go_sem, Co.fwY, Co.fwU, Co.fwV]
      · exact ⟨rfl, (((Below.refl _ _).alloc (Nat.le_refl _) _).alloc (by simp) _).drew⟩
    · have e1 : Co.fwY t a b c = a := by unfold Co.fwY; rw [if_neg h1, if_neg h2]
      have e2 : Co.fwU t a b c = b := by unfold Co.fwU; rw [if_neg h1, if_neg h2]
      have e3 : Co.fwV t a b c = c := by unfold Co.fwV; rw [if_neg h1, if_neg h2]
      rw [e1, e2, e3]
      clear e1 e2 e3 h
      go_enter Try.func61, Try.ntmps61
      go_wp2_with fail
      go_region
      go_wp2
      refine bodyPost_ret (v := .agg #[.int .i64 a, .int .i64 b, .int .i64 c]) ?_ rfl ?_
      · simp [results, Try.results61, go_sem]
      · exact ⟨rfl, (((Below.refl _ _).alloc (Nat.le_refl _) _).alloc (by simp) _).drew⟩
set_option maxHeartbeats 1000000 in
theorem ivp_q (t a b c : Int) (w : World) (h : Co.ok3 t a b c) :
    Calls Try.prog 63 #[.int .i64 t, .agg #[.int .i64 a, .int .i64 b, .int .i64 c]] w fun e w' => e = .returned (.agg #[.int .i64 (Co.ivA t a b c), .int .i64 (Co.ivB t a b c), .int .i64 (Co.ivC t a b c)]) ∧ Below w.heap.size w w' := by
  by_cases h1 : t = 1
  · subst h1
    obtain ⟨a0, a1, b0, b1, c0, c1⟩ := h (.inl rfl)
    have : IntKind.i64.wrap (b + c) = b + c := i64_in' _ (by omega) (by omega)
    have : IntKind.i64.wrap ((b + c) / 4) = (b + c) / 4 := i64_in' _ (by omega) (by omega)
    have : IntKind.i64.wrap (a - (b + c) / 4) = a - (b + c) / 4 := i64_in' _ (by omega) (by omega)
    have : IntKind.i64.wrap (c + (a - (b + c) / 4)) = c + (a - (b + c) / 4) := i64_in' _ (by omega) (by omega)
    have : IntKind.i64.wrap (b + (a - (b + c) / 4)) = b + (a - (b + c) / 4) := i64_in' _ (by omega) (by omega)
    go_enter Try.func63, Try.ntmps63
    go_wp2_with fail
    go_region
    go_wp2
    refine bodyPost_ret (v := .agg #[.int .i64 (Co.ivA 1 a b c), .int .i64 (Co.ivB 1 a b c), .int .i64 (Co.ivC 1 a b c)]) ?_ rfl ?_
    · simp [results, Try.results63, go_sem, Co.ivA, Co.ivB, Co.ivC]
    · exact ⟨rfl, (((Below.refl _ _).alloc (Nat.le_refl _) _).alloc (by simp) _).drew⟩
  · by_cases h2 : t = 2
    · subst h2
      obtain ⟨a0, a1, b0, b1, c0, c1⟩ := h (.inr rfl)
      have : IntKind.i64.wrap (c / 2) = c / 2 := i64_in' _ (by omega) (by omega)
      have : IntKind.i64.wrap (a - c / 2) = a - c / 2 := i64_in' _ (by omega) (by omega)
      have : IntKind.i64.wrap (b / 2) = b / 2 := i64_in' _ (by omega) (by omega)
      have : IntKind.i64.wrap (a - c / 2 - b / 2) = a - c / 2 - b / 2 := i64_in' _ (by omega) (by omega)
      have : IntKind.i64.wrap (a - c / 2 - b / 2 + b) = a - c / 2 - b / 2 + b := i64_in' _ (by omega) (by omega)
      have : IntKind.i64.wrap (c + (a - c / 2)) = c + (a - c / 2) := i64_in' _ (by omega) (by omega)
      go_enter Try.func63, Try.ntmps63
      go_wp2_with fail
      go_region
      go_wp2
      refine bodyPost_ret (v := .agg #[.int .i64 (Co.ivA 2 a b c), .int .i64 (Co.ivB 2 a b c), .int .i64 (Co.ivC 2 a b c)]) ?_ rfl ?_
      · simp [results, Try.results63, go_sem, Co.ivA, Co.ivB, Co.ivC]
      · exact ⟨rfl, (((Below.refl _ _).alloc (Nat.le_refl _) _).alloc (by simp) _).drew⟩
    · have e1 : Co.ivA t a b c = a := by unfold Co.ivA; rw [if_neg h1, if_neg h2]
      have e2 : Co.ivB t a b c = b := by unfold Co.ivB; rw [if_neg h1, if_neg h2]
      have e3 : Co.ivC t a b c = c := by unfold Co.ivC; rw [if_neg h1, if_neg h2]
      rw [e1, e2, e3]
      clear e1 e2 e3 h
      go_enter Try.func63, Try.ntmps63
      go_wp2_with fail
      go_region
      go_wp2
      refine bodyPost_ret (v := .agg #[.int .i64 a, .int .i64 b, .int .i64 c]) ?_ rfl ?_
      · simp [results, Try.results63, go_sem]
      · exact ⟨rfl, (((Below.refl _ _).alloc (Nat.le_refl _) _).alloc (by simp) _).drew⟩
set_option maxHeartbeats 1000000 in
theorem Fw_q (t a b c : Int) (w : World) (h : Co.ok3 t a b c) :
    Calls Try.prog 22 #[.int .i64 t, .int .i64 a, .int .i64 b, .int .i64 c] w fun e w' => e = .returned (.tuple #[.int .i64 (Co.fwY t a b c), .int .i64 (Co.fwU t a b c), .int .i64 (Co.fwV t a b c)]) ∧ Below w.heap.size w w' := by
  go_enter Try.func22, Try.ntmps22
  go_wp2_with fail
  refine (fwp_q t a b c _ h).mono ?_
  rintro e w1 ⟨rfl, hb⟩
  go_wp2_with fail
  go_region
  go_wp2
  go_ret3
  exact ⟨rfl, (below_alloc (below_call (Below.refl _ _) hb) _).drew⟩
set_option maxHeartbeats 1000000 in
theorem Iv_q (t a b c : Int) (w : World) (h : Co.ok3 t a b c) :
    Calls Try.prog 24 #[.int .i64 t, .int .i64 a, .int .i64 b, .int .i64 c] w fun e w' => e = .returned (.tuple #[.int .i64 (Co.ivA t a b c), .int .i64 (Co.ivB t a b c), .int .i64 (Co.ivC t a b c)]) ∧ Below w.heap.size w w' := by
  go_enter Try.func24, Try.ntmps24
  go_wp2_with fail
  refine (ivp_q t a b c _ h).mono ?_
  rintro e w1 ⟨rfl, hb⟩
  go_wp2_with fail
  go_region
  go_wp2
  go_ret3
  exact ⟨rfl, (below_alloc (below_call (Below.refl _ _) hb) _).drew⟩
theorem fd_eq {a b : Int} (h : 1 ≤ b) : Pl.fd a b = a / b := by
  by_cases ha : 0 ≤ a
  · exact fdp h ha
  · have hneg : a.tdiv b = -((-a) / b) := by
      have : a.tdiv b = -((-a).tdiv b) := by rw [Int.neg_tdiv]; omega
      rw [this, Int.tdiv_eq_ediv_of_nonneg (by omega)]
    have hmod : a.tmod b = -((-a) % b) := by
      have : a.tmod b = -((-a).tmod b) := by rw [Int.neg_tmod]; omega
      rw [this, Int.tmod_eq_emod_of_nonneg (by omega)]
    have p1 := Int.emod_nonneg (-a) (show b ≠ 0 by omega)
    have p2 := Int.emod_lt_of_pos (-a) (show 0 < b by omega)
    have e3 := Int.mul_ediv_add_emod (-a) b
    unfold Pl.fd
    rw [if_neg (by omega), hneg, hmod]
    generalize -a / b = q at *
    generalize -a % b = r at *
    have ea : a = -(b * q) - r := by omega
    by_cases hz : r = 0
    · rw [hz, if_neg (by omega)]
      have : a = b * (-q) := by rw [ea, hz, Int.mul_neg]; omega
      rw [this, Int.mul_ediv_cancel_left _ (by omega)]
    · rw [if_pos (by omega)]
      have : a = (b - r) + b * (-q - 1) := by rw [ea, Int.mul_sub, Int.mul_neg, Int.mul_one]; omega
      rw [this, Int.add_mul_ediv_left _ _ (by omega), Int.ediv_eq_zero_of_lt (by omega) (by omega)]
      omega
theorem fdd_r (a b : Int) (w : World) (h0 : -9223372036854775808 ≤ a) (h1 : a ≤ 9223372036854775807) (hb : 1 ≤ b) :
    Calls Try.prog 62 #[.int .i64 a, .int .i64 b] w fun e w' => e = .returned (.int .i64 (a / b)) ∧ w' = w := by
  refine (fd_r a b w h0 h1).mono ?_
  rintro e wn ⟨rfl, rfl⟩
  exact ⟨by rw [fd_eq hb], rfl⟩
set_option maxHeartbeats 1000000 in
theorem Fw_r (t a b c : Int) (w : World) (h : Co.ok3 t a b c) :
    Calls Try.prog 23 #[.int .i64 t, .int .i64 a, .int .i64 b, .int .i64 c] w fun e w' => e = .returned (.tuple #[.int .i64 (Co.fwY t a b c), .int .i64 (Co.fwU t a b c), .int .i64 (Co.fwV t a b c)]) ∧ w' = w := by
  by_cases h1 : t = 1
  · subst h1
    obtain ⟨a0, a1, b0, b1, c0, c1⟩ := h (.inl rfl)
    have : IntKind.i64.wrap (2 * b) = 2 * b := i64_in' _ (by omega) (by omega)
    have : IntKind.i64.wrap (a + 2 * b) = a + 2 * b := i64_in' _ (by omega) (by omega)
    have : IntKind.i64.wrap (a + 2 * b + c) = a + 2 * b + c := i64_in' _ (by omega) (by omega)
    have : IntKind.i64.wrap (c - b) = c - b := i64_in' _ (by omega) (by omega)
    have : IntKind.i64.wrap (a - b) = a - b := i64_in' _ (by omega) (by omega)
    go_enter Try.func23, Try.ntmps23
    go_wp2_with (first | (go_at_call 62; refine (fdd_r _ _ _ (by omega) (by omega) (by decide)).mono ?_; rintro e wn ⟨rfl, hw⟩; replace hw := hw.symm; subst hw))
    go_ret3
    exact ⟨by simp [Co.fwY, Co.fwU, Co.fwV], rfl⟩
  · by_cases h2 : t = 2
    · subst h2
      obtain ⟨a0, a1, b0, b1, c0, c1⟩ := h (.inr rfl)
      have : IntKind.i64.wrap (a - c) = a - c := i64_in' _ (by omega) (by omega)
      have : IntKind.i64.wrap (c + (a - c) / 2) = c + (a - c) / 2 := i64_in' _ (by omega) (by omega)
      have : IntKind.i64.wrap (b - (c + (a - c) / 2)) = b - (c + (a - c) / 2) := i64_in' _ (by omega) (by omega)
      have : IntKind.i64.wrap (c + (a - c) / 2 + (b - (c + (a - c) / 2)) / 2) = c + (a - c) / 2 + (b - (c + (a - c) / 2)) / 2 := i64_in' _ (by omega) (by omega)
      go_enter Try.func23, Try.ntmps23
      go_wp2_with (first | (go_at_call 62; refine (fdd_r _ _ _ (by omega) (by omega) (by decide)).mono ?_; rintro e wn ⟨rfl, hw⟩; replace hw := hw.symm; subst hw))
      go_ret3
      exact ⟨by simp [Co.fwY, Co.fwU, Co.fwV], rfl⟩
    · have e1 : Co.fwY t a b c = a := by unfold Co.fwY; rw [if_neg h1, if_neg h2]
      have e2 : Co.fwU t a b c = b := by unfold Co.fwU; rw [if_neg h1, if_neg h2]
      have e3 : Co.fwV t a b c = c := by unfold Co.fwV; rw [if_neg h1, if_neg h2]
      rw [e1, e2, e3]
      clear e1 e2 e3 h
      go_enter Try.func23, Try.ntmps23
      go_wp2_with fail
      go_ret3
      exact ⟨rfl, rfl⟩
set_option maxHeartbeats 1000000 in
theorem Iv_r (t a b c : Int) (w : World) (h : Co.ok3 t a b c) :
    Calls Try.prog 25 #[.int .i64 t, .int .i64 a, .int .i64 b, .int .i64 c] w fun e w' => e = .returned (.tuple #[.int .i64 (Co.ivA t a b c), .int .i64 (Co.ivB t a b c), .int .i64 (Co.ivC t a b c)]) ∧ w' = w := by
  by_cases h1 : t = 1
  · subst h1
    obtain ⟨a0, a1, b0, b1, c0, c1⟩ := h (.inl rfl)
    have : IntKind.i64.wrap (b + c) = b + c := i64_in' _ (by omega) (by omega)
    have : IntKind.i64.wrap (a - (b + c) / 4) = a - (b + c) / 4 := i64_in' _ (by omega) (by omega)
    have : IntKind.i64.wrap (c + (a - (b + c) / 4)) = c + (a - (b + c) / 4) := i64_in' _ (by omega) (by omega)
    have : IntKind.i64.wrap (b + (a - (b + c) / 4)) = b + (a - (b + c) / 4) := i64_in' _ (by omega) (by omega)
    go_enter Try.func25, Try.ntmps25
    go_wp2_with (first | (go_at_call 62; refine (fdd_r _ _ _ (by omega) (by omega) (by decide)).mono ?_; rintro e wn ⟨rfl, hw⟩; replace hw := hw.symm; subst hw))
    go_ret3
    exact ⟨by simp [Co.ivA, Co.ivB, Co.ivC], rfl⟩
  · by_cases h2 : t = 2
    · subst h2
      obtain ⟨a0, a1, b0, b1, c0, c1⟩ := h (.inr rfl)
      have : IntKind.i64.wrap (a - c / 2) = a - c / 2 := i64_in' _ (by omega) (by omega)
      have : IntKind.i64.wrap (a - c / 2 - b / 2) = a - c / 2 - b / 2 := i64_in' _ (by omega) (by omega)
      have : IntKind.i64.wrap (a - c / 2 - b / 2 + b) = a - c / 2 - b / 2 + b := i64_in' _ (by omega) (by omega)
      have : IntKind.i64.wrap (c + (a - c / 2)) = c + (a - c / 2) := i64_in' _ (by omega) (by omega)
      go_enter Try.func25, Try.ntmps25
      go_wp2_with (first | (go_at_call 62; refine (fdd_r _ _ _ (by omega) (by omega) (by decide)).mono ?_; rintro e wn ⟨rfl, hw⟩; replace hw := hw.symm; subst hw))
      go_ret3
      exact ⟨by simp [Co.ivA, Co.ivB, Co.ivC], rfl⟩
    · have e1 : Co.ivA t a b c = a := by unfold Co.ivA; rw [if_neg h1, if_neg h2]
      have e2 : Co.ivB t a b c = b := by unfold Co.ivB; rw [if_neg h1, if_neg h2]
      have e3 : Co.ivC t a b c = c := by unfold Co.ivC; rw [if_neg h1, if_neg h2]
      rw [e1, e2, e3]
      clear e1 e2 e3 h
      go_enter Try.func25, Try.ntmps25
      go_wp2_with fail
      go_ret3
      exact ⟨rfl, rfl⟩
set_option maxHeartbeats 400000 in
theorem kn_q (t : Int) (w : World) : Calls Try.prog 76 #[.int .i64 t] w fun e w' => e = .returned (.bool (Co.kB t)) ∧ w' = w := by
  by_cases h1 : t = 0
  · subst h1
    go_enter Try.func76, Try.ntmps76
    go_wp2
    go_ret
    exact ⟨rfl, rfl⟩
  by_cases h2 : t = 1
  · subst h2
    go_enter Try.func76, Try.ntmps76
    go_wp2
    go_ret
    exact ⟨rfl, rfl⟩
  by_cases h3 : t = 2
  · subst h3
    go_enter Try.func76, Try.ntmps76
    go_wp2
    go_ret
    exact ⟨rfl, rfl⟩
  go_enter Try.func76, Try.ntmps76
  go_wp2
  all_goals
    go_ret
    exact ⟨ret_bool (by simp [Co.kB, h1, h2, h3]), rfl⟩
set_option maxHeartbeats 400000 in
theorem kn_r (t : Int) (w : World) : Calls Try.prog 77 #[.int .i64 t] w fun e w' => e = .returned (.bool (Co.kB t)) ∧ w' = w := by
  by_cases h1 : t = 0
  · subst h1
    go_enter Try.func77, Try.ntmps77
    go_wp2
    go_ret
    exact ⟨rfl, rfl⟩
  by_cases h2 : t = 1
  · subst h2
    go_enter Try.func77, Try.ntmps77
    go_wp2
    go_ret
    exact ⟨rfl, rfl⟩
  by_cases h3 : t = 2
  · subst h3
    go_enter Try.func77, Try.ntmps77
    go_wp2
    go_ret
    exact ⟨rfl, rfl⟩
  go_enter Try.func77, Try.ntmps77
  go_wp2
  all_goals
    go_ret
    exact ⟨ret_bool (by simp [Co.kB, h1, h2, h3]), rfl⟩
set_option maxHeartbeats 400000 in
theorem dep_q (n : Int) (w : World) : Calls Try.prog 67 #[.int .i64 n] w fun e w' => e = .returned (.bool (Co.dB n)) ∧ w' = w := by
  go_enter Try.func67, Try.ntmps67
  go_wp2
  all_goals
    go_ret
    exact ⟨ret_bool (by simp [Co.dB]; try omega), rfl⟩
set_option maxHeartbeats 400000 in
theorem off_q (n : Int) (sg : Bool) (x y : Int) (w : World) (h : Co.dB n = true) : Calls Try.prog 68 #[.agg #[.int .i64 n, .bool sg, .int .i64 x, .int .i64 y]] w fun e w' => e = .returned (.int .i64 (Co.offC sg n)) ∧ Below w.heap.size w w' := by
  have hd := Co.d_iff.1 h
  cases sg with
  | true =>
    go_enter Try.func68, Try.ntmps68
    go_wp2
    go_ret
    exact ⟨rfl, (Below.refl _ _).alloc (Nat.le_refl _) _⟩
  | false =>
    have he : Hid (Co.offC false n = 2 ^ (n.toNat - 1)) := if_neg (by decide)
    have pb := Co.pw (n := (n.toNat - 1)) (by omega)
    have m1 : min (n.toNat - 1) 64 = (n.toNat - 1) := by omega
    have n0 : 0 ≤ n - 1 := by omega
    have w1 : IntKind.i64.wrap (n - 1) = n - 1 := i64_in' _ (by omega) (by omega)
    have w2 : IntKind.i64.wrap (2 ^ (n.toNat - 1)) = 2 ^ (n.toNat - 1) := i64_in' _ (by omega) (by omega)
    go_enter Try.func68, Try.ntmps68
    go_wp2
    go_ret
    exact ⟨ret_int he.out.symm, (Below.refl _ _).alloc (Nat.le_refl _) _⟩
/-- A block that holds a component. -/
structure CBox (W : World) (B : Nat) (n : Int) (sg : Bool) (x y : Int) : Prop where
  c0 : W.cell? ⟨B, 0, none⟩ = some (.int .i64 n)
  c1 : W.cell? ⟨B, 1, none⟩ = some (.bool sg)
  c2 : W.cell? ⟨B, 2, none⟩ = some (.int .i64 x)
  c3 : W.cell? ⟨B, 3, none⟩ = some (.int .i64 y)
  lt : B < W.heap.size
theorem CBox.fresh (w : World) (n : Int) (sg : Bool) (x y : Int) (t : TypeId) : CBox (w.alloc (.cells #[.int .i64 n, .bool sg, .int .i64 x, .int .i64 y] t)) w.heap.size n sg x y := ⟨by simp, by simp, by simp, by simp, by simp⟩
theorem CBox.below {W w1 : World} {B : Nat} {n : Int} {sg : Bool} {x y : Int} (h : CBox W B n sg x y) (hb : Below W.heap.size W w1) : CBox w1 B n sg x y :=
  ⟨(hb.cell (p := ⟨B, 0, none⟩) h.lt).trans h.c0, (hb.cell (p := ⟨B, 1, none⟩) h.lt).trans h.c1, (hb.cell (p := ⟨B, 2, none⟩) h.lt).trans h.c2, (hb.cell (p := ⟨B, 3, none⟩) h.lt).trans h.c3, Nat.lt_of_lt_of_le h.lt hb.size⟩
structure Cw (w : World) (n : Int) (sg : Bool) (x y : Int) (W : World) : Prop where
  below : Below w.heap.size w W
  box : CBox W w.heap.size n sg x y
theorem Cw.step {w W W1 : World} {n : Int} {sg : Bool} {x y : Int} (h : Cw w n sg x y W) (hb : Below W.heap.size W W1) : Cw w n sg x y W1 := ⟨below_call h.below hb, h.box.below hb⟩
theorem Cw.start (w : World) (n : Int) (sg : Bool) (x y : Int) (t : TypeId) : Cw w n sg x y (w.alloc (.cells #[.int .i64 n, .bool sg, .int .i64 x, .int .i64 y] t)) := ⟨below_alloc (Below.refl _ w) _, CBox.fresh w n sg x y t⟩
set_option maxHeartbeats 1000000 in
theorem rng_q (n : Int) (sg : Bool) (x y : Int) (w : World) : Calls Try.prog 33 #[.agg #[.int .i64 n, .bool sg, .int .i64 x, .int .i64 y]] w fun e w' => e = .returned (.tuple #[.int .i64 (Co.rgL sg n), .int .i64 (Co.rgH sg n)]) ∧ Below w.heap.size w w' := by
  cases h : Co.dB n with
  | false =>
    have eL : Hid (Co.rgL sg n = 0) := if_neg (by rw [h]; decide)
    have eH : Hid (Co.rgH sg n = 0) := if_neg (by rw [h]; decide)
    go_enter Try.func33, Try.ntmps33
    go_wp2_with (go_at_call 67; refine (dep_q _ _).mono ?_; rintro e wn ⟨rfl, hw⟩; replace hw := hw.symm; subst hw)
    go_ret2
    exact ⟨ret_pair eL.out.symm eH.out.symm, (Below.refl _ _).alloc (Nat.le_refl _) _⟩
  | true =>
    have hd := Co.d_iff.1 h
    have pb := Co.pw (n := (n.toNat - 1)) (by omega)
    have eL : Hid (Co.rgL sg n = Co.offC sg n - 2 ^ (n.toNat - 1)) := if_pos h
    have eH : Hid (Co.rgH sg n = Co.offC sg n + 2 ^ (n.toNat - 1) - 1) := if_pos h
    have ob : 0 ≤ Co.offC sg n ∧ Co.offC sg n ≤ 65536 := by unfold Co.offC; split <;> omega
    have co := fun W => off_q n sg x y W h
    generalize Co.offC sg n = O at *
    have m1 : min (n.toNat - 1) 64 = (n.toNat - 1) := by omega
    have n0 : 0 ≤ n - 1 := by omega
    have w1 : IntKind.i64.wrap (n - 1) = n - 1 := i64_in' _ (by omega) (by omega)
    obtain ⟨P, hP⟩ : ∃ P : Int, P = 2 ^ (n.toNat - 1) := ⟨_, rfl⟩
    rw [← hP] at pb eL eH
    replace hP := hP.symm
    have w2 : IntKind.i64.wrap P = P := i64_in' _ (by omega) (by omega)
    have w3 : IntKind.i64.wrap (O - P) = O - P := i64_in' _ (by omega) (by omega)
    have w4 : IntKind.i64.wrap (O + P) = O + P := i64_in' _ (by omega) (by omega)
    have w5 : IntKind.i64.wrap (O + P - 1) = O + P - 1 := i64_in' _ (by omega) (by omega)
    have x0 := Cw.start w n sg x y 42
    go_enter Try.func33, Try.ntmps33
    go_wp2_with (go_at_call 67; refine (dep_q _ _).mono ?_; rintro e wn ⟨rfl, hw⟩; replace hw := hw.symm; subst hw)
    have hst := Fam.next (I := Cw w n sg x y) (fun _ _ p q => p.step q)
    have hne : Nonempty (Fam (Cw w n sg x y)) := ⟨⟨_, x0⟩⟩
    have c0 : ∀ X : Fam (Cw w n sg x y), X.W.cell? ⟨w.heap.size, 0, none⟩ = some (.int .i64 n) := fun X => X.ok.box.c0
    have c1 : ∀ X : Fam (Cw w n sg x y), X.W.cell? ⟨w.heap.size, 1, none⟩ = some (.bool sg) := fun X => X.ok.box.c1
    have c2 : ∀ X : Fam (Cw w n sg x y), X.W.cell? ⟨w.heap.size, 2, none⟩ = some (.int .i64 x) := fun X => X.ok.box.c2
    have c3 : ∀ X : Fam (Cw w n sg x y), X.W.cell? ⟨w.heap.size, 3, none⟩ = some (.int .i64 y) := fun X => X.ok.box.c3
    refine wp_region_in (fun X : Fam (Cw w n sg x y) => X.W) (by kernel_rfl) (by kernel_rfl) ⟨⟨_, x0.step (Below.refl _ _).drew⟩, rfl⟩ ?_
    repeat (first | go_big_quiet_step ((go_at_call 68; exact call_in (co _) (hst _))) | quiet_step ((go_at_call 68; exact call_in (co _) (hst _))))
    refine wpQuiet_nil ?_
    intro w5 hw'
    obtain ⟨⟨_, hS⟩, hw''⟩ := hw'
    subst hw''
    clear hst hne c0 c1 c2 c3
    go_wp2
    go_ret2
    exact ⟨ret_pair eL.out.symm eH.out.symm, hS.below⟩
set_option maxHeartbeats 400000 in
theorem pow_r (n : Int) (w : World) (h0 : 0 ≤ n) (h1 : n ≤ 16) : Calls Try.prog 69 #[.int .i64 n] w fun e w' => e = .returned (.int .i64 (2 ^ n.toNat)) ∧ w' = w := by
  go_enter Try.func69, Try.ntmps69
  go_wp2_with fail
  go_loop [3, 4] (fun u i => ∃ k : Nat, (k : Int) ≤ n ∧ i = .int .i64 k ∧ u = .int .i64 (2 ^ k)) (fun _ i => n.toNat - (intOf i).toNat)
  case atStart => exact ⟨0, by omega, rfl, rfl⟩
  case round =>
    obtain ⟨k, hk, rfl, rfl⟩ := hrel
    by_cases hlt : (k : Int) < n
    · have nx : Hid ((2 : Int) * 2 ^ k = 2 ^ (k + 1)) := by show _ = _; rw [Int.pow_succ, Int.mul_comm]
      have kb := Co.pw (n := k) (by omega)
      have w2 : IntKind.i64.wrap ((k : Int) + 1) = (k : Int) + 1 := i64_in' _ (by omega) (by omega)
      have w3 : IntKind.i64.wrap (2 * 2 ^ k) = 2 * 2 ^ k := i64_in' _ (by omega) (by omega)
      clear kb
      go_wp2_with fail
      go_round
      case rel => exact ⟨k + 1, by omega, by go_num, by rw [nx.out]⟩
      case measure => simp [intOf]; omega
    · have e : Hid (k = n.toNat) := by show _ = _; omega
      go_wp2
      go_ret
      exact ⟨ret_int (by rw [e.out]), rfl⟩
theorem pow1_r (n : Int) (w : World) (h0 : 0 ≤ n - 1) (h1 : n - 1 ≤ 16) : Calls Try.prog 69 #[.int .i64 (n - 1)] w fun e w' => e = .returned (.int .i64 (2 ^ (n.toNat - 1))) ∧ w' = w := by
  have h := pow_r (n - 1) w h0 h1
  rw [show (n - 1).toNat = n.toNat - 1 by omega] at h
  exact h
set_option maxHeartbeats 400000 in
theorem off_r (n : Int) (sg : Bool) (x y : Int) (w : World) (h : Co.dB n = true) : Calls Try.prog 74 #[.agg #[.int .i64 n, .bool sg, .int .i64 x, .int .i64 y]] w fun e w' => e = .returned (.int .i64 (Co.offC sg n)) ∧ Below w.heap.size w w' := by
  have hd := Co.d_iff.1 h
  cases sg with
  | true =>
    go_enter Try.func74, Try.ntmps74
    go_wp2
    go_ret
    exact ⟨rfl, (Below.refl _ _).alloc (Nat.le_refl _) _⟩
  | false =>
    have he : Hid (Co.offC false n = 2 ^ (n.toNat - 1)) := if_neg (by decide)
    have n0 : 0 ≤ n - 1 := by omega
    have n1 : n - 1 ≤ 16 := by omega
    have w1 : IntKind.i64.wrap (n - 1) = n - 1 := i64_in' _ (by omega) (by omega)
    go_enter Try.func74, Try.ntmps74
    go_wp2_with (go_at_call 69; refine (pow_r _ _ n0 n1).mono ?_; rintro e wn ⟨rfl, hw⟩; replace hw := hw.symm; subst hw)
    go_ret
    exact ⟨ret_int he.out.symm, (Below.refl _ _).alloc (Nat.le_refl _) _⟩
set_option maxHeartbeats 1000000 in
theorem rng_r (n : Int) (sg : Bool) (x y : Int) (w : World) : Calls Try.prog 34 #[.agg #[.int .i64 n, .bool sg, .int .i64 x, .int .i64 y]] w fun e w' => e = .returned (.tuple #[.int .i64 (Co.rgL sg n), .int .i64 (Co.rgH sg n)]) ∧ Below w.heap.size w w' := by
  by_cases h1 : n < 1
  · have h : ¬ Co.dB n = true := fun q => by have := Co.d_iff.1 q; omega
    have eL : Hid (Co.rgL sg n = 0) := if_neg h
    have eH : Hid (Co.rgH sg n = 0) := if_neg h
    clear h
    go_enter Try.func34, Try.ntmps34
    go_wp2_with fail
    go_ret2
    exact ⟨ret_pair eL.out.symm eH.out.symm, (Below.refl _ _).alloc (Nat.le_refl _) _⟩
  by_cases h2 : 16 < n
  · have h : ¬ Co.dB n = true := fun q => by have := Co.d_iff.1 q; omega
    have eL : Hid (Co.rgL sg n = 0) := if_neg h
    have eH : Hid (Co.rgH sg n = 0) := if_neg h
    clear h
    go_enter Try.func34, Try.ntmps34
    go_wp2_with fail
    go_ret2
    exact ⟨ret_pair eL.out.symm eH.out.symm, (Below.refl _ _).alloc (Nat.le_refl _) _⟩
  have h : Co.dB n = true := Co.d_iff.2 ⟨by omega, by omega⟩
  have pb := Co.pw (n := (n.toNat - 1)) (by omega)
  have n0 : 0 ≤ n - 1 := by omega
  have n1 : n - 1 ≤ 16 := by omega
  have w1 : IntKind.i64.wrap (n - 1) = n - 1 := i64_in' _ (by omega) (by omega)
  have eL0 : Co.rgL sg n = Co.offC sg n - 2 ^ (n.toNat - 1) := if_pos h
  have eH0 : Co.rgH sg n = Co.offC sg n + 2 ^ (n.toNat - 1) - 1 := if_pos h
  have cp := fun W => pow1_r n W n0 n1
  cases sg with
  | true =>
    have eL : Hid (Co.rgL true n = -(2 ^ (n.toNat - 1))) := by
      show _ = _
      rw [eL0]; unfold Co.offC; rw [if_pos rfl]; omega
    have eH : Hid (Co.rgH true n = 2 ^ (n.toNat - 1) - 1) := by
      show _ = _
      rw [eH0]; unfold Co.offC; rw [if_pos rfl]; omega
    clear eL0 eH0 h
    generalize (2 : Int) ^ (n.toNat - 1) = P at *
    have w3 : IntKind.i64.wrap (-P) = -P := i64_in' _ (by omega) (by omega)
    have w4 : IntKind.i64.wrap (P - 1) = P - 1 := i64_in' _ (by omega) (by omega)
    go_enter Try.func34, Try.ntmps34
    go_wp2_with (go_at_call 69; refine (cp _).mono ?_; rintro e wn ⟨rfl, hw⟩; replace hw := hw.symm; subst hw)
    go_ret2
    exact ⟨ret_pair eL.out.symm eH.out.symm, (Below.refl _ _).alloc (Nat.le_refl _) _⟩
  | false =>
    have eL : Hid (Co.rgL false n = 0) := by
      show _ = _
      rw [eL0]; unfold Co.offC; rw [if_neg (by decide)]; omega
    have eH : Hid (Co.rgH false n = 2 * 2 ^ (n.toNat - 1) - 1) := by
      show _ = _
      rw [eH0]; unfold Co.offC; rw [if_neg (by decide)]; omega
    clear eL0 eH0 h
    generalize (2 : Int) ^ (n.toNat - 1) = P at *
    have w3 : IntKind.i64.wrap (2 * P) = 2 * P := i64_in' _ (by omega) (by omega)
    have w4 : IntKind.i64.wrap (2 * P - 1) = 2 * P - 1 := i64_in' _ (by omega) (by omega)
    go_enter Try.func34, Try.ntmps34
    go_wp2_with (go_at_call 69; refine (cp _).mono ?_; rintro e wn ⟨rfl, hw⟩; replace hw := hw.symm; subst hw)
    go_ret2
    exact ⟨ret_pair eL.out.symm eH.out.symm, (Below.refl _ _).alloc (Nat.le_refl _) _⟩
set_option maxHeartbeats 1000000 in
theorem bd_q (t n : Int) (w : World) : Calls Try.prog 40 #[.int .i64 t, .int .i64 n] w fun e w' => e = .returned (.int .i64 (Co.bdC t n)) ∧ w' = w := by
  cases hk : Co.kB t with
  | false =>
    have he : Hid (Co.bdC t n = 0) := if_neg (fun q => by rw [hk] at q; exact absurd q.1 (by decide))
    go_enter Try.func40, Try.ntmps40
    go_wp2_with (first | (go_at_call 76; refine (kn_q _ _).mono ?_; rintro e wn ⟨rfl, hw⟩; replace hw := hw.symm; subst hw) | (go_at_call 67; refine (dep_q _ _).mono ?_; rintro e wn ⟨rfl, hw⟩; replace hw := hw.symm; subst hw))
    go_ret
    exact ⟨ret_int he.out.symm, rfl⟩
  | true =>
    cases h : Co.dB n with
    | false =>
      have he : Hid (Co.bdC t n = 0) := if_neg (fun q => by rw [h] at q; exact absurd q.2 (by decide))
      have hn : n < 1 ∨ 16 < n := by
        rcases Decidable.em (n < 1 ∨ 16 < n) with q | q
        · exact q
        · rw [Co.d_iff.2 ⟨by omega, by omega⟩] at h; exact absurd h (by decide)
      by_cases n1 : n < 1
      · clear hn
        go_enter Try.func40, Try.ntmps40
        go_wp2_with (first | (go_at_call 76; refine (kn_q _ _).mono ?_; rintro e wn ⟨rfl, hw⟩; replace hw := hw.symm; subst hw) | (go_at_call 67; refine (dep_q _ _).mono ?_; rintro e wn ⟨rfl, hw⟩; replace hw := hw.symm; subst hw))
        go_ret
        exact ⟨ret_int he.out.symm, rfl⟩
      · have n2 : 16 < n := by omega
        clear hn
        go_enter Try.func40, Try.ntmps40
        go_wp2_with (first | (go_at_call 76; refine (kn_q _ _).mono ?_; rintro e wn ⟨rfl, hw⟩; replace hw := hw.symm; subst hw) | (go_at_call 67; refine (dep_q _ _).mono ?_; rintro e wn ⟨rfl, hw⟩; replace hw := hw.symm; subst hw))
        go_ret
        exact ⟨ret_int he.out.symm, rfl⟩
    | true =>
      have hd := Co.d_iff.1 h
      have n1 : ¬ n < 1 := by omega
      have n2 : ¬ 16 < n := by omega
      have n3 : 0 ≤ n - 1 := by omega
      have n4 : n - 1 ≤ 16 := by omega
      have n5 : 0 ≤ n := by omega
      have n6 : n ≤ 16 := by omega
      have pb := Co.pw (n := (n.toNat - 1)) (by omega)
      have pb2 := Co.pw (n := n.toNat) (by omega)
      have m1 : min (n.toNat - 1) 64 = (n.toNat - 1) := by omega
      have m2 : min n.toNat 64 = n.toNat := by omega
      have w1 : IntKind.i64.wrap (n - 1) = n - 1 := i64_in' _ (by omega) (by omega)
      have w2 : IntKind.i64.wrap (2 ^ (n.toNat - 1)) = 2 ^ (n.toNat - 1) := i64_in' _ (by omega) (by omega)
      have w3 : IntKind.i64.wrap (2 ^ n.toNat) = 2 ^ n.toNat := i64_in' _ (by omega) (by omega)
      by_cases t0 : t = 0
      · have he : Hid (Co.bdC t n = 2 ^ (n.toNat - 1)) := by
          show _ = _
          unfold Co.bdC; rw [if_pos ⟨hk, h⟩, if_pos t0]
        subst t0
        go_enter Try.func40, Try.ntmps40
        go_wp2_with (first | (go_at_call 76; refine (kn_q _ _).mono ?_; rintro e wn ⟨rfl, hw⟩; replace hw := hw.symm; subst hw) | (go_at_call 67; refine (dep_q _ _).mono ?_; rintro e wn ⟨rfl, hw⟩; replace hw := hw.symm; subst hw))
        go_ret
        exact ⟨ret_int he.out.symm, rfl⟩
      · have he : Hid (Co.bdC t n = 2 ^ n.toNat) := by
          show _ = _
          unfold Co.bdC; rw [if_pos ⟨hk, h⟩, if_neg t0]
        go_enter Try.func40, Try.ntmps40
        go_wp2_with (first | (go_at_call 76; refine (kn_q _ _).mono ?_; rintro e wn ⟨rfl, hw⟩; replace hw := hw.symm; subst hw) | (go_at_call 67; refine (dep_q _ _).mono ?_; rintro e wn ⟨rfl, hw⟩; replace hw := hw.symm; subst hw))
        go_ret
        exact ⟨ret_int he.out.symm, rfl⟩
set_option maxHeartbeats 1000000 in
theorem bd_r (t n : Int) (w : World) : Calls Try.prog 41 #[.int .i64 t, .int .i64 n] w fun e w' => e = .returned (.int .i64 (Co.bdC t n)) ∧ w' = w := by
  cases hk : Co.kB t with
  | false =>
    have he : Hid (Co.bdC t n = 0) := if_neg (fun q => by rw [hk] at q; exact absurd q.1 (by decide))
    go_enter Try.func41, Try.ntmps41
    go_wp2_with (first | (go_at_call 77; refine (kn_r _ _).mono ?_; rintro e wn ⟨rfl, hw⟩; replace hw := hw.symm; subst hw) | (go_at_call 69; (first | (with_reducible refine (pow_r n _ n5 n6).mono ?_) | (with_reducible refine (pow_r (n - 1) _ n3 n4).mono ?_)); rintro e wn ⟨rfl, hw⟩; replace hw := hw.symm; subst hw))
    go_ret
    exact ⟨ret_int he.out.symm, rfl⟩
  | true =>
    cases h : Co.dB n with
    | false =>
      have he : Hid (Co.bdC t n = 0) := if_neg (fun q => by rw [h] at q; exact absurd q.2 (by decide))
      have hn : n < 1 ∨ 16 < n := by
        rcases Decidable.em (n < 1 ∨ 16 < n) with q | q
        · exact q
        · rw [Co.d_iff.2 ⟨by omega, by omega⟩] at h; exact absurd h (by decide)
      by_cases n1 : n < 1
      · clear hn
        go_enter Try.func41, Try.ntmps41
        go_wp2_with (first | (go_at_call 77; refine (kn_r _ _).mono ?_; rintro e wn ⟨rfl, hw⟩; replace hw := hw.symm; subst hw) | (go_at_call 69; (first | (with_reducible refine (pow_r n _ n5 n6).mono ?_) | (with_reducible refine (pow_r (n - 1) _ n3 n4).mono ?_)); rintro e wn ⟨rfl, hw⟩; replace hw := hw.symm; subst hw))
        go_ret
        exact ⟨ret_int he.out.symm, rfl⟩
      · have n2 : 16 < n := by omega
        clear hn
        go_enter Try.func41, Try.ntmps41
        go_wp2_with (first | (go_at_call 77; refine (kn_r _ _).mono ?_; rintro e wn ⟨rfl, hw⟩; replace hw := hw.symm; subst hw) | (go_at_call 69; (first | (with_reducible refine (pow_r n _ n5 n6).mono ?_) | (with_reducible refine (pow_r (n - 1) _ n3 n4).mono ?_)); rintro e wn ⟨rfl, hw⟩; replace hw := hw.symm; subst hw))
        go_ret
        exact ⟨ret_int he.out.symm, rfl⟩
    | true =>
      have hd := Co.d_iff.1 h
      have n1 : ¬ n < 1 := by omega
      have n2 : ¬ 16 < n := by omega
      have n3 : 0 ≤ n - 1 := by omega
      have n4 : n - 1 ≤ 16 := by omega
      have n5 : 0 ≤ n := by omega
      have n6 : n ≤ 16 := by omega
      have pb := Co.pw (n := (n.toNat - 1)) (by omega)
      have pb2 := Co.pw (n := n.toNat) (by omega)
      have m1 : min (n.toNat - 1) 64 = (n.toNat - 1) := by omega
      have m2 : min n.toNat 64 = n.toNat := by omega
      have w1 : IntKind.i64.wrap (n - 1) = n - 1 := i64_in' _ (by omega) (by omega)
      have w2 : IntKind.i64.wrap (2 ^ (n.toNat - 1)) = 2 ^ (n.toNat - 1) := i64_in' _ (by omega) (by omega)
      have w3 : IntKind.i64.wrap (2 ^ n.toNat) = 2 ^ n.toNat := i64_in' _ (by omega) (by omega)
      by_cases t0 : t = 0
      · have he : Hid (Co.bdC t n = 2 ^ (n.toNat - 1)) := by
          show _ = _
          unfold Co.bdC; rw [if_pos ⟨hk, h⟩, if_pos t0]
        subst t0
        go_enter Try.func41, Try.ntmps41
        go_wp2_with (first | (go_at_call 77; refine (kn_r _ _).mono ?_; rintro e wn ⟨rfl, hw⟩; replace hw := hw.symm; subst hw) | (go_at_call 69; (first | (with_reducible refine (pow_r n _ n5 n6).mono ?_) | (with_reducible refine (pow_r (n - 1) _ n3 n4).mono ?_)); rintro e wn ⟨rfl, hw⟩; replace hw := hw.symm; subst hw))
        go_ret
        exact ⟨ret_int he.out.symm, rfl⟩
      · have he : Hid (Co.bdC t n = 2 ^ n.toNat) := by
          show _ = _
          unfold Co.bdC; rw [if_pos ⟨hk, h⟩, if_neg t0]
        go_enter Try.func41, Try.ntmps41
        go_wp2_with (first | (go_at_call 77; refine (kn_r _ _).mono ?_; rintro e wn ⟨rfl, hw⟩; replace hw := hw.symm; subst hw) | (go_at_call 69; (first | (with_reducible refine (pow_r n _ n5 n6).mono ?_) | (with_reducible refine (pow_r (n - 1) _ n3 n4).mono ?_)); rintro e wn ⟨rfl, hw⟩; replace hw := hw.symm; subst hw))
        go_ret
        exact ⟨ret_int he.out.symm, rfl⟩
end Go.Proofs.Ytadkcgpkbcgeoaa
