/-
  What each call of quant's functions on numbers returns: contracts.
-/
import Derived.Test.YtkcjbehfhcmiaaaRectA
import Derived.Test.YtkcjbehfhcmiaaaQnt
import Derived.Laws.Shifts
set_option maxRecDepth 100000
namespace Go.Proofs.Ytkcjbehfhcmiaaa
open Go.RowKit

theorem ret_u64 {a b : Int} (h : a = b) : Ending.returned (.int .u64 a) = .returned (.int .u64 b) := by rw [h]
theorem u64_in (n : Int) (h0 : 0 ≤ n) (h1 : n ≤ 18446744073709551615) : IntKind.u64.wrap n = n := IntWalk.u64_in n ⟨h0, h1⟩
theorem i64_in' (n : Int) (h0 : -9223372036854775808 ≤ n) (h1 : n ≤ 9223372036854775807) : IntKind.i64.wrap n = n := IntWalk.i64_in _ (by omega)
set_option maxHeartbeats 400000 in
theorem vd_q (s d : Int) (w : World) :
    Calls Try.prog 42 #[.int .i64 s, .int .i64 d] w fun e w' => e = .returned (.bool (Qu.vB s d)) ∧ w' = w := by
  go_enter Try.func42, Try.ntmps42
  go_wp2
  all_goals
    go_ret
    exact ⟨ret_bool (by simp [Qu.vB]; try omega), rfl⟩
set_option maxHeartbeats 400000 in
theorem vd_r (s d : Int) (w : World) :
    Calls Try.prog 45 #[.int .i64 s, .int .i64 d] w fun e w' => e = .returned (.bool (Qu.vB s d)) ∧ w' = w := by
  go_enter Try.func45, Try.ntmps45
  go_wp2
  all_goals
    go_ret
    exact ⟨ret_bool (by simp [Qu.vB]; try omega), rfl⟩
set_option maxHeartbeats 400000 in
theorem thr_q (s d : Int) (w : World) :
    Calls Try.prog 47 #[.int .i64 s, .int .i64 d] w fun e w' => e = .returned (.int .i64 (Qu.thr s d)) ∧ w' = w := by
  by_cases h : Qu.vB s d = true
  · have hb := Qu.sd_bd h
    have w1 : IntKind.i64.wrap (s * d) = s * d := i64_in' _ (by omega) (by omega)
    have w2 : IntKind.i64.wrap ((s * d).tdiv 16) = s * d / 16 := by rw [Int.tdiv_eq_ediv_of_nonneg hb.1]; exact i64_in' _ (by omega) (by omega)
    have hm : (if s * d / 16 < 1 then 1 else s * d / 16) = max 1 (s * d / 16) := by split <;> omega
    have he : Hid (max 1 (s * d / 16) = Qu.thr s d) := (if_pos h).symm
    clear hb
    go_enter Try.func47, Try.ntmps47
    go_wp2_with (go_at_call 42; refine (vd_q _ _ _).mono ?_; rintro e wn ⟨rfl, rfl⟩)
    all_goals
      go_ret
      exact ⟨ret_int (by first | exact he.out | (have := he.out; omega)), rfl⟩
  · have he : Hid (Qu.thr s d = 0) := if_neg h
    have h' : Qu.vB s d = false := by simpa using h
    clear h
    go_enter Try.func47, Try.ntmps47
    go_wp2_with (go_at_call 42; refine (vd_q _ _ _).mono ?_; rintro e wn ⟨rfl, rfl⟩)
    go_ret
    exact ⟨ret_int he.out.symm, rfl⟩
set_option maxHeartbeats 400000 in
theorem mag_q (v : Int) (w : World) (h0 : -9223372036854775808 ≤ v) (h1 : v ≤ 9223372036854775807) :
    Calls Try.prog 89 #[.int .i64 v] w fun e w' => e = .returned (.int .u64 (Qu.absI v)) ∧ w' = w := by
  by_cases h : v < 0
  · have he : Hid (IntKind.u64.wrap (-IntKind.u64.wrap v) = Qu.absI v) := by
      have e : Qu.absI v = -v := if_pos h
      show _ = _
      rw [e, IntKind.wrap_u64, IntKind.wrap_u64]; omega
    go_enter Try.func89, Try.ntmps89
    go_wp2
    go_ret
    exact ⟨ret_u64 he.out, rfl⟩
  · have he0 : Hid (v = Qu.absI v) := (if_neg h).symm
    have he : Hid (IntKind.u64.wrap v = Qu.absI v) := by
      have e : Qu.absI v = v := if_neg h
      show _ = _
      rw [e, u64_in _ (by omega) (by omega)]
    go_enter Try.func89, Try.ntmps89
    go_wp2
    go_ret
    exact ⟨ret_u64 (by first | exact he.out | exact he0.out), rfl⟩
set_option maxHeartbeats 400000 in
theorem sgi_q (n v : Int) (w : World) (h0 : 0 ≤ n) (_h1 : n ≤ 9223372036854775807) :
    Calls Try.prog 105 #[.int .i64 n, .int .i64 v] w fun e w' => e = .returned (.int .i64 (Qu.sgn n v)) ∧ w' = w := by
  have w1 : IntKind.i64.wrap (-n) = -n := i64_in' _ (by omega) (by omega)
  go_enter Try.func105, Try.ntmps105
  go_wp2
  all_goals
    go_ret
    exact ⟨ret_int (by unfold Qu.sgn; split <;> omega), rfl⟩
theorem hmxq (x y : Int) : (if x < y then y else x) = max x y := by split <;> omega
theorem hmnq (x y : Int) : (if y < x then y else x) = min x y := by split <;> omega
theorem abs_bd {v : Int} (h0 : -9223372036854775808 ≤ v) (h1 : v ≤ 9223372036854775807) : 0 ≤ Qu.absI v ∧ Qu.absI v ≤ 9223372036854775808 := by unfold Qu.absI; split <;> omega
set_option maxHeartbeats 1000000 in
theorem qz_q (c s d : Int) (w : World) (h0 : -9223372036854775808 ≤ c) (h1 : c ≤ 9223372036854775807) :
    Calls Try.prog 90 #[.int .i64 c, .int .i64 s, .int .i64 d] w fun e w' => e = .returned (.int .i64 (Qu.qI c s d)) ∧ w' = w := by
  by_cases h : Qu.vB s d = true
  · have hmn := hmnq
    have ab := abs_bd h0 h1
    obtain ⟨N, hN⟩ : ∃ N, N = min (Qu.absI c) 281474976710656 := ⟨_, rfl⟩
    have nb : 0 ≤ N ∧ N ≤ 281474976710656 := by omega
    have eq : Qu.qI c s d = Qu.sgn (Qu.qn N s d) c := by rw [hN]; exact if_pos h
    have tb := Qu.thr_bd h
    have hs := Qu.v_iff.1 h
    have s0 : ¬ s = 0 := by omega
    have w1 : IntKind.i64.wrap N = N := i64_in' _ (by omega) (by omega)
    replace hN := hN.symm
    by_cases hl : N < Qu.thr s d
    · have he : Hid (Qu.qI c s d = 0) := by
        show _ = _
        rw [eq, Qu.qn_zero hl]; simp [Qu.sgn]
      clear eq hs ab
      go_enter Try.func90, Try.ntmps90
      go_wp2_with (first | (go_at_call 42; refine (vd_q _ _ _).mono ?_; rintro e wn ⟨rfl, rfl⟩) | (go_at_call 89; refine (mag_q _ _ h0 h1).mono ?_; rintro e wn ⟨rfl, rfl⟩) | (go_at_call 47; refine (thr_q _ _ _).mono ?_; rintro e wn ⟨rfl, rfl⟩))
      go_ret
      exact ⟨ret_int he.out.symm, rfl⟩
    · have hq : Hid (0 ≤ (N - Qu.thr s d) / s ∧ (N - Qu.thr s d) / s ≤ N - Qu.thr s d) := ⟨Int.ediv_nonneg (by omega) (by omega), Int.ediv_le_self _ (by omega)⟩
      have he : Hid (Qu.sgn (1 + (N - Qu.thr s d) / s) c = Qu.qI c s d) := by rw [eq, Qu.qn, if_neg hl]; exact rfl
      have w2 : IntKind.i64.wrap (N - Qu.thr s d) = N - Qu.thr s d := i64_in' _ (by omega) (by omega)
      have w3 : IntKind.i64.wrap ((N - Qu.thr s d).tdiv s) = (N - Qu.thr s d) / s := by
        have := hq.out
        rw [Int.tdiv_eq_ediv_of_nonneg (by omega)]; exact i64_in' _ (by omega) (by omega)
      have w4 : IntKind.i64.wrap (1 + (N - Qu.thr s d) / s) = 1 + (N - Qu.thr s d) / s := by
        have := hq.out
        exact i64_in' _ (by omega) (by omega)
      have w5 : 0 ≤ 1 + (N - Qu.thr s d) / s ∧ 1 + (N - Qu.thr s d) / s ≤ 9223372036854775807 := by
        have := hq.out
        omega
      clear eq hs ab
      go_enter Try.func90, Try.ntmps90
      go_wp2_with (first | (go_at_call 42; refine (vd_q _ _ _).mono ?_; rintro e wn ⟨rfl, rfl⟩) | (go_at_call 89; refine (mag_q _ _ h0 h1).mono ?_; rintro e wn ⟨rfl, rfl⟩) | (go_at_call 47; refine (thr_q _ _ _).mono ?_; rintro e wn ⟨rfl, rfl⟩) | (go_at_call 105; refine (sgi_q _ _ _ w5.1 w5.2).mono ?_; rintro e wn ⟨rfl, rfl⟩))
      go_ret
      exact ⟨ret_int he.out, rfl⟩
  · have he : Hid (Qu.qI c s d = 0) := if_neg h
    have h' : Qu.vB s d = false := by simpa using h
    clear h
    go_enter Try.func90, Try.ntmps90
    go_wp2_with (go_at_call 42; refine (vd_q _ _ _).mono ?_; rintro e wn ⟨rfl, rfl⟩)
    go_ret
    exact ⟨ret_int he.out.symm, rfl⟩
theorem ret_pair {a b a' b' : Int} (h : a = a') (h2 : b = b') : Ending.returned (.tuple #[.int .i64 a, .int .i64 b]) = .returned (.tuple #[.int .i64 a', .int .i64 b']) := by rw [h, h2]
theorem lo_hi {n m s d : Int} (h : Qu.vB s d = true) : Qu.loX n s d ≤ Qu.hiX n m s d := by
  rw [Qu.hi_lo]
  have p := Qu.p2 m.toNat
  have hs := (Qu.v_iff.1 h).1
  have := Int.mul_pos p (show (0 : Int) < s by omega)
  omega
theorem lo_pos {n s d : Int} (h : Qu.vB s d = true) (hn : 1 ≤ n) : 1 ≤ Qu.loX n s d := by
  have hs := (Qu.v_iff.1 h).1
  have := Int.mul_nonneg (show (0 : Int) ≤ n - 1 by omega) (show (0 : Int) ≤ s by omega)
  have := Qu.thr_bd h
  unfold Qu.loX; omega
theorem hi_nn {n m s d : Int} (h : Qu.vB s d = true) (hn : 0 ≤ n) : 0 ≤ Qu.hiX n m s d := by
  have hs := (Qu.v_iff.1 h).1
  have p := Qu.p2 m.toNat
  have := Int.mul_nonneg (show (0 : Int) ≤ n + 2 ^ m.toNat - 1 by omega) (show (0 : Int) ≤ s by omega)
  have := Qu.thr_bd h
  unfold Qu.hiX; omega
theorem abs_pos {v : Int} (h : ¬ v = 0) : 1 ≤ Qu.absI v := by unfold Qu.absI; split <;> omega
theorem unB_no {m sh : Int} (h : Qu.unB m sh = false) : sh < 1 ∨ 30 < sh ∨ Qu.mB m = false := by
  rcases Decidable.em (sh < 1 ∨ 30 < sh) with q | q
  · omega
  · refine .inr (.inr ?_)
    cases e : Qu.mB m with
    | false => rfl
    | true => exact absurd ((Qu.un_iff (m := m) (sh := sh)).2 ⟨by omega, by omega, (Qu.m_iff.1 e).1, (Qu.m_iff.1 e).2⟩) (by rw [h]; decide)
end Go.Proofs.Ytkcjbehfhcmiaaa
