/-
  What each call of the reference's functions of layer 8 on numbers returns; how many binary digits a number has.
-/
import Derived.Test.YtkcjbehfhcmiaaaQnC
import Derived.Lib.BitFns
import Derived.Shelf.Strconv.Itoa0
set_option maxRecDepth 100000
namespace Go.Proofs.Ytkcjbehfhcmiaaa
open Go.RowKit

theorem fdp {a b : Int} (h : 1 ≤ b) (ha : 0 ≤ a) : Pl.fd a b = a / b := by
  have t := Int.tdiv_eq_ediv_of_nonneg (b := b) ha
  have m := Int.tmod_nonneg b ha
  unfold Pl.fd
  rw [if_neg (by omega), if_neg (by omega), t]
/-- The reference's division, where neither number is below 0 or the divisor is 1 at least. -/
theorem fdp_r (a b : Int) (w : World) (h0 : 0 ≤ a) (h1 : a ≤ 9223372036854775807) (hb : 1 ≤ b) :
    Calls Try.prog 82 #[.int .i64 a, .int .i64 b] w fun e w' => e = .returned (.int .i64 (a / b)) ∧ w' = w := by
  refine (fd_r a b w (by omega) h1).mono ?_
  rintro e wn ⟨rfl, rfl⟩
  exact ⟨by rw [fdp hb h0], rfl⟩
set_option maxHeartbeats 400000 in
theorem thr_r (s d : Int) (w : World) :
    Calls Try.prog 48 #[.int .i64 s, .int .i64 d] w fun e w' => e = .returned (.int .i64 (Qu.thr s d)) ∧ w' = w := by
  by_cases h : Qu.vB s d = true
  · have hb := Qu.sd_bd h
    have w1 : IntKind.i64.wrap (s * d) = s * d := i64_in' _ (by omega) (by omega)
    have he : Hid (max 1 (s * d / 16) = Qu.thr s d) := (if_pos h).symm
    have b0 := hb.1
    have b1 : s * d ≤ 9223372036854775807 := by omega
    clear hb
    go_enter Try.func48, Try.ntmps48
    go_wp2_with (first | (go_at_call 45; refine (vd_r _ _ _).mono ?_; rintro e wn ⟨rfl, rfl⟩) | (go_at_call 82; refine (fdp_r _ _ _ b0 b1 (by decide)).mono ?_; rintro e wn ⟨rfl, rfl⟩))
    all_goals
      go_ret
      exact ⟨ret_int (by first | exact he.out | (have := he.out; omega)), rfl⟩
  · have he : Hid (Qu.thr s d = 0) := if_neg h
    have h' : Qu.vB s d = false := by simpa using h
    clear h
    go_enter Try.func48, Try.ntmps48
    go_wp2_with (go_at_call 45; refine (vd_r _ _ _).mono ?_; rintro e wn ⟨rfl, rfl⟩)
    go_ret
    exact ⟨ret_int he.out.symm, rfl⟩
set_option maxHeartbeats 400000 in
theorem lim8_r (v b : Int) (w : World) (h0 : 0 ≤ b) (h1 : b ≤ 9223372036854775807) :
    Calls Try.prog 106 #[.int .i64 v, .int .i64 b] w fun e w' => e = .returned (.int .i64 (min (max v (-b)) b)) ∧ w' = w := by
  have hmx := hmxq
  have hmn := hmnq
  have w1 : IntKind.i64.wrap (-b) = -b := i64_in' _ (by omega) (by omega)
  go_enter Try.func106, Try.ntmps106
  go_wp2
  all_goals
    go_ret
    exact ⟨ret_int (by first | rfl | omega), rfl⟩
set_option maxHeartbeats 1000000 in
/-- Quantize of a number that is not below 0. -/
theorem qzp_r (c s d : Int) (w : World) (h0 : 0 ≤ c) (h : Qu.vB s d = true) :
    Calls Try.prog 92 #[.int .i64 c, .int .i64 s, .int .i64 d] w fun e w' => e = .returned (.int .i64 (Qu.qn (min c 281474976710656) s d)) ∧ w' = w := by
  have hN : min (max c (-281474976710656)) 281474976710656 = min c 281474976710656 := by omega
  obtain ⟨N, hN2⟩ : ∃ N, N = min c 281474976710656 := ⟨_, rfl⟩
  have nb : 0 ≤ N ∧ N ≤ 281474976710656 := by omega
  rw [← hN2] at hN ⊢
  clear hN2
  have tb := Qu.thr_bd h
  have hs := Qu.v_iff.1 h
  have t0 : ¬ Qu.thr s d = 0 := by omega
  have n0 : ¬ N < 0 := by omega
  by_cases hl : N < Qu.thr s d
  · have he : Hid (Qu.qn N s d = 0) := Qu.qn_zero hl
    clear hs h
    go_enter Try.func92, Try.ntmps92
    go_wp2_with (first | (go_at_call 48; refine (thr_r _ _ _).mono ?_; rintro e wn ⟨rfl, rfl⟩) | (go_at_call 106; refine (lim8_r _ _ _ (by decide) (by decide)).mono ?_; rintro e wn ⟨rfl, rfl⟩))
    go_ret
    exact ⟨ret_int he.out.symm, rfl⟩
  · have hq : Hid (0 ≤ (N - Qu.thr s d) / s ∧ (N - Qu.thr s d) / s ≤ N - Qu.thr s d) := ⟨Int.ediv_nonneg (by omega) (by omega), Int.ediv_le_self _ (by omega)⟩
    have he : Hid (Qu.qn N s d = 1 + (N - Qu.thr s d) / s) := if_neg hl
    have w2 : IntKind.i64.wrap (N - Qu.thr s d) = N - Qu.thr s d := i64_in' _ (by omega) (by omega)
    have w4 : IntKind.i64.wrap (1 + (N - Qu.thr s d) / s) = 1 + (N - Qu.thr s d) / s := by
      have := hq.out
      exact i64_in' _ (by omega) (by omega)
    have a0 : 0 ≤ N - Qu.thr s d := by omega
    have a1 : N - Qu.thr s d ≤ 9223372036854775807 := by omega
    have s1 := hs.1
    clear hs h
    go_enter Try.func92, Try.ntmps92
    go_wp2_with (first | (go_at_call 48; refine (thr_r _ _ _).mono ?_; rintro e wn ⟨rfl, rfl⟩) | (go_at_call 106; refine (lim8_r _ _ _ (by decide) (by decide)).mono ?_; rintro e wn ⟨rfl, rfl⟩) | (go_at_call 82; refine (fdp_r _ _ _ a0 a1 s1).mono ?_; rintro e wn ⟨rfl, rfl⟩))
    go_ret
    exact ⟨ret_int he.out.symm, rfl⟩
set_option maxHeartbeats 1000000 in
theorem qz_r (c s d : Int) (w : World) :
    Calls Try.prog 92 #[.int .i64 c, .int .i64 s, .int .i64 d] w fun e w' => e = .returned (.int .i64 (Qu.qI c s d)) ∧ w' = w := by
  by_cases h : Qu.vB s d = true
  · by_cases h0 : 0 ≤ c
    · have he : Qu.qI c s d = Qu.qn (min c 281474976710656) s d := by
        unfold Qu.qI; rw [if_pos h]
        have e : Qu.absI c = c := if_neg (by omega)
        rw [e]; exact if_neg (by omega)
      rw [he]
      exact qzp_r c s d w h0 h
    · obtain ⟨N, hN⟩ : ∃ N, N = min (max c (-281474976710656)) 281474976710656 := ⟨_, rfl⟩
      have nb : -281474976710656 ≤ N ∧ N < 0 := by omega
      have ha : min (Qu.absI c) 281474976710656 = min (-N) 281474976710656 := by
        have e : Qu.absI c = -c := if_pos (by omega)
        rw [e]; omega
      have he : Hid (-(Qu.qn (min (-N) 281474976710656) s d) = Qu.qI c s d) := by
        show _ = _
        unfold Qu.qI; rw [if_pos h, ha]; exact (if_pos (by omega)).symm
      have qb : Hid (0 ≤ Qu.qn (min (-N) 281474976710656) s d ∧ Qu.qn (min (-N) 281474976710656) s d ≤ 281474976710656) := by
        have := Qu.qn_le (n := min (-N) 281474976710656) h (by omega)
        exact ⟨Qu.qn_nonneg (Qu.v_iff.1 h).1, by omega⟩
      have t0 : ¬ Qu.thr s d = 0 := by have := Qu.thr_bd h; omega
      have n0 : N < 0 := nb.2
      have n1 : 0 ≤ -N := by omega
      have w1 : IntKind.i64.wrap (-N) = -N := i64_in' _ (by omega) (by omega)
      have cq := fun W => qzp_r (-N) s d W n1 h
      obtain ⟨Z, hZ⟩ : ∃ Z, Z = Qu.qn (min (-N) 281474976710656) s d := ⟨_, rfl⟩
      rw [← hZ] at he qb cq
      have w2 : IntKind.i64.wrap (-Z) = -Z := by have := qb.out; exact i64_in' _ (by omega) (by omega)
      replace hN := hN.symm
      clear hZ ha h h0 nb qb
      go_enter Try.func92, Try.ntmps92
      go_wp2_with (first | (go_at_call 48; refine (thr_r _ _ _).mono ?_; rintro e wn ⟨rfl, rfl⟩) | (go_at_call 106; refine (lim8_r _ _ _ (by decide) (by decide)).mono ?_; rintro e wn ⟨rfl, rfl⟩) | (go_at_call 92; refine (cq _).mono ?_; rintro e wn ⟨rfl, rfl⟩))
      go_ret
      exact ⟨ret_int he.out, rfl⟩
  · have he : Hid (Qu.qI c s d = 0) := if_neg h
    have h' : Qu.thr s d = 0 := if_neg h
    clear h
    go_enter Try.func92, Try.ntmps92
    go_wp2_with (go_at_call 48; refine (thr_r _ _ _).mono ?_; rintro e wn ⟨rfl, rfl⟩)
    go_ret
    exact ⟨ret_int he.out.symm, rfl⟩
theorem lim_abs {v : Int} : min (max v (-1125899906842624)) 1125899906842624 = Qu.sgn (min (Qu.absI v) 1125899906842624) v := by unfold Qu.sgn Qu.absI; split <;> omega
theorem lim_nn {x b : Int} (h : 0 ≤ x) (hb : 0 ≤ b) : min (max x (-b)) b = min x b := by omega
end Go.Proofs.Ytkcjbehfhcmiaaa
