/-
  What each call of quant's functions on numbers returns: contracts.
-/
import Derived.Test.YtnmmgjbjnhiaoaaDoorRa19
import Derived.Test.YtnmmgjbjnhiaoaaDoorQnt
import Derived.Laws.Shifts
set_option maxRecDepth 100000
namespace Go.Proofs.YtnmmgjbjnhiaoaaDoor
open Go.RowKit

theorem ret_u64 {a b : Int} (h : a = b) : Ending.returned (.int .u64 a) = .returned (.int .u64 b) := by rw [h]
theorem u64_in (n : Int) (h0 : 0 ≤ n) (h1 : n ≤ 18446744073709551615) : IntKind.u64.wrap n = n := IntWalk.u64_in n ⟨h0, h1⟩
theorem i64_in' (n : Int) (h0 : -9223372036854775808 ≤ n) (h1 : n ≤ 9223372036854775807) : IntKind.i64.wrap n = n := IntWalk.i64_in _ (by omega)
set_option maxHeartbeats 400000 in
theorem vd_q (s d : Int) (w : World) :
    Calls Tryd.prog 31 #[.int .i64 s, .int .i64 d] w fun e w' => e = .returned (.bool (Qu.vB s d)) ∧ w' = w := by
  go_enter Tryd.func31, Tryd.ntmps31
  go_wp2
  all_goals
    go_ret
    exact ⟨ret_bool (by simp [Qu.vB]; try omega), rfl⟩
set_option maxHeartbeats 400000 in
theorem vd_r (s d : Int) (w : World) :
    Calls Tryd.prog 16 #[.int .i64 s, .int .i64 d] w fun e w' => e = .returned (.bool (Qu.vB s d)) ∧ w' = w := by
  go_enter Tryd.func16, Tryd.ntmps16
  go_wp2
  all_goals
    go_ret
    exact ⟨ret_bool (by simp [Qu.vB]; try omega), rfl⟩
set_option maxHeartbeats 400000 in
theorem cnt_q (m : Int) (w : World) :
    Calls Tryd.prog 47 #[.int .i64 m] w fun e w' => e = .returned (.bool (Qu.mB m)) ∧ w' = w := by
  go_enter Tryd.func47, Tryd.ntmps47
  go_wp2
  all_goals
    go_ret
    exact ⟨ret_bool (by simp [Qu.mB]; try omega), rfl⟩
set_option maxHeartbeats 400000 in
theorem thr_q (s d : Int) (w : World) :
    Calls Tryd.prog 61 #[.int .i64 s, .int .i64 d] w fun e w' => e = .returned (.int .i64 (Qu.thr s d)) ∧ w' = w := by
  by_cases h : Qu.vB s d = true
  · have hb := Qu.sd_bd h
    have w1 : IntKind.i64.wrap (s * d) = s * d := i64_in' _ (by omega) (by omega)
    have w2 : IntKind.i64.wrap ((s * d).tdiv 16) = s * d / 16 := by rw [Int.tdiv_eq_ediv_of_nonneg hb.1]; exact i64_in' _ (by omega) (by omega)
    have hm : (if s * d / 16 < 1 then 1 else s * d / 16) = max 1 (s * d / 16) := by split <;> omega
    have he : Hid (max 1 (s * d / 16) = Qu.thr s d) := (if_pos h).symm
    clear hb
    go_enter Tryd.func61, Tryd.ntmps61
    go_wp2_with (go_at_call 31; refine (vd_q _ _ _).mono ?_; rintro e wn ⟨rfl, rfl⟩)
    all_goals
      go_ret
      exact ⟨ret_int (by first | exact he.out | (have := he.out; omega)), rfl⟩
  · have he : Hid (Qu.thr s d = 0) := if_neg h
    have h' : Qu.vB s d = false := by simpa using h
    clear h
    go_enter Tryd.func61, Tryd.ntmps61
    go_wp2_with (go_at_call 31; refine (vd_q _ _ _).mono ?_; rintro e wn ⟨rfl, rfl⟩)
    go_ret
    exact ⟨ret_int he.out.symm, rfl⟩
set_option maxHeartbeats 400000 in
theorem mag_q (v : Int) (w : World) (h0 : -9223372036854775808 ≤ v) (h1 : v ≤ 9223372036854775807) :
    Calls Tryd.prog 48 #[.int .i64 v] w fun e w' => e = .returned (.int .u64 (Qu.absI v)) ∧ w' = w := by
  by_cases h : v < 0
  · have he : Hid (IntKind.u64.wrap (-IntKind.u64.wrap v) = Qu.absI v) := by
      have e : Qu.absI v = -v := if_pos h
      show _ = _
      rw [e, IntKind.wrap_u64, IntKind.wrap_u64]; omega
    go_enter Tryd.func48, Tryd.ntmps48
    go_wp2
    go_ret
    exact ⟨ret_u64 he.out, rfl⟩
  · have he0 : Hid (v = Qu.absI v) := (if_neg h).symm
    have he : Hid (IntKind.u64.wrap v = Qu.absI v) := by
      have e : Qu.absI v = v := if_neg h
      show _ = _
      rw [e, u64_in _ (by omega) (by omega)]
    go_enter Tryd.func48, Tryd.ntmps48
    go_wp2
    go_ret
    exact ⟨ret_u64 (by first | exact he.out | exact he0.out), rfl⟩
set_option maxHeartbeats 400000 in
theorem sgu_q (n v : Int) (w : World) (h0 : 0 ≤ n) (h1 : n ≤ 9223372036854775807) :
    Calls Tryd.prog 51 #[.int .u64 n, .int .i64 v] w fun e w' => e = .returned (.int .i64 (Qu.sgn n v)) ∧ w' = w := by
  have w0 : IntKind.i64.wrap n = n := i64_in' _ (by omega) (by omega)
  have w1 : IntKind.i64.wrap (-n) = -n := i64_in' _ (by omega) (by omega)
  go_enter Tryd.func51, Tryd.ntmps51
  go_wp2
  all_goals
    go_ret
    exact ⟨ret_int (by unfold Qu.sgn; split <;> omega), rfl⟩
set_option maxHeartbeats 400000 in
theorem tms_q (a s : Int) (w : World) (h0 : 0 ≤ a) (_h1 : a ≤ 18446744073709551615) (hs : 1 ≤ s) (hs' : s ≤ 65536) :
    Calls Tryd.prog 62 #[.int .u64 a, .int .u64 s] w fun e w' => e = .returned (.int .u64 (Qu.tC a s)) ∧ w' = w := by
  have hd : Hid (0 ≤ (4611686018427387904 : Int) / s ∧ (4611686018427387904 : Int) / s ≤ 4611686018427387904) := ⟨Int.ediv_nonneg (by decide) (by omega), Int.ediv_le_self _ (by decide)⟩
  have w1 : IntKind.u64.wrap ((4611686018427387904 : Int).tdiv s) = 4611686018427387904 / s := by
    rw [Int.tdiv_eq_ediv_of_nonneg (by decide)]; exact u64_in _ hd.out.1 (by have := hd.out.2; omega)
  have s0 : ¬ s = 0 := by omega
  have hc := Qu.tC_or hs h0
  by_cases h : 4611686018427387904 / s < a
  · have he : Hid (Qu.tC a s = 4611686018427387904) := if_pos h
    clear hc
    go_enter Tryd.func62, Tryd.ntmps62
    go_wp2
    go_ret
    exact ⟨ret_u64 he.out.symm, rfl⟩
  · have he : Hid (Qu.tC a s = a * s) := if_neg h
    have w2 : IntKind.u64.wrap (a * s) = a * s := by
      have := he.out
      rcases hc with ⟨_, _, _⟩ | ⟨_, _⟩
      · exact u64_in _ (by omega) (by omega)
      · omega
    clear hc
    go_enter Tryd.func62, Tryd.ntmps62
    go_wp2
    go_ret
    exact ⟨ret_u64 he.out.symm, rfl⟩
theorem hmxq (x y : Int) : (if x < y then y else x) = max x y := by split <;> omega
theorem hmnq (x y : Int) : (if y < x then y else x) = min x y := by split <;> omega
theorem abs_bd {v : Int} (h0 : -9223372036854775808 ≤ v) (h1 : v ≤ 9223372036854775807) : 0 ≤ Qu.absI v ∧ Qu.absI v ≤ 9223372036854775808 := by unfold Qu.absI; split <;> omega
set_option maxHeartbeats 1000000 in
theorem near_q (n s d : Int) (w : World) (h : Qu.vB s d = true) (h0 : 1 ≤ n) (h1 : n ≤ 9223372036854775808) :
    Calls Tryd.prog 49 #[.int .u64 n, .int .i64 s, .int .i64 d] w fun e w' => e = .returned (.int .u64 (Qu.thr s d + Qu.tC (n - 1) s)) ∧ w' = w := by
  have tb := Qu.thr_bd h
  have hs := Qu.v_iff.1 h
  have w1 : IntKind.u64.wrap (Qu.thr s d) = Qu.thr s d := u64_in _ (by omega) (by omega)
  have w2 : IntKind.u64.wrap (n - 1) = n - 1 := u64_in _ (by omega) (by omega)
  have w3 : IntKind.u64.wrap s = s := u64_in _ (by omega) (by omega)
  have hb : 0 ≤ Qu.tC (n - 1) s ∧ Qu.tC (n - 1) s ≤ 4611686018427387904 := by rcases Qu.tC_or (s := s) (a := n - 1) hs.1 (by omega) with ⟨e, _⟩ | ⟨e, _⟩ <;> omega
  have w4 : IntKind.u64.wrap (Qu.thr s d + Qu.tC (n - 1) s) = Qu.thr s d + Qu.tC (n - 1) s := u64_in _ (by omega) (by omega)
  have a0 : 0 ≤ n - 1 := by omega
  have a1 : n - 1 ≤ 18446744073709551615 := by omega
  clear hb tb
  go_enter Tryd.func49, Tryd.ntmps49
  go_wp2_with (first | (go_at_call 61; refine (thr_q _ _ _).mono ?_; rintro e wn ⟨rfl, rfl⟩) | (go_at_call 62; refine (tms_q _ _ _ a0 a1 hs.1 hs.2.1).mono ?_; rintro e wn ⟨rfl, rfl⟩))
  go_ret
  exact ⟨rfl, rfl⟩
set_option maxHeartbeats 1000000 in
theorem far_q (n m s d : Int) (w : World) (h : Qu.vB s d = true) (hm : Qu.mB m = true) (h0 : 0 ≤ n) (h1 : n ≤ 9223372036854775808) :
    Calls Tryd.prog 50 #[.int .u64 n, .int .i64 m, .int .i64 s, .int .i64 d] w fun e w' => e = .returned (.int .u64 (Qu.thr s d - 1 + Qu.tC (n + 2 ^ m.toNat - 1) s)) ∧ w' = w := by
  have tb := Qu.thr_bd h
  have hs := Qu.v_iff.1 h
  have hm' := Qu.m_iff.1 hm
  have pb := Qu.pow_bd m.toNat (by omega)
  have m1 : min m.toNat 64 = m.toNat := by omega
  obtain ⟨P, hP⟩ : ∃ P : Int, P = 2 ^ m.toNat := ⟨_, rfl⟩
  rw [← hP] at pb ⊢
  replace hP := hP.symm
  have w0 : IntKind.u64.wrap P = P := u64_in _ (by omega) (by omega)
  have w5 : IntKind.u64.wrap (n + P) = n + P := u64_in _ (by omega) (by omega)
  have w1 : IntKind.u64.wrap (Qu.thr s d) = Qu.thr s d := u64_in _ (by omega) (by omega)
  have w6 : IntKind.u64.wrap (Qu.thr s d - 1) = Qu.thr s d - 1 := u64_in _ (by omega) (by omega)
  have w2 : IntKind.u64.wrap (n + P - 1) = n + P - 1 := u64_in _ (by omega) (by omega)
  have w3 : IntKind.u64.wrap s = s := u64_in _ (by omega) (by omega)
  have hb : 0 ≤ Qu.tC (n + P - 1) s ∧ Qu.tC (n + P - 1) s ≤ 4611686018427387904 := by rcases Qu.tC_or (s := s) (a := n + P - 1) hs.1 (by omega) with ⟨e, _⟩ | ⟨e, _⟩ <;> omega
  have w4 : IntKind.u64.wrap (Qu.thr s d - 1 + Qu.tC (n + P - 1) s) = Qu.thr s d - 1 + Qu.tC (n + P - 1) s := u64_in _ (by omega) (by omega)
  have a0 : 0 ≤ n + P - 1 := by omega
  have a1 : n + P - 1 ≤ 18446744073709551615 := by omega
  have m0 : 0 ≤ m := hm'.1
  clear hb tb hm'
  go_enter Tryd.func50, Tryd.ntmps50
  go_wp2_with (first | (go_at_call 61; refine (thr_q _ _ _).mono ?_; rintro e wn ⟨rfl, rfl⟩) | (go_at_call 62; refine (tms_q _ _ _ a0 a1 hs.1 hs.2.1).mono ?_; rintro e wn ⟨rfl, rfl⟩))
  go_ret
  exact ⟨rfl, rfl⟩
theorem ret_pair {a b a' b' : Int} (h : a = a') (h2 : b = b') : Ending.returned (.tuple #[.int .i64 a, .int .i64 b]) = .returned (.tuple #[.int .i64 a', .int .i64 b']) := by rw [h, h2]
theorem lo_hi {n m s d : Int} (h : Qu.vB s d = true) : Qu.loX n s d ≤ Qu.hiX n m s d := by
  rw [Qu.hi_lo]
  have p := Qu.p2 m.toNat
  have hs := (Qu.v_iff.1 h).1
  have := Int.mul_pos p (show (0 : Int) < s by omega)
  omega
theorem lo_pos {n s d : Int} (h : Qu.vB s d = true) (hn : 1 ≤ n) : 1 ≤ Qu.loX n s d := by
  have hs := (Qu.v_iff.1 h).1
  have := Int.mul_nonneg (show (0 : Int) ≤ n - 1 by omega) (show (0 : Int) ≤ s by omega)
  have := Qu.thr_bd h
  unfold Qu.loX; omega
theorem hi_nn {n m s d : Int} (h : Qu.vB s d = true) (hn : 0 ≤ n) : 0 ≤ Qu.hiX n m s d := by
  have hs := (Qu.v_iff.1 h).1
  have p := Qu.p2 m.toNat
  have := Int.mul_nonneg (show (0 : Int) ≤ n + 2 ^ m.toNat - 1 by omega) (show (0 : Int) ≤ s by omega)
  have := Qu.thr_bd h
  unfold Qu.hiX; omega
theorem abs_pos {v : Int} (h : ¬ v = 0) : 1 ≤ Qu.absI v := by unfold Qu.absI; split <;> omega
set_option maxHeartbeats 2000000 in
theorem rec_q (v m s d : Int) (w : World) (h0 : -9223372036854775808 ≤ v) (h1 : v ≤ 9223372036854775807) :
    Calls Tryd.prog 29 #[.int .i64 v, .int .i64 m, .int .i64 s, .int .i64 d] w fun e w' => e = .returned (.int .i64 (Qu.rec_ v m s d)) ∧ w' = w := by
  by_cases hv : v = 0
  · subst hv
    have he : Hid (Qu.rec_ 0 m s d = 0) := if_neg (fun q => q.1 rfl)
    go_enter Tryd.func29, Tryd.ntmps29
    go_wp2_with fail
    go_ret
    exact ⟨ret_int he.out.symm, rfl⟩
  · by_cases h : Qu.vB s d = true
    · by_cases hm : Qu.mB m = true
      · have hmn := hmnq
        have ab := abs_bd h0 h1
        have ap := abs_pos hv
        have he0 : Qu.rec_ v m s d = Qu.sgn (min ((Qu.loX (Qu.absI v) s d + Qu.hiX (Qu.absI v) m s d) / 2) 4294967296) v := if_pos ⟨hv, h, hm⟩
        rw [← Qu.mid_min h hm ap] at he0
        have tb := Qu.thr_bd h
        have hs := Qu.v_iff.1 h
        have pb := Qu.p2 m.toNat
        have b1 : 0 ≤ Qu.tC (Qu.absI v - 1) s ∧ Qu.tC (Qu.absI v - 1) s ≤ 4611686018427387904 := by rcases Qu.tC_or (s := s) (a := Qu.absI v - 1) hs.1 (by omega) with ⟨e, _⟩ | ⟨e, _⟩ <;> omega
        have b2 : 0 ≤ Qu.tC (Qu.absI v + 2 ^ m.toNat - 1) s ∧ Qu.tC (Qu.absI v + 2 ^ m.toNat - 1) s ≤ 4611686018427387904 := by rcases Qu.tC_or (s := s) (a := Qu.absI v + 2 ^ m.toNat - 1) hs.1 (by omega) with ⟨e, _⟩ | ⟨e, _⟩ <;> omega
        obtain ⟨X, hX⟩ : ∃ X, X = Qu.thr s d + Qu.tC (Qu.absI v - 1) s := ⟨_, rfl⟩
        obtain ⟨Y, hY⟩ : ∃ Y, Y = Qu.thr s d - 1 + Qu.tC (Qu.absI v + 2 ^ m.toNat - 1) s := ⟨_, rfl⟩
        rw [← hX, ← hY] at he0
        have xb : 0 ≤ X ∧ X ≤ 4611686018427519000 := by omega
        have yb : 0 ≤ Y ∧ Y ≤ 4611686018427519000 := by omega
        clear tb b1 b2 pb
        replace hX := hX.symm
        replace hY := hY.symm
        have w1 : IntKind.u64.wrap (X + Y) = X + Y := u64_in _ (by omega) (by omega)
        have w2 : IntKind.u64.wrap ((X + Y).tdiv 2) = (X + Y) / 2 := by rw [Int.tdiv_eq_ediv_of_nonneg (by omega)]; exact u64_in _ (by omega) (by omega)
        have e2 : 0 ≤ min ((X + Y) / 2) 4294967296 ∧ min ((X + Y) / 2) 4294967296 ≤ 9223372036854775807 := by omega
        have he : Hid _ := he0
        clear he0 xb yb
        go_enter Tryd.func29, Tryd.ntmps29
        go_wp2_with (first | (go_at_call 31; refine (vd_q _ _ _).mono ?_; rintro e wn ⟨rfl, rfl⟩) | (go_at_call 47; refine (cnt_q _ _).mono ?_; rintro e wn ⟨rfl, rfl⟩) | (go_at_call 48; refine (mag_q _ _ h0 h1).mono ?_; rintro e wn ⟨rfl, rfl⟩) | (go_at_call 50; refine (far_q _ _ _ _ _ h hm ab.1 ab.2).mono ?_; rintro e wn ⟨rfl, rfl⟩) | (go_at_call 49; refine (near_q _ _ _ _ h ap ab.2).mono ?_; rintro e wn ⟨rfl, rfl⟩) | (go_at_call 51; refine (sgu_q _ _ _ e2.1 e2.2).mono ?_; rintro e wn ⟨rfl, rfl⟩))
        go_ret
        exact ⟨ret_int he.out.symm, rfl⟩
      · have he : Hid (Qu.rec_ v m s d = 0) := if_neg (fun q => hm q.2.2)
        have h' : Qu.mB m = false := by simpa using hm
        clear hm
        go_enter Tryd.func29, Tryd.ntmps29
        go_wp2_with (first | (go_at_call 31; refine (vd_q _ _ _).mono ?_; rintro e wn ⟨rfl, rfl⟩) | (go_at_call 47; refine (cnt_q _ _).mono ?_; rintro e wn ⟨rfl, rfl⟩))
        go_ret
        exact ⟨ret_int he.out.symm, rfl⟩
    · have he : Hid (Qu.rec_ v m s d = 0) := if_neg (fun q => h q.2.1)
      have h' : Qu.vB s d = false := by simpa using h
      clear h
      go_enter Tryd.func29, Tryd.ntmps29
      go_wp2_with (first | (go_at_call 31; refine (vd_q _ _ _).mono ?_; rintro e wn ⟨rfl, rfl⟩))
      go_ret
      exact ⟨ret_int he.out.symm, rfl⟩
theorem unB_no {m sh : Int} (h : Qu.unB m sh = false) : sh < 1 ∨ 30 < sh ∨ Qu.mB m = false := by
  rcases Decidable.em (sh < 1 ∨ 30 < sh) with q | q
  · omega
  · refine .inr (.inr ?_)
    cases e : Qu.mB m with
    | false => rfl
    | true => exact absurd ((Qu.un_iff (m := m) (sh := sh)).2 ⟨by omega, by omega, (Qu.m_iff.1 e).1, (Qu.m_iff.1 e).2⟩) (by rw [h]; decide)
set_option maxHeartbeats 2000000 in
theorem un_q (v m sh : Int) (w : World) (h0 : -9223372036854775808 ≤ v) (h1 : v ≤ 9223372036854775807) :
    Calls Tryd.prog 46 #[.int .i64 v, .int .i64 m, .int .i64 sh] w fun e w' => e = .returned (.tuple #[.int .i64 (Qu.unV v m sh), .int .i64 (Qu.unM v m sh)]) ∧ w' = w := by
  cases h : Qu.unB m sh with
  | false =>
    have eV : Hid (Qu.unV v m sh = v) := if_neg (fun q => by rw [h] at q; exact absurd q.1 (by decide))
    have eM : Hid (Qu.unM v m sh = m) := if_neg (fun q => by rw [h] at q; exact absurd q (by decide))
    rcases unB_no h with q | q | q
    · clear h
      go_enter Tryd.func46, Tryd.ntmps46
      go_wp2_with (first | (go_at_call 47; refine (cnt_q _ _).mono ?_; rintro e wn ⟨rfl, rfl⟩))
      go_ret2
      exact ⟨ret_pair eV.out.symm eM.out.symm, rfl⟩
    · have q' : ¬ sh < 1 := by omega
      clear h
      go_enter Tryd.func46, Tryd.ntmps46
      go_wp2_with (first | (go_at_call 47; refine (cnt_q _ _).mono ?_; rintro e wn ⟨rfl, rfl⟩))
      go_ret2
      exact ⟨ret_pair eV.out.symm eM.out.symm, rfl⟩
    · clear h
      go_enter Tryd.func46, Tryd.ntmps46
      go_wp2_with (first | (go_at_call 47; refine (cnt_q _ _).mono ?_; rintro e wn ⟨rfl, rfl⟩))
      all_goals
        go_ret2
        exact ⟨ret_pair eV.out.symm eM.out.symm, rfl⟩
  | true =>
    have hu := Qu.un_iff.1 h
    have hm : Qu.mB m = true := Qu.m_iff.2 ⟨hu.2.2.1, hu.2.2.2⟩
    have hmn := hmnq
    have hmx := hmxq
    have ab := abs_bd h0 h1
    have s1 : ¬ sh < 1 := by omega
    have s2 : ¬ 30 < sh := by omega
    have s0 : 0 ≤ sh := by omega
    have m1 : min sh.toNat 64 = sh.toNat := by omega
    have w1 : IntKind.i64.wrap (m - sh) = m - sh := i64_in' _ (by omega) (by omega)
    obtain ⟨D, hD⟩ : ∃ D, D = Qu.absI v / 2 ^ sh.toNat := ⟨_, rfl⟩
    have db : 0 ≤ D ∧ D ≤ 4611686018427387904 := by
      have p : (2 : Int) ^ 1 ≤ 2 ^ sh.toNat := by exact_mod_cast Nat.pow_le_pow_right (by decide) (show 1 ≤ sh.toNat by omega)
      have q1 := Int.ediv_nonneg ab.1 (show (0 : Int) ≤ 2 ^ sh.toNat by omega)
      have q2 : Qu.absI v / 2 ^ sh.toNat ≤ 4611686018427387904 := Int.ediv_le_of_le_mul (by omega) (by omega)
      rw [hD]
      omega
    by_cases hz : D = 0
    · have eV : Hid (Qu.unV v m sh = v) := if_neg (fun q => q.2 (hD ▸ hz))
      have eM : Hid (Qu.unM v m sh = min m sh) := by
        show _ = _
        unfold Qu.unM; rw [if_pos h, ← hD, if_neg (by simp [hz])]
      replace hD := hD.symm
      rw [hz] at hD
      clear h hu db
      go_enter Tryd.func46, Tryd.ntmps46
      go_wp2_with (first | (go_at_call 47; refine (cnt_q _ _).mono ?_; rintro e wn ⟨rfl, rfl⟩) | (go_at_call 48; refine (mag_q _ _ h0 h1).mono ?_; rintro e wn ⟨rfl, rfl⟩))
      go_ret2
      exact ⟨ret_pair eV.out.symm eM.out.symm, rfl⟩
    · have eV : Hid (Qu.unV v m sh = Qu.sgn D v) := by
        show _ = _
        unfold Qu.unV; rw [← hD, if_pos ⟨h, hz⟩]
      have eM : Hid (Qu.unM v m sh = max 0 (m - sh)) := by
        show _ = _
        unfold Qu.unM; rw [if_pos h, ← hD, if_pos hz]
      replace hD := hD.symm
      have e2 : 0 ≤ D ∧ D ≤ 9223372036854775807 := by omega
      clear h hu db
      go_enter Tryd.func46, Tryd.ntmps46
      go_wp2_with (first | (go_at_call 47; refine (cnt_q _ _).mono ?_; rintro e wn ⟨rfl, rfl⟩) | (go_at_call 48; refine (mag_q _ _ h0 h1).mono ?_; rintro e wn ⟨rfl, rfl⟩) | (go_at_call 51; refine (sgu_q _ _ _ e2.1 e2.2).mono ?_; rintro e wn ⟨rfl, rfl⟩))
      all_goals
        go_ret2
        exact ⟨ret_pair eV.out.symm (by have := eM.out; omega), rfl⟩
end Go.Proofs.YtnmmgjbjnhiaoaaDoor
