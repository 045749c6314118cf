/-
  The rest of the reference of layer 8 on numbers; binary digits.
-/
import Derived.Test.YtadkcgpkbcgeoaaQnR
set_option maxRecDepth 100000
namespace Go.Proofs.Ytadkcgpkbcgeoaa
open Go.RowKit

set_option maxHeartbeats 2000000 in
/-- Reconstruct of an index above 0. -/
theorem recp_r (v m s d : Int) (w : World) (hv : 1 ≤ v) (h : Qu.vB s d = true) (hm : Qu.mB m = true) :
    Calls Try.prog 53 #[.int .i64 v, .int .i64 m, .int .i64 s, .int .i64 d] w fun e w' => e = .returned (.int .i64 (min ((Qu.loX v s d + Qu.hiX v m s d) / 2) 4294967296)) ∧ w' = w := by
  have hb : (Qu.vB s d && Qu.mB m) = true := by rw [h, hm]; rfl
  have tb := Qu.thr_bd h
  have s1 := (Qu.v_iff.1 h).1
  have sb := Qu.sp_bd (m := m.toNat) s1
  obtain ⟨N, hN⟩ : ∃ N, N = min v 1125899906842624 := ⟨_, rfl⟩
  have nb : 1 ≤ N ∧ N ≤ 1125899906842624 := by omega
  have la : min (max v (-1125899906842624)) 1125899906842624 = N := by omega
  have rm := Qu.ref_mid h hm hv
  rw [← hN] at rm
  have rb : 0 ≤ Qu.tR (N - 1) s ∧ Qu.tR (N - 1) s ≤ 1125899906842624 := by rcases Qu.tR_or (s := s) (a := N - 1) s1 (by omega) with ⟨e, _⟩ | ⟨e, _⟩ <;> omega
  have ce := fun W => ends_r N m s d W h hm nb.1 nb.2
  obtain ⟨X, hX⟩ : ∃ X, X = Qu.thr s d + Qu.tR (N - 1) s := ⟨_, rfl⟩
  obtain ⟨Y, hY⟩ : ∃ Y, Y = X + Qu.spR m.toNat s - 1 := ⟨_, rfl⟩
  rw [← hX] at rm ce
  rw [← hY] at rm ce
  have xb : 1 ≤ X ∧ 0 ≤ Y ∧ X ≤ 1125899907000000 ∧ Y ≤ 2251799814000000 := by omega
  have w1 : IntKind.i64.wrap (X + Y) = X + Y := i64_in' _ (by omega) (by omega)
  have a0 : 0 ≤ X + Y := by omega
  have a1 : X + Y ≤ 9223372036854775807 := by omega
  have lm : Hid (min (max ((X + Y) / 2) (-4294967296)) 4294967296 = min ((Qu.loX v s d + Qu.hiX v m s d) / 2) 4294967296) := by
    show _ = _
    rw [← rm]; omega
  have v0 : ¬ v = 0 := by omega
  have n0 : ¬ N < 0 := by omega
  clear hN hX hY rm rb sb tb xb nb h hm
  go_enter Try.func53, Try.ntmps53
  go_wp2_with (first | (go_at_call 85; refine (val_r _ _ _ _).mono ?_; rintro e wn ⟨rfl, rfl⟩) | (go_at_call 80; refine (lim8_r _ _ _ (by decide) (by decide)).mono ?_; rintro e wn ⟨rfl, rfl⟩) | (go_at_call 87; refine (ce _).mono ?_; rintro e wn ⟨rfl, rfl⟩) | (go_at_call 62; refine (fdp_r _ _ _ a0 a1 (by decide)).mono ?_; rintro e wn ⟨rfl, rfl⟩))
  go_ret
  exact ⟨ret_int lm.out, rfl⟩
theorem lim_abs2 {v : Int} : min (Qu.absI v) 1125899906842624 = Qu.absI (min (max v (-1125899906842624)) 1125899906842624) := by unfold Qu.absI; split <;> split <;> omega
set_option maxHeartbeats 2000000 in
theorem rec_r (v m s d : Int) (w : World) :
    Calls Try.prog 53 #[.int .i64 v, .int .i64 m, .int .i64 s, .int .i64 d] w fun e w' => e = .returned (.int .i64 (Qu.rec_ v m s d)) ∧ w' = w := by
  by_cases hb : (Qu.vB s d && Qu.mB m) = true
  · obtain ⟨h, hm⟩ : Qu.vB s d = true ∧ Qu.mB m = true := by simpa using hb
    by_cases hv : v = 0
    · subst hv
      have he : Hid (Qu.rec_ 0 m s d = 0) := if_neg (fun q => q.1 rfl)
      clear h hm
      go_enter Try.func53, Try.ntmps53
      go_wp2_with (go_at_call 85; refine (val_r _ _ _ _).mono ?_; rintro e wn ⟨rfl, rfl⟩)
      go_ret
      exact ⟨ret_int he.out.symm, rfl⟩
    · by_cases hn : v < 0
      · have ap := abs_pos hv
        obtain ⟨N, hN⟩ : ∃ N, N = min (Qu.absI v) 1125899906842624 := ⟨_, rfl⟩
        have nb : 1 ≤ N ∧ N ≤ 1125899906842624 := by omega
        have la : min (max v (-1125899906842624)) 1125899906842624 = -N := by
          have := lim_abs (v := v)
          rw [← hN] at this
          rw [this]; exact if_pos hn
        have r1 := Qu.ref_mid h hm ap
        have r2 := Qu.ref_mid (n := N) h hm nb.1
        have eN : min N 1125899906842624 = N := by omega
        rw [← hN] at r1
        rw [eN] at r2
        have he0 : Qu.rec_ v m s d = -(min ((Qu.loX N s d + Qu.hiX N m s d) / 2) 4294967296) := by
          unfold Qu.rec_; rw [if_pos ⟨hv, h, hm⟩, ← r1, r2]; exact if_pos hn
        have cr := fun W => recp_r N m s d W nb.1 h hm
        have l1 := lo_pos (n := N) h nb.1
        have l2 := lo_hi (n := N) (m := m) h
        obtain ⟨Z, hZ⟩ : ∃ Z, Z = min ((Qu.loX N s d + Qu.hiX N m s d) / 2) 4294967296 := ⟨_, rfl⟩
        have zb : 0 ≤ Z ∧ Z ≤ 4294967296 := by omega
        rw [← hZ] at he0 cr
        have he : Hid _ := he0
        have w1 : IntKind.i64.wrap (- -N) = N := by rw [Int.neg_neg]; exact i64_in' _ (by omega) (by omega)
        have w1' : IntKind.i64.wrap N = N := i64_in' _ (by omega) (by omega)
        have w2 : IntKind.i64.wrap (-Z) = -Z := i64_in' _ (by omega) (by omega)
        have n1 : -N < 0 := by omega
        clear hN r1 r2 eN he0 l1 l2 hZ zb nb ap h hm hn
        go_enter Try.func53, Try.ntmps53
        go_wp2_with (first | (go_at_call 85; refine (val_r _ _ _ _).mono ?_; rintro e wn ⟨rfl, rfl⟩) | (go_at_call 80; refine (lim8_r _ _ _ (by decide) (by decide)).mono ?_; rintro e wn ⟨rfl, rfl⟩) | (go_at_call 53; refine (cr _).mono ?_; rintro e wn ⟨rfl, rfl⟩))
        go_ret
        exact ⟨ret_int he.out.symm, rfl⟩
      · have he : Qu.rec_ v m s d = min ((Qu.loX v s d + Qu.hiX v m s d) / 2) 4294967296 := by
          have e : Qu.absI v = v := if_neg hn
          unfold Qu.rec_; rw [if_pos ⟨hv, h, hm⟩, e]; exact if_neg hn
        rw [he]
        exact recp_r v m s d w (by omega) h hm
  · have he : Hid (Qu.rec_ v m s d = 0) := if_neg (fun q => hb (by rw [q.2.1, q.2.2]; rfl))
    have h' : (Qu.vB s d && Qu.mB m) = false := by simpa using hb
    clear hb
    go_enter Try.func53, Try.ntmps53
    go_wp2_with (go_at_call 85; refine (val_r _ _ _ _).mono ?_; rw [h']; rintro e wn ⟨rfl, rfl⟩)
    go_ret
    exact ⟨ret_int he.out.symm, rfl⟩
theorem bitAux_up (f : Nat) : ∀ x : Nat, x < 2 ^ f → Lib.bitLenAux (f + 1) x = Lib.bitLenAux f x := by
  induction f with
  | zero => intro x hx; simp at hx; subst hx; simp [Lib.bitLenAux]
  | succ f ih =>
    intro x hx
    have h := ih (x / 2) (by rw [Nat.pow_succ] at hx; omega)
    rw [Lib.bitLenAux]
    by_cases h0 : x = 0
    · simp [h0, Lib.bitLenAux]
    · rw [if_neg h0, h]
      conv => rhs; rw [Lib.bitLenAux, if_neg h0]
theorem bit_next {x : Nat} (h0 : 0 < x) (h : x < 2 ^ 63) : Lib.bitLen x = 1 + Lib.bitLen (x / 2) := by
  unfold Lib.bitLen
  rw [bitAux_up 63 (x / 2) (by omega)]
  conv => lhs; rw [Lib.bitLenAux, if_neg (by omega)]
theorem bitAux_lt (f : Nat) : ∀ x : Nat, x < 2 ^ f → x < 2 ^ Lib.bitLenAux f x := by
  induction f with
  | zero => intro x hx; simp at hx; subst hx; simp [Lib.bitLenAux]
  | succ f ih =>
    intro x hx
    rw [Lib.bitLenAux]
    by_cases h0 : x = 0
    · simp [h0]
    · rw [if_neg h0]
      have := ih (x / 2) (by rw [Nat.pow_succ] at hx; omega)
      rw [Nat.add_comm, Nat.pow_succ]
      omega
theorem bitAux_le (f g : Nat) : ∀ x : Nat, x < 2 ^ g → Lib.bitLenAux f x ≤ g := by
  induction f generalizing g with
  | zero => intro x _; simp [Lib.bitLenAux]
  | succ f ih =>
    intro x hx
    rw [Lib.bitLenAux]
    by_cases h0 : x = 0
    · simp [h0]
    · rw [if_neg h0]
      cases g with
      | zero => simp at hx; omega
      | succ g =>
        have := ih g (x / 2) (by rw [Nat.pow_succ] at hx; omega)
        omega
theorem bit_lt {x : Nat} (h : x < 2 ^ 64) : x < 2 ^ Lib.bitLen x := bitAux_lt 64 x h
theorem bit_le {x : Nat} (g : Nat) (h : x < 2 ^ g) : Lib.bitLen x ≤ g := bitAux_le 64 g x h
set_option maxHeartbeats 1000000 in
theorem dig_r (q : Int) (w : World) (h0 : 0 ≤ q) (h1 : q ≤ 9223372036854775807) :
    Calls Try.prog 89 #[.int .i64 q] w fun e w' => e = .returned (.int .i64 (Lib.bitLen q.toNat)) ∧ w' = w := by
  have bq : Hid (Lib.bitLen q.toNat ≤ 64) := bit_le 64 (by omega)
  have z0 : Hid (Lib.bitLen 0 = 0) := by show _ = _; decide
  go_enter Try.func89, Try.ntmps89
  go_wp2_with fail
  go_loop [3, 4] (fun n x => ∃ (k : Nat) (y : Int), 0 ≤ y ∧ y ≤ 9223372036854775807 ∧ n = .int .i64 k ∧ x = .int .i64 y ∧ Hid (Lib.bitLen q.toNat = k + Lib.bitLen y.toNat)) (fun _ x => (intOf x).toNat)
  case atStart => exact ⟨0, q, h0, h1, rfl, rfl, by show _ = _; omega⟩
  case round =>
    obtain ⟨k, y, hy0, hy1, rfl, rfl, hk⟩ := hrel
    by_cases hp : 0 < y
    · have nx : Hid (Lib.bitLen q.toNat = (k + 1) + Lib.bitLen (y / 2).toNat) := by
        show _ = _
        rw [hk.out, bit_next (x := y.toNat) (by omega) (by omega)]
        have : y.toNat / 2 = (y / 2).toNat := by omega
        rw [this]; omega
      have kb : (k : Int) ≤ 64 := by have := hk.out; have := bq.out; omega
      have w2 : IntKind.i64.wrap ((k : Int) + 1) = (k : Int) + 1 := i64_in' _ (by omega) (by omega)
      go_wp2_with (go_at_call 62; refine (fdp_r _ _ _ hy0 hy1 (by decide)).mono ?_; rintro e wn ⟨rfl, rfl⟩)
      go_round
      case rel => exact ⟨k + 1, y / 2, by omega, by omega, by go_num, rfl, nx⟩
      case measure => simp [intOf]; omega
    · have e : y = 0 := by omega
      subst e
      have e2 : Hid (Lib.bitLen q.toNat = k) := by
        show _ = _
        rw [hk.out]
        have := z0.out
        simp [this]
      go_wp2
      go_ret
      exact ⟨ret_int (by rw [e2.out]), rfl⟩
theorem len_lays : Lays.n129 Try.prog ⟨fun _ => 88, fun n => if n = 3 then 3 else if n = 4 then 4 else if n = 5 then 5 else if n = 9 then 9 else if n = 46 then 87 else 81, fun n => n⟩ where
  mixed := by kernel_rfl
  f129 := Try.func88.trans (congrArg some (by kernel_rfl))
  t3 := Try.underlying3
  a3 := Try.isAgg3
  z3 := Try.sizeOf3
  v3 := Try.zeroValue3
  t4 := Try.underlying4
  a4 := Try.isAgg4
  z4 := Try.sizeOf4
  v4 := Try.zeroValue4
  t5 := Try.underlying5
  a5 := Try.isAgg5
  z5 := Try.sizeOf5
  v5 := Try.zeroValue5
  t9 := Try.underlying9
  a9 := Try.isAgg9
  z9 := Try.sizeOf9
  v9 := Try.zeroValue9
  t46 := Try.underlying87
  a46 := Try.isAgg87
  z46 := Try.sizeOf87
  v46 := Try.zeroValue87
  t53 := Try.underlying81
  a53 := Try.isAgg81
  z53 := Try.sizeOf81
  v53 := Try.zeroValue81
theorem len_q (x : Int) (w : World) (h0 : 0 ≤ x) (h1 : x ≤ 18446744073709551615) :
    Calls Try.prog 88 #[.int .u64 x] w fun e w' => e = .returned (.int .i64 (Lib.bitLen x.toNat)) ∧ w' = w :=
  Any.bits_Len64 len_lays x w h0 h1
/-- How many bit planes. -/
def plN (b s d : Int) : Int := if b < 0 then 0 else Lib.bitLen (Qu.qI b s d).toNat
theorem qI_nn0 {b s d : Int} (h : 0 ≤ b) : 0 ≤ Qu.qI b s d ∧ Qu.qI b s d ≤ 281474976710656 := by
  unfold Qu.qI
  split
  · rename_i hv
    have e : Qu.absI b = b := if_neg (by omega)
    rw [e]
    have h1 := Qu.qn_nonneg (n := min b 281474976710656) (d := d) (Qu.v_iff.1 hv).1
    have h2 := Qu.qn_le (n := min b 281474976710656) hv (by omega)
    have e2 : Qu.sgn (Qu.qn (min b 281474976710656) s d) b = Qu.qn (min b 281474976710656) s d := if_neg (by omega)
    rw [e2]; omega
  · omega
set_option maxHeartbeats 1000000 in
theorem pl_q (b s d : Int) (w : World) (h1 : b ≤ 9223372036854775807) :
    Calls Try.prog 54 #[.int .i64 b, .int .i64 s, .int .i64 d] w fun e w' => e = .returned (.int .i64 (plN b s d)) ∧ w' = w := by
  by_cases hb : b < 0
  · have he : Hid (plN b s d = 0) := if_pos hb
    go_enter Try.func54, Try.ntmps54
    go_wp2_with fail
    go_ret
    exact ⟨ret_int he.out.symm, rfl⟩
  · have qb := qI_nn0 (b := b) (s := s) (d := d) (by omega)
    have he : Hid (plN b s d = Lib.bitLen (Qu.absI (Qu.qI b s d)).toNat) := by
      have e : Qu.absI (Qu.qI b s d) = Qu.qI b s d := if_neg (by omega)
      show _ = _
      rw [e]; exact if_neg hb
    have q0 : -9223372036854775808 ≤ Qu.qI b s d := by omega
    have q1 : Qu.qI b s d ≤ 9223372036854775807 := by omega
    have ab := abs_bd q0 q1
    have l1 : Qu.absI (Qu.qI b s d) ≤ 18446744073709551615 := by omega
    have b0 : -9223372036854775808 ≤ b := by omega
    clear qb
    go_enter Try.func54, Try.ntmps54
    go_wp2_with (first | (go_at_call 47; refine (qz_q _ _ _ _ b0 h1).mono ?_; rintro e wn ⟨rfl, rfl⟩) | (go_at_call 78; refine (mag_q _ _ q0 q1).mono ?_; rintro e wn ⟨rfl, rfl⟩) | (go_at_call 88; refine (len_q _ _ ab.1 l1).mono ?_; rintro e wn ⟨rfl, rfl⟩))
    go_ret
    exact ⟨ret_int he.out.symm, rfl⟩
set_option maxHeartbeats 1000000 in
theorem pl_r (b s d : Int) (w : World) :
    Calls Try.prog 55 #[.int .i64 b, .int .i64 s, .int .i64 d] w fun e w' => e = .returned (.int .i64 (plN b s d)) ∧ w' = w := by
  cases hv : Qu.vB s d with
  | false =>
    have he : Hid (plN b s d = 0) := by
      have e : Qu.qI b s d = 0 := if_neg (by rw [hv]; decide)
      show _ = _
      unfold plN; rw [e]; split
      · rfl
      · decide
    go_enter Try.func55, Try.ntmps55
    go_wp2_with (go_at_call 44; refine (vd_r _ _ _).mono ?_; rintro e wn ⟨rfl, rfl⟩)
    go_ret
    exact ⟨ret_int he.out.symm, rfl⟩
  | true =>
    by_cases hb : b < 0
    · have he : Hid (plN b s d = 0) := if_pos hb
      go_enter Try.func55, Try.ntmps55
      go_wp2_with (go_at_call 44; refine (vd_r _ _ _).mono ?_; rintro e wn ⟨rfl, rfl⟩)
      go_ret
      exact ⟨ret_int he.out.symm, rfl⟩
    · have qb := qI_nn0 (b := b) (s := s) (d := d) (by omega)
      have he : Hid (plN b s d = Lib.bitLen (Qu.qI b s d).toNat) := if_neg hb
      have q0 : 0 ≤ Qu.qI b s d := by omega
      have q1 : Qu.qI b s d ≤ 9223372036854775807 := by omega
      clear qb
      go_enter Try.func55, Try.ntmps55
      go_wp2_with (first | (go_at_call 44; refine (vd_r _ _ _).mono ?_; rintro e wn ⟨rfl, rfl⟩) | (go_at_call 48; refine (qz_r _ _ _ _).mono ?_; rintro e wn ⟨rfl, rfl⟩) | (go_at_call 89; refine (dig_r _ _ q0 q1).mono ?_; rintro e wn ⟨rfl, rfl⟩))
      go_ret
      exact ⟨ret_int he.out.symm, rfl⟩
set_option maxHeartbeats 1000000 in
theorem un_r (v m sh : Int) (w : World) (h0 : -9223372036854775808 ≤ v) (h1 : v ≤ 9223372036854775807) :
    Calls Try.prog 57 #[.int .i64 v, .int .i64 m, .int .i64 sh] w fun e w' => e = .returned (.tuple #[.int .i64 (Qu.unV v m sh), .int .i64 (Qu.unM v m sh)]) ∧ w' = w := by
  cases h : Qu.unB m sh with
  | false =>
    have eV : Hid (Qu.unV v m sh = v) := if_neg (fun q => by rw [h] at q; exact absurd q.1 (by decide))
    have eM : Hid (Qu.unM v m sh = m) := if_neg (fun q => by rw [h] at q; exact absurd q (by decide))
    have hn : sh < 1 ∨ 30 < sh ∨ m < 0 ∨ 60 < m := by
      rcases unB_no h with q | q | q
      · exact .inl q
      · exact .inr (.inl q)
      · have : ¬ (0 ≤ m ∧ m ≤ 60) := fun z => by rw [Qu.m_iff.2 z] at q; exact absurd q (by decide)
        omega
    clear h
    by_cases z1 : sh < 1
    · clear hn
      go_enter Try.func57, Try.ntmps57
      go_wp2_with fail
      go_ret2
      exact ⟨ret_pair eV.out.symm eM.out.symm, rfl⟩
    by_cases z2 : 30 < sh
    · clear hn
      go_enter Try.func57, Try.ntmps57
      go_wp2_with fail
      go_ret2
      exact ⟨ret_pair eV.out.symm eM.out.symm, rfl⟩
    by_cases z3 : m < 0
    · clear hn
      go_enter Try.func57, Try.ntmps57
      go_wp2_with fail
      go_ret2
      exact ⟨ret_pair eV.out.symm eM.out.symm, rfl⟩
    have z4 : 60 < m := by omega
    clear hn
    go_enter Try.func57, Try.ntmps57
    go_wp2_with fail
    go_ret2
    exact ⟨ret_pair eV.out.symm eM.out.symm, rfl⟩
  | true =>
    have hu := Qu.un_iff.1 h
    have hmn := hmnq
    have hmx := hmxq
    have pb := Qu.pow_bd sh.toNat (by omega)
    have ur := Qu.un_ref (v := v) h
    have s1 : ¬ sh < 1 := by omega
    have s2 : ¬ 30 < sh := by omega
    have s3 : ¬ m < 0 := by omega
    have s4 : ¬ 60 < m := by omega
    go_enter Try.func57, Try.ntmps57
    go_wp2_with fail
    go_loop [8, 9] (fun u i => ∃ k : Nat, (k : Int) ≤ sh ∧ i = .int .i64 k ∧ u = .int .i64 (2 ^ k)) (fun _ i => sh.toNat - (intOf i).toNat)
    case atStart => exact ⟨0, by omega, rfl, rfl⟩
    case round =>
      obtain ⟨k, hk, rfl, rfl⟩ := hrel
      by_cases hlt : (k : Int) < sh
      · have nx : Hid ((2 : Int) * 2 ^ k = 2 ^ (k + 1)) := by show _ = _; rw [Int.pow_succ, Int.mul_comm]
        have kb := Qu.pow_bd k (by omega)
        have kb' := Qu.pow_bd (k + 1) (by omega)
        have w2 : IntKind.i64.wrap ((k : Int) + 1) = (k : Int) + 1 := i64_in' _ (by omega) (by omega)
        have w3 : IntKind.i64.wrap (2 * 2 ^ k) = 2 * 2 ^ k := by have := nx.out; exact i64_in' _ (by omega) (by omega)
        clear kb kb' ur pb
        go_wp2_with fail
        go_round
        case rel => exact ⟨k + 1, by omega, by go_num, by rw [nx.out]⟩
        case measure => simp [intOf]; omega
      · obtain rfl : sh.toNat = k := by omega
        obtain ⟨P, hP⟩ : ∃ P : Int, P = 2 ^ sh.toNat := ⟨_, rfl⟩
        rw [← hP] at pb ur ⊢
        clear hP
        have w1 : IntKind.i64.wrap (-P) = -P := i64_in' _ (by omega) (by omega)
        have w2 : IntKind.i64.wrap (m - sh) = m - sh := i64_in' _ (by omega) (by omega)
        have p0 : ¬ P = 0 := by omega
        by_cases hc : P ≤ v ∨ v ≤ -P
        · have eV : Hid _ := (ur.1 hc).1
          have eM : Hid _ := (ur.1 hc).2
          have tb : Hid (-9223372036854775808 ≤ v.tdiv P ∧ v.tdiv P ≤ 9223372036854775807) := by
            show _ ∧ _
            by_cases hn : v < 0
            · have e : v.tdiv P = -((-v) / P) := by
                have : v.tdiv P = -((-v).tdiv P) := by rw [Int.neg_tdiv]; omega
                rw [this, Int.tdiv_eq_ediv_of_nonneg (by omega)]
              have a1 := Int.ediv_nonneg (a := -v) (b := P) (by omega) (by omega)
              have a2 := Int.ediv_le_self (a := -v) P (by omega)
              omega
            · rw [Int.tdiv_eq_ediv_of_nonneg (by omega)]
              have a1 := Int.ediv_nonneg (a := v) (b := P) (by omega) (by omega)
              have a2 := Int.ediv_le_self (a := v) P (by omega)
              omega
          have w3 : IntKind.i64.wrap (v.tdiv P) = v.tdiv P := i64_in' _ tb.out.1 tb.out.2
          clear ur pb
          by_cases hc1 : P ≤ v
          · clear hc
            go_wp2_with fail
            all_goals
              go_ret2
              exact ⟨ret_pair eV.out.symm (by have := eM.out; omega), rfl⟩
          · have hc2 : v ≤ -P := by omega
            clear hc
            go_wp2_with fail
            all_goals
              go_ret2
              exact ⟨ret_pair eV.out.symm (by have := eM.out; omega), rfl⟩
        · have eV : Hid _ := (ur.2 hc).1
          have eM : Hid _ := (ur.2 hc).2
          have hc1 : ¬ P ≤ v := by omega
          have hc2 : ¬ v ≤ -P := by omega
          clear ur pb hc
          go_wp2_with fail
          all_goals
            go_ret2
            exact ⟨ret_pair eV.out.symm (by have := eM.out; omega), rfl⟩
end Go.Proofs.Ytadkcgpkbcgeoaa
