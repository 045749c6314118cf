/-
  The rest of the reference of layer 8 on numbers; binary digits.
-/
import Derived.Test.YtkcjbehfhcmiaaaQnR
set_option maxRecDepth 100000
namespace Go.Proofs.Ytkcjbehfhcmiaaa
open Go.RowKit

theorem lim_abs2 {v : Int} : min (Qu.absI v) 1125899906842624 = Qu.absI (min (max v (-1125899906842624)) 1125899906842624) := by unfold Qu.absI; split <;> split <;> omega
theorem bitAux_up (f : Nat) : ∀ x : Nat, x < 2 ^ f → Lib.bitLenAux (f + 1) x = Lib.bitLenAux f x := by
  induction f with
  | zero => intro x hx; simp at hx; subst hx; simp [Lib.bitLenAux]
  | succ f ih =>
    intro x hx
    have h := ih (x / 2) (by rw [Nat.pow_succ] at hx; omega)
    rw [Lib.bitLenAux]
    by_cases h0 : x = 0
    · simp [h0, Lib.bitLenAux]
    · rw [if_neg h0, h]
      conv => rhs; rw [Lib.bitLenAux, if_neg h0]
theorem bit_next {x : Nat} (h0 : 0 < x) (h : x < 2 ^ 63) : Lib.bitLen x = 1 + Lib.bitLen (x / 2) := by
  unfold Lib.bitLen
  rw [bitAux_up 63 (x / 2) (by omega)]
  conv => lhs; rw [Lib.bitLenAux, if_neg (by omega)]
theorem bitAux_lt (f : Nat) : ∀ x : Nat, x < 2 ^ f → x < 2 ^ Lib.bitLenAux f x := by
  induction f with
  | zero => intro x hx; simp at hx; subst hx; simp [Lib.bitLenAux]
  | succ f ih =>
    intro x hx
    rw [Lib.bitLenAux]
    by_cases h0 : x = 0
    · simp [h0]
    · rw [if_neg h0]
      have := ih (x / 2) (by rw [Nat.pow_succ] at hx; omega)
      rw [Nat.add_comm, Nat.pow_succ]
      omega
theorem bitAux_le (f g : Nat) : ∀ x : Nat, x < 2 ^ g → Lib.bitLenAux f x ≤ g := by
  induction f generalizing g with
  | zero => intro x _; simp [Lib.bitLenAux]
  | succ f ih =>
    intro x hx
    rw [Lib.bitLenAux]
    by_cases h0 : x = 0
    · simp [h0]
    · rw [if_neg h0]
      cases g with
      | zero => simp at hx; omega
      | succ g =>
        have := ih g (x / 2) (by rw [Nat.pow_succ] at hx; omega)
        omega
theorem bit_lt {x : Nat} (h : x < 2 ^ 64) : x < 2 ^ Lib.bitLen x := bitAux_lt 64 x h
theorem bit_le {x : Nat} (g : Nat) (h : x < 2 ^ g) : Lib.bitLen x ≤ g := bitAux_le 64 g x h
set_option maxHeartbeats 1000000 in
theorem dig_r (q : Int) (w : World) (h0 : 0 ≤ q) (h1 : q ≤ 9223372036854775807) :
    Calls Try.prog 91 #[.int .i64 q] w fun e w' => e = .returned (.int .i64 (Lib.bitLen q.toNat)) ∧ w' = w := by
  have bq : Hid (Lib.bitLen q.toNat ≤ 64) := bit_le 64 (by omega)
  have z0 : Hid (Lib.bitLen 0 = 0) := by show _ = _; decide
  go_enter Try.func91, Try.ntmps91
  go_wp2_with fail
  go_loop [3, 4] (fun n x => ∃ (k : Nat) (y : Int), 0 ≤ y ∧ y ≤ 9223372036854775807 ∧ n = .int .i64 k ∧ x = .int .i64 y ∧ Hid (Lib.bitLen q.toNat = k + Lib.bitLen y.toNat)) (fun _ x => (intOf x).toNat)
  case atStart => exact ⟨0, q, h0, h1, rfl, rfl, by show _ = _; omega⟩
  case round =>
    obtain ⟨k, y, hy0, hy1, rfl, rfl, hk⟩ := hrel
    by_cases hp : 0 < y
    · have nx : Hid (Lib.bitLen q.toNat = (k + 1) + Lib.bitLen (y / 2).toNat) := by
        show _ = _
        rw [hk.out, bit_next (x := y.toNat) (by omega) (by omega)]
        have : y.toNat / 2 = (y / 2).toNat := by omega
        rw [this]; omega
      have kb : (k : Int) ≤ 64 := by have := hk.out; have := bq.out; omega
      have w2 : IntKind.i64.wrap ((k : Int) + 1) = (k : Int) + 1 := i64_in' _ (by omega) (by omega)
      go_wp2_with (go_at_call 82; refine (fdp_r _ _ _ hy0 hy1 (by decide)).mono ?_; rintro e wn ⟨rfl, rfl⟩)
      go_round
      case rel => exact ⟨k + 1, y / 2, by omega, by omega, by go_num, rfl, nx⟩
      case measure => simp [intOf]; omega
    · have e : y = 0 := by omega
      subst e
      have e2 : Hid (Lib.bitLen q.toNat = k) := by
        show _ = _
        rw [hk.out]
        have := z0.out
        simp [this]
      go_wp2
      go_ret
      exact ⟨ret_int (by rw [e2.out]), rfl⟩
theorem len_lays : Lays.n129 Try.prog ⟨fun _ => 88, fun n => if n = 3 then 3 else if n = 4 then 4 else if n = 5 then 5 else if n = 9 then 9 else if n = 46 then 108 else 93, fun n => n⟩ where
  mixed := by kernel_rfl
  f129 := Try.func88.trans (congrArg some (by kernel_rfl))
  t3 := Try.underlying3
  a3 := Try.isAgg3
  z3 := Try.sizeOf3
  v3 := Try.zeroValue3
  t4 := Try.underlying4
  a4 := Try.isAgg4
  z4 := Try.sizeOf4
  v4 := Try.zeroValue4
  t5 := Try.underlying5
  a5 := Try.isAgg5
  z5 := Try.sizeOf5
  v5 := Try.zeroValue5
  t9 := Try.underlying9
  a9 := Try.isAgg9
  z9 := Try.sizeOf9
  v9 := Try.zeroValue9
  t46 := Try.underlying108
  a46 := Try.isAgg108
  z46 := Try.sizeOf108
  v46 := Try.zeroValue108
  t53 := Try.underlying93
  a53 := Try.isAgg93
  z53 := Try.sizeOf93
  v53 := Try.zeroValue93
theorem len_q (x : Int) (w : World) (h0 : 0 ≤ x) (h1 : x ≤ 18446744073709551615) :
    Calls Try.prog 88 #[.int .u64 x] w fun e w' => e = .returned (.int .i64 (Lib.bitLen x.toNat)) ∧ w' = w :=
  Any.bits_Len64 len_lays x w h0 h1
/-- How many bit planes. -/
def plN (b s d : Int) : Int := if b < 0 then 0 else Lib.bitLen (Qu.qI b s d).toNat
theorem qI_nn0 {b s d : Int} (h : 0 ≤ b) : 0 ≤ Qu.qI b s d ∧ Qu.qI b s d ≤ 281474976710656 := by
  unfold Qu.qI
  split
  · rename_i hv
    have e : Qu.absI b = b := if_neg (by omega)
    rw [e]
    have h1 := Qu.qn_nonneg (n := min b 281474976710656) (d := d) (Qu.v_iff.1 hv).1
    have h2 := Qu.qn_le (n := min b 281474976710656) hv (by omega)
    have e2 : Qu.sgn (Qu.qn (min b 281474976710656) s d) b = Qu.qn (min b 281474976710656) s d := if_neg (by omega)
    rw [e2]; omega
  · omega
set_option maxHeartbeats 1000000 in
theorem pl_q (b s d : Int) (w : World) (h1 : b ≤ 9223372036854775807) :
    Calls Try.prog 43 #[.int .i64 b, .int .i64 s, .int .i64 d] w fun e w' => e = .returned (.int .i64 (plN b s d)) ∧ w' = w := by
  by_cases hb : b < 0
  · have he : Hid (plN b s d = 0) := if_pos hb
    go_enter Try.func43, Try.ntmps43
    go_wp2_with fail
    go_ret
    exact ⟨ret_int he.out.symm, rfl⟩
  · have qb := qI_nn0 (b := b) (s := s) (d := d) (by omega)
    have he : Hid (plN b s d = Lib.bitLen (Qu.absI (Qu.qI b s d)).toNat) := by
      have e : Qu.absI (Qu.qI b s d) = Qu.qI b s d := if_neg (by omega)
      show _ = _
      rw [e]; exact if_neg hb
    have q0 : -9223372036854775808 ≤ Qu.qI b s d := by omega
    have q1 : Qu.qI b s d ≤ 9223372036854775807 := by omega
    have ab := abs_bd q0 q1
    have l1 : Qu.absI (Qu.qI b s d) ≤ 18446744073709551615 := by omega
    have b0 : -9223372036854775808 ≤ b := by omega
    clear qb
    go_enter Try.func43, Try.ntmps43
    go_wp2_with (first | (go_at_call 90; refine (qz_q _ _ _ _ b0 h1).mono ?_; rintro e wn ⟨rfl, rfl⟩) | (go_at_call 89; refine (mag_q _ _ q0 q1).mono ?_; rintro e wn ⟨rfl, rfl⟩) | (go_at_call 88; refine (len_q _ _ ab.1 l1).mono ?_; rintro e wn ⟨rfl, rfl⟩))
    go_ret
    exact ⟨ret_int he.out.symm, rfl⟩
set_option maxHeartbeats 1000000 in
theorem pl_r (b s d : Int) (w : World) :
    Calls Try.prog 46 #[.int .i64 b, .int .i64 s, .int .i64 d] w fun e w' => e = .returned (.int .i64 (plN b s d)) ∧ w' = w := by
  cases hv : Qu.vB s d with
  | false =>
    have he : Hid (plN b s d = 0) := by
      have e : Qu.qI b s d = 0 := if_neg (by rw [hv]; decide)
      show _ = _
      unfold plN; rw [e]; split
      · rfl
      · decide
    go_enter Try.func46, Try.ntmps46
    go_wp2_with (go_at_call 45; refine (vd_r _ _ _).mono ?_; rintro e wn ⟨rfl, rfl⟩)
    go_ret
    exact ⟨ret_int he.out.symm, rfl⟩
  | true =>
    by_cases hb : b < 0
    · have he : Hid (plN b s d = 0) := if_pos hb
      go_enter Try.func46, Try.ntmps46
      go_wp2_with (go_at_call 45; refine (vd_r _ _ _).mono ?_; rintro e wn ⟨rfl, rfl⟩)
      go_ret
      exact ⟨ret_int he.out.symm, rfl⟩
    · have qb := qI_nn0 (b := b) (s := s) (d := d) (by omega)
      have he : Hid (plN b s d = Lib.bitLen (Qu.qI b s d).toNat) := if_neg hb
      have q0 : 0 ≤ Qu.qI b s d := by omega
      have q1 : Qu.qI b s d ≤ 9223372036854775807 := by omega
      clear qb
      go_enter Try.func46, Try.ntmps46
      go_wp2_with (first | (go_at_call 45; refine (vd_r _ _ _).mono ?_; rintro e wn ⟨rfl, rfl⟩) | (go_at_call 92; refine (qz_r _ _ _ _).mono ?_; rintro e wn ⟨rfl, rfl⟩) | (go_at_call 91; refine (dig_r _ _ q0 q1).mono ?_; rintro e wn ⟨rfl, rfl⟩))
      go_ret
      exact ⟨ret_int he.out.symm, rfl⟩
end Go.Proofs.Ytkcjbehfhcmiaaa
