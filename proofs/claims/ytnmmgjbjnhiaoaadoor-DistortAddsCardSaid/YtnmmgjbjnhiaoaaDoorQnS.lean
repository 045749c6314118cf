/-
  The rest of the reference of layer 8 on numbers; binary digits.
-/
import Derived.Test.YtnmmgjbjnhiaoaaDoorQnR
set_option maxRecDepth 100000
namespace Go.Proofs.YtnmmgjbjnhiaoaaDoor
open Go.RowKit

set_option maxHeartbeats 2000000 in
/-- Reconstruct of an index above 0. -/
theorem recp_r (v m s d : Int) (w : World) (hv : 1 ≤ v) (h : Qu.vB s d = true) (hm : Qu.mB m = true) :
    Calls Tryd.prog 30 #[.int .i64 v, .int .i64 m, .int .i64 s, .int .i64 d] w fun e w' => e = .returned (.int .i64 (min ((Qu.loX v s d + Qu.hiX v m s d) / 2) 4294967296)) ∧ w' = w := by
  have hb : (Qu.vB s d && Qu.mB m) = true := by rw [h, hm]; rfl
  have tb := Qu.thr_bd h
  have s1 := (Qu.v_iff.1 h).1
  have sb := Qu.sp_bd (m := m.toNat) s1
  obtain ⟨N, hN⟩ : ∃ N, N = min v 1125899906842624 := ⟨_, rfl⟩
  have nb : 1 ≤ N ∧ N ≤ 1125899906842624 := by omega
  have la : min (max v (-1125899906842624)) 1125899906842624 = N := by omega
  have rm := Qu.ref_mid h hm hv
  rw [← hN] at rm
  have rb : 0 ≤ Qu.tR (N - 1) s ∧ Qu.tR (N - 1) s ≤ 1125899906842624 := by rcases Qu.tR_or (s := s) (a := N - 1) s1 (by omega) with ⟨e, _⟩ | ⟨e, _⟩ <;> omega
  have ce := fun W => ends_r N m s d W h hm nb.1 nb.2
  obtain ⟨X, hX⟩ : ∃ X, X = Qu.thr s d + Qu.tR (N - 1) s := ⟨_, rfl⟩
  obtain ⟨Y, hY⟩ : ∃ Y, Y = X + Qu.spR m.toNat s - 1 := ⟨_, rfl⟩
  rw [← hX] at rm ce
  rw [← hY] at rm ce
  have xb : 1 ≤ X ∧ 0 ≤ Y ∧ X ≤ 1125899907000000 ∧ Y ≤ 2251799814000000 := by omega
  have w1 : IntKind.i64.wrap (X + Y) = X + Y := i64_in' _ (by omega) (by omega)
  have a0 : 0 ≤ X + Y := by omega
  have a1 : X + Y ≤ 9223372036854775807 := by omega
  have lm : Hid (min (max ((X + Y) / 2) (-4294967296)) 4294967296 = min ((Qu.loX v s d + Qu.hiX v m s d) / 2) 4294967296) := by
    show _ = _
    rw [← rm]; omega
  have v0 : ¬ v = 0 := by omega
  have n0 : ¬ N < 0 := by omega
  clear hN hX hY rm rb sb tb xb nb h hm
  go_enter Tryd.func30, Tryd.ntmps30
  go_wp2_with (first | (go_at_call 52; refine (val_r _ _ _ _).mono ?_; rintro e wn ⟨rfl, rfl⟩) | (go_at_call 32; refine (lim8_r _ _ _ (by decide) (by decide)).mono ?_; rintro e wn ⟨rfl, rfl⟩) | (go_at_call 53; refine (ce _).mono ?_; rintro e wn ⟨rfl, rfl⟩) | (go_at_call 33; refine (fdp_r _ _ _ a0 a1 (by decide)).mono ?_; rintro e wn ⟨rfl, rfl⟩))
  go_ret
  exact ⟨ret_int lm.out, rfl⟩
theorem lim_abs2 {v : Int} : min (Qu.absI v) 1125899906842624 = Qu.absI (min (max v (-1125899906842624)) 1125899906842624) := by unfold Qu.absI; split <;> split <;> omega
set_option maxHeartbeats 2000000 in
theorem rec_r (v m s d : Int) (w : World) :
    Calls Tryd.prog 30 #[.int .i64 v, .int .i64 m, .int .i64 s, .int .i64 d] w fun e w' => e = .returned (.int .i64 (Qu.rec_ v m s d)) ∧ w' = w := by
  by_cases hb : (Qu.vB s d && Qu.mB m) = true
  · obtain ⟨h, hm⟩ : Qu.vB s d = true ∧ Qu.mB m = true := by simpa using hb
    by_cases hv : v = 0
    · subst hv
      have he : Hid (Qu.rec_ 0 m s d = 0) := if_neg (fun q => q.1 rfl)
      clear h hm
      go_enter Tryd.func30, Tryd.ntmps30
      go_wp2_with (go_at_call 52; refine (val_r _ _ _ _).mono ?_; rintro e wn ⟨rfl, rfl⟩)
      go_ret
      exact ⟨ret_int he.out.symm, rfl⟩
    · by_cases hn : v < 0
      · have ap := abs_pos hv
        obtain ⟨N, hN⟩ : ∃ N, N = min (Qu.absI v) 1125899906842624 := ⟨_, rfl⟩
        have nb : 1 ≤ N ∧ N ≤ 1125899906842624 := by omega
        have la : min (max v (-1125899906842624)) 1125899906842624 = -N := by
          have := lim_abs (v := v)
          rw [← hN] at this
          rw [this]; exact if_pos hn
        have r1 := Qu.ref_mid h hm ap
        have r2 := Qu.ref_mid (n := N) h hm nb.1
        have eN : min N 1125899906842624 = N := by omega
        rw [← hN] at r1
        rw [eN] at r2
        have he0 : Qu.rec_ v m s d = -(min ((Qu.loX N s d + Qu.hiX N m s d) / 2) 4294967296) := by
          unfold Qu.rec_; rw [if_pos ⟨hv, h, hm⟩, ← r1, r2]; exact if_pos hn
        have cr := fun W => recp_r N m s d W nb.1 h hm
        have l1 := lo_pos (n := N) h nb.1
        have l2 := lo_hi (n := N) (m := m) h
        obtain ⟨Z, hZ⟩ : ∃ Z, Z = min ((Qu.loX N s d + Qu.hiX N m s d) / 2) 4294967296 := ⟨_, rfl⟩
        have zb : 0 ≤ Z ∧ Z ≤ 4294967296 := by omega
        rw [← hZ] at he0 cr
        have he : Hid _ := he0
        have w1 : IntKind.i64.wrap (- -N) = N := by rw [Int.neg_neg]; exact i64_in' _ (by omega) (by omega)
        have w1' : IntKind.i64.wrap N = N := i64_in' _ (by omega) (by omega)
        have w2 : IntKind.i64.wrap (-Z) = -Z := i64_in' _ (by omega) (by omega)
        have n1 : -N < 0 := by omega
        clear hN r1 r2 eN he0 l1 l2 hZ zb nb ap h hm hn
        go_enter Tryd.func30, Tryd.ntmps30
        go_wp2_with (first | (go_at_call 52; refine (val_r _ _ _ _).mono ?_; rintro e wn ⟨rfl, rfl⟩) | (go_at_call 32; refine (lim8_r _ _ _ (by decide) (by decide)).mono ?_; rintro e wn ⟨rfl, rfl⟩) | (go_at_call 30; refine (cr _).mono ?_; rintro e wn ⟨rfl, rfl⟩))
        go_ret
        exact ⟨ret_int he.out.symm, rfl⟩
      · have he : Qu.rec_ v m s d = min ((Qu.loX v s d + Qu.hiX v m s d) / 2) 4294967296 := by
          have e : Qu.absI v = v := if_neg hn
          unfold Qu.rec_; rw [if_pos ⟨hv, h, hm⟩, e]; exact if_neg hn
        rw [he]
        exact recp_r v m s d w (by omega) h hm
  · have he : Hid (Qu.rec_ v m s d = 0) := if_neg (fun q => hb (by rw [q.2.1, q.2.2]; rfl))
    have h' : (Qu.vB s d && Qu.mB m) = false := by simpa using hb
    clear hb
    go_enter Tryd.func30, Tryd.ntmps30
    go_wp2_with (go_at_call 52; refine (val_r _ _ _ _).mono ?_; rw [h']; rintro e wn ⟨rfl, rfl⟩)
    go_ret
    exact ⟨ret_int he.out.symm, rfl⟩
theorem bitAux_up (f : Nat) : ∀ x : Nat, x < 2 ^ f → Lib.bitLenAux (f + 1) x = Lib.bitLenAux f x := by
  induction f with
  | zero => intro x hx; simp at hx; subst hx; simp [Lib.bitLenAux]
  | succ f ih =>
    intro x hx
    have h := ih (x / 2) (by rw [Nat.pow_succ] at hx; omega)
    rw [Lib.bitLenAux]
    by_cases h0 : x = 0
    · simp [h0, Lib.bitLenAux]
    · rw [if_neg h0, h]
      conv => rhs; rw [Lib.bitLenAux, if_neg h0]
theorem bit_next {x : Nat} (h0 : 0 < x) (h : x < 2 ^ 63) : Lib.bitLen x = 1 + Lib.bitLen (x / 2) := by
  unfold Lib.bitLen
  rw [bitAux_up 63 (x / 2) (by omega)]
  conv => lhs; rw [Lib.bitLenAux, if_neg (by omega)]
theorem bitAux_lt (f : Nat) : ∀ x : Nat, x < 2 ^ f → x < 2 ^ Lib.bitLenAux f x := by
  induction f with
  | zero => intro x hx; simp at hx; subst hx; simp [Lib.bitLenAux]
  | succ f ih =>
    intro x hx
    rw [Lib.bitLenAux]
    by_cases h0 : x = 0
    · simp [h0]
    · rw [if_neg h0]
      have := ih (x / 2) (by rw [Nat.pow_succ] at hx; omega)
      rw [Nat.add_comm, Nat.pow_succ]
      omega
theorem bitAux_le (f g : Nat) : ∀ x : Nat, x < 2 ^ g → Lib.bitLenAux f x ≤ g := by
  induction f generalizing g with
  | zero => intro x _; simp [Lib.bitLenAux]
  | succ f ih =>
    intro x hx
    rw [Lib.bitLenAux]
    by_cases h0 : x = 0
    · simp [h0]
    · rw [if_neg h0]
      cases g with
      | zero => simp at hx; omega
      | succ g =>
        have := ih g (x / 2) (by rw [Nat.pow_succ] at hx; omega)
        omega
theorem bit_lt {x : Nat} (h : x < 2 ^ 64) : x < 2 ^ Lib.bitLen x := bitAux_lt 64 x h
theorem bit_le {x : Nat} (g : Nat) (h : x < 2 ^ g) : Lib.bitLen x ≤ g := bitAux_le 64 g x h
/-- How many bit planes. -/
def plN (b s d : Int) : Int := if b < 0 then 0 else Lib.bitLen (Qu.qI b s d).toNat
theorem qI_nn0 {b s d : Int} (h : 0 ≤ b) : 0 ≤ Qu.qI b s d ∧ Qu.qI b s d ≤ 281474976710656 := by
  unfold Qu.qI
  split
  · rename_i hv
    have e : Qu.absI b = b := if_neg (by omega)
    rw [e]
    have h1 := Qu.qn_nonneg (n := min b 281474976710656) (d := d) (Qu.v_iff.1 hv).1
    have h2 := Qu.qn_le (n := min b 281474976710656) hv (by omega)
    have e2 : Qu.sgn (Qu.qn (min b 281474976710656) s d) b = Qu.qn (min b 281474976710656) s d := if_neg (by omega)
    rw [e2]; omega
  · omega
end Go.Proofs.YtnmmgjbjnhiaoaaDoor
