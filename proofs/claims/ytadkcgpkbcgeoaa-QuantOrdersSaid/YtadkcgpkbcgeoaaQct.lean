/-
  A coefficient and the interval of its index; how many planes suffice. Mathematics alone.
-/
import Derived.Test.YtadkcgpkbcgeoaaQnt
set_option maxRecDepth 100000
namespace Go.Proofs.Ytadkcgpkbcgeoaa.Qu

theorem abs_neg (v : Int) : absI (-v) = absI v := by unfold absI; split <;> split <;> omega
theorem iv_neg (v m s d : Int) : ivL (-v) m s d = -(ivH v m s d) ∧ ivH (-v) m s d = -(ivL v m s d) := by
  unfold ivL ivH
  rw [abs_neg]
  by_cases h : vB s d = true ∧ mB m = true
  · rw [if_pos h, if_pos h, if_pos h, if_pos h]
    rcases Int.lt_trichotomy v 0 with h1 | h1 | h1
    · rw [if_neg (by omega), if_neg (by omega), if_pos h1, if_neg (by omega), if_neg (by omega), if_pos h1]; omega
    · subst h1; simp [absI]
    · rw [if_neg (by omega), if_pos (by omega), if_neg (by omega), if_pos (by omega), if_neg (by omega), if_neg (by omega)]; omega
  · rw [if_neg h, if_neg h, if_neg h, if_neg h]; decide
theorem rec_neg (v m s d : Int) : rec_ (-v) m s d = -(rec_ v m s d) := by
  unfold rec_
  rw [abs_neg]
  by_cases h : v ≠ 0 ∧ vB s d = true ∧ mB m = true
  · rw [if_pos h, if_pos ⟨by omega, h.2⟩]
    obtain ⟨h0, _⟩ := h
    unfold sgn; split <;> split <;> omega
  · rw [if_neg h, if_neg (fun q => h ⟨by omega, q.2⟩)]; decide
/-- What the statement on intervals says of a coefficient. -/
structure Cont (c m s d : Int) (V Wm : Int) : Prop where
  a1 : ivL V 0 s d ≤ c
  a2 : c ≤ ivH V 0 s d
  b1 : ivL Wm m s d ≤ c
  b2 : c ≤ ivH Wm m s d
  b3 : ivL Wm m s d ≤ ivL V 0 s d
  b4 : ivH V 0 s d ≤ ivH Wm m s d
  x1 : ivL V 0 s d ≤ rec_ V 0 s d
  x2 : rec_ V 0 s d ≤ ivH V 0 s d
  y1 : ivL Wm m s d ≤ rec_ Wm m s d
  y2 : rec_ Wm m s d ≤ ivH Wm m s d
  q : qI (rec_ V 0 s d) s d = V
theorem Cont.neg {c m s d V Wm : Int} (h : Cont c m s d V Wm) : Cont (-c) m s d (-V) (-Wm) := by
  obtain ⟨a1, a2, b1, b2, b3, b4, x1, x2, y1, y2, q⟩ := h
  have e1 := iv_neg V 0 s d
  have e2 := iv_neg Wm m s d
  have e3 := rec_neg V 0 s d
  have e4 := rec_neg Wm m s d
  refine ⟨by omega, by omega, by omega, by omega, by omega, by omega, by omega, by omega, by omega, by omega, ?_⟩
  rw [e3, qI_neg, q]
theorem cont_nn {c m s d : Int} (h : vB s d = true) (h0 : 0 ≤ c) (h1 : c ≤ 1073741824) (m0 : 0 ≤ m) (m1 : m ≤ 20) :
    Cont c m s d (qn c s d) (qn c s d / 2 ^ m.toNat * 2 ^ m.toNat) := by
  have hs := v_iff.1 h
  have tb := thr_bd h
  have hm : mB m = true := m_iff.2 ⟨m0, by omega⟩
  have hm0 : mB 0 = true := by decide
  have nn := qn_nonneg (n := c) (d := d) hs.1
  obtain ⟨p, hp⟩ : ∃ p : Int, p = 2 ^ m.toNat := ⟨_, rfl⟩
  have pb : 1 ≤ p ∧ p ≤ 1048576 := by
    have e : (1048576 : Int) = 2 ^ 20 := by decide
    constructor
    · have := p2 m.toNat; omega
    · rw [e, hp]; exact_mod_cast Nat.pow_le_pow_right (by decide) (by omega)
  have ps : p * s ≤ 1048576 * 65536 := Int.le_trans (mul_le pb.2 (by omega)) (Int.mul_le_mul_of_nonneg_left hs.2.1 (by decide))
  have ps1 : s ≤ p * s := by have := mul_le (c := s) pb.1 (by omega); omega
  rw [← hp]
  generalize hn : qn c s d = n at *
  obtain ⟨u, hu⟩ : ∃ u, u = n / p * p := ⟨_, rfl⟩
  have ub1 : u ≤ n := by rw [hu]; exact Int.ediv_mul_le _ (by omega)
  have ub2 : n < u + p := by rw [hu]; have := Int.lt_mul_ediv_self_add (x := n) (k := p) (by omega); rw [Int.mul_comm] at this; exact this
  have ub0 : 0 ≤ u := by rw [hu]; exact Int.mul_nonneg (Int.ediv_nonneg nn (by omega)) (by omega)
  rw [← hu]
  have aU : absI u = u := if_neg (by omega)
  have aN : absI n = n := if_neg (by omega)
  have hH0 : ∀ k, hiX k 0 s d = thr s d - 1 + k * s := by
    intro k; unfold hiX
    have e : k + 2 ^ (0 : Int).toNat - 1 = k := by
      have : (2 : Int) ^ (0 : Int).toNat = 1 := by decide
      omega
    rw [e]
  have hHm : ∀ k, hiX k m s d = thr s d - 1 + k * s + p * s - s := by
    intro k; unfold hiX; rw [← hp]
    have e : (k + p - 1) * s = k * s + p * s - s := by grind
    omega
  have hL : ∀ k, loX k s d = thr s d + k * s - s := by
    intro k; unfold loX
    have e : (k - 1) * s = k * s - s := by grind
    omega
  have un : u * s ≤ n * s := mul_le ub1 (by omega)
  have un2 : n * s ≤ u * s + p * s - s := by
    have := mul_le (a := n) (b := u + p - 1) (c := s) (by omega) (by omega)
    have e : (u + p - 1) * s = u * s + p * s - s := by grind
    omega
  have us0 : 0 ≤ u * s := Int.mul_nonneg ub0 (by omega)
  have ns0 : 0 ≤ n * s := Int.mul_nonneg nn (by omega)
  have cn : (n = 0 ∧ c < thr s d) ∨ (1 ≤ n ∧ thr s d + n * s - s ≤ c ∧ c ≤ thr s d - 1 + n * s) := by
    by_cases hc : c < thr s d
    · exact .inl ⟨by rw [← hn]; exact qn_zero hc, hc⟩
    · have := qn_pos (n := c) (d := d) hs.1 (by omega)
      rw [hn] at this
      obtain ⟨q1, q2, q3⟩ := this
      have e : (n - 1) * s = n * s - s := by grind
      exact .inr ⟨q1, by omega, q3⟩
  have nb : n * s ≤ 1073807360 := by
    rcases cn with ⟨z, _⟩ | ⟨_, z, _⟩
    · rw [z, Int.zero_mul]; decide
    · omega
  have ns1 : 1 ≤ n → s ≤ n * s := fun z => by have := mul_le (c := s) z (by omega); omega
  have us1 : 1 ≤ u → s ≤ u * s := fun z => by have := mul_le (c := s) z (by omega); omega
  have iL : ivL n 0 s d = if n = 0 then -(thr s d - 1) else thr s d + n * s - s := by
    unfold ivL; rw [if_pos ⟨h, hm0⟩, aN, hH0, hL]
    by_cases hz : n = 0
    · rw [if_pos hz, if_pos hz, Int.zero_mul]; omega
    · rw [if_neg hz, if_neg (by omega), if_neg hz]; omega
  have iH : ivH n 0 s d = thr s d - 1 + n * s := by
    unfold ivH; rw [if_pos ⟨h, hm0⟩, aN, hH0, if_neg (by omega)]; omega
  have jL : ivL u m s d = if u = 0 then -(thr s d - 1 + p * s - s) else thr s d + u * s - s := by
    unfold ivL; rw [if_pos ⟨h, hm⟩, aU, hHm, hL]
    by_cases hz : u = 0
    · rw [if_pos hz, if_pos hz, Int.zero_mul]; omega
    · rw [if_neg hz, if_neg (by omega), if_neg hz]; omega
  have jH : ivH u m s d = thr s d - 1 + u * s + p * s - s := by
    unfold ivH; rw [if_pos ⟨h, hm⟩, aU, hHm, if_neg (by omega)]; omega
  have rN : rec_ n 0 s d = if n = 0 then 0 else (thr s d + n * s - s + (thr s d - 1 + n * s)) / 2 := by
    unfold rec_
    by_cases hz : n = 0
    · rw [if_pos hz, if_neg (fun q => q.1 hz)]
    · rw [if_neg hz, if_pos ⟨hz, h, hm0⟩, aN, hH0, hL]; unfold sgn; rw [if_neg (by omega)]; omega
  have rU : rec_ u m s d = if u = 0 then 0 else min ((thr s d + u * s - s + (thr s d - 1 + u * s + p * s - s)) / 2) 4294967296 := by
    unfold rec_
    by_cases hz : u = 0
    · rw [if_pos hz, if_neg (fun q => q.1 hz)]
    · rw [if_neg hz, if_pos ⟨hz, h, hm⟩, aU, hHm, hL]; unfold sgn; rw [if_neg (by omega)]
  have hq : qI (rec_ n 0 s d) s d = n := by
    rw [rN]
    by_cases hz : n = 0
    · rw [if_pos hz, qI_nn h (by decide) (by decide), qn_zero (by omega), hz]
    · rw [if_neg hz, qI_nn h (by omega) (by omega)]
      refine qn_of hs.1 (by omega) ?_ ?_
      · have e : (n - 1) * s = n * s - s := by grind
        omega
      · omega
  by_cases z1 : n = 0
  · have z2 : u = 0 := by omega
    rw [if_pos z1] at iL rN
    rw [if_pos z2] at jL rU
    have n0 : n * s = 0 := by rw [z1]; exact Int.zero_mul s
    have u0 : u * s = 0 := by rw [z2]; exact Int.zero_mul s
    clear hu hH0 hHm hL hn
    exact ⟨by omega, by omega, by omega, by omega, by omega, by omega, by omega, by omega, by omega, by omega, hq⟩
  · rw [if_neg z1] at iL rN
    by_cases z2 : u = 0
    · rw [if_pos z2] at jL rU
      have u0 : u * s = 0 := by rw [z2]; exact Int.zero_mul s
      clear hu hH0 hHm hL hn
      exact ⟨by omega, by omega, by omega, by omega, by omega, by omega, by omega, by omega, by omega, by omega, hq⟩
    · rw [if_neg z2] at jL rU
      clear hu hH0 hHm hL hn
      exact ⟨by omega, by omega, by omega, by omega, by omega, by omega, by omega, by omega, by omega, by omega, hq⟩
theorem cont_c {c m s d : Int} (h : vB s d = true) (h0 : -1073741824 ≤ c) (h1 : c ≤ 1073741824) (m0 : 0 ≤ m) (m1 : m ≤ 20) :
    Cont c m s d (qI c s d) (Int.tdiv (qI c s d) (2 ^ m.toNat) * 2 ^ m.toNat) := by
  have hs := (v_iff.1 h).1
  by_cases hc : 0 ≤ c
  · have q := qI_nn h hc (by omega)
    rw [q, Int.tdiv_eq_ediv_of_nonneg (qn_nonneg hs)]
    exact cont_nn h hc h1 m0 m1
  · have q : qI c s d = -(qn (-c) s d) := by
      have := qI_nn (c := -c) h (by omega) (by omega)
      rw [qI_neg] at this
      omega
    have r := (cont_nn (c := -c) h (by omega) (by omega) m0 m1).neg
    rw [Int.neg_neg] at r
    rw [q, Int.neg_tdiv, Int.tdiv_eq_ediv_of_nonneg (qn_nonneg hs), Int.neg_mul]
    exact r
/-- The planes of a bound suffice. -/
theorem or_bound {M d s e N : Int} (h : vB s e = true) (h0 : 0 ≤ M) (h1 : M ≤ 281474976710656) (hd : -M ≤ d) (hd' : d ≤ M) (hN : ∀ q : Nat, q = (qI M s e).toNat → (q : Int) < 2 ^ N.toNat) :
    -(2 ^ N.toNat) < qI d s e ∧ qI d s e < 2 ^ N.toNat := by
  have q0 : 0 ≤ qI M s e := by rw [qI_nn h h0 h1]; exact qn_nonneg (v_iff.1 h).1
  have b := hN _ rfl
  have m1 := qI_mono (s := s) (d := e) h (by omega) h1 hd'
  have m2 := qI_mono (s := s) (d := e) (a := -M) (b := d) h (by omega) (by omega) hd
  rw [qI_neg] at m2
  omega
end Go.Proofs.Ytadkcgpkbcgeoaa.Qu
