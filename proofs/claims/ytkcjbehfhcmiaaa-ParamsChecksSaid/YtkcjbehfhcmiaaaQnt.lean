/-
  The plain mathematics of layer 8: steps, thresholds, indices, intervals, bit planes. No program in sight.
-/
import Derived.Test.YtkcjbehfhcmiaaaPlain
set_option maxRecDepth 100000
namespace Go.Proofs.Ytkcjbehfhcmiaaa.Qu
/-- Valid steps and dead-zone parameters, counts of bit planes; the threshold; a number's sign. -/
def vB (s d : Int) : Bool := decide (1 ≤ s ∧ s ≤ 65536 ∧ 8 ≤ d ∧ d ≤ 32)
def mB (m : Int) : Bool := decide (0 ≤ m ∧ m ≤ 60)
def thr (s d : Int) : Int := if vB s d = true then max 1 (s * d / 16) else 0
def absI (v : Int) : Int := if v < 0 then -v else v
def sgn (n v : Int) : Int := if v < 0 then -n else n
def qn (n s d : Int) : Int := if n < thr s d then 0 else 1 + (n - thr s d) / s
def qI (c s d : Int) : Int := if vB s d = true then sgn (qn (min (absI c) 281474976710656) s d) c else 0
def tC (a s : Int) : Int := if 4611686018427387904 / s < a then 4611686018427387904 else a * s
def tR (a s : Int) : Int := if 1125899906842624 / s < a then 1125899906842624 else a * s
/-- The ends of an index above 0. -/
def loX (n s d : Int) : Int := thr s d + (n - 1) * s
def hiX (n m s d : Int) : Int := thr s d - 1 + (n + 2 ^ m.toNat - 1) * s
def ivL (v m s d : Int) : Int := if vB s d = true ∧ mB m = true then (if v = 0 then -(min (hiX 0 m s d) 281474976710656) else if v < 0 then -(min (hiX (absI v) m s d) 281474976710656) else min (loX (absI v) s d) 281474976710656) else 0
def ivH (v m s d : Int) : Int := if vB s d = true ∧ mB m = true then (if v < 0 then -(min (loX (absI v) s d) 281474976710656) else min (hiX (absI v) m s d) 281474976710656) else 0
def rec_ (v m s d : Int) : Int := if v ≠ 0 ∧ vB s d = true ∧ mB m = true then sgn (min ((loX (absI v) s d + hiX (absI v) m s d) / 2) 4294967296) v else 0
theorem v_iff {s d : Int} : vB s d = true ↔ (1 ≤ s ∧ s ≤ 65536 ∧ 8 ≤ d ∧ d ≤ 32) := by simp [vB]
theorem m_iff {m : Int} : mB m = true ↔ (0 ≤ m ∧ m ≤ 60) := by simp [mB]
theorem mul_le {a b c : Int} (h : a ≤ b) (hc : 0 ≤ c) : a * c ≤ b * c := Int.mul_le_mul_of_nonneg_right h hc
theorem sd_bd {s d : Int} (h : vB s d = true) : 0 ≤ s * d ∧ s * d ≤ 2097152 := by
  obtain ⟨h1, h2, h3, h4⟩ := v_iff.1 h
  have a1 : s * d ≤ 65536 * d := mul_le h2 (by omega)
  have a2 : 0 ≤ s * d := Int.mul_nonneg (by omega) (by omega)
  omega
theorem thr_bd {s d : Int} (h : vB s d = true) : 1 ≤ thr s d ∧ thr s d ≤ 131072 := by
  have := sd_bd h
  unfold thr
  rw [if_pos h]
  omega
theorem pow_bd (m : Nat) (h : m ≤ 60) : (1 : Int) ≤ 2 ^ m ∧ (2 : Int) ^ m ≤ 1152921504606846976 := by
  constructor
  · have : (0 : Int) < 2 ^ m := Int.pow_pos (by decide)
    omega
  · have e : (1152921504606846976 : Int) = 2 ^ 60 := by decide
    rw [e]
    exact_mod_cast Nat.pow_le_pow_right (by decide) h
theorem tC_or {a s : Int} (hs : 1 ≤ s) (ha : 0 ≤ a) : (tC a s = a * s ∧ 0 ≤ a * s ∧ a * s ≤ 4611686018427387904) ∨ (tC a s = 4611686018427387904 ∧ 4611686018427387904 < a * s) := by
  unfold tC
  by_cases h : 4611686018427387904 / s < a
  · rw [if_pos h]
    refine .inr ⟨rfl, ?_⟩
    have h3 := Int.lt_mul_ediv_self_add (x := 4611686018427387904) (k := s) (by omega)
    have h4 : s * (4611686018427387904 / s + 1) ≤ s * a := Int.mul_le_mul_of_nonneg_left (by omega) (by omega)
    grind
  · rw [if_neg h]
    refine .inl ⟨rfl, Int.mul_nonneg ha (by omega), ?_⟩
    have h1 : 4611686018427387904 / s * s ≤ 4611686018427387904 := Int.ediv_mul_le _ (by omega)
    have h2 := mul_le (c := s) (Int.not_lt.1 h) (by omega)
    omega
theorem tR_or {a s : Int} (hs : 1 ≤ s) (ha : 0 ≤ a) : (tR a s = a * s ∧ 0 ≤ a * s ∧ a * s ≤ 1125899906842624) ∨ (tR a s = 1125899906842624 ∧ 1125899906842624 < a * s) := by
  unfold tR
  by_cases h : 1125899906842624 / s < a
  · rw [if_pos h]
    refine .inr ⟨rfl, ?_⟩
    have h3 := Int.lt_mul_ediv_self_add (x := 1125899906842624) (k := s) (by omega)
    have h4 : s * (1125899906842624 / s + 1) ≤ s * a := Int.mul_le_mul_of_nonneg_left (by omega) (by omega)
    grind
  · rw [if_neg h]
    refine .inl ⟨rfl, Int.mul_nonneg ha (by omega), ?_⟩
    have h1 : 1125899906842624 / s * s ≤ 1125899906842624 := Int.ediv_mul_le _ (by omega)
    have h2 := mul_le (c := s) (Int.not_lt.1 h) (by omega)
    omega
theorem hi_lo (n m s d : Int) : hiX n m s d = loX n s d + 2 ^ m.toNat * s - 1 := by
  unfold hiX loX; grind
/-- The code's ends: exact up to the limits. -/
theorem near_min {n s d : Int} (h : vB s d = true) (hn : 1 ≤ n) : min (thr s d + tC (n - 1) s) 281474976710656 = min (loX n s d) 281474976710656 := by
  obtain ⟨h1, _⟩ := v_iff.1 h
  have := thr_bd h
  unfold loX
  rcases tC_or (a := n - 1) h1 (by omega) with ⟨e, _⟩ | ⟨e, _⟩ <;> omega
theorem far_min {n m s d : Int} (h : vB s d = true) (hm : mB m = true) (hn : 0 ≤ n) : min (thr s d - 1 + tC (n + 2 ^ m.toNat - 1) s) 281474976710656 = min (hiX n m s d) 281474976710656 := by
  obtain ⟨h1, _⟩ := v_iff.1 h
  have := thr_bd h
  have h2 := m_iff.1 hm
  have := (pow_bd m.toNat (by omega)).1
  unfold hiX
  rcases tC_or (a := n + 2 ^ m.toNat - 1) h1 (by omega) with ⟨e, _⟩ | ⟨e, _⟩ <;> omega
theorem mid_min {n m s d : Int} (h : vB s d = true) (hm : mB m = true) (hn : 1 ≤ n) :
    min ((thr s d + tC (n - 1) s + (thr s d - 1 + tC (n + 2 ^ m.toNat - 1) s)) / 2) 4294967296 = min ((loX n s d + hiX n m s d) / 2) 4294967296 := by
  obtain ⟨h1, _⟩ := v_iff.1 h
  have := thr_bd h
  have h2 := m_iff.1 hm
  have := (pow_bd m.toNat (by omega)).1
  unfold hiX loX
  have g1 : 0 ≤ (n - 1) * s := Int.mul_nonneg (by omega) (by omega)
  have g2 : 0 ≤ (n + 2 ^ m.toNat - 1) * s := Int.mul_nonneg (by omega) (by omega)
  rcases tC_or (a := n - 1) h1 (by omega) with ⟨e, _⟩ | ⟨e, _⟩ <;> rcases tC_or (a := n + 2 ^ m.toNat - 1) h1 (by omega) with ⟨e', _⟩ | ⟨e', _⟩ <;> omega
/-- The reference's ends. -/
def spR (m : Nat) (s : Int) : Int := min (s * 2 ^ m) 1125899906842624
theorem sp_zero {s : Int} (h : s ≤ 65536) : spR 0 s = s := by unfold spR; simp; omega
theorem sp_bd {m : Nat} {s : Int} (h : 1 ≤ s) : 0 ≤ spR m s ∧ spR m s ≤ 1125899906842624 := by
  have : (0 : Int) < 2 ^ m := Int.pow_pos (by decide)
  have g1 : 0 ≤ s * 2 ^ m := Int.mul_nonneg (by omega) (by omega)
  unfold spR; omega
theorem sp_next {m : Nat} {s : Int} (h : 1 ≤ s) : tR (spR m s) 2 = spR (m + 1) s := by
  have : (0 : Int) < 2 ^ m := Int.pow_pos (by decide)
  have g1 : 0 ≤ s * 2 ^ m := Int.mul_nonneg (by omega) (by omega)
  have g2 : s * 2 ^ (m + 1) = s * 2 ^ m * 2 := by rw [Int.pow_succ, Int.mul_assoc]
  unfold spR tR
  rw [g2]
  generalize s * 2 ^ m = P at *
  split <;> omega
theorem ref_lo {n s d : Int} (h : vB s d = true) (hn : 1 ≤ n) : min (thr s d + tR (min n 1125899906842624 - 1) s) 281474976710656 = min (loX n s d) 281474976710656 := by
  obtain ⟨h1, _⟩ := v_iff.1 h
  have := thr_bd h
  unfold loX
  by_cases hb : n ≤ 1125899906842624
  · rw [Int.min_eq_left hb]
    rcases tR_or (a := n - 1) h1 (by omega) with ⟨e, _⟩ | ⟨e, _⟩ <;> omega
  · rw [Int.min_eq_right (b := 1125899906842624) (by omega)]
    have g1 : (n - 1) * 1 ≤ (n - 1) * s := Int.mul_le_mul_of_nonneg_left h1 (by omega)
    have g2 : (1125899906842624 - 1 : Int) * 1 ≤ (1125899906842624 - 1) * s := Int.mul_le_mul_of_nonneg_left h1 (by omega)
    rcases tR_or (a := 1125899906842624 - 1) h1 (by omega) with ⟨e, _⟩ | ⟨e, _⟩ <;> omega
theorem ref_hi {n m s d : Int} (h : vB s d = true) (hm : mB m = true) (hn : 1 ≤ n) : min (thr s d + tR (min n 1125899906842624 - 1) s + spR m.toNat s - 1) 281474976710656 = min (hiX n m s d) 281474976710656 := by
  obtain ⟨h1, _⟩ := v_iff.1 h
  have := thr_bd h
  have h2 := m_iff.1 hm
  have p1 := (pow_bd m.toNat (by omega)).1
  rw [hi_lo]
  unfold loX spR
  have g0 : 0 ≤ s * 2 ^ m.toNat := Int.mul_nonneg (by omega) (by omega)
  rw [Int.mul_comm (2 ^ m.toNat) s]
  generalize s * 2 ^ m.toNat = P at *
  by_cases hb : n ≤ 1125899906842624
  · rw [Int.min_eq_left hb]
    rcases tR_or (a := n - 1) h1 (by omega) with ⟨e, _⟩ | ⟨e, _⟩ <;> omega
  · rw [Int.min_eq_right (b := 1125899906842624) (by omega)]
    have g1 : (n - 1) * 1 ≤ (n - 1) * s := Int.mul_le_mul_of_nonneg_left h1 (by omega)
    have g2 : (1125899906842624 - 1 : Int) * 1 ≤ (1125899906842624 - 1) * s := Int.mul_le_mul_of_nonneg_left h1 (by omega)
    rcases tR_or (a := 1125899906842624 - 1) h1 (by omega) with ⟨e, _⟩ | ⟨e, _⟩ <;> omega
theorem ref_zero {m s d : Int} (h : vB s d = true) (hm : mB m = true) : min (thr s d - 1 + spR m.toNat s - s) 281474976710656 = min (hiX 0 m s d) 281474976710656 := by
  obtain ⟨h1, h1', _⟩ := v_iff.1 h
  have := thr_bd h
  have h2 := m_iff.1 hm
  have p1 := (pow_bd m.toNat (by omega)).1
  have e : hiX 0 m s d = thr s d - 1 + s * 2 ^ m.toNat - s := by unfold hiX; grind
  rw [e]
  unfold spR
  have g0 : 0 ≤ s * 2 ^ m.toNat := Int.mul_nonneg (by omega) (by omega)
  generalize s * 2 ^ m.toNat = P at *
  omega
theorem ref_mid {n m s d : Int} (h : vB s d = true) (hm : mB m = true) (hn : 1 ≤ n) :
    min ((thr s d + tR (min n 1125899906842624 - 1) s + (thr s d + tR (min n 1125899906842624 - 1) s + spR m.toNat s - 1)) / 2) 4294967296 = min ((loX n s d + hiX n m s d) / 2) 4294967296 := by
  obtain ⟨h1, _⟩ := v_iff.1 h
  have := thr_bd h
  have h2 := m_iff.1 hm
  have p1 := (pow_bd m.toNat (by omega)).1
  rw [hi_lo]
  unfold loX spR
  have g0 : 0 ≤ s * 2 ^ m.toNat := Int.mul_nonneg (by omega) (by omega)
  rw [Int.mul_comm (2 ^ m.toNat) s]
  generalize s * 2 ^ m.toNat = P at *
  by_cases hb : n ≤ 1125899906842624
  · rw [Int.min_eq_left hb]
    rcases tR_or (a := n - 1) h1 (by omega) with ⟨e, _⟩ | ⟨e, _⟩ <;> omega
  · rw [Int.min_eq_right (b := 1125899906842624) (by omega)]
    have g1 : (n - 1) * 1 ≤ (n - 1) * s := Int.mul_le_mul_of_nonneg_left h1 (by omega)
    have g2 : (1125899906842624 - 1 : Int) * 1 ≤ (1125899906842624 - 1) * s := Int.mul_le_mul_of_nonneg_left h1 (by omega)
    rcases tR_or (a := 1125899906842624 - 1) h1 (by omega) with ⟨e, _⟩ | ⟨e, _⟩ <;> omega

/-- A quantized absolute value: where it lies. -/
theorem qn_zero {n s d : Int} (h : n < thr s d) : qn n s d = 0 := if_pos h
theorem qn_pos {n s d : Int} (hs : 1 ≤ s) (h : thr s d ≤ n) : 1 ≤ qn n s d ∧ thr s d + (qn n s d - 1) * s ≤ n ∧ n ≤ thr s d - 1 + qn n s d * s := by
  have e : qn n s d = 1 + (n - thr s d) / s := if_neg (by omega)
  rw [e]
  have h0 : 0 ≤ (n - thr s d) / s := Int.ediv_nonneg (by omega) (by omega)
  have h1 : (n - thr s d) / s * s ≤ n - thr s d := Int.ediv_mul_le _ (by omega)
  have h2 := Int.lt_mul_ediv_self_add (x := n - thr s d) (k := s) (by omega)
  have e2 : (1 + (n - thr s d) / s) * s = s + (n - thr s d) / s * s := by grind
  have e3 : (1 + (n - thr s d) / s - 1) * s = (n - thr s d) / s * s := by congr 1; omega
  have e4 : s * ((n - thr s d) / s) = (n - thr s d) / s * s := Int.mul_comm _ _
  rw [e2, e3]
  generalize (n - thr s d) / s * s = P at *
  omega
theorem qn_of {x n s d : Int} (hs : 1 ≤ s) (hn : 1 ≤ n) (h1 : thr s d + (n - 1) * s ≤ x) (h2 : x ≤ thr s d - 1 + n * s) : qn x s d = n := by
  have g : 0 ≤ (n - 1) * s := Int.mul_nonneg (by omega) (by omega)
  obtain ⟨a1, a2, a3⟩ := qn_pos (n := x) (d := d) hs (by omega)
  generalize qn x s d = q at *
  rcases Int.lt_trichotomy q n with hlt | he | hgt
  · have := mul_le (a := q) (b := n - 1) (c := s) (by omega) (by omega)
    omega
  · exact he
  · have := mul_le (a := n) (b := q - 1) (c := s) (by omega) (by omega)
    omega
theorem qn_nonneg {n s d : Int} (hs : 1 ≤ s) : 0 ≤ qn n s d := by
  by_cases h : n < thr s d
  · rw [qn_zero h]; omega
  · have := qn_pos hs (Int.not_lt.1 h); omega
theorem qn_le {n s d : Int} (h : vB s d = true) (hn : 0 ≤ n) : qn n s d ≤ n := by
  have hs := (v_iff.1 h).1
  have ht := thr_bd h
  by_cases h : n < thr s d
  · rw [qn_zero h]; omega
  · obtain ⟨a1, a2, a3⟩ := qn_pos hs (Int.not_lt.1 h)
    have : (qn n s d - 1) * 1 ≤ (qn n s d - 1) * s := Int.mul_le_mul_of_nonneg_left hs (by omega)
    omega
theorem qn_mono {a b s d : Int} (hs : 1 ≤ s) (h : a ≤ b) : qn a s d ≤ qn b s d := by
  by_cases h1 : a < thr s d
  · rw [qn_zero h1]; exact qn_nonneg hs
  · have e1 : qn a s d = 1 + (a - thr s d) / s := if_neg h1
    have e2 : qn b s d = 1 + (b - thr s d) / s := if_neg (by omega)
    rw [e1, e2]
    have := Int.ediv_le_ediv (c := s) (by omega) (show a - thr s d ≤ b - thr s d by omega)
    omega
theorem qI_neg {c s d : Int} : qI (-c) s d = -(qI c s d) := by
  by_cases h : vB s d = true
  · have e : absI (-c) = absI c := by unfold absI; split <;> split <;> omega
    have ht := thr_bd h
    unfold qI
    rw [if_pos h, if_pos h, e]
    by_cases h0 : c = 0
    · subst h0
      have : qn (min (absI 0) 281474976710656) s d = 0 := qn_zero (by simp [absI]; omega)
      rw [this]; simp [sgn]
    · unfold sgn; split <;> split <;> omega
  · unfold qI; rw [if_neg h, if_neg h]; rfl
theorem qI_nn {c s d : Int} (h : vB s d = true) (h0 : 0 ≤ c) (h1 : c ≤ 281474976710656) : qI c s d = qn c s d := by
  unfold qI
  have e : absI c = c := if_neg (by omega)
  rw [if_pos h, e, Int.min_eq_left h1]
  exact if_neg (by omega)
theorem qI_mono {a b s d : Int} (h : vB s d = true) (h1 : -281474976710656 ≤ a) (h2 : b ≤ 281474976710656) (hab : a ≤ b) : qI a s d ≤ qI b s d := by
  have hs := (v_iff.1 h).1
  by_cases ha : 0 ≤ a
  · rw [qI_nn h ha (by omega), qI_nn h (by omega) h2]; exact qn_mono hs hab
  · have na : qI a s d = -(qn (-a) s d) := by
      rw [← qI_nn h (c := -a) (by omega) (by omega), qI_neg]; omega
    have n1 := qn_nonneg (n := -a) (d := d) hs
    by_cases hb : 0 ≤ b
    · rw [qI_nn h hb h2]
      have := qn_nonneg (n := b) (d := d) hs
      omega
    · have nb : qI b s d = -(qn (-b) s d) := by
        rw [← qI_nn h (c := -b) (by omega) (by omega), qI_neg]; omega
      have := qn_mono (a := -b) (b := -a) (d := d) hs (by omega)
      omega
theorem thr_one : thr 1 16 = 1 := by decide
theorem qn_one {n : Int} (h : 0 ≤ n) : qn n 1 16 = n := by
  unfold qn; rw [thr_one]; split <;> omega
theorem qI_one {c : Int} (h1 : -281474976710656 ≤ c) (h2 : c ≤ 281474976710656) : qI c 1 16 = c := by
  by_cases hc : 0 ≤ c
  · rw [qI_nn (by decide) hc h2, qn_one hc]
  · have := qI_nn (c := -c) (s := 1) (d := 16) (by decide) (by omega) (by omega)
    rw [qI_neg, qn_one (by omega)] at this
    omega
theorem rec_one {c : Int} (h1 : -4294967296 ≤ c) (h2 : c ≤ 4294967296) : rec_ c 0 1 16 = c := by
  unfold rec_
  by_cases h0 : c = 0
  · simp [h0]
  · rw [if_pos ⟨h0, by decide, by decide⟩]
    unfold loX hiX
    rw [thr_one]
    have e : (2 : Int) ^ (0 : Int).toNat = 1 := by decide
    rw [e]
    unfold sgn absI
    split <;> omega
/-- Unscale. -/
def unB (m sh : Int) : Bool := decide (1 ≤ sh ∧ sh ≤ 30 ∧ 0 ≤ m ∧ m ≤ 60)
def unV (v m sh : Int) : Int := if unB m sh = true ∧ absI v / 2 ^ sh.toNat ≠ 0 then sgn (absI v / 2 ^ sh.toNat) v else v
def unM (v m sh : Int) : Int := if unB m sh = true then (if absI v / 2 ^ sh.toNat ≠ 0 then max 0 (m - sh) else min m sh) else m
theorem un_iff {m sh : Int} : unB m sh = true ↔ (1 ≤ sh ∧ sh ≤ 30 ∧ 0 ≤ m ∧ m ≤ 60) := by simp [unB]
theorem p2 (n : Nat) : (0 : Int) < 2 ^ n := Int.pow_pos (by decide)
theorem un_big {x s : Int} (hs : unB 0 s = true) (h0 : 0 ≤ x) : unV (x * 2 ^ s.toNat) 0 s = x ∧ unM (x * 2 ^ s.toNat) 0 s = 0 ∧ unV (-x * 2 ^ s.toNat) 0 s = -x ∧ unM (-x * 2 ^ s.toNat) 0 s = 0 := by
  have hp := p2 s.toNat
  have h1 := un_iff.1 hs
  have q : 0 ≤ x * 2 ^ s.toNat := Int.mul_nonneg h0 (by omega)
  have e1 : absI (x * 2 ^ s.toNat) = x * 2 ^ s.toNat := if_neg (by omega)
  have em : -x * 2 ^ s.toNat = -(x * 2 ^ s.toNat) := Int.neg_mul _ _
  have e2 : absI (-(x * 2 ^ s.toNat)) = x * 2 ^ s.toNat := by unfold absI; split <;> omega
  have e3 : x * 2 ^ s.toNat / 2 ^ s.toNat = x := Int.mul_ediv_cancel _ (by omega)
  rw [em]
  by_cases hx : x = 0
  · subst hx
    unfold unV unM
    simp [absI, hs]
    omega
  · have hx1 : 0 < x := by omega
    have q1 : 0 < x * 2 ^ s.toNat := Int.mul_pos hx1 hp
    unfold unV unM
    rw [e1, e2, e3]
    rw [if_pos ⟨hs, hx⟩, if_pos hs, if_pos hx, if_pos ⟨hs, hx⟩]
    unfold sgn
    rw [if_neg (by omega), if_pos (by omega)]
    omega
theorem un_small {x s : Int} (hs : unB 0 s = true) (h0 : 0 ≤ x) (h1 : x < 2 ^ s.toNat) : unV x 0 s = x ∧ unM x 0 s = 0 := by
  have hp := p2 s.toNat
  have h2 := un_iff.1 hs
  have e1 : absI x = x := if_neg (by omega)
  have e2 : x / 2 ^ s.toNat = 0 := Int.ediv_eq_zero_of_lt h0 h1
  unfold unV unM
  rw [e1, e2]
  simp [hs]
  omega
theorem un_ref {v m sh : Int} (hs : unB m sh = true) :
    (2 ^ sh.toNat ≤ v ∨ v ≤ -(2 ^ sh.toNat) → unV v m sh = Int.tdiv v (2 ^ sh.toNat) ∧ unM v m sh = max 0 (m - sh)) ∧
    (¬ (2 ^ sh.toNat ≤ v ∨ v ≤ -(2 ^ sh.toNat)) → unV v m sh = v ∧ unM v m sh = min m sh) := by
  have hp := p2 sh.toNat
  unfold unV unM
  generalize (2 : Int) ^ sh.toNat = p at *
  constructor
  · intro h
    have hz : absI v / p ≠ 0 := by
      have : p ≤ absI v := by unfold absI; split <;> omega
      have := Int.ediv_pos_of_pos_of_dvd (a := 1) (b := 1) (by omega) (by omega) ⟨1, rfl⟩
      have h1 : p / p ≤ absI v / p := Int.ediv_le_ediv hp (by omega)
      rw [Int.ediv_self (by omega)] at h1
      omega
    rw [if_pos ⟨hs, hz⟩, if_pos hs, if_pos hz]
    refine ⟨?_, rfl⟩
    unfold sgn absI
    by_cases hv : v < 0
    · rw [if_pos hv, if_pos hv]
      have : Int.tdiv v p = -(Int.tdiv (-v) p) := by rw [Int.neg_tdiv]; omega
      rw [this, Int.tdiv_eq_ediv_of_nonneg (by omega)]
    · rw [if_neg hv, if_neg hv, Int.tdiv_eq_ediv_of_nonneg (by omega)]
  · intro h
    have hz : ¬ (absI v / p ≠ 0) := by
      have : absI v < p := by unfold absI; split <;> omega
      have h0 : 0 ≤ absI v := by unfold absI; split <;> omega
      rw [Int.ediv_eq_zero_of_lt h0 this]
      simp
    rw [if_neg (fun q => hz q.2), if_pos hs, if_neg hz]
    exact ⟨rfl, rfl⟩
end Go.Proofs.Ytkcjbehfhcmiaaa.Qu
