/-
  Layer 11, the reference's encoder: the mathematics of its carry, of up and of Terminate's search.
-/
import Derived.Test.YtdnfnekfcndnhaaDoorAm
set_option maxRecDepth 100000
namespace Go.Proofs.YtdnfnekfcndnhaaDoor
open Go.RowKit
namespace Am

theorem dig_succ (k : Nat) (v : Int) : dig (k + 1) v = dig k (v / 256) ++ [v % 256] := rfl
theorem dig_num (l : List Int) (k : Nat) (v : Int) (hl : bytes l) (hk : l.length = k) (hv : val l = v) : l = dig k v := by
  subst hk
  subst hv
  exact (dig_val l hl).symm
theorem val_app (l m : List Int) : val (l ++ m) = val l * Pw m.length + val m := by
  induction m using rev_ind with
  | h0 => simp [val_nil, Pw_zero]
  | h1 m x ih =>
    rw [← List.append_assoc, val_snoc, ih, val_snoc, List.length_append, List.length_singleton, Pw_succ, Int.mul_add, Int.mul_left_comm, Int.add_assoc]
/-- While the part is added: i digits are still as they were. -/
structure Cy (N i : Nat) (v q A b : Int) (R : List Int) : Prop where
  len : i + R.length = N
  byt : bytes R
  a0 : 0 ≤ A ∧ A + 1 ≤ Pw i
  b0 : 0 ≤ b ∧ b ≤ 4294967295
  sum : (A + b) * Pw R.length + val R = v + q
theorem cy_start {N : Nat} {v q : Int} (h0 : 0 ≤ v) (h1 : v + 1 ≤ Pw N) (h2 : 0 ≤ q ∧ q ≤ 4294967295) : Cy N N v q v q [] :=
  ⟨by simp, bytes_nil, ⟨h0, h1⟩, h2, by simp [Pw_zero, val_nil]⟩
theorem cons_val (x : Int) (R : List Int) : val (x :: R) = x * Pw R.length + val R := by
  have := val_app [x] R
  simpa [val] using this
theorem cy_next {N i : Nat} {v q A b : Int} {R : List Int} (H : Cy N (i + 1) v q A b R) : Cy N i v q (A / 256) ((b + A % 256) / 256) ((b + A % 256) % 256 :: R) := by
  have ha := H.a0
  have hb := H.b0
  rw [Pw_succ] at ha
  refine ⟨by have := H.len; simp; omega, fun x hx => ?_, by omega, by omega, ?_⟩
  · rcases List.mem_cons.1 hx with rfl | hx
    · unfold byte; omega
    · exact H.byt x hx
  · have hs := H.sum
    rw [List.length_cons, Pw_succ, cons_val]
    have e : A + b = (A / 256 + (b + A % 256) / 256) * 256 + (b + A % 256) % 256 := by omega
    rw [e] at hs
    generalize A / 256 + (b + A % 256) / 256 = z at *
    generalize (b + A % 256) % 256 = y at *
    generalize Pw R.length = p at *
    have : (z * 256 + y) * p = z * (256 * p) + y * p := by rw [Int.add_mul, Int.mul_assoc]
    omega
theorem cy_end {N : Nat} {v q A b : Int} {R : List Int} (H : Cy N 0 v q A b R) (hv : v + q + 1 ≤ Pw N) : R = dig N (v + q) := by
  have hl : R.length = N := by have := H.len; omega
  have ha := H.a0
  rw [Pw_zero] at ha
  have hs := H.sum
  have hR := val_bd R H.byt
  have hA : A = 0 := by omega
  have hb0 : b = 0 := by
    have h0 := H.b0.1
    by_cases h : b = 0
    · exact h
    · have h1 : 1 * Pw R.length ≤ (A + b) * Pw R.length := Int.mul_le_mul_of_nonneg_right (by omega) (by have := Pw_pos R.length; omega)
      rw [hl] at h1 hs hR
      omega
  subst hA
  subst hb0
  simp only [Int.add_zero, Int.zero_mul, Int.zero_add] at hs
  exact dig_num R N _ H.byt hl hs
/-- The next multiple of 256^k, from the number of N digits on: nearer than a width, and of N digits. -/
def upB (N k : Nat) (v w : Int) : Bool := if v % Pw k = 0 then true else decide (Pw k - v % Pw k < w) && decide (v + (Pw k - v % Pw k) < Pw N)
def upV (k : Nat) (v : Int) : Int := if v % Pw k = 0 then v else v + (Pw k - v % Pw k)
theorem upV_mul (k : Nat) (v : Int) : upV k v % Pw k = 0 := by
  have hp := Pw_pos k
  unfold upV
  split
  · assumption
  · have e : v + (Pw k - v % Pw k) = Pw k * (v / Pw k + 1) := by
      have := Int.emod_add_mul_ediv v (Pw k)
      rw [Int.mul_add, Int.mul_one]
      omega
    rw [e]
    exact Int.mul_emod_right _ _
theorem upV_in {N k : Nat} {v w : Int} (hw : 0 < w) (h : upB N k v w = true) : v ≤ upV k v ∧ upV k v < v + w := by
  have hp := Pw_pos k
  unfold upB at h
  unfold upV
  by_cases h0 : v % Pw k = 0
  · rw [if_pos h0]; omega
  · rw [if_neg h0] at h ⊢
    simp at h
    have := Int.emod_lt_of_pos v (show 0 < Pw k by omega)
    omega
theorem pw4 (k : Nat) (hk : 4 ≤ k) (z : Int) (h : z % Pw k = 0) : z % 4294967296 = 0 := by
  obtain ⟨j, rfl⟩ : ∃ j, k = j + 4 := ⟨k - 4, by omega⟩
  have e : Pw (j + 4) = 4294967296 * Pw j := by
    rw [Pw_succ, Pw_succ, Pw_succ, Pw_succ]
    generalize Pw j = p
    omega
  rw [e] at h
  have h2 := Int.emod_add_mul_ediv z (4294967296 * Pw j)
  rw [h, Int.mul_assoc] at h2
  generalize Pw j * (z / (4294967296 * Pw j)) = y at h2
  omega
/-- What the search finds. -/
theorem up_four {s : St} (h : Ok s) {k : Nat} (hk : 4 ≤ k) (hb : upB (s.n + 4) k s.lo s.rg = true) : upV k s.lo = cwv s := by
  have h1 := pw4 k hk _ (upV_mul k s.lo)
  obtain ⟨h2, h3⟩ := upV_in (by have := h.r1; omega) hb
  have := h.r2
  unfold cwv
  rw [if_pos (by omega)]
  omega
theorem top_pw {s : St} (h : Ok s) : s.lo + s.rg ≤ Pw (s.n + 4) := by
  have e : Pw (s.n + 4) = 4294967296 * Pw s.n := by
    rw [Pw_succ, Pw_succ, Pw_succ, Pw_succ]
    generalize Pw s.n = p
    omega
  rw [e]
  exact h.top
theorem up_not4 {s : St} (h : Ok s) (hb : upB (s.n + 4) 4 s.lo s.rg = false) : ¬ (-s.lo) % 4294967296 < s.rg := by
  have ht := top_pw h
  have e4 : Pw 4 = 4294967296 := by decide
  unfold upB at hb
  rw [e4] at hb
  intro hc
  by_cases h0 : s.lo % 4294967296 = 0
  · rw [if_pos h0] at hb; simp at hb
  · rw [if_neg h0] at hb
    have h1 : 4294967296 - s.lo % 4294967296 < s.rg := by omega
    have h2 : s.lo + (4294967296 - s.lo % 4294967296) < Pw (s.n + 4) := by omega
    rw [decide_eq_true h1, decide_eq_true h2] at hb
    simp at hb
theorem up_three {s : St} (h : Ok s) (hb : upB (s.n + 4) 4 s.lo s.rg = false) : upB (s.n + 4) 3 s.lo s.rg = true ∧ upV 3 s.lo = cwv s := by
  have ht := top_pw h
  have hn := up_not4 h hb
  have e3 : Pw 3 = 16777216 := by decide
  have hr := h.r1
  unfold upB upV cwv
  rw [e3, if_neg hn]
  by_cases h0 : s.lo % 16777216 = 0
  · rw [if_pos h0, if_pos h0]
    exact ⟨rfl, by omega⟩
  · rw [if_neg h0, if_neg h0]
    have h1 : 16777216 - s.lo % 16777216 < s.rg := by omega
    have h2 : s.lo + (16777216 - s.lo % 16777216) < Pw (s.n + 4) := by omega
    rw [decide_eq_true h1, decide_eq_true h2]
    exact ⟨rfl, by omega⟩
theorem trim_cwv (s : St) : trim (dig (s.n + 4) (cwv s)) = cw s := by
  have h := cwv_24 s
  generalize hv : cwv s = v at *
  unfold cw
  rw [hv, dig_succ, dig_succ, dig_succ]
  have e1 : v % 256 = 0 := by omega
  have e2 : v / 256 % 256 = 0 := by omega
  have e3 : v / 256 / 256 % 256 = 0 := by omega
  rw [e1, e2, e3, trim_zero, trim_zero, trim_zero]
  congr 2
  omega
end Am
end Go.Proofs.YtdnfnekfcndnhaaDoor
