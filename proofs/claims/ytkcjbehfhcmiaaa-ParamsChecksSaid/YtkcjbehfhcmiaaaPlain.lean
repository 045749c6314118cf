/-
  The plain mathematics of layer 1: what the functions on rectangles answer, as functions of integers. No program in sight.
-/
import Derived.RowKit
import Derived.IntWalk
set_option maxRecDepth 100000
namespace Go.Proofs.Ytkcjbehfhcmiaaa
namespace Pl
open Go.RowKit

/-- a / b rounded up, 0 if b < 1. -/
def cd (a b : Int) : Int := if b < 1 then 0 else if 0 < a.tmod b then a.tdiv b + 1 else a.tdiv b
/-- a / b rounded down, 0 if b < 1. -/
def fd (a b : Int) : Int := if b < 1 then 0 else if a.tmod b < 0 then a.tdiv b - 1 else a.tdiv b
def validB (a b c d : Int) : Bool := decide (0 ≤ a ∧ a ≤ c ∧ c ≤ 4096 ∧ 0 ≤ b ∧ b ≤ d ∧ d ≤ 4096)
def emptyB (a b c d : Int) : Bool := decide (c ≤ a ∨ d ≤ b)
def hasB (a b c d x y : Int) : Bool := decide (a ≤ x ∧ x < c ∧ b ≤ y ∧ y < d)
def areaI (a b c d : Int) : Int := if validB a b c d = true then (c - a) * (d - b) else 0
structure R where
  x0 : Int
  y0 : Int
  x1 : Int
  y1 : Int
def isec (a b c d a' b' c' d' : Int) : R :=
  if emptyB (max a a') (max b b') (min c c') (min d d') = true then ⟨0, 0, 0, 0⟩ else ⟨max a a', max b b', min c c', min d d'⟩
def contB (a b c d a' b' c' d' : Int) : Bool := emptyB a' b' c' d' || decide (a ≤ a' ∧ c' ≤ c ∧ b ≤ b' ∧ d' ≤ d)

theorem valid_iff {a b c d : Int} : validB a b c d = true ↔ (0 ≤ a ∧ a ≤ c ∧ c ≤ 4096 ∧ 0 ≤ b ∧ b ≤ d ∧ d ≤ 4096) := by simp [validB]
theorem empty_iff {a b c d : Int} : emptyB a b c d = true ↔ (c ≤ a ∨ d ≤ b) := by simp [emptyB]
theorem empty_not {a b c d : Int} : emptyB a b c d = false ↔ (a < c ∧ b < d) := by simp [emptyB]

def eqB (a b c d a' b' c' d' : Int) : Bool := decide (a = a' ∧ b = b' ∧ c = c' ∧ d = d')
theorem eq_iff {a b c d a' b' c' d' : Int} : eqB a b c d a' b' c' d' = true ↔ (a = a' ∧ b = b' ∧ c = c' ∧ d = d') := by simp [eqB]
theorem eq_self (a b c d : Int) : eqB a b c d a b c d = true := by simp [eqB]
def joinR (a b c d a' b' c' d' : Int) : R :=
  if emptyB a' b' c' d' = true then ⟨a, b, c, d⟩ else if eqB a b c d 0 0 0 0 = true then ⟨a', b', c', d'⟩ else ⟨min a a', min b b', max c c', max d d'⟩
theorem cont_eq {a b c d a' b' c' d' : Int} (h : emptyB a' b' c' d' = false) : eqB (isec a b c d a' b' c' d').x0 (isec a b c d a' b' c' d').y0 (isec a b c d a' b' c' d').x1 (isec a b c d a' b' c' d').y1 a' b' c' d' = true ↔ contB a b c d a' b' c' d' = true := by
  have h' := empty_not.1 h
  rw [eq_iff, contB, h, isec]
  by_cases he : emptyB (max a a') (max b b') (min c c') (min d d') = true
  · rw [if_pos he]
    have he' := empty_iff.1 he
    simp
    omega
  · rw [if_neg he]
    simp
    omega
def divB (d : Int) : Bool := decide (1 ≤ d ∧ d ≤ 4096)
theorem div_iff {d : Int} : divB d = true ↔ (1 ≤ d ∧ d ≤ 4096) := by simp [divB]
theorem div_not {d : Int} : divB d = false ↔ (d < 1 ∨ 4096 < d) := by simp [divB]; omega
def redR (a b c d dx dy : Int) : R :=
  if validB a b c d = true ∧ divB dx = true ∧ divB dy = true then ⟨cd a dx, cd b dy, cd c dx, cd d dy⟩ else ⟨0, 0, 0, 0⟩
theorem has_iff {a b c d x y : Int} : hasB a b c d x y = true ↔ (a ≤ x ∧ x < c ∧ b ≤ y ∧ y < d) := by simp [hasB]
theorem cont_iff {a b c d a' b' c' d' : Int} : contB a b c d a' b' c' d' = true ↔ ((c' ≤ a' ∨ d' ≤ b') ∨ (a ≤ a' ∧ c' ≤ c ∧ b ≤ b' ∧ d' ≤ d)) := by simp [contB, emptyB]
theorem tmod_pos {a b : Int} (_hb : 1 ≤ b) (h : 0 < a.tmod b) : 0 ≤ a := by
  refine Classical.byContradiction fun hn => ?_
  have := Int.tmod_nonneg (a := -a) b (by omega)
  rw [Int.neg_tmod] at this
  omega
theorem tmod_neg {a b : Int} (_hb : 1 ≤ b) (h : a.tmod b < 0) : a < 0 := by
  refine Classical.byContradiction fun hn => ?_
  have := Int.tmod_nonneg (a := a) b (by omega)
  omega
theorem div_lt {a b : Int} (hb : 1 ≤ b) (h0 : 0 ≤ a) (h : 0 < a % b) : 0 ≤ a / b ∧ a / b + 1 ≤ a := by
  have h1 := Int.mul_ediv_add_emod a b
  have h2 : 0 ≤ a / b := Int.ediv_nonneg h0 (by omega)
  have h3 : 1 * (a / b) ≤ b * (a / b) := Int.mul_le_mul_of_nonneg_right hb h2
  exact ⟨h2, by omega⟩
theorem cd_wrap {a b : Int} (hb : 1 ≤ b) (h0 : -9223372036854775808 ≤ a) (h1 : a ≤ 9223372036854775807) (h : 0 < a.tmod b) : wrap64 (a.tdiv b + 1) = a.tdiv b + 1 := by
  have ha := tmod_pos hb h
  rw [Int.tmod_eq_emod_of_nonneg ha] at h
  have hd := div_lt hb ha h
  rw [Int.tdiv_eq_ediv_of_nonneg ha]
  exact IntWalk.wrap64_in _ ⟨by omega, by omega⟩
theorem fd_wrap {a b : Int} (hb : 1 ≤ b) (h0 : -9223372036854775808 ≤ a) (h1 : a ≤ 9223372036854775807) (h : a.tmod b < 0) : wrap64 (a.tdiv b - 1) = a.tdiv b - 1 := by
  have ha := tmod_neg hb h
  have h' : 0 < (-a).tmod b := by rw [Int.neg_tmod]; omega
  have e : (-a).tdiv b = -(a.tdiv b) := Int.neg_tdiv _ _
  rw [Int.tmod_eq_emod_of_nonneg (by omega)] at h'
  have hd := div_lt hb (by omega) h'
  rw [Int.tdiv_eq_ediv_of_nonneg (by omega)] at e
  exact IntWalk.wrap64_in _ ⟨by omega, by omega⟩
theorem area_bd {a b c d : Int} (h : validB a b c d = true) : 0 ≤ (c - a) * (d - b) ∧ (c - a) * (d - b) ≤ 16777216 := by
  obtain ⟨h1, h2, h3, h4, h5, h6⟩ := valid_iff.1 h
  refine ⟨Int.mul_nonneg (by omega) (by omega), ?_⟩
  exact Int.le_trans (Int.mul_le_mul_of_nonneg_right (c := d - b) (show c - a ≤ 4096 by omega) (by omega)) (by omega)
theorem area_wrap {a b c d : Int} (h : validB a b c d = true) : wrap64 ((c - a) * (d - b)) = areaI a b c d := by
  rw [areaI, if_pos h]
  have := area_bd h
  exact IntWalk.wrap64_in _ ⟨by omega, by omega⟩

end Pl
end Go.Proofs.Ytkcjbehfhcmiaaa
