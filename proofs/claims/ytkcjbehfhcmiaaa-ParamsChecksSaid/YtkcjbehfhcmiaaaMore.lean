/-
  More plain mathematics of rectangles: what the intersection contains, that its order does not matter. No program in sight.
-/
import Derived.Test.YtkcjbehfhcmiaaaPlain
set_option maxRecDepth 100000
namespace Go.Proofs.Ytkcjbehfhcmiaaa
namespace Pl

theorem isec_cases (a b c d a' b' c' d' : Int) :
    (emptyB (max a a') (max b b') (min c c') (min d d') = true ∧ isec a b c d a' b' c' d' = ⟨0, 0, 0, 0⟩) ∨
    ((max a a' < min c c' ∧ max b b' < min d d') ∧ isec a b c d a' b' c' d' = ⟨max a a', max b b', min c c', min d d'⟩) := by
  unfold isec
  by_cases h : emptyB (max a a') (max b b') (min c c') (min d d') = true
  · exact .inl ⟨h, by rw [if_pos h]⟩
  · exact .inr ⟨empty_not.1 (by simpa using h), by rw [if_neg h]⟩
theorem has_isec (a b c d a' b' c' d' x y : Int) :
    hasB (isec a b c d a' b' c' d').x0 (isec a b c d a' b' c' d').y0 (isec a b c d a' b' c' d').x1 (isec a b c d a' b' c' d').y1 x y = (hasB a b c d x y && hasB a' b' c' d' x y) := by
  rw [Bool.eq_iff_iff, Bool.and_eq_true, has_iff, has_iff, has_iff]
  rcases isec_cases a b c d a' b' c' d' with ⟨h, e⟩ | ⟨h, e⟩
  · have h' := empty_iff.1 h
    rw [e]; dsimp only; omega
  · rw [e]; dsimp only; omega
theorem isec_comm (a b c d a' b' c' d' : Int) : isec a' b' c' d' a b c d = isec a b c d a' b' c' d' := by
  have e1 : max a' a = max a a' := by omega
  have e2 : max b' b = max b b' := by omega
  have e3 : min c' c = min c c' := by omega
  have e4 : min d' d = min d d' := by omega
  unfold isec
  rw [e1, e2, e3, e4]
theorem cont_isec_l (a b c d a' b' c' d' : Int) :
    contB a b c d (isec a b c d a' b' c' d').x0 (isec a b c d a' b' c' d').y0 (isec a b c d a' b' c' d').x1 (isec a b c d a' b' c' d').y1 = true := by
  rw [cont_iff]
  rcases isec_cases a b c d a' b' c' d' with ⟨h, e⟩ | ⟨h, e⟩
  · rw [e]; dsimp only; omega
  · rw [e]; dsimp only; omega
theorem cont_isec_r (a b c d a' b' c' d' : Int) :
    contB a' b' c' d' (isec a b c d a' b' c' d').x0 (isec a b c d a' b' c' d').y0 (isec a b c d a' b' c' d').x1 (isec a b c d a' b' c' d').y1 = true := by
  rw [← isec_comm]; exact cont_isec_l _ _ _ _ _ _ _ _
theorem cont_eqB {a b c d a' b' c' d' : Int} (h : emptyB a' b' c' d' = false) : eqB (isec a b c d a' b' c' d').x0 (isec a b c d a' b' c' d').y0 (isec a b c d a' b' c' d').x1 (isec a b c d a' b' c' d').y1 a' b' c' d' = contB a b c d a' b' c' d' := by
  rw [Bool.eq_iff_iff]; exact cont_eq h
theorem cont_empty {a b c d a' b' c' d' : Int} (h : emptyB a' b' c' d' = true) : contB a b c d a' b' c' d' = true := by simp [contB, h]
theorem cd_val {a d : Int} (hd : 1 ≤ d) (ha : 0 ≤ a) : d * cd a d - d < a ∧ a ≤ d * cd a d ∧ 0 ≤ cd a d := by
  have h1 : ¬ d < 1 := by omega
  have e := Int.mul_ediv_add_emod a d
  have r := Int.emod_lt_of_pos a (show 0 < d by omega)
  have n := Int.emod_nonneg a (show d ≠ 0 by omega)
  have q : 0 ≤ a / d := Int.ediv_nonneg ha (by omega)
  rw [cd, if_neg h1, Int.tmod_eq_emod_of_nonneg ha, Int.tdiv_eq_ediv_of_nonneg ha]
  by_cases hr : 0 < a % d
  · rw [if_pos hr, Int.mul_add]
    omega
  · rw [if_neg hr]
    omega
theorem mul_lt_cancel {d x y : Int} (hd : 1 ≤ d) (h : d * x < d * y) : x < y := Int.lt_of_mul_lt_mul_left h (by omega)
/-- x is from the quotient on exactly if its multiple is from a on. -/
theorem cd_le {a d x : Int} (hd : 1 ≤ d) (ha : 0 ≤ a) : cd a d ≤ x ↔ a ≤ x * d := by
  obtain ⟨h1, h2, _⟩ := cd_val hd ha
  rw [Int.mul_comm x d]
  constructor
  · intro h
    have := Int.mul_le_mul_of_nonneg_left h (show 0 ≤ d by omega)
    omega
  · intro h
    have : d * (cd a d - 1) < d * x := by rw [Int.mul_sub]; omega
    have := mul_lt_cancel hd this
    omega
theorem cd_mono {a b d : Int} (hd : 1 ≤ d) (ha : 0 ≤ a) (h : a ≤ b) : cd a d ≤ cd b d := by
  rw [cd_le hd ha]
  have := (cd_le (x := cd b d) hd (show 0 ≤ b by omega)).1 (Int.le_refl _)
  omega
theorem cd_self_le {a d : Int} (hd : 1 ≤ d) (ha : 0 ≤ a) : cd a d ≤ a := by
  rw [cd_le hd ha]
  have := Int.mul_le_mul_of_nonneg_left hd ha
  omega
theorem cd_cd {a d e : Int} (hd : 1 ≤ d) (he : 1 ≤ e) (ha : 0 ≤ a) : cd (cd a d) e = cd a (d * e) := by
  have hde : 1 ≤ d * e := by
    have := Int.mul_le_mul_of_nonneg_left he (show 0 ≤ d by omega)
    omega
  have h0 := (cd_val hd ha).2.2
  have key : ∀ x, cd (cd a d) e ≤ x ↔ cd a (d * e) ≤ x := by
    intro x
    rw [cd_le he h0, cd_le hd ha, cd_le hde ha, Int.mul_comm d e, ← Int.mul_assoc]
  have h1 := (key (cd a (d * e))).2 (Int.le_refl _)
  have h2 := (key (cd (cd a d) e)).1 (Int.le_refl _)
  omega
theorem redR_pos {a b c d dx dy : Int} (hv : validB a b c d = true) (hx : divB dx = true) (hy : divB dy = true) : redR a b c d dx dy = ⟨cd a dx, cd b dy, cd c dx, cd d dy⟩ := by
  rw [redR, if_pos ⟨hv, hx, hy⟩]
theorem red_valid {a b c d dx dy : Int} (hv : validB a b c d = true) (hx : divB dx = true) (hy : divB dy = true) : validB (cd a dx) (cd b dy) (cd c dx) (cd d dy) = true := by
  obtain ⟨v1, v2, v3, v4, v5, v6⟩ := valid_iff.1 hv
  have x1 := (div_iff.1 hx).1
  have y1 := (div_iff.1 hy).1
  refine valid_iff.2 ⟨(cd_val x1 v1).2.2, cd_mono x1 v1 v2, ?_, (cd_val y1 v4).2.2, cd_mono y1 v4 v5, ?_⟩
  · have := cd_self_le x1 (show 0 ≤ c by omega)
    omega
  · have := cd_self_le y1 (show 0 ≤ d by omega)
    omega
theorem has_red {a b c d dx dy x y : Int} (hv : validB a b c d = true) (hx : divB dx = true) (hy : divB dy = true) :
    hasB a b c d (x * dx) (y * dy) = hasB (redR a b c d dx dy).x0 (redR a b c d dx dy).y0 (redR a b c d dx dy).x1 (redR a b c d dx dy).y1 x y := by
  obtain ⟨v1, v2, v3, v4, v5, v6⟩ := valid_iff.1 hv
  have x1 := (div_iff.1 hx).1
  have y1 := (div_iff.1 hy).1
  rw [redR_pos hv hx hy, Bool.eq_iff_iff, has_iff, has_iff]
  have e1 := cd_le (x := x) x1 v1
  have e2 := cd_le (x := x) x1 (show 0 ≤ c by omega)
  have e3 := cd_le (x := y) y1 v4
  have e4 := cd_le (x := y) y1 (show 0 ≤ d by omega)
  dsimp only
  rw [e1, e3, ← Int.not_le, ← Int.not_le, ← Int.not_le, ← Int.not_le, e2, e4]
theorem red_red {a b c d dx dy ex ey : Int} (hv : validB a b c d = true) (hx : divB dx = true) (hy : divB dy = true) (hex : divB ex = true) (hey : divB ey = true) (hxx : dx * ex ≤ 4096) (hyy : dy * ey ≤ 4096) :
    redR (redR a b c d dx dy).x0 (redR a b c d dx dy).y0 (redR a b c d dx dy).x1 (redR a b c d dx dy).y1 ex ey = redR a b c d (dx * ex) (dy * ey) := by
  obtain ⟨v1, v2, v3, v4, v5, v6⟩ := valid_iff.1 hv
  have x1 := (div_iff.1 hx).1
  have y1 := (div_iff.1 hy).1
  have ex1 := (div_iff.1 hex).1
  have ey1 := (div_iff.1 hey).1
  have p1 : 1 ≤ dx * ex := by
    have := Int.mul_le_mul_of_nonneg_left ex1 (show 0 ≤ dx by omega)
    omega
  have p2 : 1 ≤ dy * ey := by
    have := Int.mul_le_mul_of_nonneg_left ey1 (show 0 ≤ dy by omega)
    omega
  rw [redR_pos hv hx hy, redR_pos hv (div_iff.2 ⟨p1, hxx⟩) (div_iff.2 ⟨p2, hyy⟩), redR_pos (red_valid hv hx hy) hex hey]
  rw [cd_cd x1 ex1 v1, cd_cd x1 ex1 (by omega), cd_cd y1 ey1 v4, cd_cd y1 ey1 (by omega)]
end Pl
end Go.Proofs.Ytkcjbehfhcmiaaa
