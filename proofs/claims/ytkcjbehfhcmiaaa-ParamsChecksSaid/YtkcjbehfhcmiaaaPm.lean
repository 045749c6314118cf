/-
  Layer 22: the plain mathematics of precincts and code blocks: which cell holds a point, how many parts of a list hold it. No program in sight.
-/
import Derived.Test.YtkcjbehfhcmiaaaTile
import Derived.Test.YtkcjbehfhcmiaaaMore
set_option maxRecDepth 100000
namespace Go.Proofs.Ytkcjbehfhcmiaaa
namespace Pl
open Go.RowKit

/-- 2^e. -/
def pw (e : Int) : Int := ((2 ^ e.toNat : Nat) : Int)
theorem pw_pos (e : Int) : 1 ≤ pw e := by
  have : 0 < 2 ^ e.toNat := Nat.two_pow_pos _
  unfold pw
  omega
theorem pw_le {e : Int} {m : Nat} (h : e ≤ (m : Int)) : pw e ≤ ((2 ^ m : Nat) : Int) := by
  have : 2 ^ e.toNat ≤ 2 ^ m := Nat.pow_le_pow_right (by decide) (by omega)
  unfold pw
  omega
theorem pw_half {e : Int} (h : 1 ≤ e) : pw e = 2 * pw (e - 1) := by
  have : e.toNat = (e - 1).toNat + 1 := by omega
  unfold pw
  rw [this, Nat.pow_succ]
  omega

/-- Are there cells? -/
def gridOk (a b c d ea eb m : Int) : Prop := validB a b c d = true ∧ emptyB a b c d = false ∧ 0 ≤ ea ∧ ea ≤ m ∧ 0 ≤ eb ∧ eb ≤ m ∧ nX a c (pw ea) * nX b d (pw eb) ≤ 65536
instance (a b c d ea eb m : Int) : Decidable (gridOk a b c d ea eb m) := by unfold gridOk; infer_instance
def gridR (a b c d ea eb m : Int) : R := if gridOk a b c d ea eb m then ⟨fd a (pw ea), fd b (pw eb), cd c (pw ea), cd d (pw eb)⟩ else ⟨0, 0, 0, 0⟩
theorem gridR_yes {a b c d ea eb m : Int} (h : gridOk a b c d ea eb m) : gridR a b c d ea eb m = ⟨fd a (pw ea), fd b (pw eb), cd c (pw ea), cd d (pw eb)⟩ := if_pos h
theorem gridR_no {a b c d ea eb m : Int} (h : ¬ gridOk a b c d ea eb m) : gridR a b c d ea eb m = ⟨0, 0, 0, 0⟩ := if_neg h
theorem gridOk.grid {a b c d ea eb m : Int} (h : gridOk a b c d ea eb m) : Grid a b c d (pw ea) (pw eb) := by
  obtain ⟨hv, he, _, _, _, _, _⟩ := h
  obtain ⟨v1, v2, v3, v4, v5, v6⟩ := valid_iff.1 hv
  obtain ⟨e1, e2⟩ := empty_not.1 he
  exact ⟨axis (pw_pos _) v1 e1 v3, axis (pw_pos _) v4 e2 v6, e1, e2, pw_pos _, pw_pos _⟩
theorem gridOk.area {a b c d ea eb m : Int} (h : gridOk a b c d ea eb m) : areaI (gridR a b c d ea eb m).x0 (gridR a b c d ea eb m).y0 (gridR a b c d ea eb m).x1 (gridR a b c d ea eb m).y1 = ((nX a c (pw ea) * nX b d (pw eb) : Nat) : Int) := by
  rw [gridR_yes h]
  exact area_grid h.grid.ax h.grid.ay
theorem gridR_area_no {a b c d ea eb m : Int} (h : ¬ gridOk a b c d ea eb m) : areaI (gridR a b c d ea eb m).x0 (gridR a b c d ea eb m).y0 (gridR a b c d ea eb m).x1 (gridR a b c d ea eb m).y1 = 0 := by
  rw [gridR_no h]
  simp [areaI]
/-- The numbers of columns and rows. -/
def colsI (a b c d ea eb m : Int) : Int := if gridOk a b c d ea eb m then (nX a c (pw ea) : Int) else 0
def rowsI (a b c d ea eb m : Int) : Int := if gridOk a b c d ea eb m then (nX b d (pw eb) : Int) else 0
theorem Grid.pos {a b c d w h : Int} (g : Grid a b c d w h) : 0 < nX a c w ∧ 0 < nX b d h ∧ nX a c w ≤ 4096 ∧ nX b d h ≤ 4096 := by
  have h1 := g.ax.lo
  have h2 := g.ax.lt
  have h3 := g.ax.hi
  have h4 := g.ay.lo
  have h5 := g.ay.lt
  have h6 := g.ay.hi
  unfold nX
  omega
/-- The part of a rectangle r in the t-th cell of a grid that begins at (X0, Y0) and has nx columns. -/
def cellN (r : R) (X0 Y0 w h : Int) (nx t : Nat) : R := part r.x0 r.y0 r.x1 r.y1 w h (X0 + ((t % nx : Nat) : Int)) (Y0 + ((t / nx : Nat) : Int))
theorem partN_cellN (a b c d w h : Int) (nx t : Nat) : partN a b c d w h nx t = cellN ⟨a, b, c, d⟩ (fd a w) (fd b h) w h nx t := rfl
/-- In the list of the parts exactly one holds a point. -/
theorem countP_one (p : Nat → Bool) (t0 : Nat) : ∀ n, (∀ t, t < n → (p t = true ↔ t = t0)) → (List.range n).countP p = if t0 < n then 1 else 0
  | 0, _ => by simp
  | n + 1, h => by
    rw [List.range_succ, List.countP_append, countP_one p t0 n (fun t ht => h t (by omega))]
    have hn := h n (by omega)
    by_cases e : n = t0
    · subst e
      simp [hn.2 rfl]
    · have : p n = false := by
        cases hp : p n with
        | false => rfl
        | true => exact absurd (hn.1 hp) e
      simp only [List.countP_cons, List.countP_nil, this]
      by_cases h1 : t0 < n
      · rw [if_pos h1, if_pos (show t0 < n + 1 by omega)]; rfl
      · rw [if_neg h1, if_neg (show ¬ t0 < n + 1 by omega)]; rfl
def hasR (x y : Int) (r : R) : Bool := hasB r.x0 r.y0 r.x1 r.y1 x y
theorem cell_div {i w x : Int} (hw : 1 ≤ w) : (i * w ≤ x ∧ x < i * w + w) ↔ i = x / w := by
  have h1 := Int.mul_ediv_add_emod x w
  have h2 := Int.emod_nonneg x (show w ≠ 0 by omega)
  have h3 := Int.emod_lt_of_pos x (show 0 < w by omega)
  rw [Int.mul_comm w] at h1
  constructor
  · rintro ⟨h4, h5⟩
    rcases Int.lt_trichotomy i (x / w) with h | h | h
    · have := mul_step hw h; omega
    · exact h
    · have := mul_step hw h; omega
  · rintro rfl
    omega
theorem has_cellN {r : R} {X0 Y0 w h x y : Int} {nx t : Nat} (hw : 1 ≤ w) (hh : 1 ≤ h) : hasR x y (cellN r X0 Y0 w h nx t) = true ↔ (hasR x y r = true ∧ X0 + ((t % nx : Nat) : Int) = x / w ∧ Y0 + ((t / nx : Nat) : Int) = y / h) := by
  unfold hasR cellN part
  rw [has_isec, Bool.and_eq_true]
  rw [has_iff (a := (X0 + ((t % nx : Nat) : Int)) * w), ← cell_div hw, ← cell_div hh]
  constructor
  · rintro ⟨h1, h2, h3, h4, h5⟩
    exact ⟨h1, ⟨h2, h3⟩, h4, h5⟩
  · rintro ⟨h1, ⟨h2, h3⟩, h4, h5⟩
    exact ⟨h1, h2, h3, h4, h5⟩
theorem hold_one {r : R} {X0 Y0 w h x y : Int} {nx ny : Nat} (hw : 1 ≤ w) (hh : 1 ≤ h) (hr : hasR x y r = true) (hx : X0 ≤ x / w ∧ x / w < X0 + (nx : Int)) (hy : Y0 ≤ y / h ∧ y / h < Y0 + (ny : Int)) :
    ((List.range (nx * ny)).map (cellN r X0 Y0 w h nx)).countP (hasR x y) = 1 := by
  obtain ⟨i, hi⟩ : ∃ i : Nat, X0 + (i : Int) = x / w := ⟨(x / w - X0).toNat, by omega⟩
  obtain ⟨j, hj⟩ : ∃ j : Nat, Y0 + (j : Int) = y / h := ⟨(y / h - Y0).toNat, by omega⟩
  have hi' : i < nx := by omega
  have hj' : j < ny := by omega
  rw [List.countP_map, countP_one (hasR x y ∘ cellN r X0 Y0 w h nx) (j * nx + i) (nx * ny)]
  · rw [if_pos]
    have : (j + 1) * nx ≤ ny * nx := Nat.mul_le_mul_right nx hj'
    rw [Nat.add_mul, Nat.one_mul, Nat.mul_comm ny nx] at this
    omega
  · intro t ht
    rw [Function.comp, has_cellN hw hh]
    have hdm := Nat.div_add_mod t nx
    constructor
    · rintro ⟨_, h1, h2⟩
      have e1 : t % nx = i := by omega
      have e2 : t / nx = j := by omega
      rw [e1, e2, Nat.mul_comm] at hdm
      exact hdm.symm
    · rintro rfl
      have e1 : (j * nx + i) % nx = i := by rw [Nat.mul_comm, Nat.mul_add_mod]; exact Nat.mod_eq_of_lt hi'
      have e2 : (j * nx + i) / nx = j := by rw [Nat.mul_comm, Nat.mul_add_div (by omega), Nat.div_eq_of_lt hi']; omega
      rw [e1, e2]
      exact ⟨hr, hi, hj⟩
/-- A part lies in its rectangle, or has no point. -/
theorem cellN_in (r : R) (X0 Y0 w h : Int) (nx t : Nat) : let p := cellN r X0 Y0 w h nx t; p.x0 < p.x1 → p.y0 < p.y1 → r.x0 ≤ p.x0 ∧ p.x1 ≤ r.x1 ∧ r.y0 ≤ p.y0 ∧ p.y1 ≤ r.y1 := by
  unfold cellN part isec
  split
  · intro p h; simp [p] at h
  · intro p _ _; simp only [p]; omega
/-- A point of a rectangle lies in a cell of its grid. -/
theorem Grid.holds {a b c d w h x y : Int} (g : Grid a b c d w h) (hp : hasB a b c d x y = true) : (fd a w ≤ x / w ∧ x / w < fd a w + (nX a c w : Int)) ∧ (fd b h ≤ y / h ∧ y / h < fd b h + (nX b d h : Int)) := by
  obtain ⟨p1, p2, p3, p4⟩ := has_iff.1 hp
  have k : ∀ {a c w x : Int}, Axis a c w (fd a w) (cd c w) → 1 ≤ w → a ≤ x → x < c → fd a w ≤ x / w ∧ x / w < fd a w + (nX a c w : Int) := by
    intro a c w x ax hw h1 h2
    have n := nX_eq ax
    have ⟨q1, q2⟩ := (cell_div (x := x) hw).2 rfl
    have l := ax.low
    have o := ax.over
    refine ⟨?_, ?_⟩
    · refine Classical.byContradiction fun hn => ?_
      have := mul_step hw (show x / w < fd a w by omega)
      omega
    · refine Classical.byContradiction fun hn => ?_
      have := Int.mul_le_mul_of_nonneg_right (show cd c w ≤ x / w by omega) (show 0 ≤ w by omega)
      omega
  exact ⟨k g.ax g.hw p1 p2, k g.ay g.hh p3 p4⟩
/-- The bounds of a subband along one axis. -/
def halfI (up : Bool) (x : Int) : Int := if up then x.tdiv 2 else (x + 1).tdiv 2
theorem half_holds {up : Bool} {a c e x : Int} (he : 1 ≤ e) (h0 : 0 ≤ a) (ax : Axis a c (pw e) (fd a (pw e)) (cd c (pw e))) (hac : a < c) (h1 : halfI up a ≤ x) (h2 : x < halfI up c) :
    fd a (pw e) ≤ x / pw (e - 1) ∧ x / pw (e - 1) < fd a (pw e) + (nX a c (pw e) : Int) := by
  have n := nX_eq ax
  have hw := pw_pos (e - 1)
  have ⟨q1, q2⟩ := (cell_div (x := x) hw).2 rfl
  have l := ax.low
  have o := ax.over
  have hp := pw_half he
  have c0 : 0 ≤ c := by omega
  have g1 : a ≤ 2 * x + 1 := by
    unfold halfI at h1
    cases up
    · simp only [Bool.false_eq_true, if_false] at h1; rw [Int.tdiv_eq_ediv_of_nonneg (by omega)] at h1; omega
    · simp only [if_true] at h1; rw [Int.tdiv_eq_ediv_of_nonneg h0] at h1; omega
  have g2 : 2 * x + 1 ≤ c := by
    unfold halfI at h2
    cases up
    · simp only [Bool.false_eq_true, if_false] at h2; rw [Int.tdiv_eq_ediv_of_nonneg (by omega)] at h2; omega
    · simp only [if_true] at h2; rw [Int.tdiv_eq_ediv_of_nonneg c0] at h2; omega
  generalize pw (e - 1) = w at *
  generalize pw e = W at *
  subst hp
  generalize x / w = i at *
  generalize fd a (2 * w) = f at *
  generalize cd c (2 * w) = g at *
  have eF : f * (2 * w) = 2 * (f * w) := by rw [Int.mul_left_comm]
  have eG : g * (2 * w) = 2 * (g * w) := by rw [Int.mul_left_comm]
  refine ⟨?_, ?_⟩
  · refine Classical.byContradiction fun hn => ?_
    have := mul_step hw (show i < f by omega)
    omega
  · refine Classical.byContradiction fun hn => ?_
    have := Int.mul_le_mul_of_nonneg_right (show g ≤ i by omega) (show 0 ≤ w by omega)
    omega
end Pl
end Go.Proofs.Ytkcjbehfhcmiaaa
