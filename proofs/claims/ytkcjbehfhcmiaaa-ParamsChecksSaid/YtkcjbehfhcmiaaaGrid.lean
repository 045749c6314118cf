/-
  The plain mathematics of a grid of cells over a rectangle: which cells are touched, what the list of the parts is, that no product overflows. No program in sight.
-/
import Derived.Test.YtkcjbehfhcmiaaaPlain
set_option maxRecDepth 100000
namespace Go.Proofs.Ytkcjbehfhcmiaaa
namespace Pl
open Go.RowKit

theorem fd_nonneg {a w : Int} (hw : 1 ≤ w) (ha : 0 ≤ a) : fd a w = a / w := by
  have h1 : ¬ w < 1 := by omega
  have h2 : ¬ a.tmod w < 0 := by
    have := Int.tmod_nonneg (a := a) w ha
    omega
  rw [fd, if_neg h1, if_neg h2, Int.tdiv_eq_ediv_of_nonneg ha]
theorem cd_nonneg {c w : Int} (hw : 1 ≤ w) (hc : 0 ≤ c) : cd c w = if 0 < c % w then c / w + 1 else c / w := by
  have h1 : ¬ w < 1 := by omega
  rw [cd, if_neg h1, Int.tmod_eq_emod_of_nonneg hc, Int.tdiv_eq_ediv_of_nonneg hc]
/-- What is known of one axis: the first and the last touched cell. -/
structure Axis (a c w X0 X1 : Int) : Prop where
  lo : 0 ≤ X0
  lt : X0 < X1
  hi : X1 ≤ 4096
  low : X0 * w ≤ a
  last : ∀ i, i < X1 → i * w < c
  over : c ≤ X1 * w
  above : a < X0 * w + w
theorem axis {a c w : Int} (hw : 1 ≤ w) (h0 : 0 ≤ a) (h1 : a < c) (h2 : c ≤ 4096) : Axis a c w (fd a w) (cd c w) := by
  have hc0 : 0 ≤ c := by omega
  rw [fd_nonneg hw h0, cd_nonneg hw hc0]
  have ea := Int.mul_ediv_add_emod a w
  have ec := Int.mul_ediv_add_emod c w
  have ra := Int.emod_lt_of_pos a (show 0 < w by omega)
  have rc := Int.emod_lt_of_pos c (show 0 < w by omega)
  have na := Int.emod_nonneg a (show w ≠ 0 by omega)
  have nc := Int.emod_nonneg c (show w ≠ 0 by omega)
  have qa : 0 ≤ a / w := Int.ediv_nonneg h0 (by omega)
  have qc : 0 ≤ c / w := Int.ediv_nonneg hc0 (by omega)
  have cqa := Int.mul_comm w (a / w)
  have cqc := Int.mul_comm w (c / w)
  have hle : c / w * 1 ≤ c / w * w := Int.mul_le_mul_of_nonneg_left hw qc
  have last0 : ∀ i, i ≤ c / w - 1 → i * w ≤ c / w * w - w := by
    intro i hi
    have := Int.mul_le_mul_of_nonneg_right hi (show 0 ≤ w by omega)
    rw [Int.sub_mul] at this
    omega
  have mono : a / w ≤ c / w := Int.ediv_le_ediv (by omega) (by omega)
  by_cases hr : 0 < c % w
  · rw [if_pos hr]
    have e2 : (c / w + 1) * w = c / w * w + w := by rw [Int.add_mul]; omega
    refine ⟨qa, by omega, by omega, by omega, fun i hi => ?_, by omega, by omega⟩
    have := Int.mul_le_mul_of_nonneg_right (show i ≤ c / w by omega) (show 0 ≤ w by omega)
    omega
  · rw [if_neg hr]
    refine ⟨qa, ?_, by omega, by omega, fun i hi => ?_, by omega, by omega⟩
    · refine Classical.byContradiction fun hn => ?_
      have : a / w = c / w := by omega
      rw [this] at cqa ea
      omega
    · have := last0 i (by omega)
      omega
/-- No product of the grid overflows. -/
theorem Axis.fits {a c w X0 X1 : Int} (h : Axis a c w X0 X1) (hw : 1 ≤ w) (hm : w ≤ 9223372036854775807) (h2 : c ≤ 4096) {i : Int} (h3 : X0 ≤ i) (h4 : i < X1) :
    wrap64 (i * w) = i * w ∧ wrap64 ((i + 1) * w) = i * w + w ∧ wrap64 (i * w + w) = i * w + w ∧ 0 ≤ i * w ∧ i * w ≤ 4096 ∧ i * w + w ≤ 9223372036854775807 := by
  have hi : 0 ≤ i := by have := h.lo; omega
  have p0 : 0 ≤ i * w := Int.mul_nonneg hi (by omega)
  have p1 := h.last i h4
  have e : (i + 1) * w = i * w + w := by rw [Int.add_mul]; omega
  have p2 : i * w + w ≤ 9223372036854775807 := by
    by_cases hz : i = 0
    · subst hz; simp; omega
    · have := Int.mul_le_mul_of_nonneg_right (show 1 ≤ i by omega) (show 0 ≤ w by omega)
      omega
  rw [e]
  exact ⟨IntWalk.wrap64_in _ ⟨by omega, by omega⟩, IntWalk.wrap64_in _ ⟨by omega, by omega⟩, IntWalk.wrap64_in _ ⟨by omega, by omega⟩, p0, by omega, p2⟩

/-- The part in the cell of column i and row j. -/
def part (a b c d w h i j : Int) : R := isec a b c d (i * w) (j * h) (i * w + w) (j * h + h)
/-- The t-th part, nx to a row. -/
def partN (a b c d w h : Int) (nx t : Nat) : R := part a b c d w h (fd a w + ((t % nx : Nat) : Int)) (fd b h + ((t / nx : Nat) : Int))
/-- The first n parts, row by row. -/
def partsN (a b c d w h : Int) (nx n : Nat) : List R := (List.range n).map (partN a b c d w h nx)
theorem partsN_length (a b c d w h : Int) (nx n : Nat) : (partsN a b c d w h nx n).length = n := by simp [partsN]
theorem partsN_succ (a b c d w h : Int) {nx i j : Nat} (hi : i < nx) :
    partsN a b c d w h nx (j * nx + i + 1) = partsN a b c d w h nx (j * nx + i) ++ [part a b c d w h (fd a w + (i : Int)) (fd b h + (j : Int))] := by
  have h1 : (j * nx + i) % nx = i := by rw [Nat.mul_comm, Nat.mul_add_mod]; exact Nat.mod_eq_of_lt hi
  have h2 : (j * nx + i) / nx = j := by
    rw [Nat.mul_comm, Nat.mul_add_div (by omega), Nat.div_eq_of_lt hi]; omega
  simp only [partsN, List.range_succ, List.map_append, List.map_cons, List.map_nil, partN, h1, h2]
def nX (a c w : Int) : Nat := (cd c w - fd a w).toNat
theorem nX_eq {a c w : Int} (h : Axis a c w (fd a w) (cd c w)) : fd a w + (nX a c w : Int) ≤ cd c w ∧ cd c w ≤ fd a w + (nX a c w : Int) := by
  have := h.lt
  unfold nX
  omega
theorem area_grid {a b c d w h : Int} (ax : Axis a c w (fd a w) (cd c w)) (ay : Axis b d h (fd b h) (cd d h)) : areaI (fd a w) (fd b h) (cd c w) (cd d h) = ((nX a c w * nX b d h : Nat) : Int) := by
  have h1 := ax.lo
  have h2 := ax.lt
  have h3 := ax.hi
  have h4 := ay.lo
  have h5 := ay.lt
  have h6 := ay.hi
  rw [areaI, if_pos (valid_iff.2 ⟨h1, by omega, h3, h4, by omega, h6⟩)]
  unfold nX
  rw [Int.natCast_mul, Int.toNat_of_nonneg (by omega), Int.toNat_of_nonneg (by omega)]
theorem cells_cap {m k nx ny : Nat} (hm : m < nx) (hk : k < ny) (h : nx * ny ≤ 65536) : k * nx + m + 1 ≤ 65536 := by
  have h1 : (k + 1) * nx ≤ ny * nx := Nat.mul_le_mul_right nx hk
  rw [Nat.add_mul, Nat.one_mul] at h1
  rw [Nat.mul_comm ny nx] at h1
  omega
/-- What Cells answers. -/
def cellsL (a b c d w h : Int) : List R :=
  if validB a b c d = true ∧ emptyB a b c d = false ∧ 1 ≤ w ∧ 1 ≤ h ∧ nX a c w * nX b d h ≤ 65536 then partsN a b c d w h (nX a c w) (nX b d h * nX a c w) else []
theorem cellsL_len (a b c d w h : Int) : (cellsL a b c d w h).length ≤ 140737488351232 := by
  unfold cellsL
  split
  · rename_i hc
    rw [partsN_length, Nat.mul_comm]
    exact Nat.le_trans hc.2.2.2.2 (by omega)
  · simp
/-- The cells of a list of rectangles. -/
def flat (l : List R) : List Value := l.flatMap fun r => [.int .i64 r.x0, .int .i64 r.y0, .int .i64 r.x1, .int .i64 r.y1]
theorem flat_length (l : List R) : (flat l).length = l.length * 4 := by
  induction l with
  | nil => rfl
  | cons r l ih => simp only [flat, List.flatMap_cons, List.length_append, List.length_cons, List.length_nil] at *; omega
theorem flat_append (l m : List R) : flat (l ++ m) = flat l ++ flat m := by simp [flat]
theorem flat_at : ∀ (l : List R) (k : Nat) (h : k < l.length), (flat l)[k * 4]? = some (.int .i64 l[k].x0) ∧ (flat l)[k * 4 + 1]? = some (.int .i64 l[k].y0) ∧ (flat l)[k * 4 + 2]? = some (.int .i64 l[k].x1) ∧ (flat l)[k * 4 + 3]? = some (.int .i64 l[k].y1)
  | [], k, h => by simp at h
  | r :: l, 0, _ => by simp [flat]
  | r :: l, k + 1, h => by
    have ih := flat_at l k (by simpa using h)
    have e : flat (r :: l) = .int .i64 r.x0 :: .int .i64 r.y0 :: .int .i64 r.x1 :: .int .i64 r.y1 :: flat l := rfl
    rw [e, show (k + 1) * 4 = k * 4 + 1 + 1 + 1 + 1 by omega]
    simpa using ih
end Pl
end Go.Proofs.Ytkcjbehfhcmiaaa
