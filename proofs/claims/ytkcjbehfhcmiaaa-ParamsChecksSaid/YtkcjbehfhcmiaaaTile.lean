/-
  The plain mathematics of the cells of a small rectangle: each part has points, lies in the rectangle, is no larger than a cell; two parts have no point in common and stand in their order; their areas sum to the rectangle's. No program in sight.
-/
import Derived.Test.YtkcjbehfhcmiaaaGrid
import Derived.Test.YtkcjbehfhcmiaaaMore
set_option maxRecDepth 100000
namespace Go.Proofs.Ytkcjbehfhcmiaaa
namespace Pl

def areaR (r : R) : Int := areaI r.x0 r.y0 r.x1 r.y1
def sumA : List R → Int
  | [] => 0
  | r :: l => areaR r + sumA l
theorem sumA_append : ∀ (l m : List R), sumA (l ++ m) = sumA l + sumA m
  | [], m => by simp [sumA]
  | r :: l, m => by simp only [List.cons_append, sumA, sumA_append l m]; omega
theorem sumA_take (l : List R) (k : Nat) (h : k < l.length) : sumA (l.take (k + 1)) = sumA (l.take k) + areaR l[k] := by
  rw [List.take_succ_eq_append_getElem h, sumA_append]
  simp [sumA]
theorem areaR_bd (r : R) : 0 ≤ areaR r ∧ areaR r ≤ 16777216 := by
  unfold areaR
  by_cases h : validB r.x0 r.y0 r.x1 r.y1 = true
  · rw [areaI, if_pos h]; exact area_bd h
  · rw [areaI, if_neg h]; omega
theorem sumA_bd : ∀ (l : List R), 0 ≤ sumA l ∧ sumA l ≤ 16777216 * (l.length : Int)
  | [] => by simp [sumA]
  | r :: l => by
    have h1 := areaR_bd r
    have h2 := sumA_bd l
    simp only [sumA, List.length_cons]
    omega
/-- A touched cell's part along one axis. -/
theorem axis_part {a c w X0 X1 : Int} (h : Axis a c w X0 X1) (hac : a < c) (hw : 1 ≤ w) {i : Int} (h3 : X0 ≤ i) (h4 : i < X1) : max a (i * w) < min c (i * w + w) := by
  have h5 := h.last i h4
  have h6 := h.above
  have h7 := Int.mul_le_mul_of_nonneg_right h3 (show 0 ≤ w by omega)
  omega
theorem part_val {a b c d w h : Int} (ax : Axis a c w (fd a w) (cd c w)) (ay : Axis b d h (fd b h) (cd d h)) (hac : a < c) (hbd : b < d) (hw : 1 ≤ w) (hh : 1 ≤ h) {i j : Int} (i0 : fd a w ≤ i) (i1 : i < cd c w) (j0 : fd b h ≤ j) (j1 : j < cd d h) :
    part a b c d w h i j = ⟨max a (i * w), max b (j * h), min c (i * w + w), min d (j * h + h)⟩ := by
  have h1 := axis_part ax hac hw i0 i1
  have h2 := axis_part ay hbd hh j0 j1
  unfold part isec
  rw [if_neg]
  intro he
  have := empty_iff.1 he
  omega
theorem mul_step {w i i' : Int} (hw : 1 ≤ w) (h : i < i') : i * w + w ≤ i' * w := by
  have := Int.mul_le_mul_of_nonneg_right (show i + 1 ≤ i' by omega) (show 0 ≤ w by omega)
  rw [Int.add_mul, Int.one_mul] at this
  exact this
/-- Fewer cells than columns. -/
theorem axis_few {a c w X0 X1 : Int} (h : Axis a c w X0 X1) (hac : a < c) (hw : 1 ≤ w) : X1 - X0 ≤ c - a := by
  have h1 := h.above
  have h2 := h.last (X1 - 1) (by omega)
  by_cases hs : X1 - 1 ≤ X0
  · omega
  · have h3 : (X1 - 1 - (X0 + 1)) * 1 ≤ (X1 - 1 - (X0 + 1)) * w := Int.mul_le_mul_of_nonneg_left hw (by omega)
    have e : (X1 - 1 - (X0 + 1)) * w = (X1 - 1) * w - (X0 * w + w) := by rw [Int.sub_mul, Int.add_mul, Int.one_mul]
    omega

section
variable {a b c d w h : Int}
/-- What is given of a small rectangle and its grid. -/
structure Grid (a b c d w h : Int) : Prop where
  ax : Axis a c w (fd a w) (cd c w)
  ay : Axis b d h (fd b h) (cd d h)
  hac : a < c
  hbd : b < d
  hw : 1 ≤ w
  hh : 1 ≤ h
theorem Grid.at (g : Grid a b c d w h) {t : Nat} (ht : t < nX b d h * nX a c w) :
    0 < nX a c w ∧ fd a w ≤ fd a w + ((t % nX a c w : Nat) : Int) ∧ fd a w + ((t % nX a c w : Nat) : Int) < cd c w ∧ fd b h ≤ fd b h + ((t / nX a c w : Nat) : Int) ∧ fd b h + ((t / nX a c w : Nat) : Int) < cd d h := by
  have h1 := nX_eq g.ax
  have h2 := nX_eq g.ay
  have hp : 0 < nX a c w := by
    refine Nat.pos_of_ne_zero fun h0 => ?_
    rw [h0] at ht
    omega
  have hm := Nat.mod_lt t hp
  have hd : t / nX a c w < nX b d h := (Nat.div_lt_iff_lt_mul hp).2 ht
  generalize t / nX a c w = u at *
  generalize t % nX a c w = v at *
  omega
theorem Grid.val (g : Grid a b c d w h) {t : Nat} (ht : t < nX b d h * nX a c w) :
    partN a b c d w h (nX a c w) t = ⟨max a ((fd a w + ((t % nX a c w : Nat) : Int)) * w), max b ((fd b h + ((t / nX a c w : Nat) : Int)) * h), min c ((fd a w + ((t % nX a c w : Nat) : Int)) * w + w), min d ((fd b h + ((t / nX a c w : Nat) : Int)) * h + h)⟩ := by
  obtain ⟨_, i0, i1, j0, j1⟩ := g.at ht
  exact part_val g.ax g.ay g.hac g.hbd g.hw g.hh i0 i1 j0 j1
/-- Each part has points, lies in the rectangle, is no larger than a cell. -/
theorem Grid.one (g : Grid a b c d w h) {t : Nat} (ht : t < nX b d h * nX a c w) {p : R} (hp : p = partN a b c d w h (nX a c w) t) :
    p.x0 < p.x1 ∧ p.y0 < p.y1 ∧ a ≤ p.x0 ∧ p.x1 ≤ c ∧ b ≤ p.y0 ∧ p.y1 ≤ d ∧ p.x1 - p.x0 ≤ w ∧ p.y1 - p.y0 ≤ h := by
  obtain ⟨_, i0, i1, j0, j1⟩ := g.at ht
  have h1 := axis_part g.ax g.hac g.hw i0 i1
  have h2 := axis_part g.ay g.hbd g.hh j0 j1
  rw [hp, g.val ht]
  dsimp only
  omega
/-- Two parts have no point in common and stand in their order. -/
theorem Grid.two (g : Grid a b c d w h) {k t : Nat} (hkt : k < t) (ht : t < nX b d h * nX a c w) {p q : R} (hp : p = partN a b c d w h (nX a c w) k) (hq : q = partN a b c d w h (nX a c w) t) :
    (p.x1 ≤ q.x0 ∨ p.y1 ≤ q.y0) ∧ p.y0 ≤ q.y0 ∧ (p.y0 = q.y0 → p.x0 ≤ q.x0) := by
  obtain ⟨hn, i0, i1, j0, j1⟩ := g.at ht
  obtain ⟨_, i0', i1', j0', j1'⟩ := g.at (Nat.lt_trans hkt ht)
  have h1' := axis_part g.ay g.hbd g.hh j0' j1'
  have hdm := Nat.div_add_mod k (nX a c w)
  have hdm' := Nat.div_add_mod t (nX a c w)
  have hle : k / nX a c w ≤ t / nX a c w := Nat.div_le_div_right (by omega)
  rw [hp, hq, g.val ht, g.val (Nat.lt_trans hkt ht)]
  dsimp only
  by_cases hrow : k / nX a c w = t / nX a c w
  · rw [hrow] at hdm
    have hmod : k % nX a c w < t % nX a c w := by omega
    have := mul_step (w := w) g.hw (show fd a w + ((k % nX a c w : Nat) : Int) < fd a w + ((t % nX a c w : Nat) : Int) by omega)
    have := g.hw
    rw [hrow]
    omega
  · have := mul_step (w := h) g.hh (show fd b h + ((k / nX a c w : Nat) : Int) < fd b h + ((t / nX a c w : Nat) : Int) by omega)
    omega

/-- Along one axis the parts sum up to the whole. -/
def lenX (a c w : Int) (i : Nat) : Int := min c ((fd a w + (i : Int)) * w + w) - max a ((fd a w + (i : Int)) * w)
def clampX (a c w : Int) (i : Nat) : Int := min c (max a ((fd a w + (i : Int)) * w))
theorem len_clamp (ax : Axis a c w (fd a w) (cd c w)) (hac : a < c) (hw : 1 ≤ w) {i : Nat} (hi : i < nX a c w) : lenX a c w i = clampX a c w (i + 1) - clampX a c w i := by
  have h1 := (nX_eq ax).2
  have h2 := (nX_eq ax).1
  have h3 := axis_part ax hac hw (i := fd a w + (i : Int)) (by omega) (by omega)
  have h4 := ax.last (fd a w + (i : Int)) (by omega)
  unfold lenX clampX
  have e : (fd a w + ((i + 1 : Nat) : Int)) * w = (fd a w + (i : Int)) * w + w := by
    rw [Int.natCast_add, ← Int.add_assoc, Int.add_mul, show ((1 : Nat) : Int) * w = w by simp]
  rw [e]
  omega
theorem clamp_zero (ax : Axis a c w (fd a w) (cd c w)) (hac : a < c) : clampX a c w 0 = a := by
  have := ax.low
  unfold clampX
  simp only [Int.natCast_zero, Int.add_zero]
  omega
theorem clamp_full (ax : Axis a c w (fd a w) (cd c w)) : clampX a c w (nX a c w) = c := by
  have h1 := (nX_eq ax).2
  have h2 := (nX_eq ax).1
  have h3 := ax.over
  have e : fd a w + (nX a c w : Int) = cd c w := by omega
  unfold clampX
  rw [e]
  omega
theorem Grid.area (g : Grid a b c d w h) (hv : validB a b c d = true) {i j : Nat} (hi : i < nX a c w) (hj : j < nX b d h) :
    areaR (part a b c d w h (fd a w + (i : Int)) (fd b h + (j : Int))) = lenX a c w i * lenX b d h j := by
  have h1 := nX_eq g.ax
  have h2 := nX_eq g.ay
  obtain ⟨v1, v2, v3, v4, v5, v6⟩ := valid_iff.1 hv
  have p1 := axis_part g.ax g.hac g.hw (i := fd a w + (i : Int)) (by omega) (by omega)
  have p2 := axis_part g.ay g.hbd g.hh (i := fd b h + (j : Int)) (by omega) (by omega)
  rw [part_val g.ax g.ay g.hac g.hbd g.hw g.hh (by omega) (by omega) (by omega) (by omega)]
  unfold areaR
  dsimp only
  rw [areaI, if_pos (valid_iff.2 (by omega))]
  rfl
theorem Grid.row (g : Grid a b c d w h) (hv : validB a b c d = true) {j : Nat} (hj : j < nX b d h) : ∀ i, i ≤ nX a c w →
    sumA (partsN a b c d w h (nX a c w) (j * nX a c w + i)) = sumA (partsN a b c d w h (nX a c w) (j * nX a c w + 0)) + (clampX a c w i - a) * lenX b d h j
  | 0, _ => by rw [clamp_zero g.ax g.hac]; simp
  | i + 1, hi => by
    have ih := g.row hv hj i (by omega)
    rw [← Nat.add_assoc, partsN_succ _ _ _ _ _ _ (show i < nX a c w by omega), sumA_append, ih]
    simp only [sumA]
    rw [g.area hv (by omega) hj, len_clamp g.ax g.hac g.hw (by omega), Int.sub_mul, Int.sub_mul, Int.sub_mul]
    omega
theorem Grid.rows (g : Grid a b c d w h) (hv : validB a b c d = true) : ∀ j, j ≤ nX b d h → sumA (partsN a b c d w h (nX a c w) (j * nX a c w)) = (c - a) * (clampX b d h j - b)
  | 0, _ => by rw [clamp_zero g.ay g.hbd]; simp [partsN, sumA]
  | j + 1, hj => by
    have ih := g.rows hv j (by omega)
    have hr := g.row hv (show j < nX b d h by omega) (nX a c w) (Nat.le_refl _)
    rw [Nat.add_zero, clamp_full g.ax] at hr
    rw [Nat.add_mul, Nat.one_mul, hr, ih, len_clamp g.ay g.hbd g.hh (by omega), Int.mul_sub, Int.mul_sub, Int.mul_sub]
    omega
/-- The areas sum to the rectangle's. -/
theorem Grid.sum (g : Grid a b c d w h) (hv : validB a b c d = true) : sumA (partsN a b c d w h (nX a c w) (nX b d h * nX a c w)) = areaI a b c d := by
  rw [g.rows hv _ (Nat.le_refl _), clamp_full g.ay, areaI, if_pos hv]
end

theorem isec_apart {p q : R} (h : p.x1 ≤ q.x0 ∨ p.y1 ≤ q.y0) : emptyB (isec p.x0 p.y0 p.x1 p.y1 q.x0 q.y0 q.x1 q.y1).x0 (isec p.x0 p.y0 p.x1 p.y1 q.x0 q.y0 q.x1 q.y1).y0 (isec p.x0 p.y0 p.x1 p.y1 q.x0 q.y0 q.x1 q.y1).x1 (isec p.x0 p.y0 p.x1 p.y1 q.x0 q.y0 q.x1 q.y1).y1 = true := by
  rw [empty_iff]
  rcases isec_cases p.x0 p.y0 p.x1 p.y1 q.x0 q.y0 q.x1 q.y1 with ⟨_, e⟩ | ⟨_, e⟩
  · rw [e]; left; exact Int.le_refl _
  · rw [e]; dsimp only; omega
/-- Valid, with at most 20 columns and 20 rows. -/
def smallB (a b c d : Int) : Bool := decide (validB a b c d = true ∧ c - a ≤ 20 ∧ d - b ≤ 20)
theorem small_iff {a b c d : Int} : smallB a b c d = true ↔ (validB a b c d = true ∧ c - a ≤ 20 ∧ d - b ≤ 20) := by simp [smallB]
/-- What is wanted of the cells of a small rectangle. -/
structure Tiled (a b c d w h : Int) (L : List R) : Prop where
  len : L.length ≤ 400
  one : ∀ t (ht : t < L.length), emptyB L[t].x0 L[t].y0 L[t].x1 L[t].y1 = false ∧ contB a b c d L[t].x0 L[t].y0 L[t].x1 L[t].y1 = true ∧ L[t].x1 - L[t].x0 ≤ w ∧ L[t].y1 - L[t].y0 ≤ h ∧ 0 ≤ L[t].x0 ∧ L[t].x1 ≤ 4096 ∧ 0 ≤ L[t].y0 ∧ L[t].y1 ≤ 4096
  two : ∀ k t (hk : k < t) (ht : t < L.length), (L[k].x1 ≤ L[t].x0 ∨ L[k].y1 ≤ L[t].y0) ∧ L[k].y0 ≤ L[t].y0 ∧ (L[k].y0 = L[t].y0 → L[k].x0 ≤ L[t].x0)
  sum : sumA L = areaI a b c d
theorem tiled {a b c d w h : Int} (hs : smallB a b c d = true) (hw : 1 ≤ w) (hh : 1 ≤ h) : Tiled a b c d w h (cellsL a b c d w h) := by
  obtain ⟨hv, s1, s2⟩ := small_iff.1 hs
  obtain ⟨v1, v2, v3, v4, v5, v6⟩ := valid_iff.1 hv
  by_cases he : emptyB a b c d = true
  · have e : cellsL a b c d w h = [] := by unfold cellsL; rw [if_neg (by rw [he]; simp)]
    rw [e]
    refine ⟨by simp, fun t ht => by simp at ht, fun k t hk ht => by simp at ht, ?_⟩
    rw [sumA, areaI, if_pos hv]
    rcases empty_iff.1 he with h0 | h0
    · rw [show c - a = 0 by omega, Int.zero_mul]
    · rw [show d - b = 0 by omega, Int.mul_zero]
  · have he' : emptyB a b c d = false := by simpa using he
    obtain ⟨e1, e2⟩ := empty_not.1 he'
    have g : Grid a b c d w h := ⟨axis hw v1 e1 v3, axis hh v4 e2 v6, e1, e2, hw, hh⟩
    have f1 := axis_few g.ax e1 hw
    have f2 := axis_few g.ay e2 hh
    have n1 : nX a c w ≤ 20 := by unfold nX; omega
    have n2 : nX b d h ≤ 20 := by unfold nX; omega
    have n3 : nX a c w * nX b d h ≤ 20 * 20 := Nat.mul_le_mul n1 n2
    have e : cellsL a b c d w h = partsN a b c d w h (nX a c w) (nX b d h * nX a c w) := by unfold cellsL; rw [if_pos ⟨hv, he', hw, hh, by omega⟩]
    have hlen : (partsN a b c d w h (nX a c w) (nX b d h * nX a c w)).length = nX b d h * nX a c w := partsN_length ..
    have hget : ∀ t (ht : t < (partsN a b c d w h (nX a c w) (nX b d h * nX a c w)).length), (partsN a b c d w h (nX a c w) (nX b d h * nX a c w))[t] = partN a b c d w h (nX a c w) t := fun t ht => by simp [partsN]
    rw [e]
    refine ⟨by rw [hlen, Nat.mul_comm]; exact n3, fun t ht => ?_, fun k t hk ht => ?_, g.sum hv⟩
    · have := g.one (by rw [← hlen]; exact ht) (hget t ht)
      rw [empty_not, cont_iff]
      omega
    · exact g.two hk (by rw [← hlen]; exact ht) (hget k (by omega)) (hget t ht)
end Pl
end Go.Proofs.Ytkcjbehfhcmiaaa
