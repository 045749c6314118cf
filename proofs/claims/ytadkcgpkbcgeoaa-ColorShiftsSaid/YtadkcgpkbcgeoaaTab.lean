/-
  The plain mathematics of layer 2: lists of samples in the order of rows. No program in sight.
-/
import Derived.Test.YtadkcgpkbcgeoaaPlnD
set_option maxRecDepth 100000
namespace Go.Proofs.Ytadkcgpkbcgeoaa
open Go.RowKit

/-- The list of a rectangle's samples, row by row. -/
def tabL (q : Pl.R) (f : Int → Int → Int) : List Int :=
  (List.range ((q.x1 - q.x0).toNat * (q.y1 - q.y0).toNat)).map fun i => f (q.x0 + ((i % (q.x1 - q.x0).toNat : Nat) : Int)) (q.y0 + ((i / (q.x1 - q.x0).toNat : Nat) : Int))
/-- The sample of a point. -/
def gv (r : Pl.R) (l : List Int) (x y : Int) : Int := l.getD (idx r.x0 r.y0 r.x1 x y).toNat 0
theorem gv_get {a b c d : Int} {l : List Int} {x y : Int} (h : (idx a b c x y).toNat < l.length) : l[(idx a b c x y).toNat] = gv ⟨a, b, c, d⟩ l x y := by
  simp [gv, h]
theorem area_nat {q : Pl.R} (hv : Pl.validB q.x0 q.y0 q.x1 q.y1 = true) : (((q.x1 - q.x0).toNat * (q.y1 - q.y0).toNat : Nat) : Int) = Pl.areaI q.x0 q.y0 q.x1 q.y1 := by
  obtain ⟨v1, v2, v3, v4, v5, v6⟩ := Pl.valid_iff.1 hv
  rw [Pl.areaI, if_pos hv, Int.natCast_mul, Int.toNat_of_nonneg (by omega), Int.toNat_of_nonneg (by omega)]
theorem tabL_len {q : Pl.R} {f : Int → Int → Int} : (tabL q f).length = (q.x1 - q.x0).toNat * (q.y1 - q.y0).toNat := by simp [tabL]
theorem tabL_area {q : Pl.R} {f : Int → Int → Int} (hv : Pl.validB q.x0 q.y0 q.x1 q.y1 = true) : ((tabL q f).length : Int) = Pl.areaI q.x0 q.y0 q.x1 q.y1 := by
  rw [tabL_len, area_nat hv]
/-- The parts of a point's place. -/
theorem idx_nat {a b c d x y : Int} (hh : Pl.hasB a b c d x y = true) :
    (idx a b c x y).toNat = (y - b).toNat * (c - a).toNat + (x - a).toNat ∧ (x - a).toNat < (c - a).toNat ∧ (y - b).toNat < (d - b).toNat := by
  obtain ⟨h1, h2, h3, h4⟩ := Pl.has_iff.1 hh
  refine ⟨?_, by omega, by omega⟩
  have e : ((y - b).toNat * (c - a).toNat + (x - a).toNat : Nat) = (y - b) * (c - a) + (x - a) := by
    push_cast
    rw [Int.toNat_of_nonneg (by omega), Int.toNat_of_nonneg (by omega), Int.toNat_of_nonneg (by omega)]
  unfold idx
  rw [← e, Int.toNat_natCast]
theorem idx_lt' {a b c d x y : Int} (hh : Pl.hasB a b c d x y = true) : (idx a b c x y).toNat < (c - a).toNat * (d - b).toNat := by
  obtain ⟨e, h1, h2⟩ := idx_nat hh
  rw [e]
  calc (y - b).toNat * (c - a).toNat + (x - a).toNat < (y - b).toNat * (c - a).toNat + (c - a).toNat := by omega
    _ = ((y - b).toNat + 1) * (c - a).toNat := by rw [Nat.add_mul, Nat.one_mul]
    _ ≤ (d - b).toNat * (c - a).toNat := Nat.mul_le_mul_right _ h2
    _ = (c - a).toNat * (d - b).toNat := Nat.mul_comm _ _
/-- Each place is a point's. -/
theorem idx_ex {a b c d : Int} {k : Nat} (hk : k < (c - a).toNat * (d - b).toNat) : ∃ x y, Pl.hasB a b c d x y = true ∧ (idx a b c x y).toNat = k := by
  have hw : 0 < (c - a).toNat := Nat.pos_of_ne_zero fun h => by rw [h] at hk; simp at hk
  have h1 : k % (c - a).toNat < (c - a).toNat := Nat.mod_lt _ hw
  have h2 : k / (c - a).toNat < (d - b).toNat := Nat.div_lt_of_lt_mul hk
  have h3 : (c - a).toNat * (k / (c - a).toNat) + k % (c - a).toNat = k := Nat.div_add_mod _ _
  generalize k / (c - a).toNat = j at *
  generalize k % (c - a).toNat = i at *
  have hh : Pl.hasB a b c d (a + (i : Int)) (b + (j : Int)) = true := Pl.has_iff.2 ⟨by omega, by omega, by omega, by omega⟩
  refine ⟨_, _, hh, ?_⟩
  rw [(idx_nat hh).1]
  have e1 : (b + (j : Int) - b).toNat = j := by omega
  have e2 : (a + (i : Int) - a).toNat = i := by omega
  rw [e1, e2, Nat.mul_comm]
  exact h3
/-- One place is one point's. -/
theorem idx_inj {a b c d x y x' y' : Int} (h : Pl.hasB a b c d x y = true) (h' : Pl.hasB a b c d x' y' = true) (e : (idx a b c x y).toNat = (idx a b c x' y').toNat) : x = x' ∧ y = y' := by
  obtain ⟨e1, l1, l2⟩ := idx_nat h
  obtain ⟨e2, m1, m2⟩ := idx_nat h'
  obtain ⟨h1, h2, h3, h4⟩ := Pl.has_iff.1 h
  obtain ⟨k1, k2, k3, k4⟩ := Pl.has_iff.1 h'
  rw [e1, e2] at e
  have hw : 0 < (c - a).toNat := by omega
  have a1 : ((y - b).toNat * (c - a).toNat + (x - a).toNat) / (c - a).toNat = (y - b).toNat := by
    rw [Nat.mul_comm, Nat.mul_add_div hw, Nat.div_eq_of_lt l1, Nat.add_zero]
  have a2 : ((y' - b).toNat * (c - a).toNat + (x' - a).toNat) / (c - a).toNat = (y' - b).toNat := by
    rw [Nat.mul_comm, Nat.mul_add_div hw, Nat.div_eq_of_lt m1, Nat.add_zero]
  have e3 : (y - b).toNat = (y' - b).toNat := by rw [← a1, ← a2, e]
  rw [e3] at e
  omega
theorem tabL_gv {a b c d : Int} {f : Int → Int → Int} {x y : Int} (hh : Pl.hasB a b c d x y = true) : gv ⟨a, b, c, d⟩ (tabL ⟨a, b, c, d⟩ f) x y = f x y := by
  obtain ⟨e, h1, h2⟩ := idx_nat hh
  obtain ⟨g1, g2, g3, g4⟩ := Pl.has_iff.1 hh
  have hw : 0 < (c - a).toNat := by omega
  have hlt := idx_lt' hh
  have a1 : ((y - b).toNat * (c - a).toNat + (x - a).toNat) / (c - a).toNat = (y - b).toNat := by
    rw [Nat.mul_comm, Nat.mul_add_div hw, Nat.div_eq_of_lt h1, Nat.add_zero]
  have a2 : ((y - b).toNat * (c - a).toNat + (x - a).toNat) % (c - a).toNat = (x - a).toNat := by
    rw [Nat.mul_comm, Nat.mul_add_mod, Nat.mod_eq_of_lt h1]
  have b1 : a + (((x - a).toNat : Nat) : Int) = x := by omega
  have b2 : b + (((y - b).toNat : Nat) : Int) = y := by omega
  have : gv ⟨a, b, c, d⟩ (tabL ⟨a, b, c, d⟩ f) x y = (tabL ⟨a, b, c, d⟩ f)[(idx a b c x y).toNat]'(by rw [tabL_len]; exact hlt) := by
    rw [gv, List.getD_eq_getElem?_getD, List.getElem?_eq_getElem (by rw [tabL_len]; exact hlt), Option.getD_some]
  rw [this]
  simp only [tabL, List.getElem_map, List.getElem_range, e, a1, a2, b1, b2]
/-- Two lists of a rectangle's samples are the same where all samples are. -/
theorem tab_ext {a b c d : Int} {l m : List Int} (hl : l.length = (c - a).toNat * (d - b).toNat) (hm : m.length = (c - a).toNat * (d - b).toNat)
    (h : ∀ x y, Pl.hasB a b c d x y = true → gv ⟨a, b, c, d⟩ l x y = gv ⟨a, b, c, d⟩ m x y) : l = m := by
  refine List.ext_getElem (hl.trans hm.symm) fun k h1 h2 => ?_
  obtain ⟨x, y, hh, rfl⟩ := idx_ex (a := a) (b := b) (c := c) (d := d) (k := k) (by omega)
  have := h x y hh
  rw [← gv_get (d := d) h1, ← gv_get (d := d) h2] at this
  exact this
theorem tabL_self {a b c d : Int} {l : List Int} (hl : l.length = (c - a).toNat * (d - b).toNat) : tabL ⟨a, b, c, d⟩ (gv ⟨a, b, c, d⟩ l) = l :=
  tab_ext (tabL_len) hl fun _ _ hh => tabL_gv hh
theorem tabL_congr {a b c d : Int} {f g : Int → Int → Int} (h : ∀ x y, Pl.hasB a b c d x y = true → f x y = g x y) : tabL ⟨a, b, c, d⟩ f = tabL ⟨a, b, c, d⟩ g :=
  tab_ext tabL_len tabL_len fun x y hh => by rw [tabL_gv hh, tabL_gv hh, h x y hh]
theorem pv_len {a b c d : Int} {l : List Int} (hp : pvB a b c d l.length = true) : l.length = (c - a).toNat * (d - b).toNat := by
  obtain ⟨hv, _, hn⟩ := pv_iff.1 hp
  have := area_nat (q := ⟨a, b, c, d⟩) hv
  dsimp only at this
  omega
theorem pv_tab {a b c d : Int} {f : Int → Int → Int} (hv : Pl.validB a b c d = true) (ha : Pl.areaI a b c d ≤ 1048576) : pvB a b c d (tabL ⟨a, b, c, d⟩ f).length = true :=
  pv_iff.2 ⟨hv, ha, tabL_area (q := ⟨a, b, c, d⟩) hv⟩
/-- The samples of a row, of a column. -/
def rowL (r : Pl.R) (l : List Int) (y : Int) : List Int := (List.range (r.x1 - r.x0).toNat).map fun i : Nat => gv r l (r.x0 + (i : Int)) y
def colL (r : Pl.R) (l : List Int) (x : Int) : List Int := (List.range (r.y1 - r.y0).toNat).map fun i : Nat => gv r l x (r.y0 + (i : Int))
theorem rowL_len (r : Pl.R) (l : List Int) (y : Int) : (rowL r l y).length = (r.x1 - r.x0).toNat := by simp [rowL]
theorem colL_len (r : Pl.R) (l : List Int) (x : Int) : (colL r l x).length = (r.y1 - r.y0).toNat := by simp [colL]
/-- What cropping, pasting and clipping give. -/
def cropL (r : Pl.R) (l : List Int) (q : Pl.R) : List Int := tabL q (gv r l)
def ovF (r : Pl.R) (l : List Int) (q : Pl.R) (k : List Int) (x y : Int) : Int := if Pl.hasB q.x0 q.y0 q.x1 q.y1 x y = true then gv q k x y else gv r l x y
def pasteL (r : Pl.R) (l : List Int) (q : Pl.R) (k : List Int) : List Int := tabL r (ovF r l q k)
def clipI (lo hi v : Int) : Int := min (max v lo) hi
def clipL (lo hi : Int) (l : List Int) : List Int := l.map (clipI lo hi)
/-- A part of a list that is filled row by row. -/
def Filled (r : Pl.R) (f : Int → Int → Int) (x y : Int) (out : List Int) : Prop := out = (tabL r f).take (idx r.x0 r.y0 r.x1 x y).toNat ∧ ((out.length : Nat) : Int) = idx r.x0 r.y0 r.x1 x y
theorem filled_start {a b c d : Int} {f : Int → Int → Int} : Filled ⟨a, b, c, d⟩ f a b [] := by simp [Filled, idx]
theorem filled_next {a b c d : Int} {f : Int → Int → Int} {x y : Int} {out : List Int} (h : Filled ⟨a, b, c, d⟩ f x y out) (hh : Pl.hasB a b c d x y = true) : Filled ⟨a, b, c, d⟩ f (x + 1) y (out ++ [f x y]) := by
  obtain ⟨h1, h2⟩ := h
  dsimp only at h1 h2
  have e : idx a b c (x + 1) y = idx a b c x y + 1 := by unfold idx; omega
  have hlt := idx_lt' hh
  refine ⟨?_, by rw [List.length_append, List.length_singleton]; dsimp only; omega⟩
  have e2 : (idx a b c (x + 1) y).toNat = (idx a b c x y).toNat + 1 := by omega
  dsimp only
  rw [e2, List.take_succ_eq_append_getElem (by rw [tabL_len]; exact hlt), ← h1, gv_get (d := d), tabL_gv hh]
theorem filled_row {a b c d : Int} {f : Int → Int → Int} {y : Int} {out : List Int} (h : Filled ⟨a, b, c, d⟩ f c y out) : Filled ⟨a, b, c, d⟩ f a (y + 1) out := by
  have e : idx a b c a (y + 1) = idx a b c c y := by
    unfold idx
    rw [show y + 1 - b = (y - b) + 1 by omega, Int.add_mul]
    omega
  obtain ⟨h1, h2⟩ := h
  exact ⟨by dsimp only at *; rw [e]; exact h1, by dsimp only at *; rw [e]; exact h2⟩
theorem filled_end {a b c d : Int} {f : Int → Int → Int} {out : List Int} (hd : b ≤ d) (hc : a ≤ c) (h : Filled ⟨a, b, c, d⟩ f a d out) : out = tabL ⟨a, b, c, d⟩ f := by
  obtain ⟨h1, h2⟩ := h
  dsimp only at h1 h2
  have e : (idx a b c a d).toNat = (c - a).toNat * (d - b).toNat := by
    have : (((c - a).toNat * (d - b).toNat : Nat) : Int) = idx a b c a d := by
      unfold idx
      push_cast
      rw [Int.toNat_of_nonneg (by omega), Int.toNat_of_nonneg (by omega), Int.mul_comm]
      omega
    omega
  rw [h1, e, ← tabL_len (q := ⟨a, b, c, d⟩) (f := f), List.take_length]
end Go.Proofs.Ytadkcgpkbcgeoaa
