/-
  Layer 10: tag trees, the mathematics: levels, minima, coding a leaf.
-/
import Derived.Test.YtaddendclipkkaaKit
set_option maxRecDepth 100000
namespace Go.Proofs.Ytaddendclipkkaa
open Go.RowKit

/-- Columns (or rows) of level k. -/
def dm (n : Nat) : Nat → Nat
  | 0 => n
  | k + 1 => (dm n k + 1) / 2
theorem dm_pos {n : Nat} (h : 1 ≤ n) : ∀ k, 1 ≤ dm n k
  | 0 => h
  | k + 1 => by have := dm_pos h k; unfold dm; omega
theorem dm_le {n : Nat} (h : 1 ≤ n) : ∀ k, dm n k ≤ n
  | 0 => Nat.le_refl _
  | k + 1 => by have := dm_le h k; have := dm_pos h k; unfold dm; omega
theorem dm_at {n x : Nat} (hx : x < n) : ∀ k, x / 2 ^ k < dm n k
  | 0 => by simpa [dm] using hx
  | k + 1 => by
    have := dm_at hx k
    have e : x / 2 ^ (k + 1) = x / 2 ^ k / 2 := by rw [Nat.pow_succ, Nat.div_div_eq_div_mul]
    rw [e]; unfold dm; omega
theorem half_at (x k : Nat) : x / 2 ^ (k + 1) = x / 2 ^ k / 2 := by rw [Nat.pow_succ, Nat.div_div_eq_div_mul]
/-- A node: value, lower bound, known. -/
structure Nd where
  v : Int
  l : Int
  b : Bool
/-- Coding one node up to a threshold: g gives the next bit, its error, and what is then. -/
def nrun {σ : Type} (g : σ → Nd → Int × Int × σ) (t : Int) : Nat → σ → Nd → Int × σ × Nd
  | 0, s, n => (0, s, n)
  | f + 1, s, n =>
    if n.l < t ∧ n.b = false then
      if (g s n).2.1 ≠ 0 then ((g s n).2.1, (g s n).2.2, n)
      else if (g s n).1 = 1 then nrun g t f (g s n).2.2 { n with b := true }
      else nrun g t f (g s n).2.2 { n with l := n.l + 1 }
    else (0, s, n)
theorem nrun_stop {σ : Type} (g : σ → Nd → Int × Int × σ) (t : Int) (f : Nat) (s : σ) (n : Nd) (h : ¬ (n.l < t ∧ n.b = false)) : nrun g t f s n = (0, s, n) := by
  cases f with
  | zero => rfl
  | succ f => unfold nrun; rw [if_neg h]
theorem nrun_bd {σ : Type} (g : σ → Nd → Int × Int × σ) (t : Int) (ht : t ≤ 65536) : ∀ (f : Nat) (s : σ) (n : Nd), 0 ≤ n.l → n.l ≤ 65536 → 0 ≤ (nrun g t f s n).2.2.l ∧ (nrun g t f s n).2.2.l ≤ 65536 ∧ (nrun g t f s n).2.2.v = n.v ∧ n.l ≤ (nrun g t f s n).2.2.l
  | 0, s, n, h0, h1 => ⟨h0, h1, rfl, Int.le_refl _⟩
  | f + 1, s, n, h0, h1 => by
    unfold nrun
    split
    · rename_i hc
      split
      · exact ⟨h0, h1, rfl, Int.le_refl _⟩
      · split
        · exact nrun_bd g t ht f _ { n with b := true } h0 h1
        · obtain ⟨a, b, c, d⟩ := nrun_bd g t ht f (g s n).2.2 { n with l := n.l + 1 } (by simp only; omega) (by simp only; omega)
          simp only at d
          exact ⟨a, b, c, by omega⟩
    · exact ⟨h0, h1, rfl, Int.le_refl _⟩
/-- More bits than one node can ask for. -/
def FU : Nat := 65538
/-- What is known behind some levels of the way from the root to a leaf: an error, the coder, the last lower bound, the nodes. -/
structure Ps (σ : Type) where
  e : Int
  s : σ
  low : Int
  n : Nat → Nd
def pst {σ : Type} (g : σ → Nd → Int × Int × σ) (t : Int) (N : Nat → Nd) (D : Nat) (s : σ) : Nat → Ps σ
  | 0 => ⟨0, s, 0, N⟩
  | j + 1 =>
    let p := pst g t N D s j
    if p.e ≠ 0 then p
    else
      let r := nrun g t FU p.s { N (D - 1 - j) with l := max (N (D - 1 - j)).l p.low }
      ⟨r.1, r.2.1, r.2.2.l, fun k => if k = D - 1 - j then r.2.2 else p.n k⟩
theorem pst_err {σ : Type} (g : σ → Nd → Int × Int × σ) (t : Int) (N : Nat → Nd) (D : Nat) (s : σ) (j : Nat) (h : (pst g t N D s j).e ≠ 0) (m : Nat) : pst g t N D s (j + m) = pst g t N D s j := by
  induction m with
  | zero => rfl
  | succ m ih =>
    rw [← Nat.add_assoc]
    show (if (pst g t N D s (j + m)).e ≠ 0 then pst g t N D s (j + m) else _) = _
    rw [ih, if_pos h]
theorem pst_bd {σ : Type} (g : σ → Nd → Int × Int × σ) (t : Int) (ht : t ≤ 65536) (N : Nat → Nd) (D : Nat) (s : σ) (hN : ∀ k, 0 ≤ (N k).l ∧ (N k).l ≤ 65536) (j : Nat) :
    (0 ≤ (pst g t N D s j).low ∧ (pst g t N D s j).low ≤ 65536) ∧ (∀ k, 0 ≤ ((pst g t N D s j).n k).l ∧ ((pst g t N D s j).n k).l ≤ 65536) ∧ ∀ k, ((pst g t N D s j).n k).v = (N k).v := by
  induction j with
  | zero => exact ⟨⟨by show (0 : Int) ≤ 0; omega, by show (0 : Int) ≤ 65536; omega⟩, hN, fun _ => rfl⟩
  | succ j ih =>
    unfold pst
    simp only
    split
    · exact ih
    · obtain ⟨⟨l0, l1⟩, n0, n1⟩ := ih
      obtain ⟨k0, k1⟩ := hN (D - 1 - j)
      obtain ⟨a, b, c, d⟩ := nrun_bd g t ht FU (pst g t N D s j).s { N (D - 1 - j) with l := max (N (D - 1 - j)).l (pst g t N D s j).low } (by simp only; omega) (by simp only; omega)
      refine ⟨⟨a, b⟩, fun k => ?_, fun k => ?_⟩
      · simp only
        split
        · exact ⟨a, b⟩
        · exact n0 k
      · simp only
        split
        · rename_i hk; rw [hk]; exact c
        · exact n1 k
/-- The least of some numbers of a row, and of some rows. -/
def lsR (g : Nat → Nat → Int) (y x0 : Nat) (acc : Int) : Nat → Int
  | 0 => acc
  | n + 1 => min (lsR g y x0 acc n) (g (x0 + n) y)
def lsA (g : Nat → Nat → Int) (x0 y0 nx : Nat) (acc : Int) : Nat → Int
  | 0 => acc
  | n + 1 => lsR g (y0 + n) x0 (lsA g x0 y0 nx acc n) nx
/-- The value of a node: that of a leaf, or the least of those below. -/
def mv (w h : Nat) (f : Nat → Nat → Int) : Nat → Nat → Nat → Int
  | 0, x, y => f x y
  | k + 1, x, y => lsA (mv w h f k) (2 * x) (2 * y) (min 2 (dm w k - 2 * x)) 65535 (min 2 (dm h k - 2 * y))
theorem lsR_le (g : Nat → Nat → Int) (y x0 : Nat) (acc : Int) (n : Nat) : lsR g y x0 acc n ≤ acc ∧ ∀ i, i < n → lsR g y x0 acc n ≤ g (x0 + i) y := by
  induction n with
  | zero => exact ⟨Int.le_refl _, fun i h => by omega⟩
  | succ n ih =>
    unfold lsR
    refine ⟨by omega, fun i hi => ?_⟩
    by_cases h : i < n
    · have := ih.2 i h; omega
    · obtain rfl : i = n := by omega
      omega
theorem lsA_le (g : Nat → Nat → Int) (x0 y0 nx : Nat) (acc : Int) (n : Nat) : lsA g x0 y0 nx acc n ≤ acc ∧ ∀ j i, j < n → i < nx → lsA g x0 y0 nx acc n ≤ g (x0 + i) (y0 + j) := by
  induction n with
  | zero => exact ⟨Int.le_refl _, fun j i h => by omega⟩
  | succ n ih =>
    unfold lsA
    obtain ⟨a, b⟩ := lsR_le g (y0 + n) x0 (lsA g x0 y0 nx acc n) nx
    refine ⟨by omega, fun j i hj hi => ?_⟩
    by_cases h : j < n
    · have := ih.2 j i h hi; omega
    · obtain rfl : j = n := by omega
      exact b i hi
theorem lsR_ge (g : Nat → Nat → Int) (y x0 : Nat) (acc m : Int) (n : Nat) (ha : m ≤ acc) (hg : ∀ i, i < n → m ≤ g (x0 + i) y) : m ≤ lsR g y x0 acc n := by
  induction n with
  | zero => exact ha
  | succ n ih =>
    unfold lsR
    have := ih (fun i hi => hg i (by omega))
    have := hg n (by omega)
    omega
theorem lsA_ge (g : Nat → Nat → Int) (x0 y0 nx : Nat) (acc m : Int) (n : Nat) (ha : m ≤ acc) (hg : ∀ j i, j < n → i < nx → m ≤ g (x0 + i) (y0 + j)) : m ≤ lsA g x0 y0 nx acc n := by
  induction n with
  | zero => exact ha
  | succ n ih =>
    unfold lsA
    exact lsR_ge _ _ _ _ _ _ (ih (fun j i hj hi => hg j i (by omega) hi)) (fun i hi => hg n i (by omega) hi)
theorem lsR_congr {g g' : Nat → Nat → Int} {y x0 : Nat} {acc : Int} {n : Nat} (hg : ∀ i, i < n → g (x0 + i) y = g' (x0 + i) y) : lsR g y x0 acc n = lsR g' y x0 acc n := by
  induction n with
  | zero => rfl
  | succ n ih =>
    unfold lsR
    rw [ih (fun i hi => hg i (by omega)), hg n (by omega)]
theorem lsA_congr {g g' : Nat → Nat → Int} {x0 y0 nx : Nat} {acc : Int} {n : Nat} (hg : ∀ j i, j < n → i < nx → g (x0 + i) (y0 + j) = g' (x0 + i) (y0 + j)) : lsA g x0 y0 nx acc n = lsA g' x0 y0 nx acc n := by
  induction n with
  | zero => rfl
  | succ n ih =>
    unfold lsA
    rw [ih (fun j i hj hi => hg j i (by omega) hi)]
    exact lsR_congr (fun i hi => hg n i (by omega) hi)
theorem mv_bd (w h : Nat) (f : Nat → Nat → Int) (hf : ∀ x y, 0 ≤ f x y ∧ f x y ≤ 65535) : ∀ k x y, 0 ≤ mv w h f k x y ∧ mv w h f k x y ≤ 65535
  | 0, x, y => hf x y
  | k + 1, x, y => by
    unfold mv
    exact ⟨lsA_ge _ _ _ _ _ _ _ (by omega) (fun j i _ _ => (mv_bd w h f hf k _ _).1), (lsA_le _ _ _ _ _ _).1⟩
/-- A leaf's value is not below that of a node above it. -/
theorem mv_le (w h : Nat) (f : Nat → Nat → Int) {x y : Nat} (hx : x < w) (hy : y < h) : ∀ k, mv w h f k (x / 2 ^ k) (y / 2 ^ k) ≤ f x y
  | 0 => by simp [mv]
  | k + 1 => by
    have ih := mv_le w h f hx hy k
    have hx' := dm_at hx k
    have hy' := dm_at hy k
    rw [half_at, half_at]
    generalize x / 2 ^ k = X at *
    generalize y / 2 ^ k = Y at *
    unfold mv
    have := (lsA_le (mv w h f k) (2 * (X / 2)) (2 * (Y / 2)) (min 2 (dm w k - 2 * (X / 2))) 65535 (min 2 (dm h k - 2 * (Y / 2)))).2 (Y % 2) (X % 2) (by omega) (by omega)
    rw [show 2 * (X / 2) + X % 2 = X by omega, show 2 * (Y / 2) + Y % 2 = Y by omega] at this
    omega
/-- A leaf's value with another one set. -/
def upF (f : Nat → Nat → Int) (x y : Nat) (v : Int) : Nat → Nat → Int := fun X Y => if X = x ∧ Y = y then v else f X Y
theorem mv_far (w h : Nat) (f : Nat → Nat → Int) (x y : Nat) (v : Int) : ∀ k X Y, ¬ (X = x / 2 ^ k ∧ Y = y / 2 ^ k) → mv w h (upF f x y v) k X Y = mv w h f k X Y
  | 0, X, Y, hn => by
    simp only [Nat.pow_zero, Nat.div_one] at hn
    show upF f x y v X Y = f X Y
    unfold upF
    rw [if_neg hn]
  | k + 1, X, Y, hn => by
    rw [half_at, half_at] at hn
    unfold mv
    refine lsA_congr fun j i hj hi => mv_far w h f x y v k _ _ ?_
    generalize x / 2 ^ k = a at *
    generalize y / 2 ^ k = b at *
    omega
end Go.Proofs.Ytaddendclipkkaa
