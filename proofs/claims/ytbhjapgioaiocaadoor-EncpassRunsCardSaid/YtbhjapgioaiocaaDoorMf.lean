/-
  Layer 15: the reference's cleanup with its skipped rows is the cleanup by columns.
-/
import Derived.Test.YtbhjapgioaiocaaDoorMe
import Derived.Test.YtbhjapgioaiocaaDoorXf
set_option maxRecDepth 100000
namespace Go.Proofs.YtbhjapgioaiocaaDoor
open Go.RowKit

def stK (p : Pp) (z : Nat × Es) (q : Int × Int) : Nat × Es :=
  if 0 < z.1 then (z.1 - 1, z.2) else if xrunQ p z.2.1 q.1.toNat q.2.toNat = true then (runN p z.2.1 q.1.toNat q.2.toNat - 1, runS p z.2 q.1.toNat q.2.toNat) else (0, clnS p z.2 q)
theorem runN_in (p : Pp) (q : St) (x y : Nat) : 1 ≤ runN p q x y ∧ runN p q x y ≤ 4 := by
  have := zer_le (oneQ p q x y)
  unfold runN zerQ at *
  split <;> omega
theorem stK_len (p : Pp) (z : Nat × Es) (q : Int × Int) (h : z.1 ≤ 3) : (stK p z q).1 ≤ 3 ∧ (stK p z q).2.2.length ≤ z.2.2.length + 4 := by
  unfold stK
  split
  · exact ⟨by show z.1 - 1 ≤ 3; omega, by show z.2.2.length ≤ _; omega⟩
  · split
    · exact ⟨by have := runN_in p z.2.1 q.1.toNat q.2.toNat; show runN _ _ _ _ - 1 ≤ 3; omega, runS_len _ _ _ _⟩
    · exact ⟨by show 0 ≤ 3; omega, by have := clnS_len p z.2 q; show (clnS p z.2 q).2.length ≤ _; omega⟩
theorem stK_all (p : Pp) (l : List (Int × Int)) (z : Nat × Es) (h : z.1 ≤ 3) : (l.foldl (stK p) z).1 ≤ 3 ∧ (l.foldl (stK p) z).2.2.length ≤ z.2.2.length + 4 * l.length := by
  induction l generalizing z with
  | nil => exact ⟨h, by simp⟩
  | cons a l ih =>
    obtain ⟨h1, h2⟩ := stK_len p z a h
    obtain ⟨h3, h4⟩ := ih _ h1
    rw [List.foldl_cons, List.length_cons]
    exact ⟨h3, by omega⟩
theorem stK_skip (p : Pp) (l : List (Int × Int)) (k : Nat) (e : Es) (h : l.length ≤ k) : l.foldl (stK p) (k, e) = (k - l.length, e) := by
  induction l generalizing k with
  | nil => rfl
  | cons a l ih =>
    rw [List.length_cons] at h
    rw [List.foldl_cons, show stK p (k, e) a = (k - 1, e) by unfold stK; rw [if_pos (show 0 < k by omega)], ih _ (by omega), List.length_cons]
    congr 1
    omega
theorem stK_rest (p : Pp) (l : List (Int × Int)) (e : Es) (h : ∀ q ∈ l, q.2.toNat % 4 ≠ 0) : l.foldl (stK p) (0, e) = (0, l.foldl (clnS p) e) := by
  induction l generalizing e with
  | nil => rfl
  | cons a l ih =>
    have h1 : stK p (0, e) a = (0, clnS p e a) := by
      have : xrunQ p e.1 a.1.toNat a.2.toNat = false := by
        unfold xrunQ
        rw [decide_eq_false (h a List.mem_cons_self)]; rfl
      unfold stK
      rw [if_neg (show ¬ 0 < 0 by omega)]
      simp only [this]
      rfl
    rw [List.foldl_cons, h1, ih _ fun q hq => h q (List.mem_cons_of_mem _ hq), List.foldl_cons]
theorem colP_cons (x top n : Nat) (h : 0 < n) : colP x top n = ((x : Int), (top : Int)) :: colP x (top + 1) (n - 1) := by
  obtain ⟨m, rfl⟩ : ∃ m, n = m + 1 := ⟨n - 1, by omega⟩
  unfold colP
  rw [List.range_succ_eq_map, List.map_cons, List.map_map, Nat.add_sub_cancel]
  congr 1
  apply List.map_congr_left
  intro i _
  show ((x : Int), ((top + (i + 1) : Nat) : Int)) = ((x : Int), ((top + 1 + i : Nat) : Int))
  rw [show top + (i + 1) = top + 1 + i by omega]
theorem colP_mod (x top n : Nat) (h1 : 0 < top % 4) (h2 : top % 4 + n ≤ 4) : ∀ q ∈ colP x top n, q.2.toNat % 4 ≠ 0 := by
  intro q hq
  obtain ⟨Y, rfl, h3, h4⟩ := colP_in x top n q hq
  show ((Y : Int)).toNat % 4 ≠ 0
  omega
theorem stK_col (p : Pp) (e : Es) (x s : Nat) (n : Nat) (hn : n = min 4 (p.h - 4 * s)) (h0 : 0 < n) : (colP x (4 * s) n).foldl (stK p) (0, e) = (0, colS p e x (4 * s) n) := by
  have hQ : xrunQ p e.1 x (4 * s) = quietQ p e.1 x (4 * s) n := by
    unfold xrunQ
    rw [decide_eq_true (show 4 * s % 4 = 0 by omega), ← hn]; rfl
  have hst : stK p (0, e) ((x : Int), ((4 * s : Nat) : Int)) = if quietQ p e.1 x (4 * s) n = true then (runN p e.1 x (4 * s) - 1, runS p e x (4 * s)) else (0, clnS p e ((x : Int), ((4 * s : Nat) : Int))) := by
    unfold stK
    rw [if_neg (show ¬ 0 < 0 by omega), ← hQ]
    rfl
  rw [colP_cons x (4 * s) n h0, List.foldl_cons, hst]
  unfold colS
  by_cases hq : quietQ p e.1 x (4 * s) n = true
  · have hn4 : n = 4 := by unfold quietQ at hq; simp at hq; exact hq.2
    obtain ⟨r1, r2⟩ := runN_in p e.1 x (4 * s)
    rw [if_pos hq, if_pos hq]
    generalize runN p e.1 x (4 * s) = r at *
    generalize runS p e x (4 * s) = e1 at *
    rw [colP_split x (4 * s + 1) (n - 1) (r - 1) (by omega), List.foldl_append, stK_skip p (colP x (4 * s + 1) (r - 1)) (r - 1) e1 (by rw [colP_len]; omega), colP_len, Nat.sub_self, stK_rest, show 4 * s + 1 + (r - 1) = 4 * s + r by omega, show n - 1 - (r - 1) = n - r by omega]
    rcases Nat.lt_or_ge r 4 with h | h
    · exact colP_mod _ _ _ (by omega) (by omega)
    · intro q hq
      rw [show n - 1 - (r - 1) = 0 by omega] at hq
      simp [colP] at hq
  · rw [if_neg hq, if_neg hq, stK_rest _ _ _ (colP_mod _ _ _ (by omega) (by omega)), colP_cons x (4 * s) n h0]
    rfl
theorem stK_str (p : Pp) (e : Es) (s n : Nat) (hn : n = min 4 (p.h - 4 * s)) (h0 : 0 < n) (k : Nat) : (strP (4 * s) n k).foldl (stK p) (0, e) = (0, strS p e (4 * s) n k) := by
  induction k with
  | zero => rfl
  | succ k ih =>
    have e1 : strP (4 * s) n (k + 1) = strP (4 * s) n k ++ colP k (4 * s) n := by unfold strP; rw [List.range_succ, List.flatMap_append]; simp
    rw [e1, List.foldl_append, ih, stK_col p _ k s n hn h0]
    unfold strS
    rw [foldl_rng]
theorem stK_scn (p : Pp) (e : Es) (k : Nat) (hk : k ≤ (p.h + 3) / 4) : (scnP p.w p.h k).foldl (stK p) (0, e) = (0, clS p e k) := by
  induction k with
  | zero => rfl
  | succ k ih =>
    have e1 : scnP p.w p.h (k + 1) = scnP p.w p.h k ++ strP (4 * k) (min 4 (p.h - 4 * k)) p.w := by unfold scnP; rw [List.range_succ, List.flatMap_append]; simp
    rw [e1, List.foldl_append, ih (by omega), stK_str p _ k _ rfl (by omega)]
    unfold clS
    rw [foldl_rng]
theorem stK_scan (p : Pp) (e : Es) : (scan p.w p.h).foldl (stK p) (0, e) = (0, clS p e ((p.h + 3) / 4)) := stK_scn p e _ (Nat.le_refl _)
end Go.Proofs.YtbhjapgioaiocaaDoor
