/-
  The plain mathematics of the bound of a list: what contains it is what contains each rectangle of the list; so neither the order nor a bound of a part changes it. No program in sight.
-/
import Derived.Test.YtaaljfpkfgjhpaaRectD
import Derived.Test.YtaaljfpkfgjhpaaMore
namespace Go.Proofs.Ytaaljfpkfgjhpaa
open Go.RowKit

def contR (o r : Pl.R) : Bool := Pl.contB o.x0 o.y0 o.x1 o.y1 r.x0 r.y0 r.x1 r.y1
/-- The zero rectangle, or one that has points. -/
def Fine (p : Pl.R) : Prop := p = ⟨0, 0, 0, 0⟩ ∨ Pl.emptyB p.x0 p.y0 p.x1 p.y1 = false
theorem fine_bound (l : List Pl.R) : Fine (boundL l) := bound_zero_or l
theorem contR_iff (o r : Pl.R) : contR o r = true ↔ ((r.x1 ≤ r.x0 ∨ r.y1 ≤ r.y0) ∨ (o.x0 ≤ r.x0 ∧ r.x1 ≤ o.x1 ∧ o.y0 ≤ r.y0 ∧ r.y1 ≤ o.y1)) := Pl.cont_iff
theorem contR_join (o p q : Pl.R) (hp : Fine p) : contR o (joinF p q) = true ↔ (contR o p = true ∧ contR o q = true) := by
  rw [contR_iff, contR_iff, contR_iff]
  unfold joinF Pl.joinR
  by_cases he : Pl.emptyB q.x0 q.y0 q.x1 q.y1 = true
  · rw [if_pos he]
    have := Pl.empty_iff.1 he
    dsimp only
    omega
  · rw [if_neg he]
    have he' := Pl.empty_not.1 (by simpa using he)
    by_cases hq : Pl.eqB p.x0 p.y0 p.x1 p.y1 0 0 0 0 = true
    · rw [if_pos hq]
      have := Pl.eq_iff.1 hq
      dsimp only
      omega
    · rw [if_neg hq]
      rcases hp with h | h
      · rw [h] at hq; exact absurd (Pl.eq_self 0 0 0 0) hq
      · have := Pl.empty_not.1 h
        dsimp only
        omega
theorem fine_join (p q : Pl.R) (hp : Fine p) : Fine (joinF p q) := by
  unfold joinF Pl.joinR
  by_cases he : Pl.emptyB q.x0 q.y0 q.x1 q.y1 = true
  · rw [if_pos he]; exact hp
  · rw [if_neg he]
    have he' := Pl.empty_not.1 (by simpa using he)
    by_cases hq : Pl.eqB p.x0 p.y0 p.x1 p.y1 0 0 0 0 = true
    · rw [if_pos hq]; exact .inr (by simpa using he)
    · rw [if_neg hq]
      rcases hp with h | h
      · rw [h] at hq; exact absurd (Pl.eq_self 0 0 0 0) hq
      · have := Pl.empty_not.1 h
        exact .inr (Pl.empty_not.2 ⟨by dsimp only; omega, by dsimp only; omega⟩)
theorem contR_fold (o : Pl.R) : ∀ (l : List Pl.R) (p : Pl.R), Fine p → (contR o (l.foldl joinF p) = true ↔ (contR o p = true ∧ ∀ r ∈ l, contR o r = true))
  | [], p, _ => by simp
  | q :: l, p, hp => by
    rw [List.foldl_cons, contR_fold o l (joinF p q) (fine_join p q hp), contR_join o p q hp]
    simp [and_assoc]
theorem contR_zero (o : Pl.R) : contR o ⟨0, 0, 0, 0⟩ = true := by rw [contR_iff]; left; left; exact Int.le_refl _
/-- What contains the bound is what contains each of the list. -/
theorem contR_bound (o : Pl.R) (l : List Pl.R) : contR o (boundL l) = true ↔ ∀ r ∈ l, contR o r = true := by
  unfold boundL
  rw [contR_fold o l _ (.inl rfl)]
  simp [contR_zero]
theorem contR_self (p : Pl.R) : contR p p = true := by rw [contR_iff]; right; exact ⟨Int.le_refl _, Int.le_refl _, Int.le_refl _, Int.le_refl _⟩
/-- Two fine rectangles that contain each other are one. -/
theorem fine_unique {p q : Pl.R} (hp : Fine p) (hq : Fine q) (h1 : contR p q = true) (h2 : contR q p = true) : p = q := by
  rw [contR_iff] at h1 h2
  have key : p.x0 = q.x0 ∧ p.y0 = q.y0 ∧ p.x1 = q.x1 ∧ p.y1 = q.y1 := by
    rcases hp with hp | hp
    · rcases hq with hq | hq
      · rw [hp, hq]; exact ⟨rfl, rfl, rfl, rfl⟩
      · have := Pl.empty_not.1 hq
        rw [hp] at h1
        dsimp only at h1
        omega
    · have hp' := Pl.empty_not.1 hp
      rcases hq with hq | hq
      · rw [hq] at h2
        dsimp only at h2
        omega
      · have := Pl.empty_not.1 hq
        omega
  obtain ⟨a, b, c, d⟩ := p
  obtain ⟨a', b', c', d'⟩ := q
  simp only [Pl.R.mk.injEq] at *
  exact key
theorem bound_contains (l : List Pl.R) (k : Nat) (h : k < l.length) : contR (boundL l) l[k] = true := (contR_bound _ l).1 (contR_self _) _ (List.getElem_mem h)
theorem bound_reverse (l : List Pl.R) : boundL l.reverse = boundL l :=
  fine_unique (fine_bound _) (fine_bound _)
    ((contR_bound _ _).2 fun r hr => (contR_bound _ _).1 (contR_self _) r (by simpa using hr))
    ((contR_bound _ _).2 fun r hr => (contR_bound _ _).1 (contR_self _) r (by simpa using hr))
theorem bound_again (l : List Pl.R) (n : Nat) : boundL (l.reverse ++ [boundL (l.take n)]) = boundL l := by
  refine fine_unique (fine_bound _) (fine_bound _) ?_ ?_
  · refine (contR_bound _ _).2 fun r hr => (contR_bound _ _).1 (contR_self _) r ?_
    simp [hr]
  · refine (contR_bound _ _).2 fun r hr => ?_
    rcases List.mem_append.1 hr with h | h
    · exact (contR_bound _ _).1 (contR_self _) r (by simpa using h)
    · rw [List.mem_singleton.1 h, contR_bound]
      intro q hq
      exact (contR_bound _ _).1 (contR_self _) q (List.mem_of_mem_take hq)
/-- Are the first k of the list contained in o? -/
def allC (o : Pl.R) (l : List Pl.R) (k : Nat) : Bool := (l.take k).all (contR o)
theorem allC_succ (o : Pl.R) (l : List Pl.R) (k : Nat) (h : k < l.length) : allC o l (k + 1) = (allC o l k && contR o l[k]) := by
  unfold allC
  rw [List.take_succ_eq_append_getElem h, List.all_append]
  simp
theorem allC_full (o : Pl.R) (l : List Pl.R) (h : allC o l l.length = true) : contR o (boundL l) = true := by
  unfold allC at h
  rw [List.take_length] at h
  exact (contR_bound _ _).2 fun r hr => List.all_eq_true.1 h r hr
/-- The first k of the list, back to front from its end. -/
def backL (l : List Pl.R) (k : Nat) : List Pl.R := l.reverse.take k
theorem backL_len (l : List Pl.R) (k : Nat) (h : k ≤ l.length) : (backL l k).length = k := by simp [backL]; omega
theorem backL_succ (l : List Pl.R) (k : Nat) (h : k < l.length) : backL l (k + 1) = backL l k ++ [l[l.length - 1 - k]'(by omega)] := by
  unfold backL
  rw [List.take_succ_eq_append_getElem (by simpa using h), List.getElem_reverse]
theorem backL_full (l : List Pl.R) : backL l l.length = l.reverse := by
  unfold backL
  rw [show l.length = l.reverse.length by simp, List.take_length]
end Go.Proofs.Ytaaljfpkfgjhpaa
