/-
  What each call of Bound and of Same (on lists of rectangles) returns and leaves: contracts.
-/
import Derived.Test.YtkcjbehfhcmiaaaBox
set_option maxRecDepth 100000
namespace Go.Proofs.Ytkcjbehfhcmiaaa
open Go.RowKit

def joinF (p q : Pl.R) : Pl.R := Pl.joinR p.x0 p.y0 p.x1 p.y1 q.x0 q.y0 q.x1 q.y1
def boundL (l : List Pl.R) : Pl.R := l.foldl joinF ⟨0, 0, 0, 0⟩
theorem boundL_succ (l : List Pl.R) (k : Nat) (h : k < l.length) : boundL (l.take (k + 1)) = Pl.joinR (boundL (l.take k)).x0 (boundL (l.take k)).y0 (boundL (l.take k)).x1 (boundL (l.take k)).y1 l[k].x0 l[k].y0 l[k].x1 l[k].y1 := by
  unfold boundL
  rw [List.take_succ_eq_append_getElem h, List.foldl_append]
  rfl
/-- The bound is the zero rectangle, or it has points. -/
theorem bound_zero_or (l : List Pl.R) : boundL l = ⟨0, 0, 0, 0⟩ ∨ Pl.emptyB (boundL l).x0 (boundL l).y0 (boundL l).x1 (boundL l).y1 = false := by
  have key : ∀ (l : List Pl.R) (p : Pl.R), (p = ⟨0, 0, 0, 0⟩ ∨ Pl.emptyB p.x0 p.y0 p.x1 p.y1 = false) → (l.foldl joinF p = ⟨0, 0, 0, 0⟩ ∨ Pl.emptyB (l.foldl joinF p).x0 (l.foldl joinF p).y0 (l.foldl joinF p).x1 (l.foldl joinF p).y1 = false) := by
    intro l
    induction l with
    | nil => intro p h; exact h
    | cons q l ih =>
      intro p h
      refine ih (joinF p q) ?_
      unfold joinF Pl.joinR
      by_cases he : Pl.emptyB q.x0 q.y0 q.x1 q.y1 = true
      · rw [if_pos he]; exact h
      · have he' : Pl.emptyB q.x0 q.y0 q.x1 q.y1 = false := by simpa using he
        rw [if_neg he]
        by_cases hq : Pl.eqB p.x0 p.y0 p.x1 p.y1 0 0 0 0 = true
        · rw [if_pos hq]; exact .inr he'
        · rw [if_neg hq]
          refine .inr ?_
          rcases h with h | h
          · rw [h] at hq; exact absurd (Pl.eq_self 0 0 0 0) hq
          · have h1 := Pl.empty_not.1 he'
            have h2 := Pl.empty_not.1 h
            exact Pl.empty_not.2 ⟨by dsimp only; omega, by dsimp only; omega⟩
  exact key l _ (.inl rfl)

/-- A slice's address holds the rectangles of a list. -/
def Holds (w : World) (a : Option Addr) (l : List Pl.R) : Prop := l = [] ∨ ∃ b off, a = some ⟨b, off, none⟩ ∧ RectsAt w b off l
theorem Holds.below {B : Nat} {w w1 : World} {a : Option Addr} {l : List Pl.R} (h : Holds w a l) (hb : Below B w w1) (hB : w.heap.size ≤ B) : Holds w1 a l := by
  rcases h with rfl | ⟨b, off, rfl, hr⟩
  · exact .inl rfl
  · refine .inr ⟨b, off, rfl, fun k hk => ?_⟩
    exact hr.below hb (Nat.lt_of_lt_of_le (cell_lt (hr k hk).1) hB) k hk
/-- What the loop's frame and world hold: the bound so far in its box. -/
def BoundRel (w : World) (l : List Pl.R) (i : Value) (wr : World) : Prop :=
  ∃ k : Nat, k ≤ l.length ∧ i = .int .i64 k ∧ Below w.heap.size w wr ∧ Box wr (w.heap.size + 1) (boundL (l.take k)) ∧ Box wr w.heap.size ⟨0, 0, 0, 0⟩

def SameRel (w : World) (l : List Pl.R) (i : Value) (wr : World) : Prop := ∃ k : Nat, k ≤ l.length ∧ i = .int .i64 k ∧ Below w.heap.size w wr
end Go.Proofs.Ytkcjbehfhcmiaaa
