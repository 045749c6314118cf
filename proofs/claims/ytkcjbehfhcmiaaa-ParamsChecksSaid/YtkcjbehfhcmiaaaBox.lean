/-
  A rectangle in memory: what its four cells hold, and what keeps them. Plain laws on worlds; no program in sight.
-/
import Derived.Test.YtkcjbehfhcmiaaaRectC
import Derived.Deep.RegionHeld3
set_option maxRecDepth 100000
namespace Go.Proofs.Ytkcjbehfhcmiaaa
open Go.RowKit

/-- The four cells of a rectangle at an address. -/
def RectAt (w : World) (b o : Nat) (r : Pl.R) : Prop :=
  w.cell? ⟨b, o, none⟩ = some (.int .i64 r.x0) ∧ w.cell? ⟨b, o + 1, none⟩ = some (.int .i64 r.y0) ∧ w.cell? ⟨b, o + 2, none⟩ = some (.int .i64 r.x1) ∧ w.cell? ⟨b, o + 3, none⟩ = some (.int .i64 r.y1)
/-- The rectangles of a list, one after the other. -/
def RectsAt (w : World) (b off : Nat) (l : List Pl.R) : Prop := ∀ k (_ : k < l.length), RectAt w b (off + k * 4) l[k]

theorem cell_alloc {w : World} {a : Addr} {v : Value} (h : w.cell? a = some v) (X : Obj) : (w.alloc X).cell? a = some v :=
  (World.cell?_alloc_some _ _ _ (by simp [h])).trans h
theorem cell_lt {w : World} {b o : Nat} {v : Value} (h : w.cell? ⟨b, o, none⟩ = some v) : b < w.heap.size := by
  refine Classical.byContradiction fun hn => ?_
  have : w.heap[b]? = none := by rw [Array.getElem?_eq_none_iff]; omega
  simp [World.cell?, this] at h
theorem cell_far {w : World} {a b : Addr} {v : Value} (u : Value) (h : w.cell? a = some v) (hn : a.block ≠ b.block) : (w.setCell b u).cell? a = some v := by
  rw [World.cell?_setCell_far]
  · exact h
  · exact fun e => hn e.symm
theorem RectAt.below {W w1 : World} {b o : Nat} {r : Pl.R} (h : RectAt W b o r) (hb : Below W.heap.size W w1) (hlt : b < W.heap.size) : RectAt w1 b o r :=
  ⟨(hb.cell (p := ⟨b, o, none⟩) hlt).trans h.1, (hb.cell (p := ⟨b, o + 1, none⟩) hlt).trans h.2.1, (hb.cell (p := ⟨b, o + 2, none⟩) hlt).trans h.2.2.1, (hb.cell (p := ⟨b, o + 3, none⟩) hlt).trans h.2.2.2⟩
theorem RectAt.alloc {W : World} {b o : Nat} {r : Pl.R} (h : RectAt W b o r) (X : Obj) : RectAt (W.alloc X) b o r :=
  ⟨cell_alloc h.1 X, cell_alloc h.2.1 X, cell_alloc h.2.2.1 X, cell_alloc h.2.2.2 X⟩
theorem RectAt.far {W : World} {b o : Nat} {r : Pl.R} (h : RectAt W b o r) (a : Addr) (v : Value) (hn : b ≠ a.block) : RectAt (W.setCell a v) b o r :=
  ⟨cell_far v h.1 hn, cell_far v h.2.1 hn, cell_far v h.2.2.1 hn, cell_far v h.2.2.2 hn⟩
theorem RectsAt.below {W w1 : World} {b B off : Nat} {l : List Pl.R} (h : RectsAt W b off l) (hb : Below B W w1) (hlt : b < B) : RectsAt w1 b off l := fun k hk => by
  obtain ⟨h0, h1, h2, h3⟩ := h k hk
  exact ⟨(hb.cell (p := ⟨b, _, none⟩) hlt).trans h0, (hb.cell (p := ⟨b, _, none⟩) hlt).trans h1, (hb.cell (p := ⟨b, _, none⟩) hlt).trans h2, (hb.cell (p := ⟨b, _, none⟩) hlt).trans h3⟩

/-- A block that holds one rectangle and can be written. -/
structure Box (w : World) (B : Nat) (r : Pl.R) : Prop where
  cells : RectAt w B 0 r
  free : ∀ j, w.frozen? ⟨B, j, none⟩ = false
  lt : B < w.heap.size

theorem Box.fresh (w : World) (a b c d : Int) (t : TypeId) : Box (w.alloc (.cells #[.int .i64 a, .int .i64 b, .int .i64 c, .int .i64 d] t)) w.heap.size ⟨a, b, c, d⟩ :=
  ⟨by simp [RectAt], fun j => by simp, by simp⟩
theorem Box.alloc {w : World} {B : Nat} {r : Pl.R} (h : Box w B r) (c : Array Value) (t : TypeId) : Box (w.alloc (.cells c t)) B r :=
  ⟨h.cells.alloc _, fun j => (frozen?_alloc_cells w c t _).trans (h.free j), by have := h.lt; simp; omega⟩
theorem Box.drew {w : World} {B : Nat} {r : Pl.R} (h : Box w B r) : Box w.drew B r := ⟨h.cells, h.free, h.lt⟩
theorem Box.belowAt {W w1 : World} {B N : Nat} {r : Pl.R} (h : Box W B r) (hb : Below N W w1) (hN : B < N) : Box w1 B r :=
  ⟨⟨(hb.cell (p := ⟨B, _, none⟩) hN).trans h.cells.1, (hb.cell (p := ⟨B, _, none⟩) hN).trans h.cells.2.1, (hb.cell (p := ⟨B, _, none⟩) hN).trans h.cells.2.2.1, (hb.cell (p := ⟨B, _, none⟩) hN).trans h.cells.2.2.2⟩, fun j => (hb.frozen (p := ⟨B, j, none⟩) hN).trans (h.free j), by have := h.lt; have := hb.size; omega⟩
theorem Box.below {W w1 : World} {B : Nat} {r : Pl.R} (h : Box W B r) (hb : Below W.heap.size W w1) : Box w1 B r := h.belowAt hb h.lt
theorem Box.far {w : World} {B : Nat} {r : Pl.R} (h : Box w B r) (a : Addr) (v : Value) (hn : B ≠ a.block) : Box (w.setCell a v) B r :=
  ⟨h.cells.far a v hn, fun j => by rw [World.frozen?_setCell]; exact h.free j, by have := h.lt; simpa [World.setCell] using this⟩
/-- The four facts in the walk's own spelling. -/
theorem Box.open {w : World} {B : Nat} {r : Pl.R} (h : Box w B r) :
    w.cell? ⟨B, 0, none⟩ = some (.int .i64 r.x0) ∧ w.cell? ⟨B, 1, none⟩ = some (.int .i64 r.y0) ∧ w.cell? ⟨B, 2, none⟩ = some (.int .i64 r.x1) ∧ w.cell? ⟨B, 3, none⟩ = some (.int .i64 r.y1) := by
  have := h.cells
  simpa only [RectAt, Nat.zero_add] using this
/-- A whole rectangle is stored over it. -/
theorem Box.store {w : World} {B : Nat} {r : Pl.R} (h : Box w B r) (a b c d : Int) :
    Box ((((w.setCell ⟨B, 0, none⟩ (.int .i64 a)).setCell ⟨B, 1, none⟩ (.int .i64 b)).setCell ⟨B, 2, none⟩ (.int .i64 c)).setCell ⟨B, 3, none⟩ (.int .i64 d)) B ⟨a, b, c, d⟩ := by
  obtain ⟨c0, c1, c2, c3⟩ := h.open
  refine ⟨by simp [RectAt, go_sem, c0, c1, c2, c3], fun j => ?_, by have := h.lt; simpa [World.setCell] using this⟩
  simp only [World.frozen?_setCell]
  exact h.free j
theorem below4 {B b : Nat} {a w : World} (h : Below B a w) (hb : B ≤ b) (v0 v1 v2 v3 : Value) : Below B a ((((w.setCell ⟨b, 0, none⟩ v0).setCell ⟨b, 1, none⟩ v1).setCell ⟨b, 2, none⟩ v2).setCell ⟨b, 3, none⟩ v3) :=
  (((h.setCell hb _).setCell hb _).setCell hb _).setCell hb _
theorem Box.far4 {w : World} {B b : Nat} {r : Pl.R} (h : Box w B r) (hn : B ≠ b) (v0 v1 v2 v3 : Value) : Box ((((w.setCell ⟨b, 0, none⟩ v0).setCell ⟨b, 1, none⟩ v1).setCell ⟨b, 2, none⟩ v2).setCell ⟨b, 3, none⟩ v3) B r :=
  (((h.far _ _ hn).far _ _ hn).far _ _ hn).far _ _ hn
/-- A block that holds one point. -/
structure PBox (w : World) (B : Nat) (x y : Int) : Prop where
  c0 : w.cell? ⟨B, 0, none⟩ = some (.int .i64 x)
  c1 : w.cell? ⟨B, 1, none⟩ = some (.int .i64 y)
  lt : B < w.heap.size
theorem PBox.fresh (w : World) (a b : Int) (t : TypeId) : PBox (w.alloc (.cells #[.int .i64 a, .int .i64 b] t)) w.heap.size a b := ⟨by simp, by simp, by simp⟩
theorem PBox.alloc {w : World} {B : Nat} {x y : Int} (h : PBox w B x y) (X : Obj) : PBox (w.alloc X) B x y := ⟨cell_alloc h.c0 X, cell_alloc h.c1 X, by have := h.lt; simp; omega⟩
theorem PBox.drew {w : World} {B : Nat} {x y : Int} (h : PBox w B x y) : PBox w.drew B x y := ⟨h.c0, h.c1, h.lt⟩
theorem PBox.below {W w1 : World} {B : Nat} {x y : Int} (h : PBox W B x y) (hb : Below W.heap.size W w1) : PBox w1 B x y :=
  ⟨(hb.cell (p := ⟨B, _, none⟩) h.lt).trans h.c0, (hb.cell (p := ⟨B, _, none⟩) h.lt).trans h.c1, by have := h.lt; have := hb.size; omega⟩
theorem Box.freshAt (w : World) (B : Nat) (hB : B = w.heap.size) (a b c d : Int) (t : TypeId) : Box (w.alloc (.cells #[.int .i64 a, .int .i64 b, .int .i64 c, .int .i64 d] t)) B ⟨a, b, c, d⟩ := by subst hB; exact Box.fresh w a b c d t
theorem PBox.freshAt (w : World) (B : Nat) (hB : B = w.heap.size) (a b : Int) (t : TypeId) : PBox (w.alloc (.cells #[.int .i64 a, .int .i64 b] t)) B a b := by subst hB; exact PBox.fresh w a b t
end Go.Proofs.Ytkcjbehfhcmiaaa
