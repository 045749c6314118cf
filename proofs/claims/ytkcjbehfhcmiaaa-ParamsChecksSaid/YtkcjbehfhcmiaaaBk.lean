/-
  A block of memory that is known whole, and what keeps it; one rectangle, one point in it. Plain laws on worlds.
-/
import Derived.Test.YtkcjbehfhcmiaaaRectF
import Derived.Test.YtkcjbehfhcmiaaaPm
import Derived.Test.YtkcjbehfhcmiaaaIn
import Derived.Lib.Hide
import Derived.Laws.ResultCell
set_option maxRecDepth 100000
namespace Go.Proofs.Ytkcjbehfhcmiaaa
open Go.RowKit

/-- A block that is known whole. -/
def Blk (w : World) (g : Nat) (t : TypeId) (cs : Array Value) : Prop := w.heap[g]? = some (.cells cs t (0, 0))
section
variable {w w' w1 w2 W W1 : World} {g a : Nat} {t : TypeId} {cs : Array Value}
theorem Blk.lt (h : Blk w g t cs) : g < w.heap.size := (Array.getElem?_eq_some_iff.1 h).1
theorem Blk.cell (h : Blk w g t cs) (i : Nat) : w.cell? ⟨g, i, none⟩ = cs[i]? := by unfold Blk at h; simp [World.cell?, h]
theorem Blk.free (h : Blk w g t cs) (i : Nat) : w.frozen? ⟨g, i, none⟩ = false := by unfold Blk at h; simp [World.frozen?, h]
theorem Blk.new (w : World) (t : TypeId) (cs : Array Value) : Blk (w.alloc (.cells cs t)) w.heap.size t cs := Array.getElem?_push_size
theorem Blk.drew (h : Blk w g t cs) : Blk w.drew g t cs := h
theorem Blk.set (h : Blk w g t cs) (i : Nat) (u : Value) : Blk (w.setCell ⟨g, i, none⟩ u) g t (cs.setIfInBounds i u) := by
  unfold Blk at h ⊢
  simp [World.setCell, Array.getElem?_modify, h]
theorem Blk.far (h : Blk w g t cs) {p : Addr} (hp : g ≠ p.block) (u : Value) : Blk (w.setCell p u) g t cs := (Below.heap_setCell w p u g hp).trans h
theorem Blk.belowAt {B : Nat} (h : Blk w g t cs) (hb : Below B w w') (hg : g < B) : Blk w' g t cs := (hb.block g hg).trans h
theorem Blk.below (h : Blk w g t cs) (hb : Below w.heap.size w w') : Blk w' g t cs := h.belowAt hb h.lt
theorem Blk.alloc (h : Blk w g t cs) (o : Obj) : Blk (w.alloc o) g t cs := h.below ((Below.refl _ _).alloc (Nat.le_refl _) _)
theorem Blk.grown {row : Option Nat} (h : Blk w g t cs) (hb : w.grownBy w' row) (hg : some g ≠ row) : Blk w' g t cs := (hb.block g h.lt hg).trans h
theorem Blk.ne {g' : Nat} {t' : TypeId} {cs' : Array Value} (h : Blk w g t cs) (h' : Blk w g' t' cs') (hne : t ≠ t') : g ≠ g' := by
  rintro rfl
  unfold Blk at h h'
  rw [h] at h'
  injection h' with h'
  injection h' with _ ht
  exact hne ht
theorem own_blk_ne {base : Nat} {e : TypeId} {size n : Nat} {v : Value} {xs : List Value} (h : w.ownsRow base e size v n xs) (hg : Blk w g t cs) (hne : e ≠ t) : v.ownBlock ≠ some g := by
  rcases h.2 with ⟨rfl, _⟩ | ⟨g', cap, cur, rfl, _, hh, _⟩
  · simp [Value.ownBlock]
  · intro he
    have : g' = g := by simpa [Value.ownBlock] using he
    subst this
    exact Blk.ne (t := e) hh hg hne rfl
end
theorem drewN_below (w : World) (n : Nat) : Below w.heap.size w (w.drewN n) := by
  induction n with
  | zero => exact Below.refl _ _
  | succ n ih => exact ih.drew
theorem below_alloc {B : Nat} {W w : World} (h : Below B W w) (hB : B ≤ w.heap.size) (o : Obj) : Below B W (w.alloc o) := h.alloc hB _
/-- The four values of a rectangle. -/
def rv (r : Pl.R) : Array Value := #[.int .i64 r.x0, .int .i64 r.y0, .int .i64 r.x1, .int .i64 r.y1]
theorem Blk.four {w : World} {g : Nat} {t : TypeId} {a b c d : Value} (h : Blk w g t #[a, b, c, d]) : w.cell? ⟨g, 0, none⟩ = some a ∧ w.cell? ⟨g, 1, none⟩ = some b ∧ w.cell? ⟨g, 2, none⟩ = some c ∧ w.cell? ⟨g, 3, none⟩ = some d := ⟨h.cell 0, h.cell 1, h.cell 2, h.cell 3⟩
theorem Blk.two {w : World} {g : Nat} {t : TypeId} {a b : Value} (h : Blk w g t #[a, b]) : w.cell? ⟨g, 0, none⟩ = some a ∧ w.cell? ⟨g, 1, none⟩ = some b := ⟨h.cell 0, h.cell 1⟩
theorem Blk.set4 {w : World} {g : Nat} {t : TypeId} {a b c d : Value} (h : Blk w g t #[a, b, c, d]) (p q r s : Value) : Blk ((((w.setCell ⟨g, 0, none⟩ p).setCell ⟨g, 1, none⟩ q).setCell ⟨g, 2, none⟩ r).setCell ⟨g, 3, none⟩ s) g t #[p, q, r, s] := (((h.set 0 p).set 1 q).set 2 r).set 3 s
theorem Blk.set2 {w : World} {g : Nat} {t : TypeId} {a b : Value} (h : Blk w g t #[a, b]) (x y : Value) : Blk ((w.setCell ⟨g, 0, none⟩ x).setCell ⟨g, 1, none⟩ y) g t #[x, y] := (h.set 0 x).set 1 y
theorem load_rect {W : World} {g : Nat} {a b c d : Value} (B : Blk W g 23 #[a, b, c, d]) : (loadVar 23 ⟨g, 0, none⟩).run Try.prog W = .ok (.agg #[a, b, c, d]) W := by
  obtain ⟨c0, c1, c2, c3⟩ := B.four
  simp [loadVar, go_sem, c0, c1, c2, c3]
theorem results_r {fn : Func} {p : Tmp} (h : fn.results = #[.cell p 23]) (tmps : Array Value) {W : World} {g : Nat} {a b c d : Value} (hp : tmps.getD p undef = .pointer (some ⟨g, 0, none⟩)) (B : Blk W g 23 #[a, b, c, d]) :
    (results fn tmps).run Try.prog W = .ok (.agg #[a, b, c, d]) W := by
  have e : (asAddr (.pointer (some ⟨g, 0, none⟩))).run Try.prog W = .ok (⟨g, 0, none⟩ : Addr) W := rfl
  have k : (results fn tmps).run Try.prog W = ((asAddr (tmps.getD p undef)).run Try.prog W).andThen fun a w₁ => (loadVar 23 a).run Try.prog w₁ := by
    simp only [results, h]
    simp [Sem.run_bind, Result.andThen]
  rw [k, hp, e]
  simp only [Result.andThen]
  rw [load_rect B]
theorem results_rb {fn : Func} {p u : Tmp} (h : fn.results = #[.cell p 23, .tmp u]) (tmps : Array Value) {W : World} {g : Nat} {a b c d x : Value} (hp : tmps.getD p undef = .pointer (some ⟨g, 0, none⟩)) (hu : tmps.getD u undef = x) (B : Blk W g 23 #[a, b, c, d]) :
    (results fn tmps).run Try.prog W = .ok (.tuple #[.agg #[a, b, c, d], x]) W := by
  rw [results_cell_tmp h, hp, hu]
  have e : (asAddr (.pointer (some ⟨g, 0, none⟩))).run Try.prog W = .ok (⟨g, 0, none⟩ : Addr) W := rfl
  rw [e]
  simp only [Result.andThen]
  rw [load_rect B]
theorem load_point {W : World} {g : Nat} {a b : Value} (B : Blk W g 41 #[a, b]) : (loadVar 41 ⟨g, 0, none⟩).run Try.prog W = .ok (.agg #[a, b]) W := by
  obtain ⟨c0, c1⟩ := B.two
  simp [loadVar, go_sem, c0, c1]
theorem results_pb {fn : Func} {p u : Tmp} (h : fn.results = #[.cell p 41, .tmp u]) (tmps : Array Value) {W : World} {g : Nat} {a b x : Value} (hp : tmps.getD p undef = .pointer (some ⟨g, 0, none⟩)) (hu : tmps.getD u undef = x) (B : Blk W g 41 #[a, b]) :
    (results fn tmps).run Try.prog W = .ok (.tuple #[.agg #[a, b], x]) W := by
  rw [results_cell_tmp h, hp, hu]
  have e : (asAddr (.pointer (some ⟨g, 0, none⟩))).run Try.prog W = .ok (⟨g, 0, none⟩ : Addr) W := rfl
  rw [e]
  simp only [Result.andThen]
  rw [load_point B]
end Go.Proofs.Ytkcjbehfhcmiaaa
