/-
  Objects behind pointers: a block that holds an object, in its second cell a slice of its own. Plain laws on worlds.
-/
import Derived.Test.YtaddendclipkkaaKit
set_option maxRecDepth 100000
namespace Go.Proofs.Ytaddendclipkkaa
open Go.RowKit

/-- A block that is known whole. -/
def Blk (w : World) (g : Nat) (t : TypeId) (cs : Array Value) : Prop := w.heap[g]? = some (.cells cs t (0, 0))
section
variable {w w' w1 w2 W W1 : World} {g a : Nat} {t : TypeId} {cs : Array Value}
theorem Blk.lt (h : Blk w g t cs) : g < w.heap.size := (Array.getElem?_eq_some_iff.1 h).1
theorem Blk.cell (h : Blk w g t cs) (i : Nat) : w.cell? ⟨g, i, none⟩ = cs[i]? := by unfold Blk at h; simp [World.cell?, h]
theorem Blk.free (h : Blk w g t cs) (i : Nat) : w.frozen? ⟨g, i, none⟩ = false := by unfold Blk at h; simp [World.frozen?, h]
theorem Blk.new (w : World) (t : TypeId) (cs : Array Value) : Blk (w.alloc (.cells cs t)) w.heap.size t cs := Array.getElem?_push_size
theorem Blk.drew (h : Blk w g t cs) : Blk w.drew g t cs := h
theorem Blk.set (h : Blk w g t cs) (i : Nat) (u : Value) : Blk (w.setCell ⟨g, i, none⟩ u) g t (cs.setIfInBounds i u) := by
  unfold Blk at h ⊢
  simp [World.setCell, Array.getElem?_modify, h]
theorem Blk.far (h : Blk w g t cs) {p : Addr} (hp : g ≠ p.block) (u : Value) : Blk (w.setCell p u) g t cs := (Below.heap_setCell w p u g hp).trans h
theorem Blk.belowAt {B : Nat} (h : Blk w g t cs) (hb : Below B w w') (hg : g < B) : Blk w' g t cs := (hb.block g hg).trans h
theorem Blk.below (h : Blk w g t cs) (hb : Below w.heap.size w w') : Blk w' g t cs := h.belowAt hb h.lt
theorem Blk.alloc (h : Blk w g t cs) (o : Obj) : Blk (w.alloc o) g t cs := h.below ((Below.refl _ _).alloc (Nat.le_refl _) _)
theorem Blk.grown {row : Option Nat} (h : Blk w g t cs) (hb : w.grownBy w' row) (hg : some g ≠ row) : Blk w' g t cs := (hb.block g h.lt hg).trans h
theorem Blk.ne {g' : Nat} {t' : TypeId} {cs' : Array Value} (h : Blk w g t cs) (h' : Blk w g' t' cs') (hne : t ≠ t') : g ≠ g' := by
  rintro rfl
  unfold Blk at h h'
  rw [h] at h'
  injection h' with h'
  injection h' with _ ht
  exact hne ht
theorem own_blk_ne {base : Nat} {e : TypeId} {size n : Nat} {v : Value} {xs : List Value} (h : w.ownsRow base e size v n xs) (hg : Blk w g t cs) (hne : e ≠ t) : v.ownBlock ≠ some g := by
  rcases h.2 with ⟨rfl, _⟩ | ⟨g', cap, cur, rfl, _, hh, _⟩
  · simp [Value.ownBlock]
  · intro he
    have : g' = g := by simpa [Value.ownBlock] using he
    subst this
    exact Blk.ne (t := e) hh hg hne rfl
/-- The blocks of an object. -/
def Fp (w : World) (a k : Nat) : Prop := k = a ∨ ∃ v, w.cell? ⟨a, 1, none⟩ = some v ∧ v.ownBlock = some k
/-- What is not the object's is as it was, and what has become the object's is new. -/
structure Kp (a : Nat) (w w' : World) : Prop where
  os : w'.os = w.os
  tape : w'.tape = w.tape
  output : w'.output = w.output
  size : w.heap.size ≤ w'.heap.size
  block : ∀ k, k < w.heap.size → ¬ Fp w a k → w'.heap[k]? = w.heap[k]?
  foot : ∀ k, Fp w' a k → Fp w a k ∨ w.heap.size ≤ k
theorem Kp.refl (a : Nat) (w : World) : Kp a w w := ⟨rfl, rfl, rfl, Nat.le_refl _, fun _ _ _ => rfl, fun _ h => .inl h⟩
theorem Kp.trans (h : Kp a w w1) (h' : Kp a w1 w2) : Kp a w w2 := by
  refine ⟨h'.os.trans h.os, h'.tape.trans h.tape, h'.output.trans h.output, Nat.le_trans h.size h'.size, fun k hk hf => ?_, fun k hk => ?_⟩
  · refine (h'.block k (Nat.lt_of_lt_of_le hk h.size) fun hf' => ?_).trans (h.block k hk hf)
    rcases h.foot k hf' with h1 | h1
    · exact hf h1
    · omega
  · rcases h'.foot k hk with h1 | h1
    · exact h.foot k h1
    · exact .inr (Nat.le_trans h.size h1)
theorem Kp.of_below (hb : Below w.heap.size w w1) (ha : a < w.heap.size) : Kp a w w1 :=
  ⟨hb.os, hb.tape, hb.output, hb.size, fun k hk _ => hb.block k hk, fun k hk => by
    rcases hk with rfl | ⟨v, hv, hk⟩
    · exact .inl (.inl rfl)
    · exact .inl (.inr ⟨v, by rw [hb.cell (p := ⟨a, 1, none⟩) ha] at hv; exact hv, hk⟩)⟩
theorem Kp.below {B : Nat} (h : Kp a w w1) (hB : ∀ k, Fp w a k → B ≤ k) (hs : B ≤ w.heap.size) : Below B w w1 :=
  ⟨h.os, h.tape, h.output, h.size, fun k hk => h.block k (by omega) fun hf => by have := hB k hf; omega⟩
/-- The object's own cells are written; the slice stays where it is. -/
theorem Kp.set (h : Kp a w w1) (ha : a < w1.heap.size) {i : Nat} (hi : i ≠ 1) (u : Value) : Kp a w (w1.setCell ⟨a, i, none⟩ u) := by
  refine h.trans ⟨rfl, rfl, rfl, by simp [World.setCell], fun k hk hf => Below.heap_setCell _ _ _ _ fun e => hf (.inl e), fun k hk => ?_⟩
  rcases hk with rfl | ⟨v, hv, hk⟩
  · exact .inl (.inl rfl)
  · exact .inl (.inr ⟨v, by rw [World.cell?_setCell_other _ _ _ _ (by simp)] at hv; exact hv, hk⟩)
/-- A cell of the object's row is written. -/
theorem Kp.row (h : Kp a w w1) {g : Nat} (hg : Fp w1 a g) (hne : g ≠ a) (i : Nat) (u : Value) : Kp a w (w1.setCell ⟨g, i, none⟩ u) := by
  refine h.trans ⟨rfl, rfl, rfl, by simp [World.setCell], fun k hk hf => Below.heap_setCell _ _ _ _ fun e => hf (by simp at e; subst e; exact hg), fun k hk => ?_⟩
  rcases hk with rfl | ⟨v, hv, hk⟩
  · exact .inl (.inl rfl)
  · exact .inl (.inr ⟨v, by rw [World.cell?_setCell_other _ _ _ _ (by simp)] at hv; exact hv, hk⟩)
/-- The row has grown, and the object holds it. -/
theorem Kp.grow (h : Kp a w w1) {v v' : Value} (hv : w1.cell? ⟨a, 1, none⟩ = some v) (hg : w1.grownBy w2 v.ownBlock) (hne : v.ownBlock ≠ some a) (hat : v'.ownBlock = v.ownBlock ∨ ∀ k, v'.ownBlock = some k → w1.heap.size ≤ k) : Kp a w (w2.setCell ⟨a, 1, none⟩ v') := by
  have hlt := cell_lt hv
  refine h.trans ⟨hg.os, hg.tape, hg.output, by simpa [World.setCell] using hg.size, fun k hk hf => ?_, fun k hk => ?_⟩
  · refine (Below.heap_setCell _ _ _ _ fun e => hf (.inl e)).trans (hg.block k hk fun e => hf (.inr ⟨v, hv, e.symm⟩))
  · rcases hk with rfl | ⟨u, hu, hk⟩
    · exact .inl (.inl rfl)
    · have e2 : w2.cell? ⟨a, 1, none⟩ = some v := hg.cell hv fun e => hne e.symm
      have : u = v' := by
        have hh : (w2.setCell ⟨a, 1, none⟩ v').cell? ⟨a, 1, none⟩ = some v' := by simp [go_sem, e2]
        rw [hh] at hu
        exact (Option.some.inj hu).symm
      subst this
      rcases hat with h1 | h1
      · exact .inl (.inr ⟨v, hv, by rw [← h1]; exact hk⟩)
      · exact .inr (h1 k hk)
end
end Go.Proofs.Ytaddendclipkkaa
