/-
  Objects behind pointers: a block that holds an object, in its cells slices of its own. Plain laws on worlds.
-/
import Derived.Test.YtpnnmibdboelpaaKit
set_option maxRecDepth 100000
namespace Go.Proofs.Ytpnnmibdboelpaa
open Go.RowKit

/-- A block that is known whole. -/
def Blk (w : World) (g : Nat) (t : TypeId) (cs : Array Value) : Prop := w.heap[g]? = some (.cells cs t (0, 0))
section
variable {w w' w1 w2 W W1 : World} {g a : Nat} {t : TypeId} {cs : Array Value}
theorem Blk.lt (h : Blk w g t cs) : g < w.heap.size := (Array.getElem?_eq_some_iff.1 h).1
theorem Blk.cell (h : Blk w g t cs) (i : Nat) : w.cell? ⟨g, i, none⟩ = cs[i]? := by unfold Blk at h; simp [World.cell?, h]
theorem Blk.free (h : Blk w g t cs) (i : Nat) : w.frozen? ⟨g, i, none⟩ = false := by unfold Blk at h; simp [World.frozen?, h]
theorem Blk.new (w : World) (t : TypeId) (cs : Array Value) : Blk (w.alloc (.cells cs t)) w.heap.size t cs := Array.getElem?_push_size
theorem Blk.drew (h : Blk w g t cs) : Blk w.drew g t cs := h
theorem Blk.set (h : Blk w g t cs) (i : Nat) (u : Value) : Blk (w.setCell ⟨g, i, none⟩ u) g t (cs.setIfInBounds i u) := by
  unfold Blk at h ⊢
  simp [World.setCell, Array.getElem?_modify, h]
theorem Blk.far (h : Blk w g t cs) {p : Addr} (hp : g ≠ p.block) (u : Value) : Blk (w.setCell p u) g t cs := (Below.heap_setCell w p u g hp).trans h
theorem Blk.belowAt {B : Nat} (h : Blk w g t cs) (hb : Below B w w') (hg : g < B) : Blk w' g t cs := (hb.block g hg).trans h
theorem Blk.below (h : Blk w g t cs) (hb : Below w.heap.size w w') : Blk w' g t cs := h.belowAt hb h.lt
theorem Blk.alloc (h : Blk w g t cs) (o : Obj) : Blk (w.alloc o) g t cs := h.below ((Below.refl _ _).alloc (Nat.le_refl _) _)
theorem Blk.grown {row : Option Nat} (h : Blk w g t cs) (hb : w.grownBy w' row) (hg : some g ≠ row) : Blk w' g t cs := (hb.block g h.lt hg).trans h
theorem Blk.ne {g' : Nat} {t' : TypeId} {cs' : Array Value} (h : Blk w g t cs) (h' : Blk w g' t' cs') (hne : t ≠ t') : g ≠ g' := by
  rintro rfl
  unfold Blk at h h'
  rw [h] at h'
  injection h' with h'
  injection h' with _ ht
  exact hne ht
theorem own_blk_ne {base : Nat} {e : TypeId} {size n : Nat} {v : Value} {xs : List Value} (h : w.ownsRow base e size v n xs) (hg : Blk w g t cs) (hne : e ≠ t) : v.ownBlock ≠ some g := by
  rcases h.2 with ⟨rfl, _⟩ | ⟨g', cap, cur, rfl, _, hh, _⟩
  · simp [Value.ownBlock]
  · intro he
    have : g' = g := by simpa [Value.ownBlock] using he
    subst this
    exact Blk.ne (t := e) hh hg hne rfl
theorem own_put {w : World} {base n g m : Nat} {e : TypeId} {xs : List Value} (h : w.ownsRow base e 1 (.slice (some ⟨g, 0, none⟩) n m) n xs) (k : Nat) (u : Value) : (w.setCell ⟨g, k, none⟩ u).ownsRow base e 1 (.slice (some ⟨g, 0, none⟩) n m) n (xs.set k u) := by
  obtain ⟨h1, h2⟩ := h
  refine ⟨by simpa using h1, .inr ?_⟩
  rcases h2 with ⟨h, _⟩ | ⟨g', cap, cur, he, hb, hg, hc, hm, hs, ht⟩
  · simp at h
  · simp at he
    obtain ⟨rfl, rfl⟩ := he
    refine ⟨g, m, cur.setIfInBounds k u, rfl, hb, ?_, hc, hm, by simpa using hs, ?_⟩
    · simp [World.setCell, Array.getElem?_modify, hg]
    · rw [← ht]
      simp [List.take_set, Array.toList_setIfInBounds]
theorem own_at {w : World} {base n : Nat} {s : Option Addr} {m : Nat} {e : TypeId} {xs : List Value} (h : w.ownsRow base e 1 (.slice s n m) n xs) (k : Nat) (hk : k < n) : ∃ g, s = some ⟨g, 0, none⟩ ∧ w.cell? ⟨g, k, none⟩ = xs[k]? ∧ (∀ j, w.frozen? ⟨g, j, none⟩ = false) ∧ (∃ cs, Blk w g e cs) ∧ base ≤ g := by
  rcases h.2 with ⟨he, h0⟩ | ⟨g, cap, cur, he, hb, hg, hc, hm, hs, ht⟩
  · omega
  · simp at he
    obtain ⟨rfl, rfl⟩ := he
    refine ⟨g, rfl, ?_, fun j => by simp [World.frozen?, hg], ⟨cur, hg⟩, hb⟩
    rw [← ht, List.getElem?_take_of_lt (by omega), Array.getElem?_toList]
    simp [World.cell?, hg]
theorem own_far {w : World} {base n : Nat} {e : TypeId} {v : Value} {xs : List Value} (h : w.ownsRow base e 1 v n xs) (p : Addr) (u : Value) (hp : v.ownBlock ≠ some p.block) : (w.setCell p u).ownsRow base e 1 v n xs := by
  obtain ⟨h1, h2⟩ := h
  refine ⟨h1, ?_⟩
  rcases h2 with h | ⟨g, cap, cur, rfl, h3, h4, h5⟩
  · exact .inl h
  · exact .inr ⟨g, cap, cur, rfl, h3, (Below.heap_setCell _ _ _ _ (fun e => hp (by simp [Value.ownBlock, e]))).trans h4, h5⟩
theorem own_form {w : World} {base n : Nat} {e : TypeId} {v : Value} {xs : List Value} (h : w.ownsRow base e 1 v (n + 1) xs) : ∃ g m, v = .slice (some ⟨g, 0, none⟩) (n + 1) m ∧ base ≤ g ∧ (∃ cs, Blk w g e cs) ∧ w.cell? ⟨g, n, none⟩ = xs[n]? ∧ (∀ j, w.frozen? ⟨g, j, none⟩ = false) := by
  rcases h.2 with ⟨_, h0⟩ | ⟨g, cap, cur, rfl, hb, hg, hc, hm, hs, ht⟩
  · omega
  · refine ⟨g, cap, rfl, hb, ⟨cur, hg⟩, ?_, fun j => by simp [World.frozen?, hg]⟩
    rw [← ht, List.getElem?_take_of_lt (by omega), Array.getElem?_toList]
    simp [World.cell?, hg]
theorem one_new8 (W : World) (x : Value) (T : TypeId) : ∀ j u, ([x] : List Value)[j]? = some u → (W.alloc (.cells #[x] T)).cell? ((⟨W.heap.size, 0, none⟩ : Addr).add j) = some u := by
  intro j u hj
  match j, hj with
  | 0, hj => simp at hj; subst hj; simp [Addr.add]
theorem oneOne8 (x : Int) : ∀ u ∈ ([.int .u8 x] : List Value), u.oneCell' = true := by
  intro u hu; simp at hu; subst hu; rfl
/-- The blocks of an object: its own, and those of the slices in its cells. -/
def Fp (w : World) (a k : Nat) : Prop := k = a ∨ ∃ i v, w.cell? ⟨a, i, none⟩ = some v ∧ v.ownBlock = some k
/-- What is not the object's is as it was, and what has become the object's is new. -/
structure Kp (a : Nat) (w w' : World) : Prop where
  os : w'.os = w.os
  tape : w'.tape = w.tape
  output : w'.output = w.output
  size : w.heap.size ≤ w'.heap.size
  block : ∀ k, k < w.heap.size → ¬ Fp w a k → w'.heap[k]? = w.heap[k]?
  foot : ∀ k, Fp w' a k → Fp w a k ∨ w.heap.size ≤ k
theorem Kp.refl (a : Nat) (w : World) : Kp a w w := ⟨rfl, rfl, rfl, Nat.le_refl _, fun _ _ _ => rfl, fun _ h => .inl h⟩
theorem Kp.trans (h : Kp a w w1) (h' : Kp a w1 w2) : Kp a w w2 := by
  refine ⟨h'.os.trans h.os, h'.tape.trans h.tape, h'.output.trans h.output, Nat.le_trans h.size h'.size, fun k hk hf => ?_, fun k hk => ?_⟩
  · refine (h'.block k (Nat.lt_of_lt_of_le hk h.size) fun hf' => ?_).trans (h.block k hk hf)
    rcases h.foot k hf' with h1 | h1
    · exact hf h1
    · omega
  · rcases h'.foot k hk with h1 | h1
    · exact h.foot k h1
    · exact .inr (Nat.le_trans h.size h1)
theorem fp_same {b : Nat} (h : w1.heap[b]? = w.heap[b]?) (k : Nat) : Fp w1 b k ↔ Fp w b k := by
  have e : ∀ i, w1.cell? ⟨b, i, none⟩ = w.cell? ⟨b, i, none⟩ := fun i => World.cell?_of_block (w := w) (a := ⟨b, i, none⟩) h
  unfold Fp
  simp only [e]
theorem Kp.of_below (hb : Below w.heap.size w w1) (ha : a < w.heap.size) : Kp a w w1 :=
  ⟨hb.os, hb.tape, hb.output, hb.size, fun k hk _ => hb.block k hk, fun k hk => .inl ((fp_same (hb.block a ha) k).1 hk)⟩
theorem Kp.below {B : Nat} (h : Kp a w w1) (hB : ∀ k, Fp w a k → B ≤ k) (hs : B ≤ w.heap.size) : Below B w w1 :=
  ⟨h.os, h.tape, h.output, h.size, fun k hk => h.block k (by omega) fun hf => by have := hB k hf; omega⟩
/-- One of the object's own cells is written. -/
theorem Kp.put (h : Kp a w w1) (ha : a < w1.heap.size) {i : Nat} (u : Value) (hu : ∀ k, u.ownBlock = some k → Fp w a k ∨ w.heap.size ≤ k) : Kp a w (w1.setCell ⟨a, i, none⟩ u) := by
  have hs : w.heap.size ≤ (w1.setCell ⟨a, i, none⟩ u).heap.size := by have := h.size; simp [World.setCell]; omega
  refine ⟨h.os, h.tape, h.output, hs, fun k hk hf => ?_, fun k hk => ?_⟩
  · exact (Below.heap_setCell _ _ _ _ fun e => hf (.inl e)).trans (h.block k hk hf)
  · rcases hk with rfl | ⟨j, v, hv, hk⟩
    · exact .inl (.inl rfl)
    · by_cases hj : j = i
      · subst hj
        have : v = u := by
          have hh : (w1.setCell ⟨a, j, none⟩ u).cell? ⟨a, j, none⟩ = some v := hv
          cases hc : w1.cell? ⟨a, j, none⟩ with
          | none =>
            exfalso
            simp only [World.cell?, World.setCell, Array.getElem?_modify] at hh hc
            cases hb : w1.heap[a]? with
            | none => simp [hb] at hh
            | some o => cases o <;> simp [hb] at hh hc <;> (first | (rw [List.getElem?_eq_none hc] at hh; simp at hh) | simp_all)
          | some x => rw [World.cell?_setCell_same' _ _ _ (by simp [hc])] at hh; exact (Option.some.inj hh).symm
        subst this
        exact hu k hk
      · rw [World.cell?_setCell_other _ _ _ _ (by simp)] at hv
        exact h.foot k (.inr ⟨j, v, hv, hk⟩)
theorem Kp.num (h : Kp a w w1) (ha : a < w1.heap.size) {i : Nat} (u : Value) (hu : u.ownBlock = none) : Kp a w (w1.setCell ⟨a, i, none⟩ u) := h.put ha u fun k hk => by rw [hu] at hk; simp at hk
/-- A cell of the object's row is written. -/
theorem Kp.row (h : Kp a w w1) {g : Nat} (hg : Fp w1 a g) (hne : g ≠ a) (i : Nat) (u : Value) : Kp a w (w1.setCell ⟨g, i, none⟩ u) := by
  refine h.trans ⟨rfl, rfl, rfl, by simp [World.setCell], fun k hk hf => Below.heap_setCell _ _ _ _ fun e => hf (by simp at e; subst e; exact hg), fun k hk => ?_⟩
  exact .inl ((fp_same (Below.heap_setCell w1 ⟨g, i, none⟩ u a (fun e => hne e.symm)) k).1 hk)
/-- A row has grown, and the object holds it. -/
theorem Kp.grow (h : Kp a w w1) {i : Nat} {v v' : Value} (hv : w1.cell? ⟨a, i, none⟩ = some v) (hg : w1.grownBy w2 v.ownBlock) (hne : v.ownBlock ≠ some a) (hat : v'.ownBlock = v.ownBlock ∨ ∀ k, v'.ownBlock = some k → w1.heap.size ≤ k) : Kp a w (w2.setCell ⟨a, i, none⟩ v') := by
  have hlt := cell_lt hv
  have hsame : w2.heap[a]? = w1.heap[a]? := hg.block a hlt (fun e => hne e.symm)
  have k1 : Kp a w1 w2 := by
    refine ⟨hg.os, hg.tape, hg.output, hg.size, fun k hk hf => hg.block k hk fun e => hf (.inr ⟨i, v, hv, e.symm⟩), fun k hk => .inl ((fp_same hsame k).1 hk)⟩
  refine h.trans (k1.put (by have := hg.size; omega) v' fun k hk => ?_)
  rcases hat with h1 | h1
  · exact .inl (.inr ⟨i, v, hv, by rw [← h1]; exact hk⟩)
  · exact .inr (h1 k hk)
/-- The blocks of two objects have nothing in common. -/
def Dj (w : World) (a b : Nat) : Prop := ∀ k, Fp w a k → Fp w b k → False
theorem Dj.symm {b : Nat} (h : Dj w a b) : Dj w b a := fun k x y => h k y x
theorem Dj.kp {b : Nat} (hd : Dj w a b) (hk : Kp a w w1) (hb : ∀ k, Fp w b k → k < w.heap.size) : Dj w1 a b ∧ ∀ k, Fp w b k → w1.heap[k]? = w.heap[k]? := by
  have hs : ∀ k, Fp w b k → w1.heap[k]? = w.heap[k]? := fun k hf => hk.block k (hb k hf) fun ha => hd k ha hf
  refine ⟨fun k ha hf => ?_, hs⟩
  rw [fp_same (hs b (.inl rfl))] at hf
  rcases hk.foot k ha with h | h
  · exact hd k h hf
  · have := hb k hf; omega
theorem Dj.below {b : Nat} (hd : Dj w a b) (hb : Below w.heap.size w w1) (ha : a < w.heap.size) (hbl : b < w.heap.size) : Dj w1 a b := fun k x y =>
  hd k ((fp_same (hb.block a ha) k).1 x) ((fp_same (hb.block b hbl) k).1 y)
/-- A second object, newly made. -/
theorem Dj.new {b : Nat} (hb : Below w.heap.size w w1) (ha : ∀ k, Fp w a k → k < w.heap.size) (hbf : ∀ k, Fp w1 b k → w.heap.size ≤ k) : Dj w1 a b := fun k x y => by
  have h1 := ha k ((fp_same (hb.block a (ha a (.inl rfl))) k).1 x)
  have := hbf k y
  omega
/-- A block that is not the object's. -/
theorem Blk.kp (h : Blk w g t cs) (hk : Kp a w w1) (hn : ¬ Fp w a g) : Blk w1 g t cs := (hk.block g h.lt hn).trans h
theorem fp_cases {cs : Array Value} (h : Blk w a t cs) (k : Nat) (hk : Fp w a k) : k = a ∨ ∃ (i : Nat) (v : Value), cs[i]? = some v ∧ v.ownBlock = some k := by
  rcases hk with h1 | ⟨i, v, hv, hk⟩
  · exact .inl h1
  · rw [h.cell i] at hv; exact .inr ⟨i, v, hv, hk⟩
/-- An object in memory: its block, and the blocks of the slices in its cells, each its own. -/
structure Core (w : World) (B a : Nat) (T : TypeId) (cs : Array Value) : Prop where
  ge : B ≤ a
  blk : Blk w a T cs
  foot : ∀ (i : Nat) (v : Value) (k : Nat), cs[i]? = some v → v.ownBlock = some k → B ≤ k ∧ ∃ t ds, Blk w k t ds ∧ t ≠ T
  dis : ∀ (i j : Nat) (v v' : Value) (k : Nat), i ≠ j → cs[i]? = some v → cs[j]? = some v' → v.ownBlock = some k → v'.ownBlock = some k → False
variable {B : Nat} {T : TypeId}
theorem Core.lt (h : Core w B a T cs) : a < w.heap.size := h.blk.lt
theorem Core.fp (h : Core w B a T cs) (k : Nat) (hk : Fp w a k) : B ≤ k ∧ k < w.heap.size := by
  rcases fp_cases h.blk k hk with rfl | ⟨i, v, hv, hk⟩
  · exact ⟨h.ge, h.blk.lt⟩
  · obtain ⟨h1, t, ds, h2, _⟩ := h.foot i v k hv hk
    exact ⟨h1, h2.lt⟩
theorem Core.fl (h : Core w B a T cs) : ∀ k, Fp w a k → k < w.heap.size := fun k hk => (h.fp k hk).2
theorem Core.of (h : Core w B a T cs) {i : Nat} {v : Value} {k : Nat} (hv : cs[i]? = some v) (hk : v.ownBlock = some k) : Fp w a k := .inr ⟨i, v, (h.blk.cell i).trans hv, hk⟩
theorem Core.ne (h : Core w B a T cs) {i : Nat} {v : Value} {k : Nat} (hv : cs[i]? = some v) (hk : v.ownBlock = some k) : k ≠ a := by
  obtain ⟨_, t, ds, h2, h3⟩ := h.foot i v k hv hk
  exact h2.ne h.blk h3
theorem Core.keep (h : Core w B a T cs) (hk : ∀ k, Fp w a k → w1.heap[k]? = w.heap[k]?) : Core w1 B a T cs :=
  ⟨h.ge, (hk a (.inl rfl)).trans h.blk, fun i v k hv ho => by
    obtain ⟨h1, t, ds, h2, h3⟩ := h.foot i v k hv ho
    exact ⟨h1, t, ds, (hk k (h.of hv ho)).trans h2, h3⟩, h.dis⟩
theorem Core.out (h : Core w B a T cs) (k : Kp a w w1) : Below B w w1 := k.below (fun i hi => (h.fp i hi).1) (by have := h.ge; have := h.lt; omega)
theorem Core.lower {B' : Nat} (h : Core w B a T cs) (hB : B' ≤ B) : Core w B' a T cs :=
  ⟨Nat.le_trans hB h.ge, h.blk, fun i v k hv ho => ⟨Nat.le_trans hB (h.foot i v k hv ho).1, (h.foot i v k hv ho).2⟩, h.dis⟩
/-- A block of another type than the object's and its slices' is not the object's. -/
theorem Core.notop {g : Nat} {t : TypeId} {es : Array Value} (h : Core w B a T cs) (hg : Blk w g t es) (ht : t ≠ T) (hr : ∀ (i : Nat) (v : Value) (k : Nat), cs[i]? = some v → v.ownBlock = some k → ∃ t' ds, Blk w k t' ds ∧ t' ≠ t) : ¬ Fp w a g := fun hf => by
  rcases fp_cases h.blk g hf with rfl | ⟨i, v, hv, hk⟩
  · exact Blk.ne hg h.blk ht rfl
  · obtain ⟨t', ds, h1, h2⟩ := hr i v g hv hk
    exact h1.ne hg h2 rfl
theorem get_set {cs : Array Value} {i j : Nat} {u v : Value} (h : (cs.setIfInBounds i u)[j]? = some v) : (j = i ∧ v = u) ∨ (j ≠ i ∧ cs[j]? = some v) := by
  rw [Array.getElem?_setIfInBounds] at h
  by_cases hj : i = j
  · subst hj
    rw [if_pos rfl] at h
    split at h
    · exact .inl ⟨rfl, (Option.some.inj h).symm⟩
    · simp at h
  · rw [if_neg hj] at h; exact .inr ⟨fun e => hj e.symm, h⟩
/-- One of its cells takes a value. -/
theorem Core.put (h : Core w B a T cs) (i : Nat) (u : Value) (hu : ∀ k, u.ownBlock = some k → B ≤ k ∧ (∃ t ds, Blk w k t ds ∧ t ≠ T) ∧ ∀ (j : Nat) (v : Value), j ≠ i → cs[j]? = some v → v.ownBlock ≠ some k) : Core (w.setCell ⟨a, i, none⟩ u) B a T (cs.setIfInBounds i u) := by
  have key : ∀ k, B ≤ k → (∃ t ds, Blk w k t ds ∧ t ≠ T) → B ≤ k ∧ ∃ t ds, Blk (w.setCell ⟨a, i, none⟩ u) k t ds ∧ t ≠ T := fun k h1 ⟨t, ds, h2, h3⟩ => ⟨h1, t, ds, h2.far (p := ⟨a, i, none⟩) (h2.ne h.blk h3) u, h3⟩
  refine ⟨h.ge, h.blk.set i u, fun j v k hv ho => ?_, fun j j' v v' k hne hv hv' ho ho' => ?_⟩
  · rcases get_set hv with ⟨rfl, rfl⟩ | ⟨_, hv⟩
    · exact key k (hu k ho).1 (hu k ho).2.1
    · exact key k (h.foot j v k hv ho).1 (h.foot j v k hv ho).2
  · rcases get_set hv with ⟨rfl, rfl⟩ | ⟨hj, hx⟩
    · rcases get_set hv' with ⟨rfl, rfl⟩ | ⟨hj', hv'⟩
      · exact hne rfl
      · exact (hu k ho).2.2 j' v' hj' hv' ho'
    · rcases get_set hv' with ⟨rfl, rfl⟩ | ⟨hj', hv'⟩
      · exact (hu k ho').2.2 j v hj hx ho
      · exact h.dis j j' v v' k hne hx hv' ho ho'
theorem Core.num (h : Core w B a T cs) (i : Nat) (u : Value) (hu : u.ownBlock = none) : Core (w.setCell ⟨a, i, none⟩ u) B a T (cs.setIfInBounds i u) ∧ Kp a w (w.setCell ⟨a, i, none⟩ u) :=
  ⟨h.put i u fun k hk => by rw [hu] at hk; simp at hk, (Kp.refl a w).num h.lt u hu⟩
/-- A cell of one of its rows is written. -/
theorem Core.row (h : Core w B a T cs) {i g : Nat} {v : Value} (hv : cs[i]? = some v) (hg : v.ownBlock = some g) (k : Nat) (u : Value) : Core (w.setCell ⟨g, k, none⟩ u) B a T cs ∧ Kp a w (w.setCell ⟨g, k, none⟩ u) := by
  refine ⟨⟨h.ge, h.blk.far (p := ⟨g, k, none⟩) (fun e => h.ne hv hg e.symm) u, fun j v' k' hv' ho => ?_, h.dis⟩, (Kp.refl a w).row (h.of hv hg) (h.ne hv hg) k u⟩
  obtain ⟨h1, t, ds, h2, h3⟩ := h.foot j v' k' hv' ho
  by_cases hk : k' = g
  · subst hk; exact ⟨h1, t, _, h2.set k u, h3⟩
  · exact ⟨h1, t, ds, h2.far (p := ⟨g, k, none⟩) hk u, h3⟩
theorem own_foot {w : World} {base n : Nat} {e : TypeId} {v : Value} {xs : List Value} (h : w.ownsRow base e 1 v n xs) {k : Nat} (hk : v.ownBlock = some k) : base ≤ k ∧ ∃ ds, Blk w k e ds := by
  rcases h.2 with ⟨rfl, _⟩ | ⟨g, cap, cur, rfl, hb, hh, _⟩
  · simp [Value.ownBlock] at hk
  · simp [Value.ownBlock] at hk; subst hk; exact ⟨hb, cur, hh⟩
theorem own_keep {w w1 : World} {base n : Nat} {e : TypeId} {v : Value} {xs : List Value} (h : w.ownsRow base e 1 v n xs) (hk : ∀ k, v.ownBlock = some k → w1.heap[k]? = w.heap[k]?) : w1.ownsRow base e 1 v n xs := by
  refine ⟨h.1, ?_⟩
  rcases h.2 with h2 | ⟨g, cap, cur, rfl, hb, hh, h3⟩
  · exact .inl h2
  · exact .inr ⟨g, cap, cur, rfl, hb, (hk g rfl).trans hh, h3⟩
theorem own_lower {w : World} {base base' n : Nat} {e : TypeId} {v : Value} {xs : List Value} (h : w.ownsRow base e 1 v n xs) (hB : base' ≤ base) : w.ownsRow base' e 1 v n xs := by
  refine ⟨h.1, ?_⟩
  rcases h.2 with h2 | ⟨g, cap, cur, rfl, hb, h3⟩
  · exact .inl h2
  · exact .inr ⟨g, cap, cur, rfl, Nat.le_trans hB hb, h3⟩
/-- A row has grown, and the object holds it. -/
theorem Core.grow {W W2 : World} {i : Nat} {e : TypeId} {n n' : Nat} {sv v' : Value} {xs ys : List Value} {X : Obj} (h : Core W B a T cs) (hv : cs[i]? = some sv) (_hown0 : W.ownsRow B e 1 sv n xs) (hne : e ≠ T)
    (hown : W2.ownsRow B e 1 v' n' ys) (hg : (W.alloc X).grownBy W2 sv.ownBlock) (hat : v'.ownBlock = sv.ownBlock ∨ ∀ k, v'.ownBlock = some k → W.heap.size < k) :
    Core (W2.setCell ⟨a, i, none⟩ v') B a T (cs.setIfInBounds i v') ∧ (W2.setCell ⟨a, i, none⟩ v').ownsRow B e 1 v' n' ys ∧ Kp a W (W2.setCell ⟨a, i, none⟩ v') ∧ Blk W2 a T cs := by
  have hs : sv.ownBlock ≠ some a := fun he => h.ne hv he rfl
  have hsame : ∀ k, k < W.heap.size → sv.ownBlock ≠ some k → W2.heap[k]? = W.heap[k]? := fun k hk hne => (hg.block k (by simp; omega) (fun e => hne e.symm)).trans (Below.heap_alloc W X k hk)
  have b2 : Blk W2 a T cs := (hsame a h.lt hs).trans h.blk
  have hva : v'.ownBlock ≠ some a := own_blk_ne hown b2 hne
  have hW2 : W.heap.size + 1 ≤ W2.heap.size := by have := hg.size; simp at this; omega
  have kA : Kp a W (W.alloc X) := Kp.of_below ((Below.refl _ _).alloc (Nat.le_refl _) _) h.lt
  have cA : (W.alloc X).cell? ⟨a, i, none⟩ = some sv := ((h.blk.alloc X).cell i).trans hv
  refine ⟨⟨h.ge, b2.set i v', fun j v k hj ho => ?_, fun j j' v v2 k hne2 hj hj' ho ho' => ?_⟩, own_far hown ⟨a, i, none⟩ _ hva, kA.grow cA hg hs (hat.elim .inl fun h => .inr fun k hk => by have := h k hk; simp; omega), b2⟩
  · rcases get_set hj with ⟨rfl, rfl⟩ | ⟨hji, hj⟩
    · obtain ⟨h1, ds, h2⟩ := own_foot hown ho
      have hka : k ≠ a := fun e => hva (by rw [ho, e])
      exact ⟨h1, e, ds, h2.far (p := ⟨a, j, none⟩) hka v, hne⟩
    · obtain ⟨h1, t, ds, h2, h3⟩ := h.foot j v k hj ho
      have hks : sv.ownBlock ≠ some k := fun e => h.dis j i v sv k hji hj hv ho e
      have h2' : Blk W2 k t ds := (hsame k h2.lt hks).trans h2
      exact ⟨h1, t, ds, h2'.far (p := ⟨a, i, none⟩) (h.ne hj ho) v', h3⟩
  · have key : ∀ (j : Nat) (v : Value), j ≠ i → cs[j]? = some v → v.ownBlock = some k → v'.ownBlock = some k → False := fun j v hji hj ho ho' => by
      rcases hat with h1 | h1
      · exact h.dis j i v sv k hji hj hv ho (h1 ▸ ho')
      · have := h1 k ho'
        obtain ⟨_, t, ds, h2, _⟩ := h.foot j v k hj ho
        have := h2.lt
        omega
    rcases get_set hj with ⟨rfl, rfl⟩ | ⟨hji, hx⟩
    · rcases get_set hj' with ⟨rfl, rfl⟩ | ⟨hji', hj'⟩
      · exact hne2 rfl
      · exact key j' v2 hji' hj' ho' ho
    · rcases get_set hj' with ⟨rfl, rfl⟩ | ⟨hji', hj'⟩
      · exact key j v hji hx ho ho'
      · exact h.dis j j' v v2 k hne2 hx hj' ho ho'
end
end Go.Proofs.Ytpnnmibdboelpaa
