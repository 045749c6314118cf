/-
  Layer 10: the code's walk from the root to a leaf, for any source or destination of bits.
-/
import Derived.Test.YtaddendclipkkaaTc
import Derived.Shelf.Abstract
set_option maxRecDepth 100000
namespace Go.Proofs.Ytaddendclipkkaa
open Go.RowKit

/-- Only new memory and nodes of a call's own are written. -/
structure Kw (N : Nat) (W W' : World) : Prop where
  os : W'.os = W.os
  tape : W'.tape = W.tape
  output : W'.output = W.output
  size : W.heap.size ≤ W'.heap.size
  block : ∀ k, k < W.heap.size → (k < N ∨ ∀ cs, ¬ Blk W k 100 cs) → W'.heap[k]? = W.heap[k]?
/-- The blocks of trees are kept. -/
structure Kn (W W' : World) : Prop where
  size : W.heap.size ≤ W'.heap.size
  block : ∀ k ty cs, ty = 77 ∨ ty = 94 ∨ ty = 100 → Blk W k ty cs → Blk W' k ty cs
/-- The nodes that a walk has made. -/
def Pa (W : World) (G D : Nat) (R : Nat → Nd) (j : Nat) : Prop := ∃ cs, Blk W G 100 cs ∧ cs.size = D * 3 ∧ ∀ k, D ≤ k + j → k < D → cs[k * 3]? = some (.int .i64 (R k).v) ∧ cs[k * 3 + 1]? = some (.int .i64 (R k).l) ∧ cs[k * 3 + 2]? = some (.bool (R k).b)
section
variable {W W' W1 W2 : World} {B A L w h D G g : Nat} {nd : Nat → Nat} {u : Int} {Q : Nat → Nat → Nat → Nd} {R : Nat → Nd} {j : Nat}
theorem Kw.of_below (N : Nat) (h : Below W.heap.size W W') : Kw N W W' := ⟨h.os, h.tape, h.output, h.size, fun k hk _ => h.block k hk⟩
theorem Kw.set (N g i : Nat) (u : Value) {cs : Array Value} (hg : N ≤ g) (hb : Blk W g 100 cs) : Kw N W (W.setCell ⟨g, i, none⟩ u) := by
  refine ⟨rfl, rfl, rfl, by simp [World.setCell], fun k _ hf => Below.heap_setCell _ _ _ _ fun e => ?_⟩
  simp only at e
  rcases hf with hf | hf
  · omega
  · rw [e] at hf; exact hf cs hb
theorem Tr.kn (H : Tr W B A L nd w h D u Q) (hk : Kn W W') : Tr W' B A L nd w h D u Q := by
  refine H.keep fun k hf => ?_
  have key : ∀ ty cs, ty = 77 ∨ ty = 94 ∨ ty = 100 → Blk W k ty cs → W'.heap[k]? = W.heap[k]? := fun ty cs ht hb => (hk.block k ty cs ht hb).trans hb.symm
  rcases hf with rfl | rfl | ⟨i, hi, rfl⟩
  · obtain ⟨m, ho⟩ := H.obj
    exact key _ _ (.inl rfl) ho
  · obtain ⟨cs, hl, _⟩ := H.lvs
    exact key _ _ (.inr (.inl rfl)) hl
  · obtain ⟨cs, hn, _⟩ := H.nds i hi
    exact key _ _ (.inr (.inr rfl)) hn
theorem Tr.far (H : Tr W B A L nd w h D u Q) {N : Nat} (hN : ∀ k, Tf A L nd D k → k < N) (hg : N ≤ g) (i : Nat) (v : Value) : Tr (W.setCell ⟨g, i, none⟩ v) B A L nd w h D u Q :=
  H.keep fun k hk => Below.heap_setCell _ _ _ _ fun e => by have := hN k hk; simp only at e; omega
theorem Pa.kn (H : Pa W G D R j) (hk : Kn W W') : Pa W' G D R j := by
  obtain ⟨cs, h1, h2, h3⟩ := H
  exact ⟨cs, hk.block G _ cs (.inr (.inr rfl)) h1, h2, h3⟩
theorem Pa.below (H : Pa W G D R j) (hb : Below W.heap.size W W') : Pa W' G D R j := by
  obtain ⟨cs, h1, h2, h3⟩ := H
  exact ⟨cs, h1.below hb, h2, h3⟩
theorem Pa.far (H : Pa W G D R j) (hg : G ≠ g) (i : Nat) (v : Value) : Pa (W.setCell ⟨g, i, none⟩ v) G D R j := by
  obtain ⟨cs, h1, h2, h3⟩ := H
  exact ⟨cs, h1.far (p := ⟨g, i, none⟩) hg v, h2, h3⟩
theorem Pa.lt (H : Pa W G D R j) : G < W.heap.size := H.elim fun _ h => h.1.lt
theorem Pa.put (H : Pa W G D R j) (hj : j < D) (n : Nd) {R' : Nat → Nd} (hR : ∀ k, R' k = if k = D - 1 - j then n else R k) {o : Nat} (ho : o = (D - 1 - j) * 3) :
    Pa (((W.setCell ⟨G, o, none⟩ (.int .i64 n.v)).setCell ⟨G, o + 1, none⟩ (.int .i64 n.l)).setCell ⟨G, o + 2, none⟩ (.bool n.b)) G D R' (j + 1) := by
  subst ho
  obtain ⟨cs, h1, h2, h3⟩ := H
  refine ⟨_, ((h1.set _ _).set _ _).set _ _, by simp [h2], fun k hk hkD => ?_⟩
  rw [hR k]
  by_cases he : k = D - 1 - j
  · rw [if_pos he, ← he]
    refine ⟨?_, ?_, ?_⟩
    · rw [Array.getElem?_setIfInBounds, if_neg (by omega), Array.getElem?_setIfInBounds, if_neg (by omega), Array.getElem?_setIfInBounds, if_pos rfl, if_pos (by omega)]
    · rw [Array.getElem?_setIfInBounds, if_neg (by omega), Array.getElem?_setIfInBounds, if_pos rfl, if_pos (by simp; omega)]
    · rw [Array.getElem?_setIfInBounds, if_pos rfl, if_pos (by simp; omega)]
  · rw [if_neg he]
    obtain ⟨a0, a1, a2⟩ := h3 k (by omega) hkD
    refine ⟨?_, ?_, ?_⟩
    · rw [Array.getElem?_setIfInBounds, if_neg (by omega), Array.getElem?_setIfInBounds, if_neg (by omega), Array.getElem?_setIfInBounds, if_neg (by omega)]; exact a0
    · rw [Array.getElem?_setIfInBounds, if_neg (by omega), Array.getElem?_setIfInBounds, if_neg (by omega), Array.getElem?_setIfInBounds, if_neg (by omega)]; exact a1
    · rw [Array.getElem?_setIfInBounds, if_neg (by omega), Array.getElem?_setIfInBounds, if_neg (by omega), Array.getElem?_setIfInBounds, if_neg (by omega)]; exact a2
end
theorem infoN : (Try.prog.info? 100).map (fun i => (i.zero, i.size, i.bytes)) = some (some (.agg #[.int .i64 0, .int .i64 0, .bool false]), 3, 24) := by kernel_rfl
theorem infoL : (Try.prog.info? 94).map (fun i => (i.zero, i.size, i.bytes)) = some (some (.agg #[.int .i64 0, .int .i64 0, .slice none 0 0]), 3, 40) := by kernel_rfl
theorem mk_nodes (c : Nat) (hc : c ≤ 65536) (W : World) : (Instr.makeSlice 92 (.int .i64 (c : Int)) (.int .i64 (c : Int))).run Try.prog W = .ok (.slice (some ⟨W.heap.size, 0, none⟩) c c) (W.alloc (.cells (madeCells #[.int .i64 0, .int .i64 0, .bool false] (c * 3)) 100)) := by
  obtain ⟨i0, hi, hz0, hz1, hz2⟩ := info_parts infoN
  have hr := run_make (P := Try.prog) W 92 100 i0 _ Try.underlying92 hi hz0 .i64 .i64 c c (by omega) (Int.le_refl _) (by rw [hz2]; omega) (by omega)
  rw [hz1, Int.toNat_natCast] at hr
  exact hr
theorem mk_levels (c : Nat) (hc : c ≤ 65536) (W : World) : (Instr.makeSlice 74 (.int .i64 (c : Int)) (.int .i64 (c : Int))).run Try.prog W = .ok (.slice (some ⟨W.heap.size, 0, none⟩) c c) (W.alloc (.cells (madeCells #[.int .i64 0, .int .i64 0, .slice none 0 0] (c * 3)) 94)) := by
  obtain ⟨i0, hi, hz0, hz1, hz2⟩ := info_parts infoL
  have hr := run_make (P := Try.prog) W 74 94 i0 _ Try.underlying74 hi hz0 .i64 .i64 c c (by omega) (Int.le_refl _) (by rw [hz2]; omega) (by omega)
  rw [hz1, Int.toNat_natCast] at hr
  exact hr
theorem pst_next {σ : Type} (g : σ → Nd → Int × Int × σ) (t : Int) (N : Nat → Nd) (D : Nat) (s0 : σ) (k : Nat) (hk : k < D) (he : (pst g t N D s0 (D - (k + 1))).e = 0) :
    pst g t N D s0 (D - k) = ⟨(nrun g t FU (pst g t N D s0 (D - (k + 1))).s ⟨(N k).v, max (N k).l (pst g t N D s0 (D - (k + 1))).low, (N k).b⟩).1, (nrun g t FU (pst g t N D s0 (D - (k + 1))).s ⟨(N k).v, max (N k).l (pst g t N D s0 (D - (k + 1))).low, (N k).b⟩).2.1,
      (nrun g t FU (pst g t N D s0 (D - (k + 1))).s ⟨(N k).v, max (N k).l (pst g t N D s0 (D - (k + 1))).low, (N k).b⟩).2.2.l, fun i => if i = k then (nrun g t FU (pst g t N D s0 (D - (k + 1))).s ⟨(N k).v, max (N k).l (pst g t N D s0 (D - (k + 1))).low, (N k).b⟩).2.2 else (pst g t N D s0 (D - (k + 1))).n i⟩ := by
  have e1 : D - k = D - (k + 1) + 1 := by omega
  have e2 : D - 1 - (D - (k + 1)) = k := by omega
  rw [e1]
  show (if (pst g t N D s0 (D - (k + 1))).e ≠ 0 then _ else _) = _
  rw [if_neg (by rw [he]; simp), e2]
theorem pst_last {σ : Type} (g : σ → Nd → Int × Int × σ) (t : Int) (N : Nat → Nd) (D : Nat) (s0 : σ) (k : Nat) (hk : k ≤ D) (he : (pst g t N D s0 (D - k)).e ≠ 0) : pst g t N D s0 D = pst g t N D s0 (D - k) := by
  have := pst_err g t N D s0 (D - k) he k
  rw [show D - k + k = D by omega] at this
  exact this
theorem nrun_go {σ : Type} (g : σ → Nd → Int × Int × σ) (t : Int) (f : Nat) (s : σ) (v l : Int) (hl : l < t) : nrun g t (f + 1) s ⟨v, l, false⟩ =
    if (g s ⟨v, l, false⟩).2.1 ≠ 0 then ((g s ⟨v, l, false⟩).2.1, (g s ⟨v, l, false⟩).2.2, ⟨v, l, false⟩)
    else if (g s ⟨v, l, false⟩).1 = 1 then nrun g t f (g s ⟨v, l, false⟩).2.2 ⟨v, l, true⟩ else nrun g t f (g s ⟨v, l, false⟩).2.2 ⟨v, l + 1, false⟩ := by
  show (if l < t ∧ false = false then _ else _) = _
  rw [if_pos ⟨hl, rfl⟩]
end Go.Proofs.Ytaddendclipkkaa
