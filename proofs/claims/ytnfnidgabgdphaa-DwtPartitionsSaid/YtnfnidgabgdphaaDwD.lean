/-
  Two lists of slices of the call's own that grow.
-/
import Derived.Test.YtnfnidgabgdphaaDwC
set_option maxRecDepth 100000
namespace Go.Proofs.Ytnfnidgabgdphaa
open Go.RowKit

/-- An element of a list of slices: a slice that holds a list, apart from two blocks. -/
def Elt (W : World) (g1 g2 : Option Nat) (u : Value) (c : List Int) : Prop := ∃ s m, u = .slice s c.length m ∧ (c = [] ∨ ∃ b off, s = some ⟨b, off, none⟩ ∧ IntsAt W b off c ∧ g1 ≠ some b ∧ g2 ≠ some b)
theorem Elt.swap {W : World} {g1 g2 : Option Nat} {u : Value} {c : List Int} (h : Elt W g1 g2 u c) : Elt W g2 g1 u c := by
  obtain ⟨s, m, h1, h2⟩ := h
  refine ⟨s, m, h1, ?_⟩
  rcases h2 with h2 | ⟨b, off, h3, h4, h5, h6⟩
  · exact .inl h2
  · exact .inr ⟨b, off, h3, h4, h6, h5⟩
theorem Elt.holds {W : World} {g1 g2 : Option Nat} {u : Value} {c : List Int} (h : Elt W g1 g2 u c) : ∃ s m, u = .slice s c.length m ∧ HoldsI W s c := by
  obtain ⟨s, m, h1, h2⟩ := h
  refine ⟨s, m, h1, ?_⟩
  rcases h2 with h2 | ⟨b, off, h3, h4, _⟩
  · exact .inl h2
  · exact .inr ⟨b, off, h3, h4⟩
theorem Elt.step {W W1 : World} {g1 g2 : Option Nat} {u : Value} {c : List Int} (h : Elt W g1 g2 u c) (hb : Below W.heap.size W W1) : Elt W1 g1 g2 u c := by
  obtain ⟨s, m, h1, h2⟩ := h
  refine ⟨s, m, h1, ?_⟩
  rcases h2 with h2 | ⟨b, off, h3, h4, h5⟩
  · exact .inl h2
  · exact .inr ⟨b, off, h3, fun k hk => (hb.cell (p := ⟨b, _, none⟩) (cell_lt (h4 k hk))).trans (h4 k hk), h5⟩
/-- One of the two blocks grows, or is left for a new one. -/
theorem Elt.grow {W W2 : World} {g1 g2 g1' : Option Nat} {u : Value} {c : List Int} (h : Elt W g1 g2 u c) (X : Obj) (hg : (W.alloc X).grownBy W2 g1) (hat : g1' = g1 ∨ g1' = some (W.heap.size + 1)) : Elt W2 g1' g2 u c := by
  obtain ⟨s, m, h1, h2⟩ := h
  refine ⟨s, m, h1, ?_⟩
  by_cases hc : c = []
  · exact .inl hc
  rcases h2 with h2 | ⟨b, off, h3, h4, h5, h6⟩
  · exact .inl h2
  · have hlt : b < W.heap.size := cell_lt (h4 0 (List.length_pos_iff.2 hc))
    refine .inr ⟨b, off, h3, fun k hk => ?_, ?_, h6⟩
    · refine (World.cell?_of_block (w := W) ?_).trans (h4 k hk)
      rw [hg.block b (by simp; omega) (fun e => h5 e.symm)]
      exact ((Below.refl W.heap.size W).alloc (Nat.le_refl _) X).block b hlt
    · rcases hat with hat | hat
      · rw [hat]; exact h5
      · rw [hat]; intro e; have := Option.some.inj e; omega
theorem Elt.fresh {W W1 : World} {v1 v2 : Value} {n1 n2 : Nat} {x1 x2 : List Value} {base : Nat} {T : TypeId} {s : Option Addr} {c : List Int} {m : Nat} (o1 : W.ownsRow base T 1 v1 n1 x1) (o2 : W.ownsRow base T 1 v2 n2 x2) (hf : Fresh W s) (hH : HoldsI W1 s c) : Elt W1 v1.ownBlock v2.ownBlock (.slice s c.length m) c := by
  refine ⟨s, m, rfl, ?_⟩
  rcases hH with h | ⟨b, off, rfl, h⟩
  · exact .inl h
  · have hb := hf _ rfl
    refine .inr ⟨b, off, rfl, h, fun e => ?_, fun e => ?_⟩
    · have := (o1.lt b e).2; simp at hb; omega
    · have := (o2.lt b e).2; simp at hb; omega
def Elts (W : World) (g1 g2 : Option Nat) (us : List Value) (cs : List (List Int)) : Prop := us.length = cs.length ∧ ∀ k (h1 : k < us.length) (h2 : k < cs.length), Elt W g1 g2 us[k] cs[k]
theorem Elts.map {W W1 : World} {g1 g2 g1' g2' : Option Nat} {us : List Value} {cs : List (List Int)} (h : Elts W g1 g2 us cs) (f : ∀ u c, Elt W g1 g2 u c → Elt W1 g1' g2' u c) : Elts W1 g1' g2' us cs := ⟨h.1, fun k h1 h2 => f _ _ (h.2 k h1 h2)⟩
theorem Elts.push {W : World} {g1 g2 : Option Nat} {us : List Value} {cs : List (List Int)} {u : Value} {c : List Int} (h : Elts W g1 g2 us cs) (hu : Elt W g1 g2 u c) : Elts W g1 g2 (us ++ [u]) (cs ++ [c]) := by
  refine ⟨by simp [h.1], fun k h1 h2 => ?_⟩
  by_cases hk : k < us.length
  · rw [List.getElem_append_left hk, List.getElem_append_left (by have := h.1; omega)]
    exact h.2 k hk _
  · have e1 : k = us.length := by simp at h1; omega
    have e2 : k = cs.length := by have := h.1; omega
    subst e1
    rw [List.getElem_append_right (Nat.le_refl _), List.getElem_append_right (by omega)]
    simpa [e2] using hu
/-- Two lists of slices of the call's own. -/
structure C2 (w W : World) (v1 v2 : Value) (u1 u2 : List Value) (c1 c2 : List (List Int)) : Prop where
  below : Below w.heap.size w W
  own1 : W.ownsRow w.heap.size 28 1 v1 u1.length u1
  own2 : W.ownsRow w.heap.size 28 1 v2 u2.length u2
  apart : ∀ g, v1.ownBlock = some g → v2.ownBlock ≠ some g
  e1 : Elts W v1.ownBlock v2.ownBlock u1 c1
  e2 : Elts W v1.ownBlock v2.ownBlock u2 c2
theorem C2.swap {w W : World} {v1 v2 : Value} {u1 u2 : List Value} {c1 c2 : List (List Int)} (h : C2 w W v1 v2 u1 u2 c1 c2) : C2 w W v2 v1 u2 u1 c2 c1 :=
  ⟨h.below, h.own2, h.own1, fun g a b => h.apart g b a, h.e2.map fun _ _ => Elt.swap, h.e1.map fun _ _ => Elt.swap⟩
theorem C2.step {w W W1 : World} {v1 v2 : Value} {u1 u2 : List Value} {c1 c2 : List (List Int)} (h : C2 w W v1 v2 u1 u2 c1 c2) (hb : Below W.heap.size W W1) : C2 w W1 v1 v2 u1 u2 c1 c2 :=
  ⟨below_call h.below hb, own_below h.own1 hb, own_below h.own2 hb, h.apart, h.e1.map fun _ _ x => x.step hb, h.e2.map fun _ _ x => x.step hb⟩
theorem C2.push {w W W2 : World} {v1 v2 v' : Value} {u1 u2 : List Value} {c1 c2 : List (List Int)} {u : Value} {c : List Int} (h : C2 w W v1 v2 u1 u2 c1 c2) (hu : Elt W v1.ownBlock v2.ownBlock u c) (X : Obj) (hg : (W.alloc X).grownBy W2 v1.ownBlock)
    (hown : W2.ownsRow w.heap.size 28 1 v' (u1.length + 1) (u1 ++ [u])) (hat : v'.ownBlock = v1.ownBlock ∨ v'.ownBlock = some (W.heap.size + 1)) : C2 w W2 v' v2 (u1 ++ [u]) u2 (c1 ++ [c]) c2 := by
  refine ⟨(below_alloc h.below X).grown hg (below_alloc h.below X).size (fun k hk => (h.own1.lt k hk).1), by simpa using hown, own_heap h.own2 fun g hgg => ?_, fun g a b => ?_, (h.e1.push hu).map fun _ _ x => x.grow X hg hat, h.e2.map fun _ _ x => x.grow X hg hat⟩
  · have hlt := (h.own2.lt g hgg).2
    rw [hg.block g (by simp; omega) (fun e => h.apart g e.symm hgg)]
    exact ((Below.refl W.heap.size W).alloc (Nat.le_refl _) X).block g hlt
  · have hlt := (h.own2.lt g b).2
    rcases hat with hat | hat
    · exact h.apart g (hat ▸ a) b
    · rw [hat] at a
      have := Option.some.inj a
      omega
theorem C2.elt {w W W2 : World} {v1 v2 v' : Value} {u1 u2 : List Value} {c1 c2 : List (List Int)} (_h : C2 w W v1 v2 u1 u2 c1 c2) {u : Value} {c : List Int} (hu : Elt W v1.ownBlock v2.ownBlock u c) (X : Obj) (hg : (W.alloc X).grownBy W2 v1.ownBlock) (hat : v'.ownBlock = v1.ownBlock ∨ v'.ownBlock = some (W.heap.size + 1)) : Elt W2 v'.ownBlock v2.ownBlock u c := hu.grow X hg hat
theorem C2.holds {w W : World} {v1 v2 : Value} {u1 u2 : List Value} {c1 c2 : List (List Int)} (h : C2 w W v1 v2 u1 u2 c1 c2) : ∃ a m, v1 = .slice a c1.length m ∧ HoldsC W a c1 := by
  have hl := h.e1.1
  obtain ⟨h1, h2⟩ := h.own1
  rcases h2 with ⟨rfl, h0⟩ | ⟨g, cap, cur, rfl, hb, hg, hc, _, hs, ht⟩
  · refine ⟨none, 0, by rw [← hl, h0], .inl (List.length_eq_zero_iff.1 (by omega))⟩
  · refine ⟨some ⟨g, 0, none⟩, cap, by rw [hl], .inr ⟨g, 0, rfl, fun k hk => ?_⟩⟩
    obtain ⟨s, m, e, hH⟩ := (h.e1.2 k (by omega) hk).holds
    refine ⟨s, m, ?_, hH⟩
    have hk1 : k < u1.length := by omega
    have hcur : cur[k]? = some u1[k] := by
      have : (cur.toList.take (u1.length * 1))[k]? = some u1[k] := by rw [ht]; simp
      rw [List.getElem?_take_of_lt (by omega)] at this
      simpa using this
    rw [← e, Nat.zero_add]
    simp [World.cell?, hg, hcur]
end Go.Proofs.Ytnfnidgabgdphaa
