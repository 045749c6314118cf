/-
  The chapter's examples of planes: exampleHolds returns true.
-/
import Derived.Test.YtadkcgpkbcgeoaaPlnL
set_option maxRecDepth 100000
namespace Go.Proofs.Ytadkcgpkbcgeoaa
open Go.RowKit

theorem holds_new (w : World) (B : Nat) (hB : B = w.heap.size) (l : List Int) (cs : Array Value) (hcs : cs = (l.map (Value.int .i64)).toArray) : HoldsI (w.alloc (.cells cs 3)) (some ⟨B, 0, none⟩) l := by
  subst hB hcs
  refine .inr ⟨w.heap.size, 0, rfl, fun k hk => ?_⟩
  have e : (w.alloc (.cells (l.map (Value.int .i64)).toArray 3)).cell? ⟨w.heap.size, 0 + k, none⟩ = (l.map (Value.int .i64))[k]? := by simp
  rw [e]
  simp [hk]
theorem HoldsI.alloc {w : World} {s : Option Addr} {l : List Int} (h : HoldsI w s l) (X : Obj) : HoldsI (w.alloc X) s l := h.below ((Below.refl _ _).alloc (Nat.le_refl _) _) (Nat.le_refl _)
theorem HoldsI.call {w w1 : World} {s : Option Addr} {l : List Int} (h : HoldsI w s l) (hb : Below w.heap.size w w1) : HoldsI w1 s l := h.below hb (Nat.le_refl _)
theorem below_alloc {a W : World} (h : Below a.heap.size a W) (X : Obj) : Below a.heap.size a (W.alloc X) := h.alloc h.size X
theorem below_call {a W w1 : World} (h : Below a.heap.size a W) (hb : Below W.heap.size W w1) : Below a.heap.size a w1 := bcall h hb h.size
theorem ints_t (l : List Int) (n : Nat) (hn : n = l.length) (hl : l.length ≤ 140737488351232) (a1 a2 : Option Addr) (c1 c2 : Nat) (w : World) (h1 : HoldsI w a1 l) (h2 : HoldsI w a2 l) :
    Calls Try.prog 60 #[.slice a1 n c1, .slice a2 n c2] w fun e w' => e = .returned (.bool true) ∧ Below w.heap.size w w' := by
  subst hn
  have h := ints_r a1 a2 c1 c2 l l w hl hl h1 h2
  rw [eqL_self] at h
  exact h
theorem HoldsI.drew {w : World} {s : Option Addr} {l : List Int} (h : HoldsI w s l) : HoldsI w.drew s l := h
/-- A block that holds the zero plane. -/
structure Zb (W : World) (B : Nat) : Prop where
  o : QBox W B ⟨0, 0, 0, 0⟩ (.slice none 0 0)
  h : W.heap[B]? = some (.cells #[.int .i64 0, .int .i64 0, .int .i64 0, .int .i64 0, .slice none 0 0] 40)
theorem Zb.below {W w1 : World} {B : Nat} (h : Zb W B) (hb : Below W.heap.size W w1) : Zb w1 B := ⟨h.o.below hb, (hb.block B h.o.lt).trans h.h⟩
theorem Zb.drew {W : World} {B : Nat} (h : Zb W B) : Zb W.drew B := ⟨h.o.drew, h.h⟩
theorem Zb.alloc {W : World} {B : Nat} (h : Zb W B) (X : Obj) : Zb (W.alloc X) B := h.below ((Below.refl _ _).alloc (Nat.le_refl _) _)
theorem Zb.freshAt (w : World) (B : Nat) (hB : B = w.heap.size) : Zb (w.alloc (.cells #[.int .i64 0, .int .i64 0, .int .i64 0, .int .i64 0, .slice none 0 0] 40)) B :=
  ⟨QBox.freshAt w B hB 0 0 0 0 none 0 0 40, by subst hB; exact Array.getElem?_push_size⟩
/-- A list that begins with another number than 0 lies elsewhere. -/
theorem Zb.holds {W : World} {B : Nat} (h : Zb W B) {s : Option Addr} {x : Int} {l : List Int} (hH : HoldsI W s (x :: l)) (hx : x ≠ 0) (v0 v1 v2 v3 v4 : Value) :
    HoldsI (((((W.setCell ⟨B, 0, none⟩ v0).setCell ⟨B, 1, none⟩ v1).setCell ⟨B, 2, none⟩ v2).setCell ⟨B, 3, none⟩ v3).setCell ⟨B, 4, none⟩ v4) s (x :: l) := by
  rcases hH with hH | ⟨b, off, rfl, hr⟩
  · simp at hH
  · have hne : b ≠ B := by
      rintro rfl
      have h0 := hr 0 (by simp)
      have h1 := h.h
      simp only [World.cell?, h1, Nat.add_zero, List.getElem_cons_zero] at h0
      match off, h0 with
      | 0, h0 => simp at h0; exact hx h0.symm
      | 1, h0 => simp at h0; exact hx h0.symm
      | 2, h0 => simp at h0; exact hx h0.symm
      | 3, h0 => simp at h0; exact hx h0.symm
      | 4, h0 => simp at h0
      | n + 5, h0 => simp at h0
    exact .inr ⟨b, off, rfl, fun k hk => cell_far _ (cell_far _ (cell_far _ (cell_far _ (cell_far _ (hr k hk) hne) hne) hne) hne) hne⟩
theorem ex_valid (s : Option Addr) (w : World) :
    Calls Try.prog 70 #[.agg #[.int .i64 3, .int .i64 1, .int .i64 5, .int .i64 3, .slice s 4 4]] w fun e w' => e = .returned (.bool true) ∧ Below w.heap.size w w' := by
  have h := pv_c 3 1 5 3 s 4 4 w
  rw [show pvB 3 1 5 3 4 = true by decide] at h
  exact h
theorem ex_valid3 (s : Option Addr) (w : World) :
    Calls Try.prog 70 #[.agg #[.int .i64 0, .int .i64 0, .int .i64 2, .int .i64 2, .slice s 3 3]] w fun e w' => e = .returned (.bool false) ∧ Below w.heap.size w w' := by
  have h := pv_c 0 0 2 2 s 3 3 w
  rw [show pvB 0 0 2 2 3 = false by decide] at h
  exact h
theorem ex_clip (s : Option Addr) (w : World) (hH : HoldsI w s [1, 2, 3, 4]) :
    Calls Try.prog 75 #[.agg #[.int .i64 3, .int .i64 1, .int .i64 5, .int .i64 3, .slice s 4 4], .int .i64 2, .int .i64 3] w fun e w' => ∃ t n, e = .returned (.tuple #[.agg #[.int .i64 3, .int .i64 1, .int .i64 5, .int .i64 3, .slice t 4 n], .int .i64 0]) ∧ HoldsI w' t [2, 2, 3, 3] ∧ Below w.heap.size w w' ∧ 4 ≤ n := by
  have h := clip_yes 3 1 5 3 2 3 s 4 [1, 2, 3, 4] w (by decide) (by decide) hH
  rw [show clipL 2 3 [1, 2, 3, 4] = [2, 2, 3, 3] by decide] at h
  exact h.mono (by rintro e w' ⟨t, n, rfl, h1, h2, h3⟩; exact ⟨t, n, rfl, h1, h2, h3⟩)
theorem ex_lim (s : Option Addr) (w : World) (hH : HoldsI w s [1, 2, 3, 4]) :
    Calls Try.prog 94 #[.agg #[.int .i64 3, .int .i64 1, .int .i64 5, .int .i64 3, .slice s 4 4]] w fun e w' => e = .returned (.tuple #[.int .i64 1, .int .i64 4, .bool true]) ∧ Below w.heap.size w w' := by
  have h := lim_yes 3 1 5 3 s 4 [1, 2, 3, 4] w (by decide) (by decide) (by decide) hH
  rw [show mnL [1, 2, 3, 4] = 1 by decide] at h
  rw [show mxL [1, 2, 3, 4] = 4 by decide] at h
  exact h
theorem ex_same0 (s t : Option Addr) (m m' : Nat) (w : World) (hH : HoldsI w s [0, 0]) (hK : HoldsI w t [0, 0]) :
    Calls Try.prog 37 #[.agg #[.int .i64 1, .int .i64 1, .int .i64 3, .int .i64 2, .slice s 2 m], .agg #[.int .i64 1, .int .i64 1, .int .i64 3, .int .i64 2, .slice t 2 m']] w fun e w' => e = .returned (.bool true) ∧ Below w.heap.size w w' := by
  have h := ps_r ⟨1, 1, 3, 2⟩ ⟨1, 1, 3, 2⟩ s t m m' [0, 0] [0, 0] w (by decide) (by decide) hH hK
  rw [show psB ⟨1, 1, 3, 2⟩ ⟨1, 1, 3, 2⟩ [0, 0] [0, 0] = true by decide] at h
  exact h
end Go.Proofs.Ytadkcgpkbcgeoaa
