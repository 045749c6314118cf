/-
  The chapter's examples of planes: exampleHolds returns true.
-/
import Derived.Test.YtamkipdalegioaaPlnL
namespace Go.Proofs.Ytamkipdalegioaa
open Go.RowKit

theorem holds_new (w : World) (B : Nat) (hB : B = w.heap.size) (l : List Int) (cs : Array Value) (hcs : cs = (l.map (Value.int .i64)).toArray) : HoldsI (w.alloc (.cells cs 3)) (some ⟨B, 0, none⟩) l := by
  subst hB hcs
  refine .inr ⟨w.heap.size, 0, rfl, fun k hk => ?_⟩
  have e : (w.alloc (.cells (l.map (Value.int .i64)).toArray 3)).cell? ⟨w.heap.size, 0 + k, none⟩ = (l.map (Value.int .i64))[k]? := by simp
  rw [e]
  simp [hk]
theorem HoldsI.alloc {w : World} {s : Option Addr} {l : List Int} (h : HoldsI w s l) (X : Obj) : HoldsI (w.alloc X) s l := h.below ((Below.refl _ _).alloc (Nat.le_refl _) _) (Nat.le_refl _)
theorem HoldsI.call {w w1 : World} {s : Option Addr} {l : List Int} (h : HoldsI w s l) (hb : Below w.heap.size w w1) : HoldsI w1 s l := h.below hb (Nat.le_refl _)
theorem below_alloc {a W : World} (h : Below a.heap.size a W) (X : Obj) : Below a.heap.size a (W.alloc X) := h.alloc h.size X
theorem below_call {a W w1 : World} (h : Below a.heap.size a W) (hb : Below W.heap.size W w1) : Below a.heap.size a w1 := bcall h hb h.size
theorem ints_t (l : List Int) (n : Nat) (hn : n = l.length) (hl : l.length ≤ 140737488351232) (a1 a2 : Option Addr) (c1 c2 : Nat) (w : World) (h1 : HoldsI w a1 l) (h2 : HoldsI w a2 l) :
    Calls Try.prog 24 #[.slice a1 n c1, .slice a2 n c2] w fun e w' => e = .returned (.bool true) ∧ Below w.heap.size w w' := by
  subst hn
  have h := ints_r a1 a2 c1 c2 l l w hl hl h1 h2
  rw [eqL_self] at h
  exact h
theorem HoldsI.drew {w : World} {s : Option Addr} {l : List Int} (h : HoldsI w s l) : HoldsI w.drew s l := h
theorem ofh (a b c d : Int) (l : List Int) (n : Nat) (s : Option Addr) (m : Nat) (w : World) (hH : HoldsI w s l) :
    Calls Try.prog 41 #[.int .i64 a, .int .i64 b, .int .i64 c, .int .i64 d, .slice s n m] w fun e w' => e = .returned (.agg #[.int .i64 a, .int .i64 b, .int .i64 c, .int .i64 d, .slice s n m]) ∧ Below w.heap.size w w' ∧ HoldsI w' s l :=
  (ofp_c a b c d _ s n m rfl w).mono (by rintro e w' ⟨rfl, hb⟩; exact ⟨rfl, hb, hH.call hb⟩)
/-- A block that holds the zero plane. -/
structure Zb (W : World) (B : Nat) : Prop where
  o : QBox W B ⟨0, 0, 0, 0⟩ (.slice none 0 0)
  h : W.heap[B]? = some (.cells #[.int .i64 0, .int .i64 0, .int .i64 0, .int .i64 0, .slice none 0 0] 26)
theorem Zb.below {W w1 : World} {B : Nat} (h : Zb W B) (hb : Below W.heap.size W w1) : Zb w1 B := ⟨h.o.below hb, (hb.block B h.o.lt).trans h.h⟩
theorem Zb.drew {W : World} {B : Nat} (h : Zb W B) : Zb W.drew B := ⟨h.o.drew, h.h⟩
theorem Zb.alloc {W : World} {B : Nat} (h : Zb W B) (X : Obj) : Zb (W.alloc X) B := h.below ((Below.refl _ _).alloc (Nat.le_refl _) _)
theorem Zb.freshAt (w : World) (B : Nat) (hB : B = w.heap.size) : Zb (w.alloc (.cells #[.int .i64 0, .int .i64 0, .int .i64 0, .int .i64 0, .slice none 0 0] 26)) B :=
  ⟨QBox.freshAt w B hB 0 0 0 0 none 0 0 26, by subst hB; exact Array.getElem?_push_size⟩
/-- A list that begins with another number than 0 lies elsewhere. -/
theorem Zb.holds {W : World} {B : Nat} (h : Zb W B) {s : Option Addr} {x : Int} {l : List Int} (hH : HoldsI W s (x :: l)) (hx : x ≠ 0) (v0 v1 v2 v3 v4 : Value) :
    HoldsI (((((W.setCell ⟨B, 0, none⟩ v0).setCell ⟨B, 1, none⟩ v1).setCell ⟨B, 2, none⟩ v2).setCell ⟨B, 3, none⟩ v3).setCell ⟨B, 4, none⟩ v4) s (x :: l) := by
  rcases hH with hH | ⟨b, off, rfl, hr⟩
  · simp at hH
  · have hne : b ≠ B := by
      rintro rfl
      have h0 := hr 0 (by simp)
      have h1 := h.h
      simp only [World.cell?, h1, Nat.add_zero, List.getElem_cons_zero] at h0
      match off, h0 with
      | 0, h0 => simp at h0; exact hx h0.symm
      | 1, h0 => simp at h0; exact hx h0.symm
      | 2, h0 => simp at h0; exact hx h0.symm
      | 3, h0 => simp at h0; exact hx h0.symm
      | 4, h0 => simp at h0
      | n + 5, h0 => simp at h0
    exact .inr ⟨b, off, rfl, fun k hk => cell_far _ (cell_far _ (cell_far _ (cell_far _ (cell_far _ (hr k hk) hne) hne) hne) hne) hne⟩
theorem ex_at (s : Option Addr) (w : World) (hH : HoldsI w s [1, 2, 3, 4]) :
    Calls Try.prog 18 #[.agg #[.int .i64 3, .int .i64 1, .int .i64 5, .int .i64 3, .slice s 4 4], .int .i64 4, .int .i64 2] w fun e w' => e = .returned (.tuple #[.int .i64 4, .bool true]) ∧ Below w.heap.size w w' := by
  have h := at_gv 3 1 5 3 4 2 s 4 [1, 2, 3, 4] w (by decide) (by decide) hH
  rw [show gv ⟨3, 1, 5, 3⟩ [1, 2, 3, 4] 4 2 = 4 by decide] at h
  exact h
theorem ex_row (s : Option Addr) (w : World) (hH : HoldsI w s [1, 2, 3, 4]) :
    Calls Try.prog 22 #[.agg #[.int .i64 3, .int .i64 1, .int .i64 5, .int .i64 3, .slice s 4 4], .int .i64 2] w fun e w' => ∃ t n, e = .returned (.tuple #[.slice t 2 n, .bool true]) ∧ HoldsI w' t [3, 4] ∧ Below w.heap.size w w' ∧ 2 ≤ n := by
  have h := row_yes 3 1 5 3 2 s 4 [1, 2, 3, 4] w (by decide) (by decide) (by decide) (by decide) hH
  rw [show rowL ⟨3, 1, 5, 3⟩ [1, 2, 3, 4] 2 = [3, 4] by decide] at h
  exact h.mono (by rintro e w' ⟨t, n, rfl, h1, h2, h3⟩; exact ⟨t, n, rfl, h1, h2, h3⟩)
theorem ex_col (s : Option Addr) (w : World) (hH : HoldsI w s [1, 2, 3, 4]) :
    Calls Try.prog 25 #[.agg #[.int .i64 3, .int .i64 1, .int .i64 5, .int .i64 3, .slice s 4 4], .int .i64 3] w fun e w' => ∃ t n, e = .returned (.tuple #[.slice t 2 n, .bool true]) ∧ HoldsI w' t [1, 3] ∧ Below w.heap.size w w' ∧ 2 ≤ n := by
  have h := col_yes 3 1 5 3 3 s 4 [1, 2, 3, 4] w (by decide) (by decide) (by decide) hH
  rw [show colL ⟨3, 1, 5, 3⟩ [1, 2, 3, 4] 3 = [1, 3] by decide] at h
  exact h.mono (by rintro e w' ⟨t, n, rfl, h1, h2, h3⟩; exact ⟨t, n, rfl, h1, h2, h3⟩)
theorem ex_valid (s : Option Addr) (w : World) :
    Calls Try.prog 20 #[.agg #[.int .i64 3, .int .i64 1, .int .i64 5, .int .i64 3, .slice s 4 4]] w fun e w' => e = .returned (.bool true) ∧ Below w.heap.size w w' := by
  have h := pv_c 3 1 5 3 s 4 4 w
  rw [show pvB 3 1 5 3 4 = true by decide] at h
  exact h
theorem ex_valid3 (s : Option Addr) (w : World) :
    Calls Try.prog 20 #[.agg #[.int .i64 0, .int .i64 0, .int .i64 2, .int .i64 2, .slice s 3 3]] w fun e w' => e = .returned (.bool false) ∧ Below w.heap.size w w' := by
  have h := pv_c 0 0 2 2 s 3 3 w
  rw [show pvB 0 0 2 2 3 = false by decide] at h
  exact h
theorem ex_crop (s : Option Addr) (w : World) (hH : HoldsI w s [1, 2, 3, 4]) :
    Calls Try.prog 27 #[.agg #[.int .i64 3, .int .i64 1, .int .i64 5, .int .i64 3, .slice s 4 4], .agg #[.int .i64 4, .int .i64 1, .int .i64 5, .int .i64 3]] w fun e w' => ∃ t n, e = .returned (.tuple #[.agg #[.int .i64 4, .int .i64 1, .int .i64 5, .int .i64 3, .slice t 2 n], .int .i64 0]) ∧ HoldsI w' t [2, 4] ∧ Below w.heap.size w w' ∧ 2 ≤ n := by
  have h := crop_yes 3 1 5 3 4 1 5 3 s 4 [1, 2, 3, 4] w (by decide) (by decide) (by decide) (by decide) hH
  rw [show cropL ⟨3, 1, 5, 3⟩ [1, 2, 3, 4] ⟨4, 1, 5, 3⟩ = [2, 4] by decide] at h
  exact h.mono (by rintro e w' ⟨t, n, rfl, h1, h2, h3⟩; exact ⟨t, n, rfl, h1, h2, h3⟩)
theorem ex_paste (s t : Option Addr) (w : World) (hH : HoldsI w s [1, 2, 3, 4]) (hs : s = none → [1, 2, 3, 4].length = 0 ∧ 4 = 0) (hK : HoldsI w t [7, 8, 8, 8, 8]) :
    Calls Try.prog 29 #[.agg #[.int .i64 3, .int .i64 1, .int .i64 5, .int .i64 3, .slice s 4 4], .agg #[.int .i64 4, .int .i64 2, .int .i64 9, .int .i64 3, .slice t 5 5]] w fun e w' => ∃ t n, e = .returned (.tuple #[.agg #[.int .i64 3, .int .i64 1, .int .i64 5, .int .i64 3, .slice t 4 n], .int .i64 0]) ∧ HoldsI w' t [1, 2, 3, 7] ∧ Below w.heap.size w w' ∧ 4 ≤ n := by
  have h := paste_yes 3 1 5 3 4 2 9 3 s t 4 5 [1, 2, 3, 4] [7, 8, 8, 8, 8] w (by decide) (by decide) (by decide) hH hs hK
  rw [show pasteL ⟨3, 1, 5, 3⟩ [1, 2, 3, 4] ⟨4, 2, 9, 3⟩ [7, 8, 8, 8, 8] = [1, 2, 3, 7] by decide] at h
  exact h.mono (by rintro e w' ⟨t, n, rfl, h1, h2, h3⟩; exact ⟨t, n, rfl, h1, h2, h3⟩)
theorem ex_clip (s : Option Addr) (w : World) (hH : HoldsI w s [1, 2, 3, 4]) :
    Calls Try.prog 31 #[.agg #[.int .i64 3, .int .i64 1, .int .i64 5, .int .i64 3, .slice s 4 4], .int .i64 2, .int .i64 3] w fun e w' => ∃ t n, e = .returned (.tuple #[.agg #[.int .i64 3, .int .i64 1, .int .i64 5, .int .i64 3, .slice t 4 n], .int .i64 0]) ∧ HoldsI w' t [2, 2, 3, 3] ∧ Below w.heap.size w w' ∧ 4 ≤ n := by
  have h := clip_yes 3 1 5 3 2 3 s 4 [1, 2, 3, 4] w (by decide) (by decide) hH
  rw [show clipL 2 3 [1, 2, 3, 4] = [2, 2, 3, 3] by decide] at h
  exact h.mono (by rintro e w' ⟨t, n, rfl, h1, h2, h3⟩; exact ⟨t, n, rfl, h1, h2, h3⟩)
theorem ex_lim (s : Option Addr) (w : World) (hH : HoldsI w s [1, 2, 3, 4]) :
    Calls Try.prog 33 #[.agg #[.int .i64 3, .int .i64 1, .int .i64 5, .int .i64 3, .slice s 4 4]] w fun e w' => e = .returned (.tuple #[.int .i64 1, .int .i64 4, .bool true]) ∧ Below w.heap.size w w' := by
  have h := lim_yes 3 1 5 3 s 4 [1, 2, 3, 4] w (by decide) (by decide) (by decide) hH
  rw [show mnL [1, 2, 3, 4] = 1 by decide] at h
  rw [show mxL [1, 2, 3, 4] = 4 by decide] at h
  exact h
theorem ex_crop3 (s : Option Addr) (w : World) :
    Calls Try.prog 27 #[.agg #[.int .i64 0, .int .i64 0, .int .i64 2, .int .i64 2, .slice s 3 3], .agg #[.int .i64 5, .int .i64 0, .int .i64 0, .int .i64 0]] w fun e w' => ∃ t n, e = .returned (.tuple #[.agg #[.int .i64 0, .int .i64 0, .int .i64 0, .int .i64 0, .slice t 0 n], .int .i64 1]) ∧ HoldsI w' t [] ∧ Below w.heap.size w w' ∧ 0 ≤ n := by
  have h := crop_no1 0 0 2 2 5 0 0 0 s 3 [1, 2, 3] w (by decide)
  exact h.mono (by rintro e w' ⟨t, n, rfl, h1, h2, h3⟩; exact ⟨t, n, rfl, h1, h2, h3⟩)
theorem ex_new5 (w : World) :
    Calls Try.prog 12 #[.agg #[.int .i64 0, .int .i64 0, .int .i64 4096, .int .i64 4096]] w fun e w' => ∃ t n, e = .returned (.tuple #[.agg #[.int .i64 0, .int .i64 0, .int .i64 0, .int .i64 0, .slice t 0 n], .int .i64 5]) ∧ HoldsI w' t [] ∧ Below w.heap.size w w' ∧ 0 ≤ n := by
  have h := new_no2 0 0 4096 4096 w (by decide) (by decide)
  exact h.mono (by rintro e w' ⟨t, n, rfl, h1, h2, h3⟩; exact ⟨t, n, rfl, h1, h2, h3⟩)
theorem ex_new (w : World) :
    Calls Try.prog 12 #[.agg #[.int .i64 1, .int .i64 1, .int .i64 3, .int .i64 2]] w fun e w' => ∃ t n, e = .returned (.tuple #[.agg #[.int .i64 1, .int .i64 1, .int .i64 3, .int .i64 2, .slice t 2 n], .int .i64 0]) ∧ HoldsI w' t [0, 0] ∧ Below w.heap.size w w' ∧ 2 ≤ n := by
  have h := new_yes 1 1 3 2 w (by decide) (by decide)
  rw [show List.replicate (Pl.areaI 1 1 3 2).toNat (0 : Int) = [0, 0] by decide] at h
  exact h.mono (by rintro e w' ⟨t, n, rfl, h1, h2, h3⟩; exact ⟨t, n, rfl, h1, h2, h3⟩)
theorem ex_same0 (s t : Option Addr) (m m' : Nat) (w : World) (hH : HoldsI w s [0, 0]) (hK : HoldsI w t [0, 0]) :
    Calls Try.prog 16 #[.agg #[.int .i64 1, .int .i64 1, .int .i64 3, .int .i64 2, .slice s 2 m], .agg #[.int .i64 1, .int .i64 1, .int .i64 3, .int .i64 2, .slice t 2 m']] w fun e w' => e = .returned (.bool true) ∧ Below w.heap.size w w' := by
  have h := ps_r ⟨1, 1, 3, 2⟩ ⟨1, 1, 3, 2⟩ s t m m' [0, 0] [0, 0] w (by decide) (by decide) hH hK
  rw [show psB ⟨1, 1, 3, 2⟩ ⟨1, 1, 3, 2⟩ [0, 0] [0, 0] = true by decide] at h
  exact h
theorem ex_same1 (s : Option Addr) (w : World) (hH : HoldsI w s [1, 2, 3, 4]) :
    Calls Try.prog 35 #[.agg #[.int .i64 3, .int .i64 1, .int .i64 5, .int .i64 3, .slice s 4 4], .agg #[.int .i64 3, .int .i64 1, .int .i64 5, .int .i64 3, .slice s 4 4]] w fun e w' => e = .returned (.bool true) ∧ Below w.heap.size w w' := by
  have h := ps_c ⟨3, 1, 5, 3⟩ ⟨3, 1, 5, 3⟩ s s 4 4 [1, 2, 3, 4] [1, 2, 3, 4] w (by decide) (by decide) hH hH
  rw [show psB ⟨3, 1, 5, 3⟩ ⟨3, 1, 5, 3⟩ [1, 2, 3, 4] [1, 2, 3, 4] = true by decide] at h
  exact h
theorem ex_same2 (s t : Option Addr) (m : Nat) (w : World) (hH : HoldsI w s [1, 2, 3, 4]) (hK : HoldsI w t [2, 2, 3, 3]) :
    Calls Try.prog 35 #[.agg #[.int .i64 3, .int .i64 1, .int .i64 5, .int .i64 3, .slice s 4 4], .agg #[.int .i64 3, .int .i64 1, .int .i64 5, .int .i64 3, .slice t 4 m]] w fun e w' => e = .returned (.bool false) ∧ Below w.heap.size w w' := by
  have h := ps_c ⟨3, 1, 5, 3⟩ ⟨3, 1, 5, 3⟩ s t 4 m [1, 2, 3, 4] [2, 2, 3, 3] w (by decide) (by decide) hH hK
  rw [show psB ⟨3, 1, 5, 3⟩ ⟨3, 1, 5, 3⟩ [1, 2, 3, 4] [2, 2, 3, 3] = false by decide] at h
  exact h
set_option maxRecDepth 100000 in
set_option maxHeartbeats 2000000 in
theorem example02_c (w : World) : Calls Try.prog 14 #[] w fun e w' => e = .returned (.bool true) ∧ Below w.heap.size w w' := by
  go_enter Try.func14, Try.ntmps14
  go_wp2_with fail
  refine (ofp_c 3 1 5 3 _ (some ⟨w.heap.size, 0, none⟩) 4 4 rfl _).mono ?_
  rintro e w1 ⟨rfl, hb⟩
  have lp := (holds_new w w.heap.size rfl [1, 2, 3, 4] _ rfl).call hb
  have B := below_call (below_alloc (Below.refl _ w) _) hb
  clear hb
  replace lp := lp.alloc (.cells #[.int .i64 3, .int .i64 1, .int .i64 5, .int .i64 3, .slice (some ⟨w.heap.size, 0, none⟩) 4 4] 26)
  replace B := below_alloc B (.cells #[.int .i64 3, .int .i64 1, .int .i64 5, .int .i64 3, .slice (some ⟨w.heap.size, 0, none⟩) 4 4] 26)
  have p := QBox.fresh w1 3 1 5 3 (some ⟨w.heap.size, 0, none⟩) 4 4 26
  obtain ⟨p0, p1, p2, p3, p4⟩ := p.open
  go_wp2_with fail
  clear p0 p1 p2 p3 p4
  refine (ex_at _ _ lp).mono ?_
  rintro e w2 ⟨rfl, hb⟩
  replace lp := lp.call hb
  replace p := p.below hb
  replace B := below_call B hb
  clear hb
  obtain ⟨p0, p1, p2, p3, p4⟩ := p.open
  go_wp2_with fail
  clear p0 p1 p2 p3 p4
  refine (ex_row _ _ lp).mono ?_
  rintro e w3 ⟨sr, mr, rfl, lr, hb, _⟩
  replace lp := lp.call hb
  replace p := p.below hb
  replace B := below_call B hb
  clear hb
  obtain ⟨p0, p1, p2, p3, p4⟩ := p.open
  go_wp2_with fail
  clear p0 p1 p2 p3 p4
  refine (ex_col _ _ lp).mono ?_
  rintro e w4 ⟨sc, mc, rfl, lc, hb, _⟩
  replace lp := lp.call hb
  replace p := p.below hb
  replace lr := lr.call hb
  replace B := below_call B hb
  clear hb
  go_wp2_with fail
  have nl := holds_new w4 w4.heap.size rfl [3, 4] _ rfl
  refine (ints_t [3, 4] 2 rfl (by decide) _ _ _ _ _ (lr.alloc _) nl).mono ?_
  rintro e w5 ⟨rfl, hb⟩
  replace lp := (lp.alloc _).call hb
  replace p := (p.alloc _).below hb
  replace lr := (lr.alloc _).call hb
  replace lc := (lc.alloc _).call hb
  replace B := below_call (below_alloc B _) hb
  clear hb
  clear lr nl
  go_wp2_with fail
  have nl := holds_new w5 w5.heap.size rfl [1, 3] _ rfl
  refine (ints_t [1, 3] 2 rfl (by decide) _ _ _ _ _ (lc.alloc _) nl).mono ?_
  rintro e w6 ⟨rfl, hb⟩
  replace lp := (lp.alloc _).call hb
  replace p := (p.alloc _).below hb
  replace lc := (lc.alloc _).call hb
  replace B := below_call (below_alloc B _) hb
  clear hb
  clear lc nl
  obtain ⟨p0, p1, p2, p3, p4⟩ := p.open
  go_wp2_with fail
  clear p0 p1 p2 p3 p4
  refine (ex_valid _ _).mono ?_
  rintro e w7 ⟨rfl, hb⟩
  replace lp := lp.call hb
  replace p := p.below hb
  replace B := below_call B hb
  clear hb
  go_wp2_with fail
  refine (ofp_c 0 0 2 2 _ (some ⟨w7.heap.size, 0, none⟩) 3 3 rfl _).mono ?_
  rintro e w8 ⟨rfl, hb⟩
  replace lp := (lp.alloc _).call hb
  replace p := (p.alloc _).below hb
  replace B := below_call (below_alloc B _) hb
  clear hb
  go_wp2_with fail
  refine (ex_valid3 _ _).mono ?_
  rintro e w9 ⟨rfl, hb⟩
  replace lp := lp.call hb
  replace p := p.below hb
  replace B := below_call B hb
  clear hb
  obtain ⟨p0, p1, p2, p3, p4⟩ := p.open
  go_wp2_with fail
  clear p0 p1 p2 p3 p4
  refine (ex_crop _ _ lp).mono ?_
  rintro e w10 ⟨sq, mq, rfl, lq, hb, _⟩
  replace lp := lp.call hb
  replace p := p.below hb
  replace B := below_call B hb
  clear hb
  replace lp := lp.alloc (.cells #[.int .i64 4, .int .i64 1, .int .i64 5, .int .i64 3, .slice sq 2 mq] 26)
  replace p := p.alloc (.cells #[.int .i64 4, .int .i64 1, .int .i64 5, .int .i64 3, .slice sq 2 mq] 26)
  replace lq := lq.alloc (.cells #[.int .i64 4, .int .i64 1, .int .i64 5, .int .i64 3, .slice sq 2 mq] 26)
  replace B := below_alloc B (.cells #[.int .i64 4, .int .i64 1, .int .i64 5, .int .i64 3, .slice sq 2 mq] 26)
  have q := QBox.fresh w10 4 1 5 3 sq 2 mq 26
  go_upto_region 8 with fail
  generalize (w10.alloc (.cells #[.int .i64 4, .int .i64 1, .int .i64 5, .int .i64 3, .slice sq 2 mq] 26)) = V at lp p lq q B ⊢
  have eP := fun (W : World) (h : Below V.heap.size V W) => (p.below h).open
  go_cut [10, 11] (fun s10 s11 wx => ∃ (Q : Nat) (t : Option Addr) (n : Nat), s10 = .pointer (some ⟨Q, 0, none⟩) ∧ s11 = .int .i64 0 ∧ Below V.heap.size V wx ∧ QBox wx Q ⟨3, 1, 5, 3⟩ (.slice t 4 n) ∧ HoldsI wx t [1, 2, 3, 7])
  case first =>
    go_region_held3 (fun w' => w'.cell? ⟨w1.heap.size, 0, none⟩ = some (.int .i64 3) ∧ w'.cell? ⟨w1.heap.size, 1, none⟩ = some (.int .i64 1) ∧ w'.cell? ⟨w1.heap.size, 2, none⟩ = some (.int .i64 5) ∧ w'.cell? ⟨w1.heap.size, 3, none⟩ = some (.int .i64 3) ∧ w'.cell? ⟨w1.heap.size, 4, none⟩ = some (.slice (some ⟨w.heap.size, 0, none⟩) 4 4))
      (first | (with_reducible assumption) | with_reducible exact eP _ (by repeat (first | exact Below.refl _ _ | assumption | refine Below.drew ?_ | refine below_alloc ?_ _ | refine below5 ?_ (by omega) _ _ _ _ _)) | fail)
      (first | (go_at_call 41; (with_reducible refine (ofh 4 2 9 3 [7, 8, 8, 8, 8] 5 _ 5 _ (by first | (refine holds_new _ _ ?_ _ _ rfl; simp) | (refine HoldsI.drew ?_; refine holds_new _ _ ?_ _ _ rfl; simp) | (refine HoldsI.drew ?_; refine HoldsI.alloc ?_ _; refine holds_new _ _ ?_ _ _ rfl; simp) | (refine HoldsI.alloc ?_ _; refine holds_new _ _ ?_ _ _ rfl; simp))).mono ?_); rintro e w11 ⟨rfl, hb, hk⟩; have b11 : Below V.heap.size V w11 := below_call (by repeat (first | exact Below.refl _ _ | assumption | refine Below.drew ?_ | refine below_alloc ?_ _ | refine below5 ?_ (by omega) _ _ _ _ _)) hb; have s11 := b11.size; first | (with_reducible have z := (((Zb.freshAt V V.heap.size rfl).alloc _).drew).below hb) | (with_reducible have z := ((Zb.freshAt (V.alloc _) (V.heap.size + 1) (by simp)).drew).below hb) | (have z := True.intro)) | (go_at_call 29; (with_reducible refine (ex_paste _ _ _ (lp.call (by repeat (first | exact Below.refl _ _ | assumption | refine Below.drew ?_ | refine below_alloc ?_ _ | refine below5 ?_ (by omega) _ _ _ _ _))) (fun h => by simp at h) (by first | exact hk | exact hk.alloc _)).mono ?_); rintro e w12 ⟨t, n, rfl, ht, hb, hn⟩; have b12 : Below V.heap.size V w12 := below_call (by repeat (first | exact Below.refl _ _ | assumption | refine Below.drew ?_ | refine below_alloc ?_ _ | refine below5 ?_ (by omega) _ _ _ _ _)) hb; first | (with_reducible have z2 := z.below hb; obtain ⟨e0, e1, e2, e3, e4⟩ := z2.o.open; have g3 := z2.o.free; have l3 := z2.o.lt) | (with_reducible have z2 := (Zb.freshAt w11 w11.heap.size rfl).below hb; obtain ⟨e0, e1, e2, e3, e4⟩ := z2.o.open; have g3 := z2.o.free; have l3 := z2.o.lt) | (have z2 := True.intro)))
    all_goals
      go_wp2_with fail
      go_meet
      first
      | with_reducible exact ⟨_, t, n, rfl, rfl, below_alloc b12 _, QBox.fresh w12 3 1 5 3 t 4 n 26, ht.alloc _⟩
      | with_reducible exact ⟨_, t, n, rfl, rfl, below5 b12 (by omega) _ _ _ _ _, z2.o.store 3 1 5 3 _, z2.holds ht (by decide) _ _ _ _ _⟩
      | trace_state
  case rest =>
    obtain ⟨Q, tr, nr, rfl, rfl, b, r, lr⟩ := hcut
    replace p := p.below b
    replace lp := lp.call b
    replace q := q.below b
    replace lq := lq.call b
    replace B := below_call B b
    clear eP b
    obtain ⟨p0, p1, p2, p3, p4⟩ := p.open
    go_wp2_with fail
    clear p0 p1 p2 p3 p4
    refine (ex_clip _ _ lp).mono ?_
    rintro e w13 ⟨sk, mk, rfl, lk, hb, _⟩
    replace lp := lp.call hb
    replace p := p.below hb
    replace lq := lq.call hb
    replace q := q.below hb
    replace r := r.below hb
    replace lr := lr.call hb
    replace B := below_call B hb
    clear hb
    replace lp := lp.alloc (.cells #[.int .i64 3, .int .i64 1, .int .i64 5, .int .i64 3, .slice sk 4 mk] 26)
    replace p := p.alloc (.cells #[.int .i64 3, .int .i64 1, .int .i64 5, .int .i64 3, .slice sk 4 mk] 26)
    replace lq := lq.alloc (.cells #[.int .i64 3, .int .i64 1, .int .i64 5, .int .i64 3, .slice sk 4 mk] 26)
    replace q := q.alloc (.cells #[.int .i64 3, .int .i64 1, .int .i64 5, .int .i64 3, .slice sk 4 mk] 26)
    replace r := r.alloc (.cells #[.int .i64 3, .int .i64 1, .int .i64 5, .int .i64 3, .slice sk 4 mk] 26)
    replace lr := lr.alloc (.cells #[.int .i64 3, .int .i64 1, .int .i64 5, .int .i64 3, .slice sk 4 mk] 26)
    replace lk := lk.alloc (.cells #[.int .i64 3, .int .i64 1, .int .i64 5, .int .i64 3, .slice sk 4 mk] 26)
    replace B := below_alloc B (.cells #[.int .i64 3, .int .i64 1, .int .i64 5, .int .i64 3, .slice sk 4 mk] 26)
    have k := QBox.fresh w13 3 1 5 3 sk 4 mk 26
    obtain ⟨q0, q1, q2, q3, q4⟩ := q.open
    go_wp2_with fail
    clear q0 q1 q2 q3 q4
    have nl := holds_new (w13.alloc (.cells #[.int .i64 3, .int .i64 1, .int .i64 5, .int .i64 3, .slice sk 4 mk] 26)) (w13.heap.size + 1) (by simp) [2, 4] _ rfl
    refine (ints_t [2, 4] 2 rfl (by decide) _ _ _ _ _ (lq.alloc _) nl).mono ?_
    rintro e w14 ⟨rfl, hb⟩
    replace lp := (lp.alloc _).call hb
    replace p := (p.alloc _).below hb
    replace lq := (lq.alloc _).call hb
    replace q := (q.alloc _).below hb
    replace r := (r.alloc _).below hb
    replace lr := (lr.alloc _).call hb
    replace lk := (lk.alloc _).call hb
    replace k := (k.alloc _).below hb
    replace B := below_call (below_alloc B _) hb
    clear hb
    clear nl
    clear q lq
    obtain ⟨r0, r1, r2, r3, r4⟩ := r.open
    go_wp2_with fail
    clear r0 r1 r2 r3 r4
    have nl := holds_new w14 w14.heap.size rfl [1, 2, 3, 7] _ rfl
    refine (ints_t [1, 2, 3, 7] 4 rfl (by decide) _ _ _ _ _ (lr.alloc _) nl).mono ?_
    rintro e w15 ⟨rfl, hb⟩
    replace lp := (lp.alloc _).call hb
    replace p := (p.alloc _).below hb
    replace r := (r.alloc _).below hb
    replace lr := (lr.alloc _).call hb
    replace lk := (lk.alloc _).call hb
    replace k := (k.alloc _).below hb
    replace B := below_call (below_alloc B _) hb
    clear hb
    clear nl
    clear r lr
    obtain ⟨k0, k1, k2, k3, k4⟩ := k.open
    go_wp2_with fail
    clear k0 k1 k2 k3 k4
    have nl := holds_new w15 w15.heap.size rfl [2, 2, 3, 3] _ rfl
    refine (ints_t [2, 2, 3, 3] 4 rfl (by decide) _ _ _ _ _ (lk.alloc _) nl).mono ?_
    rintro e w16 ⟨rfl, hb⟩
    replace lp := (lp.alloc _).call hb
    replace p := (p.alloc _).below hb
    replace lk := (lk.alloc _).call hb
    replace k := (k.alloc _).below hb
    replace B := below_call (below_alloc B _) hb
    clear hb
    clear nl
    obtain ⟨p0, p1, p2, p3, p4⟩ := p.open
    go_wp2_with fail
    clear p0 p1 p2 p3 p4
    refine (ex_lim _ _ lp).mono ?_
    rintro e w17 ⟨rfl, hb⟩
    replace lp := lp.call hb
    replace p := p.below hb
    replace lk := lk.call hb
    replace k := k.below hb
    replace B := below_call B hb
    clear hb
    go_wp2_with fail
    refine (ofp_c 0 0 2 2 _ (some ⟨w17.heap.size, 0, none⟩) 3 3 rfl _).mono ?_
    rintro e w18 ⟨rfl, hb⟩
    replace lp := (lp.alloc _).call hb
    replace p := (p.alloc _).below hb
    replace lk := (lk.alloc _).call hb
    replace k := (k.alloc _).below hb
    replace B := below_call (below_alloc B _) hb
    clear hb
    go_wp2_with fail
    refine (ex_crop3 _ _).mono ?_
    rintro e w19 ⟨s9, m9, rfl, _, hb, _⟩
    replace lp := lp.call hb
    replace p := p.below hb
    replace lk := lk.call hb
    replace k := k.below hb
    replace B := below_call B hb
    clear hb
    replace lp := lp.alloc (.cells #[.int .i64 0, .int .i64 0, .int .i64 0, .int .i64 0, .slice s9 0 m9] 26)
    replace p := p.alloc (.cells #[.int .i64 0, .int .i64 0, .int .i64 0, .int .i64 0, .slice s9 0 m9] 26)
    replace lk := lk.alloc (.cells #[.int .i64 0, .int .i64 0, .int .i64 0, .int .i64 0, .slice s9 0 m9] 26)
    replace k := k.alloc (.cells #[.int .i64 0, .int .i64 0, .int .i64 0, .int .i64 0, .slice s9 0 m9] 26)
    replace B := below_alloc B (.cells #[.int .i64 0, .int .i64 0, .int .i64 0, .int .i64 0, .slice s9 0 m9] 26)
    go_wp2_with fail
    refine (ex_new5 _).mono ?_
    rintro e w20 ⟨s8, m8, rfl, _, hb, _⟩
    replace lp := lp.call hb
    replace p := p.below hb
    replace lk := lk.call hb
    replace k := k.below hb
    replace B := below_call B hb
    clear hb
    replace lp := lp.alloc (.cells #[.int .i64 0, .int .i64 0, .int .i64 0, .int .i64 0, .slice s8 0 m8] 26)
    replace p := p.alloc (.cells #[.int .i64 0, .int .i64 0, .int .i64 0, .int .i64 0, .slice s8 0 m8] 26)
    replace lk := lk.alloc (.cells #[.int .i64 0, .int .i64 0, .int .i64 0, .int .i64 0, .slice s8 0 m8] 26)
    replace k := k.alloc (.cells #[.int .i64 0, .int .i64 0, .int .i64 0, .int .i64 0, .slice s8 0 m8] 26)
    replace B := below_alloc B (.cells #[.int .i64 0, .int .i64 0, .int .i64 0, .int .i64 0, .slice s8 0 m8] 26)
    go_wp2_with fail
    refine (ex_new _).mono ?_
    rintro e w21 ⟨sz, mz, rfl, lz, hb, _⟩
    replace lp := lp.call hb
    replace p := p.below hb
    replace lk := lk.call hb
    replace k := k.below hb
    replace B := below_call B hb
    clear hb
    replace lp := lp.alloc (.cells #[.int .i64 1, .int .i64 1, .int .i64 3, .int .i64 2, .slice sz 2 mz] 26)
    replace p := p.alloc (.cells #[.int .i64 1, .int .i64 1, .int .i64 3, .int .i64 2, .slice sz 2 mz] 26)
    replace lk := lk.alloc (.cells #[.int .i64 1, .int .i64 1, .int .i64 3, .int .i64 2, .slice sz 2 mz] 26)
    replace k := k.alloc (.cells #[.int .i64 1, .int .i64 1, .int .i64 3, .int .i64 2, .slice sz 2 mz] 26)
    replace lz := lz.alloc (.cells #[.int .i64 1, .int .i64 1, .int .i64 3, .int .i64 2, .slice sz 2 mz] 26)
    replace B := below_alloc B (.cells #[.int .i64 1, .int .i64 1, .int .i64 3, .int .i64 2, .slice sz 2 mz] 26)
    have z := QBox.fresh w21 1 1 3 2 sz 2 mz 26
    go_wp2_with fail
    generalize (w21.alloc (.cells #[.int .i64 1, .int .i64 1, .int .i64 3, .int .i64 2, .slice sz 2 mz] 26)) = V2 at lp p lk k lz z B ⊢
    have eP := fun (W : World) (h : Below V2.heap.size V2 W) => (p.below h).open
    have eK := fun (W : World) (h : Below V2.heap.size V2 W) => (k.below h).open
    have eZ := fun (W : World) (h : Below V2.heap.size V2 W) => (z.below h).open
    have eH := fun (W : World) (h : Below V2.heap.size V2 W) => And.intro (eP W h) (And.intro (eK W h) (eZ W h))
    simp only [and_assoc] at eH
    clear eP eK eZ
    go_region_held3 (fun w' => w'.cell? ⟨w1.heap.size, 0, none⟩ = some (.int .i64 3) ∧ w'.cell? ⟨w1.heap.size, 1, none⟩ = some (.int .i64 1) ∧ w'.cell? ⟨w1.heap.size, 2, none⟩ = some (.int .i64 5) ∧ w'.cell? ⟨w1.heap.size, 3, none⟩ = some (.int .i64 3) ∧ w'.cell? ⟨w1.heap.size, 4, none⟩ = some (.slice (some ⟨w.heap.size, 0, none⟩) 4 4) ∧ w'.cell? ⟨w13.heap.size, 0, none⟩ = some (.int .i64 3) ∧ w'.cell? ⟨w13.heap.size, 1, none⟩ = some (.int .i64 1) ∧ w'.cell? ⟨w13.heap.size, 2, none⟩ = some (.int .i64 5) ∧ w'.cell? ⟨w13.heap.size, 3, none⟩ = some (.int .i64 3) ∧ w'.cell? ⟨w13.heap.size, 4, none⟩ = some (.slice sk 4 mk) ∧ w'.cell? ⟨w21.heap.size, 0, none⟩ = some (.int .i64 1) ∧ w'.cell? ⟨w21.heap.size, 1, none⟩ = some (.int .i64 1) ∧ w'.cell? ⟨w21.heap.size, 2, none⟩ = some (.int .i64 3) ∧ w'.cell? ⟨w21.heap.size, 3, none⟩ = some (.int .i64 2) ∧ w'.cell? ⟨w21.heap.size, 4, none⟩ = some (.slice sz 2 mz))
      (first | (with_reducible assumption) | with_reducible exact eH _ (by repeat (first | exact Below.refl _ _ | assumption | refine Below.drew ?_ | refine below_alloc ?_ _)) | fail)
      (first | (go_at_call 41; (with_reducible refine (ofh 1 1 3 2 [0, 0] 2 _ 2 _ (by first | (refine holds_new _ _ ?_ _ _ rfl; simp) | (refine HoldsI.drew ?_; refine holds_new _ _ ?_ _ _ rfl; simp) | (refine HoldsI.drew ?_; refine HoldsI.alloc ?_ _; refine holds_new _ _ ?_ _ _ rfl; simp) | (refine HoldsI.alloc ?_ _; refine holds_new _ _ ?_ _ _ rfl; simp))).mono ?_); rintro e x1 ⟨rfl, hb, hk⟩; have b1 : Below V2.heap.size V2 x1 := below_call (by repeat (first | exact Below.refl _ _ | assumption | refine Below.drew ?_ | refine below_alloc ?_ _)) hb) | (go_at_call 16; (with_reducible refine (ex_same0 _ _ _ _ _ (lz.call (by repeat (first | exact Below.refl _ _ | assumption | refine Below.drew ?_ | refine below_alloc ?_ _))) hk).mono ?_); rintro e x2 ⟨rfl, hb⟩; have b2 : Below V2.heap.size V2 x2 := below_call (by repeat (first | exact Below.refl _ _ | assumption | refine Below.drew ?_ | refine below_alloc ?_ _)) hb) | (go_at_call 35; (with_reducible refine (ex_same1 _ _ (lp.call (by repeat (first | exact Below.refl _ _ | assumption | refine Below.drew ?_ | refine below_alloc ?_ _)))).mono ?_); rintro e x3 ⟨rfl, hb⟩; have b3 : Below V2.heap.size V2 x3 := below_call (by repeat (first | exact Below.refl _ _ | assumption | refine Below.drew ?_ | refine below_alloc ?_ _)) hb) | (go_at_call 35; (with_reducible refine (ex_same2 _ _ _ _ (lp.call (by repeat (first | exact Below.refl _ _ | assumption | refine Below.drew ?_ | refine below_alloc ?_ _))) (lk.call (by repeat (first | exact Below.refl _ _ | assumption | refine Below.drew ?_ | refine below_alloc ?_ _)))).mono ?_); rintro e x4 ⟨rfl, hb⟩; have b4 : Below V2.heap.size V2 x4 := below_call (by repeat (first | exact Below.refl _ _ | assumption | refine Below.drew ?_ | refine below_alloc ?_ _)) hb))
    go_wp2
    go_ret
    exact ⟨rfl, below_call B b4⟩
end Go.Proofs.Ytamkipdalegioaa
