/-
  The examples of the chapter on rectangles hold: what a call of exampleHolds returns and leaves.
-/
import Derived.Test.YtaaljfpkfgjhpaaRectF
namespace Go.Proofs.Ytaaljfpkfgjhpaa
open Go.RowKit

theorem bound_n (a : Option Addr) (cap n : Nat) (l : List Pl.R) (w : World) (hn : n = l.length) (hl : l.length ≤ 140737488351232) (h : Holds w a l) :
    Calls Try.prog 32 #[.slice a n cap] w fun e w' => e = .returned (.agg #[.int .i64 (boundL l).x0, .int .i64 (boundL l).y0, .int .i64 (boundL l).x1, .int .i64 (boundL l).y1]) ∧ Below w.heap.size w w' := by
  subst hn; exact bound_c a cap l w hl h
theorem bound_rn (a : Option Addr) (cap n : Nat) (l : List Pl.R) (w : World) (hn : n = l.length) (hl : l.length ≤ 140737488351232) (h : Holds w a l) :
    Calls Try.prog 33 #[.slice a n cap] w fun e w' => e = .returned (.agg #[.int .i64 (boundL l).x0, .int .i64 (boundL l).y0, .int .i64 (boundL l).x1, .int .i64 (boundL l).y1]) ∧ Below w.heap.size w w' := by
  subst hn; exact bound_r a cap l w hl h
theorem same_n (a1 a2 : Option Addr) (c1 c2 n1 n2 : Nat) (l : List Pl.R) (w : World) (h1 : n1 = l.length) (h2 : n2 = l.length) (hl : l.length ≤ 140737488351232) (k1 : Holds w a1 l) (k2 : Holds w a2 l) :
    Calls Try.prog 36 #[.slice a1 n1 c1, .slice a2 n2 c2] w fun e w' => e = .returned (.bool true) ∧ Below w.heap.size w w' := by
  subst h1; subst h2; exact same_t a1 a2 c1 c2 l w hl k1 k2
/-- The example's rectangle and its list of cells, in memory. -/
structure Ex (w : World) (B1 : Nat) (a : Option Addr) (L : List Pl.R) (W : World) : Prop where
  below : Below w.heap.size w W
  box : Box W B1 ⟨3, 0, 8, 5⟩
  list : Holds W a L
  le : w.heap.size ≤ W.heap.size
theorem Ex.step {w W W1 : World} {B1 : Nat} {a : Option Addr} {L : List Pl.R} (h : Ex w B1 a L W) (hb : Below W.heap.size W W1) : Ex w B1 a L W1 :=
  ⟨bcall h.below hb h.le, h.box.below hb, h.list.below hb (Nat.le_refl _), Nat.le_trans h.le hb.size⟩
theorem Ex.alloc {w W : World} {B1 : Nat} {a : Option Addr} {L : List Pl.R} (h : Ex w B1 a L W) (o : Obj) : Ex w B1 a L (W.alloc o) := h.step ((Below.refl _ _).alloc (Nat.le_refl _) _)
theorem Ex.drew {w W : World} {B1 : Nat} {a : Option Addr} {L : List Pl.R} (h : Ex w B1 a L W) : Ex w B1 a L W.drew := h.step ((Below.refl _ _).drew)
theorem holds_new (w : World) (l : List Pl.R) (cs : Array Value) (t : TypeId) (h : cs.toList = Pl.flat l) : Holds (w.alloc (.cells cs t)) (some ⟨w.heap.size, 0, none⟩) l := by
  refine .inr ⟨w.heap.size, 0, rfl, fun k hk => ?_⟩
  obtain ⟨f0, f1, f2, f3⟩ := Pl.flat_at l k hk
  have e : ∀ i, (w.alloc (.cells cs t)).cell? ⟨w.heap.size, i, none⟩ = cs.toList[i]? := fun i => by simp
  rw [Nat.zero_add]
  exact ⟨by rw [e, h]; exact f0, by rw [e, h]; exact f1, by rw [e, h]; exact f2, by rw [e, h]; exact f3⟩
theorem ex_of {w W : World} {B1 : Nat} {a : Option Addr} {L : List Pl.R} (h : Ex w B1 a L W) : W.cell? ⟨B1, 0, none⟩ = some (.int .i64 3) ∧ W.cell? ⟨B1, 1, none⟩ = some (.int .i64 0) ∧ W.cell? ⟨B1, 2, none⟩ = some (.int .i64 8) ∧ W.cell? ⟨B1, 3, none⟩ = some (.int .i64 5) ∧ Ex w B1 a L W := by
  obtain ⟨c0, c1, c2, c3⟩ := h.box.open
  exact ⟨c0, c1, c2, c3, h⟩
theorem ex_step {w W W1 : World} {B1 : Nat} {a : Option Addr} {L : List Pl.R} (h : W.cell? ⟨B1, 0, none⟩ = some (.int .i64 3) ∧ W.cell? ⟨B1, 1, none⟩ = some (.int .i64 0) ∧ W.cell? ⟨B1, 2, none⟩ = some (.int .i64 8) ∧ W.cell? ⟨B1, 3, none⟩ = some (.int .i64 5) ∧ Ex w B1 a L W) (hb : Below W.heap.size W W1) : W1.cell? ⟨B1, 0, none⟩ = some (.int .i64 3) ∧ W1.cell? ⟨B1, 1, none⟩ = some (.int .i64 0) ∧ W1.cell? ⟨B1, 2, none⟩ = some (.int .i64 8) ∧ W1.cell? ⟨B1, 3, none⟩ = some (.int .i64 5) ∧ Ex w B1 a L W1 := ex_of (h.2.2.2.2.step hb)
theorem ex_alloc {w W : World} {B1 : Nat} {a : Option Addr} {L : List Pl.R} (o : Obj) (h : W.cell? ⟨B1, 0, none⟩ = some (.int .i64 3) ∧ W.cell? ⟨B1, 1, none⟩ = some (.int .i64 0) ∧ W.cell? ⟨B1, 2, none⟩ = some (.int .i64 8) ∧ W.cell? ⟨B1, 3, none⟩ = some (.int .i64 5) ∧ Ex w B1 a L W) : (W.alloc o).cell? ⟨B1, 0, none⟩ = some (.int .i64 3) ∧ (W.alloc o).cell? ⟨B1, 1, none⟩ = some (.int .i64 0) ∧ (W.alloc o).cell? ⟨B1, 2, none⟩ = some (.int .i64 8) ∧ (W.alloc o).cell? ⟨B1, 3, none⟩ = some (.int .i64 5) ∧ Ex w B1 a L (W.alloc o) := ex_of (h.2.2.2.2.alloc o)
theorem ex0 : Pl.cd (-7) 2 = -3 := by kernel_rfl
theorem ex1 : Pl.fd (-7) 2 = -4 := by kernel_rfl
theorem ex2 : Pl.validB 2 3 2 9 = true := by kernel_rfl
theorem ex3 : Pl.emptyB 2 3 2 9 = true := by kernel_rfl
theorem ex4 : Pl.validB 5 0 2 1 = false := by kernel_rfl
theorem ex5 : Pl.areaI 3 0 8 5 = 25 := by kernel_rfl
theorem ex6 : Pl.isec 0 0 4 4 2 1 9 3 = ⟨2, 1, 4, 3⟩ := by kernel_rfl
theorem ex7 : boundL [⟨3, 3, 4, 4⟩, ⟨7, 7, 7, 9⟩, ⟨1, 5, 2, 6⟩] = ⟨1, 3, 4, 6⟩ := by kernel_rfl
theorem ex8 : Pl.contB 3 0 8 5 9 9 9 9 = true := by kernel_rfl
theorem ex9 : Pl.redR 3 0 8 5 2 2 = ⟨2, 0, 4, 3⟩ := by kernel_rfl
theorem ex10 : Pl.hasB 3 0 8 5 3 4 = true := by kernel_rfl
theorem ex11 : Pl.cellsL 3 0 8 5 4 4 = [⟨3, 0, 4, 4⟩, ⟨4, 0, 8, 4⟩, ⟨3, 4, 4, 5⟩, ⟨4, 4, 8, 5⟩] := by kernel_rfl

set_option maxRecDepth 100000 in
set_option maxHeartbeats 4000000 in
theorem example_c (w : World) : Calls Try.prog 19 #[] w fun e w' => e = .returned (.bool true) ∧ Below w.heap.size w w' := by
  have heq := eqR
  have hself := Pl.eq_self
  have k0 := ex0
  have k1 := ex1
  have k2 := ex2
  have k3 := ex3
  have k4 := ex4
  have k5 := ex5
  have k6 := ex6
  have k7 := ex7
  have k8 := ex8
  have k9 := ex9
  have k10 := ex10
  have k11 := ex11
  go_enter Try.func19, Try.ntmps19
  go_wp2_with fail
  refine (of_c _ _ _ _ _).mono ?_
  rintro e w1 ⟨rfl, hb1⟩
  have hS : Ex w w1.heap.size none [] (w1.alloc (.cells #[.int .i64 3, .int .i64 0, .int .i64 8, .int .i64 5] 26)) := ⟨hb1.alloc hb1.size _, Box.fresh w1 3 0 8 5 26, .inl rfl, by have := hb1.size; simp; omega⟩
  clear hb1
  obtain ⟨c0, c1, c2, c3⟩ := hS.box.open
  go_wp2_with (first | (go_at_call 54; refine (of_c _ _ _ _ _).mono ?_; rintro e wn ⟨rfl, hb⟩; replace hS := hS.step hb; clear c0 c1 c2 c3 hb; obtain ⟨c0, c1, c2, c3⟩ := hS.box.open))
  have hS2 : Ex w w1.heap.size (some ⟨wn.heap.size, 0, none⟩) [⟨3, 0, 4, 4⟩, ⟨4, 0, 8, 4⟩, ⟨3, 4, 4, 5⟩, ⟨4, 4, 8, 5⟩] (wn.alloc (.cells #[.int .i64 3, .int .i64 0, .int .i64 4, .int .i64 4, .int .i64 4, .int .i64 0, .int .i64 8, .int .i64 4, .int .i64 3, .int .i64 4, .int .i64 4, .int .i64 5, .int .i64 4, .int .i64 4, .int .i64 8, .int .i64 5] 26)) := ⟨(hS.alloc _).below, (hS.alloc _).box, holds_new wn [⟨3, 0, 4, 4⟩, ⟨4, 0, 8, 4⟩, ⟨3, 4, 4, 5⟩, ⟨4, 4, 8, 5⟩] _ _ rfl, (hS.alloc _).le⟩
  clear hS c0 c1 c2 c3
  have hS := hS2
  clear hS2
  obtain ⟨c0, c1, c2, c3⟩ := hS.box.open
  obtain ⟨w2, rfl⟩ : ∃ w2 : World, w2 = wn := ⟨_, rfl⟩
  go_wp2_with (first | (go_at_call 54; refine (of_c _ _ _ _ _).mono ?_; rintro e wn ⟨rfl, hb⟩; replace hS := hS.step hb; clear c0 c1 c2 c3 hb; obtain ⟨c0, c1, c2, c3⟩ := hS.box.open) | (go_at_call 20; refine (valid_c _ _ _ _ _).mono ?_; rintro e wn ⟨rfl, hb⟩; replace hS := hS.step hb; clear c0 c1 c2 c3 hb; obtain ⟨c0, c1, c2, c3⟩ := hS.box.open) | (go_at_call 24; refine (empty_c _ _ _ _ _).mono ?_; rintro e wn ⟨rfl, hb⟩; replace hS := hS.step hb; clear c0 c1 c2 c3 hb; obtain ⟨c0, c1, c2, c3⟩ := hS.box.open) | (go_at_call 22; refine (area_c _ _ _ _ _).mono ?_; rintro e wn ⟨rfl, hb⟩; replace hS := hS.step hb; clear c0 c1 c2 c3 hb; obtain ⟨c0, c1, c2, c3⟩ := hS.box.open) | (go_at_call 34; refine (red_c _ _ _ _ _ _ _).mono ?_; rintro e wn ⟨rfl, hb⟩; replace hS := hS.step hb; clear c0 c1 c2 c3 hb; obtain ⟨c0, c1, c2, c3⟩ := hS.box.open) | (go_at_call 26; refine (has_c _ _ _ _ _ _ _).mono ?_; rintro e wn ⟨rfl, hb⟩; replace hS := hS.step hb; clear c0 c1 c2 c3 hb; obtain ⟨c0, c1, c2, c3⟩ := hS.box.open) | (go_at_call 15; refine (cd_c _ _ _ (by omega) (by omega)).mono ?_; rintro e wn ⟨rfl, rfl⟩) | (go_at_call 17; refine (fd_c _ _ _ (by omega) (by omega)).mono ?_; rintro e wn ⟨rfl, rfl⟩))
  go_region_held3 (fun w' => w'.cell? ⟨w1.heap.size, 0, none⟩ = some (.int .i64 3) ∧ w'.cell? ⟨w1.heap.size, 1, none⟩ = some (.int .i64 0) ∧ w'.cell? ⟨w1.heap.size, 2, none⟩ = some (.int .i64 8) ∧ w'.cell? ⟨w1.heap.size, 3, none⟩ = some (.int .i64 5) ∧ Ex w w1.heap.size (some ⟨w2.heap.size, 0, none⟩) [⟨3, 0, 4, 4⟩, ⟨4, 0, 8, 4⟩, ⟨3, 4, 4, 5⟩, ⟨4, 4, 8, 5⟩] w')
    (first | assumption | exact ex_of hS.drew | exact ex_alloc _ (by assumption))
    (first | (go_at_call 54; (with_reducible refine (of_c _ _ _ _ _).mono ?_); rintro e wn ⟨rfl, hb⟩; have hS9 := ex_step (by assumption) hb) | (go_at_call 30; (with_reducible refine (isec_c _ _ _ _ _ _ _ _ _).mono ?_); rintro e wn ⟨rfl, hb⟩; have hS9 := ex_step (by assumption) hb) | (go_at_call 28; (with_reducible refine (cont_c _ _ _ _ _ _ _ _ _).mono ?_); rintro e wn ⟨rfl, hb⟩; have hS9 := ex_step (by assumption) hb) | (go_at_call 32; (refine (bound_n _ _ 3 [⟨3, 3, 4, 4⟩, ⟨7, 7, 7, 9⟩, ⟨1, 5, 2, 6⟩] _ rfl (by simp) (holds_new _ [⟨3, 3, 4, 4⟩, ⟨7, 7, 7, 9⟩, ⟨1, 5, 2, 6⟩] _ _ rfl)).mono ?_); rintro e wn ⟨rfl, hb⟩; have hS9 := ex_step (ex_alloc _ (by assumption)) hb))
  clear hS c0 c1 c2 c3
  obtain ⟨c0, c1, c2, c3, hS⟩ := (by assumption : wn.cell? ⟨w1.heap.size, 0, none⟩ = some (.int .i64 3) ∧ wn.cell? ⟨w1.heap.size, 1, none⟩ = some (.int .i64 0) ∧ wn.cell? ⟨w1.heap.size, 2, none⟩ = some (.int .i64 8) ∧ wn.cell? ⟨w1.heap.size, 3, none⟩ = some (.int .i64 5) ∧ Ex w w1.heap.size (some ⟨w2.heap.size, 0, none⟩) [⟨3, 0, 4, 4⟩, ⟨4, 0, 8, 4⟩, ⟨3, 4, 4, 5⟩, ⟨4, 4, 8, 5⟩] wn)
  go_wp2_with (first | (go_at_call 54; refine (of_c _ _ _ _ _).mono ?_; rintro e wn ⟨rfl, hb⟩; replace hS := hS.step hb; clear c0 c1 c2 c3 hb; obtain ⟨c0, c1, c2, c3⟩ := hS.box.open) | (go_at_call 34; refine (red_c _ _ _ _ _ _ _).mono ?_; rintro e wn ⟨rfl, hb⟩; replace hS := hS.step hb; clear c0 c1 c2 c3 hb; obtain ⟨c0, c1, c2, c3⟩ := hS.box.open) | (go_at_call 26; refine (has_c _ _ _ _ _ _ _).mono ?_; rintro e wn ⟨rfl, hb⟩; replace hS := hS.step hb; clear c0 c1 c2 c3 hb; obtain ⟨c0, c1, c2, c3⟩ := hS.box.open) | (go_at_call 37; refine (cells_c _ _ _ _ _ _ _ (by omega) (by omega)).mono ?_; rintro e wn ⟨a', c', rfl, hH, hb⟩; rw [k11] at hH; replace hS := hS.step hb; clear c0 c1 c2 c3 hb; obtain ⟨c0, c1, c2, c3⟩ := hS.box.open) | (go_at_call 36; refine (same_n _ _ _ _ _ _ [⟨3, 0, 4, 4⟩, ⟨4, 0, 8, 4⟩, ⟨3, 4, 4, 5⟩, ⟨4, 4, 8, 5⟩] _ rfl rfl (by simp) hH hS.list).mono ?_; rintro e wn ⟨rfl, hb⟩; clear hH; replace hS := hS.step hb; clear c0 c1 c2 c3 hb; obtain ⟨c0, c1, c2, c3⟩ := hS.box.open))
  go_ret
  exact ⟨rfl, hS.below⟩
end Go.Proofs.Ytaaljfpkfgjhpaa
