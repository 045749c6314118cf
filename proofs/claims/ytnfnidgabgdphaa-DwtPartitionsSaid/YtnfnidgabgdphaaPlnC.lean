/-
  What each call of New, of slices.Min and slices.Max, of Limits returns and leaves: contracts.
-/
import Derived.Test.YtnfnidgabgdphaaPlnB
import Derived.Deep.RegionHeld3
import Derived.Deep.OwnRows
set_option maxRecDepth 100000
namespace Go.Proofs.Ytnfnidgabgdphaa
open Go.RowKit

theorem infoI : (Try.prog.info? 3).map (fun i => (i.zero, i.size, i.bytes)) = some (some (.int .i64 0), 1, 8) := by kernel_rfl
/-- The call returns a plane and an error's number; the plane's slice holds l; old memory is as it was. -/
def GivesPlane (r : Pl.R) (l : List Int) (err : Int) (w : World) (e : Ending) (w' : World) : Prop :=
  ∃ s m, e = .returned (.tuple #[.agg #[.int .i64 r.x0, .int .i64 r.y0, .int .i64 r.x1, .int .i64 r.y1, .slice s l.length m], .int .i64 err]) ∧ HoldsI w' s l ∧ Below w.heap.size w w' ∧ l.length ≤ m
/-- A new row of zeros. -/
theorem holds_made (w : World) (n : Nat) : HoldsI (w.alloc (.cells (madeCells #[.int .i64 0] n) 3)) (some ⟨w.heap.size, 0, none⟩) (List.replicate n 0) := by
  refine .inr ⟨w.heap.size, 0, rfl, fun k hk => ?_⟩
  have hk' : k < n := by simpa using hk
  have e : (w.alloc (.cells (madeCells #[.int .i64 0] n) 3)).cell? ⟨w.heap.size, 0 + k, none⟩ = (madeCells #[.int .i64 0] n).toList[k]? := by simp
  rw [e]
  simp [madeCells, hk', Nat.mod_one]
theorem holdsI_far {w : World} {b off : Nat} {l : List Int} (h : HoldsI w (some ⟨b, off, none⟩) l) (a : Addr) (v : Value) (hn : b ≠ a.block) : HoldsI (w.setCell a v) (some ⟨b, off, none⟩) l := by
  rcases h with h | ⟨b', off', e, hr⟩
  · exact .inl h
  · simp at e
    obtain ⟨rfl, rfl⟩ := e
    exact .inr ⟨b, off, rfl, fun k hk => cell_far v (hr k hk) hn⟩
set_option maxRecDepth 100000 in
set_option maxHeartbeats 1000000 in
theorem new_no1 (a b c d : Int) (w : World) (hv : Pl.validB a b c d = false) :
    Calls Try.prog 66 #[.agg #[.int .i64 a, .int .i64 b, .int .i64 c, .int .i64 d]] w (GivesPlane ⟨0, 0, 0, 0⟩ [] 2 w) := by
  have x0 := (Box.fresh w a b c d 23).alloc #[.int .i64 0, .int .i64 0, .int .i64 0, .int .i64 0, .slice none 0 0] 30
  have y0 := QBox.freshAt (w.alloc (.cells #[.int .i64 a, .int .i64 b, .int .i64 c, .int .i64 d] 23)) (w.heap.size + 1) (by simp) 0 0 0 0 none 0 0 30
  have B0 : Below w.heap.size w ((w.alloc (.cells #[.int .i64 a, .int .i64 b, .int .i64 c, .int .i64 d] 23)).alloc (.cells #[.int .i64 0, .int .i64 0, .int .i64 0, .int .i64 0, .slice none 0 0] 30)) := ((Below.refl _ _).alloc (Nat.le_refl _) _).alloc (by simp) _
  go_enter Try.func66, Try.ntmps66
  go_wp2_with fail
  refine (valid_c _ _ _ _ _).mono ?_
  rintro e w1 ⟨rfl, hb1⟩
  have x1 := x0.below hb1
  have y1 := y0.below hb1
  have B1 : Below w.heap.size w w1 := bcall B0 hb1 (by simp; omega)
  clear hb1 x0 y0 B0
  obtain ⟨c0, c1, c2, c3⟩ := x1.open
  obtain ⟨d0, d1, d2, d3, d4⟩ := y1.open
  have g1 := y1.free
  go_wp2
  refine bodyPost_ret (v := .tuple #[.agg #[.int .i64 0, .int .i64 0, .int .i64 0, .int .i64 0, .slice none 0 0], .int .i64 2]) ?_ rfl ?_
  · simp [results, Try.results66, go_sem, d0, d1, d2, d3, d4]
  · exact ⟨none, 0, rfl, .inl rfl, (((((B1.setCell (by simp) _).setCell (by simp) _).setCell (by simp) _).setCell (by simp) _).setCell (by simp) _), Nat.le_refl _⟩
set_option maxRecDepth 100000 in
set_option maxHeartbeats 1000000 in
theorem new_no2 (a b c d : Int) (w : World) (hv : Pl.validB a b c d = true) (ha : 1048576 < Pl.areaI a b c d) :
    Calls Try.prog 66 #[.agg #[.int .i64 a, .int .i64 b, .int .i64 c, .int .i64 d]] w (GivesPlane ⟨0, 0, 0, 0⟩ [] 5 w) := by
  have x0 := (Box.fresh w a b c d 23).alloc #[.int .i64 0, .int .i64 0, .int .i64 0, .int .i64 0, .slice none 0 0] 30
  have y0 := QBox.freshAt (w.alloc (.cells #[.int .i64 a, .int .i64 b, .int .i64 c, .int .i64 d] 23)) (w.heap.size + 1) (by simp) 0 0 0 0 none 0 0 30
  have B0 : Below w.heap.size w ((w.alloc (.cells #[.int .i64 a, .int .i64 b, .int .i64 c, .int .i64 d] 23)).alloc (.cells #[.int .i64 0, .int .i64 0, .int .i64 0, .int .i64 0, .slice none 0 0] 30)) := ((Below.refl _ _).alloc (Nat.le_refl _) _).alloc (by simp) _
  go_enter Try.func66, Try.ntmps66
  go_wp2_with fail
  refine (valid_c _ _ _ _ _).mono ?_
  rintro e w1 ⟨rfl, hb1⟩
  have x1 := x0.below hb1
  have y1 := y0.below hb1
  have B1 : Below w.heap.size w w1 := bcall B0 hb1 (by simp; omega)
  clear hb1 x0 y0 B0
  obtain ⟨c0, c1, c2, c3⟩ := x1.open
  obtain ⟨d0, d1, d2, d3, d4⟩ := y1.open
  have g1 := y1.free
  go_wp2_with fail
  refine (area_c _ _ _ _ _).mono ?_
  rintro e w2 ⟨rfl, hb2⟩
  have x2 := x1.below hb2
  have y2 := y1.below hb2
  have B2 : Below w.heap.size w w2 := bcall B1 hb2 (by have := x1.lt; omega)
  clear hb2 x1 y1 B1 c0 c1 c2 c3 d0 d1 d2 d3 d4 g1
  obtain ⟨c0, c1, c2, c3⟩ := x2.open
  obtain ⟨d0, d1, d2, d3, d4⟩ := y2.open
  have g1 := y2.free
  go_wp2
  refine bodyPost_ret (v := .tuple #[.agg #[.int .i64 0, .int .i64 0, .int .i64 0, .int .i64 0, .slice none 0 0], .int .i64 5]) ?_ rfl ?_
  · simp [results, Try.results66, go_sem, d0, d1, d2, d3, d4]
  · exact ⟨none, 0, rfl, .inl rfl, (((((B2.setCell (by simp) _).setCell (by simp) _).setCell (by simp) _).setCell (by simp) _).setCell (by simp) _), Nat.le_refl _⟩
set_option maxRecDepth 100000 in
set_option maxHeartbeats 1000000 in
theorem new_yes (a b c d : Int) (w : World) (hv : Pl.validB a b c d = true) (ha : Pl.areaI a b c d ≤ 1048576) :
    Calls Try.prog 66 #[.agg #[.int .i64 a, .int .i64 b, .int .i64 c, .int .i64 d]] w (GivesPlane ⟨a, b, c, d⟩ (List.replicate (Pl.areaI a b c d).toNat 0) 0 w) := by
  have hpos : 0 ≤ Pl.areaI a b c d := by rw [Pl.areaI, if_pos hv]; exact (Pl.area_bd hv).1
  obtain ⟨C, hC⟩ : ∃ C : Nat, Pl.areaI a b c d = (C : Int) := ⟨(Pl.areaI a b c d).toNat, by omega⟩
  rw [hC] at ha hpos
  have hCt : (Pl.areaI a b c d).toNat = C := by omega
  rw [hCt]
  have hCle : C ≤ 1048576 := by omega
  clear hCt
  have hmk := fun (W : World) => run_make_row' (P := Try.prog) 28 3 (.int .i64 0) 8 Try.underlying28 infoI rfl .i64 .i64 C (by omega) (by omega) W
  have x0 := (Box.fresh w a b c d 23).alloc #[.int .i64 0, .int .i64 0, .int .i64 0, .int .i64 0, .slice none 0 0] 30
  have y0 := QBox.freshAt (w.alloc (.cells #[.int .i64 a, .int .i64 b, .int .i64 c, .int .i64 d] 23)) (w.heap.size + 1) (by simp) 0 0 0 0 none 0 0 30
  have B0 : Below w.heap.size w ((w.alloc (.cells #[.int .i64 a, .int .i64 b, .int .i64 c, .int .i64 d] 23)).alloc (.cells #[.int .i64 0, .int .i64 0, .int .i64 0, .int .i64 0, .slice none 0 0] 30)) := ((Below.refl _ _).alloc (Nat.le_refl _) _).alloc (by simp) _
  go_enter Try.func66, Try.ntmps66
  go_wp2_with fail
  refine (valid_c _ _ _ _ _).mono ?_
  rintro e w1 ⟨rfl, hb1⟩
  have x1 := x0.below hb1
  have y1 := y0.below hb1
  have B1 : Below w.heap.size w w1 := bcall B0 hb1 (by simp; omega)
  clear hb1 x0 y0 B0
  obtain ⟨c0, c1, c2, c3⟩ := x1.open
  obtain ⟨d0, d1, d2, d3, d4⟩ := y1.open
  have g1 := y1.free
  go_wp2_with fail
  refine (area_c _ _ _ _ _).mono ?_
  rintro e w2 ⟨rfl, hb2⟩
  have x2 := x1.below hb2
  have y2 := y1.below hb2
  have B2 : Below w.heap.size w w2 := bcall B1 hb2 (by have := x1.lt; omega)
  clear hb2 x1 y1 B1 c0 c1 c2 c3 d0 d1 d2 d3 d4 g1
  obtain ⟨c0, c1, c2, c3⟩ := x2.open
  obtain ⟨d0, d1, d2, d3, d4⟩ := y2.open
  have g1 := y2.free
  go_wp2_with fail
  go_region_held3 (fun w' => w'.cell? ⟨w.heap.size, 0, none⟩ = some (.int .i64 a) ∧ w'.cell? ⟨w.heap.size, 1, none⟩ = some (.int .i64 b) ∧ w'.cell? ⟨w.heap.size, 2, none⟩ = some (.int .i64 c) ∧ w'.cell? ⟨w.heap.size, 3, none⟩ = some (.int .i64 d))
    (first | (with_reducible assumption) | (simp [c0, c1, c2, c3]; done) | (simp [World.cell?_alloc_some, World.cell?_setCell_far, k0, k1, k2, k3]; done))
    (first | (go_at_call 28; (with_reducible refine (area_c _ _ _ _ _).mono ?_); rintro e w3 ⟨rfl, hb3⟩; have y3 := y2.drew.below hb3; have x3 := x2.drew.below hb3; have B3 : Below w.heap.size w w3 := bcall B2.drew hb3 (by have := x2.lt; simp; omega); obtain ⟨k0, k1, k2, k3⟩ := x3.open; obtain ⟨e0, e1, e2, e3, e4⟩ := y3.open; have g3 := y3.free; have z3 := y3.lt; clear hb3))
  go_wp2
  refine bodyPost_ret (v := .tuple #[.agg #[.int .i64 a, .int .i64 b, .int .i64 c, .int .i64 d, .slice (some ⟨w3.heap.size, 0, none⟩) C C], .int .i64 0]) ?_ rfl ?_
  · obtain ⟨q0, q1, q2, q3, q4⟩ := ((y3.store a b c d (.slice (some ⟨w3.heap.size, 0, none⟩) C C)).alloc (.cells (madeCells #[.int .i64 0] C) 3)).open
    simp [results, Try.results66, go_sem, q0, q1, q2, q3, q4]
  · have hm := holds_made (((((w3.setCell ⟨w.heap.size + 1, 0, none⟩ (.int .i64 a)).setCell ⟨w.heap.size + 1, 1, none⟩ (.int .i64 b)).setCell ⟨w.heap.size + 1, 2, none⟩ (.int .i64 c)).setCell ⟨w.heap.size + 1, 3, none⟩ (.int .i64 d)).setCell ⟨w.heap.size + 1, 4, none⟩ (.slice (some ⟨w3.heap.size, 0, none⟩) C C)) C
    simp only [World.size_setCell] at hm
    exact ⟨some ⟨w3.heap.size, 0, none⟩, C, by simp, hm, (below5 B3 (by omega) _ _ _ _ _).alloc (by simp; omega) _, by simp⟩
end Go.Proofs.Ytnfnidgabgdphaa
