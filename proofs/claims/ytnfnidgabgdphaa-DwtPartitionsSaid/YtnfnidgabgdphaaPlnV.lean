/-
  New, Row and Column of the code return memory of the call's own.
-/
import Derived.Test.YtnfnidgabgdphaaPlnF
set_option maxRecDepth 100000
namespace Go.Proofs.Ytnfnidgabgdphaa
open Go.RowKit

/-- The call returns integers in a block of its own. -/
def OwnInts (L : List Int) (w : World) (e : Ending) (w' : World) : Prop :=
  ∃ g, e = .returned (.tuple #[.slice (some ⟨g, 0, none⟩) L.length L.length, .bool true]) ∧ w.heap.size ≤ g ∧ RowAt w' g L ∧ Below w.heap.size w w'
/-- The call returns a plane whose samples lie in a block of its own. -/
def OwnPlane (r : Pl.R) (L : List Int) (err : Int) (w : World) (e : Ending) (w' : World) : Prop :=
  ∃ g, e = .returned (.tuple #[.agg #[.int .i64 r.x0, .int .i64 r.y0, .int .i64 r.x1, .int .i64 r.y1, .slice (some ⟨g, 0, none⟩) L.length L.length], .int .i64 err]) ∧ w.heap.size ≤ g ∧ RowAt w' g L ∧ Below w.heap.size w w'
set_option maxRecDepth 100000 in
set_option maxHeartbeats 1000000 in
theorem new_own (a b c d : Int) (w : World) (hv : Pl.validB a b c d = true) (ha : Pl.areaI a b c d ≤ 1048576) :
    Calls Try.prog 66 #[.agg #[.int .i64 a, .int .i64 b, .int .i64 c, .int .i64 d]] w (OwnPlane ⟨a, b, c, d⟩ (List.replicate (Pl.areaI a b c d).toNat 0) 0 w) := by
  have hpos : 0 ≤ Pl.areaI a b c d := by rw [Pl.areaI, if_pos hv]; exact (Pl.area_bd hv).1
  obtain ⟨C, hC⟩ : ∃ C : Nat, Pl.areaI a b c d = (C : Int) := ⟨(Pl.areaI a b c d).toNat, by omega⟩
  rw [hC] at ha hpos
  have hCt : (Pl.areaI a b c d).toNat = C := by omega
  rw [hCt]
  have hCle : C ≤ 1048576 := by omega
  clear hCt
  have hmk := fun (W : World) => run_make_row' (P := Try.prog) 28 3 (.int .i64 0) 8 Try.underlying28 infoI rfl .i64 .i64 C (by omega) (by omega) W
  have x0 := (Box.fresh w a b c d 23).alloc #[.int .i64 0, .int .i64 0, .int .i64 0, .int .i64 0, .slice none 0 0] 30
  have y0 := QBox.freshAt (w.alloc (.cells #[.int .i64 a, .int .i64 b, .int .i64 c, .int .i64 d] 23)) (w.heap.size + 1) (by simp) 0 0 0 0 none 0 0 30
  have B0 : Below w.heap.size w ((w.alloc (.cells #[.int .i64 a, .int .i64 b, .int .i64 c, .int .i64 d] 23)).alloc (.cells #[.int .i64 0, .int .i64 0, .int .i64 0, .int .i64 0, .slice none 0 0] 30)) := ((Below.refl _ _).alloc (Nat.le_refl _) _).alloc (by simp) _
  go_enter Try.func66, Try.ntmps66
  go_wp2_with fail
  refine (valid_c _ _ _ _ _).mono ?_
  rintro e w1 ⟨rfl, hb1⟩
  have x1 := x0.below hb1
  have y1 := y0.below hb1
  have B1 : Below w.heap.size w w1 := bcall B0 hb1 (by simp; omega)
  clear hb1 x0 y0 B0
  obtain ⟨c0, c1, c2, c3⟩ := x1.open
  obtain ⟨d0, d1, d2, d3, d4⟩ := y1.open
  have g1 := y1.free
  go_wp2_with fail
  refine (area_c _ _ _ _ _).mono ?_
  rintro e w2 ⟨rfl, hb2⟩
  have x2 := x1.below hb2
  have y2 := y1.below hb2
  have B2 : Below w.heap.size w w2 := bcall B1 hb2 (by have := x1.lt; omega)
  clear hb2 x1 y1 B1 c0 c1 c2 c3 d0 d1 d2 d3 d4 g1
  obtain ⟨c0, c1, c2, c3⟩ := x2.open
  obtain ⟨d0, d1, d2, d3, d4⟩ := y2.open
  have g1 := y2.free
  go_wp2_with fail
  go_region_held3 (fun w' => w'.cell? ⟨w.heap.size, 0, none⟩ = some (.int .i64 a) ∧ w'.cell? ⟨w.heap.size, 1, none⟩ = some (.int .i64 b) ∧ w'.cell? ⟨w.heap.size, 2, none⟩ = some (.int .i64 c) ∧ w'.cell? ⟨w.heap.size, 3, none⟩ = some (.int .i64 d))
    (first | (with_reducible assumption) | (simp [c0, c1, c2, c3]; done) | (simp [World.cell?_alloc_some, World.cell?_setCell_far, k0, k1, k2, k3]; done))
    (first | (go_at_call 28; (with_reducible refine (area_c _ _ _ _ _).mono ?_); rintro e w3 ⟨rfl, hb3⟩; have y3 := y2.drew.below hb3; have x3 := x2.drew.below hb3; have B3 : Below w.heap.size w w3 := bcall B2.drew hb3 (by have := x2.lt; simp; omega); obtain ⟨k0, k1, k2, k3⟩ := x3.open; obtain ⟨e0, e1, e2, e3, e4⟩ := y3.open; have g3 := y3.free; have z3 := y3.lt; clear hb3))
  go_wp2
  refine bodyPost_ret (v := .tuple #[.agg #[.int .i64 a, .int .i64 b, .int .i64 c, .int .i64 d, .slice (some ⟨w3.heap.size, 0, none⟩) C C], .int .i64 0]) ?_ rfl ?_
  · obtain ⟨q0, q1, q2, q3, q4⟩ := ((y3.store a b c d (.slice (some ⟨w3.heap.size, 0, none⟩) C C)).alloc (.cells (madeCells #[.int .i64 0] C) 3)).open
    simp [results, Try.results66, go_sem, q0, q1, q2, q3, q4]
  · have hm := rowAt_made (((((w3.setCell ⟨w.heap.size + 1, 0, none⟩ (.int .i64 a)).setCell ⟨w.heap.size + 1, 1, none⟩ (.int .i64 b)).setCell ⟨w.heap.size + 1, 2, none⟩ (.int .i64 c)).setCell ⟨w.heap.size + 1, 3, none⟩ (.int .i64 d)).setCell ⟨w.heap.size + 1, 4, none⟩ (.slice (some ⟨w3.heap.size, 0, none⟩) C C)) C
    simp only [World.size_setCell] at hm
    exact ⟨w3.heap.size, by simp, by have := B3.size; omega, hm, (below5 B3 (by omega) _ _ _ _ _).alloc (by simp; omega) _⟩
set_option maxRecDepth 100000 in
set_option maxHeartbeats 1000000 in
theorem row_own1 (a b c d y : Int) (s : Option Addr) (m : Nat) (l : List Int) (w : World) (hp : pvB a b c d l.length = true) (h1 : b ≤ y) (h2 : y < d) (hw : a < c) (hm : l.length ≤ m) (hH : HoldsI w s l) :
    Calls Try.prog 117 #[.agg #[.int .i64 a, .int .i64 b, .int .i64 c, .int .i64 d, .slice s l.length m], .int .i64 y] w (OwnInts (rowL ⟨a, b, c, d⟩ l y) w) := by
  obtain ⟨hv, har, hn⟩ := pv_iff.1 hp
  obtain ⟨v1, v2, v3, v4, v5, v6⟩ := Pl.valid_iff.1 hv
  obtain ⟨hrl, hle⟩ := rowL_drop hp h1 h2
  obtain ⟨_, _, p2, p3⟩ := idx_bd hv (Int.le_refl a) v2 h1 (show y ≤ d by omega)
  obtain ⟨C, hC⟩ : ∃ C : Nat, c - a = (C : Int) := ⟨(c - a).toNat, by omega⟩
  have hCt : (c - a).toNat = C := by omega
  have hC4 : C ≤ 4096 := by omega
  rw [hCt] at hrl hle
  obtain ⟨k, hk⟩ : ∃ k : Nat, idx a b c a y = (k : Int) := ⟨(idx a b c a y).toNat, by omega⟩
  have hkt : (idx a b c a y).toNat = k := by omega
  rw [hkt] at hrl hle
  have hkl : k < l.length := by omega
  have hki : (k : Int) < (l.length : Int) := by omega
  have hki' : (k : Int) ≤ (l.length : Int) := by omega
  have hkm : ¬ k = m := by omega
  have hkm2 : ¬ m = k := by omega
  have hkm' : (k : Int) ≤ (m : Int) := by omega
  rcases hH with rfl | ⟨bb, off, rfl, hr⟩
  · simp at hkl
  have hH : HoldsI w (some ⟨bb, off, none⟩) l := .inr ⟨bb, off, rfl, hr⟩
  have hblt : bb < w.heap.size := cell_lt (hr k hkl)
  have hmk := fun (W : World) => run_make_row' (P := Try.prog) 28 3 (.int .i64 0) 8 Try.underlying28 infoI rfl .i64 .i64 C (by omega) (by omega) W
  have hd : ¬ y < b := by omega
  have HL : Hid _ := hrl
  have HM : Hid _ := hle
  clear hrl hle hn har p2 p3
  go_enter Try.func117, Try.ntmps117
  go_wp2_with fail
  refine (pv_c _ _ _ _ _ _ _ _).mono ?_
  rintro e w1 ⟨rfl, hb1⟩
  have hS1 := (Q1.fresh a b c d (some ⟨bb, off, none⟩) l.length m w).step hb1
  obtain ⟨c0, c1, c2, c3, c4⟩ := hS1.q.open
  go_wp2_with fail
  refine (width_c _ _ _ _ _ _ _ _ hv).mono ?_
  rintro e w2 ⟨rfl, hb2⟩
  have hS2 := hS1.step hb2
  clear c0 c1 c2 c3 c4 hb1 hb2 hS1
  obtain ⟨c0, c1, c2, c3, c4⟩ := hS2.q.open
  go_wp2_with fail
  have r0 : RowAt (w2.alloc (.cells (madeCells #[.int .i64 0] C) 3)) w2.heap.size (List.replicate C 0) := rowAt_made _ _
  have q0 := hS2.q.alloc (.cells (madeCells #[.int .i64 0] C) 3)
  have B0 : Below w.heap.size w (w2.alloc (.cells (madeCells #[.int .i64 0] C) 3)) := hS2.below.alloc (by have := hS2.q.lt; omega) _
  have hlt2 := hS2.q.lt
  clear hS2
  go_region_held3 (fun w' => w'.cell? ⟨w.heap.size, 0, none⟩ = some (.int .i64 a) ∧ w'.cell? ⟨w.heap.size, 1, none⟩ = some (.int .i64 b) ∧ w'.cell? ⟨w.heap.size, 2, none⟩ = some (.int .i64 c) ∧ w'.cell? ⟨w.heap.size, 3, none⟩ = some (.int .i64 d) ∧ w'.cell? ⟨w.heap.size, 4, none⟩ = some (.slice (some ⟨bb, off, none⟩) l.length m))
    (first | (with_reducible assumption) | exact q0.drew.open | exact q3.open | exact q4.open)
    (first | (go_at_call 109; (with_reducible refine (index_c _ _ _ _ _ _ _ _ _ _ hv (by omega) (by omega) (by omega) (by omega)).mono ?_); rintro e w3 ⟨rfl, hb3⟩; have q3 := q0.drew.below hb3; have r3 := r0.drew.below hb3; have B3 : Below w.heap.size w w3 := bcall B0.drew hb3 (by simp; omega); clear hb3)
            | ((refine step_copy_splice rfl (.tmp 27) (.tmp 36) 28 28 rfl 3 Try.underlying28 szI _ _ _ _ _ _ rfl rfl w2.heap.size 0 ((List.replicate C 0).map (Value.int .i64)) 3 r3 ((rowL ⟨a, b, c, d⟩ l y).map (Value.int .i64)) (by have := HM.out; rw [List.length_map, rowL_len]; show (c - a).toNat = min _ C; omega) (fun _ => ⟨rfl, ⟨bb, off + k, none⟩, rfl, by rw [HL.out]; exact holdsI_part (hH.below (B := w.heap.size) B3 (Nat.le_refl _)) k C HM.out⟩) (by rw [List.length_map, rowL_len]; simp; omega) (oneI _) w2.heap.size w3 (Below.refl _ _) (Nat.le_refl _) ?_); intro w4 hg4 hb4; have q4 := q3.belowAt hb4 hlt2; have r4 := hg4.out; have B4 : Below w.heap.size w w4 := B3.trans (hb4.mono (by omega))))
  have r5 : RowAt w4 w2.heap.size (rowL ⟨a, b, c, d⟩ l y) := by
    rw [splice_map, splice_all _ _ (by rw [rowL_len, List.length_replicate]; exact hCt)] at r4
    exact r4
  have HR : Hid (RowAt w4 w2.heap.size (rowL ⟨a, b, c, d⟩ l y)) := r5
  clear r4 hg4 r5
  go_wp2
  go_ret2
  exact ⟨w2.heap.size, by rw [rowL_len]; simp only [hCt]; rfl, Nat.le_of_lt hlt2, HR.out, B4⟩
set_option maxRecDepth 100000 in
set_option maxHeartbeats 1000000 in
theorem row_own0 (a b c d y : Int) (s : Option Addr) (m : Nat) (l : List Int) (w : World) (hp : pvB a b c d l.length = true) (h1 : b ≤ y) (h2 : y < d) (hw : c ≤ a) (_hm : l.length ≤ m) (_hH : HoldsI w s l) :
    Calls Try.prog 117 #[.agg #[.int .i64 a, .int .i64 b, .int .i64 c, .int .i64 d, .slice s l.length m], .int .i64 y] w (OwnInts (rowL ⟨a, b, c, d⟩ l y) w) := by
  obtain ⟨hv, har, hn⟩ := pv_iff.1 hp
  obtain ⟨v1, v2, v3, v4, v5, v6⟩ := Pl.valid_iff.1 hv
  obtain ⟨hrl, hle⟩ := rowL_drop hp h1 h2
  obtain ⟨_, _, p2, p3⟩ := idx_bd hv (Int.le_refl a) v2 h1 (show y ≤ d by omega)
  obtain ⟨C, hC⟩ : ∃ C : Nat, c - a = (C : Int) := ⟨(c - a).toNat, by omega⟩
  have hCt : (c - a).toNat = C := by omega
  have hC4 : C ≤ 4096 := by omega
  rw [hCt] at hrl hle
  have hi0 : idx a b c a y = 0 := by unfold idx; rw [show c - a = 0 by omega]; simp
  have hm0 : (0 : Int) ≤ (m : Int) := by omega
  have h00 : (0 : Int) ≤ (l.length : Int) := by omega
  have hmk := fun (W : World) => run_make_row' (P := Try.prog) 28 3 (.int .i64 0) 8 Try.underlying28 infoI rfl .i64 .i64 C (by omega) (by omega) W
  have hd : ¬ y < b := by omega
  have HL : Hid _ := hrl
  have HM : Hid _ := hle
  clear hrl hle hn har p2 p3
  go_enter Try.func117, Try.ntmps117
  go_wp2_with fail
  refine (pv_c _ _ _ _ _ _ _ _).mono ?_
  rintro e w1 ⟨rfl, hb1⟩
  have hS1 := (Q1.fresh a b c d s l.length m w).step hb1
  obtain ⟨c0, c1, c2, c3, c4⟩ := hS1.q.open
  go_wp2_with fail
  refine (width_c _ _ _ _ _ _ _ _ hv).mono ?_
  rintro e w2 ⟨rfl, hb2⟩
  have hS2 := hS1.step hb2
  clear c0 c1 c2 c3 c4 hb1 hb2 hS1
  obtain ⟨c0, c1, c2, c3, c4⟩ := hS2.q.open
  go_wp2_with fail
  have r0 : RowAt (w2.alloc (.cells (madeCells #[.int .i64 0] C) 3)) w2.heap.size (List.replicate C 0) := rowAt_made _ _
  have q0 := hS2.q.alloc (.cells (madeCells #[.int .i64 0] C) 3)
  have B0 : Below w.heap.size w (w2.alloc (.cells (madeCells #[.int .i64 0] C) 3)) := hS2.below.alloc (by have := hS2.q.lt; omega) _
  have hlt2 := hS2.q.lt
  clear hS2
  go_region_held3 (fun w' => w'.cell? ⟨w.heap.size, 0, none⟩ = some (.int .i64 a) ∧ w'.cell? ⟨w.heap.size, 1, none⟩ = some (.int .i64 b) ∧ w'.cell? ⟨w.heap.size, 2, none⟩ = some (.int .i64 c) ∧ w'.cell? ⟨w.heap.size, 3, none⟩ = some (.int .i64 d) ∧ w'.cell? ⟨w.heap.size, 4, none⟩ = some (.slice s l.length m))
    (first | (with_reducible assumption) | exact q0.drew.open | exact q3.open | exact q4.open)
    (first | (go_at_call 109; (with_reducible refine (index_c _ _ _ _ _ _ _ _ _ _ hv (by omega) (by omega) (by omega) (by omega)).mono ?_); rintro e w3 ⟨rfl, hb3⟩; have q3 := q0.drew.below hb3; have r3 := r0.drew.below hb3; have B3 : Below w.heap.size w w3 := bcall B0.drew hb3 (by simp; omega); clear hb3)
            | ((refine step_copy_splice rfl (.tmp 27) (.tmp 36) 28 28 rfl 3 Try.underlying28 szI _ _ _ _ _ _ rfl rfl w2.heap.size 0 ((List.replicate C 0).map (Value.int .i64)) 3 r3 ((rowL ⟨a, b, c, d⟩ l y).map (Value.int .i64)) (by have := HM.out; rw [List.length_map, rowL_len]; show (c - a).toNat = min _ C; omega) (fun h => by exfalso; rw [List.length_map, rowL_len] at h; simp at h; omega) (by rw [List.length_map, rowL_len]; simp; omega) (oneI _) w2.heap.size w3 (Below.refl _ _) (Nat.le_refl _) ?_); intro w4 hg4 hb4; have q4 := q3.belowAt hb4 hlt2; have r4 := hg4.out; have B4 : Below w.heap.size w w4 := B3.trans (hb4.mono (by omega))))
  have r5 : RowAt w4 w2.heap.size (rowL ⟨a, b, c, d⟩ l y) := by
    rw [splice_map, splice_all _ _ (by rw [rowL_len, List.length_replicate]; exact hCt)] at r4
    exact r4
  have HR : Hid (RowAt w4 w2.heap.size (rowL ⟨a, b, c, d⟩ l y)) := r5
  clear r4 hg4 r5
  go_wp2
  go_ret2
  exact ⟨w2.heap.size, by rw [rowL_len]; simp only [hCt]; rfl, Nat.le_of_lt hlt2, HR.out, B4⟩
theorem row_own (a b c d y : Int) (s : Option Addr) (m : Nat) (l : List Int) (w : World) (hp : pvB a b c d l.length = true) (h1 : b ≤ y) (h2 : y < d) (hm : l.length ≤ m) (hH : HoldsI w s l) :
    Calls Try.prog 117 #[.agg #[.int .i64 a, .int .i64 b, .int .i64 c, .int .i64 d, .slice s l.length m], .int .i64 y] w (OwnInts (rowL ⟨a, b, c, d⟩ l y) w) := by
  by_cases hw : a < c
  · exact row_own1 a b c d y s m l w hp h1 h2 hw hm hH
  · refine row_own0 a b c d y s m l w hp h1 h2 ?_ hm hH
    have := Pl.valid_iff.1 (pv_iff.1 hp).1
    omega
set_option maxRecDepth 100000 in
set_option maxHeartbeats 1000000 in
theorem col_own (a b c d x : Int) (s : Option Addr) (m : Nat) (l : List Int) (w : World) (hp : pvB a b c d l.length = true) (h1 : a ≤ x) (h2 : x < c) (hH : HoldsI w s l) :
    Calls Try.prog 68 #[.agg #[.int .i64 a, .int .i64 b, .int .i64 c, .int .i64 d, .slice s l.length m], .int .i64 x] w (OwnInts (colL ⟨a, b, c, d⟩ l x) w) := by
  obtain ⟨hv, har, hn⟩ := pv_iff.1 hp
  obtain ⟨v1, v2, v3, v4, v5, v6⟩ := Pl.valid_iff.1 hv
  have HJ : Hid _ := fun k hk => colL_at (x := x) hp h1 h2 k hk
  obtain ⟨C, hC⟩ : ∃ C : Nat, d - b = (C : Int) := ⟨(d - b).toNat, by omega⟩
  have hCl : (colL ⟨a, b, c, d⟩ l x).length = C := by rw [colL_len]; dsimp only; omega
  have hC4 : C ≤ 4096 := by omega
  have hmk := fun (W : World) => run_make_row' (P := Try.prog) 28 3 (.int .i64 0) 8 Try.underlying28 infoI rfl .i64 .i64 C (by omega) (by omega) W
  have hd' : ¬ x < a := by omega
  clear hn har
  go_enter Try.func68, Try.ntmps68
  go_wp2_with fail
  refine (pv_c _ _ _ _ _ _ _ _).mono ?_
  rintro e w1 ⟨rfl, hb1⟩
  have hS1 := (Q1.fresh a b c d s l.length m w).step hb1
  obtain ⟨c0, c1, c2, c3, c4⟩ := hS1.q.open
  have hlt1 := hS1.q.lt
  have r0 : RowAt (w1.alloc (.cells (madeCells #[.int .i64 0] C) 3)) w1.heap.size (fillL (colL ⟨a, b, c, d⟩ l x) 0) := by rw [fillL_zero, hCl]; exact rowAt_made _ _
  have hS2 : Q1 a b c d s l.length m w (w1.alloc (.cells (madeCells #[.int .i64 0] C) 3)) := hS1.step ((Below.refl _ _).alloc (Nat.le_refl _) _)
  clear hb1
  go_wp2_with fail
  clear c0 c1 c2 c3 c4 hS1
  go_loopw [35] (fun i wr => ColRel a b c d x s m l w w1.heap.size i wr) (fun i _ => C - (intOf i).toNat)
  case atStart => exact ⟨0, by omega, rfl, hS2, r0⟩
  case round =>
    obtain ⟨k, hk, rfl, hS, hR⟩ := hrel
    by_cases hlt : k < C
    · obtain ⟨j, hj, hjl, hval⟩ := HJ.out k (by omega)
      have hi : (k : Int) < (C : Int) := by omega
      rcases hH with rfl | ⟨bb, off, rfl, hr⟩
      · simp at hjl
      have hji : (j : Int) < (l.length : Int) := by omega
      have hblt : bb < w.heap.size := cell_lt (hr j hjl)
      have hy0 : wr.cell? ⟨bb, off + j, none⟩ = some (.int .i64 l[j]) := (hS.below.cell (p := ⟨bb, _, none⟩) hblt).trans (hr j hjl)
      obtain ⟨c0, c1, c2, c3, c4⟩ := hS.q.open
      have hww : IntKind.i64.wrap (b + (k : Int)) = b + (k : Int) := IntWalk.i64_in _ (by omega)
      have HV : Hid _ := hval
      clear hval
      have hRf := hR.free
      have hRl := hR.lt
      go_wp2_with fail
      have hR0 := hR.drew
      have hS0 := hS.step (Below.refl _ _).drew
      go_region_held3 (fun w' => w'.cell? ⟨w.heap.size, 0, none⟩ = some (.int .i64 a) ∧ w'.cell? ⟨w.heap.size, 1, none⟩ = some (.int .i64 b) ∧ w'.cell? ⟨w.heap.size, 2, none⟩ = some (.int .i64 c) ∧ w'.cell? ⟨w.heap.size, 3, none⟩ = some (.int .i64 d) ∧ w'.cell? ⟨w.heap.size, 4, none⟩ = some (.slice (some ⟨bb, off, none⟩) l.length m) ∧ w'.cell? ⟨bb, off + j, none⟩ = some (.int .i64 l[j]))
        (first | (with_reducible assumption) | exact ⟨c0, c1, c2, c3, c4, hy0⟩ | exact ⟨k0, k1, k2, k3, k4, hy1⟩ | exact hall)
        (first | (go_at_call 109; (with_reducible refine (index_c _ _ _ _ _ _ _ _ _ _ hv (by omega) (by omega) (by omega) (by omega)).mono ?_); rintro e w3 ⟨rfl, hb3⟩; have S3 := hS0.step hb3; have R3 := hR0.below hb3; obtain ⟨k0, k1, k2, k3, k4⟩ := S3.q.open; have hy1 : w3.cell? ⟨bb, off + j, none⟩ = some (.int .i64 l[j]) := (S3.below.cell (p := ⟨bb, _, none⟩) hblt).trans (hr j hjl); have z0 := R3.at (k := k) (by rw [fillL_len _ _ hk]; omega); have z1 := R3.free k; have S4 := S3.far ⟨w1.heap.size, k, none⟩ (.int .i64 l[j]) hlt1; have R4 := R3.set k l[j]; have hall : _ ∧ _ ∧ _ ∧ _ ∧ _ ∧ _ := ⟨S4.q.open.1, S4.q.open.2.1, S4.q.open.2.2.1, S4.q.open.2.2.2.1, S4.q.open.2.2.2.2, (S4.below.cell (p := ⟨bb, _, none⟩) hblt).trans (hr j hjl)⟩; clear hb3))
      have R5 : RowAt (w3.setCell ⟨w1.heap.size, k, none⟩ (.int .i64 l[j])) w1.heap.size (fillL (colL ⟨a, b, c, d⟩ l x) (k + 1)) := by
        rw [← fillL_next _ k (by omega), HV.out]; exact R4
      have HR : Hid _ := R5
      have HS : Hid _ := S4
      clear R5 S4 R4 R3 S3 hall z0 z1
      go_wp2
      go_roundw
      case rel => exact ⟨k + 1, by omega, by go_num, HS.out, HR.out⟩
      case measure => simp [intOf]; omega
    · obtain rfl : k = C := by omega
      have HR : Hid _ := hR
      have HS : Hid _ := hS
      clear hR hS
      go_wp2
      go_ret2
      refine ⟨w1.heap.size, by rw [hCl]; rfl, Nat.le_of_lt hlt1, ?_, HS.out.below⟩
      have := HR.out
      rw [← hCl, fillL_all] at this
      exact this
end Go.Proofs.Ytnfnidgabgdphaa
