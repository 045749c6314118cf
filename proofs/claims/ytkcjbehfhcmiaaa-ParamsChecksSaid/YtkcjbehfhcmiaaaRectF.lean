/-
  What a call of Cells (of the code) returns and leaves, for all arguments: contract.
-/
import Derived.Test.YtkcjbehfhcmiaaaRectE
set_option maxRecDepth 100000
namespace Go.Proofs.Ytkcjbehfhcmiaaa
open Go.RowKit
set_option maxRecDepth 100000 in
set_option maxHeartbeats 1000000 in
theorem cells_no1 (a b c d w h : Int) (W : World) (hv : Pl.validB a b c d = false) :
    Calls Try.prog 25 #[.agg #[.int .i64 a, .int .i64 b, .int .i64 c, .int .i64 d], .int .i64 w, .int .i64 h] W (GivesRects [] W) := by
  go_enter Try.func25, Try.ntmps25
  go_wp2_with fail
  refine (valid_c _ _ _ _ _).mono ?_
  rintro e w1 ⟨rfl, hb1⟩
  have x1 := (Box.fresh W a b c d 23).below hb1
  have B1 : Below W.heap.size W w1 := bcall ((Below.refl _ _).alloc (Nat.le_refl _) _) hb1 (by simp)
  obtain ⟨c0, c1, c2, c3⟩ := x1.open
  clear hb1
  go_wp2
  go_ret
  exact ⟨none, 0, rfl, .inl rfl, B1⟩
set_option maxRecDepth 100000 in
set_option maxHeartbeats 1000000 in
theorem cells_no2 (a b c d w h : Int) (W : World) (hv : Pl.validB a b c d = true) (he : Pl.emptyB a b c d = true) :
    Calls Try.prog 25 #[.agg #[.int .i64 a, .int .i64 b, .int .i64 c, .int .i64 d], .int .i64 w, .int .i64 h] W (GivesRects [] W) := by
  go_enter Try.func25, Try.ntmps25
  go_wp2_with fail
  refine (valid_c _ _ _ _ _).mono ?_
  rintro e w1 ⟨rfl, hb1⟩
  have x1 := (Box.fresh W a b c d 23).below hb1
  have B1 : Below W.heap.size W w1 := bcall ((Below.refl _ _).alloc (Nat.le_refl _) _) hb1 (by simp)
  obtain ⟨c0, c1, c2, c3⟩ := x1.open
  clear hb1
  go_wp2_with fail
  refine (empty_c _ _ _ _ _).mono ?_
  rintro e w2 ⟨rfl, hb2⟩
  have x2 := x1.below hb2
  have B2 : Below W.heap.size W w2 := bcall B1 hb2 (by have := x1.lt; omega)
  clear c0 c1 c2 c3 hb2 x1 B1
  go_wp2
  go_ret
  exact ⟨none, 0, rfl, .inl rfl, B2⟩
set_option maxRecDepth 100000 in
set_option maxHeartbeats 1000000 in
theorem cells_no3 (a b c d w h : Int) (W : World) (hv : Pl.validB a b c d = true) (he : Pl.emptyB a b c d = false) (hw : w < 1) :
    Calls Try.prog 25 #[.agg #[.int .i64 a, .int .i64 b, .int .i64 c, .int .i64 d], .int .i64 w, .int .i64 h] W (GivesRects [] W) := by
  go_enter Try.func25, Try.ntmps25
  go_wp2_with fail
  refine (valid_c _ _ _ _ _).mono ?_
  rintro e w1 ⟨rfl, hb1⟩
  have x1 := (Box.fresh W a b c d 23).below hb1
  have B1 : Below W.heap.size W w1 := bcall ((Below.refl _ _).alloc (Nat.le_refl _) _) hb1 (by simp)
  obtain ⟨c0, c1, c2, c3⟩ := x1.open
  clear hb1
  go_wp2_with fail
  refine (empty_c _ _ _ _ _).mono ?_
  rintro e w2 ⟨rfl, hb2⟩
  have x2 := x1.below hb2
  have B2 : Below W.heap.size W w2 := bcall B1 hb2 (by have := x1.lt; omega)
  clear c0 c1 c2 c3 hb2 x1 B1
  go_wp2
  go_ret
  exact ⟨none, 0, rfl, .inl rfl, B2⟩
set_option maxRecDepth 100000 in
set_option maxHeartbeats 1000000 in
theorem cells_no4 (a b c d w h : Int) (W : World) (hv : Pl.validB a b c d = true) (he : Pl.emptyB a b c d = false) (hw : 1 ≤ w) (hh : h < 1) :
    Calls Try.prog 25 #[.agg #[.int .i64 a, .int .i64 b, .int .i64 c, .int .i64 d], .int .i64 w, .int .i64 h] W (GivesRects [] W) := by
  go_enter Try.func25, Try.ntmps25
  go_wp2_with fail
  refine (valid_c _ _ _ _ _).mono ?_
  rintro e w1 ⟨rfl, hb1⟩
  have x1 := (Box.fresh W a b c d 23).below hb1
  have B1 : Below W.heap.size W w1 := bcall ((Below.refl _ _).alloc (Nat.le_refl _) _) hb1 (by simp)
  obtain ⟨c0, c1, c2, c3⟩ := x1.open
  clear hb1
  go_wp2_with fail
  refine (empty_c _ _ _ _ _).mono ?_
  rintro e w2 ⟨rfl, hb2⟩
  have x2 := x1.below hb2
  have B2 : Below W.heap.size W w2 := bcall B1 hb2 (by have := x1.lt; omega)
  clear c0 c1 c2 c3 hb2 x1 B1
  go_wp2
  go_ret
  exact ⟨none, 0, rfl, .inl rfl, B2⟩
set_option maxRecDepth 100000 in
set_option maxHeartbeats 1000000 in
theorem cells_no5 (a b c d w h : Int) (W : World) (hv : Pl.validB a b c d = true) (he : Pl.emptyB a b c d = false) (hw : 1 ≤ w) (hh : 1 ≤ h) (hn : ¬ Pl.nX a c w * Pl.nX b d h ≤ 65536) :
    Calls Try.prog 25 #[.agg #[.int .i64 a, .int .i64 b, .int .i64 c, .int .i64 d], .int .i64 w, .int .i64 h] W (GivesRects [] W) := by
  obtain ⟨v1, v2, v3, v4, v5, v6⟩ := Pl.valid_iff.1 hv
  obtain ⟨e1, e2⟩ := Pl.empty_not.1 he
  have ax := Pl.axis hw v1 e1 v3
  have ay := Pl.axis hh v4 e2 v6
  go_enter Try.func25, Try.ntmps25
  go_wp2_with fail
  refine (valid_c _ _ _ _ _).mono ?_
  rintro e w1 ⟨rfl, hb1⟩
  have x1 := (Box.fresh W a b c d 23).below hb1
  have B1 : Below W.heap.size W w1 := bcall ((Below.refl _ _).alloc (Nat.le_refl _) _) hb1 (by simp)
  obtain ⟨c0, c1, c2, c3⟩ := x1.open
  clear hb1
  go_wp2_with fail
  refine (empty_c _ _ _ _ _).mono ?_
  rintro e w2 ⟨rfl, hb2⟩
  have x2 := x1.below hb2
  have B2 : Below W.heap.size W w2 := bcall B1 hb2 (by have := x1.lt; omega)
  clear c0 c1 c2 c3 hb2 x1 B1
  obtain ⟨c0, c1, c2, c3⟩ := x2.open
  have hx2 := x2.lt
  go_upto_region 3 with fail
  go_cut [7] (fun s7 wx => ∃ g : Nat, s7 = .pointer (some ⟨g, 0, none⟩) ∧ Box wx g ⟨Pl.fd a w, Pl.fd b h, Pl.cd c w, Pl.cd d h⟩ ∧ Box wx W.heap.size ⟨a, b, c, d⟩ ∧ Below W.heap.size W wx ∧ W.heap.size < g)
  case first =>
    go_region_held3 (fun w' => w'.cell? ⟨W.heap.size, 0, none⟩ = some (.int .i64 a) ∧ w'.cell? ⟨W.heap.size, 1, none⟩ = some (.int .i64 b) ∧ w'.cell? ⟨W.heap.size, 2, none⟩ = some (.int .i64 c) ∧ w'.cell? ⟨W.heap.size, 3, none⟩ = some (.int .i64 d))
      (first | assumption | (simp [World.cell?_alloc_some, c0, c1, c2, c3]; done))
      (first | (go_at_call 57; (with_reducible refine (fd_c _ _ _ (by omega) (by omega)).mono ?_); rintro e w3 ⟨rfl, rfl⟩) | (go_at_call 58; (with_reducible refine (cd_c _ _ _ (by omega) (by omega)).mono ?_); rintro e w3 ⟨rfl, rfl⟩))
    all_goals
      go_wp2_with fail
      go_meet
      exact ⟨w2.heap.size, rfl, (Box.fresh w2 _ _ _ _ _).drew, (x2.alloc _ _).drew, (B2.alloc (by omega) _).drew, hx2⟩
  case rest =>
    obtain ⟨g, rfl, t2, x3, B3, hg⟩ := hcut
    obtain ⟨t0, t1, t2', t3⟩ := t2.open
    obtain ⟨C, hC⟩ : ∃ C : Nat, C = Pl.nX a c w * Pl.nX b d h := ⟨_, rfl⟩
    have hA := Pl.area_grid ax ay
    rw [← hC] at hA hn
    have HA : Hid _ := hA
    have HC : Hid _ := hC
    clear hA hC c0 c1 c2 c3 x2 B2
    have hn' : 65536 < C := by omega
    go_wp2_with fail
    refine (area_c _ _ _ _ _).mono ?_
    rintro e w4 ⟨he4, hb4⟩
    rw [HA.out] at he4
    subst he4
    have B4 : Below W.heap.size W w4 := bcall B3 hb4 (by have := x3.lt; omega)
    go_wp2
    go_ret
    exact ⟨none, 0, rfl, .inl rfl, B4⟩
/-- Cells of the code, for all arguments. -/
theorem cells_c (a b c d w h : Int) (W : World) (hw' : w ≤ 9223372036854775807) (hh' : h ≤ 9223372036854775807) :
    Calls Try.prog 25 #[.agg #[.int .i64 a, .int .i64 b, .int .i64 c, .int .i64 d], .int .i64 w, .int .i64 h] W (GivesRects (Pl.cellsL a b c d w h) W) := by
  unfold Pl.cellsL
  by_cases hv : Pl.validB a b c d = true
  · by_cases he : Pl.emptyB a b c d = true
    · rw [if_neg (by rw [he]; simp)]; exact cells_no2 a b c d w h W hv he
    · have he' : Pl.emptyB a b c d = false := by simpa using he
      by_cases hw : 1 ≤ w
      · by_cases hh : 1 ≤ h
        · by_cases hn : Pl.nX a c w * Pl.nX b d h ≤ 65536
          · rw [if_pos ⟨hv, he', hw, hh, hn⟩]; exact cells_yes a b c d w h W hv he' hw hh hw' hh' hn
          · rw [if_neg (fun q => hn q.2.2.2.2)]; exact cells_no5 a b c d w h W hv he' hw hh hn
        · rw [if_neg (fun q => hh q.2.2.2.1)]; exact cells_no4 a b c d w h W hv he' hw (by omega)
      · rw [if_neg (fun q => hw q.2.2.1)]; exact cells_no3 a b c d w h W hv he' (by omega)
  · rw [if_neg (fun q => hv q.1)]; exact cells_no1 a b c d w h W (by simpa using hv)
end Go.Proofs.Ytkcjbehfhcmiaaa
