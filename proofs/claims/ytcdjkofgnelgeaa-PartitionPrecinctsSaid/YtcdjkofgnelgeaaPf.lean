/-
  Layer 22: contract of the code's Blocks.
-/
import Derived.Test.YtcdjkofgnelgeaaPe
set_option maxRecDepth 100000
namespace Go.Proofs.Ytcdjkofgnelgeaa
open Go.RowKit

/-- What Blocks returns. -/
def blocksL (a b c d ea eb : Int) : List Pl.R := if Pl.gridOk a b c d ea eb 6 then Pl.partsN a b c d (Pl.pw ea) (Pl.pw eb) (Pl.nX a c (Pl.pw ea)) (Pl.nX b d (Pl.pw eb) * Pl.nX a c (Pl.pw ea)) else []
theorem blocksL_y {a b c d ea eb : Int} (h : Pl.gridOk a b c d ea eb 6) : blocksL a b c d ea eb = Pl.cellsL a b c d (Pl.pw ea) (Pl.pw eb) := by
  unfold blocksL Pl.cellsL
  rw [if_pos h, if_pos ⟨h.1, h.2.1, Pl.pw_pos _, Pl.pw_pos _, h.2.2.2.2.2.2⟩]
theorem blocksL_len (a b c d ea eb : Int) : (blocksL a b c d ea eb).length ≤ 65536 := by
  unfold blocksL
  split
  · rename_i h
    rw [Pl.partsN_length, Nat.mul_comm]
    exact h.2.2.2.2.2.2
  · simp
set_option maxHeartbeats 2000000 in
theorem blocks_c (a b c d ea eb : Int) (W : World) : Calls Try.prog 15 #[.agg #[.int .i64 a, .int .i64 b, .int .i64 c, .int .i64 d], .int .i64 ea, .int .i64 eb] W fun e w' => ∃ s m, e = .returned (.tuple #[.int .i64 (Pl.colsI a b c d ea eb 6), .int .i64 (Pl.rowsI a b c d ea eb 6), .slice s (blocksL a b c d ea eb).length m]) ∧ Holds w' s (blocksL a b c d ea eb) ∧ Below W.heap.size W w' := by
  obtain ⟨WB, hWB⟩ : ∃ ww, ww = (W.alloc (.cells #[.int .i64 a, .int .i64 b, .int .i64 c, .int .i64 d] 23)) := ⟨_, rfl⟩
  have hb0 : Below W.heap.size W WB := by rw [hWB]; exact (below_alloc (Below.refl _ W) (Nat.le_refl _) _)
  have B0 := Lib.hid hb0
  have hX : Blk WB (W.heap.size) 23 #[.int .i64 a, .int .i64 b, .int .i64 c, .int .i64 d] := by
    have := Blk.new (W) 23 #[.int .i64 a, .int .i64 b, .int .i64 c, .int .i64 d]
    rw [hWB]
    exact (show Blk _ (W.heap.size) _ _ by simpa using this)
  have HX0 := Lib.hid hX
  have HWB := Lib.hid hWB
  clear hb0 hWB hX
  have he := fun (p q r s p' q' r' s' : Int) (W1 : World) => eqR p q r s p' q' r' s' W1
  by_cases hg : Pl.gridOk a b c d ea eb 6
  · obtain ⟨h1, h2, h3, h4⟩ := grid_bd a b c d ea eb 6
    have kg := fun W1 : World => grid_e a b c d ea eb 6 (by omega) W1
    have ks := fun W1 : World => size_c _ _ _ _ h1 h2 W1
    rw [h3, h4] at ks
    obtain ⟨sa, wa1, wa2, wa3⟩ := pw_facts (e := ea) (m := 12) (by have := hg.2.2.2.1; omega) (by omega)
    obtain ⟨sb, wb1, wb2, wb3⟩ := pw_facts (e := eb) (m := 12) (by have := hg.2.2.2.2.2.1; omega) (by omega)
    have kc := fun W1 : World => cells_c a b c d (Pl.pw ea) (Pl.pw eb) W1 (by omega) (by omega)
    rw [← blocksL_y hg] at kc
    have e0 := hg.2.2.1
    have e1 := hg.2.2.2.1
    have f0 := hg.2.2.2.2.1
    have f1 := hg.2.2.2.2.2.1
    have ne : Pl.eqB (Pl.gridR a b c d ea eb 6).x0 (Pl.gridR a b c d ea eb 6).y0 (Pl.gridR a b c d ea eb 6).x1 (Pl.gridR a b c d ea eb 6).y1 0 0 0 0 = false := by
      have : ¬ ((Pl.gridR a b c d ea eb 6).x1 = 0) := by
        have p := (Pl.Grid.pos hg.grid).1
        have : Pl.colsI a b c d ea eb 6 = (Pl.nX a c (Pl.pw ea) : Int) := if_pos hg
        omega
      simp [Pl.eqB, this]
    generalize Pl.colsI a b c d ea eb 6 = CI at *
    generalize Pl.rowsI a b c d ea eb 6 = RI at *
    generalize blocksL a b c d ea eb = L at *
    obtain ⟨n, hn⟩ : ∃ n, n = L.length := ⟨_, rfl⟩
    have HN := Lib.hid hn
    clear h1 h2 h3 h4 hg wa2 wa3 wb2 wb3 hn
    generalize (Pl.gridR a b c d ea eb 6).x0 = r0 at *
    generalize (Pl.gridR a b c d ea eb 6).y0 = r1 at *
    generalize (Pl.gridR a b c d ea eb 6).x1 = r2 at *
    generalize (Pl.gridR a b c d ea eb 6).y1 = r3 at *
    generalize Pl.pw ea = wa at *
    generalize Pl.pw eb = wb at *
    go_enter Try.func15, Try.ntmps15
    go_wp2_with (first | (go_at_call 22; (with_reducible refine (kg _).mono ?_); rintro e w1 ⟨rfl, hb1⟩; have hb := (show Below WB.heap.size WB w1 by rw [HWB.out]; exact hb1); clear hb1; have B1 := Lib.hid (B0.out.trans (hb.mono B0.out.size)); have HX1 := Lib.hid (HX0.out.below hb); obtain ⟨x0, x1, x2, x3⟩ := HX1.out.four; clear hb; clear x0 x1 x2 x3; have B2 := Lib.hid (below_alloc B1.out B1.out.size (.cells #[.int .i64 r0, .int .i64 r1, .int .i64 r2, .int .i64 r3] 23)); have HX2 := Lib.hid (HX1.out.alloc (.cells #[.int .i64 r0, .int .i64 r1, .int .i64 r2, .int .i64 r3] 23)); have HZ2 := Lib.hid (Blk.new w1 23 #[.int .i64 r0, .int .i64 r1, .int .i64 r2, .int .i64 r3]); obtain ⟨x0, x1, x2, x3⟩ := HX2.out.four; obtain ⟨z0, z1, z2, z3⟩ := HZ2.out.four) | (go_at_call 21; (with_reducible refine (ks _).mono ?_); rintro e w3 ⟨rfl, hb3⟩; clear x0 x1 x2 x3 z0 z1 z2 z3; have B3 := Lib.hid (B2.out.trans (hb3.mono B2.out.size)); have HX3 := Lib.hid (HX2.out.below hb3); have HZ3 := Lib.hid (HZ2.out.below hb3); obtain ⟨x0, x1, x2, x3⟩ := HX3.out.four; obtain ⟨z0, z1, z2, z3⟩ := HZ3.out.four; clear hb3) | fail)
    have s0 : w3.drew.cell? ⟨W.heap.size, 0, none⟩ = some (.int .i64 a) ∧ w3.drew.cell? ⟨W.heap.size, 1, none⟩ = some (.int .i64 b) ∧ w3.drew.cell? ⟨W.heap.size, 2, none⟩ = some (.int .i64 c) ∧ w3.drew.cell? ⟨W.heap.size, 3, none⟩ = some (.int .i64 d) := HX3.out.drew.four
    go_region_held3 (fun w' => w'.cell? ⟨W.heap.size, 0, none⟩ = some (.int .i64 a) ∧ w'.cell? ⟨W.heap.size, 1, none⟩ = some (.int .i64 b) ∧ w'.cell? ⟨W.heap.size, 2, none⟩ = some (.int .i64 c) ∧ w'.cell? ⟨W.heap.size, 3, none⟩ = some (.int .i64 d))
      (first | (with_reducible exact s0) | (with_reducible exact s4) | fail)
      (first | (go_simp; go_at_call 33; (with_reducible refine (kc _).mono ?_); rintro e w4 ⟨s, m, rfl, hh4, hb4⟩; have s4 := (HX3.out.drew.below hb4).four; have H4 := Lib.hid hh4; have B4 := Lib.hid (B3.out.drew.trans (hb4.mono B3.out.size)); clear hb4 hh4) | fail)
    all_goals
      go_wp2_with fail
      go_ret3
      exact ⟨s, m, rfl, H4.out, B4.out⟩
  · have kg := fun W1 : World => grid_e a b c d ea eb 6 (by omega) W1
    rw [Pl.gridR_no hg] at kg
    have hc : Pl.colsI a b c d ea eb 6 = 0 := if_neg hg
    have hr : Pl.rowsI a b c d ea eb 6 = 0 := if_neg hg
    have hl : blocksL a b c d ea eb = [] := if_neg hg
    rw [hc, hr, hl]
    have ne : Pl.eqB 0 0 0 0 0 0 0 0 = true := by decide
    clear hg hc hr hl
    go_enter Try.func15, Try.ntmps15
    go_wp2_with (first | (go_at_call 22; (with_reducible refine (kg _).mono ?_); rintro e w1 ⟨rfl, hb1⟩; have hb := (show Below WB.heap.size WB w1 by rw [HWB.out]; exact hb1); clear hb1; have B1 := Lib.hid (B0.out.trans (hb.mono B0.out.size)); have HX1 := Lib.hid (HX0.out.below hb); obtain ⟨x0, x1, x2, x3⟩ := HX1.out.four; clear hb; clear x0 x1 x2 x3; have B2 := Lib.hid (below_alloc B1.out B1.out.size (.cells #[.int .i64 0, .int .i64 0, .int .i64 0, .int .i64 0] 23)); have HX2 := Lib.hid (HX1.out.alloc (.cells #[.int .i64 0, .int .i64 0, .int .i64 0, .int .i64 0] 23)); have HZ2 := Lib.hid (Blk.new w1 23 #[.int .i64 0, .int .i64 0, .int .i64 0, .int .i64 0]); obtain ⟨x0, x1, x2, x3⟩ := HX2.out.four; obtain ⟨z0, z1, z2, z3⟩ := HZ2.out.four) | fail)
    go_ret3
    exact ⟨none, 0, rfl, .inl rfl, B2.out⟩
end Go.Proofs.Ytcdjkofgnelgeaa
