/-
  Layer 22: contracts of the reference's Blocks and of the law's exampleHolds.
-/
import Derived.Test.YtcdjkofgnelgeaaPt
import Derived.OwnWalk
set_option maxRecDepth 100000
namespace Go.Proofs.Ytcdjkofgnelgeaa
open Go.RowKit

theorem row1 {w : World} {s : Option Addr} {p q r t : Pl.R} (h : Holds w s [p, q, r, t]) : ∃ b off, s = some ⟨b, off, none⟩ ∧ w.cell? ⟨b, off + 4, none⟩ = some (.int .i64 q.x0) ∧ w.cell? ⟨b, off + 4 + 1, none⟩ = some (.int .i64 q.y0) ∧ w.cell? ⟨b, off + 4 + 2, none⟩ = some (.int .i64 q.x1) ∧ w.cell? ⟨b, off + 4 + 3, none⟩ = some (.int .i64 q.y1) := by
  rcases h with h | ⟨b, off, rfl, hr⟩
  · simp at h
  · obtain ⟨h0, h1, h2, h3⟩ := hr 1 (by simp)
    exact ⟨b, off, rfl, h0, h1, h2, h3⟩
set_option maxHeartbeats 4000000 in
theorem ex22_c (W : World) : Calls Try.prog 12 #[] W fun e w' => e = .returned (.bool true) ∧ Below W.heap.size W w' := by
  have k1 : ∀ W1 : World, Calls Try.prog 8 #[.agg #[.int .i64 3, .int .i64 0, .int .i64 10, .int .i64 5], .int .i64 2, .int .i64 2] W1 fun e w' => e = .returned (.tuple #[.int .i64 3, .int .i64 2]) ∧ Below W1.heap.size W1 w' := fun W1 => by
    have h := precincts_c 3 0 10 5 2 2 W1
    rw [show Pl.colsI 3 0 10 5 2 2 12 = 3 by decide, show Pl.rowsI 3 0 10 5 2 2 12 = 2 by decide] at h
    exact h
  have k2 : ∀ W1 : World, Calls Try.prog 10 #[.agg #[.int .i64 3, .int .i64 0, .int .i64 10, .int .i64 5], .int .i64 2, .int .i64 2, .int .i64 5] W1 fun e w' => e = .returned (.tuple #[.agg #[.int .i64 8, .int .i64 4, .int .i64 10, .int .i64 5], .bool true]) ∧ Below W1.heap.size W1 w' := fun W1 => by
    have h := precinct_c 3 0 10 5 2 2 5 W1
    rw [decide_eq_true (show pOk 3 0 10 5 2 2 5 by decide), show precR 3 0 10 5 2 2 5 = ⟨8, 4, 10, 5⟩ by kernel_rfl] at h
    exact h
  have k3 : ∀ W1 : World, Calls Try.prog 13 #[.agg #[.int .i64 3, .int .i64 0, .int .i64 10, .int .i64 5], .agg #[.int .i64 1, .int .i64 0, .int .i64 5, .int .i64 3], .int .i64 1, .int .i64 2, .int .i64 2, .int .i64 4] W1 fun e w' => e = .returned (.tuple #[.agg #[.int .i64 2, .int .i64 2, .int .i64 4, .int .i64 3], .bool true]) ∧ Below W1.heap.size W1 w' := fun W1 => by
    have h := inband_c 3 0 10 5 1 0 5 3 1 2 2 4 W1
    rw [decide_eq_true (show bOk 3 0 10 5 ⟨1, 0, 5, 3⟩ 1 2 2 4 by decide), show bandR 3 0 10 5 ⟨1, 0, 5, 3⟩ 1 2 2 4 = ⟨2, 2, 4, 3⟩ by kernel_rfl] at h
    exact h
  have k4 : ∀ W1 : World, Calls Try.prog 15 #[.agg #[.int .i64 1, .int .i64 0, .int .i64 5, .int .i64 3], .int .i64 2, .int .i64 1] W1 fun e w' => ∃ s m, e = .returned (.tuple #[.int .i64 2, .int .i64 2, .slice s 4 m]) ∧ Holds w' s [⟨1, 0, 4, 2⟩, ⟨4, 0, 5, 2⟩, ⟨1, 2, 4, 3⟩, ⟨4, 2, 5, 3⟩] ∧ Below W1.heap.size W1 w' := fun W1 => by
    have h := blocks_c 1 0 5 3 2 1 W1
    rw [show Pl.colsI 1 0 5 3 2 1 6 = 2 by decide, show Pl.rowsI 1 0 5 3 2 1 6 = 2 by decide, show blocksL 1 0 5 3 2 1 = [⟨1, 0, 4, 2⟩, ⟨4, 0, 5, 2⟩, ⟨1, 2, 4, 3⟩, ⟨4, 2, 5, 3⟩] by kernel_rfl] at h
    exact h
  have k5 : ∀ W1 : World, Calls Try.prog 10 #[.agg #[.int .i64 3, .int .i64 0, .int .i64 10, .int .i64 5], .int .i64 2, .int .i64 2, .int .i64 6] W1 fun e w' => e = .returned (.tuple #[.agg #[.int .i64 0, .int .i64 0, .int .i64 0, .int .i64 0], .bool false]) ∧ Below W1.heap.size W1 w' := fun W1 => by
    have h := precinct_c 3 0 10 5 2 2 6 W1
    rw [decide_eq_false (show ¬ pOk 3 0 10 5 2 2 6 by decide), show precR 3 0 10 5 2 2 6 = ⟨0, 0, 0, 0⟩ by kernel_rfl] at h
    exact h
  have heq := eqR
  have q1 : Pl.eqB 8 4 10 5 8 4 10 5 = true := by decide
  have q2 : Pl.eqB 2 2 4 3 2 2 4 3 = true := by decide
  have q3 : Pl.eqB 4 0 5 2 4 0 5 2 = true := by decide
  obtain ⟨WB, hWB⟩ : ∃ ww, ww = ((W.alloc (.cells #[.int .i64 3, .int .i64 0, .int .i64 10, .int .i64 5] 23)).alloc (.cells #[.int .i64 1, .int .i64 0, .int .i64 5, .int .i64 3] 23)) := ⟨_, rfl⟩
  have hb0 : Below W.heap.size W WB := by rw [hWB]; exact (below_alloc (below_alloc (Below.refl _ W) (Nat.le_refl _) _) (by simp <;> omega) _)
  have B0 := Lib.hid hb0
  have hX : Blk WB (W.heap.size) 23 #[.int .i64 3, .int .i64 0, .int .i64 10, .int .i64 5] := by
    have := Blk.new (W) 23 #[.int .i64 3, .int .i64 0, .int .i64 10, .int .i64 5]
    rw [hWB]
    exact ((show Blk _ (W.heap.size) _ _ by simpa using this)).alloc _
  have HX0 := Lib.hid hX
  have hS : Blk WB (W.heap.size + 1) 23 #[.int .i64 1, .int .i64 0, .int .i64 5, .int .i64 3] := by
    have := Blk.new ((W.alloc (.cells #[.int .i64 3, .int .i64 0, .int .i64 10, .int .i64 5] 23))) 23 #[.int .i64 1, .int .i64 0, .int .i64 5, .int .i64 3]
    rw [hWB]
    exact (show Blk _ (W.heap.size + 1) _ _ by simpa using this)
  have HS0 := Lib.hid hS
  have HWB := Lib.hid hWB
  clear hb0 hWB hX hS
  go_enter Try.func12, Try.ntmps12
  go_wp2_with (first | (go_at_call 8; (with_reducible refine (k1 _).mono ?_); rintro e w1 ⟨rfl, hb1⟩; have hb := (show Below WB.heap.size WB w1 by rw [HWB.out]; exact hb1); clear hb1; have B1 := Lib.hid (B0.out.trans (hb.mono B0.out.size)); have HX1 := Lib.hid (HX0.out.below hb); have HS1 := Lib.hid (HS0.out.below hb); obtain ⟨x0, x1, x2, x3⟩ := HX1.out.four; obtain ⟨s0, s1, s2, s3⟩ := HS1.out.four; clear hb) | (go_at_call 10; (with_reducible refine (k2 _).mono ?_); rintro e w2 ⟨rfl, hb2⟩; clear x0 x1 x2 x3 s0 s1 s2 s3; have B2 := Lib.hid (B1.out.trans (hb2.mono B1.out.size)); have HX2 := Lib.hid (HX1.out.below hb2); have HS2 := Lib.hid (HS1.out.below hb2); obtain ⟨x0, x1, x2, x3⟩ := HX2.out.four; obtain ⟨s0, s1, s2, s3⟩ := HS2.out.four; clear hb2; clear x0 x1 x2 x3 s0 s1 s2 s3; have B3 := Lib.hid (below_alloc B2.out B2.out.size (.cells #[.int .i64 8, .int .i64 4, .int .i64 10, .int .i64 5] 23)); have HX3 := Lib.hid (HX2.out.alloc (.cells #[.int .i64 8, .int .i64 4, .int .i64 10, .int .i64 5] 23)); have HS3 := Lib.hid (HS2.out.alloc (.cells #[.int .i64 8, .int .i64 4, .int .i64 10, .int .i64 5] 23)); have HP3 := Lib.hid (Blk.new w2 23 #[.int .i64 8, .int .i64 4, .int .i64 10, .int .i64 5]); obtain ⟨x0, x1, x2, x3⟩ := HX3.out.four; obtain ⟨s0, s1, s2, s3⟩ := HS3.out.four; obtain ⟨p0, p1, p2, p3⟩ := HP3.out.four) | (go_at_call 13; (with_reducible refine (k3 _).mono ?_); rintro e w4 ⟨rfl, hb4⟩; clear x0 x1 x2 x3 s0 s1 s2 s3 p0 p1 p2 p3; have B4 := Lib.hid (B3.out.trans (hb4.mono B3.out.size)); have HX4 := Lib.hid (HX3.out.below hb4); have HS4 := Lib.hid (HS3.out.below hb4); have HP4 := Lib.hid (HP3.out.below hb4); obtain ⟨x0, x1, x2, x3⟩ := HX4.out.four; obtain ⟨s0, s1, s2, s3⟩ := HS4.out.four; obtain ⟨p0, p1, p2, p3⟩ := HP4.out.four; clear hb4; clear x0 x1 x2 x3 s0 s1 s2 s3 p0 p1 p2 p3; have B5 := Lib.hid (below_alloc B4.out B4.out.size (.cells #[.int .i64 2, .int .i64 2, .int .i64 4, .int .i64 3] 23)); have HX5 := Lib.hid (HX4.out.alloc (.cells #[.int .i64 2, .int .i64 2, .int .i64 4, .int .i64 3] 23)); have HS5 := Lib.hid (HS4.out.alloc (.cells #[.int .i64 2, .int .i64 2, .int .i64 4, .int .i64 3] 23)); have HP5 := Lib.hid (HP4.out.alloc (.cells #[.int .i64 2, .int .i64 2, .int .i64 4, .int .i64 3] 23)); have HQ5 := Lib.hid (Blk.new w4 23 #[.int .i64 2, .int .i64 2, .int .i64 4, .int .i64 3]); obtain ⟨x0, x1, x2, x3⟩ := HX5.out.four; obtain ⟨s0, s1, s2, s3⟩ := HS5.out.four; obtain ⟨p0, p1, p2, p3⟩ := HP5.out.four; obtain ⟨q0, q1, q2, q3⟩ := HQ5.out.four) | (go_at_call 15; (with_reducible refine (k4 _).mono ?_); rintro e w6 ⟨sl, ml, rfl, hh6, hb6⟩; clear x0 x1 x2 x3 s0 s1 s2 s3 p0 p1 p2 p3 q0 q1 q2 q3; have B6 := Lib.hid (B5.out.trans (hb6.mono B5.out.size)); have HX6 := Lib.hid (HX5.out.below hb6); have HS6 := Lib.hid (HS5.out.below hb6); have HP6 := Lib.hid (HP5.out.below hb6); have HQ6 := Lib.hid (HQ5.out.below hb6); obtain ⟨x0, x1, x2, x3⟩ := HX6.out.four; obtain ⟨s0, s1, s2, s3⟩ := HS6.out.four; obtain ⟨p0, p1, p2, p3⟩ := HP6.out.four; obtain ⟨q0, q1, q2, q3⟩ := HQ6.out.four; clear hb6; have HL := Lib.hid hh6; clear hh6) | (go_at_call 10; (with_reducible refine (k5 _).mono ?_); rintro e w7 ⟨rfl, hb7⟩; have HL7 := Lib.hid ((HL.out.below hb7 (Nat.le_refl _)).below (below_alloc (Below.refl _ _) (Nat.le_refl _) (.cells #[.int .i64 0, .int .i64 0, .int .i64 0, .int .i64 0] 23)) (Nat.le_refl _)); clear x0 x1 x2 x3 s0 s1 s2 s3 p0 p1 p2 p3 q0 q1 q2 q3; have B7 := Lib.hid (B6.out.trans (hb7.mono B6.out.size)); have HX7 := Lib.hid (HX6.out.below hb7); have HS7 := Lib.hid (HS6.out.below hb7); have HP7 := Lib.hid (HP6.out.below hb7); have HQ7 := Lib.hid (HQ6.out.below hb7); obtain ⟨x0, x1, x2, x3⟩ := HX7.out.four; obtain ⟨s0, s1, s2, s3⟩ := HS7.out.four; obtain ⟨p0, p1, p2, p3⟩ := HP7.out.four; obtain ⟨q0, q1, q2, q3⟩ := HQ7.out.four; clear hb7; clear x0 x1 x2 x3 s0 s1 s2 s3 p0 p1 p2 p3 q0 q1 q2 q3; have B8 := Lib.hid (below_alloc B7.out B7.out.size (.cells #[.int .i64 0, .int .i64 0, .int .i64 0, .int .i64 0] 23)); have HX8 := Lib.hid (HX7.out.alloc (.cells #[.int .i64 0, .int .i64 0, .int .i64 0, .int .i64 0] 23)); have HS8 := Lib.hid (HS7.out.alloc (.cells #[.int .i64 0, .int .i64 0, .int .i64 0, .int .i64 0] 23)); have HP8 := Lib.hid (HP7.out.alloc (.cells #[.int .i64 0, .int .i64 0, .int .i64 0, .int .i64 0] 23)); have HQ8 := Lib.hid (HQ7.out.alloc (.cells #[.int .i64 0, .int .i64 0, .int .i64 0, .int .i64 0] 23)); have HN8 := Lib.hid (Blk.new w7 23 #[.int .i64 0, .int .i64 0, .int .i64 0, .int .i64 0]); obtain ⟨x0, x1, x2, x3⟩ := HX8.out.four; obtain ⟨s0, s1, s2, s3⟩ := HS8.out.four; obtain ⟨p0, p1, p2, p3⟩ := HP8.out.four; obtain ⟨q0, q1, q2, q3⟩ := HQ8.out.four; obtain ⟨n0, n1, n2, n3⟩ := HN8.out.four; obtain ⟨hb9, ho9, rfl, hc0, hc1, hc2, hc3⟩ := row1 HL7.out) | fail)
  go_ret
  exact ⟨rfl, B8.out⟩
theorem ok6 (a b c d ea eb : Int) : Pl.gridOk a b c d ea eb 6 ↔ ((0 ≤ ea ∧ ea ≤ 6 ∧ 0 ≤ eb ∧ eb ≤ 6) ∧ Pl.gridOk a b c d ea eb 12) := by
  unfold Pl.gridOk
  constructor
  · rintro ⟨h1, h2, h3, h4, h5, h6, h7⟩
    exact ⟨⟨h3, h4, h5, h6⟩, h1, h2, h3, by omega, h5, by omega, h7⟩
  · rintro ⟨⟨h3, h4, h5, h6⟩, h1, h2, _, _, _, _, h7⟩
    exact ⟨h1, h2, h3, h4, h5, h6, h7⟩
theorem parts_succ {a b c d ea eb : Int} {k : Nat} (h : pOk a b c d ea eb (k : Int)) : Pl.partsN a b c d (Pl.pw ea) (Pl.pw eb) (Pl.nX a c (Pl.pw ea)) (k + 1) = Pl.partsN a b c d (Pl.pw ea) (Pl.pw eb) (Pl.nX a c (Pl.pw ea)) k ++ [precR a b c d ea eb (k : Int)] := by
  unfold Pl.partsN
  rw [List.range_succ, List.map_append]
  unfold precR
  rw [if_pos h]
  rfl
set_option maxHeartbeats 4000000 in
theorem rblocks_c (a b c d ea eb : Int) (W : World) : Calls Try.prog 16 #[.agg #[.int .i64 a, .int .i64 b, .int .i64 c, .int .i64 d], .int .i64 ea, .int .i64 eb] W fun e w' => ∃ s m, e = .returned (.tuple #[.int .i64 (Pl.colsI a b c d ea eb 6), .int .i64 (Pl.rowsI a b c d ea eb 6), .slice s (blocksL a b c d ea eb).length m]) ∧ Holds w' s (blocksL a b c d ea eb) ∧ Below W.heap.size W w' := by
  obtain ⟨WB, hWB⟩ : ∃ ww, ww = (W.alloc (.cells #[.int .i64 a, .int .i64 b, .int .i64 c, .int .i64 d] 23)) := ⟨_, rfl⟩
  have hb0 : Below W.heap.size W WB := by rw [hWB]; exact (below_alloc (Below.refl _ W) (Nat.le_refl _) _)
  have B0 := Lib.hid hb0
  have hX : Blk WB (W.heap.size) 23 #[.int .i64 a, .int .i64 b, .int .i64 c, .int .i64 d] := by
    have := Blk.new (W) 23 #[.int .i64 a, .int .i64 b, .int .i64 c, .int .i64 d]
    rw [hWB]
    exact (show Blk _ (W.heap.size) _ _ by simpa using this)
  have HX0 := Lib.hid hX
  have HWB := Lib.hid hWB
  clear hb0 hWB hX
  by_cases hr : 0 ≤ ea ∧ ea ≤ 6 ∧ 0 ≤ eb ∧ eb ≤ 6
  · have hc : Pl.colsI a b c d ea eb 6 = Pl.colsI a b c d ea eb 12 := by
      unfold Pl.colsI
      by_cases h : Pl.gridOk a b c d ea eb 12
      · rw [if_pos ((ok6 _ _ _ _ _ _).2 ⟨hr, h⟩), if_pos h]
      · rw [if_neg (fun q => h ((ok6 _ _ _ _ _ _).1 q).2), if_neg h]
    have hw : Pl.rowsI a b c d ea eb 6 = Pl.rowsI a b c d ea eb 12 := by
      unfold Pl.rowsI
      by_cases h : Pl.gridOk a b c d ea eb 12
      · rw [if_pos ((ok6 _ _ _ _ _ _).2 ⟨hr, h⟩), if_pos h]
      · rw [if_neg (fun q => h ((ok6 _ _ _ _ _ _).1 q).2), if_neg h]
    obtain ⟨N, hN⟩ : ∃ N : Nat, N = (blocksL a b c d ea eb).length := ⟨_, rfl⟩
    have hL : blocksL a b c d ea eb = Pl.partsN a b c d (Pl.pw ea) (Pl.pw eb) (Pl.nX a c (Pl.pw ea)) N := by
      rw [hN]
      unfold blocksL
      by_cases h : Pl.gridOk a b c d ea eb 12
      · rw [if_pos ((ok6 _ _ _ _ _ _).2 ⟨hr, h⟩), Pl.partsN_length]
      · rw [if_neg (fun q => h ((ok6 _ _ _ _ _ _).1 q).2)]; rfl
    have hA : Pl.areaI (Pl.gridR a b c d ea eb 12).x0 (Pl.gridR a b c d ea eb 12).y0 (Pl.gridR a b c d ea eb 12).x1 (Pl.gridR a b c d ea eb 12).y1 = (N : Int) := by
      rw [hN]
      unfold blocksL
      by_cases h : Pl.gridOk a b c d ea eb 12
      · rw [if_pos ((ok6 _ _ _ _ _ _).2 ⟨hr, h⟩), Pl.partsN_length, h.area, Nat.mul_comm]
      · rw [if_neg (fun q => h ((ok6 _ _ _ _ _ _).1 q).2), Pl.gridR_area_no h]; rfl
    have hOk : ∀ k : Nat, k < N → pOk a b c d ea eb (k : Int) := fun k hk => (pOk_iff _ _ _ _ _ _ _).2 ⟨by omega, by rw [hA]; omega⟩
    have hcap : N ≤ 65536 := by rw [hN]; exact blocksL_len _ _ _ _ _ _
    have pa := prod_area a b c d ea eb
    rw [hA] at pa
    rw [hL, Pl.partsN_length, hc, hw]
    have kr := fun W1 : World => rprecincts_c a b c d ea eb W1
    generalize Pl.colsI a b c d ea eb 12 = CI at *
    generalize Pl.rowsI a b c d ea eb 12 = RI at *
    obtain ⟨g1, g2, g3, g4⟩ := hr
    have HOK := Lib.hid hOk
    have HCAP := Lib.hid hcap
    have PA := Lib.hid pa
    clear hc hw hL hN hA hOk hcap pa
    obtain ⟨i0, hi, hz0, hz1, hz2⟩ := info_parts infoR
    go_enter Try.func16, Try.ntmps16
    go_wp2_with (first | (go_at_call 9; (with_reducible refine (kr _).mono ?_); rintro e w1 ⟨rfl, hb1⟩; have hb := (show Below WB.heap.size WB w1 by rw [HWB.out]; exact hb1); clear hb1; have B1 := Lib.hid (B0.out.trans (hb.mono B0.out.size)); have HX1 := Lib.hid (HX0.out.below hb); obtain ⟨x0, x1, x2, x3⟩ := HX1.out.four; clear hb) | fail)
    have G0 := Lib.hid (Gw.start W w1 (W.heap.size + 1) B1.out (by omega) HX1.out.lt)
    clear x0 x1 x2 x3
    go_loopw [8, 9] (fun v i wr => ∃ k : Nat, k ≤ N ∧ i = .int .i64 (k : Int) ∧ Hid (Gw W (W.heap.size + 1) wr v (Pl.partsN a b c d (Pl.pw ea) (Pl.pw eb) (Pl.nX a c (Pl.pw ea)) k)) ∧ Hid (Blk wr W.heap.size 23 #[.int .i64 a, .int .i64 b, .int .i64 c, .int .i64 d])) (fun _ i _ => N - (intOf i).toNat)
    case atStart => exact ⟨0, Nat.zero_le _, rfl, G0, HX1⟩
    case round =>
      obtain ⟨k, hk, rfl, G, hX⟩ := hrel
      clear G0
      have pa := PA.out
      obtain ⟨x0, x1, x2, x3⟩ := hX.out.four
      by_cases hlt : k < N
      · have kp := fun W1 : World => rprecinct_c a b c d ea eb (k : Int) W1
        rw [decide_eq_true (HOK.out k hlt)] at kp
        have hs := parts_succ (HOK.out k hlt)
        have HS := Lib.hid hs
        generalize precR a b c d ea eb (k : Int) = PP at *
        obtain ⟨p0, p1, p2, p3⟩ := PP
        dsimp only at kp
        have lt2 : (k : Int) < (N : Int) := by omega
        have HLT := Lib.hid hlt
        clear hs
        go_wp2_with (first | (go_at_call 11; (with_reducible refine (kp _).mono ?_); rintro e w7 ⟨rfl, hb7⟩; have G7 := Lib.hid ((G.out.call hb7).alloc (.cells #[.int .i64 p0, .int .i64 p1, .int .i64 p2, .int .i64 p3] 23)); have hX7 := Lib.hid ((hX.out.below hb7).alloc (.cells #[.int .i64 p0, .int .i64 p1, .int .i64 p2, .int .i64 p3] 23)); obtain ⟨z0, z1, z2, z3⟩ := (Blk.new w7 23 #[.int .i64 p0, .int .i64 p1, .int .i64 p2, .int .i64 p3]).four; clear hb7 x0 x1 x2 x3 pa) | (at_builtin; refine wpList_append_own _ rfl _ _ 35 rfl (W.heap.size + 1) 23 i0 (.agg #[.int .i64 0, .int .i64 0, .int .i64 0, .int .i64 0]) 4 32 Try.underlying35 hi hz0 hz1 hz2 rfl (by decide) _ _ _ rfl (G7.out.own.alloc _) ⟨w7.heap.size + 1, 0, none⟩ 1 1 [.int .i64 p0, .int .i64 p1, .int .i64 p2, .int .i64 p3] rfl rfl ?c1 ?c2 ?c3 ?c4 ?c5 ?_))
        case c1 => exact four_cells _ _ (by simp) ⟨p0, p1, p2, p3⟩
        case c2 => intro u hu; simp at hu; rcases hu with rfl | rfl | rfl | rfl <;> rfl
        case c3 => rw [Pl.partsN_length]; have := HCAP.out; have := HLT.out; unfold maxLen; omega
        case c4 => rw [Pl.partsN_length]; have := HCAP.out; have := HLT.out; omega
        case c5 => exact Nat.le_trans G7.out.hB.2 (by simp)
        intro v' w8 hown8 hgrow8 _
        have G8 := Lib.hid ((G7.out.alloc _).push hgrow8 ⟨p0, p1, p2, p3⟩ hown8)
        rw [← HS.out] at G8
        have hX8 := Lib.hid ((G7.out.alloc _).blk hgrow8 (by omega) (hX7.out.alloc _))
        clear hown8 hgrow8 G7 G
        have hcp := HCAP.out
        have hl2 := HLT.out
        go_wp2_with fail
        go_roundw
        case rel => exact ⟨k + 1, HLT.out, by go_num, G8, hX8⟩
        case measure => simp [intOf]; omega
      · obtain rfl : k = N := by omega
        go_wp2_with fail
        go_ret3
        obtain ⟨a0, c0, hv0, hH⟩ := row_holds G.out.own
        rw [Pl.partsN_length] at hv0
        exact ⟨a0, c0, by rw [hv0]; rfl, hH, G.out.below⟩
  · have hq : ¬ Pl.gridOk a b c d ea eb 6 := fun h => hr ((ok6 _ _ _ _ _ _).1 h).1
    have hc : Pl.colsI a b c d ea eb 6 = 0 := if_neg hq
    have hw : Pl.rowsI a b c d ea eb 6 = 0 := if_neg hq
    have hl : blocksL a b c d ea eb = [] := if_neg hq
    rw [hc, hw, hl]
    clear hq hc hw hl
    refine Calls.mono (R := fun e w' => e = .returned (.tuple #[.int .i64 0, .int .i64 0, .slice none 0 0]) ∧ Below W.heap.size W w') ?_ (fun e w' h => ⟨none, 0, h.1, .inl rfl, h.2⟩)
    by_cases g1 : ea < 0
    · clear hr
      go_enter Try.func16, Try.ntmps16
      go_wp2_with fail
      go_ret3
      exact ⟨rfl, by rw [← HWB.out]; exact B0.out⟩
    · by_cases g2 : 6 < ea
      · clear hr
        go_enter Try.func16, Try.ntmps16
        go_wp2_with fail
        go_ret3
        exact ⟨rfl, by rw [← HWB.out]; exact B0.out⟩
      · by_cases g3 : eb < 0
        · clear hr
          go_enter Try.func16, Try.ntmps16
          go_wp2_with fail
          go_ret3
          exact ⟨rfl, by rw [← HWB.out]; exact B0.out⟩
        · have g4 : 6 < eb := by omega
          clear hr
          go_enter Try.func16, Try.ntmps16
          go_wp2_with fail
          go_ret3
          exact ⟨rfl, by rw [← HWB.out]; exact B0.out⟩
end Go.Proofs.Ytcdjkofgnelgeaa
