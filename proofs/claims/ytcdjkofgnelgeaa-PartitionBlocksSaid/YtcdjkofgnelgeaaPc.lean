/-
  Layer 22: contracts of the code's size, grid, Precincts, inCell, place, Precinct, InBand.
-/
import Derived.Test.YtcdjkofgnelgeaaBk
set_option maxRecDepth 100000
namespace Go.Proofs.Ytcdjkofgnelgeaa
open Go.RowKit

set_option maxHeartbeats 1000000 in
theorem size_c (a b c d : Int) (h1 : 0 ≤ a ∧ a ≤ c ∧ c ≤ 4096) (h2 : 0 ≤ b ∧ b ≤ d ∧ d ≤ 4096) (W : World) : Calls Try.prog 21 #[.agg #[.int .i64 a, .int .i64 b, .int .i64 c, .int .i64 d]] W fun e w' => e = .returned (.tuple #[.int .i64 (c - a), .int .i64 (d - b)]) ∧ Below W.heap.size W w' := by
  have w1 : IntKind.i64.wrap (c - a) = c - a := by rw [IntWalk.i64_left]; unfold wrap64; omega
  have w2 : IntKind.i64.wrap (d - b) = d - b := by rw [IntWalk.i64_left]; unfold wrap64; omega
  clear h1 h2
  go_enter Try.func21, Try.ntmps21
  go_wp2_with fail
  go_region
  go_wp2_with fail
  go_ret2
  exact ⟨rfl, (below_alloc (Below.refl _ _) (Nat.le_refl _) _).drew⟩

/-- What the walk knows of a power of two. -/
theorem pw_facts {e : Int} {m : Nat} (h : e ≤ (m : Int)) (hm : m ≤ 12) : (2 : Int) ^ e.toNat = Pl.pw e ∧ IntKind.i64.wrap (Pl.pw e) = Pl.pw e ∧ 1 ≤ Pl.pw e ∧ Pl.pw e ≤ 4096 := by
  have k0 := Pl.pw_pos e
  have k1 := Pl.pw_le (e := e) (m := 12) (by omega)
  have k2 : ((2 ^ 12 : Nat) : Int) = 4096 := by decide
  rw [k2] at k1
  refine ⟨by unfold Pl.pw; simp, ?_, k0, k1⟩
  rw [IntWalk.i64_left]; unfold wrap64; omega
set_option maxHeartbeats 4000000 in
theorem grid_c (a b c d ea eb m : Int) (hm : m ≤ 12) (W : World) : Calls Try.prog 22 #[.agg #[.int .i64 a, .int .i64 b, .int .i64 c, .int .i64 d], .int .i64 ea, .int .i64 eb, .int .i64 m] W fun e w' => e = .returned (.agg (rv (Pl.gridR a b c d ea eb m))) ∧ Below W.heap.size W w' := by
  obtain ⟨WB, hWB⟩ : ∃ x, x = (W.alloc (.cells #[.int .i64 a, .int .i64 b, .int .i64 c, .int .i64 d] 23)).alloc (.cells #[.int .i64 0, .int .i64 0, .int .i64 0, .int .i64 0] 23) := ⟨_, rfl⟩
  have hB : Below W.heap.size W WB := by rw [hWB]; exact below_alloc (below_alloc (Below.refl _ W) (Nat.le_refl _) _) (by simp) _
  have hX : Blk WB W.heap.size 23 #[.int .i64 a, .int .i64 b, .int .i64 c, .int .i64 d] := by rw [hWB]; exact (Blk.new W _ _).alloc _
  have hY : Blk WB (W.heap.size + 1) 23 #[.int .i64 0, .int .i64 0, .int .i64 0, .int .i64 0] := by
    have := Blk.new (W.alloc (.cells #[.int .i64 a, .int .i64 b, .int .i64 c, .int .i64 d] 23)) 23 #[.int .i64 0, .int .i64 0, .int .i64 0, .int .i64 0]
    rw [hWB]; simpa using this
  have HB := Lib.hid hB
  have HX := Lib.hid hX
  have HY := Lib.hid hY
  have HWB := Lib.hid hWB
  have hz : WB.heap.size = W.heap.size + 2 := by rw [hWB]; simp
  have HZ := Lib.hid hz
  clear hB hz
  obtain ⟨R, hR⟩ : ∃ x, x = Pl.gridR a b c d ea eb m := ⟨_, rfl⟩
  rw [← hR]
  have HR := Lib.hid hR
  clear hR
  have kv := valid_c a b c d WB
  rw [hWB] at kv
  clear hX hY hWB
  by_cases hv : Pl.validB a b c d = true
  · rw [hv] at kv
    have ke := fun W1 : World => empty_c a b c d W1
    by_cases he : Pl.emptyB a b c d = true
    · rw [he] at ke
      have hr : R = ⟨0, 0, 0, 0⟩ := by rw [HR.out]; exact Pl.gridR_no (fun h => by have := h.2.1; rw [he] at this; exact Bool.noConfusion this)
      clear hv he
      subst hr
      go_enter Try.func22, Try.ntmps22
      go_wp2_with (first | (go_at_call 32; (with_reducible refine kv.mono ?_); rintro e w1 ⟨rfl, hb1⟩; have B1 := Lib.hid (show Below WB.heap.size WB w1 by rw [HWB.out]; exact hb1); have HX1 := Lib.hid (HX.out.below B1.out); have HY1 := Lib.hid (HY.out.below B1.out); obtain ⟨c0, c1, c2, c3⟩ := HX1.out.four; have f1 := HY1.out.free; obtain ⟨y0, y1, y2, y3⟩ := HY1.out.four; clear hb1) | (go_at_call 36; (with_reducible refine (ke _).mono ?_); rintro e w2 ⟨rfl, hb2⟩; have B2 := Lib.hid (B1.out.trans (hb2.mono B1.out.size)); clear y0 y1 y2 y3 f1; have HX2 := Lib.hid (HX.out.below B2.out); have HY2 := Lib.hid (HY.out.below B2.out); obtain ⟨d0, d1, d2, d3⟩ := HX2.out.four; obtain ⟨y0, y1, y2, y3⟩ := HY2.out.four; have f2 := HY2.out.free; clear hb2 c0 c1 c2 c3) | fail)
      refine bodyPost_ret (results_r rfl _ rfl (HY2.out.set4 _ _ _ _)) rfl ?_
      exact ⟨rfl, below4 (HB.out.trans (B2.out.mono HB.out.size)) (by omega) _ _ _ _⟩
    · have he' : Pl.emptyB a b c d = false := by simpa using he
      rw [he'] at ke
      by_cases g1 : ea < 0
      ·
        have hr : R = ⟨0, 0, 0, 0⟩ := by rw [HR.out]; exact Pl.gridR_no (fun h => by have := h.2.2.1; omega)
        clear hv he he'
        subst hr
        go_enter Try.func22, Try.ntmps22
        go_wp2_with (first | (go_at_call 32; (with_reducible refine kv.mono ?_); rintro e w1 ⟨rfl, hb1⟩; have B1 := Lib.hid (show Below WB.heap.size WB w1 by rw [HWB.out]; exact hb1); have HX1 := Lib.hid (HX.out.below B1.out); have HY1 := Lib.hid (HY.out.below B1.out); obtain ⟨c0, c1, c2, c3⟩ := HX1.out.four; have f1 := HY1.out.free; obtain ⟨y0, y1, y2, y3⟩ := HY1.out.four; clear hb1) | (go_at_call 36; (with_reducible refine (ke _).mono ?_); rintro e w2 ⟨rfl, hb2⟩; have B2 := Lib.hid (B1.out.trans (hb2.mono B1.out.size)); clear y0 y1 y2 y3 f1; have HX2 := Lib.hid (HX.out.below B2.out); have HY2 := Lib.hid (HY.out.below B2.out); obtain ⟨d0, d1, d2, d3⟩ := HX2.out.four; obtain ⟨y0, y1, y2, y3⟩ := HY2.out.four; have f2 := HY2.out.free; clear hb2 c0 c1 c2 c3) | fail)
        refine bodyPost_ret (results_r rfl _ rfl (HY2.out.set4 _ _ _ _)) rfl ?_
        exact ⟨rfl, below4 (HB.out.trans (B2.out.mono HB.out.size)) (by omega) _ _ _ _⟩
      · by_cases g2 : m < ea
        ·
          have hr : R = ⟨0, 0, 0, 0⟩ := by rw [HR.out]; exact Pl.gridR_no (fun h => by have := h.2.2.2.1; omega)
          clear hv he he'
          subst hr
          go_enter Try.func22, Try.ntmps22
          go_wp2_with (first | (go_at_call 32; (with_reducible refine kv.mono ?_); rintro e w1 ⟨rfl, hb1⟩; have B1 := Lib.hid (show Below WB.heap.size WB w1 by rw [HWB.out]; exact hb1); have HX1 := Lib.hid (HX.out.below B1.out); have HY1 := Lib.hid (HY.out.below B1.out); obtain ⟨c0, c1, c2, c3⟩ := HX1.out.four; have f1 := HY1.out.free; obtain ⟨y0, y1, y2, y3⟩ := HY1.out.four; clear hb1) | (go_at_call 36; (with_reducible refine (ke _).mono ?_); rintro e w2 ⟨rfl, hb2⟩; have B2 := Lib.hid (B1.out.trans (hb2.mono B1.out.size)); clear y0 y1 y2 y3 f1; have HX2 := Lib.hid (HX.out.below B2.out); have HY2 := Lib.hid (HY.out.below B2.out); obtain ⟨d0, d1, d2, d3⟩ := HX2.out.four; obtain ⟨y0, y1, y2, y3⟩ := HY2.out.four; have f2 := HY2.out.free; clear hb2 c0 c1 c2 c3) | fail)
          refine bodyPost_ret (results_r rfl _ rfl (HY2.out.set4 _ _ _ _)) rfl ?_
          exact ⟨rfl, below4 (HB.out.trans (B2.out.mono HB.out.size)) (by omega) _ _ _ _⟩
        · by_cases g3 : eb < 0
          ·
            have hr : R = ⟨0, 0, 0, 0⟩ := by rw [HR.out]; exact Pl.gridR_no (fun h => by have := h.2.2.2.2.1; omega)
            clear hv he he'
            subst hr
            go_enter Try.func22, Try.ntmps22
            go_wp2_with (first | (go_at_call 32; (with_reducible refine kv.mono ?_); rintro e w1 ⟨rfl, hb1⟩; have B1 := Lib.hid (show Below WB.heap.size WB w1 by rw [HWB.out]; exact hb1); have HX1 := Lib.hid (HX.out.below B1.out); have HY1 := Lib.hid (HY.out.below B1.out); obtain ⟨c0, c1, c2, c3⟩ := HX1.out.four; have f1 := HY1.out.free; obtain ⟨y0, y1, y2, y3⟩ := HY1.out.four; clear hb1) | (go_at_call 36; (with_reducible refine (ke _).mono ?_); rintro e w2 ⟨rfl, hb2⟩; have B2 := Lib.hid (B1.out.trans (hb2.mono B1.out.size)); clear y0 y1 y2 y3 f1; have HX2 := Lib.hid (HX.out.below B2.out); have HY2 := Lib.hid (HY.out.below B2.out); obtain ⟨d0, d1, d2, d3⟩ := HX2.out.four; obtain ⟨y0, y1, y2, y3⟩ := HY2.out.four; have f2 := HY2.out.free; clear hb2 c0 c1 c2 c3) | fail)
            refine bodyPost_ret (results_r rfl _ rfl (HY2.out.set4 _ _ _ _)) rfl ?_
            exact ⟨rfl, below4 (HB.out.trans (B2.out.mono HB.out.size)) (by omega) _ _ _ _⟩
          · by_cases g4 : m < eb
            ·
              have hr : R = ⟨0, 0, 0, 0⟩ := by rw [HR.out]; exact Pl.gridR_no (fun h => by have := h.2.2.2.2.2.1; omega)
              clear hv he he'
              subst hr
              go_enter Try.func22, Try.ntmps22
              go_wp2_with (first | (go_at_call 32; (with_reducible refine kv.mono ?_); rintro e w1 ⟨rfl, hb1⟩; have B1 := Lib.hid (show Below WB.heap.size WB w1 by rw [HWB.out]; exact hb1); have HX1 := Lib.hid (HX.out.below B1.out); have HY1 := Lib.hid (HY.out.below B1.out); obtain ⟨c0, c1, c2, c3⟩ := HX1.out.four; have f1 := HY1.out.free; obtain ⟨y0, y1, y2, y3⟩ := HY1.out.four; clear hb1) | (go_at_call 36; (with_reducible refine (ke _).mono ?_); rintro e w2 ⟨rfl, hb2⟩; have B2 := Lib.hid (B1.out.trans (hb2.mono B1.out.size)); clear y0 y1 y2 y3 f1; have HX2 := Lib.hid (HX.out.below B2.out); have HY2 := Lib.hid (HY.out.below B2.out); obtain ⟨d0, d1, d2, d3⟩ := HX2.out.four; obtain ⟨y0, y1, y2, y3⟩ := HY2.out.four; have f2 := HY2.out.free; clear hb2 c0 c1 c2 c3) | fail)
              refine bodyPost_ret (results_r rfl _ rfl (HY2.out.set4 _ _ _ _)) rfl ?_
              exact ⟨rfl, below4 (HB.out.trans (B2.out.mono HB.out.size)) (by omega) _ _ _ _⟩
            · obtain ⟨sa, wa1, wa2, wa3⟩ := pw_facts (e := ea) (m := 12) (by omega) (by omega)
              obtain ⟨sb, wb1, wb2, wb3⟩ := pw_facts (e := eb) (m := 12) (by omega) (by omega)
              obtain ⟨v1, v2, v3, v4, v5, v6⟩ := Pl.valid_iff.1 hv
              obtain ⟨e1, e2⟩ := Pl.empty_not.1 he'
              have ax := Pl.axis (Pl.pw_pos ea) v1 e1 v3
              have ay := Pl.axis (Pl.pw_pos eb) v4 e2 v6
              have nx := Pl.nX_eq ax
              have ny := Pl.nX_eq ay
              have ar := Pl.area_grid ax ay
              have q1 := Pl.fd_nonneg (Pl.pw_pos ea) v1
              have q2 := Pl.fd_nonneg (Pl.pw_pos eb) v4
              have k1 := fun W1 : World => cd_cs c (Pl.pw ea) W1 (by omega) (by omega)
              have k2 := fun W1 : World => cd_cs d (Pl.pw eb) W1 (by omega) (by omega)
              have ka := fun W1 : World => area_c (Pl.fd a (Pl.pw ea)) (Pl.fd b (Pl.pw eb)) (Pl.cd c (Pl.pw ea)) (Pl.cd d (Pl.pw eb)) W1
              rw [ar] at ka
              by_cases hn : Pl.nX a c (Pl.pw ea) * Pl.nX b d (Pl.pw eb) ≤ 65536
              · have hr : R = ⟨Pl.fd a (Pl.pw ea), Pl.fd b (Pl.pw eb), Pl.cd c (Pl.pw ea), Pl.cd d (Pl.pw eb)⟩ := by rw [HR.out]; exact Pl.gridR_yes ⟨hv, he', by omega, by omega, by omega, by omega, hn⟩
                subst hr
                have t5 : ¬ ((65536 : Int) < ((Pl.nX a c (Pl.pw ea) * Pl.nX b d (Pl.pw eb) : Nat) : Int)) := by omega
                generalize ((Pl.nX a c (Pl.pw ea) * Pl.nX b d (Pl.pw eb) : Nat) : Int) = area at *
                clear hv he he' ax ay nx ny ar hn v1 v2 v3 v4 v5 v6 e1 e2 wa2 wa3 wb2 wb3
                generalize Pl.cd c (Pl.pw ea) = X1 at *
                generalize Pl.cd d (Pl.pw eb) = Y1 at *
                generalize Pl.fd a (Pl.pw ea) = X0 at *
                generalize Pl.fd b (Pl.pw eb) = Y0 at *
                generalize Pl.pw ea = wa at *
                generalize Pl.pw eb = wb at *
                replace q1 := q1.symm
                replace q2 := q2.symm
                go_enter Try.func22, Try.ntmps22
                go_wp2_with (first | (go_at_call 32; (with_reducible refine kv.mono ?_); rintro e w1 ⟨rfl, hb1⟩; have B1 := Lib.hid (show Below WB.heap.size WB w1 by rw [HWB.out]; exact hb1); have HX1 := Lib.hid (HX.out.below B1.out); have HY1 := Lib.hid (HY.out.below B1.out); obtain ⟨c0, c1, c2, c3⟩ := HX1.out.four; have f1 := HY1.out.free; obtain ⟨y0, y1, y2, y3⟩ := HY1.out.four; clear hb1) | (go_at_call 36; (with_reducible refine (ke _).mono ?_); rintro e w2 ⟨rfl, hb2⟩; have B2 := Lib.hid (B1.out.trans (hb2.mono B1.out.size)); clear y0 y1 y2 y3 f1; have HX2 := Lib.hid (HX.out.below B2.out); have HY2 := Lib.hid (HY.out.below B2.out); obtain ⟨d0, d1, d2, d3⟩ := HX2.out.four; obtain ⟨y0, y1, y2, y3⟩ := HY2.out.four; have f2 := HY2.out.free; clear hb2 c0 c1 c2 c3) | fail)
                have z0 : w2.cell? ⟨W.heap.size, 0, none⟩ = some (.int .i64 a) ∧ w2.cell? ⟨W.heap.size, 1, none⟩ = some (.int .i64 b) ∧ w2.cell? ⟨W.heap.size, 2, none⟩ = some (.int .i64 c) ∧ w2.cell? ⟨W.heap.size, 3, none⟩ = some (.int .i64 d) := ⟨d0, d1, d2, d3⟩
                have z0 := (show w2.drew.cell? ⟨W.heap.size, 0, none⟩ = some (.int .i64 a) ∧ w2.drew.cell? ⟨W.heap.size, 1, none⟩ = some (.int .i64 b) ∧ w2.drew.cell? ⟨W.heap.size, 2, none⟩ = some (.int .i64 c) ∧ w2.drew.cell? ⟨W.heap.size, 3, none⟩ = some (.int .i64 d) from z0)
                have z1 := (HX2.out.alloc (.cells #[.int .i64 0, .int .i64 0, .int .i64 0, .int .i64 0] 23)).drew.four
                have z2 := (HX2.out.alloc (.cells #[.int .i64 X0, .int .i64 Y0, .int .i64 X1, .int .i64 Y1] 23)).drew.four
                clear d0 d1 d2 d3 y0 y1 y2 y3
                go_region_held3 (fun w' => w'.cell? ⟨W.heap.size, 0, none⟩ = some (.int .i64 a) ∧ w'.cell? ⟨W.heap.size, 1, none⟩ = some (.int .i64 b) ∧ w'.cell? ⟨W.heap.size, 2, none⟩ = some (.int .i64 c) ∧ w'.cell? ⟨W.heap.size, 3, none⟩ = some (.int .i64 d))
                  (first | (with_reducible exact z0) | (with_reducible exact z1) | (with_reducible exact z2) | fail)
                  (first | (go_simp; go_at_call 37; (with_reducible refine (k1 _).mono ?_); rintro e wn ⟨rfl, rfl⟩) | (go_simp; go_at_call 37; (with_reducible refine (k2 _).mono ?_); rintro e wn ⟨rfl, rfl⟩) | fail)
                all_goals
                  clear z0 z1 z2 f2
                  have HZ3 := Lib.hid ((Blk.new w2 23 #[.int .i64 X0, .int .i64 Y0, .int .i64 X1, .int .i64 Y1]).drew)
                  have HY3 := Lib.hid ((HY2.out.alloc (.cells #[.int .i64 X0, .int .i64 Y0, .int .i64 X1, .int .i64 Y1] 23)).drew)
                  have B3 := Lib.hid (below_alloc (HB.out.trans (B2.out.mono HB.out.size)) (by have := HB.out.size; have := B2.out.size; omega) (.cells #[.int .i64 X0, .int .i64 Y0, .int .i64 X1, .int .i64 Y1] 23)).drew
                  generalize (w2.alloc (.cells #[.int .i64 X0, .int .i64 Y0, .int .i64 X1, .int .i64 Y1] 23)).drew = w3 at *
                  obtain ⟨c0, c1, c2, c3⟩ := HZ3.out.four
                  go_wp2_with (first | (go_at_call 38; (with_reducible refine (ka _).mono ?_); rintro e w4 ⟨rfl, hb4⟩; have B4 := Lib.hid (B3.out.trans (hb4.mono B3.out.size)); have HZ4 := Lib.hid (HZ3.out.below hb4); have HY4 := Lib.hid (HY3.out.below hb4); obtain ⟨d0, d1, d2, d3⟩ := HZ4.out.four; obtain ⟨y0, y1, y2, y3⟩ := HY4.out.four; have f4 := HY4.out.free; clear hb4 c0 c1 c2 c3) | fail)
                  refine bodyPost_ret (results_r rfl _ rfl (HY4.out.set4 _ _ _ _)) rfl ?_
                  exact ⟨rfl, below4 B4.out (by omega) _ _ _ _⟩
              · have hr : R = ⟨0, 0, 0, 0⟩ := by rw [HR.out]; exact Pl.gridR_no (fun h => hn h.2.2.2.2.2.2)
                subst hr
                have t5 : (65536 : Int) < ((Pl.nX a c (Pl.pw ea) * Pl.nX b d (Pl.pw eb) : Nat) : Int) := by omega
                generalize ((Pl.nX a c (Pl.pw ea) * Pl.nX b d (Pl.pw eb) : Nat) : Int) = area at *
                clear hv he he' ax ay nx ny ar hn v1 v2 v3 v4 v5 v6 e1 e2 wa2 wa3 wb2 wb3
                generalize Pl.cd c (Pl.pw ea) = X1 at *
                generalize Pl.cd d (Pl.pw eb) = Y1 at *
                generalize Pl.fd a (Pl.pw ea) = X0 at *
                generalize Pl.fd b (Pl.pw eb) = Y0 at *
                generalize Pl.pw ea = wa at *
                generalize Pl.pw eb = wb at *
                replace q1 := q1.symm
                replace q2 := q2.symm
                go_enter Try.func22, Try.ntmps22
                go_wp2_with (first | (go_at_call 32; (with_reducible refine kv.mono ?_); rintro e w1 ⟨rfl, hb1⟩; have B1 := Lib.hid (show Below WB.heap.size WB w1 by rw [HWB.out]; exact hb1); have HX1 := Lib.hid (HX.out.below B1.out); have HY1 := Lib.hid (HY.out.below B1.out); obtain ⟨c0, c1, c2, c3⟩ := HX1.out.four; have f1 := HY1.out.free; obtain ⟨y0, y1, y2, y3⟩ := HY1.out.four; clear hb1) | (go_at_call 36; (with_reducible refine (ke _).mono ?_); rintro e w2 ⟨rfl, hb2⟩; have B2 := Lib.hid (B1.out.trans (hb2.mono B1.out.size)); clear y0 y1 y2 y3 f1; have HX2 := Lib.hid (HX.out.below B2.out); have HY2 := Lib.hid (HY.out.below B2.out); obtain ⟨d0, d1, d2, d3⟩ := HX2.out.four; obtain ⟨y0, y1, y2, y3⟩ := HY2.out.four; have f2 := HY2.out.free; clear hb2 c0 c1 c2 c3) | fail)
                have z0 : w2.cell? ⟨W.heap.size, 0, none⟩ = some (.int .i64 a) ∧ w2.cell? ⟨W.heap.size, 1, none⟩ = some (.int .i64 b) ∧ w2.cell? ⟨W.heap.size, 2, none⟩ = some (.int .i64 c) ∧ w2.cell? ⟨W.heap.size, 3, none⟩ = some (.int .i64 d) := ⟨d0, d1, d2, d3⟩
                have z0 := (show w2.drew.cell? ⟨W.heap.size, 0, none⟩ = some (.int .i64 a) ∧ w2.drew.cell? ⟨W.heap.size, 1, none⟩ = some (.int .i64 b) ∧ w2.drew.cell? ⟨W.heap.size, 2, none⟩ = some (.int .i64 c) ∧ w2.drew.cell? ⟨W.heap.size, 3, none⟩ = some (.int .i64 d) from z0)
                have z1 := (HX2.out.alloc (.cells #[.int .i64 0, .int .i64 0, .int .i64 0, .int .i64 0] 23)).drew.four
                have z2 := (HX2.out.alloc (.cells #[.int .i64 X0, .int .i64 Y0, .int .i64 X1, .int .i64 Y1] 23)).drew.four
                clear d0 d1 d2 d3 y0 y1 y2 y3
                go_region_held3 (fun w' => w'.cell? ⟨W.heap.size, 0, none⟩ = some (.int .i64 a) ∧ w'.cell? ⟨W.heap.size, 1, none⟩ = some (.int .i64 b) ∧ w'.cell? ⟨W.heap.size, 2, none⟩ = some (.int .i64 c) ∧ w'.cell? ⟨W.heap.size, 3, none⟩ = some (.int .i64 d))
                  (first | (with_reducible exact z0) | (with_reducible exact z1) | (with_reducible exact z2) | fail)
                  (first | (go_simp; go_at_call 37; (with_reducible refine (k1 _).mono ?_); rintro e wn ⟨rfl, rfl⟩) | (go_simp; go_at_call 37; (with_reducible refine (k2 _).mono ?_); rintro e wn ⟨rfl, rfl⟩) | fail)
                all_goals
                  clear z0 z1 z2 f2
                  have HZ3 := Lib.hid ((Blk.new w2 23 #[.int .i64 X0, .int .i64 Y0, .int .i64 X1, .int .i64 Y1]).drew)
                  have HY3 := Lib.hid ((HY2.out.alloc (.cells #[.int .i64 X0, .int .i64 Y0, .int .i64 X1, .int .i64 Y1] 23)).drew)
                  have B3 := Lib.hid (below_alloc (HB.out.trans (B2.out.mono HB.out.size)) (by have := HB.out.size; have := B2.out.size; omega) (.cells #[.int .i64 X0, .int .i64 Y0, .int .i64 X1, .int .i64 Y1] 23)).drew
                  generalize (w2.alloc (.cells #[.int .i64 X0, .int .i64 Y0, .int .i64 X1, .int .i64 Y1] 23)).drew = w3 at *
                  obtain ⟨c0, c1, c2, c3⟩ := HZ3.out.four
                  go_wp2_with (first | (go_at_call 38; (with_reducible refine (ka _).mono ?_); rintro e w4 ⟨rfl, hb4⟩; have B4 := Lib.hid (B3.out.trans (hb4.mono B3.out.size)); have HZ4 := Lib.hid (HZ3.out.below hb4); have HY4 := Lib.hid (HY3.out.below hb4); obtain ⟨d0, d1, d2, d3⟩ := HZ4.out.four; obtain ⟨y0, y1, y2, y3⟩ := HY4.out.four; have f4 := HY4.out.free; clear hb4 c0 c1 c2 c3) | fail)
                  refine bodyPost_ret (results_r rfl _ rfl (HY4.out.set4 _ _ _ _)) rfl ?_
                  exact ⟨rfl, below4 B4.out (by omega) _ _ _ _⟩
  · have hv' : Pl.validB a b c d = false := by simpa using hv
    rw [hv'] at kv
    have hr : R = ⟨0, 0, 0, 0⟩ := by rw [HR.out]; exact Pl.gridR_no (fun h => hv h.1)
    clear hv hv'
    subst hr
    go_enter Try.func22, Try.ntmps22
    go_wp2_with (first | (go_at_call 32; (with_reducible refine kv.mono ?_); rintro e w1 ⟨rfl, hb1⟩; have B1 := Lib.hid (show Below WB.heap.size WB w1 by rw [HWB.out]; exact hb1); have HX1 := Lib.hid (HX.out.below B1.out); have HY1 := Lib.hid (HY.out.below B1.out); obtain ⟨c0, c1, c2, c3⟩ := HX1.out.four; have f1 := HY1.out.free; obtain ⟨y0, y1, y2, y3⟩ := HY1.out.four; clear hb1) | (go_at_call 36; (with_reducible refine (ke _).mono ?_); rintro e w2 ⟨rfl, hb2⟩; have B2 := Lib.hid (B1.out.trans (hb2.mono B1.out.size)); clear y0 y1 y2 y3 f1; have HX2 := Lib.hid (HX.out.below B2.out); have HY2 := Lib.hid (HY.out.below B2.out); obtain ⟨d0, d1, d2, d3⟩ := HX2.out.four; obtain ⟨y0, y1, y2, y3⟩ := HY2.out.four; have f2 := HY2.out.free; clear hb2 c0 c1 c2 c3) | fail)
    refine bodyPost_ret (results_r rfl _ rfl (HY1.out.set4 _ _ _ _)) rfl ?_
    exact ⟨rfl, below4 (HB.out.trans (B1.out.mono HB.out.size)) (by omega) _ _ _ _⟩
end Go.Proofs.Ytcdjkofgnelgeaa
