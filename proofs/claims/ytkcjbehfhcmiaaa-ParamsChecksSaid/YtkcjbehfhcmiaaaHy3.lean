/-
  Layer 6 (code): contract of Band.
-/
import Derived.Test.YtkcjbehfhcmiaaaHy2
set_option maxRecDepth 100000
namespace Go.Proofs.Ytkcjbehfhcmiaaa
open Go.RowKit

theorem bnds_eq (r : Pl.R) : Dw.bnds r 1 = Hp.bdR r 1 ∧ Dw.bnds r 2 = Hp.bdR r 2 ∧ Dw.bnds r 3 = Hp.bdR r 3 := by
  refine ⟨?_, ?_, ?_⟩ <;>
  · unfold Dw.bnds Hp.bdR
    split <;> simp [Dw.bndR, Dw.orH, Dw.orV, Hp.hfI, Dw.hfI]
theorem ix1 (F : Nat → Pl.R) (w : World) : (Instr.index 106 (.agg #[.int .i64 (F 0).x0, .int .i64 (F 0).y0, .int .i64 (F 0).x1, .int .i64 (F 0).y1, .int .i64 (F 1).x0, .int .i64 (F 1).y0, .int .i64 (F 1).x1, .int .i64 (F 1).y1, .int .i64 (F 2).x0, .int .i64 (F 2).y0, .int .i64 (F 2).x1, .int .i64 (F 2).y1, .int .i64 (F 3).x0, .int .i64 (F 3).y0, .int .i64 (F 3).x1, .int .i64 (F 3).y1]) (.int .i64 1)).run Try.prog w = .ok (.agg #[.int .i64 (F 1).x0, .int .i64 (F 1).y0, .int .i64 (F 1).x1, .int .i64 (F 1).y1]) w := by kernel_rfl
theorem ix2 (F : Nat → Pl.R) (w : World) : (Instr.index 106 (.agg #[.int .i64 (F 0).x0, .int .i64 (F 0).y0, .int .i64 (F 0).x1, .int .i64 (F 0).y1, .int .i64 (F 1).x0, .int .i64 (F 1).y0, .int .i64 (F 1).x1, .int .i64 (F 1).y1, .int .i64 (F 2).x0, .int .i64 (F 2).y0, .int .i64 (F 2).x1, .int .i64 (F 2).y1, .int .i64 (F 3).x0, .int .i64 (F 3).y0, .int .i64 (F 3).x1, .int .i64 (F 3).y1]) (.int .i64 2)).run Try.prog w = .ok (.agg #[.int .i64 (F 2).x0, .int .i64 (F 2).y0, .int .i64 (F 2).x1, .int .i64 (F 2).y1]) w := by kernel_rfl
theorem ix3 (F : Nat → Pl.R) (w : World) : (Instr.index 106 (.agg #[.int .i64 (F 0).x0, .int .i64 (F 0).y0, .int .i64 (F 0).x1, .int .i64 (F 0).y1, .int .i64 (F 1).x0, .int .i64 (F 1).y0, .int .i64 (F 1).x1, .int .i64 (F 1).y1, .int .i64 (F 2).x0, .int .i64 (F 2).y0, .int .i64 (F 2).x1, .int .i64 (F 2).y1, .int .i64 (F 3).x0, .int .i64 (F 3).y0, .int .i64 (F 3).x1, .int .i64 (F 3).y1]) (.int .i64 3)).run Try.prog w = .ok (.agg #[.int .i64 (F 3).x0, .int .i64 (F 3).y0, .int .i64 (F 3).x1, .int .i64 (F 3).y1]) w := by kernel_rfl
set_option maxHeartbeats 4000000 in
theorem band_y (r : Pl.R) (lev idx : Int) (W : World) : Calls Try.prog 74 #[.agg #[.int .i64 r.x0, .int .i64 r.y0, .int .i64 r.x1, .int .i64 r.y1], .int .i64 lev, .int .i64 idx] W fun e w' => e = .returned (.agg (rv (Hp.banR r lev idx))) ∧ Below W.heap.size W w' := by
  obtain ⟨WB, hWB⟩ : ∃ ww, ww = ((W.alloc (.cells #[.int .i64 r.x0, .int .i64 r.y0, .int .i64 r.x1, .int .i64 r.y1] 23)).alloc (.cells #[.int .i64 0, .int .i64 0, .int .i64 0, .int .i64 0] 23)) := ⟨_, rfl⟩
  have hb0 : Below W.heap.size W WB := by rw [hWB]; exact (below_alloc (below_alloc (Below.refl _ W) (Nat.le_refl _) _) (by simp <;> omega) _)
  have B0 := Lib.hid hb0
  have hX : Blk WB (W.heap.size) 23 #[.int .i64 r.x0, .int .i64 r.y0, .int .i64 r.x1, .int .i64 r.y1] := by
    have := Blk.new (W) 23 #[.int .i64 r.x0, .int .i64 r.y0, .int .i64 r.x1, .int .i64 r.y1]
    rw [hWB]
    exact ((show Blk _ (W.heap.size) _ _ by simpa using this)).alloc _
  have HX0 := Lib.hid hX
  have hY : Blk WB (W.heap.size + 1) 23 #[.int .i64 0, .int .i64 0, .int .i64 0, .int .i64 0] := by
    have := Blk.new ((W.alloc (.cells #[.int .i64 r.x0, .int .i64 r.y0, .int .i64 r.x1, .int .i64 r.y1] 23))) 23 #[.int .i64 0, .int .i64 0, .int .i64 0, .int .i64 0]
    rw [hWB]
    exact (show Blk _ (W.heap.size + 1) _ _ by simpa using this)
  have HY0 := Lib.hid hY
  have HWB := Lib.hid hWB
  clear hb0 hWB hX hY
  have kp := place_y idx lev WB
  have HM := Lib.hid (show Hp.banR r lev idx = if Hp.okI idx lev = false then ⟨0, 0, 0, 0⟩ else if idx = 0 then Hp.resR r lev 0 else Hp.bdR (Hp.resR r lev (Hp.rsI idx)) (Hp.orI idx lev) from rfl)
  have HW2 := HWB.out
  clear HWB
  cases hk : Hp.okI idx lev with
  | false =>
    rw [HM.out, if_pos hk]
    rw [show Hp.lvI idx lev = 0 from if_neg (by rw [hk]; decide), show Hp.orI idx lev = 0 from if_neg (by rw [hk]; decide), hk] at kp
    obtain ⟨y0, y1, y2, y3⟩ := HY0.out.four
    have yf := HY0.out.free
    clear HM hk
    go_enter Try.func74, Try.ntmps74
    go_upto_region 1 with fail
    rw [← HW2]
    clear HW2
    go_wp2_with (first | (go_at_call 100; (with_reducible refine kp.mono ?_); rintro e wn ⟨rfl, rfl⟩) | fail)
    refine bodyPost_ret (results_r rfl _ rfl (HY0.out.set4 _ _ _ _)) rfl ?_
    exact ⟨rfl, below4 B0.out (by omega) _ _ _ _⟩
  | true =>
    obtain ⟨k1, k2⟩ := ok_iff.1 hk
    obtain ⟨c1, c2, c3⟩ := cnt_pos k1 k2
    by_cases h0 : idx = 0
    · subst h0
      rw [HM.out, if_neg (by rw [hk]; decide), if_pos rfl]
      rw [show Hp.lvI 0 lev = lev by unfold Hp.lvI; rw [if_pos hk, if_pos rfl], show Hp.orI 0 lev = 0 by unfold Hp.orI; rw [if_pos hk, if_pos rfl], hk] at kp
      have kr := reso_y r lev 0 WB
      generalize Hp.resR r lev 0 = Q at *
      dsimp only [rv] at kr
      obtain ⟨x0, x1, x2, x3⟩ := HX0.out.four
      clear HM hk k2
      go_enter Try.func74, Try.ntmps74
      go_upto_region 1 with fail
      rw [← HW2]
      clear HW2
      go_wp2_with (first | (go_at_call 100; (with_reducible refine kp.mono ?_); rintro e wn ⟨rfl, rfl⟩) | (go_at_call 68; (with_reducible refine kr.mono ?_); rintro e w1 ⟨rfl, hb1⟩; have HY1 := Lib.hid (HY0.out.below hb1); have B1 := Lib.hid (B0.out.trans (hb1.mono B0.out.size)); obtain ⟨y0, y1, y2, y3⟩ := HY1.out.four; have yf := HY1.out.free; clear hb1) | fail)
      refine bodyPost_ret (results_r rfl _ rfl (HY1.out.set4 _ _ _ _)) rfl ?_
      exact ⟨rfl, below4 B1.out (by omega) _ _ _ _⟩
    · have hL : Hp.lvI idx lev = lev - Hp.rsI idx + 1 := by unfold Hp.lvI; rw [if_pos hk, if_neg h0]
      have hO : Hp.orI idx lev = idx - 3 * Hp.rsI idx + 3 := by unfold Hp.orI; rw [if_pos hk, if_neg h0]
      rw [HM.out, if_neg (by rw [hk]; decide), if_neg h0]
      rw [hL, hk] at kp
      have r1 : 1 ≤ Hp.rsI idx ∧ Hp.rsI idx ≤ 6 ∧ 3 * Hp.rsI idx ≤ idx + 2 ∧ idx ≤ 3 * Hp.rsI idx := by unfold Hp.rsI; omega
      have hO3 : Hp.orI idx lev = 1 ∨ Hp.orI idx lev = 2 ∨ Hp.orI idx lev = 3 := by omega
      have kr := reso_y r lev (Hp.rsI idx) WB
      have kb := fun W1 : World => Dw.bands_q (Hp.resR r lev (Hp.rsI idx)).x0 (Hp.resR r lev (Hp.rsI idx)).y0 (Hp.resR r lev (Hp.rsI idx)).x1 (Hp.resR r lev (Hp.rsI idx)).y1 W1
      have kq : Dw.bnds ⟨(Hp.resR r lev (Hp.rsI idx)).x0, (Hp.resR r lev (Hp.rsI idx)).y0, (Hp.resR r lev (Hp.rsI idx)).x1, (Hp.resR r lev (Hp.rsI idx)).y1⟩ = Dw.bnds (Hp.resR r lev (Hp.rsI idx)) := rfl
      rw [kq] at kb
      clear kq
      obtain ⟨e1, e2, e3⟩ := bnds_eq (Hp.resR r lev (Hp.rsI idx))
      rw [Dw.arr4_get] at kb
      have w1 : IntKind.i64.wrap (lev - (lev - Hp.rsI idx + 1)) = Hp.rsI idx - 1 := by rw [IntWalk.i64_in _ (by omega)]; omega
      have w2 : IntKind.i64.wrap (Hp.rsI idx - 1 + 1) = Hp.rsI idx := by rw [IntWalk.i64_in _ (by omega)]; omega
      have w3 : IntKind.i64.wrap (Hp.rsI idx) = Hp.rsI idx := IntWalk.i64_in _ (by omega)
      generalize Hp.resR r lev (Hp.rsI idx) = Q at *
      dsimp only [rv] at kr
      generalize Hp.rsI idx = RS at *
      generalize lev - RS + 1 = LV at *
      generalize Hp.orI idx lev = OR at *
      obtain ⟨x0, x1, x2, x3⟩ := HX0.out.four
      clear HM hk k1 k2 hL hO r1 h0 c1 c2 c3
      rcases hO3 with rfl | rfl | rfl
      · rw [← e1]
        clear e1 e2 e3
        generalize Dw.bnds Q = F at *
        have hix := ix1 F
        go_enter Try.func74, Try.ntmps74
        go_upto_region 1 with fail
        rw [← HW2]
        clear HW2
        go_wp2_with (first | (go_at_call 100; (with_reducible refine kp.mono ?_); rintro e wn ⟨rfl, rfl⟩) | (go_at_call 68; (with_reducible refine kr.mono ?_); rintro e w1 ⟨rfl, hb1⟩; have HY1 := Lib.hid (HY0.out.below hb1); have B1 := Lib.hid (B0.out.trans (hb1.mono B0.out.size)); clear hb1) | (go_at_call 101; (with_reducible refine (kb _).mono ?_); rintro e w2 ⟨rfl, hb2⟩; have HY2 := Lib.hid (HY1.out.below hb2); have B2 := Lib.hid (B1.out.trans (hb2.mono B1.out.size)); obtain ⟨y0, y1, y2, y3⟩ := HY2.out.four; have yf := HY2.out.free; clear hb2) | fail)
        refine bodyPost_ret (results_r rfl _ rfl (HY2.out.set4 _ _ _ _)) rfl ?_
        exact ⟨rfl, below4 B2.out (by omega) _ _ _ _⟩
      · rw [← e2]
        clear e1 e2 e3
        generalize Dw.bnds Q = F at *
        have hix := ix2 F
        go_enter Try.func74, Try.ntmps74
        go_upto_region 1 with fail
        rw [← HW2]
        clear HW2
        go_wp2_with (first | (go_at_call 100; (with_reducible refine kp.mono ?_); rintro e wn ⟨rfl, rfl⟩) | (go_at_call 68; (with_reducible refine kr.mono ?_); rintro e w1 ⟨rfl, hb1⟩; have HY1 := Lib.hid (HY0.out.below hb1); have B1 := Lib.hid (B0.out.trans (hb1.mono B0.out.size)); clear hb1) | (go_at_call 101; (with_reducible refine (kb _).mono ?_); rintro e w2 ⟨rfl, hb2⟩; have HY2 := Lib.hid (HY1.out.below hb2); have B2 := Lib.hid (B1.out.trans (hb2.mono B1.out.size)); obtain ⟨y0, y1, y2, y3⟩ := HY2.out.four; have yf := HY2.out.free; clear hb2) | fail)
        refine bodyPost_ret (results_r rfl _ rfl (HY2.out.set4 _ _ _ _)) rfl ?_
        exact ⟨rfl, below4 B2.out (by omega) _ _ _ _⟩
      · rw [← e3]
        clear e1 e2 e3
        generalize Dw.bnds Q = F at *
        have hix := ix3 F
        go_enter Try.func74, Try.ntmps74
        go_upto_region 1 with fail
        rw [← HW2]
        clear HW2
        go_wp2_with (first | (go_at_call 100; (with_reducible refine kp.mono ?_); rintro e wn ⟨rfl, rfl⟩) | (go_at_call 68; (with_reducible refine kr.mono ?_); rintro e w1 ⟨rfl, hb1⟩; have HY1 := Lib.hid (HY0.out.below hb1); have B1 := Lib.hid (B0.out.trans (hb1.mono B0.out.size)); clear hb1) | (go_at_call 101; (with_reducible refine (kb _).mono ?_); rintro e w2 ⟨rfl, hb2⟩; have HY2 := Lib.hid (HY1.out.below hb2); have B2 := Lib.hid (B1.out.trans (hb2.mono B1.out.size)); obtain ⟨y0, y1, y2, y3⟩ := HY2.out.four; have yf := HY2.out.free; clear hb2) | fail)
        refine bodyPost_ret (results_r rfl _ rfl (HY2.out.set4 _ _ _ _)) rfl ?_
        exact ⟨rfl, below4 B2.out (by omega) _ _ _ _⟩
end Go.Proofs.Ytkcjbehfhcmiaaa
