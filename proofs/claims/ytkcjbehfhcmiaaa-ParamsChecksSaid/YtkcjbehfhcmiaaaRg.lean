/-
  Layer 23 (reference): contract of Grid.
-/
import Derived.Test.YtkcjbehfhcmiaaaRk
import Derived.Test.YtkcjbehfhcmiaaaHn
set_option maxRecDepth 100000
namespace Go.Proofs.Ytkcjbehfhcmiaaa
open Go.RowKit

theorem pw_all {a : Int} (ha : 0 ≤ a ∧ a ≤ 12) : wrap64 (2 ^ min a.toNat 64) = Pl.pw a ∧ IntKind.i64.wrap (2 ^ a.toNat) = Pl.pw a ∧ wrap64 (2 ^ a.toNat) = Pl.pw a ∧ 1 ≤ Pl.pw a ∧ Pl.pw a ≤ 4096 := by
  obtain ⟨sa, wa1, wa2, wa3⟩ := pw_facts (e := a) (m := 12) (by omega) (by omega)
  refine ⟨?_, ?_, ?_, wa2, wa3⟩
  · rw [show min a.toNat 64 = a.toNat by omega, sa, ← IntWalk.i64_left]; exact wa1
  · rw [sa]; exact wa1
  · rw [sa, ← IntWalk.i64_left]; exact wa1
theorem grid_bd {r : Pl.R} {a b : Int} (hv : Pl.validB r.x0 r.y0 r.x1 r.y1 = true) : 0 ≤ Hp.gridN r ⟨a, b⟩ ∧ Hp.gridN r ⟨a, b⟩ ≤ 16777216 := by
  obtain ⟨v1, v2, v3, v4, v5, v6⟩ := Pl.valid_iff.1 hv
  rw [Hp.grid_cells]
  show 0 ≤ Hp.cellsI r.x0 r.x1 (Pl.pw a) * Hp.cellsI r.y0 r.y1 (Pl.pw b) ∧ Hp.cellsI r.x0 r.x1 (Pl.pw a) * Hp.cellsI r.y0 r.y1 (Pl.pw b) ≤ 16777216
  have x1 := Hp.cellsI_nn (Pl.pw_pos a) v1 v3
  have x2 := Hp.cellsI_nn (Pl.pw_pos b) v4 v6
  have p1 := Int.mul_nonneg x1.1 x2.1
  have p2 := Int.mul_le_mul x1.2 x2.2 x2.1 (by decide)
  exact ⟨p1, by omega⟩
theorem mul_wrap4 {x y : Int} (hx : -4096 ≤ x ∧ x ≤ 4096) (hy : -4096 ≤ y ∧ y ≤ 4096) : wrap64 (x * y) = x * y ∧ IntKind.i64.wrap (x * y) = x * y := by
  have h1 : -16777216 ≤ x * y ∧ x * y ≤ 16777216 := by
    have a1 := Int.mul_le_mul_of_nonneg_right (show x ≤ 4096 by omega) (show (0 : Int) ≤ 4096 by decide)
    rcases Int.le_total 0 y with h | h
    · have b1 := Int.mul_le_mul_of_nonneg_right hx.2 h
      have b2 := Int.mul_le_mul_of_nonneg_right hx.1 h
      omega
    · have b1 := Int.mul_le_mul_of_nonpos_right hx.2 h
      have b2 := Int.mul_le_mul_of_nonpos_right hx.1 h
      omega
  exact ⟨IntWalk.wrap64_in _ ⟨by omega, by omega⟩, IntWalk.i64_in _ (by omega)⟩
set_option maxHeartbeats 4000000 in
theorem rgrid_c (r : Pl.R) (a b : Int) (W : World) (hv : Pl.validB r.x0 r.y0 r.x1 r.y1 = true) (ha : 0 ≤ a ∧ a ≤ 12) (hb : 0 ≤ b ∧ b ≤ 12) : Calls Try.prog 85 #[.agg #[.int .i64 r.x0, .int .i64 r.y0, .int .i64 r.x1, .int .i64 r.y1], .int .i64 a, .int .i64 b] W fun e w' => e = .returned (.int .i64 (Hp.gridN r ⟨a, b⟩)) ∧ Below W.heap.size W w' := by
  obtain ⟨WB, hWB⟩ : ∃ ww, ww = (W.alloc (.cells #[.int .i64 r.x0, .int .i64 r.y0, .int .i64 r.x1, .int .i64 r.y1] 23)) := ⟨_, rfl⟩
  have hb0 : Below W.heap.size W WB := by rw [hWB]; exact (below_alloc (Below.refl _ W) (Nat.le_refl _) _)
  have B0 := Lib.hid hb0
  have HR0 := Lib.hid (show Blk WB W.heap.size 23 #[.int .i64 r.x0, .int .i64 r.y0, .int .i64 r.x1, .int .i64 r.y1] by rw [hWB]; exact Blk.new _ _ _)
  have HW2 := hWB
  have ke := fun W1 : World => empty_r r.x0 r.y0 r.x1 r.y1 W1
  have HG := Lib.hid (show Hp.gridN r ⟨a, b⟩ = if Hp.emR r = true then 0 else (Pl.cd r.x1 (Pl.pw a) - Pl.fd r.x0 (Pl.pw a)) * (Pl.cd r.y1 (Pl.pw b) - Pl.fd r.y0 (Pl.pw b)) from rfl)
  obtain ⟨x0, x1, x2, x3⟩ := HR0.out.four
  clear hb0 hWB
  cases he : Pl.emptyB r.x0 r.y0 r.x1 r.y1 with
  | true =>
    rw [he] at ke
    rw [show Hp.gridN r ⟨a, b⟩ = 0 by rw [HG.out]; exact if_pos he]
    clear HG he
    go_enter Try.func85, Try.ntmps85
    go_upto_region 1 with fail
    rw [← HW2]
    clear HW2
    go_wp2_with (first | (go_at_call 78; (with_reducible refine (ke _).mono ?_); rintro e w1 ⟨rfl, hb1⟩; have B1 := Lib.hid (B0.out.trans (hb1.mono B0.out.size)); clear hb1) | fail)
    go_ret
    exact ⟨rfl, B1.out⟩
  | false =>
    rw [he] at ke
    rw [show Hp.gridN r ⟨a, b⟩ = (Pl.cd r.x1 (Pl.pw a) - Pl.fd r.x0 (Pl.pw a)) * (Pl.cd r.y1 (Pl.pw b) - Pl.fd r.y0 (Pl.pw b)) by rw [HG.out]; exact if_neg (by unfold Hp.emR; rw [he]; decide)]
    obtain ⟨v1, v2, v3, v4, v5, v6⟩ := Pl.valid_iff.1 hv
    obtain ⟨e1, e2⟩ := Pl.empty_not.1 he
    obtain ⟨pa1, pa2, pa3, pa4, pa5⟩ := pw_all ha
    obtain ⟨pb1, pb2, pb3, pb4, pb5⟩ := pw_all hb
    have z1 : ¬ a < 0 := by omega
    have z2 : ¬ b < 0 := by omega
    have z3 : 0 ≤ a := by omega
    have z4 : 0 ≤ b := by omega
    have k1 := fun W1 : World => cd_rs r.x1 (Pl.pw a) W1 (by omega) (by omega)
    have k2 := fun W1 : World => fd_rs r.x0 (Pl.pw a) W1 (by omega) (by omega)
    have k3 := fun W1 : World => cd_rs r.y1 (Pl.pw b) W1 (by omega) (by omega)
    have k4 := fun W1 : World => fd_rs r.y0 (Pl.pw b) W1 (by omega) (by omega)
    have b1 := cd_in pa4 v1 (by omega)
    have b2 := cd_in pa4 (show 0 ≤ r.x1 by omega) v3
    have b3 := cd_in pb4 v4 (by omega)
    have b4 := cd_in pb4 (show 0 ≤ r.y1 by omega) v6
    generalize Pl.cd r.x1 (Pl.pw a) = CC at *
    generalize Pl.fd r.x0 (Pl.pw a) = FA at *
    generalize Pl.cd r.y1 (Pl.pw b) = CD at *
    generalize Pl.fd r.y0 (Pl.pw b) = FB at *
    generalize Pl.pw a = PA at *
    generalize Pl.pw b = PB at *
    obtain ⟨N1, hN1⟩ : ∃ x, CC - FA = x := ⟨_, rfl⟩
    obtain ⟨N2, hN2⟩ : ∃ x, CD - FB = x := ⟨_, rfl⟩
    have y1 : IntKind.i64.wrap (CC - FA) = N1 := by rw [IntWalk.i64_in _ (by omega)]; exact hN1
    have y2 : IntKind.i64.wrap (CD - FB) = N2 := by rw [IntWalk.i64_in _ (by omega)]; exact hN2
    have hy3 := mul_wrap4 (x := N1) (y := N2) (by omega) (by omega)
    rw [hN1, hN2]
    obtain ⟨NN, hNN⟩ : ∃ x, N1 * N2 = x := ⟨_, rfl⟩
    have y3 : wrap64 (N1 * N2) = NN := hy3.1.trans hNN
    have y4 : IntKind.i64.wrap (N1 * N2) = NN := hy3.2.trans hNN
    rw [hNN]
    clear b1 b2 b3 b4 v1 v2 v3 v4 v5 v6 e1 e2 he HG hN1 hN2 hNN hy3 pa4 pa5 pb4 pb5 hv ha hb
    go_enter Try.func85, Try.ntmps85
    go_upto_region 1 with fail
    rw [← HW2]
    clear HW2
    go_upto_region 3 with (first | (go_at_call 78; (with_reducible refine (ke _).mono ?_); rintro e w1 ⟨rfl, hb1⟩; have B1 := Lib.hid (B0.out.trans (hb1.mono B0.out.size)); have HR1 := Lib.hid (HR0.out.below hb1); clear hb1) | fail)
    clear x0 x1 x2 x3
    obtain ⟨x0, x1, x2, x3⟩ := HR1.out.four
    go_quiet ((first | (go_at_call 83; with_reducible exact Calls.quiet_of_same (k1 _)) | (go_at_call 82; with_reducible exact Calls.quiet_of_same (k2 _)) | (go_at_call 83; with_reducible exact Calls.quiet_of_same (k3 _)) | (go_at_call 82; with_reducible exact Calls.quiet_of_same (k4 _))))
    obtain ⟨X, hX⟩ : ∃ X, X = w1.drewN nq := ⟨_, rfl⟩
    have HRX := Lib.hid (show Blk X W.heap.size 23 #[.int .i64 r.x0, .int .i64 r.y0, .int .i64 r.x1, .int .i64 r.y1] by rw [hX]; exact HR1.out)
    have BX := Lib.hid (show Below W.heap.size W X by rw [hX]; exact below_drewN B1.out _)
    rw [← hX]
    clear hX x0 x1 x2 x3
    obtain ⟨x0, x1, x2, x3⟩ := HRX.out.four
    go_upto_region 4 with fail
    go_quiet ((first | (go_at_call 83; with_reducible exact Calls.quiet_of_same (k1 _)) | (go_at_call 82; with_reducible exact Calls.quiet_of_same (k2 _)) | (go_at_call 83; with_reducible exact Calls.quiet_of_same (k3 _)) | (go_at_call 82; with_reducible exact Calls.quiet_of_same (k4 _))))
    go_wp2_with fail
    go_ret
    exact ⟨rfl, below_drewN BX.out _⟩
end Go.Proofs.Ytkcjbehfhcmiaaa
