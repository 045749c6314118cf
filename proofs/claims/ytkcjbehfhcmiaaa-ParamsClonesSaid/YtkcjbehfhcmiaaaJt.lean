/-
  Same on parameters: code and reference; Same of both.
-/
import Derived.Test.YtkcjbehfhcmiaaaJs
set_option maxRecDepth 100000
namespace Go.Proofs.Ytkcjbehfhcmiaaa
open Go.RowKit

def eqM (p q : Hp.Ps) : Bool := decide (p.m0 = q.m0 ∧ p.m1 = q.m1 ∧ p.m2 = q.m2 ∧ p.m3 = q.m3 ∧ p.m4 = q.m4)
def eqPs (p q : Hp.Ps) : Bool := decide (p.kern = q.kern) && decide (p.lev = q.lev) && decide (p.col = q.col) && decide (p.bx = q.bx) && decide (p.yb = q.yb) && decide (p.prec = q.prec) && decide (p.ord = q.ord) && decide (p.lay = q.lay) && eqM p q && decide (p.dv = q.dv) && decide (p.sy = q.sy) && decide (p.fe = q.fe) && decide (p.steps = q.steps) && decide (p.dead = q.dead) && decide (p.sh = q.sh)
theorem eqPs_self (p : Hp.Ps) : eqPs p p = true := by simp [eqPs, eqM]
theorem fieldsM : (Try.prog.fieldsOf 32).toList = [⟨"Bypass", 4, 0, false, "", "", 0⟩, ⟨"Restart", 4, 1, false, "", "", 1⟩, ⟨"Reset", 4, 2, false, "", "", 2⟩, ⟨"Causal", 4, 3, false, "", "", 3⟩, ⟨"Symbols", 4, 4, false, "", "", 4⟩] := by kernel_rfl
theorem eqMo (p q : Hp.Ps) (w : World) : (Op.equalIn 10000 32 (.agg #[.bool p.m0, .bool p.m1, .bool p.m2, .bool p.m3, .bool p.m4]) (.agg #[.bool q.m0, .bool q.m1, .bool q.m2, .bool q.m3, .bool q.m4])).run Try.prog w = .ok (eqM p q) w := by
  have hu : Try.prog.underlying 32 = some (.struct (Try.prog.fieldsOf 32)) := by kernel_rfl
  have hp : Try.prog.stoodInHeld 32 = false := by kernel_rfl
  have h4 : Try.prog.underlying 4 = some .bool := by kernel_rfl
  have hb := fun (x y : Bool) => run_equalIn_bool (P := Try.prog) w 9998 4 x y h4
  rw [run_equalIn_struct _ _ _ _ _ hu hp, fieldsM]
  simp only [Op.eqFields, part]
  simp [hb, eqM]
  repeat' split
  all_goals simp_all
set_option maxHeartbeats 16000000 in
theorem samePs_c (p q : Hp.Ps) (s s' s2 s2' : Option Addr) (m m' m2 m2' : Nat) (W : World) (l1 : p.prec.length ≤ 4398046511104) (l1' : q.prec.length ≤ 4398046511104) (l2 : p.steps.length ≤ 4398046511104) (l2' : q.steps.length ≤ 4398046511104) (hP : HoldsP W s p.prec) (hP' : HoldsP W s' q.prec) (hS : HoldsI W s2 p.steps) (hS' : HoldsI W s2' q.steps) :
    Calls Try.prog 50 #[.agg (pvA p s m s2 m2), .agg (pvA q s' m' s2' m2')] W fun e w' => e = .returned (.bool (eqPs p q)) ∧ Below W.heap.size W w' := by
  obtain ⟨WB, hWB⟩ : ∃ ww, ww = ((W.alloc (.cells (pvA p s m s2 m2) 35)).alloc (.cells (pvA q s' m' s2' m2') 35)) := ⟨_, rfl⟩
  have hb0 : Below W.heap.size W WB := by rw [hWB]; exact (below_alloc (below_alloc (Below.refl _ W) (Nat.le_refl _) _) (by simp <;> omega) _)
  have B0 := Lib.hid hb0
  have hA : Blk WB (W.heap.size) 35 (pvA p s m s2 m2) := by
    have := Blk.new (W) 35 (pvA p s m s2 m2)
    rw [hWB]
    exact ((show Blk _ (W.heap.size) _ _ by simpa using this)).alloc _
  have hB : Blk WB (W.heap.size + 1) 35 (pvA q s' m' s2' m2') := by
    have := Blk.new ((W.alloc (.cells (pvA p s m s2 m2) 35))) 35 (pvA q s' m' s2' m2')
    rw [hWB]
    exact (show Blk _ (W.heap.size + 1) _ _ by simpa using this)
  obtain ⟨a0, a1, a2, a3, a4, a5, a6, a7, a8, a9, a10, a11, a12, a13, a14, a15, a16, a17, a18⟩ := hA.ps
  obtain ⟨b0, b1, b2, b3, b4, b5, b6, b7, b8, b9, b10, b11, b12, b13, b14, b15, b16, b17, b18⟩ := hB.ps
  have P1 := Lib.hid (hP.below hb0 (Nat.le_refl _))
  have P2 := Lib.hid (hP'.below hb0 (Nat.le_refl _))
  have S1 := Lib.hid (hS.below hb0 (Nat.le_refl _))
  have S2 := Lib.hid (hS'.below hb0 (Nat.le_refl _))
  have heq := eqMo
  have HQ := Lib.hid (show eqPs p q = (decide (p.kern = q.kern) && decide (p.lev = q.lev) && decide (p.col = q.col) && decide (p.bx = q.bx) && decide (p.yb = q.yb) && decide (p.prec = q.prec) && decide (p.ord = q.ord) && decide (p.lay = q.lay) && eqM p q && decide (p.dv = q.dv) && decide (p.sy = q.sy) && decide (p.fe = q.fe) && decide (p.steps = q.steps) && decide (p.dead = q.dead) && decide (p.sh = q.sh)) from rfl)
  have HW2 := hWB
  clear hb0 hWB hA hB hP hP' hS hS'
  unfold pvA at HW2 ⊢
  have kprec := equalP_c s s' m m' p.prec q.prec WB l1 l1' P1.out P2.out
  have ksteps := fun n : Nat => equalI_c s2 s2' m2 m2' p.steps q.steps (WB.drewN n) l2 l2' S1.out S2.out
  by_cases e0 : p.kern = q.kern
  case neg =>
    have t0 : (p.kern == q.kern) = false := by simpa using e0
    have u0 : (p.kern != q.kern) = true := by simpa using e0
    rw [show eqPs p q = false by rw [HQ.out]; simp [e0]]
    clear HQ e0 P1 P2 S1 S2
    go_enter Try.func50, Try.ntmps50
    go_upto_region 1 with fail
    rw [← HW2]
    clear HW2
    go_wp2_with (first | (go_at_call 94; (with_reducible refine kprec.mono ?_); rintro e wn ⟨rfl, nn, rfl⟩) | (go_at_call 95; (with_reducible refine (ksteps _).mono ?_); rintro e wn ⟨rfl, nn2, rfl⟩) | fail)
    go_ret
    exact ⟨rfl, by first | exact B0.out | exact below_drewN B0.out _ | exact below_drewN (below_drewN B0.out _) _⟩
  case pos =>
    have t0 : (p.kern == q.kern) = true := by simpa using e0
    have u0 : (p.kern != q.kern) = false := by simpa using e0
    have E0 := Lib.hid e0
    clear e0
    by_cases e1 : p.lev = q.lev
    case neg =>
      have t1 : (p.lev == q.lev) = false := by simpa using e1
      have u1 : (p.lev != q.lev) = true := by simpa using e1
      rw [show eqPs p q = false by rw [HQ.out]; simp [e1]]
      clear HQ e1 P1 P2 S1 S2
      go_enter Try.func50, Try.ntmps50
      go_upto_region 1 with fail
      rw [← HW2]
      clear HW2
      go_wp2_with (first | (go_at_call 94; (with_reducible refine kprec.mono ?_); rintro e wn ⟨rfl, nn, rfl⟩) | (go_at_call 95; (with_reducible refine (ksteps _).mono ?_); rintro e wn ⟨rfl, nn2, rfl⟩) | fail)
      go_ret
      exact ⟨rfl, by first | exact B0.out | exact below_drewN B0.out _ | exact below_drewN (below_drewN B0.out _) _⟩
    case pos =>
      have t1 : (p.lev == q.lev) = true := by simpa using e1
      have u1 : (p.lev != q.lev) = false := by simpa using e1
      have E1 := Lib.hid e1
      clear e1
      by_cases e2 : p.col = q.col
      case neg =>
        have t2 : (p.col == q.col) = false := by simpa using e2
        have u2 : (p.col != q.col) = true := by simpa using e2
        rw [show eqPs p q = false by rw [HQ.out]; simp [e2]]
        clear HQ e2 P1 P2 S1 S2
        go_enter Try.func50, Try.ntmps50
        go_upto_region 1 with fail
        rw [← HW2]
        clear HW2
        go_wp2_with (first | (go_at_call 94; (with_reducible refine kprec.mono ?_); rintro e wn ⟨rfl, nn, rfl⟩) | (go_at_call 95; (with_reducible refine (ksteps _).mono ?_); rintro e wn ⟨rfl, nn2, rfl⟩) | fail)
        go_ret
        exact ⟨rfl, by first | exact B0.out | exact below_drewN B0.out _ | exact below_drewN (below_drewN B0.out _) _⟩
      case pos =>
        have t2 : (p.col == q.col) = true := by simpa using e2
        have u2 : (p.col != q.col) = false := by simpa using e2
        have E2 := Lib.hid e2
        clear e2
        by_cases e3 : p.bx = q.bx
        case neg =>
          have t3 : (p.bx == q.bx) = false := by simpa using e3
          have u3 : (p.bx != q.bx) = true := by simpa using e3
          rw [show eqPs p q = false by rw [HQ.out]; simp [e3]]
          clear HQ e3 P1 P2 S1 S2
          go_enter Try.func50, Try.ntmps50
          go_upto_region 1 with fail
          rw [← HW2]
          clear HW2
          go_wp2_with (first | (go_at_call 94; (with_reducible refine kprec.mono ?_); rintro e wn ⟨rfl, nn, rfl⟩) | (go_at_call 95; (with_reducible refine (ksteps _).mono ?_); rintro e wn ⟨rfl, nn2, rfl⟩) | fail)
          go_ret
          exact ⟨rfl, by first | exact B0.out | exact below_drewN B0.out _ | exact below_drewN (below_drewN B0.out _) _⟩
        case pos =>
          have t3 : (p.bx == q.bx) = true := by simpa using e3
          have u3 : (p.bx != q.bx) = false := by simpa using e3
          have E3 := Lib.hid e3
          clear e3
          by_cases e4 : p.yb = q.yb
          case neg =>
            have t4 : (p.yb == q.yb) = false := by simpa using e4
            have u4 : (p.yb != q.yb) = true := by simpa using e4
            rw [show eqPs p q = false by rw [HQ.out]; simp [e4]]
            clear HQ e4 P1 P2 S1 S2
            go_enter Try.func50, Try.ntmps50
            go_upto_region 1 with fail
            rw [← HW2]
            clear HW2
            go_wp2_with (first | (go_at_call 94; (with_reducible refine kprec.mono ?_); rintro e wn ⟨rfl, nn, rfl⟩) | (go_at_call 95; (with_reducible refine (ksteps _).mono ?_); rintro e wn ⟨rfl, nn2, rfl⟩) | fail)
            go_ret
            exact ⟨rfl, by first | exact B0.out | exact below_drewN B0.out _ | exact below_drewN (below_drewN B0.out _) _⟩
          case pos =>
            have t4 : (p.yb == q.yb) = true := by simpa using e4
            have u4 : (p.yb != q.yb) = false := by simpa using e4
            have E4 := Lib.hid e4
            clear e4
            by_cases e5 : p.prec = q.prec
            case neg =>
              have t5 : decide (p.prec = q.prec) = false := by simpa using e5
              rw [t5] at kprec
              rw [show eqPs p q = false by rw [HQ.out]; simp [e5]]
              clear HQ e5 P1 P2 S1 S2
              go_enter Try.func50, Try.ntmps50
              go_upto_region 1 with fail
              rw [← HW2]
              clear HW2
              go_wp2_with (first | (go_at_call 94; (with_reducible refine kprec.mono ?_); rintro e wn ⟨rfl, nn, rfl⟩) | (go_at_call 95; (with_reducible refine (ksteps _).mono ?_); rintro e wn ⟨rfl, nn2, rfl⟩) | fail)
              go_ret
              exact ⟨rfl, by first | exact B0.out | exact below_drewN B0.out _ | exact below_drewN (below_drewN B0.out _) _⟩
            case pos =>
              have t5 : decide (p.prec = q.prec) = true := by simpa using e5
              rw [t5] at kprec
              have E5 := Lib.hid e5
              clear e5
              by_cases e6 : p.ord = q.ord
              case neg =>
                have t6 : (p.ord == q.ord) = false := by simpa using e6
                have u6 : (p.ord != q.ord) = true := by simpa using e6
                rw [show eqPs p q = false by rw [HQ.out]; simp [e6]]
                clear HQ e6 P1 P2 S1 S2
                go_enter Try.func50, Try.ntmps50
                go_upto_region 1 with fail
                rw [← HW2]
                clear HW2
                go_wp2_with (first | (go_at_call 94; (with_reducible refine kprec.mono ?_); rintro e wn ⟨rfl, nn, rfl⟩) | (go_at_call 95; (with_reducible refine (ksteps _).mono ?_); rintro e wn ⟨rfl, nn2, rfl⟩) | fail)
                go_ret
                exact ⟨rfl, by first | exact B0.out | exact below_drewN B0.out _ | exact below_drewN (below_drewN B0.out _) _⟩
              case pos =>
                have t6 : (p.ord == q.ord) = true := by simpa using e6
                have u6 : (p.ord != q.ord) = false := by simpa using e6
                have E6 := Lib.hid e6
                clear e6
                by_cases e7 : p.lay = q.lay
                case neg =>
                  have t7 : (p.lay == q.lay) = false := by simpa using e7
                  have u7 : (p.lay != q.lay) = true := by simpa using e7
                  rw [show eqPs p q = false by rw [HQ.out]; simp [e7]]
                  clear HQ e7 P1 P2 S1 S2
                  go_enter Try.func50, Try.ntmps50
                  go_upto_region 1 with fail
                  rw [← HW2]
                  clear HW2
                  go_wp2_with (first | (go_at_call 94; (with_reducible refine kprec.mono ?_); rintro e wn ⟨rfl, nn, rfl⟩) | (go_at_call 95; (with_reducible refine (ksteps _).mono ?_); rintro e wn ⟨rfl, nn2, rfl⟩) | fail)
                  go_ret
                  exact ⟨rfl, by first | exact B0.out | exact below_drewN B0.out _ | exact below_drewN (below_drewN B0.out _) _⟩
                case pos =>
                  have t7 : (p.lay == q.lay) = true := by simpa using e7
                  have u7 : (p.lay != q.lay) = false := by simpa using e7
                  have E7 := Lib.hid e7
                  clear e7
                  by_cases e8 : eqM p q = true
                  case neg =>
                    have t8 : eqM p q = false := by simpa using e8
                    rw [show eqPs p q = false by rw [HQ.out]; simp [e8]]
                    clear HQ e8 P1 P2 S1 S2
                    go_enter Try.func50, Try.ntmps50
                    go_upto_region 1 with fail
                    rw [← HW2]
                    clear HW2
                    go_wp2_with (first | (go_at_call 94; (with_reducible refine kprec.mono ?_); rintro e wn ⟨rfl, nn, rfl⟩) | (go_at_call 95; (with_reducible refine (ksteps _).mono ?_); rintro e wn ⟨rfl, nn2, rfl⟩) | fail)
                    go_ret
                    exact ⟨rfl, by first | exact B0.out | exact below_drewN B0.out _ | exact below_drewN (below_drewN B0.out _) _⟩
                  case pos =>
                    have t8 : eqM p q = true := by simpa using e8
                    have E8 := Lib.hid e8
                    clear e8
                    by_cases e9 : p.dv = q.dv
                    case neg =>
                      have t9 : (p.dv == q.dv) = false := by simpa using e9
                      have u9 : (p.dv != q.dv) = true := by simpa using e9
                      rw [show eqPs p q = false by rw [HQ.out]; simp [e9]]
                      clear HQ e9 P1 P2 S1 S2
                      go_enter Try.func50, Try.ntmps50
                      go_upto_region 1 with fail
                      rw [← HW2]
                      clear HW2
                      go_wp2_with (first | (go_at_call 94; (with_reducible refine kprec.mono ?_); rintro e wn ⟨rfl, nn, rfl⟩) | (go_at_call 95; (with_reducible refine (ksteps _).mono ?_); rintro e wn ⟨rfl, nn2, rfl⟩) | fail)
                      go_ret
                      exact ⟨rfl, by first | exact B0.out | exact below_drewN B0.out _ | exact below_drewN (below_drewN B0.out _) _⟩
                    case pos =>
                      have t9 : (p.dv == q.dv) = true := by simpa using e9
                      have u9 : (p.dv != q.dv) = false := by simpa using e9
                      have E9 := Lib.hid e9
                      clear e9
                      by_cases e10 : p.sy = q.sy
                      case neg =>
                        have t10 : (p.sy == q.sy) = false := by simpa using e10
                        have u10 : (p.sy != q.sy) = true := by simpa using e10
                        rw [show eqPs p q = false by rw [HQ.out]; simp [e10]]
                        clear HQ e10 P1 P2 S1 S2
                        go_enter Try.func50, Try.ntmps50
                        go_upto_region 1 with fail
                        rw [← HW2]
                        clear HW2
                        go_wp2_with (first | (go_at_call 94; (with_reducible refine kprec.mono ?_); rintro e wn ⟨rfl, nn, rfl⟩) | (go_at_call 95; (with_reducible refine (ksteps _).mono ?_); rintro e wn ⟨rfl, nn2, rfl⟩) | fail)
                        go_ret
                        exact ⟨rfl, by first | exact B0.out | exact below_drewN B0.out _ | exact below_drewN (below_drewN B0.out _) _⟩
                      case pos =>
                        have t10 : (p.sy == q.sy) = true := by simpa using e10
                        have u10 : (p.sy != q.sy) = false := by simpa using e10
                        have E10 := Lib.hid e10
                        clear e10
                        by_cases e11 : p.fe = q.fe
                        case neg =>
                          have t11 : (p.fe == q.fe) = false := by simpa using e11
                          have u11 : (p.fe != q.fe) = true := by simpa using e11
                          rw [show eqPs p q = false by rw [HQ.out]; simp [e11]]
                          clear HQ e11 P1 P2 S1 S2
                          go_enter Try.func50, Try.ntmps50
                          go_upto_region 1 with fail
                          rw [← HW2]
                          clear HW2
                          go_wp2_with (first | (go_at_call 94; (with_reducible refine kprec.mono ?_); rintro e wn ⟨rfl, nn, rfl⟩) | (go_at_call 95; (with_reducible refine (ksteps _).mono ?_); rintro e wn ⟨rfl, nn2, rfl⟩) | fail)
                          go_ret
                          exact ⟨rfl, by first | exact B0.out | exact below_drewN B0.out _ | exact below_drewN (below_drewN B0.out _) _⟩
                        case pos =>
                          have t11 : (p.fe == q.fe) = true := by simpa using e11
                          have u11 : (p.fe != q.fe) = false := by simpa using e11
                          have E11 := Lib.hid e11
                          clear e11
                          by_cases e12 : p.steps = q.steps
                          case neg =>
                            have t12 : decide (p.steps = q.steps) = false := by simpa using e12
                            rw [t12] at ksteps
                            rw [show eqPs p q = false by rw [HQ.out]; simp [e12]]
                            clear HQ e12 P1 P2 S1 S2
                            go_enter Try.func50, Try.ntmps50
                            go_upto_region 1 with fail
                            rw [← HW2]
                            clear HW2
                            go_wp2_with (first | (go_at_call 94; (with_reducible refine kprec.mono ?_); rintro e wn ⟨rfl, nn, rfl⟩) | (go_at_call 95; (with_reducible refine (ksteps _).mono ?_); rintro e wn ⟨rfl, nn2, rfl⟩) | fail)
                            go_ret
                            exact ⟨rfl, by first | exact B0.out | exact below_drewN B0.out _ | exact below_drewN (below_drewN B0.out _) _⟩
                          case pos =>
                            have t12 : decide (p.steps = q.steps) = true := by simpa using e12
                            rw [t12] at ksteps
                            have E12 := Lib.hid e12
                            clear e12
                            by_cases e13 : p.dead = q.dead
                            case neg =>
                              have t13 : (p.dead == q.dead) = false := by simpa using e13
                              have u13 : (p.dead != q.dead) = true := by simpa using e13
                              rw [show eqPs p q = false by rw [HQ.out]; simp [e13]]
                              clear HQ e13 P1 P2 S1 S2
                              go_enter Try.func50, Try.ntmps50
                              go_upto_region 1 with fail
                              rw [← HW2]
                              clear HW2
                              go_wp2_with (first | (go_at_call 94; (with_reducible refine kprec.mono ?_); rintro e wn ⟨rfl, nn, rfl⟩) | (go_at_call 95; (with_reducible refine (ksteps _).mono ?_); rintro e wn ⟨rfl, nn2, rfl⟩) | fail)
                              go_ret
                              exact ⟨rfl, by first | exact B0.out | exact below_drewN B0.out _ | exact below_drewN (below_drewN B0.out _) _⟩
                            case pos =>
                              have t13 : (p.dead == q.dead) = true := by simpa using e13
                              have u13 : (p.dead != q.dead) = false := by simpa using e13
                              have E13 := Lib.hid e13
                              clear e13
                              by_cases e14 : p.sh = q.sh
                              case neg =>
                                have t14 : (p.sh == q.sh) = false := by simpa using e14
                                have u14 : (p.sh != q.sh) = true := by simpa using e14
                                rw [show eqPs p q = false by rw [HQ.out]; simp [e14]]
                                clear HQ e14 P1 P2 S1 S2
                                go_enter Try.func50, Try.ntmps50
                                go_upto_region 1 with fail
                                rw [← HW2]
                                clear HW2
                                go_wp2_with (first | (go_at_call 94; (with_reducible refine kprec.mono ?_); rintro e wn ⟨rfl, nn, rfl⟩) | (go_at_call 95; (with_reducible refine (ksteps _).mono ?_); rintro e wn ⟨rfl, nn2, rfl⟩) | fail)
                                go_ret
                                exact ⟨rfl, by first | exact B0.out | exact below_drewN B0.out _ | exact below_drewN (below_drewN B0.out _) _⟩
                              case pos =>
                                have t14 : (p.sh == q.sh) = true := by simpa using e14
                                have u14 : (p.sh != q.sh) = false := by simpa using e14
                                have E14 := Lib.hid e14
                                clear e14
                                rw [show eqPs p q = true by rw [HQ.out]; simp [E0.out, E1.out, E2.out, E3.out, E4.out, E5.out, E6.out, E7.out, E8.out, E9.out, E10.out, E11.out, E12.out, E13.out, E14.out]]
                                clear HQ P1 P2 S1 S2
                                go_enter Try.func50, Try.ntmps50
                                go_upto_region 1 with fail
                                rw [← HW2]
                                clear HW2
                                go_wp2_with (first | (go_at_call 94; (with_reducible refine kprec.mono ?_); rintro e wn ⟨rfl, nn, rfl⟩) | (go_at_call 95; (with_reducible refine (ksteps _).mono ?_); rintro e wn ⟨rfl, nn2, rfl⟩) | fail)
                                go_ret
                                exact ⟨rfl, by first | exact B0.out | exact below_drewN B0.out _ | exact below_drewN (below_drewN B0.out _) _⟩
end Go.Proofs.Ytkcjbehfhcmiaaa
