/-
  The reference's SameParams: Ju3, Ju4, Ju5.
-/
import Derived.Test.YtkcjbehfhcmiaaaJt
set_option maxRecDepth 100000
namespace Go.Proofs.Ytkcjbehfhcmiaaa
open Go.RowKit

set_option maxHeartbeats 16000000 in
theorem rsP_no3 (p q : Hp.Ps) (s s' s2 s2' : Option Addr) (m m' m2 m2' : Nat) (W : World) (_ : p.prec.length ≤ 4398046511104) (_ : q.prec.length ≤ 4398046511104) (_ : p.steps.length ≤ 4398046511104) (_ : q.steps.length ≤ 4398046511104) (e0 : p.kern = q.kern) (e1 : p.lev = q.lev) (e2 : p.col = q.col) (e3 : p.bx = q.bx) (e4 : p.yb = q.yb) (e5 : p.ord = q.ord) (e6 : p.lay = q.lay) (e7 : eqM p q = true) (e8 : p.dv = q.dv) (hne : ¬ (p.sy = q.sy ∧ p.fe = q.fe ∧ p.dead = q.dead)) (_ : HoldsP W s p.prec) (_ : HoldsP W s' q.prec) (_ : HoldsI W s2 p.steps) (_ : HoldsI W s2' q.steps) :
    Calls Try.prog 23 #[.agg (pvA p s m s2 m2), .agg (pvA q s' m' s2' m2')] W fun e w' => e = .returned (.bool (false)) ∧ Below W.heap.size W w' := by
  obtain ⟨WB, hWB⟩ : ∃ ww, ww = ((W.alloc (.cells (pvA p s m s2 m2) 35)).alloc (.cells (pvA q s' m' s2' m2') 35)) := ⟨_, rfl⟩
  have hb0 : Below W.heap.size W WB := by rw [hWB]; exact (below_alloc (below_alloc (Below.refl _ W) (Nat.le_refl _) _) (by simp <;> omega) _)
  have B0 := Lib.hid hb0
  have hA : Blk WB (W.heap.size) 35 (pvA p s m s2 m2) := by
    have := Blk.new (W) 35 (pvA p s m s2 m2)
    rw [hWB]
    exact ((show Blk _ (W.heap.size) _ _ by simpa using this)).alloc _
  have hB : Blk WB (W.heap.size + 1) 35 (pvA q s' m' s2' m2') := by
    have := Blk.new ((W.alloc (.cells (pvA p s m s2 m2) 35))) 35 (pvA q s' m' s2' m2')
    rw [hWB]
    exact (show Blk _ (W.heap.size + 1) _ _ by simpa using this)
  obtain ⟨a0, a1, a2, a3, a4, a5, a6, a7, a8, a9, a10, a11, a12, a13, a14, a15, a16, a17, a18⟩ := hA.ps
  obtain ⟨b0, b1, b2, b3, b4, b5, b6, b7, b8, b9, b10, b11, b12, b13, b14, b15, b16, b17, b18⟩ := hB.ps
  have heq := eqMo
  have HW2 := hWB
  clear hb0 hWB hA hB
  unfold pvA at HW2 ⊢
  have t0 : (p.kern == q.kern) = true := by simpa using e0
  have u0 : (p.kern != q.kern) = false := by simpa using e0
  have t1 : (p.lev == q.lev) = true := by simpa using e1
  have u1 : (p.lev != q.lev) = false := by simpa using e1
  have t2 : (p.col == q.col) = true := by simpa using e2
  have u2 : (p.col != q.col) = false := by simpa using e2
  have t3 : (p.bx == q.bx) = true := by simpa using e3
  have u3 : (p.bx != q.bx) = false := by simpa using e3
  have t4 : (p.yb == q.yb) = true := by simpa using e4
  have u4 : (p.yb != q.yb) = false := by simpa using e4
  have t5 : (p.ord == q.ord) = true := by simpa using e5
  have u5 : (p.ord != q.ord) = false := by simpa using e5
  have t6 : (p.lay == q.lay) = true := by simpa using e6
  have u6 : (p.lay != q.lay) = false := by simpa using e6
  have t7 : eqM p q = true := by simpa using e7
  have t8 : (p.dv == q.dv) = true := by simpa using e8
  have u8 : (p.dv != q.dv) = false := by simpa using e8
  have HNE := Lib.hid hne
  clear hne e0 e1 e2 e3 e4 e5 e6 e7 e8
  by_cases e9 : p.sy = q.sy
  case neg =>
    have t9 : (p.sy == q.sy) = false := by simpa using e9
    have u9 : (p.sy != q.sy) = true := by simpa using e9
    clear HNE e9
    go_enter Try.func23, Try.ntmps23
    go_upto_region 1 with fail
    rw [← HW2]
    clear HW2
    go_wp2_with fail
    go_ret
    exact ⟨rfl, B0.out⟩
  case pos =>
    have t9 : (p.sy == q.sy) = true := by simpa using e9
    have u9 : (p.sy != q.sy) = false := by simpa using e9
    have E9 := Lib.hid e9
    clear e9
    by_cases e10 : p.fe = q.fe
    case neg =>
      have t10 : (p.fe == q.fe) = false := by simpa using e10
      have u10 : (p.fe != q.fe) = true := by simpa using e10
      clear HNE e10
      go_enter Try.func23, Try.ntmps23
      go_upto_region 1 with fail
      rw [← HW2]
      clear HW2
      go_wp2_with fail
      go_ret
      exact ⟨rfl, B0.out⟩
    case pos =>
      have t10 : (p.fe == q.fe) = true := by simpa using e10
      have u10 : (p.fe != q.fe) = false := by simpa using e10
      have E10 := Lib.hid e10
      clear e10
      by_cases e11 : p.dead = q.dead
      case neg =>
        have t11 : (p.dead == q.dead) = false := by simpa using e11
        have u11 : (p.dead != q.dead) = true := by simpa using e11
        clear HNE e11
        go_enter Try.func23, Try.ntmps23
        go_upto_region 1 with fail
        rw [← HW2]
        clear HW2
        go_wp2_with fail
        go_ret
        exact ⟨rfl, B0.out⟩
      case pos =>
        have t11 : (p.dead == q.dead) = true := by simpa using e11
        have u11 : (p.dead != q.dead) = false := by simpa using e11
        have E11 := Lib.hid e11
        clear e11
        exact absurd ⟨E9.out, E10.out, E11.out⟩ HNE.out
end Go.Proofs.Ytkcjbehfhcmiaaa

namespace Go.Proofs.Ytkcjbehfhcmiaaa
open Go.RowKit

set_option maxHeartbeats 16000000 in
theorem rsP_no4 (p q : Hp.Ps) (s s' s2 s2' : Option Addr) (m m' m2 m2' : Nat) (W : World) (_ : p.prec.length ≤ 4398046511104) (_ : q.prec.length ≤ 4398046511104) (_ : p.steps.length ≤ 4398046511104) (_ : q.steps.length ≤ 4398046511104) (e0 : p.kern = q.kern) (e1 : p.lev = q.lev) (e2 : p.col = q.col) (e3 : p.bx = q.bx) (e4 : p.yb = q.yb) (e5 : p.ord = q.ord) (e6 : p.lay = q.lay) (e7 : eqM p q = true) (e8 : p.dv = q.dv) (e9 : p.sy = q.sy) (e10 : p.fe = q.fe) (e11 : p.dead = q.dead) (hne : ¬ (p.sh = q.sh ∧ p.prec.length = q.prec.length ∧ p.steps.length = q.steps.length)) (_ : HoldsP W s p.prec) (_ : HoldsP W s' q.prec) (_ : HoldsI W s2 p.steps) (_ : HoldsI W s2' q.steps) :
    Calls Try.prog 23 #[.agg (pvA p s m s2 m2), .agg (pvA q s' m' s2' m2')] W fun e w' => e = .returned (.bool (false)) ∧ Below W.heap.size W w' := by
  obtain ⟨WB, hWB⟩ : ∃ ww, ww = ((W.alloc (.cells (pvA p s m s2 m2) 35)).alloc (.cells (pvA q s' m' s2' m2') 35)) := ⟨_, rfl⟩
  have hb0 : Below W.heap.size W WB := by rw [hWB]; exact (below_alloc (below_alloc (Below.refl _ W) (Nat.le_refl _) _) (by simp <;> omega) _)
  have B0 := Lib.hid hb0
  have hA : Blk WB (W.heap.size) 35 (pvA p s m s2 m2) := by
    have := Blk.new (W) 35 (pvA p s m s2 m2)
    rw [hWB]
    exact ((show Blk _ (W.heap.size) _ _ by simpa using this)).alloc _
  have hB : Blk WB (W.heap.size + 1) 35 (pvA q s' m' s2' m2') := by
    have := Blk.new ((W.alloc (.cells (pvA p s m s2 m2) 35))) 35 (pvA q s' m' s2' m2')
    rw [hWB]
    exact (show Blk _ (W.heap.size + 1) _ _ by simpa using this)
  obtain ⟨a0, a1, a2, a3, a4, a5, a6, a7, a8, a9, a10, a11, a12, a13, a14, a15, a16, a17, a18⟩ := hA.ps
  obtain ⟨b0, b1, b2, b3, b4, b5, b6, b7, b8, b9, b10, b11, b12, b13, b14, b15, b16, b17, b18⟩ := hB.ps
  have heq := eqMo
  have HW2 := hWB
  clear hb0 hWB hA hB
  unfold pvA at HW2 ⊢
  have t0 : (p.kern == q.kern) = true := by simpa using e0
  have u0 : (p.kern != q.kern) = false := by simpa using e0
  have t1 : (p.lev == q.lev) = true := by simpa using e1
  have u1 : (p.lev != q.lev) = false := by simpa using e1
  have t2 : (p.col == q.col) = true := by simpa using e2
  have u2 : (p.col != q.col) = false := by simpa using e2
  have t3 : (p.bx == q.bx) = true := by simpa using e3
  have u3 : (p.bx != q.bx) = false := by simpa using e3
  have t4 : (p.yb == q.yb) = true := by simpa using e4
  have u4 : (p.yb != q.yb) = false := by simpa using e4
  have t5 : (p.ord == q.ord) = true := by simpa using e5
  have u5 : (p.ord != q.ord) = false := by simpa using e5
  have t6 : (p.lay == q.lay) = true := by simpa using e6
  have u6 : (p.lay != q.lay) = false := by simpa using e6
  have t7 : eqM p q = true := by simpa using e7
  have t8 : (p.dv == q.dv) = true := by simpa using e8
  have u8 : (p.dv != q.dv) = false := by simpa using e8
  have t9 : (p.sy == q.sy) = true := by simpa using e9
  have u9 : (p.sy != q.sy) = false := by simpa using e9
  have t10 : (p.fe == q.fe) = true := by simpa using e10
  have u10 : (p.fe != q.fe) = false := by simpa using e10
  have t11 : (p.dead == q.dead) = true := by simpa using e11
  have u11 : (p.dead != q.dead) = false := by simpa using e11
  have HNE := Lib.hid hne
  clear hne e0 e1 e2 e3 e4 e5 e6 e7 e8 e9 e10 e11
  by_cases e12 : p.sh = q.sh
  case neg =>
    have t12 : (p.sh == q.sh) = false := by simpa using e12
    have u12 : (p.sh != q.sh) = true := by simpa using e12
    clear HNE e12
    go_enter Try.func23, Try.ntmps23
    go_upto_region 1 with fail
    rw [← HW2]
    clear HW2
    go_wp2_with fail
    go_ret
    exact ⟨rfl, B0.out⟩
  case pos =>
    have t12 : (p.sh == q.sh) = true := by simpa using e12
    have u12 : (p.sh != q.sh) = false := by simpa using e12
    have E12 := Lib.hid e12
    clear e12
    by_cases e13 : p.prec.length = q.prec.length
    case neg =>
      have t13 : (((p.prec.length : Int)) == (q.prec.length : Int)) = false := by simp; omega
      have u13 : (((p.prec.length : Int)) != (q.prec.length : Int)) = true := by simp; omega
      clear HNE e13
      go_enter Try.func23, Try.ntmps23
      go_upto_region 1 with fail
      rw [← HW2]
      clear HW2
      go_wp2_with fail
      go_ret
      exact ⟨rfl, B0.out⟩
    case pos =>
      have t13 : (((p.prec.length : Int)) == (q.prec.length : Int)) = true := by simp [e13]
      have u13 : (((p.prec.length : Int)) != (q.prec.length : Int)) = false := by simp [e13]
      have E13 := Lib.hid e13
      clear e13
      by_cases e14 : p.steps.length = q.steps.length
      case neg =>
        have t14 : (((p.steps.length : Int)) == (q.steps.length : Int)) = false := by simp; omega
        have u14 : (((p.steps.length : Int)) != (q.steps.length : Int)) = true := by simp; omega
        clear HNE e14
        go_enter Try.func23, Try.ntmps23
        go_upto_region 1 with fail
        rw [← HW2]
        clear HW2
        go_wp2_with fail
        go_ret
        exact ⟨rfl, B0.out⟩
      case pos =>
        have t14 : (((p.steps.length : Int)) == (q.steps.length : Int)) = true := by simp [e14]
        have u14 : (((p.steps.length : Int)) != (q.steps.length : Int)) = false := by simp [e14]
        have E14 := Lib.hid e14
        clear e14
        exact absurd ⟨E12.out, E13.out, E14.out⟩ HNE.out
end Go.Proofs.Ytkcjbehfhcmiaaa

namespace Go.Proofs.Ytkcjbehfhcmiaaa
open Go.RowKit

set_option maxHeartbeats 16000000 in
theorem rsP_yes (p q : Hp.Ps) (s s' s2 s2' : Option Addr) (m m' m2 m2' : Nat) (W : World) (_ : p.prec.length ≤ 4398046511104) (_ : q.prec.length ≤ 4398046511104) (_ : p.steps.length ≤ 4398046511104) (_ : q.steps.length ≤ 4398046511104) (e0 : p.kern = q.kern) (e1 : p.lev = q.lev) (e2 : p.col = q.col) (e3 : p.bx = q.bx) (e4 : p.yb = q.yb) (e5 : p.ord = q.ord) (e6 : p.lay = q.lay) (e7 : eqM p q = true) (e8 : p.dv = q.dv) (e9 : p.sy = q.sy) (e10 : p.fe = q.fe) (e11 : p.dead = q.dead) (e12 : p.sh = q.sh) (e13 : p.prec.length = q.prec.length) (e14 : p.steps.length = q.steps.length) (hP : HoldsP W s p.prec) (hP' : HoldsP W s' q.prec) (hS : HoldsI W s2 p.steps) (hS' : HoldsI W s2' q.steps) :
    Calls Try.prog 23 #[.agg (pvA p s m s2 m2), .agg (pvA q s' m' s2' m2')] W fun e w' => e = .returned (.bool (decide (p.prec = q.prec) && decide (p.steps = q.steps))) ∧ Below W.heap.size W w' := by
  obtain ⟨WB, hWB⟩ : ∃ ww, ww = ((W.alloc (.cells (pvA p s m s2 m2) 35)).alloc (.cells (pvA q s' m' s2' m2') 35)) := ⟨_, rfl⟩
  have hb0 : Below W.heap.size W WB := by rw [hWB]; exact (below_alloc (below_alloc (Below.refl _ W) (Nat.le_refl _) _) (by simp <;> omega) _)
  have B0 := Lib.hid hb0
  have hA : Blk WB (W.heap.size) 35 (pvA p s m s2 m2) := by
    have := Blk.new (W) 35 (pvA p s m s2 m2)
    rw [hWB]
    exact ((show Blk _ (W.heap.size) _ _ by simpa using this)).alloc _
  have hB : Blk WB (W.heap.size + 1) 35 (pvA q s' m' s2' m2') := by
    have := Blk.new ((W.alloc (.cells (pvA p s m s2 m2) 35))) 35 (pvA q s' m' s2' m2')
    rw [hWB]
    exact (show Blk _ (W.heap.size + 1) _ _ by simpa using this)
  obtain ⟨a0, a1, a2, a3, a4, a5, a6, a7, a8, a9, a10, a11, a12, a13, a14, a15, a16, a17, a18⟩ := hA.ps
  obtain ⟨b0, b1, b2, b3, b4, b5, b6, b7, b8, b9, b10, b11, b12, b13, b14, b15, b16, b17, b18⟩ := hB.ps
  have P1 := Lib.hid (hP.below hb0 (Nat.le_refl _))
  have P2 := Lib.hid (hP'.below hb0 (Nat.le_refl _))
  have S1 := Lib.hid (hS.below hb0 (Nat.le_refl _))
  have S2 := Lib.hid (hS'.below hb0 (Nat.le_refl _))
  have heq := eqMo
  have HW2 := hWB
  clear hb0 hWB hA hB hP hP' hS hS'
  unfold pvA at HW2 ⊢
  have t0 : (p.kern == q.kern) = true := by simpa using e0
  have u0 : (p.kern != q.kern) = false := by simpa using e0
  have t1 : (p.lev == q.lev) = true := by simpa using e1
  have u1 : (p.lev != q.lev) = false := by simpa using e1
  have t2 : (p.col == q.col) = true := by simpa using e2
  have u2 : (p.col != q.col) = false := by simpa using e2
  have t3 : (p.bx == q.bx) = true := by simpa using e3
  have u3 : (p.bx != q.bx) = false := by simpa using e3
  have t4 : (p.yb == q.yb) = true := by simpa using e4
  have u4 : (p.yb != q.yb) = false := by simpa using e4
  have t5 : (p.ord == q.ord) = true := by simpa using e5
  have u5 : (p.ord != q.ord) = false := by simpa using e5
  have t6 : (p.lay == q.lay) = true := by simpa using e6
  have u6 : (p.lay != q.lay) = false := by simpa using e6
  have t7 : eqM p q = true := by simpa using e7
  have t8 : (p.dv == q.dv) = true := by simpa using e8
  have u8 : (p.dv != q.dv) = false := by simpa using e8
  have t9 : (p.sy == q.sy) = true := by simpa using e9
  have u9 : (p.sy != q.sy) = false := by simpa using e9
  have t10 : (p.fe == q.fe) = true := by simpa using e10
  have u10 : (p.fe != q.fe) = false := by simpa using e10
  have t11 : (p.dead == q.dead) = true := by simpa using e11
  have u11 : (p.dead != q.dead) = false := by simpa using e11
  have t12 : (p.sh == q.sh) = true := by simpa using e12
  have u12 : (p.sh != q.sh) = false := by simpa using e12
  have t13 : (((p.prec.length : Int)) == (q.prec.length : Int)) = true := by simp [e13]
  have u13 : (((p.prec.length : Int)) != (q.prec.length : Int)) = false := by simp [e13]
  have t14 : (((p.steps.length : Int)) == (q.steps.length : Int)) = true := by simp [e14]
  have u14 : (((p.steps.length : Int)) != (q.steps.length : Int)) = false := by simp [e14]
  have hl1 : p.prec.length ≤ q.prec.length := by omega
  have hl2 : p.steps.length ≤ q.steps.length := by omega
  have HL := Lib.hid e13
  have HL2 := Lib.hid e14
  clear e0 e1 e2 e3 e4 e5 e6 e7 e8 e9 e10 e11 e12 e13 e14
  go_enter Try.func23, Try.ntmps23
  go_upto_region 1 with fail
  rw [← HW2]
  clear HW2
  go_upto_region 4 with fail
  clear t0 t1 t2 t3 t4 t5 t6 t7 t8 t9 t10 t11 t12 t13 t14 u0 u1 u2 u3 u4 u5 u6 u8 u9 u10 u11 u12 u13 u14
  go_loopw [5] (fun i wr => ∃ k : Nat, k ≤ p.prec.length ∧ i = .int .i64 k ∧ Hid (∀ j (h1 : j < p.prec.length) (h2 : j < q.prec.length), j < k → p.prec[j] = q.prec[j]) ∧ ∃ nn, wr = WB.drewN nn) (fun i _ => p.prec.length - (intOf i).toNat)
  case atStart => exact ⟨0, Nat.zero_le _, rfl, Lib.hid (fun j _ _ hj => absurd hj (Nat.not_lt_zero _)), 0, rfl⟩
  case round =>
    obtain ⟨k, hk, rfl, HA, nn, rfl⟩ := hrel
    have heqE := eqPt'
    by_cases hlt : k < p.prec.length
    · have hlt2 : k < q.prec.length := by omega
      rcases P1.out with z | ⟨b, off, rfl, hr⟩
      · rw [z] at hlt; simp at hlt
      rcases P2.out with z | ⟨b', off', rfl, hr'⟩
      · rw [z] at hlt2; simp at hlt2
      obtain ⟨c0, c1⟩ := hr k hlt
      obtain ⟨d0, d1⟩ := hr' k hlt2
      clear hr hr'
      have hi : (k : Int) < (p.prec.length : Int) := by omega
      have hi2 : (k : Int) < (q.prec.length : Int) := by omega
      have w2 : IntKind.i64.wrap ((k : Int) + 1) = (k : Int) + 1 := IntWalk.i64_in _ (by omega)
      have HN := Lib.hid (show p.prec[k] ≠ q.prec[k] → decide (p.prec = q.prec) = false from list_ne hlt hlt2)
      have HY := Lib.hid (show p.prec[k] = q.prec[k] → ∀ j (h1 : j < p.prec.length) (h2 : j < q.prec.length), j < k + 1 → p.prec[j] = q.prec[j] from fun he j h1 h2 hj => if hjk : j = k then by subst hjk; exact he else HA.out j h1 h2 (by omega))
      generalize p.prec[k] = U at *
      generalize q.prec[k] = V at *
      by_cases he : U = V
      · have HZ := Lib.hid (HY.out he)
        have g1 : (decide (U = V)) = true := by simp [he]
        have g2 : (U != V) = false := by simp [he]
        have g3 : (U == V) = true := by simp [he]
        clear HN HY HA he
        go_wp2_with fail
        go_quiet (fail)
        go_wp2_with fail
        go_roundw
        case rel => exact ⟨k + 1, by omega, by go_num, HZ, _, by first | rfl | (simp only [World.drewN_drewN]; rfl)⟩
        case measure => simp [intOf]; omega
      · have g1 : (decide (U = V)) = false := by simp [he]
        have g2 : (U != V) = true := by simp [he]
        have g3 : (U == V) = false := by simp [he]
        have hf := HN.out he
        clear HN HY HA he
        go_wp2_with fail
        go_quiet (fail)
        go_wp2_with fail
        go_ret
        exact ⟨by rw [hf]; rfl, below_drewN (below_drewN B0.out _) _⟩
    · have hf := list_all HL.out (fun j h1 h2 => HA.out j h1 h2 (by omega))
      have HF1 := Lib.hid hf
      clear hf HA
      go_upto_region 9 with fail
      go_loopw [6] (fun i wr => ∃ k : Nat, k ≤ p.steps.length ∧ i = .int .i64 k ∧ Hid (∀ j (h1 : j < p.steps.length) (h2 : j < q.steps.length), j < k → p.steps[j] = q.steps[j]) ∧ ∃ nk, wr = WB.drewN nk) (fun i _ => p.steps.length - (intOf i).toNat)
      case atStart => exact ⟨0, Nat.zero_le _, rfl, Lib.hid (fun j _ _ hj => absurd hj (Nat.not_lt_zero _)), nn, rfl⟩
      case round =>
        obtain ⟨k, hk, rfl, HA, nk, rfl⟩ := hrel
        by_cases hlt : k < p.steps.length
        · have hlt2 : k < q.steps.length := by omega
          rcases S1.out with z | ⟨b, off, rfl, hr⟩
          · rw [z] at hlt; simp at hlt
          rcases S2.out with z | ⟨b', off', rfl, hr'⟩
          · rw [z] at hlt2; simp at hlt2
          have c0 := hr k hlt
          have d0 := hr' k hlt2
          clear hr hr'
          have hi : (k : Int) < (p.steps.length : Int) := by omega
          have hi2 : (k : Int) < (q.steps.length : Int) := by omega
          have w2 : IntKind.i64.wrap ((k : Int) + 1) = (k : Int) + 1 := IntWalk.i64_in _ (by omega)
          have HN := Lib.hid (show p.steps[k] ≠ q.steps[k] → decide (p.steps = q.steps) = false from list_ne hlt hlt2)
          have HY := Lib.hid (show p.steps[k] = q.steps[k] → ∀ j (h1 : j < p.steps.length) (h2 : j < q.steps.length), j < k + 1 → p.steps[j] = q.steps[j] from fun he j h1 h2 hj => if hjk : j = k then by subst hjk; exact he else HA.out j h1 h2 (by omega))
          generalize p.steps[k] = U at *
          generalize q.steps[k] = V at *
          by_cases he : U = V
          · have HZ := Lib.hid (HY.out he)
            have g1 : (decide (U = V)) = true := by simp [he]
            have g2 : (U != V) = false := by simp [he]
            have g3 : (U == V) = true := by simp [he]
            clear HN HY HA he
            go_wp2_with fail
            go_quiet (fail)
            go_wp2_with fail
            go_roundw
            case rel => exact ⟨k + 1, by omega, by go_num, HZ, _, by first | rfl | (simp only [World.drewN_drewN]; rfl)⟩
            case measure => simp [intOf]; omega
          · have g1 : (decide (U = V)) = false := by simp [he]
            have g2 : (U != V) = true := by simp [he]
            have g3 : (U == V) = false := by simp [he]
            have hf := HN.out he
            clear HN HY HA he
            go_wp2_with fail
            go_quiet (fail)
            go_wp2_with fail
            go_ret
            exact ⟨by rw [hf, HF1.out]; rfl, below_drewN (below_drewN B0.out _) _⟩
        · have hf := list_all HL2.out (fun j h1 h2 => HA.out j h1 h2 (by omega))
          go_wp2_with fail
          go_ret
          exact ⟨by rw [hf, HF1.out]; rfl, below_drewN B0.out _⟩
end Go.Proofs.Ytkcjbehfhcmiaaa
