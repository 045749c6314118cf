/-
  The reference's SameParams: Ju0, Ju1, Ju2.
-/
import Derived.Test.YtkcjbehfhcmiaaaJt
set_option maxRecDepth 100000
namespace Go.Proofs.Ytkcjbehfhcmiaaa
open Go.RowKit

set_option maxHeartbeats 16000000 in
theorem rsP_no0 (p q : Hp.Ps) (s s' s2 s2' : Option Addr) (m m' m2 m2' : Nat) (W : World) (_ : p.prec.length ≤ 4398046511104) (_ : q.prec.length ≤ 4398046511104) (_ : p.steps.length ≤ 4398046511104) (_ : q.steps.length ≤ 4398046511104) (hne : ¬ (p.kern = q.kern ∧ p.lev = q.lev ∧ p.col = q.col)) (_ : HoldsP W s p.prec) (_ : HoldsP W s' q.prec) (_ : HoldsI W s2 p.steps) (_ : HoldsI W s2' q.steps) :
    Calls Try.prog 23 #[.agg (pvA p s m s2 m2), .agg (pvA q s' m' s2' m2')] W fun e w' => e = .returned (.bool (false)) ∧ Below W.heap.size W w' := by
  obtain ⟨WB, hWB⟩ : ∃ ww, ww = ((W.alloc (.cells (pvA p s m s2 m2) 35)).alloc (.cells (pvA q s' m' s2' m2') 35)) := ⟨_, rfl⟩
  have hb0 : Below W.heap.size W WB := by rw [hWB]; exact (below_alloc (below_alloc (Below.refl _ W) (Nat.le_refl _) _) (by simp <;> omega) _)
  have B0 := Lib.hid hb0
  have hA : Blk WB (W.heap.size) 35 (pvA p s m s2 m2) := by
    have := Blk.new (W) 35 (pvA p s m s2 m2)
    rw [hWB]
    exact ((show Blk _ (W.heap.size) _ _ by simpa using this)).alloc _
  have hB : Blk WB (W.heap.size + 1) 35 (pvA q s' m' s2' m2') := by
    have := Blk.new ((W.alloc (.cells (pvA p s m s2 m2) 35))) 35 (pvA q s' m' s2' m2')
    rw [hWB]
    exact (show Blk _ (W.heap.size + 1) _ _ by simpa using this)
  obtain ⟨a0, a1, a2, a3, a4, a5, a6, a7, a8, a9, a10, a11, a12, a13, a14, a15, a16, a17, a18⟩ := hA.ps
  obtain ⟨b0, b1, b2, b3, b4, b5, b6, b7, b8, b9, b10, b11, b12, b13, b14, b15, b16, b17, b18⟩ := hB.ps
  have heq := eqMo
  have HW2 := hWB
  clear hb0 hWB hA hB
  unfold pvA at HW2 ⊢
  have HNE := Lib.hid hne
  clear hne
  by_cases e0 : p.kern = q.kern
  case neg =>
    have t0 : (p.kern == q.kern) = false := by simpa using e0
    have u0 : (p.kern != q.kern) = true := by simpa using e0
    clear HNE e0
    go_enter Try.func23, Try.ntmps23
    go_upto_region 1 with fail
    rw [← HW2]
    clear HW2
    go_wp2_with fail
    go_ret
    exact ⟨rfl, B0.out⟩
  case pos =>
    have t0 : (p.kern == q.kern) = true := by simpa using e0
    have u0 : (p.kern != q.kern) = false := by simpa using e0
    have E0 := Lib.hid e0
    clear e0
    by_cases e1 : p.lev = q.lev
    case neg =>
      have t1 : (p.lev == q.lev) = false := by simpa using e1
      have u1 : (p.lev != q.lev) = true := by simpa using e1
      clear HNE e1
      go_enter Try.func23, Try.ntmps23
      go_upto_region 1 with fail
      rw [← HW2]
      clear HW2
      go_wp2_with fail
      go_ret
      exact ⟨rfl, B0.out⟩
    case pos =>
      have t1 : (p.lev == q.lev) = true := by simpa using e1
      have u1 : (p.lev != q.lev) = false := by simpa using e1
      have E1 := Lib.hid e1
      clear e1
      by_cases e2 : p.col = q.col
      case neg =>
        have t2 : (p.col == q.col) = false := by simpa using e2
        have u2 : (p.col != q.col) = true := by simpa using e2
        clear HNE e2
        go_enter Try.func23, Try.ntmps23
        go_upto_region 1 with fail
        rw [← HW2]
        clear HW2
        go_wp2_with fail
        go_ret
        exact ⟨rfl, B0.out⟩
      case pos =>
        have t2 : (p.col == q.col) = true := by simpa using e2
        have u2 : (p.col != q.col) = false := by simpa using e2
        have E2 := Lib.hid e2
        clear e2
        exact absurd ⟨E0.out, E1.out, E2.out⟩ HNE.out
end Go.Proofs.Ytkcjbehfhcmiaaa

namespace Go.Proofs.Ytkcjbehfhcmiaaa
open Go.RowKit

set_option maxHeartbeats 16000000 in
theorem rsP_no1 (p q : Hp.Ps) (s s' s2 s2' : Option Addr) (m m' m2 m2' : Nat) (W : World) (_ : p.prec.length ≤ 4398046511104) (_ : q.prec.length ≤ 4398046511104) (_ : p.steps.length ≤ 4398046511104) (_ : q.steps.length ≤ 4398046511104) (e0 : p.kern = q.kern) (e1 : p.lev = q.lev) (e2 : p.col = q.col) (hne : ¬ (p.bx = q.bx ∧ p.yb = q.yb ∧ p.ord = q.ord)) (_ : HoldsP W s p.prec) (_ : HoldsP W s' q.prec) (_ : HoldsI W s2 p.steps) (_ : HoldsI W s2' q.steps) :
    Calls Try.prog 23 #[.agg (pvA p s m s2 m2), .agg (pvA q s' m' s2' m2')] W fun e w' => e = .returned (.bool (false)) ∧ Below W.heap.size W w' := by
  obtain ⟨WB, hWB⟩ : ∃ ww, ww = ((W.alloc (.cells (pvA p s m s2 m2) 35)).alloc (.cells (pvA q s' m' s2' m2') 35)) := ⟨_, rfl⟩
  have hb0 : Below W.heap.size W WB := by rw [hWB]; exact (below_alloc (below_alloc (Below.refl _ W) (Nat.le_refl _) _) (by simp <;> omega) _)
  have B0 := Lib.hid hb0
  have hA : Blk WB (W.heap.size) 35 (pvA p s m s2 m2) := by
    have := Blk.new (W) 35 (pvA p s m s2 m2)
    rw [hWB]
    exact ((show Blk _ (W.heap.size) _ _ by simpa using this)).alloc _
  have hB : Blk WB (W.heap.size + 1) 35 (pvA q s' m' s2' m2') := by
    have := Blk.new ((W.alloc (.cells (pvA p s m s2 m2) 35))) 35 (pvA q s' m' s2' m2')
    rw [hWB]
    exact (show Blk _ (W.heap.size + 1) _ _ by simpa using this)
  obtain ⟨a0, a1, a2, a3, a4, a5, a6, a7, a8, a9, a10, a11, a12, a13, a14, a15, a16, a17, a18⟩ := hA.ps
  obtain ⟨b0, b1, b2, b3, b4, b5, b6, b7, b8, b9, b10, b11, b12, b13, b14, b15, b16, b17, b18⟩ := hB.ps
  have heq := eqMo
  have HW2 := hWB
  clear hb0 hWB hA hB
  unfold pvA at HW2 ⊢
  have t0 : (p.kern == q.kern) = true := by simpa using e0
  have u0 : (p.kern != q.kern) = false := by simpa using e0
  have t1 : (p.lev == q.lev) = true := by simpa using e1
  have u1 : (p.lev != q.lev) = false := by simpa using e1
  have t2 : (p.col == q.col) = true := by simpa using e2
  have u2 : (p.col != q.col) = false := by simpa using e2
  have HNE := Lib.hid hne
  clear hne e0 e1 e2
  by_cases e3 : p.bx = q.bx
  case neg =>
    have t3 : (p.bx == q.bx) = false := by simpa using e3
    have u3 : (p.bx != q.bx) = true := by simpa using e3
    clear HNE e3
    go_enter Try.func23, Try.ntmps23
    go_upto_region 1 with fail
    rw [← HW2]
    clear HW2
    go_wp2_with fail
    go_ret
    exact ⟨rfl, B0.out⟩
  case pos =>
    have t3 : (p.bx == q.bx) = true := by simpa using e3
    have u3 : (p.bx != q.bx) = false := by simpa using e3
    have E3 := Lib.hid e3
    clear e3
    by_cases e4 : p.yb = q.yb
    case neg =>
      have t4 : (p.yb == q.yb) = false := by simpa using e4
      have u4 : (p.yb != q.yb) = true := by simpa using e4
      clear HNE e4
      go_enter Try.func23, Try.ntmps23
      go_upto_region 1 with fail
      rw [← HW2]
      clear HW2
      go_wp2_with fail
      go_ret
      exact ⟨rfl, B0.out⟩
    case pos =>
      have t4 : (p.yb == q.yb) = true := by simpa using e4
      have u4 : (p.yb != q.yb) = false := by simpa using e4
      have E4 := Lib.hid e4
      clear e4
      by_cases e5 : p.ord = q.ord
      case neg =>
        have t5 : (p.ord == q.ord) = false := by simpa using e5
        have u5 : (p.ord != q.ord) = true := by simpa using e5
        clear HNE e5
        go_enter Try.func23, Try.ntmps23
        go_upto_region 1 with fail
        rw [← HW2]
        clear HW2
        go_wp2_with fail
        go_ret
        exact ⟨rfl, B0.out⟩
      case pos =>
        have t5 : (p.ord == q.ord) = true := by simpa using e5
        have u5 : (p.ord != q.ord) = false := by simpa using e5
        have E5 := Lib.hid e5
        clear e5
        exact absurd ⟨E3.out, E4.out, E5.out⟩ HNE.out
end Go.Proofs.Ytkcjbehfhcmiaaa

namespace Go.Proofs.Ytkcjbehfhcmiaaa
open Go.RowKit

set_option maxHeartbeats 16000000 in
theorem rsP_no2 (p q : Hp.Ps) (s s' s2 s2' : Option Addr) (m m' m2 m2' : Nat) (W : World) (_ : p.prec.length ≤ 4398046511104) (_ : q.prec.length ≤ 4398046511104) (_ : p.steps.length ≤ 4398046511104) (_ : q.steps.length ≤ 4398046511104) (e0 : p.kern = q.kern) (e1 : p.lev = q.lev) (e2 : p.col = q.col) (e3 : p.bx = q.bx) (e4 : p.yb = q.yb) (e5 : p.ord = q.ord) (hne : ¬ (p.lay = q.lay ∧ eqM p q = true ∧ p.dv = q.dv)) (_ : HoldsP W s p.prec) (_ : HoldsP W s' q.prec) (_ : HoldsI W s2 p.steps) (_ : HoldsI W s2' q.steps) :
    Calls Try.prog 23 #[.agg (pvA p s m s2 m2), .agg (pvA q s' m' s2' m2')] W fun e w' => e = .returned (.bool (false)) ∧ Below W.heap.size W w' := by
  obtain ⟨WB, hWB⟩ : ∃ ww, ww = ((W.alloc (.cells (pvA p s m s2 m2) 35)).alloc (.cells (pvA q s' m' s2' m2') 35)) := ⟨_, rfl⟩
  have hb0 : Below W.heap.size W WB := by rw [hWB]; exact (below_alloc (below_alloc (Below.refl _ W) (Nat.le_refl _) _) (by simp <;> omega) _)
  have B0 := Lib.hid hb0
  have hA : Blk WB (W.heap.size) 35 (pvA p s m s2 m2) := by
    have := Blk.new (W) 35 (pvA p s m s2 m2)
    rw [hWB]
    exact ((show Blk _ (W.heap.size) _ _ by simpa using this)).alloc _
  have hB : Blk WB (W.heap.size + 1) 35 (pvA q s' m' s2' m2') := by
    have := Blk.new ((W.alloc (.cells (pvA p s m s2 m2) 35))) 35 (pvA q s' m' s2' m2')
    rw [hWB]
    exact (show Blk _ (W.heap.size + 1) _ _ by simpa using this)
  obtain ⟨a0, a1, a2, a3, a4, a5, a6, a7, a8, a9, a10, a11, a12, a13, a14, a15, a16, a17, a18⟩ := hA.ps
  obtain ⟨b0, b1, b2, b3, b4, b5, b6, b7, b8, b9, b10, b11, b12, b13, b14, b15, b16, b17, b18⟩ := hB.ps
  have heq := eqMo
  have HW2 := hWB
  clear hb0 hWB hA hB
  unfold pvA at HW2 ⊢
  have t0 : (p.kern == q.kern) = true := by simpa using e0
  have u0 : (p.kern != q.kern) = false := by simpa using e0
  have t1 : (p.lev == q.lev) = true := by simpa using e1
  have u1 : (p.lev != q.lev) = false := by simpa using e1
  have t2 : (p.col == q.col) = true := by simpa using e2
  have u2 : (p.col != q.col) = false := by simpa using e2
  have t3 : (p.bx == q.bx) = true := by simpa using e3
  have u3 : (p.bx != q.bx) = false := by simpa using e3
  have t4 : (p.yb == q.yb) = true := by simpa using e4
  have u4 : (p.yb != q.yb) = false := by simpa using e4
  have t5 : (p.ord == q.ord) = true := by simpa using e5
  have u5 : (p.ord != q.ord) = false := by simpa using e5
  have HNE := Lib.hid hne
  clear hne e0 e1 e2 e3 e4 e5
  by_cases e6 : p.lay = q.lay
  case neg =>
    have t6 : (p.lay == q.lay) = false := by simpa using e6
    have u6 : (p.lay != q.lay) = true := by simpa using e6
    clear HNE e6
    go_enter Try.func23, Try.ntmps23
    go_upto_region 1 with fail
    rw [← HW2]
    clear HW2
    go_wp2_with fail
    go_ret
    exact ⟨rfl, B0.out⟩
  case pos =>
    have t6 : (p.lay == q.lay) = true := by simpa using e6
    have u6 : (p.lay != q.lay) = false := by simpa using e6
    have E6 := Lib.hid e6
    clear e6
    by_cases e7 : eqM p q = true
    case neg =>
      have t7 : eqM p q = false := by simpa using e7
      clear HNE e7
      go_enter Try.func23, Try.ntmps23
      go_upto_region 1 with fail
      rw [← HW2]
      clear HW2
      go_wp2_with fail
      go_ret
      exact ⟨rfl, B0.out⟩
    case pos =>
      have t7 : eqM p q = true := by simpa using e7
      have E7 := Lib.hid e7
      clear e7
      by_cases e8 : p.dv = q.dv
      case neg =>
        have t8 : (p.dv == q.dv) = false := by simpa using e8
        have u8 : (p.dv != q.dv) = true := by simpa using e8
        clear HNE e8
        go_enter Try.func23, Try.ntmps23
        go_upto_region 1 with fail
        rw [← HW2]
        clear HW2
        go_wp2_with fail
        go_ret
        exact ⟨rfl, B0.out⟩
      case pos =>
        have t8 : (p.dv == q.dv) = true := by simpa using e8
        have u8 : (p.dv != q.dv) = false := by simpa using e8
        have E8 := Lib.hid e8
        clear e8
        exact absurd ⟨E6.out, E7.out, E8.out⟩ HNE.out
end Go.Proofs.Ytkcjbehfhcmiaaa
