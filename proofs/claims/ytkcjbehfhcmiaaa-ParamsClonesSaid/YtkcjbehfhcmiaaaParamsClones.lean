/-
  For all headers and parameters the statement ParamsClones returns true.
  Conditions: none beyond those of the given statement.
-/
import Derived.Test.YtkcjbehfhcmiaaaHz2
import Derived.Test.YtkcjbehfhcmiaaaHg
import Derived.Test.YtkcjbehfhcmiaaaJp
import Derived.Test.YtkcjbehfhcmiaaaJs
import Derived.Test.YtkcjbehfhcmiaaaJt
import Derived.Test.YtkcjbehfhcmiaaaJo
import Derived.Test.YtkcjbehfhcmiaaaJm
set_option maxRecDepth 100000
namespace Go.Proofs.Ytkcjbehfhcmiaaa
open Go.RowKit

set_option maxHeartbeats 16000000 in
theorem rsP_yes (p q : Hp.Ps) (s s' s2 s2' : Option Addr) (m m' m2 m2' : Nat) (W : World) (_ : p.prec.length ≤ 4398046511104) (_ : q.prec.length ≤ 4398046511104) (_ : p.steps.length ≤ 4398046511104) (_ : q.steps.length ≤ 4398046511104) (e0 : p.kern = q.kern) (e1 : p.lev = q.lev) (e2 : p.col = q.col) (e3 : p.bx = q.bx) (e4 : p.yb = q.yb) (e5 : p.ord = q.ord) (e6 : p.lay = q.lay) (e7 : eqM p q = true) (e8 : p.dv = q.dv) (e9 : p.sy = q.sy) (e10 : p.fe = q.fe) (e11 : p.dead = q.dead) (e12 : p.sh = q.sh) (e13 : p.prec.length = q.prec.length) (e14 : p.steps.length = q.steps.length) (hP : HoldsP W s p.prec) (hP' : HoldsP W s' q.prec) (hS : HoldsI W s2 p.steps) (hS' : HoldsI W s2' q.steps) :
    Calls Try.prog 23 #[.agg (pvA p s m s2 m2), .agg (pvA q s' m' s2' m2')] W fun e w' => e = .returned (.bool (decide (p.prec = q.prec) && decide (p.steps = q.steps))) ∧ Below W.heap.size W w' := by
  obtain ⟨WB, hWB⟩ : ∃ ww, ww = ((W.alloc (.cells (pvA p s m s2 m2) 35)).alloc (.cells (pvA q s' m' s2' m2') 35)) := ⟨_, rfl⟩
  have hb0 : Below W.heap.size W WB := by rw [hWB]; exact (below_alloc (below_alloc (Below.refl _ W) (Nat.le_refl _) _) (by simp <;> omega) _)
  have B0 := Lib.hid hb0
  have hA : Blk WB (W.heap.size) 35 (pvA p s m s2 m2) := by
    have := Blk.new (W) 35 (pvA p s m s2 m2)
    rw [hWB]
    exact ((show Blk _ (W.heap.size) _ _ by simpa using this)).alloc _
  have hB : Blk WB (W.heap.size + 1) 35 (pvA q s' m' s2' m2') := by
    have := Blk.new ((W.alloc (.cells (pvA p s m s2 m2) 35))) 35 (pvA q s' m' s2' m2')
    rw [hWB]
    exact (show Blk _ (W.heap.size + 1) _ _ by simpa using this)
  obtain ⟨a0, a1, a2, a3, a4, a5, a6, a7, a8, a9, a10, a11, a12, a13, a14, a15, a16, a17, a18⟩ := hA.ps
  obtain ⟨b0, b1, b2, b3, b4, b5, b6, b7, b8, b9, b10, b11, b12, b13, b14, b15, b16, b17, b18⟩ := hB.ps
  have P1 := Lib.hid (hP.below hb0 (Nat.le_refl _))
  have P2 := Lib.hid (hP'.below hb0 (Nat.le_refl _))
  have S1 := Lib.hid (hS.below hb0 (Nat.le_refl _))
  have S2 := Lib.hid (hS'.below hb0 (Nat.le_refl _))
  have heq := eqMo
  have HW2 := hWB
  clear hb0 hWB hA hB hP hP' hS hS'
  unfold pvA at HW2 ⊢
  have t0 : (p.kern == q.kern) = true := by simpa using e0
  have u0 : (p.kern != q.kern) = false := by simpa using e0
  have t1 : (p.lev == q.lev) = true := by simpa using e1
  have u1 : (p.lev != q.lev) = false := by simpa using e1
  have t2 : (p.col == q.col) = true := by simpa using e2
  have u2 : (p.col != q.col) = false := by simpa using e2
  have t3 : (p.bx == q.bx) = true := by simpa using e3
  have u3 : (p.bx != q.bx) = false := by simpa using e3
  have t4 : (p.yb == q.yb) = true := by simpa using e4
  have u4 : (p.yb != q.yb) = false := by simpa using e4
  have t5 : (p.ord == q.ord) = true := by simpa using e5
  have u5 : (p.ord != q.ord) = false := by simpa using e5
  have t6 : (p.lay == q.lay) = true := by simpa using e6
  have u6 : (p.lay != q.lay) = false := by simpa using e6
  have t7 : eqM p q = true := by simpa using e7
  have t8 : (p.dv == q.dv) = true := by simpa using e8
  have u8 : (p.dv != q.dv) = false := by simpa using e8
  have t9 : (p.sy == q.sy) = true := by simpa using e9
  have u9 : (p.sy != q.sy) = false := by simpa using e9
  have t10 : (p.fe == q.fe) = true := by simpa using e10
  have u10 : (p.fe != q.fe) = false := by simpa using e10
  have t11 : (p.dead == q.dead) = true := by simpa using e11
  have u11 : (p.dead != q.dead) = false := by simpa using e11
  have t12 : (p.sh == q.sh) = true := by simpa using e12
  have u12 : (p.sh != q.sh) = false := by simpa using e12
  have t13 : (((p.prec.length : Int)) == (q.prec.length : Int)) = true := by simp [e13]
  have u13 : (((p.prec.length : Int)) != (q.prec.length : Int)) = false := by simp [e13]
  have t14 : (((p.steps.length : Int)) == (q.steps.length : Int)) = true := by simp [e14]
  have u14 : (((p.steps.length : Int)) != (q.steps.length : Int)) = false := by simp [e14]
  have hl1 : p.prec.length ≤ q.prec.length := by omega
  have hl2 : p.steps.length ≤ q.steps.length := by omega
  have HL := Lib.hid e13
  have HL2 := Lib.hid e14
  clear e0 e1 e2 e3 e4 e5 e6 e7 e8 e9 e10 e11 e12 e13 e14
  go_enter Try.func23, Try.ntmps23
  go_upto_region 1 with fail
  rw [← HW2]
  clear HW2
  go_upto_region 4 with fail
  clear t0 t1 t2 t3 t4 t5 t6 t7 t8 t9 t10 t11 t12 t13 t14 u0 u1 u2 u3 u4 u5 u6 u8 u9 u10 u11 u12 u13 u14
  go_loopw [5] (fun i wr => ∃ k : Nat, k ≤ p.prec.length ∧ i = .int .i64 k ∧ Hid (∀ j (h1 : j < p.prec.length) (h2 : j < q.prec.length), j < k → p.prec[j] = q.prec[j]) ∧ ∃ nn, wr = WB.drewN nn) (fun i _ => p.prec.length - (intOf i).toNat)
  case atStart => exact ⟨0, Nat.zero_le _, rfl, Lib.hid (fun j _ _ hj => absurd hj (Nat.not_lt_zero _)), 0, rfl⟩
  case round =>
    obtain ⟨k, hk, rfl, HA, nn, rfl⟩ := hrel
    have heqE := eqPt'
    by_cases hlt : k < p.prec.length
    · have hlt2 : k < q.prec.length := by omega
      rcases P1.out with z | ⟨b, off, rfl, hr⟩
      · rw [z] at hlt; simp at hlt
      rcases P2.out with z | ⟨b', off', rfl, hr'⟩
      · rw [z] at hlt2; simp at hlt2
      obtain ⟨c0, c1⟩ := hr k hlt
      obtain ⟨d0, d1⟩ := hr' k hlt2
      clear hr hr'
      have hi : (k : Int) < (p.prec.length : Int) := by omega
      have hi2 : (k : Int) < (q.prec.length : Int) := by omega
      have w2 : IntKind.i64.wrap ((k : Int) + 1) = (k : Int) + 1 := IntWalk.i64_in _ (by omega)
      have HN := Lib.hid (show p.prec[k] ≠ q.prec[k] → decide (p.prec = q.prec) = false from list_ne hlt hlt2)
      have HY := Lib.hid (show p.prec[k] = q.prec[k] → ∀ j (h1 : j < p.prec.length) (h2 : j < q.prec.length), j < k + 1 → p.prec[j] = q.prec[j] from fun he j h1 h2 hj => if hjk : j = k then by subst hjk; exact he else HA.out j h1 h2 (by omega))
      generalize p.prec[k] = U at *
      generalize q.prec[k] = V at *
      by_cases he : U = V
      · have HZ := Lib.hid (HY.out he)
        have g1 : (decide (U = V)) = true := by simp [he]
        have g2 : (U != V) = false := by simp [he]
        have g3 : (U == V) = true := by simp [he]
        clear HN HY HA he
        go_wp2_with fail
        go_quiet (fail)
        go_wp2_with fail
        go_roundw
        case rel => exact ⟨k + 1, by omega, by go_num, HZ, _, by first | rfl | (simp only [World.drewN_drewN]; rfl)⟩
        case measure => simp [intOf]; omega
      · have g1 : (decide (U = V)) = false := by simp [he]
        have g2 : (U != V) = true := by simp [he]
        have g3 : (U == V) = false := by simp [he]
        have hf := HN.out he
        clear HN HY HA he
        go_wp2_with fail
        go_quiet (fail)
        go_wp2_with fail
        go_ret
        exact ⟨by rw [hf]; rfl, below_drewN (below_drewN B0.out _) _⟩
    · have hf := list_all HL.out (fun j h1 h2 => HA.out j h1 h2 (by omega))
      have HF1 := Lib.hid hf
      clear hf HA
      go_upto_region 9 with fail
      go_loopw [6] (fun i wr => ∃ k : Nat, k ≤ p.steps.length ∧ i = .int .i64 k ∧ Hid (∀ j (h1 : j < p.steps.length) (h2 : j < q.steps.length), j < k → p.steps[j] = q.steps[j]) ∧ ∃ nk, wr = WB.drewN nk) (fun i _ => p.steps.length - (intOf i).toNat)
      case atStart => exact ⟨0, Nat.zero_le _, rfl, Lib.hid (fun j _ _ hj => absurd hj (Nat.not_lt_zero _)), nn, rfl⟩
      case round =>
        obtain ⟨k, hk, rfl, HA, nk, rfl⟩ := hrel
        by_cases hlt : k < p.steps.length
        · have hlt2 : k < q.steps.length := by omega
          rcases S1.out with z | ⟨b, off, rfl, hr⟩
          · rw [z] at hlt; simp at hlt
          rcases S2.out with z | ⟨b', off', rfl, hr'⟩
          · rw [z] at hlt2; simp at hlt2
          have c0 := hr k hlt
          have d0 := hr' k hlt2
          clear hr hr'
          have hi : (k : Int) < (p.steps.length : Int) := by omega
          have hi2 : (k : Int) < (q.steps.length : Int) := by omega
          have w2 : IntKind.i64.wrap ((k : Int) + 1) = (k : Int) + 1 := IntWalk.i64_in _ (by omega)
          have HN := Lib.hid (show p.steps[k] ≠ q.steps[k] → decide (p.steps = q.steps) = false from list_ne hlt hlt2)
          have HY := Lib.hid (show p.steps[k] = q.steps[k] → ∀ j (h1 : j < p.steps.length) (h2 : j < q.steps.length), j < k + 1 → p.steps[j] = q.steps[j] from fun he j h1 h2 hj => if hjk : j = k then by subst hjk; exact he else HA.out j h1 h2 (by omega))
          generalize p.steps[k] = U at *
          generalize q.steps[k] = V at *
          by_cases he : U = V
          · have HZ := Lib.hid (HY.out he)
            have g1 : (decide (U = V)) = true := by simp [he]
            have g2 : (U != V) = false := by simp [he]
            have g3 : (U == V) = true := by simp [he]
            clear HN HY HA he
            go_wp2_with fail
            go_quiet (fail)
            go_wp2_with fail
            go_roundw
            case rel => exact ⟨k + 1, by omega, by go_num, HZ, _, by first | rfl | (simp only [World.drewN_drewN]; rfl)⟩
            case measure => simp [intOf]; omega
          · have g1 : (decide (U = V)) = false := by simp [he]
            have g2 : (U != V) = true := by simp [he]
            have g3 : (U == V) = false := by simp [he]
            have hf := HN.out he
            clear HN HY HA he
            go_wp2_with fail
            go_quiet (fail)
            go_wp2_with fail
            go_ret
            exact ⟨by rw [hf, HF1.out]; rfl, below_drewN (below_drewN B0.out _) _⟩
        · have hf := list_all HL2.out (fun j h1 h2 => HA.out j h1 h2 (by omega))
          go_wp2_with fail
          go_ret
          exact ⟨by rw [hf, HF1.out]; rfl, below_drewN B0.out _⟩
end Go.Proofs.Ytkcjbehfhcmiaaa
namespace Go.Proofs.Ytkcjbehfhcmiaaa
open Go.RowKit
set_option maxHeartbeats 8000000 in
theorem same_c (a b : Hp.Hd) (sa sb : Option Addr) (ma mb : Nat) (p q : Hp.Ps) (s s' s2 s2' : Option Addr) (m m' m2 m2' : Nat) (W : World) (l1 : p.prec.length ≤ 4398046511104) (l1' : q.prec.length ≤ 4398046511104) (l2 : p.steps.length ≤ 4398046511104) (l2' : q.steps.length ≤ 4398046511104) (hP : HoldsP W s p.prec) (hP' : HoldsP W s' q.prec) (hS : HoldsI W s2 p.steps) (hS' : HoldsI W s2' q.steps) (la : a.cs.length ≤ 4398046511104) (lb : b.cs.length ≤ 4398046511104) (hC : HoldsC W sa a.cs) (hC' : HoldsC W sb b.cs) :
    Calls Try.prog 19 #[.agg (hvA a sa ma), .agg (hvA b sb mb), .agg (pvA p s m s2 m2), .agg (pvA q s' m' s2' m2')] W fun e w' => e = .returned (.tuple #[.bool (eqHd a b), .bool (eqPs p q)]) ∧ Below W.heap.size W w' := by
  obtain ⟨WB, hWB⟩ : ∃ ww, ww = ((((W.alloc (.cells (hvA a sa ma) 26)).alloc (.cells (hvA b sb mb) 26)).alloc (.cells (pvA p s m s2 m2) 35)).alloc (.cells (pvA q s' m' s2' m2') 35)) := ⟨_, rfl⟩
  have hb0 : Below W.heap.size W WB := by rw [hWB]; exact below_alloc (below_alloc (below_alloc (below_alloc (Below.refl _ W) (Nat.le_refl _) _) (by simp) _) (by simp <;> omega) _) (by simp <;> omega) _
  have n1 := Blk.new W 26 (hvA a sa ma)
  have n2 := Blk.new (W.alloc (.cells (hvA a sa ma) 26)) 26 (hvA b sb mb)
  have n3 := Blk.new ((W.alloc (.cells (hvA a sa ma) 26)).alloc (.cells (hvA b sb mb) 26)) 35 (pvA p s m s2 m2)
  have n4 := Blk.new (((W.alloc (.cells (hvA a sa ma) 26)).alloc (.cells (hvA b sb mb) 26)).alloc (.cells (pvA p s m s2 m2) 35)) 35 (pvA q s' m' s2' m2')
  have q1 : Blk WB W.heap.size 26 (hvA a sa ma) := by rw [hWB]; exact ((n1.alloc _).alloc _).alloc _
  have q2 : Blk WB (W.heap.size + 1) 26 (hvA b sb mb) := by rw [hWB]; exact ((show Blk _ (W.heap.size + 1) _ _ by simpa using n2).alloc _).alloc _
  have q3 : Blk WB (W.heap.size + 1 + 1) 35 (pvA p s m s2 m2) := by rw [hWB]; exact (show Blk _ (W.heap.size + 1 + 1) _ _ by simpa using n3).alloc _
  have q4 : Blk WB (W.heap.size + 1 + 1 + 1) 35 (pvA q s' m' s2' m2') := by rw [hWB]; exact (show Blk _ (W.heap.size + 1 + 1 + 1) _ _ by simpa using n4)
  have A0 := Lib.hid (show (Below W.heap.size W WB.drew ∧ HoldsC WB.drew sa a.cs ∧ HoldsC WB.drew sb b.cs ∧ HoldsP WB.drew s p.prec ∧ HoldsP WB.drew s' q.prec ∧ HoldsI WB.drew s2 p.steps ∧ HoldsI WB.drew s2' q.steps) ∧ Blk WB.drew W.heap.size 26 (hvA a sa ma) ∧ Blk WB.drew (W.heap.size + 1) 26 (hvA b sb mb) ∧ Blk WB.drew (W.heap.size + 1 + 1) 35 (pvA p s m s2 m2) ∧ Blk WB.drew (W.heap.size + 1 + 1 + 1) 35 (pvA q s' m' s2' m2') from
    ⟨⟨hb0.drew, hC.below hb0.drew (Nat.le_refl _), hC'.below hb0.drew (Nat.le_refl _), hP.below hb0.drew (Nat.le_refl _), hP'.below hb0.drew (Nat.le_refl _), hS.below hb0.drew (Nat.le_refl _), hS'.below hb0.drew (Nat.le_refl _)⟩, q1.drew, q2.drew, q3.drew, q4.drew⟩)
  have HW2 := hWB
  clear n1 n2 n3 n4 q1 q2 q3 q4 hb0 hWB hC hC' hP hP' hS hS'
  unfold hvA pvA at HW2
  show Calls Try.prog 19 #[.agg #[.int .i64 a.a, .int .i64 a.b, .int .i64 a.c, .int .i64 a.d, .int .i64 a.tw, .int .i64 a.th, .slice sa a.cs.length ma], .agg #[.int .i64 b.a, .int .i64 b.b, .int .i64 b.c, .int .i64 b.d, .int .i64 b.tw, .int .i64 b.th, .slice sb b.cs.length mb], .agg #[.int .i64 p.kern, .int .i64 p.lev, .int .i64 p.col, .int .i64 p.bx, .int .i64 p.yb, .slice s p.prec.length m, .int .i64 p.ord, .int .i64 p.lay, .bool p.m0, .bool p.m1, .bool p.m2, .bool p.m3, .bool p.m4, .bool p.dv, .bool p.sy, .bool p.fe, .slice s2 p.steps.length m2, .int .i64 p.dead, .int .i64 p.sh], .agg #[.int .i64 q.kern, .int .i64 q.lev, .int .i64 q.col, .int .i64 q.bx, .int .i64 q.yb, .slice s' q.prec.length m', .int .i64 q.ord, .int .i64 q.lay, .bool q.m0, .bool q.m1, .bool q.m2, .bool q.m3, .bool q.m4, .bool q.dv, .bool q.sy, .bool q.fe, .slice s2' q.steps.length m2', .int .i64 q.dead, .int .i64 q.sh]] W _
  go_enter Try.func19, Try.ntmps19
  go_upto_region 1 with fail
  rw [← HW2]
  clear HW2
  refine wp_region_held_drew (S := (fun w => (Below W.heap.size W w ∧ HoldsC w sa a.cs ∧ HoldsC w sb b.cs ∧ HoldsP w s p.prec ∧ HoldsP w s' q.prec ∧ HoldsI w s2 p.steps ∧ HoldsI w s2' q.steps) ∧ Blk w W.heap.size 26 (hvA a sa ma) ∧ Blk w (W.heap.size + 1) 26 (hvA b sb mb) ∧ Blk w (W.heap.size + 1 + 1) 35 (pvA p s m s2 m2) ∧ Blk w (W.heap.size + 1 + 1 + 1) 35 (pvA q s' m' s2' m2'))) (by kernel_rfl) (by (try dsimp only); exact A0.out) (fun hHeld => ?_)
  refine takeD (i := 0) (oi := _) (some 10) (v := .agg (hvA a sa ma)) rfl rfl (by kernel_rfl) (by kernel_rfl) (by kernel_rfl) (fun _ _ _ h => h) (yieldsIf_load_mid (by rfl) 26 (.tmp 4) rfl W.heap.size 0 rfl (hvA a sa ma).toList _ (fun w hw => hw.2.1.range) Try.underlying26 rfl info7) (by assumption) ?_
  simp only [Act.put, List.setIfInBounds_toArray, List.set]
  refine takeD (i := 1) (oi := _) (some 11) (v := .agg (hvA b sb mb)) rfl rfl (by kernel_rfl) (by kernel_rfl) (by kernel_rfl) (fun _ _ _ h => h) (yieldsIf_load_mid (by rfl) 26 (.tmp 5) rfl (W.heap.size + 1) 0 rfl (hvA b sb mb).toList _ (fun w hw => hw.2.2.1.range) Try.underlying26 rfl info7) (by assumption) ?_
  simp only [Act.put, List.setIfInBounds_toArray, List.set]
  refine takeD (i := 3) (oi := _) (some 13) (v := .agg (pvA p s m s2 m2)) rfl rfl (by kernel_rfl) (by kernel_rfl) (by kernel_rfl) (fun _ _ _ h => h) (yieldsIf_load_mid (by rfl) 35 (.tmp 6) rfl (W.heap.size + 1 + 1) 0 rfl (pvA p s m s2 m2).toList _ (fun w hw => hw.2.2.2.1.range) Try.underlying35 rfl info19) (by assumption) ?_
  simp only [Act.put, List.setIfInBounds_toArray, List.set]
  refine takeD (i := 4) (oi := _) (some 14) (v := .agg (pvA q s' m' s2' m2')) rfl rfl (by kernel_rfl) (by kernel_rfl) (by kernel_rfl) (fun _ _ _ h => h) (yieldsIf_load_mid (by rfl) 35 (.tmp 7) rfl (W.heap.size + 1 + 1 + 1) 0 rfl (pvA q s' m' s2' m2').toList _ (fun w hw => hw.2.2.2.2.range) Try.underlying35 rfl info19) (by assumption) ?_
  simp only [Act.put, List.setIfInBounds_toArray, List.set]
  refine wpAnyH_ready (rs := [2]) (by kernel_rfl) (by simp) ?_
  refine AllReadyH.cons (o := _) rfl (fun K hK => ?_) AllReadyH.nil
  (go_simp; go_at_call 49; (with_reducible refine (sameHd_c a b sa sb ma mb _ la lb hHeld.1.2.1 hHeld.1.2.2.1).mono ?_); rintro e wn ⟨rfl, hbn⟩)
  refine hK.out _ _ (by (try dsimp only); first | exact hHeld | exact ⟨⟨hHeld.1.1.trans (hbn.mono hHeld.1.1.size), hHeld.1.2.1.below hbn (Nat.le_refl _), hHeld.1.2.2.1.below hbn (Nat.le_refl _), hHeld.1.2.2.2.1.below hbn (Nat.le_refl _), hHeld.1.2.2.2.2.1.below hbn (Nat.le_refl _), hHeld.1.2.2.2.2.2.1.below hbn (Nat.le_refl _), hHeld.1.2.2.2.2.2.2.below hbn (Nat.le_refl _)⟩, hHeld.2.1.below hbn, hHeld.2.2.1.below hbn, hHeld.2.2.2.1.below hbn, hHeld.2.2.2.2.below hbn⟩) (fun hHeld => ?_)
  clear hK K
  try simp only [Act.put, List.setIfInBounds_toArray, List.set]
  refine wpAnyH_ready (rs := [5]) (by kernel_rfl) (by simp) ?_
  refine AllReadyH.cons (o := _) rfl (fun K hK => ?_) AllReadyH.nil
  (go_simp; go_at_call 50; (with_reducible refine (samePs_c p q s s' s2 s2' m m' m2 m2' _ l1 l1' l2 l2' hHeld.1.2.2.2.1 hHeld.1.2.2.2.2.1 hHeld.1.2.2.2.2.2.1 hHeld.1.2.2.2.2.2.2).mono ?_); rintro e wn ⟨rfl, hbn⟩)
  refine hK.out _ _ (by (try dsimp only); first | exact hHeld | exact ⟨⟨hHeld.1.1.trans (hbn.mono hHeld.1.1.size), hHeld.1.2.1.below hbn (Nat.le_refl _), hHeld.1.2.2.1.below hbn (Nat.le_refl _), hHeld.1.2.2.2.1.below hbn (Nat.le_refl _), hHeld.1.2.2.2.2.1.below hbn (Nat.le_refl _), hHeld.1.2.2.2.2.2.1.below hbn (Nat.le_refl _), hHeld.1.2.2.2.2.2.2.below hbn (Nat.le_refl _)⟩, hHeld.2.1.below hbn, hHeld.2.2.1.below hbn, hHeld.2.2.2.1.below hbn, hHeld.2.2.2.2.below hbn⟩) (fun hHeld => ?_)
  clear hK K
  try simp only [Act.put, List.setIfInBounds_toArray, List.set]
  refine takeD (i := 6) (oi := _) (some 8) (v := ?_) rfl rfl (by kernel_rfl) (by kernel_rfl) (by kernel_rfl) (fun _ _ _ h => h) (Or.inl ⟨by rfl, ?_⟩) (by assumption) ?_
  rotate_left
  · (intro w hSw; (try dsimp only at hSw); go_simp; try with_reducible rfl)
  simp only [Act.put, List.setIfInBounds_toArray, List.set]
  refine takeD (i := 7) (oi := _) (some 9) (v := ?_) rfl rfl (by kernel_rfl) (by kernel_rfl) (by kernel_rfl) (fun _ _ _ h => h) (Or.inl ⟨by rfl, ?_⟩) (by assumption) ?_
  rotate_left
  · (intro w hSw; (try dsimp only at hSw); go_simp; try with_reducible rfl)
  simp only [Act.put, List.setIfInBounds_toArray, List.set]
  refine wpAnyH_done (by kernel_rfl) ?_ _
  have HB := Lib.hid hHeld.1.1
  clear hHeld A0
  go_wp2_with fail
  go_ret2
  exact ⟨rfl, HB.out⟩
end Go.Proofs.Ytkcjbehfhcmiaaa
namespace Go.Proofs.Ytkcjbehfhcmiaaa.paramsClones
open Go.ChangeShapes Go.WideShapes Go.ChangeAt Go.RowKit Go.Joins Go.Deep

theorem OwnG.farBlk {α : Type} {f : α → List Value} {T T' : TypeId} {B : Nat} {w : World} {a : Option Addr} {l : List α} {g o : Nat} {cs : Array Value} (h : OwnG f T w B a l) (hb : Blk w g T' cs) (hne : T ≠ T') (u : Value) : OwnG f T (w.setCell ⟨g, o, none⟩ u) B a l := by
  rcases h with h | ⟨g', pad, rfl, hB, hr⟩
  · exact .inl h
  · exact .inr ⟨g', pad, rfl, hB, hr.far (p := ⟨g, o, none⟩) (hr.ne hb hne) u⟩
def w3_of (w : World) (a b : Array Value) : World := (((w.alloc (.cells zeroH 26)).alloc (.cells zeroP 35)).setRow w.heap.size a).setRow (w.heap.size + 1) b
theorem w3_is (w : World) (a b : Array Value) : w3_of w a b = (((w.alloc (.cells #[.int .i64 0, .int .i64 0, .int .i64 0, .int .i64 0, .int .i64 0, .int .i64 0, .slice none 0 0] 26)).alloc (.cells #[.int .i64 0, .int .i64 0, .int .i64 0, .int .i64 0, .int .i64 0, .slice none 0 0, .int .i64 0, .int .i64 0, .bool false, .bool false, .bool false, .bool false, .bool false, .bool false, .bool false, .bool false, .slice none 0 0, .int .i64 0, .int .i64 0] 35)).setRow w.heap.size a).setRow (w.heap.size + 1) b := rfl
theorem zh_new (w : World) : Blk ((w.alloc (.cells zeroH 26)).alloc (.cells zeroP 35)) w.heap.size 26 zeroH := (Blk.new w 26 zeroH).alloc _
theorem zp_new (w : World) (a : Array Value) : Blk (((w.alloc (.cells zeroH 26)).alloc (.cells zeroP 35)).setRow w.heap.size a) (w.heap.size + 1) 35 zeroP := by
  have := Blk.new (w.alloc (.cells zeroH 26)) 35 zeroP
  exact Blk.rowFar (show Blk _ (w.heap.size + 1) _ _ by simpa using this) (by omega) _
theorem w3_a (w : World) (a b : Array Value) : Blk (w3_of w a b) w.heap.size 26 a := Blk.rowFar (setRow_heap _ _ _ _ _ _ (zh_new w)) (by omega) _
theorem w3_b (w : World) (a b : Array Value) : Blk (w3_of w a b) (w.heap.size + 1) 35 b := setRow_heap _ _ _ _ _ _ (zp_new w a)
theorem w3_below (w : World) (a b : Array Value) : Below w.heap.size w (w3_of w a b) := below_setRow (below_setRow (below_alloc (below_alloc (Below.refl _ _) (Nat.le_refl _) _) (by simp) _) (Nat.le_refl _) _) (by omega) _
/-- What stands before the first copy. -/
structure C0S (W : World) (h : Hp.Hd) (p : Hp.Ps) (s : Option Addr) (m : Nat) (t : Option Addr) (n : Nat) (t2 : Option Addr) (n2 : Nat) (w : World) : Prop where
  bl : Below W.heap.size W w
  bh : Blk w W.heap.size 26 (hvA h s m)
  bp : Blk w (W.heap.size + 1) 35 (pvA p t n t2 n2)
  hC : HoldsC w s h.cs
  hP : HoldsP w t p.prec
  hS : HoldsI w t2 p.steps
theorem C0S.below {W : World} {h : Hp.Hd} {p : Hp.Ps} {s : Option Addr} {m : Nat} {t : Option Addr} {n : Nat} {t2 : Option Addr} {n2 : Nat} {w w' : World} (a : C0S W h p s m t n t2 n2 w) (hb : Below w.heap.size w w') : C0S W h p s m t n t2 n2 w' :=
  ⟨a.bl.trans (hb.mono a.bl.size), a.bh.below hb, a.bp.below hb, a.hC.below hb (Nat.le_refl _), a.hP.below hb (Nat.le_refl _), a.hS.below hb (Nat.le_refl _)⟩
/-- What stands behind the first copy. -/
structure C1S (W : World) (h : Hp.Hd) (p : Hp.Ps) (s : Option Addr) (m : Nat) (t : Option Addr) (n : Nat) (t2 : Option Addr) (n2 : Nat) (gA : Nat) (sa : Option Addr) (ma : Nat) (ta : Option Addr) (na : Nat) (ua : Option Addr) (ja : Nat) (w : World) : Prop where
  bl : Below W.heap.size W w
  bh : Blk w W.heap.size 26 (hvA h s m)
  bp : Blk w (W.heap.size + 1) 35 (pvA p t n t2 n2)
  ba : Blk w gA 26 (hvA h sa ma)
  bq : Blk w (gA + 1) 35 (pvA p ta na ua ja)
  hC : HoldsC w s h.cs
  hP : HoldsP w t p.prec
  hS : HoldsI w t2 p.steps
  oa : OwnG cmV 56 w W.heap.size sa h.cs
  ot : OwnG ptV 41 w W.heap.size ta p.prec
  ou : OwnG inV 3 w W.heap.size ua p.steps
theorem C1S.below {W : World} {h : Hp.Hd} {p : Hp.Ps} {s : Option Addr} {m : Nat} {t : Option Addr} {n : Nat} {t2 : Option Addr} {n2 : Nat} {gA : Nat} {sa : Option Addr} {ma : Nat} {ta : Option Addr} {na : Nat} {ua : Option Addr} {ja : Nat} {w w' : World} (a : C1S W h p s m t n t2 n2 gA sa ma ta na ua ja w) (hb : Below w.heap.size w w') : C1S W h p s m t n t2 n2 gA sa ma ta na ua ja w' :=
  ⟨a.bl.trans (hb.mono a.bl.size), a.bh.below hb, a.bp.below hb, a.ba.below hb, a.bq.below hb, a.hC.below hb (Nat.le_refl _), a.hP.below hb (Nat.le_refl _), a.hS.below hb (Nat.le_refl _), a.oa.below hb, a.ot.below hb, a.ou.below hb⟩
/-- What stands behind the second copy, the first one's lists being turned. -/
structure C2S (W : World) (h : Hp.Hd) (p : Hp.Ps) (s : Option Addr) (m : Nat) (t : Option Addr) (n : Nat) (t2 : Option Addr) (n2 : Nat) (gA : Nat) (sa : Option Addr) (ma : Nat) (ta : Option Addr) (na : Nat) (ua : Option Addr) (ja : Nat) (gB : Nat) (sb : Option Addr) (mb : Nat) (tb : Option Addr) (nb : Nat) (ub : Option Addr) (jb : Nat) (B2 : Nat) (cs : List Hp.Cm) (pts : List Hp.Pt) (sts : List Int) (w : World) : Prop where
  bl : Below W.heap.size W w
  bh : Blk w W.heap.size 26 (hvA h s m)
  bp : Blk w (W.heap.size + 1) 35 (pvA p t n t2 n2)
  ba : Blk w gA 26 (hvA h sa ma)
  bq : Blk w (gA + 1) 35 (pvA p ta na ua ja)
  bb : Blk w gB 26 (hvA h sb mb)
  bs : Blk w (gB + 1) 35 (pvA p tb nb ub jb)
  hC : HoldsC w s h.cs
  hP : HoldsP w t p.prec
  hS : HoldsI w t2 p.steps
  oa : OwnG cmV 56 w W.heap.size sa cs
  ot : OwnG ptV 41 w W.heap.size ta pts
  ou : OwnG inV 3 w W.heap.size ua sts
  ob : OwnG cmV 56 w B2 sb h.cs
  op : OwnG ptV 41 w B2 tb p.prec
  os : OwnG inV 3 w B2 ub p.steps
  ua1 : cs ≠ [] → ∀ x, sa = some x → x.block < B2
  ua2 : pts ≠ [] → ∀ x, ta = some x → x.block < B2
  ua3 : sts ≠ [] → ∀ x, ua = some x → x.block < B2
theorem C2S.below {W : World} {h : Hp.Hd} {p : Hp.Ps} {s : Option Addr} {m : Nat} {t : Option Addr} {n : Nat} {t2 : Option Addr} {n2 : Nat} {gA : Nat} {sa : Option Addr} {ma : Nat} {ta : Option Addr} {na : Nat} {ua : Option Addr} {ja : Nat} {gB : Nat} {sb : Option Addr} {mb : Nat} {tb : Option Addr} {nb : Nat} {ub : Option Addr} {jb : Nat} {B2 : Nat} {cs : List Hp.Cm} {pts : List Hp.Pt} {sts : List Int} {w w' : World} (a : C2S W h p s m t n t2 n2 gA sa ma ta na ua ja gB sb mb tb nb ub jb B2 cs pts sts w) (hb : Below w.heap.size w w') : C2S W h p s m t n t2 n2 gA sa ma ta na ua ja gB sb mb tb nb ub jb B2 cs pts sts w' :=
  ⟨a.bl.trans (hb.mono a.bl.size), a.bh.below hb, a.bp.below hb, a.ba.below hb, a.bq.below hb, a.bb.below hb, a.bs.below hb, a.hC.below hb (Nat.le_refl _), a.hP.below hb (Nat.le_refl _), a.hS.below hb (Nat.le_refl _), a.oa.below hb, a.ot.below hb, a.ou.below hb, a.ob.below hb, a.op.below hb, a.os.below hb, a.ua1, a.ua2, a.ua3⟩
theorem C2S.putC {W : World} {h : Hp.Hd} {p : Hp.Ps} {s : Option Addr} {m : Nat} {t : Option Addr} {n : Nat} {t2 : Option Addr} {n2 : Nat} {gA : Nat} {sa : Option Addr} {ma : Nat} {ta : Option Addr} {na : Nat} {ua : Option Addr} {ja : Nat} {gB : Nat} {sb : Option Addr} {mb : Nat} {tb : Option Addr} {nb : Nat} {ub : Option Addr} {jb : Nat} {B2 : Nat} {cs : List Hp.Cm} {pts : List Hp.Pt} {sts : List Int} {w : World} (HC0 : HoldsC W s h.cs) (HP0 : HoldsP W t p.prec) (HS0 : HoldsI W t2 p.steps) {g : Nat} {pad : List Value} (z : C2S W h p s m t n t2 n2 gA sa ma ta na ua ja gB sb mb tb nb ub jb B2 cs pts sts w) (hadr : sa = some ⟨g, 0, none⟩) (hB : W.heap.size ≤ g) (hbk : Blk w g 56 ((cs.flatMap cmV) ++ pad).toArray) (k : Nat) (hk : k < cs.length) (c : Hp.Cm) (v : Value) (hc : cmV c = (cmV cs[k]).set 2 v) :
    C2S W h p s m t n t2 n2 gA sa ma ta na ua ja gB sb mb tb nb ub jb B2 (cs.set k c) pts sts (w.setCell ⟨g, k * 4 + 2, none⟩ v) := by
  have hlt : g < B2 := z.ua1 (by intro e; rw [e] at hk; simp at hk) _ hadr
  have hb : Below W.heap.size W (w.setCell ⟨g, k * 4 + 2, none⟩ v) := z.bl.setCell (p := ⟨g, _, none⟩) hB _
  subst hadr
  exact ⟨hb, z.bh.far (p := ⟨g, _, none⟩) (z.bh.ne hbk (by decide)) _, z.bp.far (p := ⟨g, _, none⟩) (z.bp.ne hbk (by decide)) _, z.ba.far (p := ⟨g, _, none⟩) (z.ba.ne hbk (by decide)) _, z.bq.far (p := ⟨g, _, none⟩) (z.bq.ne hbk (by decide)) _, z.bb.far (p := ⟨g, _, none⟩) (z.bb.ne hbk (by decide)) _, z.bs.far (p := ⟨g, _, none⟩) (z.bs.ne hbk (by decide)) _,
    HC0.below hb (Nat.le_refl _), HP0.below hb (Nat.le_refl _), HS0.below hb (Nat.le_refl _), (.inr ⟨g, pad, rfl, hB, ownG_set cmV_len hbk k hk 2 (by decide) c _ hc⟩), OwnG.farBlk z.ot hbk (by decide) _, OwnG.farBlk z.ou hbk (by decide) _, z.ob.far (p := ⟨g, _, none⟩) hlt _, OwnG.farBlk z.op hbk (by decide) _, OwnG.farBlk z.os hbk (by decide) _, fun hne => z.ua1 (fun e => hne (by rw [e]; rfl)), z.ua2, z.ua3⟩
theorem C2S.putP {W : World} {h : Hp.Hd} {p : Hp.Ps} {s : Option Addr} {m : Nat} {t : Option Addr} {n : Nat} {t2 : Option Addr} {n2 : Nat} {gA : Nat} {sa : Option Addr} {ma : Nat} {ta : Option Addr} {na : Nat} {ua : Option Addr} {ja : Nat} {gB : Nat} {sb : Option Addr} {mb : Nat} {tb : Option Addr} {nb : Nat} {ub : Option Addr} {jb : Nat} {B2 : Nat} {cs : List Hp.Cm} {pts : List Hp.Pt} {sts : List Int} {w : World} (HC0 : HoldsC W s h.cs) (HP0 : HoldsP W t p.prec) (HS0 : HoldsI W t2 p.steps) {g : Nat} {pad : List Value} (z : C2S W h p s m t n t2 n2 gA sa ma ta na ua ja gB sb mb tb nb ub jb B2 cs pts sts w) (hadr : ta = some ⟨g, 0, none⟩) (hB : W.heap.size ≤ g) (hbk : Blk w g 41 ((pts.flatMap ptV) ++ pad).toArray) (k : Nat) (hk : k < pts.length) (c : Hp.Pt) (v : Value) (hc : ptV c = (ptV pts[k]).set 1 v) :
    C2S W h p s m t n t2 n2 gA sa ma ta na ua ja gB sb mb tb nb ub jb B2 cs (pts.set k c) sts (w.setCell ⟨g, k * 2 + 1, none⟩ v) := by
  have hlt : g < B2 := z.ua2 (by intro e; rw [e] at hk; simp at hk) _ hadr
  have hb : Below W.heap.size W (w.setCell ⟨g, k * 2 + 1, none⟩ v) := z.bl.setCell (p := ⟨g, _, none⟩) hB _
  subst hadr
  exact ⟨hb, z.bh.far (p := ⟨g, _, none⟩) (z.bh.ne hbk (by decide)) _, z.bp.far (p := ⟨g, _, none⟩) (z.bp.ne hbk (by decide)) _, z.ba.far (p := ⟨g, _, none⟩) (z.ba.ne hbk (by decide)) _, z.bq.far (p := ⟨g, _, none⟩) (z.bq.ne hbk (by decide)) _, z.bb.far (p := ⟨g, _, none⟩) (z.bb.ne hbk (by decide)) _, z.bs.far (p := ⟨g, _, none⟩) (z.bs.ne hbk (by decide)) _,
    HC0.below hb (Nat.le_refl _), HP0.below hb (Nat.le_refl _), HS0.below hb (Nat.le_refl _), OwnG.farBlk z.oa hbk (by decide) _, (.inr ⟨g, pad, rfl, hB, ownG_set ptV_len hbk k hk 1 (by decide) c _ hc⟩), OwnG.farBlk z.ou hbk (by decide) _, OwnG.farBlk z.ob hbk (by decide) _, z.op.far (p := ⟨g, _, none⟩) hlt _, OwnG.farBlk z.os hbk (by decide) _, z.ua1, fun hne => z.ua2 (fun e => hne (by rw [e]; rfl)), z.ua3⟩
theorem C2S.putS {W : World} {h : Hp.Hd} {p : Hp.Ps} {s : Option Addr} {m : Nat} {t : Option Addr} {n : Nat} {t2 : Option Addr} {n2 : Nat} {gA : Nat} {sa : Option Addr} {ma : Nat} {ta : Option Addr} {na : Nat} {ua : Option Addr} {ja : Nat} {gB : Nat} {sb : Option Addr} {mb : Nat} {tb : Option Addr} {nb : Nat} {ub : Option Addr} {jb : Nat} {B2 : Nat} {cs : List Hp.Cm} {pts : List Hp.Pt} {sts : List Int} {w : World} (HC0 : HoldsC W s h.cs) (HP0 : HoldsP W t p.prec) (HS0 : HoldsI W t2 p.steps) {g : Nat} {pad : List Value} (z : C2S W h p s m t n t2 n2 gA sa ma ta na ua ja gB sb mb tb nb ub jb B2 cs pts sts w) (hadr : ua = some ⟨g, 0, none⟩) (hB : W.heap.size ≤ g) (hbk : Blk w g 3 ((sts.flatMap inV) ++ pad).toArray) (k : Nat) (hk : k < sts.length) (c : Int) (v : Value) (hc : inV c = (inV sts[k]).set 0 v) :
    C2S W h p s m t n t2 n2 gA sa ma ta na ua ja gB sb mb tb nb ub jb B2 cs pts (sts.set k c) (w.setCell ⟨g, k * 1 + 0, none⟩ v) := by
  have hlt : g < B2 := z.ua3 (by intro e; rw [e] at hk; simp at hk) _ hadr
  have hb : Below W.heap.size W (w.setCell ⟨g, k * 1 + 0, none⟩ v) := z.bl.setCell (p := ⟨g, _, none⟩) hB _
  subst hadr
  exact ⟨hb, z.bh.far (p := ⟨g, _, none⟩) (z.bh.ne hbk (by decide)) _, z.bp.far (p := ⟨g, _, none⟩) (z.bp.ne hbk (by decide)) _, z.ba.far (p := ⟨g, _, none⟩) (z.ba.ne hbk (by decide)) _, z.bq.far (p := ⟨g, _, none⟩) (z.bq.ne hbk (by decide)) _, z.bb.far (p := ⟨g, _, none⟩) (z.bb.ne hbk (by decide)) _, z.bs.far (p := ⟨g, _, none⟩) (z.bs.ne hbk (by decide)) _,
    HC0.below hb (Nat.le_refl _), HP0.below hb (Nat.le_refl _), HS0.below hb (Nat.le_refl _), OwnG.farBlk z.oa hbk (by decide) _, OwnG.farBlk z.ot hbk (by decide) _, (.inr ⟨g, pad, rfl, hB, ownG_set inV_len hbk k hk 0 (by decide) c _ hc⟩), OwnG.farBlk z.ob hbk (by decide) _, OwnG.farBlk z.op hbk (by decide) _, z.os.far (p := ⟨g, _, none⟩) hlt _, z.ua1, z.ua2, fun hne => z.ua3 (fun e => hne (by rw [e]; rfl))⟩
theorem eqM_self (p : Hp.Ps) : eqM p p = true := by simp [eqM]
theorem dec2_self (p : Hp.Ps) : (decide (p.prec = p.prec) && decide (p.steps = p.steps)) = true := by simp
set_option maxHeartbeats 16000000 in
theorem walk (h : Hp.Hd) (p : Hp.Ps) (s : Option Addr) (m : Nat) (t : Option Addr) (n : Nat) (t2 : Option Addr) (n2 : Nat) (W : World) (hC : HoldsC W s h.cs) (hP : HoldsP W t p.prec) (hS : HoldsI W t2 p.steps) (c1 : capOk s h.cs.length m) (c2 : capOk t p.prec.length n) (c3 : capOk t2 p.steps.length n2) :
    Calls Try.prog 6 #[.agg (hvA h s m), .agg (pvA p t n t2 n2)] W fun e w' => e = .returned (.bool true) ∧ Below W.heap.size W w' := by
  obtain ⟨WB, hWB⟩ : ∃ ww, ww = ((W.alloc (.cells (hvA h s m) 26)).alloc (.cells (pvA p t n t2 n2) 35)) := ⟨_, rfl⟩
  have hb0 : Below W.heap.size W WB := by rw [hWB]; exact below_alloc (below_alloc (Below.refl _ W) (Nat.le_refl _) _) (by simp) _
  have n1 := Blk.new W 26 (hvA h s m)
  have n2' := Blk.new (W.alloc (.cells (hvA h s m) 26)) 35 (pvA p t n t2 n2)
  have q1 : Blk WB W.heap.size 26 (hvA h s m) := by rw [hWB]; exact n1.alloc _
  have q2 : Blk WB (W.heap.size + 1) 35 (pvA p t n t2 n2) := by rw [hWB]; exact (show Blk _ (W.heap.size + 1) _ _ by simpa using n2')
  have A0 := Lib.hid (show C0S W h p s m t n t2 n2 WB from ⟨hb0, q1, q2, hC.below hb0 (Nat.le_refl _), hP.below hb0 (Nat.le_refl _), hS.below hb0 (Nat.le_refl _)⟩)
  have KF := Lib.hid (fun w : World => few_c h p s t t2 m n n2 w)
  have HC0 := Lib.hid hC
  have HP0 := Lib.hid hP
  have HS0 := Lib.hid hS
  have HW2 := hWB
  clear n1 n2' q1 q2 hb0 hWB hC hP hS
  show Calls Try.prog 6 #[.agg #[.int .i64 h.a, .int .i64 h.b, .int .i64 h.c, .int .i64 h.d, .int .i64 h.tw, .int .i64 h.th, .slice s h.cs.length m], .agg #[.int .i64 p.kern, .int .i64 p.lev, .int .i64 p.col, .int .i64 p.bx, .int .i64 p.yb, .slice t p.prec.length n, .int .i64 p.ord, .int .i64 p.lay, .bool p.m0, .bool p.m1, .bool p.m2, .bool p.m3, .bool p.m4, .bool p.dv, .bool p.sy, .bool p.fe, .slice t2 p.steps.length n2, .int .i64 p.dead, .int .i64 p.sh]] W _
  unfold hvA pvA at HW2
  by_cases hf : fewB h p = true
  · rw [hf] at KF
    have hlen := of_decide_eq_true (show decide (h.cs.length ≤ 10 ∧ p.steps.length ≤ 40 ∧ p.prec.length ≤ 40) = true from hf)
    have HLEN := Lib.hid hlen
    have hlen' : h.cs.length ≤ 1048576 ∧ p.prec.length ≤ 1048576 ∧ p.steps.length ≤ 1048576 ∧ h.cs.length ≤ 4398046511104 ∧ p.prec.length ≤ 4398046511104 ∧ p.steps.length ≤ 4398046511104 := by omega
    have HB := Lib.hid hlen'
    clear hf hlen hlen'
    have KC := Lib.hid (fun (w : World) (a : C0S W h p s m t n t2 n2 w) => clone23_c h p s t t2 m n n2 w HB.out.1 HB.out.2.1 HB.out.2.2.1 a.hC a.hP a.hS c1 c2 c3)
    clear c1 c2 c3
    go_enter Try.func6, Try.ntmps6
    go_upto_region 1 with fail
    rw [← HW2]
    clear HW2
    go_upto_region 3 with (first | (refine wpList_load_mid rfl 26 (.tmp 2) rfl W.heap.size 0 rfl (hvA h s m).toList _ A0.out.bh.range Try.underlying26 rfl info7 ?_) | (refine wpList_load_mid rfl 35 (.tmp 3) rfl (W.heap.size + 1) 0 rfl (pvA p t n t2 n2).toList _ A0.out.bp.range Try.underlying35 rfl info19 ?_) | (go_at_call 9; (with_reducible refine (KF.out _).mono ?_); rintro e w1 ⟨rfl, hb1⟩; have A1 := Lib.hid (A0.out.below hb1); clear hb1) | fail)
    clear A0 KF
    go_upto_region 4 with (first | (refine wpList_load_mid rfl 26 (.tmp 2) rfl W.heap.size 0 rfl (hvA h s m).toList _ A1.out.bh.range Try.underlying26 rfl info7 ?_) | (refine wpList_load_mid rfl 35 (.tmp 3) rfl (W.heap.size + 1) 0 rfl (pvA p t n t2 n2).toList _ A1.out.bp.range Try.underlying35 rfl info19 ?_) | (go_at_call 21; (with_reducible refine (KC.out _ A1.out).mono ?_); rintro e w2 ⟨sa, ma, ta, na, ua, ja, rfl, hcap, hO1, hO2, hO3, hb2⟩; have Y2 := Lib.hid (A1.out.below hb2); have C2 := Lib.hid hcap; have N12 := Lib.hid hO1; have N22 := Lib.hid hO2; have N32 := Lib.hid hO3; clear hb2 hcap hO1 hO2 hO3; have HZ1 := Lib.hid (zh_new w2); have HZ2 := Lib.hid (zp_new w2 (hvA h sa ma)); have HW3 := Lib.hid (w3_is w2 (hvA h sa ma) (pvA p ta na ua ja)); obtain ⟨w3, hw3⟩ : ∃ x, x = w3_of w2 (hvA h sa ma) (pvA p ta na ua ja) := ⟨_, rfl⟩; rw [← hw3] at HW3; have H3 := Lib.hid hw3; clear hw3) | (refine wpList_store_row (by rfl) 26 (.tmp 5) (.tmp 23) (by rfl) w2.heap.size (hvA h sa ma) (by rfl) (by rfl) 26 zeroH HZ1.out info7 (by rfl) (one7 _ _ _) ?_) | (refine wpList_store_row (by rfl) 35 (.tmp 6) (.tmp 24) (by rfl) (w2.heap.size + 1) (pvA p ta na ua ja) (by rfl) (by rfl) 35 zeroP HZ2.out info19 (by rfl) (one19 _ _ _ _ _) ?_; rw [← HW3.out]; try simp only [Act.put]) | fail)
    have A3 := Lib.hid (show C1S W h p s m t n t2 n2 w2.heap.size sa ma ta na ua ja w3 from by
      have a := Y2.out
      have hb : Below w2.heap.size w2 w3 := by rw [H3.out]; exact w3_below _ _ _
      exact ⟨a.bl.trans (hb.mono a.bl.size), a.bh.below hb, a.bp.below hb, by rw [H3.out]; exact w3_a _ _ _, by rw [H3.out]; exact w3_b _ _ _, a.hC.below hb (Nat.le_refl _), a.hP.below hb (Nat.le_refl _), a.hS.below hb (Nat.le_refl _), (N12.out.less A1.out.bl.size).below hb, (N22.out.less A1.out.bl.size).below hb, (N32.out.less A1.out.bl.size).below hb⟩)
    clear HW3 H3 HZ1 HZ2 N12 N22 N32 Y2 A1 KC
    obtain ⟨gA, hgA⟩ : ∃ g, w2.heap.size = g := ⟨_, rfl⟩
    rw [hgA] at A3 ⊢
    clear hgA
    have KS := Lib.hid (fun (w : World) (z : C1S W h p s m t n t2 n2 gA sa ma ta na ua ja w) => by
      have k := same_c h h s sa m ma p p t ta t2 ua n na n2 ja w HB.out.2.2.2.2.1 HB.out.2.2.2.2.1 HB.out.2.2.2.2.2 HB.out.2.2.2.2.2 z.hP (gP.2 z.ot.holds) z.hS (gI.2 z.ou.holds) HB.out.2.2.2.1 HB.out.2.2.2.1 z.hC (gC.2 z.oa.holds)
      rw [eqHd_self, eqPs_self] at k
      exact k)
    have KH := Lib.hid (fun (w : World) (z : C1S W h p s m t n t2 n2 gA sa ma ta na ua ja w) => by
      have k := rsameHd_c h h s sa m ma w HB.out.2.2.2.1 HB.out.2.2.2.1 z.hC (gC.2 z.oa.holds)
      rw [eqHd_self] at k
      exact k)
    have KP := Lib.hid (fun (w : World) (z : C1S W h p s m t n t2 n2 gA sa ma ta na ua ja w) => by
      have k := rsP_yes p p t ta t2 ua n na n2 ja w HB.out.2.2.2.2.1 HB.out.2.2.2.2.1 HB.out.2.2.2.2.2 HB.out.2.2.2.2.2 rfl rfl rfl rfl rfl rfl rfl (eqM_self p) rfl rfl rfl rfl rfl rfl rfl z.hP (gP.2 z.ot.holds) z.hS (gI.2 z.ou.holds)
      rw [dec2_self] at k
      exact k)
    have KD := Lib.hid (fun (w : World) (z : C1S W h p s m t n t2 n2 gA sa ma ta na ua ja w) => clone23_c h p sa ta ua ma na ja w HB.out.1 HB.out.2.1 HB.out.2.2.1 (gC.2 z.oa.holds) (gP.2 z.ot.holds) (gI.2 z.ou.holds) C2.out.1 C2.out.2.1 C2.out.2.2)
    go_upto_region 5 with (first | (refine wpList_load_mid rfl 26 (.tmp 2) rfl W.heap.size 0 rfl (hvA h s m).toList _ A3.out.bh.range Try.underlying26 rfl info7 ?_) | (refine wpList_load_mid rfl 26 (.tmp 5) rfl gA 0 rfl (hvA h sa ma).toList _ A3.out.ba.range Try.underlying26 rfl info7 ?_) | (refine wpList_load_mid rfl 35 (.tmp 3) rfl (W.heap.size + 1) 0 rfl (pvA p t n t2 n2).toList _ A3.out.bp.range Try.underlying35 rfl info19 ?_) | (refine wpList_load_mid rfl 35 (.tmp 6) rfl (gA + 1) 0 rfl (pvA p ta na ua ja).toList _ A3.out.bq.range Try.underlying35 rfl info19 ?_) | (go_at_call 19; (with_reducible refine (KS.out _ A3.out).mono ?_); rintro e w4 ⟨rfl, hb⟩; have A4 := Lib.hid (A3.out.below hb); clear hb) | fail)
    clear A3 KS
    go_upto_region 7 with (first | (refine load_mid_g (by rfl) 26 (.tmp 2) rfl W.heap.size 0 rfl (hvA h s m).toList _ A4.out.bh.range Try.underlying26 rfl info7 ?_) | (refine load_mid_g (by rfl) 26 (.tmp 5) rfl gA 0 rfl (hvA h sa ma).toList _ A4.out.ba.range Try.underlying26 rfl info7 ?_) | (refine load_mid_g (by rfl) 35 (.tmp 3) rfl (W.heap.size + 1) 0 rfl (pvA p t n t2 n2).toList _ A5.out.bp.range Try.underlying35 rfl info19 ?_) | (refine load_mid_g (by rfl) 35 (.tmp 6) rfl (gA + 1) 0 rfl (pvA p ta na ua ja).toList _ A5.out.bq.range Try.underlying35 rfl info19 ?_) | (go_at_call 22; (with_reducible refine (KH.out _ A4.out).mono ?_); rintro e w5 ⟨rfl, hb⟩; have A5 := Lib.hid (A4.out.below hb); clear hb) | (go_at_call 23; (with_reducible refine (KP.out _ A5.out).mono ?_); rintro e w6 ⟨rfl, hb⟩; have A6 := Lib.hid (A5.out.below hb); clear hb) | fail)
    clear A4 A5 KH KP
    go_upto_region 8 with (first | (refine wpList_load_mid rfl 26 (.tmp 5) rfl gA 0 rfl (hvA h sa ma).toList _ A6.out.ba.range Try.underlying26 rfl info7 ?_) | (refine wpList_load_mid rfl 35 (.tmp 6) rfl (gA + 1) 0 rfl (pvA p ta na ua ja).toList _ A6.out.bq.range Try.underlying35 rfl info19 ?_) | (go_at_call 21; (with_reducible refine (KD.out _ A6.out).mono ?_); rintro e w7 ⟨sb, mb, tb, nb, ub, jb, rfl, hcap, hO1, hO2, hO3, hb2⟩; have Y7 := Lib.hid (A6.out.below hb2); have C7 := Lib.hid hcap; have N17 := Lib.hid hO1; have N27 := Lib.hid hO2; have N37 := Lib.hid hO3; clear hb2 hcap hO1 hO2 hO3; have HZ1 := Lib.hid (zh_new w7); have HZ2 := Lib.hid (zp_new w7 (hvA h sb mb)); have HW3 := Lib.hid (w3_is w7 (hvA h sb mb) (pvA p tb nb ub jb)); obtain ⟨w8, hw3⟩ : ∃ x, x = w3_of w7 (hvA h sb mb) (pvA p tb nb ub jb) := ⟨_, rfl⟩; rw [← hw3] at HW3; have H3 := Lib.hid hw3; clear hw3) | (refine wpList_store_row (by rfl) 26 (.tmp 9) (.tmp 55) (by rfl) w7.heap.size (hvA h sb mb) (by rfl) (by rfl) 26 zeroH HZ1.out info7 (by rfl) (one7 _ _ _) ?_) | (refine wpList_store_row (by rfl) 35 (.tmp 10) (.tmp 56) (by rfl) (w7.heap.size + 1) (pvA p tb nb ub jb) (by rfl) (by rfl) 35 zeroP HZ2.out info19 (by rfl) (one19 _ _ _ _ _) ?_; rw [← HW3.out]; try simp only [Act.put]) | fail)
    have A8 := Lib.hid (show C2S W h p s m t n t2 n2 gA sa ma ta na ua ja w7.heap.size sb mb tb nb ub jb w6.heap.size h.cs p.prec p.steps w8 from by
      have a := Y7.out
      have hb : Below w7.heap.size w7 w8 := by rw [H3.out]; exact w3_below _ _ _
      have ub {α : Type} {f : α → List Value} {T : TypeId} {a : Option Addr} {l : List α} (o : OwnG f T w6 W.heap.size a l) : l ≠ [] → ∀ x, a = some x → x.block < w6.heap.size := by
        intro hne x hx
        rcases o with z | ⟨g, pad, e, _, hr⟩
        · exact absurd z hne
        · rw [e] at hx
          injection hx with hx
          subst hx
          exact hr.lt
      exact ⟨a.bl.trans (hb.mono a.bl.size), a.bh.below hb, a.bp.below hb, a.ba.below hb, a.bq.below hb, by rw [H3.out]; exact w3_a _ _ _, by rw [H3.out]; exact w3_b _ _ _, a.hC.below hb (Nat.le_refl _), a.hP.below hb (Nat.le_refl _), a.hS.below hb (Nat.le_refl _), a.oa.below hb, a.ot.below hb, a.ou.below hb, N17.out.below hb, N27.out.below hb, N37.out.below hb, ub A6.out.oa, ub A6.out.ot, ub A6.out.ou⟩)
    clear HW3 H3 HZ1 HZ2 N17 N27 N37 Y7 A6 KD C2 C7
    obtain ⟨gB, hgB⟩ : ∃ g, w7.heap.size = g := ⟨_, rfl⟩
    rw [hgB] at A8 ⊢
    clear hgB
    obtain ⟨B2, hB2⟩ : ∃ g, w6.heap.size = g := ⟨_, rfl⟩
    rw [hB2] at A8
    clear hB2
    have KH2 := Lib.hid (fun (w : World) (cs : List Hp.Cm) (pts : List Hp.Pt) (sts : List Int) (z : C2S W h p s m t n t2 n2 gA sa ma ta na ua ja gB sb mb tb nb ub jb B2 cs pts sts w) => by
      have k := rsameHd_c h h s sb m mb w HB.out.2.2.2.1 HB.out.2.2.2.1 z.hC (gC.2 z.ob.holds)
      rw [eqHd_self] at k
      exact k)
    have KP2 := Lib.hid (fun (w : World) (cs : List Hp.Cm) (pts : List Hp.Pt) (sts : List Int) (z : C2S W h p s m t n t2 n2 gA sa ma ta na ua ja gB sb mb tb nb ub jb B2 cs pts sts w) => by
      have k := rsP_yes p p t tb t2 ub n nb n2 jb w HB.out.2.2.2.2.1 HB.out.2.2.2.2.1 HB.out.2.2.2.2.2 HB.out.2.2.2.2.2 rfl rfl rfl rfl rfl rfl rfl (eqM_self p) rfl rfl rfl rfl rfl rfl rfl z.hP (gP.2 z.op.holds) z.hS (gI.2 z.os.holds)
      rw [dec2_self] at k
      exact k)
    have y6 := A8.out.ba.get 6 (v := .slice sa h.cs.length ma) rfl
    go_upto_region 9 with fail
    clear y6
    go_loopw [11, 60] (fun _ i wr => ∃ k : Nat, k ≤ h.cs.length ∧ i = .int .i64 k ∧ ∃ l : List Hp.Cm, l.length = h.cs.length ∧ Hid (C2S W h p s m t n t2 n2 gA sa ma ta na ua ja gB sb mb tb nb ub jb B2 l p.prec p.steps wr)) (fun _ i _ => h.cs.length - (intOf i).toNat)
    case atStart => exact ⟨0, Nat.zero_le _, rfl, _, rfl, A8⟩
    case round =>
      obtain ⟨k, hk, rfl, cl, hlC, HA⟩ := hrel
      by_cases hlt : k < h.cs.length
      case neg =>
        obtain rfl : k = h.cs.length := by omega
        have HR := HA
        clear HA
        have y6 : wr.cell? ⟨gA + 1, 16, none⟩ = some (.slice ua p.steps.length ja) := HR.out.bq.get 16 rfl
        go_upto_region 14 with fail
        clear y6
        go_loopw [12, 76] (fun _ i wr => ∃ k : Nat, k ≤ p.steps.length ∧ i = .int .i64 k ∧ ∃ l : List Int, l.length = p.steps.length ∧ Hid (C2S W h p s m t n t2 n2 gA sa ma ta na ua ja gB sb mb tb nb ub jb B2 cl p.prec l wr)) (fun _ i _ => p.steps.length - (intOf i).toNat)
        case atStart => exact ⟨0, Nat.zero_le _, rfl, _, rfl, HR⟩
        case round =>
          obtain ⟨k, hk, rfl, sl, hlS, HA⟩ := hrel
          by_cases hlt : k < p.steps.length
          case neg =>
            obtain rfl : k = p.steps.length := by omega
            have HQ := HA
            clear HA
            have y6 : wr.cell? ⟨gA + 1, 5, none⟩ = some (.slice ta p.prec.length na) := HQ.out.bq.get 5 rfl
            go_upto_region 19 with fail
            clear y6
            go_loopw [13, 90] (fun _ i wr => ∃ k : Nat, k ≤ p.prec.length ∧ i = .int .i64 k ∧ ∃ l : List Hp.Pt, l.length = p.prec.length ∧ Hid (C2S W h p s m t n t2 n2 gA sa ma ta na ua ja gB sb mb tb nb ub jb B2 cl l sl wr)) (fun _ i _ => p.prec.length - (intOf i).toNat)
            case atStart => exact ⟨0, Nat.zero_le _, rfl, _, rfl, HQ⟩
            case round =>
              obtain ⟨k, hk, rfl, pl, hlP, HA⟩ := hrel
              by_cases hlt : k < p.prec.length
              case neg =>
                obtain rfl : k = p.prec.length := by omega
                have A9 := HA
                clear HA
                go_wp2_with (first | (refine wpList_load_mid rfl 26 (.tmp 2) rfl W.heap.size 0 rfl (hvA h s m).toList _ A9.out.bh.range Try.underlying26 rfl info7 ?_) | (refine wpList_load_mid rfl 26 (.tmp 9) rfl gB 0 rfl (hvA h sb mb).toList _ A9.out.bb.range Try.underlying26 rfl info7 ?_) | (refine load_mid_g (by rfl) 35 (.tmp 3) rfl (W.heap.size + 1) 0 rfl (pvA p t n t2 n2).toList _ A10.out.bp.range Try.underlying35 rfl info19 ?_) | (refine load_mid_g (by rfl) 35 (.tmp 10) rfl (gB + 1) 0 rfl (pvA p tb nb ub jb).toList _ A10.out.bs.range Try.underlying35 rfl info19 ?_) | (go_at_call 22; (with_reducible refine (KH2.out _ _ _ _ A9.out).mono ?_); rintro e w10 ⟨rfl, hb⟩; have A10 := Lib.hid (A9.out.below hb); clear hb) | (go_at_call 23; (with_reducible refine (KP2.out _ _ _ _ A10.out).mono ?_); rintro e w11 ⟨rfl, hb⟩; have A11 := Lib.hid (A10.out.below hb); clear hb) | (go_at_call 10; (with_reducible refine (awake23_c _).mono ?_); rintro e w12 ⟨rfl, hb⟩; have B12 := Lib.hid (A11.out.below hb).bl; clear hb) | fail)
                go_ret
                exact ⟨rfl, B12.out⟩
              case pos =>
                rcases HA.out.ot with z | ⟨g, pad, hadr, hB, hbk⟩
                · have := congrArg List.length z
                  rw [List.length_nil] at this; omega
                have kk : k < pl.length := by omega
                have kb : wr.cell? ⟨g, k * 2 + 1, none⟩ = some (.int .i64 pl[k].y) := by have := ownG_get ptV_len hbk k kk 1 (by decide) (.int .i64 pl[k].y) rfl; exact this
                have kc : wr.frozen? ⟨g, k * 2 + 1, none⟩ = false := hbk.free _
                have y6 : wr.cell? ⟨(gA + 1), 5, none⟩ = some (.slice (some ⟨g, 0, none⟩) p.prec.length na) := by have := HA.out.bq.get 5 (v := .slice ta p.prec.length na) rfl; rw [hadr] at this; exact this
                have HN := Lib.hid (show ∀ x : Int, C2S W h p s m t n t2 n2 gA sa ma ta na ua ja gB sb mb tb nb ub jb B2 cl (pl.set k (⟨pl[k].x, x⟩)) sl (wr.setCell ⟨g, k * 2 + 1, none⟩ (.int .i64 x)) from fun x => by have := C2S.putP HC0.out HP0.out HS0.out HA.out hadr hB hbk k kk (⟨pl[k].x, x⟩) (.int .i64 x) rfl; exact this)
                have HLN := Lib.hid (show ∀ x : Int, (pl.set k (⟨pl[k].x, x⟩)).length = p.prec.length from fun x => by rw [List.length_set]; exact hlP)
                generalize pl[k].y = V at kb
                have hki : (k : Int) < (p.prec.length : Int) := by omega
                have w2' : IntKind.i64.wrap ((k : Int) + 1) = (k : Int) + 1 := IntWalk.i64_in _ (by have := HLEN.out; omega)
                clear HA hbk hB hadr
                go_wp2_with fail
                go_roundw
                case rel => exact ⟨k + 1, by omega, by go_num, _, HLN.out _, Lib.hid (HN.out _)⟩
                case measure => simp [intOf]; omega

          case pos =>
            rcases HA.out.ou with z | ⟨g, pad, hadr, hB, hbk⟩
            · have := congrArg List.length z
              rw [List.length_nil] at this; omega
            have kk : k < sl.length := by omega
            have kb : wr.cell? ⟨g, k, none⟩ = some (.int .i64 sl[k]) := by have := ownG_get inV_len hbk k kk 0 (by decide) (.int .i64 sl[k]) rfl; rw [Nat.mul_one, Nat.add_zero] at this; exact this
            have kc : wr.frozen? ⟨g, k, none⟩ = false := hbk.free _
            have y6 : wr.cell? ⟨(gA + 1), 16, none⟩ = some (.slice (some ⟨g, 0, none⟩) p.steps.length ja) := by have := HA.out.bq.get 16 (v := .slice ua p.steps.length ja) rfl; rw [hadr] at this; exact this
            have HN := Lib.hid (show ∀ x : Int, C2S W h p s m t n t2 n2 gA sa ma ta na ua ja gB sb mb tb nb ub jb B2 cl p.prec (sl.set k (x)) (wr.setCell ⟨g, k, none⟩ (.int .i64 x)) from fun x => by have := C2S.putS HC0.out HP0.out HS0.out HA.out hadr hB hbk k kk (x) (.int .i64 x) rfl; rw [Nat.mul_one, Nat.add_zero] at this; exact this)
            have HLN := Lib.hid (show ∀ x : Int, (sl.set k (x)).length = p.steps.length from fun x => by rw [List.length_set]; exact hlS)
            generalize sl[k] = V at kb
            have hki : (k : Int) < (p.steps.length : Int) := by omega
            have w2' : IntKind.i64.wrap ((k : Int) + 1) = (k : Int) + 1 := IntWalk.i64_in _ (by have := HLEN.out; omega)
            clear HA hbk hB hadr
            go_wp2_with fail
            go_roundw
            case rel => exact ⟨k + 1, by omega, by go_num, _, HLN.out _, Lib.hid (HN.out _)⟩
            case measure => simp [intOf]; omega

      case pos =>
        rcases HA.out.oa with z | ⟨g, pad, hadr, hB, hbk⟩
        · have := congrArg List.length z
          rw [List.length_nil] at this; omega
        have kk : k < cl.length := by omega
        have kb : wr.cell? ⟨g, k * 4 + 2, none⟩ = some (.int .i64 cl[k].dx) := by have := ownG_get cmV_len hbk k kk 2 (by decide) (.int .i64 cl[k].dx) rfl; exact this
        have kc : wr.frozen? ⟨g, k * 4 + 2, none⟩ = false := hbk.free _
        have y6 : wr.cell? ⟨gA, 6, none⟩ = some (.slice (some ⟨g, 0, none⟩) h.cs.length ma) := by have := HA.out.ba.get 6 (v := .slice sa h.cs.length ma) rfl; rw [hadr] at this; exact this
        have HN := Lib.hid (show ∀ x : Int, C2S W h p s m t n t2 n2 gA sa ma ta na ua ja gB sb mb tb nb ub jb B2 (cl.set k (⟨cl[k].depth, cl[k].sg, x, cl[k].dy⟩)) p.prec p.steps (wr.setCell ⟨g, k * 4 + 2, none⟩ (.int .i64 x)) from fun x => by have := C2S.putC HC0.out HP0.out HS0.out HA.out hadr hB hbk k kk (⟨cl[k].depth, cl[k].sg, x, cl[k].dy⟩) (.int .i64 x) rfl; exact this)
        have HLN := Lib.hid (show ∀ x : Int, (cl.set k (⟨cl[k].depth, cl[k].sg, x, cl[k].dy⟩)).length = h.cs.length from fun x => by rw [List.length_set]; exact hlC)
        generalize cl[k].dx = V at kb
        have hki : (k : Int) < (h.cs.length : Int) := by omega
        have w2' : IntKind.i64.wrap ((k : Int) + 1) = (k : Int) + 1 := IntWalk.i64_in _ (by have := HLEN.out; omega)
        clear HA hbk hB hadr
        go_wp2_with fail
        go_roundw
        case rel => exact ⟨k + 1, by omega, by go_num, _, HLN.out _, Lib.hid (HN.out _)⟩
        case measure => simp [intOf]; omega
  · have hf : fewB h p = false := by simpa using hf
    rw [hf] at KF
    clear hf c1 c2 c3
    go_enter Try.func6, Try.ntmps6
    go_upto_region 1 with fail
    rw [← HW2]
    clear HW2
    go_wp2_with (first | (refine wpList_load_mid rfl 26 (.tmp 2) rfl W.heap.size 0 rfl (hvA h s m).toList _ A0.out.bh.range Try.underlying26 rfl info7 ?_) | (refine wpList_load_mid rfl 35 (.tmp 3) rfl (W.heap.size + 1) 0 rfl (pvA p t n t2 n2).toList _ A0.out.bp.range Try.underlying35 rfl info19 ?_) | (go_at_call 9; (with_reducible refine (KF.out _).mono ?_); rintro e w1 ⟨rfl, hb1⟩; have A1 := Lib.hid (A0.out.below hb1); clear hb1) | (go_at_call 10; (with_reducible refine (awake23_c _).mono ?_); rintro e w2 ⟨rfl, hb2⟩; have B2 := Lib.hid (A1.out.below hb2).bl; clear hb2) | fail)
    go_ret
    exact ⟨rfl, B2.out⟩

set_option maxRecDepth 100000 in
theorem lifted (os : Os) (started : os.Started) (H : Type) (enc : TypeId × Value → H) :
    ReturnsInHanded {} Try.checked os 6 .any (Rows.paramsClonesSpec.pre6 enc Try.prog Try.f6 Rows.paramsClonesRow.domain false) (Rows.paramsClonesSpec.post enc Try.prog Try.f6 false true false false) := by
  refine returnsInHanded_of_change (C := Try.checked) own started (by kernel_rfl) Try.func6
    (ChangeSpec.witness6 (enc := enc) (C := Try.checked) false ⟨#[], #[.agg #[.int .i64 0, .int .i64 0, .int .i64 0, .int .i64 0, .int .i64 0, .int .i64 0, .slice none 0 0], .agg #[.int .i64 0, .int .i64 0, .int .i64 0, .int .i64 0, .int .i64 0, .slice none 0 0, .int .i64 0, .int .i64 0, .bool false, .bool false, .bool false, .bool false, .bool false, .bool false, .bool false, .bool false, .slice none 0 0, .int .i64 0, .int .i64 0]], []⟩ 8 (by kernel_rfl) (by kernel_rfl) (by kernel_rfl) (by kernel_rfl)) ?_
  intro W base args ds gs before hval0 hW _ _
  have hval : ∀ (j : Nat) t v, Try.f6.params[j]? = some t → args[j]? = some v → Value.okWide Try.prog W .any base t v := hval0
  have hW' := hW
  obtain ⟨p, q, hA0, hV, rfl, _, _⟩ := hW
  have hA : DataW.TrodAll enc Try.prog W 0 (fun _ => true) true Try.f6.params.toList args.toList ds p := hA0
  rw [Try.params6] at hA hval
  obtain ⟨v0, vs0, d0, ds0, p0, q0, hargs, rfl, rfl, h0, r0⟩ := trodAll_cons hA
  obtain ⟨v1, vs1, d1, ds1, p1, q1, rfl, rfl, rfl, h1, r1⟩ := trodAll_cons r0
  obtain ⟨rfl, rfl, rfl⟩ := trodAll_nil r1
  obtain rfl : args = #[v0, v1] := by cases args; simp_all
  obtain ⟨rfl, rfl⟩ := trodVars_none hV
  clear hA0 hval0
  simp only [List.append_nil] at hW'
  have l0 : ∀ x ∈ p0, x.block < W.heap.size := fun x hx => hW'.lt x (by simp [hx])
  have l1 : ∀ x ∈ p1, x.block < W.heap.size := fun x hx => hW'.lt x (by simp [hx])
  obtain ⟨hd0, s0, m0, rfl, hC0, hc0⟩ := open_header2 (hval 0 26 v0 rfl rfl) h0
  obtain ⟨p1', s1, m1, t1, n1, rfl, hP1, hS1, hp1, hs1⟩ := open_params (hval 1 35 v1 rfl rfl) h1
  refine (walk hd0 p1' s0 m0 s1 m1 t1 n1 W hC0 hP1 hS1 hc0 hp1 hs1).mono fun e W' ⟨he, hb⟩ => ?_
  subst he
  exact ⟨_, rfl, post_low (pa := p0 ++ (p1 ++ ([]))) (pv := []) hW' (fun _ _ _ => (trodAll_cons_mk (shut_bool Try.underlying4 _) trodAll_mk0)) (fun sp hsp => (trodAll_cons_mk (trod_low laidOut (by kernel_rfl) (of_decide_eq_true (by kernel_rfl)) h0 hb l0 (fun x hx => hsp x (by simp [hx]))) (trodAll_cons_mk (trod_low laidOut (by kernel_rfl) (of_decide_eq_true (by kernel_rfl)) h1 hb l1 (fun x hx => hsp x (by simp [hx]))) trodAll_mk0))) (fun _ _ => rfl) (by simp) hb (ok_one (by kernel_rfl) rfl (okWide_bool_mk Try.underlying4 _))⟩

theorem over : Rows.paramsClonesRow.holds Try.pinned (OpenSpec.ofChange Rows.paramsClonesSpec) :=
  OpenClaim.holds_of_wide 6 Try.f6 rfl rfl rfl rfl rfl rfl rfl ⟨rfl, rfl, rfl, rfl, rfl⟩ rfl rfl rfl rfl rfl (by kernel_rfl) Try.func6 (by kernel_rfl)
    (of_decide_eq_true (by kernel_rfl)) (by unfold Func.isWrapper; first | (rw [if_pos (by decide +kernel)]; kernel_rfl) | (rw [if_neg (by decide +kernel)]; exact ⟨rfl, rfl⟩))
    (fun os started H enc _ => lifted os started H enc)

theorem proved : Rows.ParamsClonesSaid :=
  over
#print axioms proved
end Go.Proofs.Ytkcjbehfhcmiaaa.paramsClones
