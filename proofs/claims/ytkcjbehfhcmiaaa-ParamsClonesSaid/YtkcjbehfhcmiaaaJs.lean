/-
  Same on headers: code and reference.
-/
import Derived.Test.YtkcjbehfhcmiaaaJe
import Derived.Deep.Draws
set_option maxRecDepth 100000
namespace Go.Proofs.Ytkcjbehfhcmiaaa
open Go.RowKit

def eqHd (h q : Hp.Hd) : Bool := Pl.eqB h.a h.b h.c h.d q.a q.b q.c q.d && (decide (h.tw = q.tw) && (decide (h.th = q.th) && decide (h.cs = q.cs)))
theorem eqHd_self (h : Hp.Hd) : eqHd h h = true := by simp [eqHd, Pl.eqB]
set_option maxHeartbeats 4000000 in
theorem sameHd_c (h q : Hp.Hd) (s s' : Option Addr) (m m' : Nat) (W : World) (hl : h.cs.length ≤ 4398046511104) (hl' : q.cs.length ≤ 4398046511104) (hC : HoldsC W s h.cs) (hC' : HoldsC W s' q.cs) :
    Calls Try.prog 49 #[.agg (hvA h s m), .agg (hvA q s' m')] W fun e w' => e = .returned (.bool (eqHd h q)) ∧ Below W.heap.size W w' := by
  obtain ⟨WB, hWB⟩ : ∃ ww, ww = ((W.alloc (.cells (hvA h s m) 26)).alloc (.cells (hvA q s' m') 26)) := ⟨_, rfl⟩
  have hb0 : Below W.heap.size W WB := by rw [hWB]; exact (below_alloc (below_alloc (Below.refl _ W) (Nat.le_refl _) _) (by simp <;> omega) _)
  have B0 := Lib.hid hb0
  have hA : Blk WB (W.heap.size) 26 (hvA h s m) := by
    have := Blk.new (W) 26 (hvA h s m)
    rw [hWB]
    exact ((show Blk _ (W.heap.size) _ _ by simpa using this)).alloc _
  have hB : Blk WB (W.heap.size + 1) 26 (hvA q s' m') := by
    have := Blk.new ((W.alloc (.cells (hvA h s m) 26))) 26 (hvA q s' m')
    rw [hWB]
    exact (show Blk _ (W.heap.size + 1) _ _ by simpa using this)
  obtain ⟨a0, a1, a2, a3, a4, a5, a6⟩ := hA.hd
  obtain ⟨b0, b1, b2, b3, b4, b5, b6⟩ := hB.hd
  have C1 := Lib.hid (hC.below hb0 (Nat.le_refl _))
  have C2 := Lib.hid (hC'.below hb0 (Nat.le_refl _))
  have heq := eqR
  have HQ := Lib.hid (show eqHd h q = (Pl.eqB h.a h.b h.c h.d q.a q.b q.c q.d && (decide (h.tw = q.tw) && (decide (h.th = q.th) && decide (h.cs = q.cs)))) from rfl)
  have HW2 := hWB
  clear hb0 hWB hA hB hC hC'
  unfold hvA at HW2 ⊢
  by_cases e0 : Pl.eqB h.a h.b h.c h.d q.a q.b q.c q.d = true
  case neg =>
    have t0 : Pl.eqB h.a h.b h.c h.d q.a q.b q.c q.d = false := by simpa using e0
    rw [show eqHd h q = false by rw [HQ.out]; simp [e0]]
    clear HQ e0 C1 C2
    go_enter Try.func49, Try.ntmps49
    go_upto_region 1 with fail
    rw [← HW2]
    clear HW2
    go_wp2_with fail
    go_ret
    exact ⟨rfl, B0.out⟩
  case pos =>
    have t0 : Pl.eqB h.a h.b h.c h.d q.a q.b q.c q.d = true := by simpa using e0
    have E0 := Lib.hid e0
    clear e0
    by_cases e1 : h.tw = q.tw
    case neg =>
      have t1 : (h.tw == q.tw) = false := by simpa using e1
      have u1 : (h.tw != q.tw) = true := by simpa using e1
      rw [show eqHd h q = false by rw [HQ.out]; simp [e1]]
      clear HQ e1 C1 C2
      go_enter Try.func49, Try.ntmps49
      go_upto_region 1 with fail
      rw [← HW2]
      clear HW2
      go_wp2_with fail
      go_ret
      exact ⟨rfl, B0.out⟩
    case pos =>
      have t1 : (h.tw == q.tw) = true := by simpa using e1
      have u1 : (h.tw != q.tw) = false := by simpa using e1
      have E1 := Lib.hid e1
      clear e1
      by_cases e2 : h.th = q.th
      case neg =>
        have t2 : (h.th == q.th) = false := by simpa using e2
        have u2 : (h.th != q.th) = true := by simpa using e2
        rw [show eqHd h q = false by rw [HQ.out]; simp [e2]]
        clear HQ e2 C1 C2
        go_enter Try.func49, Try.ntmps49
        go_upto_region 1 with fail
        rw [← HW2]
        clear HW2
        go_wp2_with fail
        go_ret
        exact ⟨rfl, B0.out⟩
      case pos =>
        have t2 : (h.th == q.th) = true := by simpa using e2
        have u2 : (h.th != q.th) = false := by simpa using e2
        have E2 := Lib.hid e2
        clear e2
        have HR := Lib.hid (show eqHd h q = decide (h.cs = q.cs) by rw [HQ.out]; simp [E0.out, E1.out, E2.out])
        clear HQ E0 E1 E2
        rw [HR.out]
        have k1 := equalC_c s s' m m' h.cs q.cs WB hl hl' C1.out C2.out
        clear HR C1 C2
        generalize decide (h.cs = q.cs) = DB at *
        go_enter Try.func49, Try.ntmps49
        go_upto_region 1 with fail
        rw [← HW2]
        clear HW2
        go_wp2_with (first | (go_at_call 93; (with_reducible refine k1.mono ?_); rintro e wn ⟨rfl, nn, rfl⟩) | fail)
        go_ret
        exact ⟨rfl, below_drewN B0.out _⟩
set_option maxHeartbeats 4000000 in
theorem rsameHd_c (h q : Hp.Hd) (s s' : Option Addr) (m m' : Nat) (W : World) (hl : h.cs.length ≤ 4398046511104) (_ : q.cs.length ≤ 4398046511104) (hC : HoldsC W s h.cs) (hC' : HoldsC W s' q.cs) :
    Calls Try.prog 22 #[.agg (hvA h s m), .agg (hvA q s' m')] W fun e w' => e = .returned (.bool (eqHd h q)) ∧ Below W.heap.size W w' := by
  obtain ⟨WB, hWB⟩ : ∃ ww, ww = ((W.alloc (.cells (hvA h s m) 26)).alloc (.cells (hvA q s' m') 26)) := ⟨_, rfl⟩
  have hb0 : Below W.heap.size W WB := by rw [hWB]; exact (below_alloc (below_alloc (Below.refl _ W) (Nat.le_refl _) _) (by simp <;> omega) _)
  have B0 := Lib.hid hb0
  have hA : Blk WB (W.heap.size) 26 (hvA h s m) := by
    have := Blk.new (W) 26 (hvA h s m)
    rw [hWB]
    exact ((show Blk _ (W.heap.size) _ _ by simpa using this)).alloc _
  have hB : Blk WB (W.heap.size + 1) 26 (hvA q s' m') := by
    have := Blk.new ((W.alloc (.cells (hvA h s m) 26))) 26 (hvA q s' m')
    rw [hWB]
    exact (show Blk _ (W.heap.size + 1) _ _ by simpa using this)
  obtain ⟨a0, a1, a2, a3, a4, a5, a6⟩ := hA.hd
  obtain ⟨b0, b1, b2, b3, b4, b5, b6⟩ := hB.hd
  have C1 := Lib.hid (hC.below hb0 (Nat.le_refl _))
  have C2 := Lib.hid (hC'.below hb0 (Nat.le_refl _))
  have heq := eqR
  have HQ := Lib.hid (show eqHd h q = (Pl.eqB h.a h.b h.c h.d q.a q.b q.c q.d && (decide (h.tw = q.tw) && (decide (h.th = q.th) && decide (h.cs = q.cs)))) from rfl)
  have HW2 := hWB
  clear hb0 hWB hA hB hC hC'
  unfold hvA at HW2 ⊢
  by_cases e0 : Pl.eqB h.a h.b h.c h.d q.a q.b q.c q.d = true
  case neg =>
    have t0 : Pl.eqB h.a h.b h.c h.d q.a q.b q.c q.d = false := by simpa using e0
    rw [show eqHd h q = false by rw [HQ.out]; simp [e0]]
    clear HQ e0 C1 C2
    go_enter Try.func22, Try.ntmps22
    go_upto_region 1 with fail
    rw [← HW2]
    clear HW2
    go_wp2_with fail
    go_ret
    exact ⟨rfl, B0.out⟩
  case pos =>
    have t0 : Pl.eqB h.a h.b h.c h.d q.a q.b q.c q.d = true := by simpa using e0
    have E0 := Lib.hid e0
    clear e0
    by_cases e1 : h.tw = q.tw
    case neg =>
      have t1 : (h.tw == q.tw) = false := by simpa using e1
      have u1 : (h.tw != q.tw) = true := by simpa using e1
      rw [show eqHd h q = false by rw [HQ.out]; simp [e1]]
      clear HQ e1 C1 C2
      go_enter Try.func22, Try.ntmps22
      go_upto_region 1 with fail
      rw [← HW2]
      clear HW2
      go_wp2_with fail
      go_ret
      exact ⟨rfl, B0.out⟩
    case pos =>
      have t1 : (h.tw == q.tw) = true := by simpa using e1
      have u1 : (h.tw != q.tw) = false := by simpa using e1
      have E1 := Lib.hid e1
      clear e1
      by_cases e2 : h.th = q.th
      case neg =>
        have t2 : (h.th == q.th) = false := by simpa using e2
        have u2 : (h.th != q.th) = true := by simpa using e2
        rw [show eqHd h q = false by rw [HQ.out]; simp [e2]]
        clear HQ e2 C1 C2
        go_enter Try.func22, Try.ntmps22
        go_upto_region 1 with fail
        rw [← HW2]
        clear HW2
        go_wp2_with fail
        go_ret
        exact ⟨rfl, B0.out⟩
      case pos =>
        have t2 : (h.th == q.th) = true := by simpa using e2
        have u2 : (h.th != q.th) = false := by simpa using e2
        have E2 := Lib.hid e2
        clear e2
        have HR := Lib.hid (show eqHd h q = decide (h.cs = q.cs) by rw [HQ.out]; simp [E0.out, E1.out, E2.out])
        clear HQ E0 E1 E2
        rw [HR.out]
        by_cases hlen : h.cs.length = q.cs.length
        case neg =>
          have d1 : (((h.cs.length : Int)) == (q.cs.length : Int)) = false := by simp; omega
          have d2 : (((h.cs.length : Int)) != (q.cs.length : Int)) = true := by simp; omega
          rw [list_len hlen]
          clear HR C1 C2 hlen
          go_enter Try.func22, Try.ntmps22
          go_upto_region 1 with fail
          rw [← HW2]
          clear HW2
          go_wp2_with fail
          go_ret
          exact ⟨rfl, B0.out⟩
        case pos =>
          have HL := Lib.hid hlen
          have hlen1 : h.cs.length ≤ q.cs.length := by omega
          have hlen2 : q.cs.length ≤ h.cs.length := by omega
          have d1 : (((h.cs.length : Int)) == (q.cs.length : Int)) = true := by simp [hlen]
          have d2 : (((h.cs.length : Int)) != (q.cs.length : Int)) = false := by simp [hlen]
          clear HR hlen
          go_enter Try.func22, Try.ntmps22
          go_upto_region 1 with fail
          rw [← HW2]
          clear HW2
          go_upto_region 4 with fail
          clear d1 d2 t0 t1 t2 u1 u2
          go_loopw [5] (fun i wr => ∃ k : Nat, k ≤ h.cs.length ∧ i = .int .i64 k ∧ Hid (∀ j (h1 : j < h.cs.length) (h2 : j < q.cs.length), j < k → h.cs[j] = q.cs[j]) ∧ ∃ nn, wr = WB.drewN nn) (fun i _ => h.cs.length - (intOf i).toNat)
          case atStart => exact ⟨0, Nat.zero_le _, rfl, Lib.hid (fun j _ _ hj => absurd hj (Nat.not_lt_zero _)), 0, rfl⟩
          case round =>
            obtain ⟨k, hk, rfl, HA, nn, rfl⟩ := hrel
            have heqE := eqCm'
            by_cases hlt : k < h.cs.length
            · have hlt2 : k < q.cs.length := by omega
              rcases C1.out with z | ⟨b, off, rfl, hr⟩
              · rw [z] at hlt; simp at hlt
              rcases C2.out with z | ⟨b', off', rfl, hr'⟩
              · rw [z] at hlt2; simp at hlt2
              obtain ⟨c0, c1, c2, c3⟩ := hr k hlt
              obtain ⟨d0, d1, d2, d3⟩ := hr' k hlt2
              clear hr hr'
              have hi : (k : Int) < (h.cs.length : Int) := by omega
              have hi2 : (k : Int) < (q.cs.length : Int) := by omega
              have w2 : IntKind.i64.wrap ((k : Int) + 1) = (k : Int) + 1 := IntWalk.i64_in _ (by omega)
              have HN := Lib.hid (show h.cs[k] ≠ q.cs[k] → decide (h.cs = q.cs) = false from list_ne hlt hlt2)
              have HY := Lib.hid (show h.cs[k] = q.cs[k] → ∀ j (h1 : j < h.cs.length) (h2 : j < q.cs.length), j < k + 1 → h.cs[j] = q.cs[j] from fun he j h1 h2 hj => if hjk : j = k then by subst hjk; exact he else HA.out j h1 h2 (by omega))
              generalize h.cs[k] = U at *
              generalize q.cs[k] = V at *
              by_cases he : U = V
              · have HZ := Lib.hid (HY.out he)
                have g1 : (decide (U = V)) = true := by simp [he]
                have g2 : (U != V) = false := by simp [he]
                have g3 : (U == V) = true := by simp [he]
                clear HN HY HA he
                go_wp2_with fail
                go_quiet (fail)
                go_wp2_with fail
                go_roundw
                case rel => exact ⟨k + 1, by omega, by go_num, HZ, _, by first | rfl | (simp only [World.drewN_drewN]; rfl)⟩
                case measure => simp [intOf]; omega
              · have g1 : (decide (U = V)) = false := by simp [he]
                have g2 : (U != V) = true := by simp [he]
                have g3 : (U == V) = false := by simp [he]
                have hf := HN.out he
                clear HN HY HA he
                go_wp2_with fail
                go_quiet (fail)
                go_wp2_with fail
                go_ret
                exact ⟨by rw [hf]; rfl, below_drewN (below_drewN B0.out _) _⟩
            · have hf := list_all HL.out (fun j h1 h2 => HA.out j h1 h2 (by omega))
              go_wp2_with fail
              go_ret
              exact ⟨by rw [hf]; rfl, below_drewN B0.out _⟩
end Go.Proofs.Ytkcjbehfhcmiaaa
