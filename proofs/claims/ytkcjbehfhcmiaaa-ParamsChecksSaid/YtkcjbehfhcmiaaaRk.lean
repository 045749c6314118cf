/-
  Layer 23 (reference): contracts of kinds, numbers, Grid.
-/
import Derived.Test.YtkcjbehfhcmiaaaR6
set_option maxRecDepth 100000
namespace Go.Proofs.Ytkcjbehfhcmiaaa
open Go.RowKit

set_option maxHeartbeats 4000000 in
theorem rkinds_c (p : Hp.Ps) (s s2 : Option Addr) (m m2 : Nat) (W : World) : Calls Try.prog 36 #[.agg (pvA p s m s2 m2)] W fun e w' => e = .returned (.bool (Hp.knB p)) ∧ Below W.heap.size W w' := by
  obtain ⟨WB, hWB⟩ : ∃ ww, ww = (W.alloc (.cells (pvA p s m s2 m2) 35)) := ⟨_, rfl⟩
  have hb0 : Below W.heap.size W WB := by rw [hWB]; exact (below_alloc (Below.refl _ W) (Nat.le_refl _) _)
  have B0 := Lib.hid hb0
  have hPb : Blk WB (W.heap.size) 35 (pvA p s m s2 m2) := by
    have := Blk.new (W) 35 (pvA p s m s2 m2)
    rw [hWB]
    exact (show Blk _ (W.heap.size) _ _ by simpa using this)
  have HP0 := Lib.hid hPb
  have HW2 := hWB
  clear hb0 hWB hPb
  have p0 := HP0.out.get 0 (v := .int .i64 p.kern) rfl
  have p2 := HP0.out.get 2 (v := .int .i64 p.col) rfl
  have p6 := HP0.out.get 6 (v := .int .i64 p.ord) rfl
  have HK := Lib.hid (show Hp.knB p = (Hp.inB 1 3 p.kern && (Hp.inB 0 2 p.col && Hp.inB 1 5 p.ord)) from rfl)
  unfold pvA at HW2 ⊢
  by_cases c0 : 1 ≤ p.kern
  case neg =>
    have d0 : decide (1 ≤ p.kern) = false := by simpa using c0
    rw [show Hp.knB p = false by rw [HK.out]; simp [Hp.inB]; omega]
    clear HK
    go_enter Try.func36, Try.ntmps36
    go_upto_region 1 with fail
    rw [← HW2]
    clear HW2
    go_wp2_with fail
    go_ret
    exact ⟨rfl, B0.out⟩
  case pos =>
    have d0 : decide (1 ≤ p.kern) = true := by simpa using c0
    by_cases c1 : p.kern ≤ 3
    case neg =>
      have d1 : decide (p.kern ≤ 3) = false := by simpa using c1
      rw [show Hp.knB p = false by rw [HK.out]; simp [Hp.inB]; omega]
      clear HK
      go_enter Try.func36, Try.ntmps36
      go_upto_region 1 with fail
      rw [← HW2]
      clear HW2
      go_wp2_with fail
      go_ret
      exact ⟨rfl, B0.out⟩
    case pos =>
      have d1 : decide (p.kern ≤ 3) = true := by simpa using c1
      by_cases c2 : 0 ≤ p.col
      case neg =>
        have d2 : decide (0 ≤ p.col) = false := by simpa using c2
        rw [show Hp.knB p = false by rw [HK.out]; simp [Hp.inB]; omega]
        clear HK
        go_enter Try.func36, Try.ntmps36
        go_upto_region 1 with fail
        rw [← HW2]
        clear HW2
        go_wp2_with fail
        go_ret
        exact ⟨rfl, B0.out⟩
      case pos =>
        have d2 : decide (0 ≤ p.col) = true := by simpa using c2
        by_cases c3 : p.col ≤ 2
        case neg =>
          have d3 : decide (p.col ≤ 2) = false := by simpa using c3
          rw [show Hp.knB p = false by rw [HK.out]; simp [Hp.inB]; omega]
          clear HK
          go_enter Try.func36, Try.ntmps36
          go_upto_region 1 with fail
          rw [← HW2]
          clear HW2
          go_wp2_with fail
          go_ret
          exact ⟨rfl, B0.out⟩
        case pos =>
          have d3 : decide (p.col ≤ 2) = true := by simpa using c3
          by_cases c4 : 1 ≤ p.ord
          case neg =>
            have d4 : decide (1 ≤ p.ord) = false := by simpa using c4
            rw [show Hp.knB p = false by rw [HK.out]; simp [Hp.inB]; omega]
            clear HK
            go_enter Try.func36, Try.ntmps36
            go_upto_region 1 with fail
            rw [← HW2]
            clear HW2
            go_wp2_with fail
            go_ret
            exact ⟨rfl, B0.out⟩
          case pos =>
            have d4 : decide (1 ≤ p.ord) = true := by simpa using c4
            by_cases c5 : p.ord ≤ 5
            case neg =>
              have d5 : decide (p.ord ≤ 5) = false := by simpa using c5
              rw [show Hp.knB p = false by rw [HK.out]; simp [Hp.inB]; omega]
              clear HK
              go_enter Try.func36, Try.ntmps36
              go_upto_region 1 with fail
              rw [← HW2]
              clear HW2
              go_wp2_with fail
              go_ret
              exact ⟨rfl, B0.out⟩
            case pos =>
              have d5 : decide (p.ord ≤ 5) = true := by simpa using c5
              rw [show Hp.knB p = true by rw [HK.out]; simp [Hp.inB]; omega]
              clear HK
              go_enter Try.func36, Try.ntmps36
              go_upto_region 1 with fail
              rw [← HW2]
              clear HW2
              go_wp2_with fail
              go_ret
              exact ⟨rfl, B0.out⟩
theorem num_no {p : Hp.Ps} (h : (Hp.inB 0 5 p.lev && Hp.inB 2 6 p.bx && Hp.inB 2 6 p.yb && Hp.inB 1 16 p.lay && Hp.inB 8 32 p.dead && Hp.inB 0 30 p.sh && decide ((p.steps.length : Int) = Hp.cntM p.lev)) = false) : (Hp.numB p && Hp.fitB p) = false := by
  have : Hp.numB p = false := by
    unfold Hp.numB
    revert h
    cases Hp.inB 0 5 p.lev <;> cases Hp.inB 2 6 p.bx <;> cases Hp.inB 2 6 p.yb <;> cases Hp.inB 1 16 p.lay <;> cases Hp.inB 8 32 p.dead <;> cases Hp.inB 0 30 p.sh <;> simp <;> intro h1 h2 <;> exact absurd h2 h1
  rw [this]; rfl
theorem num_all {p : Hp.Ps} (h : (Hp.inB 0 5 p.lev && Hp.inB 2 6 p.bx && Hp.inB 2 6 p.yb && Hp.inB 1 16 p.lay && Hp.inB 8 32 p.dead && Hp.inB 0 30 p.sh && decide ((p.steps.length : Int) = Hp.cntM p.lev)) = true) : Hp.numB p = Hp.allB 1 65536 p.steps := by
  simp only [Bool.and_eq_true] at h
  obtain ⟨⟨⟨⟨⟨⟨h0, h1⟩, h2⟩, h3⟩, h4⟩, h5⟩, h6⟩ := h
  unfold Hp.numB
  rw [h0, h1, h2, h3, h4, h5, h6]
  simp
set_option maxHeartbeats 16000000 in
theorem rnumbers_c (p : Hp.Ps) (s s2 : Option Addr) (m m2 : Nat) (W : World) (l1 : p.prec.length ≤ 4398046511104) (l2 : p.steps.length ≤ 4398046511104) (hP : HoldsP W s p.prec) (hS : HoldsI W s2 p.steps) : Calls Try.prog 37 #[.agg (pvA p s m s2 m2)] W fun e w' => e = .returned (.bool (Hp.numB p && Hp.fitB p)) ∧ Below W.heap.size W w' := by
  obtain ⟨WB, hWB⟩ : ∃ ww, ww = (W.alloc (.cells (pvA p s m s2 m2) 35)) := ⟨_, rfl⟩
  have hb0 : Below W.heap.size W WB := by rw [hWB]; exact (below_alloc (Below.refl _ W) (Nat.le_refl _) _)
  have B0 := Lib.hid hb0
  have hPb : Blk WB (W.heap.size) 35 (pvA p s m s2 m2) := by
    have := Blk.new (W) 35 (pvA p s m s2 m2)
    rw [hWB]
    exact (show Blk _ (W.heap.size) _ _ by simpa using this)
  have HP0 := Lib.hid hPb
  have HW2 := hWB
  have hP1 := hP.below hb0 (Nat.le_refl _)
  have hS1 := hS.below hb0 (Nat.le_refl _)
  clear hb0 hWB hPb hP hS
  have p1 := HP0.out.get 1 (v := .int .i64 p.lev) rfl
  have p3 := HP0.out.get 3 (v := .int .i64 p.bx) rfl
  have p4 := HP0.out.get 4 (v := .int .i64 p.yb) rfl
  have p7 := HP0.out.get 7 (v := .int .i64 p.lay) rfl
  have p17 := HP0.out.get 17 (v := .int .i64 p.dead) rfl
  have p18 := HP0.out.get 18 (v := .int .i64 p.sh) rfl
  have p5 := HP0.out.get 5 (v := .slice s p.prec.length m) rfl
  have p16 := HP0.out.get 16 (v := .slice s2 p.steps.length m2) rfl
  have k0 := fun w : World => in_r p.lev 0 5 w
  have k1 := fun w : World => in_r p.bx 2 6 w
  have k2 := fun w : World => in_r p.yb 2 6 w
  have k3 := fun w : World => in_r p.lay 1 16 w
  have k4 := fun w : World => in_r p.dead 8 32 w
  have k5 := fun w : World => in_r p.sh 0 30 w
  unfold pvA at HW2 ⊢
  cases h0 : Hp.inB 0 5 p.lev with
  | false =>
    rw [num_no (by rw [h0]; simp)]
    rw [h0] at k0
    clear h0
    go_enter Try.func37, Try.ntmps37
    go_upto_region 1 with fail
    rw [← HW2]
    clear HW2
    go_wp2_with (first | (go_at_call 44; (with_reducible refine (k0 _).mono ?_); rintro e wn ⟨rfl, rfl⟩) | (go_at_call 44; (with_reducible refine (k1 _).mono ?_); rintro e wn ⟨rfl, rfl⟩) | (go_at_call 44; (with_reducible refine (k2 _).mono ?_); rintro e wn ⟨rfl, rfl⟩) | (go_at_call 44; (with_reducible refine (k3 _).mono ?_); rintro e wn ⟨rfl, rfl⟩) | (go_at_call 44; (with_reducible refine (k4 _).mono ?_); rintro e wn ⟨rfl, rfl⟩) | (go_at_call 44; (with_reducible refine (k5 _).mono ?_); rintro e wn ⟨rfl, rfl⟩) | fail)
    go_ret
    exact ⟨rfl, B0.out⟩
  | true =>
    rw [h0] at k0
    cases h1 : Hp.inB 2 6 p.bx with
    | false =>
      rw [num_no (by rw [h0, h1]; simp)]
      rw [h1] at k1
      clear h0 h1
      go_enter Try.func37, Try.ntmps37
      go_upto_region 1 with fail
      rw [← HW2]
      clear HW2
      go_wp2_with (first | (go_at_call 44; (with_reducible refine (k0 _).mono ?_); rintro e wn ⟨rfl, rfl⟩) | (go_at_call 44; (with_reducible refine (k1 _).mono ?_); rintro e wn ⟨rfl, rfl⟩) | (go_at_call 44; (with_reducible refine (k2 _).mono ?_); rintro e wn ⟨rfl, rfl⟩) | (go_at_call 44; (with_reducible refine (k3 _).mono ?_); rintro e wn ⟨rfl, rfl⟩) | (go_at_call 44; (with_reducible refine (k4 _).mono ?_); rintro e wn ⟨rfl, rfl⟩) | (go_at_call 44; (with_reducible refine (k5 _).mono ?_); rintro e wn ⟨rfl, rfl⟩) | fail)
      go_ret
      exact ⟨rfl, B0.out⟩
    | true =>
      rw [h1] at k1
      cases h2 : Hp.inB 2 6 p.yb with
      | false =>
        rw [num_no (by rw [h0, h1, h2]; simp)]
        rw [h2] at k2
        clear h0 h1 h2
        go_enter Try.func37, Try.ntmps37
        go_upto_region 1 with fail
        rw [← HW2]
        clear HW2
        go_wp2_with (first | (go_at_call 44; (with_reducible refine (k0 _).mono ?_); rintro e wn ⟨rfl, rfl⟩) | (go_at_call 44; (with_reducible refine (k1 _).mono ?_); rintro e wn ⟨rfl, rfl⟩) | (go_at_call 44; (with_reducible refine (k2 _).mono ?_); rintro e wn ⟨rfl, rfl⟩) | (go_at_call 44; (with_reducible refine (k3 _).mono ?_); rintro e wn ⟨rfl, rfl⟩) | (go_at_call 44; (with_reducible refine (k4 _).mono ?_); rintro e wn ⟨rfl, rfl⟩) | (go_at_call 44; (with_reducible refine (k5 _).mono ?_); rintro e wn ⟨rfl, rfl⟩) | fail)
        go_ret
        exact ⟨rfl, B0.out⟩
      | true =>
        rw [h2] at k2
        cases h3 : Hp.inB 1 16 p.lay with
        | false =>
          rw [num_no (by rw [h0, h1, h2, h3]; simp)]
          rw [h3] at k3
          clear h0 h1 h2 h3
          go_enter Try.func37, Try.ntmps37
          go_upto_region 1 with fail
          rw [← HW2]
          clear HW2
          go_wp2_with (first | (go_at_call 44; (with_reducible refine (k0 _).mono ?_); rintro e wn ⟨rfl, rfl⟩) | (go_at_call 44; (with_reducible refine (k1 _).mono ?_); rintro e wn ⟨rfl, rfl⟩) | (go_at_call 44; (with_reducible refine (k2 _).mono ?_); rintro e wn ⟨rfl, rfl⟩) | (go_at_call 44; (with_reducible refine (k3 _).mono ?_); rintro e wn ⟨rfl, rfl⟩) | (go_at_call 44; (with_reducible refine (k4 _).mono ?_); rintro e wn ⟨rfl, rfl⟩) | (go_at_call 44; (with_reducible refine (k5 _).mono ?_); rintro e wn ⟨rfl, rfl⟩) | fail)
          go_ret
          exact ⟨rfl, B0.out⟩
        | true =>
          rw [h3] at k3
          cases h4 : Hp.inB 8 32 p.dead with
          | false =>
            rw [num_no (by rw [h0, h1, h2, h3, h4]; simp)]
            rw [h4] at k4
            clear h0 h1 h2 h3 h4
            go_enter Try.func37, Try.ntmps37
            go_upto_region 1 with fail
            rw [← HW2]
            clear HW2
            go_wp2_with (first | (go_at_call 44; (with_reducible refine (k0 _).mono ?_); rintro e wn ⟨rfl, rfl⟩) | (go_at_call 44; (with_reducible refine (k1 _).mono ?_); rintro e wn ⟨rfl, rfl⟩) | (go_at_call 44; (with_reducible refine (k2 _).mono ?_); rintro e wn ⟨rfl, rfl⟩) | (go_at_call 44; (with_reducible refine (k3 _).mono ?_); rintro e wn ⟨rfl, rfl⟩) | (go_at_call 44; (with_reducible refine (k4 _).mono ?_); rintro e wn ⟨rfl, rfl⟩) | (go_at_call 44; (with_reducible refine (k5 _).mono ?_); rintro e wn ⟨rfl, rfl⟩) | fail)
            go_ret
            exact ⟨rfl, B0.out⟩
          | true =>
            rw [h4] at k4
            cases h5 : Hp.inB 0 30 p.sh with
            | false =>
              rw [num_no (by rw [h0, h1, h2, h3, h4, h5]; simp)]
              rw [h5] at k5
              clear h0 h1 h2 h3 h4 h5
              go_enter Try.func37, Try.ntmps37
              go_upto_region 1 with fail
              rw [← HW2]
              clear HW2
              go_wp2_with (first | (go_at_call 44; (with_reducible refine (k0 _).mono ?_); rintro e wn ⟨rfl, rfl⟩) | (go_at_call 44; (with_reducible refine (k1 _).mono ?_); rintro e wn ⟨rfl, rfl⟩) | (go_at_call 44; (with_reducible refine (k2 _).mono ?_); rintro e wn ⟨rfl, rfl⟩) | (go_at_call 44; (with_reducible refine (k3 _).mono ?_); rintro e wn ⟨rfl, rfl⟩) | (go_at_call 44; (with_reducible refine (k4 _).mono ?_); rintro e wn ⟨rfl, rfl⟩) | (go_at_call 44; (with_reducible refine (k5 _).mono ?_); rintro e wn ⟨rfl, rfl⟩) | fail)
              go_ret
              exact ⟨rfl, B0.out⟩
            | true =>
              rw [h5] at k5
              have hl := Hp.in_iff.1 h0
              have hcn : Hp.cntM p.lev = 3 * p.lev + 1 := if_neg (by omega)
              have w1 : IntKind.i64.wrap (3 * p.lev) = 3 * p.lev := IntWalk.i64_in _ (by omega)
              have w1' : wrap64 (3 * p.lev) = 3 * p.lev := IntWalk.wrap64_in _ (by omega)
              have w2 : IntKind.i64.wrap (3 * p.lev + 1) = 3 * p.lev + 1 := IntWalk.i64_in _ (by omega)
              have w4 : IntKind.i64.wrap (p.lev + 1) = p.lev + 1 := IntWalk.i64_in _ (by omega)
              by_cases h6 : (p.steps.length : Int) = 3 * p.lev + 1
              case neg =>
                have t0 : ((p.steps.length : Int) == 3 * p.lev + 1) = false := by simpa using h6
                have t1 : ((p.steps.length : Int) != 3 * p.lev + 1) = true := by simpa using h6
                rw [num_no (by rw [h0, h1, h2, h3, h4, h5, hcn]; simpa using h6)]
                clear h0 h1 h2 h3 h4 h5 h6 hcn
                go_enter Try.func37, Try.ntmps37
                go_upto_region 1 with fail
                rw [← HW2]
                clear HW2
                go_wp2_with (first | (go_at_call 44; (with_reducible refine (k0 _).mono ?_); rintro e wn ⟨rfl, rfl⟩) | (go_at_call 44; (with_reducible refine (k1 _).mono ?_); rintro e wn ⟨rfl, rfl⟩) | (go_at_call 44; (with_reducible refine (k2 _).mono ?_); rintro e wn ⟨rfl, rfl⟩) | (go_at_call 44; (with_reducible refine (k3 _).mono ?_); rintro e wn ⟨rfl, rfl⟩) | (go_at_call 44; (with_reducible refine (k4 _).mono ?_); rintro e wn ⟨rfl, rfl⟩) | (go_at_call 44; (with_reducible refine (k5 _).mono ?_); rintro e wn ⟨rfl, rfl⟩) | fail)
                go_ret
                exact ⟨rfl, B0.out⟩
              case pos =>
                have t0 : ((p.steps.length : Int) == 3 * p.lev + 1) = true := by simpa using h6
                have t1 : ((p.steps.length : Int) != 3 * p.lev + 1) = false := by simpa using h6
                have HN := Lib.hid (num_all (p := p) (by rw [h0, h1, h2, h3, h4, h5, hcn]; simpa using h6))
                have HL := Lib.hid hl
                clear h0 h1 h2 h3 h4 h5 h6 hcn hl
                go_enter Try.func37, Try.ntmps37
                go_upto_region 1 with fail
                rw [← HW2]
                clear HW2
                go_upto_region 4 with (first | (go_at_call 44; (with_reducible refine (k0 _).mono ?_); rintro e wn ⟨rfl, rfl⟩) | (go_at_call 44; (with_reducible refine (k1 _).mono ?_); rintro e wn ⟨rfl, rfl⟩) | (go_at_call 44; (with_reducible refine (k2 _).mono ?_); rintro e wn ⟨rfl, rfl⟩) | (go_at_call 44; (with_reducible refine (k3 _).mono ?_); rintro e wn ⟨rfl, rfl⟩) | (go_at_call 44; (with_reducible refine (k4 _).mono ?_); rintro e wn ⟨rfl, rfl⟩) | (go_at_call 44; (with_reducible refine (k5 _).mono ?_); rintro e wn ⟨rfl, rfl⟩) | fail)
                clear t0 t1 w1 w1' w2 p3 p4 p7 p17 p18 k0 k1 k2 k3 k4 k5
                go_loopw [3] (fun v wr => ∃ k : Nat, k ≤ p.steps.length ∧ v = .int .i64 k ∧ Hid (∀ j (hj : j < p.steps.length), j < k → Hp.inB 1 65536 p.steps[j] = true) ∧ wr = wn) (fun v _ => p.steps.length - (intOf v).toNat)
                case atStart => exact ⟨0, Nat.zero_le _, rfl, Lib.hid (fun j _ h => absurd h (Nat.not_lt_zero _)), by first | rfl | trivial⟩
                case round =>
                  obtain ⟨k, hk, rfl, HA, rfl⟩ := hrel
                  by_cases hlt : k < p.steps.length
                  case pos =>
                    rcases hS1 with z | ⟨b, off, rfl, hr⟩
                    · rw [z] at hlt; simp at hlt
                    have c0 := hr k hlt
                    have hki : (k : Int) < (p.steps.length : Int) := by omega
                    have w2 : IntKind.i64.wrap ((k : Int) + 1) = (k : Int) + 1 := IntWalk.i64_in _ (by omega)
                    have HF := Lib.hid (show Hp.inB 1 65536 p.steps[k] = false → (Hp.numB p && Hp.fitB p) = false from fun q => by rw [HN.out, show Hp.allB 1 65536 p.steps = false from List.all_eq_false.2 ⟨_, List.getElem_mem hlt, by rw [q]; decide⟩]; rfl)
                    have HV := Lib.hid (show Hp.inB 1 65536 p.steps[k] = true → ∀ j (hj : j < p.steps.length), j < k + 1 → Hp.inB 1 65536 p.steps[j] = true from fun a j hj hjk => if e : j = k then by subst e; exact a else HA.out j hj (by omega))
                    generalize p.steps[k] = V at *
                    have ki := fun w : World => in_r V 1 65536 w
                    clear hr
                    cases hv : Hp.inB 1 65536 V with
                    | false =>
                      rw [hv] at ki
                      have hf := Lib.hid (HF.out hv)
                      clear HF HV HA hv
                      go_wp2_with (first | (go_at_call 44; (with_reducible refine (ki _).mono ?_); rintro e wn ⟨rfl, rfl⟩) | fail)
                      go_ret
                      exact ⟨by rw [hf.out]; rfl, B0.out⟩
                    | true =>
                      rw [hv] at ki
                      have hn := Lib.hid (HV.out hv)
                      clear HF HV HA hv
                      go_wp2_with (first | (go_at_call 44; (with_reducible refine (ki _).mono ?_); rintro e wn ⟨rfl, rfl⟩) | fail)
                      go_roundw
                      case rel => exact ⟨k + 1, by omega, by go_num, hn, by first | rfl | trivial⟩
                      case measure => simp [intOf]; omega
                  case neg =>
                    obtain rfl : k = p.steps.length := by omega
                    have HNB := Lib.hid (show Hp.numB p = true by rw [HN.out]; exact all_yes fun j hj _ => HA.out j hj hj)
                    clear HA HN
                    by_cases hp0 : p.prec.length = 0
                    · have q0 : ((p.prec.length : Int) == 0) = true := by simp [hp0]
                      have q1 : (p.prec.length == 0) = true := by simp [hp0]
                      have HR := Lib.hid (show (Hp.numB p && Hp.fitB p) = true by rw [HNB.out]; unfold Hp.fitB; rw [decide_eq_true hp0]; rfl)
                      clear hp0
                      go_wp2_with fail
                      go_ret
                      exact ⟨by rw [HR.out]; rfl, B0.out⟩
                    · have q0 : ((p.prec.length : Int) == 0) = false := by simp [hp0]
                      have q1 : (p.prec.length == 0) = false := by simp [hp0]
                      have HF0 := Lib.hid (show Hp.fitB p = (decide ((p.prec.length : Int) = p.lev + 1) && decide (∀ k, k < p.prec.length → Hp.ptB k (p.prec.getD k Hp.zP) = true)) by unfold Hp.fitB; rw [decide_eq_false hp0]; rfl)
                      have HP00 := Lib.hid hp0
                      clear hp0
                      by_cases hle : (p.prec.length : Int) = p.lev + 1
                      case neg =>
                        have r0 : ((p.prec.length : Int) == p.lev + 1) = false := by simpa using hle
                        have r1 : ((p.prec.length : Int) != p.lev + 1) = true := by simpa using hle
                        have HR := Lib.hid (show (Hp.numB p && Hp.fitB p) = false by rw [HNB.out, HF0.out, decide_eq_false hle]; rfl)
                        clear hle
                        go_wp2_with fail
                        go_ret
                        exact ⟨by rw [HR.out]; rfl, B0.out⟩
                      case pos =>
                        have r0 : ((p.prec.length : Int) == p.lev + 1) = true := by simpa using hle
                        have r1 : ((p.prec.length : Int) != p.lev + 1) = false := by simpa using hle
                        have HLE := Lib.hid hle
                        clear hle
                        go_upto_region 13 with fail
                        clear q0 q1 r0 r1 w4
                        obtain ⟨W0, rfl⟩ : ∃ W0, W0 = wr := ⟨_, rfl⟩
                        go_loopw [4] (fun v wr => ∃ k : Nat, k ≤ p.prec.length ∧ v = .int .i64 k ∧ Hid (∀ j (hj : j < p.prec.length), j < k → Hp.ptB j p.prec[j] = true) ∧ wr = W0) (fun v _ => p.prec.length - (intOf v).toNat)
                        case atStart => exact ⟨0, Nat.zero_le _, rfl, Lib.hid (fun j _ h => absurd h (Nat.not_lt_zero _)), by first | rfl | trivial⟩
                        case round =>
                          obtain ⟨k, hk2, rfl, HA, rfl⟩ := hrel
                          by_cases hlt2 : k < p.prec.length
                          case pos =>
                            rcases hP1 with z | ⟨b, off, rfl, hr⟩
                            · rw [z] at hlt2; simp at hlt2
                            obtain ⟨c0, c1⟩ := hr k hlt2
                            have hki : (k : Int) < (p.prec.length : Int) := by omega
                            have w2 : IntKind.i64.wrap ((k : Int) + 1) = (k : Int) + 1 := IntWalk.i64_in _ (by omega)
                            have HF := Lib.hid (show Hp.ptB k p.prec[k] = false → (Hp.numB p && Hp.fitB p) = false from fun q => by rw [fit_no HP00.out hlt2 q, Bool.and_false])
                            have HV := Lib.hid (show Hp.ptB k p.prec[k] = true → ∀ j (hj : j < p.prec.length), j < k + 1 → Hp.ptB j p.prec[j] = true from fun a j hj hjk => if e : j = k then by subst e; exact a else HA.out j hj (by omega))
                            generalize p.prec[k] = V at *
                            have HPT := Lib.hid (show Hp.ptB k V = (Hp.inB (min (k : Int) 1) 12 V.x && Hp.inB (min (k : Int) 1) 12 V.y) from rfl)
                            have hmn : (if (1 : Int) < (k : Int) then (1 : Int) else (k : Int)) = min (k : Int) 1 := by split <;> omega
                            have kx := fun w : World => in_r V.x (min (k : Int) 1) 12 w
                            have ky := fun w : World => in_r V.y (min (k : Int) 1) 12 w
                            generalize min (k : Int) 1 = MN at *
                            clear hr
                            cases hx : Hp.inB MN 12 V.x with
                            | false =>
                              rw [hx] at kx
                              have hf := Lib.hid (HF.out (by rw [HPT.out, hx]; rfl))
                              clear HF HV HA HPT hx
                              go_wp2_with (first | (go_at_call 44; (with_reducible refine (kx _).mono ?_); rintro e wn ⟨rfl, rfl⟩) | (go_at_call 44; (with_reducible refine (ky _).mono ?_); rintro e wn ⟨rfl, rfl⟩) | fail)
                              go_ret
                              exact ⟨by rw [hf.out]; rfl, B0.out⟩
                            | true =>
                              rw [hx] at kx
                              cases hy : Hp.inB MN 12 V.y with
                              | false =>
                                rw [hy] at ky
                                have hf := Lib.hid (HF.out (by rw [HPT.out, hx, hy]; rfl))
                                clear HF HV HA HPT hx hy
                                go_wp2_with (first | (go_at_call 44; (with_reducible refine (kx _).mono ?_); rintro e wn ⟨rfl, rfl⟩) | (go_at_call 44; (with_reducible refine (ky _).mono ?_); rintro e wn ⟨rfl, rfl⟩) | fail)
                                go_ret
                                exact ⟨by rw [hf.out]; rfl, B0.out⟩
                              | true =>
                                rw [hy] at ky
                                have hn := Lib.hid (HV.out (by rw [HPT.out, hx, hy]; rfl))
                                clear HF HV HA HPT hx hy
                                go_wp2_with (first | (go_at_call 44; (with_reducible refine (kx _).mono ?_); rintro e wn ⟨rfl, rfl⟩) | (go_at_call 44; (with_reducible refine (ky _).mono ?_); rintro e wn ⟨rfl, rfl⟩) | fail)
                                go_roundw
                                case rel => exact ⟨k + 1, by omega, by go_num, hn, by first | rfl | trivial⟩
                                case measure => simp [intOf]; omega
                          case neg =>
                            obtain rfl : k = p.prec.length := by omega
                            have HR := Lib.hid (show (Hp.numB p && Hp.fitB p) = true by
                              rw [HNB.out, HF0.out, decide_eq_true HLE.out, decide_eq_true (fun j hj => by rw [List.getD_eq_getElem?_getD]; simpa [hj] using HA.out j hj hj)]; rfl)
                            clear HA
                            go_wp2_with fail
                            go_ret
                            exact ⟨by rw [HR.out]; rfl, B0.out⟩
end Go.Proofs.Ytkcjbehfhcmiaaa
