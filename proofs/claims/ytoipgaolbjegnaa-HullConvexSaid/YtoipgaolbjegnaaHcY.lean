/-
  Layer 20: the statement HullConvex on a valid curve.
-/
import Derived.Test.YtoipgaolbjegnaaIe
import Derived.Test.YtoipgaolbjegnaaIg
set_option maxRecDepth 100000
namespace Go.Proofs.Ytoipgaolbjegnaa
open Go.RowKit

set_option maxHeartbeats 16000000 in
theorem hc_y (R D : List Int) (hv : VP R D) (n mr md : Nat) (sr sd : Option Addr) (W : World) (hR : HoldsI W sr R) (hD : HoldsI W sd D) (hn : n = D.length) :
    Calls Try.prog 8 #[.agg #[.slice sr n mr, .slice sd n md]] W fun e w' => e = .returned (.bool true) ∧ Below W.heap.size W w' := by
  obtain ⟨b2, off2, rfl, -⟩ := hD.at (show 0 < D.length by have := hv.1; have := hv.2.1; omega)
  obtain ⟨b3, off3, rfl, -⟩ := hR.at (show 0 < R.length by have := hv.2.1; omega)
  obtain ⟨WA, hWA⟩ : ∃ x, x = W.alloc (.cells #[.slice (some ⟨b3, off3, none⟩) n mr, .slice (some ⟨b2, off2, none⟩) n md] 24) := ⟨_, rfl⟩
  have hB : Below W.heap.size W WA := by rw [hWA]; exact below_alloc (Below.refl _ W) _
  have hX : Blk WA W.heap.size 24 #[.slice (some ⟨b3, off3, none⟩) n mr, .slice (some ⟨b2, off2, none⟩) n md] := by rw [hWA]; exact Blk.new W _ _
  have hRA := hR.below hB (Nat.le_refl _)
  have hDA := hD.below hB (Nat.le_refl _)
  have hnr : n = R.length := by rw [hn]; exact hv.1
  have kv := zvalid_c R D n n mr md _ _ WA hRA hDA hnr hn
  rw [decide_eq_true hv] at kv
  have kp := fun (W1 : World) (hb : Below WA.heap.size WA W1) => hpoints_c R D n n mr md _ _ W1 (hRA.call hb) (hDA.call hb) hnr hn
  rw [if_pos hv] at kp
  obtain ⟨L, hL⟩ : ∃ L, L = hull R D := ⟨_, rfl⟩
  rw [← hL] at kp
  obtain ⟨N, hN⟩ : ∃ N, N = L.length := ⟨_, rfl⟩
  unfold GivesI at kp
  rw [nats_len, ← hN] at kp
  have hpos : 1 ≤ N ∧ L.getD 0 0 = 0 := by rw [hN, hL]; exact hull_pos R D
  have hNn : N ≤ n ∧ n ≤ 179 := by
    have h1 := hull_len hv
    have := hv.1
    have := hv.2.2.1
    rw [← hL, ← hN] at h1
    omega
  have hlt : ∀ i, i < N → L.getD i 0 < n := fun i hi => by rw [hN] at hi; rw [hL] at hi ⊢; rw [hn]; exact hull_lt hv hi
  have hstep : ∀ i, i + 1 < N → L.getD i 0 < L.getD (i + 1) 0 ∧ D.getD (L.getD (i + 1) 0) 0 < D.getD (L.getD i 0) 0 := fun i hi => by
    rw [hN] at hi; rw [hL] at hi ⊢; exact ⟨(hull_step hv hi).2.1, (hull_step hv hi).2.2.2⟩
  obtain ⟨q0, q1⟩ := cv2 hX
  have fd : ∀ W1 : World, Below WA.heap.size WA W1 → W1.cell? ⟨W.heap.size, 0, none⟩ = some (.slice (some ⟨b3, off3, none⟩) n mr) ∧ W1.cell? ⟨W.heap.size, 1, none⟩ = some (.slice (some ⟨b2, off2, none⟩) n md) := fun W1 hb => cv2 (hX.below hb)
  have fr : ∀ W1 : World, Below WA.heap.size WA W1 → ∀ i, i < n → W1.cell? ⟨b3, off3 + i, none⟩ = some (.int .i64 (R.getD i 0)) := fun W1 hb i hi => (hRA.call hb).of (by omega)
  have fdd : ∀ W1 : World, Below WA.heap.size WA W1 → ∀ i, i < n → W1.cell? ⟨b2, off2 + i, none⟩ = some (.int .i64 (D.getD i 0)) := fun W1 hb i hi => (hDA.call hb).of (by omega)
  have HB := Lib.hid hB
  have HWA := Lib.hid hWA
  have KP := Lib.hid kp
  have FD := Lib.hid fd
  have FR := Lib.hid fr
  have FDD := Lib.hid fdd
  have HV := Lib.hid hv
  have HPOS := Lib.hid hpos
  have HNN := Lib.hid hNn
  have HLT := Lib.hid hlt
  have HST := Lib.hid hstep
  have HNL := Lib.hid hn
  have HLE := Lib.hid hL
  have HNE := Lib.hid hN
  have hturn : ∀ i, i + 2 < N → steep (D.getD (L.getD i 0) 0 - D.getD (L.getD (i + 1) 0) 0) (R.getD (L.getD (i + 1) 0) 0 - R.getD (L.getD i 0) 0) (D.getD (L.getD (i + 1) 0) 0 - D.getD (L.getD (i + 1 + 1) 0) 0) (R.getD (L.getD (i + 1 + 1) 0) 0 - R.getD (L.getD (i + 1) 0) 0) = 1 := fun i hi => by
    rw [hN] at hi; rw [hL] at hi ⊢
    obtain ⟨a1, a2, a3⟩ := hF_ok hv (i := i) (by omega)
    obtain ⟨b1, b2, b3⟩ := hF_ok hv (i := i + 1) (by omega)
    have ht := hull_turn hv hi
    unfold hF fl at a1 a2 b1 b2
    unfold hI inc at a3 b3
    unfold hF hI fl inc at ht
    rw [steep_y ⟨a2, a3, b2, b3⟩]
    unfold nr
    rw [if_neg (by omega), if_neg (by omega)]
    rcases cmpI_cases ((D.getD ((hull R D).getD i 0) 0 - D.getD ((hull R D).getD (i + 1) 0) 0) * (R.getD ((hull R D).getD (i + 1 + 1) 0) 0 - R.getD ((hull R D).getD (i + 1) 0) 0)) ((D.getD ((hull R D).getD (i + 1) 0) 0 - D.getD ((hull R D).getD (i + 1 + 1) 0) 0) * (R.getD ((hull R D).getD (i + 1) 0) 0 - R.getD ((hull R D).getD i 0) 0)) with h | h | h <;> omega
  have hbelow : ∀ i, i + 1 < N → ∀ k, k < n → D.getD k 0 < D.getD (L.getD i 0) 0 → ¬ 0 < steep (D.getD (L.getD i 0) 0 - D.getD k 0) (R.getD k 0 - R.getD (L.getD i 0) 0) (D.getD (L.getD i 0) 0 - D.getD (L.getD (i + 1) 0) 0) (R.getD (L.getD (i + 1) 0) 0 - R.getD (L.getD i 0) 0) := fun i hi k hk hd => by
    rw [hN] at hi; rw [hL] at hi hd ⊢
    obtain ⟨b1, b2, b3⟩ := hF_ok hv (i := i) hi
    obtain ⟨c1, c2⟩ := hull_below hv hi (show k < D.length by omega) hd
    unfold hF fl at b1 b2
    unfold hI inc at b3
    unfold hF hI fl inc at c2
    have g1 := hv.dd (i := (hull R D).getD i 0) (j := k) (hull_lt hv (by omega)) (by omega) (by omega)
    have g2 := hv.rr (i := (hull R D).getD i 0) (j := k) (by omega) (by omega)
    rw [steep_y ⟨g1, g2, b2, b3⟩]
    unfold nr
    rw [if_neg (by omega), if_neg (by omega)]
    rcases cmpI_cases ((D.getD ((hull R D).getD i 0) 0 - D.getD k 0) * (R.getD ((hull R D).getD (i + 1) 0) 0 - R.getD ((hull R D).getD i 0) 0)) ((D.getD ((hull R D).getD i 0) 0 - D.getD ((hull R D).getD (i + 1) 0) 0) * (R.getD k 0 - R.getD ((hull R D).getD i 0) 0)) with h | h | h <;> omega
  have hleast : ∀ k, k < n → D.getD (L.getD (N - 1) 0) 0 ≤ D.getD k 0 := fun k hk => by rw [hN, hL]; exact hull_least hv (by omega)
  have HTU := Lib.hid hturn
  have HBW := Lib.hid hbelow
  have HLS := Lib.hid hleast
  have ks := hsteeper_c
  have KS := Lib.hid ks
  have ke := ex20_c
  have KE := Lib.hid ke
  clear hturn hbelow hleast ke ks hv
  rw [hWA] at kv q0 q1
  clear hB hX hRA hDA hnr kp fd fr fdd hpos hNn hlt hstep hWA hR hD hn hL hN
  go_enter Try.func8, Try.ntmps8
  go_wp2_with (first | (go_at_call 13; (with_reducible refine kv.mono ?_); rintro e w1 ⟨rfl, hb⟩; have B1 := Lib.hid (show Below WA.heap.size WA w1 by rw [HWA.out]; exact hb); obtain ⟨q0, q1⟩ := FD.out _ B1.out; have kp := KP.out _ B1.out; clear hb) | (go_at_call 17; (with_reducible refine kp.mono ?_); rintro e w2 ⟨s2, m2, rfl, hh2, hb2⟩; obtain ⟨gl, ol, rfl, -⟩ := hh2.at (show 0 < (nats L).length by rw [nats_len, ← HNE.out]; exact HPOS.out.1); have H2 := Lib.hid hh2; have B2 := Lib.hid (below_call B1.out hb2); obtain ⟨q0, q1⟩ := FD.out _ B2.out; have tN : ((N : Int) == 0) = false := by { have := HPOS.out; simp; omega }; have c0 : w2.cell? ⟨gl, ol, none⟩ = some (.int .i64 0) := by { have h9 := hh2.of (show 0 < (nats L).length by rw [nats_len, ← HNE.out]; exact HPOS.out.1); rw [nats_get, HPOS.out.2] at h9; exact h9 }; have t0 : (0 : Int) < (N : Int) := by { have := HPOS.out; omega }; clear hb2 hh2) | fail)
  have fl : ∀ W1 : World, Below w2.heap.size w2 W1 → ∀ i, i < N → W1.cell? ⟨gl, ol + i, none⟩ = some (.int .i64 ((L.getD i 0 : Nat) : Int)) := fun W1 hb i hi => by
      have := (H2.out.call hb).of (show i < (nats L).length by rw [nats_len, ← HNE.out]; exact hi)
      rw [nats_get] at this
      exact this
  have FL := Lib.hid fl
  clear fl
  clear q0 q1 kv kp tN c0 t0
  go_loopw [4] (fun u wr => ∃ k : Nat, k ≤ N ∧ u = .int .i64 (k : Int) ∧ Hid (Below w2.heap.size w2 wr)) (fun u _ => N - (intOf u).toNat)
  case atStart => exact ⟨0, Nat.zero_le _, rfl, Below.refl _ _⟩
  case round =>
    obtain ⟨j, hj, rfl, hW⟩ := hrel
    have hWA2 : Below WA.heap.size WA wr := below_call B2.out hW.out
    obtain ⟨q0, q1⟩ := FD.out _ hWA2
    by_cases hlt : j < N
    · have HJN := Lib.hid hlt
      have wk : IntKind.i64.wrap ((j : Int) + 1) = ((j + 1 : Nat) : Int) := by have := HNN.out; rw [IntWalk.i64_left]; unfold wrap64; omega
      have cj := FL.out _ hW.out j hlt
      have hpn := HLT.out j hlt
      have t1 : decide (((L.getD j 0 : Nat) : Int) < 0) = false := decide_eq_false (by omega)
      have t2 : decide ((n : Int) ≤ ((L.getD j 0 : Nat) : Int)) = false := decide_eq_false (by omega)
      have t4 : decide (n ≤ L.getD j 0) = false := decide_eq_false (by omega)
      have p5 : (0 : Int) ≤ (j : Int) := by omega
      have p6 : (j : Int) < (N : Int) := by omega
      by_cases hj0 : j = 0
      · have t5 : decide ((0 : Int) < (j : Int)) = false := decide_eq_false (by omega)
        have t6 : decide (0 < j) = false := decide_eq_false (by omega)
        clear hpn hj0
        generalize L.getD j 0 = P at *
        go_wp2_with fail
        go_quiet (fail)
        go_wp2_with fail
        go_roundw
        case rel => exact ⟨j + 1, HJN.out, by go_num, below_call hW.out (drewN_below _ _)⟩
        case measure => have := HJN.out; simp [intOf]; omega
      · have t5 : decide ((0 : Int) < (j : Int)) = true := decide_eq_true (by omega)
        have t6 : decide (0 < j) = true := decide_eq_true (by omega)
        obtain ⟨j0, hj1⟩ : ∃ j0, j0 = j - 1 := ⟨_, rfl⟩
        have cj0 := FL.out _ hW.out j0 (by omega)
        have hs := (HST.out j0 (by omega)).1
        rw [show j0 + 1 = j by omega] at hs
        have wp : IntKind.i64.wrap ((j : Int) - 1) = (j0 : Int) := by have := HNN.out; rw [IntWalk.i64_left]; unfold wrap64; omega
        have p7 : (0 : Int) ≤ (j0 : Int) := by omega
        have p8 : (j0 : Int) < (N : Int) := by omega
        have t7 : decide (((L.getD j 0 : Nat) : Int) ≤ ((L.getD j0 0 : Nat) : Int)) = false := decide_eq_false (by omega)
        have t8 : decide (L.getD j 0 ≤ L.getD j0 0) = false := decide_eq_false (by omega)
        clear hpn hs hj0 hj1
        generalize L.getD j 0 = P at *
        generalize L.getD j0 0 = P0 at *
        go_wp2_with fail
        go_quiet (fail)
        go_wp2_with fail
        go_roundw
        case rel => exact ⟨j + 1, HJN.out, by go_num, below_call hW.out (drewN_below _ _)⟩
        case measure => have := HJN.out; simp [intOf]; omega
    · obtain rfl : N = j := by omega
      have D4 := Lib.hid hW.out
      have E4 := Lib.hid hWA2
      clear hW hWA2 hlt
      go_wp2_with fail
      clear q0 q1
      go_loopw [5] (fun u w5 => ∃ j : Nat, j + 1 ≤ N ∧ u = .int .i64 (j : Int) ∧ Hid (Below wr.heap.size wr w5)) (fun u _ => N - (intOf u).toNat)
      case atStart => exact ⟨0, HPOS.out.1, rfl, Below.refl _ _⟩
      case round =>
        obtain ⟨j, hj, rfl, hW⟩ := hrel
        rename World => w5
        have hWA2 : Below WA.heap.size WA w5 := below_call E4.out hW.out
        have hWL : Below w2.heap.size w2 w5 := below_call D4.out hW.out
        obtain ⟨q0, q1⟩ := FD.out _ hWA2
        obtain ⟨j1, hj1⟩ : ∃ j1, j1 = j + 1 := ⟨_, rfl⟩
        have wj : IntKind.i64.wrap ((j : Int) + 1) = (j1 : Int) := by have := HNN.out; rw [IntWalk.i64_left]; unfold wrap64; omega
        have HJ1 := Lib.hid hj1
        by_cases hlt : j1 < N
        · have HJN := Lib.hid hlt
          obtain ⟨P, hP⟩ : ∃ P, P = L.getD j 0 := ⟨_, rfl⟩
          obtain ⟨Q, hQ⟩ : ∃ Q, Q = L.getD j1 0 := ⟨_, rfl⟩
          have hpn : P < n := by rw [hP]; exact HLT.out j (by omega)
          have hqn : Q < n := by rw [hQ]; exact HLT.out j1 hlt
          have hpq := HST.out j (by omega)
          rw [← hj1, ← hP, ← hQ] at hpq
          have hbw := HBW.out j (by omega)
          rw [← hj1, ← hP, ← hQ] at hbw
          have cells : ∀ W1 : World, Below w5.heap.size w5 W1 → (W1.cell? ⟨W.heap.size, 0, none⟩ = some (.slice (some ⟨b3, off3, none⟩) n mr) ∧ W1.cell? ⟨W.heap.size, 1, none⟩ = some (.slice (some ⟨b2, off2, none⟩) n md)) ∧ (W1.cell? ⟨gl, ol + j, none⟩ = some (.int .i64 (P : Int)) ∧ W1.cell? ⟨gl, ol + j1, none⟩ = some (.int .i64 (Q : Int))) ∧ (W1.cell? ⟨b3, off3 + P, none⟩ = some (.int .i64 (R.getD P 0)) ∧ W1.cell? ⟨b3, off3 + Q, none⟩ = some (.int .i64 (R.getD Q 0))) ∧ W1.cell? ⟨b2, off2 + P, none⟩ = some (.int .i64 (D.getD P 0)) ∧ W1.cell? ⟨b2, off2 + Q, none⟩ = some (.int .i64 (D.getD Q 0)) := fun W1 hb1 => by
            have h1 := below_call hWA2 hb1
            have h2 := below_call hWL hb1
            refine ⟨FD.out _ h1, ⟨?_, ?_⟩, ⟨FR.out _ h1 P hpn, FR.out _ h1 Q hqn⟩, FDD.out _ h1 P hpn, FDD.out _ h1 Q hqn⟩
            · rw [hP]; exact FL.out _ h2 j (by omega)
            · rw [hQ]; exact FL.out _ h2 j1 hlt
          have CE := Lib.hid cells
          have HWA5 := Lib.hid hWA2
          have HWL5 := Lib.hid hWL
          have e1 := sub_wrap (HV.out.d (show P < D.length by have := HNL.out; omega)) (HV.out.d (show Q < D.length by have := HNL.out; omega))
          have e2 := subr_wrap (HV.out.r (show Q < D.length by have := HNL.out; omega)) (HV.out.r (show P < D.length by have := HNL.out; omega))
          have p1 : (0 : Int) ≤ (P : Int) := by omega
          have p2 : (P : Int) < (n : Int) := by omega
          have p3 : (0 : Int) ≤ (Q : Int) := by omega
          have p4 : (Q : Int) < (n : Int) := by omega
          have p5 : (0 : Int) ≤ (j : Int) := by omega
          have p6 : (j : Int) < (N : Int) := by omega
          have p7 : (0 : Int) ≤ (j1 : Int) := by omega
          have p8 : (j1 : Int) < (N : Int) := by omega
          obtain ⟨F, hF⟩ : ∃ F, F = D.getD P 0 - D.getD Q 0 := ⟨_, rfl⟩
          obtain ⟨S, hS⟩ : ∃ S, S = R.getD Q 0 - R.getD P 0 := ⟨_, rfl⟩
          have d1 : decide (F ≤ 0) = false := decide_eq_false (by omega)
          replace e1 := e1.trans hF.symm
          replace e2 := e2.trans hS.symm
          rw [← hF, ← hS] at hbw
          have HBW2 := Lib.hid hbw
          have HPN := Lib.hid hpn
          have HQN := Lib.hid hqn
          -- the point before
          have hprev : ∀ j0, j = j0 + 1 → steep (D.getD (L.getD j0 0) 0 - D.getD P 0) (R.getD P 0 - R.getD (L.getD j0 0) 0) F S = 1 ∧ L.getD j0 0 < n := fun j0 h0 => by
            have ht := HTU.out j0 (by omega)
            rw [show j0 + 1 = j by omega, ← hj1, ← hP, ← hQ, ← hF, ← hS] at ht
            exact ⟨ht, HLT.out j0 (by omega)⟩
          have HPV := Lib.hid hprev
          obtain ⟨-, ⟨c1, c2⟩, ⟨c3, c4⟩, c5, c6⟩ := cells w5 (Below.refl _ _)
          obtain ⟨yp, hyp⟩ : ∃ y, y = D.getD P 0 := ⟨_, rfl⟩
          obtain ⟨yq, hyq⟩ : ∃ y, y = D.getD Q 0 := ⟨_, rfl⟩
          obtain ⟨xp, hxp⟩ : ∃ y, y = R.getD P 0 := ⟨_, rfl⟩
          obtain ⟨xq, hxq⟩ : ∃ y, y = R.getD Q 0 := ⟨_, rfl⟩
          rw [← hyp, ← hyq] at e1
          rw [← hxp, ← hxq] at e2
          rw [← hyp, ← hyq, ← hxp, ← hxq] at CE
          rw [← hyp, ← hxp] at HPV HBW2
          rw [← hyp] at c5
          rw [← hyq] at c6
          rw [← hxp] at c3
          rw [← hxq] at c4
          have HYP := Lib.hid hyp
          have HXP := Lib.hid hxp
          have HXQ := Lib.hid hxq
          clear hP hQ hpn hqn hpq hbw cells hWA2 hWL hj hj1 hlt hF hS hprev hyp hyq hxp hxq
          go_wp2_with fail
          go_quiet (fail)
          have BZ := Lib.hid (drewN_below w5 nq)
          generalize w5.drewN nq = wz at *
          obtain ⟨⟨q0, q1⟩, ⟨c1, c2⟩, ⟨c3, c4⟩, c5, c6⟩ := CE.out _ BZ.out
          go_wp2_with fail
          go_quiet (fail)
          have BY := Lib.hid (below_call BZ.out (drewN_below wz nq))
          generalize wz.drewN nq = wy at *
          obtain ⟨⟨q0, q1⟩, ⟨c1, c2⟩, ⟨c3, c4⟩, c5, c6⟩ := CE.out _ BY.out
          go_upto_region 16 with fail
          go_cut [144] from 103 to 144 (fun v wx => v = .bool false ∧ Hid (Below w5.heap.size w5 wx))
          case first =>
            by_cases hj0 : j = 0
            · have t5 : decide ((0 : Int) < (j : Int)) = false := decide_eq_false (by omega)
              have t6 : decide (0 < j) = false := decide_eq_false (by omega)
              clear hj0
              go_quiet (fail)
              go_wp2_with fail
              go_meet
              exact ⟨rfl, below_call BY.out (drewN_below _ _)⟩
            · have t5 : decide ((0 : Int) < (j : Int)) = true := decide_eq_true (by omega)
              have t6 : decide (0 < j) = true := decide_eq_true (by omega)
              obtain ⟨j0, hj1⟩ : ∃ j0, j0 = j - 1 := ⟨_, rfl⟩
              obtain ⟨h1, h2⟩ := HPV.out j0 (by omega)
              obtain ⟨O, hO⟩ : ∃ O, O = L.getD j0 0 := ⟨_, rfl⟩
              rw [← hO] at h1 h2
              have wp : IntKind.i64.wrap ((j : Int) - 1) = (j0 : Int) := by have := HNN.out; rw [IntWalk.i64_left]; unfold wrap64; omega
              have p9 : (0 : Int) ≤ (j0 : Int) := by omega
              have pa : (j0 : Int) < (N : Int) := by omega
              have pb : (0 : Int) ≤ (O : Int) := by omega
              have pc : (O : Int) < (n : Int) := by omega
              have cO : wy.cell? ⟨gl, ol + j0, none⟩ = some (.int .i64 (O : Int)) := by rw [hO]; exact FL.out _ (below_call HWL5.out BY.out) j0 (by omega)
              have rO := FR.out _ (below_call HWA5.out BY.out) O h2
              have dO := FDD.out _ (below_call HWA5.out BY.out) O h2
              have f1 := sub_wrap (HV.out.d (show O < D.length by have := HNL.out; omega)) (HV.out.d (show P < D.length by have := HNL.out; have := HPN.out; omega))
              have f2 := subr_wrap (HV.out.r (show P < D.length by have := HNL.out; have := HPN.out; omega)) (HV.out.r (show O < D.length by have := HNL.out; omega))
              rw [← HYP.out] at f1
              rw [← HXP.out] at f2
              have k1 := KS.out (D.getD O 0 - yp) (xp - R.getD O 0) F S
              rw [h1] at k1
              clear h1 h2 hj0 hj1 hO
              generalize D.getD O 0 = yo at *
              generalize R.getD O 0 = xo at *
              go_quiet ((go_at_call 14; exact Calls.quiet_of_same (k1 _)))
              go_wp2_with fail
              go_meet
              exact ⟨rfl, below_call BY.out (drewN_below _ _)⟩
          case rest =>
            obtain ⟨rfl, hX⟩ := hcut
            clear c1 c2 c3 c4 c5 c6 q0 q1
            rename World => w6
            go_wp2_with fail
            go_loopw [10] (fun u w7 => ∃ k : Nat, k ≤ n ∧ u = .int .i64 (k : Int) ∧ Hid (Below w5.heap.size w5 w7)) (fun u _ => n - (intOf u).toNat)
            case atStart => exact ⟨0, Nat.zero_le _, rfl, hX.out⟩
            case round =>
              obtain ⟨k, hk, rfl, hW3⟩ := hrel
              rename World => w7
              obtain ⟨⟨q0, q1⟩, ⟨c1, c2⟩, ⟨c3, c4⟩, c5, c6⟩ := CE.out _ hW3.out
              by_cases hlt : k < n
              · have HKN := Lib.hid hlt
                have wk : IntKind.i64.wrap ((k : Int) + 1) = ((k + 1 : Nat) : Int) := by have := HNN.out; rw [IntWalk.i64_left]; unfold wrap64; omega
                have rk := FR.out _ (below_call HWA5.out hW3.out) k hlt
                have dk := FDD.out _ (below_call HWA5.out hW3.out) k hlt
                have pk1 : (0 : Int) ≤ (k : Int) := by omega
                have pk2 : (k : Int) < (n : Int) := by omega
                have hb9 := HBW2.out k hlt
                have f1 := sub_wrap (HV.out.d (show P < D.length by have := HNL.out; have := HPN.out; omega)) (HV.out.d (show k < D.length by have := HNL.out; omega))
                have f2 := subr_wrap (HV.out.r (show k < D.length by have := HNL.out; omega)) (HV.out.r (show P < D.length by have := HNL.out; have := HPN.out; omega))
                rw [← HYP.out] at f1
                rw [← HXP.out] at f2
                have k1 := KS.out (yp - D.getD k 0) (R.getD k 0 - xp) F S
                generalize steep (yp - D.getD k 0) (R.getD k 0 - xp) F S = st at *
                generalize D.getD k 0 = yk at *
                generalize R.getD k 0 = xk at *
                have KK := Lib.hid k1
                have KF := Lib.hid (And.intro f1 f2)
                have KE2 := Lib.hid (And.intro e1 e2)
                have HB9 := Lib.hid hb9
                have KC := Lib.hid (And.intro (And.intro c3 c4) (And.intro c5 (And.intro rk dk)))
                clear k1 f1 f2 e1 e2 d1 c1 c2 c4 c5 c6 rk dk c3 hb9
                go_upto_region 21 with fail
                obtain ⟨⟨c3, c4⟩, c5, rk, dk⟩ := KC.out
                have k1 := KK.out
                obtain ⟨f1, f2⟩ := KF.out
                by_cases h1 : xp ≤ xk
                · have d2 : decide (xp ≤ xk) = true := decide_eq_true h1
                  by_cases h2 : xk ≤ xq
                  · have d3 : decide (xk ≤ xq) = true := decide_eq_true h2
                    by_cases h3 : yk < yp
                    · have d4 : decide (yk < yp) = true := decide_eq_true h3
                      have d5 : decide (0 < st) = false := decide_eq_false (by have := HB9.out h3; omega)
                      clear h1 h2 h3
                      as_aux_lemma =>
                        refine wp_region_quiet_lit (by kernel_rfl) (by kernel_rfl) ?_
                        simp only [List.append_eq, List.cons_append, List.nil_append]
                        repeat (go_big_quiet_step ((go_at_call 14; exact Calls.quiet_of_same (k1 _))))
                        refine wpQuiet_nil ?_
                        intro _ hw'
                        obtain ⟨nq, hw''⟩ := hw'
                        subst hw''
                        go_wp2_with fail
                        go_roundw
                        case rel => exact ⟨k + 1, HKN.out, by go_num, below_call hW3.out (drewN_below _ _)⟩
                        case measure => have := HKN.out; simp [intOf]; omega
                    · have d4 : decide (yk < yp) = false := decide_eq_false h3
                      clear h1 h2 h3
                      as_aux_lemma =>
                        refine wp_region_quiet_lit (by kernel_rfl) (by kernel_rfl) ?_
                        simp only [List.append_eq, List.cons_append, List.nil_append]
                        repeat (go_big_quiet_step ((go_at_call 14; exact Calls.quiet_of_same (k1 _))))
                        refine wpQuiet_nil ?_
                        intro _ hw'
                        obtain ⟨nq, hw''⟩ := hw'
                        subst hw''
                        go_wp2_with fail
                        go_roundw
                        case rel => exact ⟨k + 1, HKN.out, by go_num, below_call hW3.out (drewN_below _ _)⟩
                        case measure => have := HKN.out; simp [intOf]; omega
                  · have d3 : decide (xk ≤ xq) = false := decide_eq_false h2
                    clear h1 h2
                    as_aux_lemma =>
                      refine wp_region_quiet_lit (by kernel_rfl) (by kernel_rfl) ?_
                      simp only [List.append_eq, List.cons_append, List.nil_append]
                      repeat (go_big_quiet_step ((go_at_call 14; exact Calls.quiet_of_same (k1 _))))
                      refine wpQuiet_nil ?_
                      intro _ hw'
                      obtain ⟨nq, hw''⟩ := hw'
                      subst hw''
                      go_wp2_with fail
                      go_roundw
                      case rel => exact ⟨k + 1, HKN.out, by go_num, below_call hW3.out (drewN_below _ _)⟩
                      case measure => have := HKN.out; simp [intOf]; omega
                · have d2 : decide (xp ≤ xk) = false := decide_eq_false h1
                  clear h1
                  as_aux_lemma =>
                    refine wp_region_quiet_lit (by kernel_rfl) (by kernel_rfl) ?_
                    simp only [List.append_eq, List.cons_append, List.nil_append]
                    repeat (go_big_quiet_step ((go_at_call 14; exact Calls.quiet_of_same (k1 _))))
                    refine wpQuiet_nil ?_
                    intro _ hw'
                    obtain ⟨nq, hw''⟩ := hw'
                    subst hw''
                    go_wp2_with fail
                    go_roundw
                    case rel => exact ⟨k + 1, HKN.out, by go_num, below_call hW3.out (drewN_below _ _)⟩
                    case measure => have := HKN.out; simp [intOf]; omega
              · obtain rfl : n = k := by omega
                clear c1 c2 c3 c4 c5 c6
                go_wp2_with fail
                go_roundw
                case rel => exact ⟨j1, by have := HJN.out; omega, rfl, below_call hW.out hW3.out⟩
                case measure => have := HJN.out; have := HJ1.out; simp [intOf]; omega
        · obtain rfl : N = j1 := by omega
          have hNj : N - 1 = j := by omega
          have c1 := FL.out _ hWL j (by omega)
          have wN : IntKind.i64.wrap ((N : Int) - 1) = (j : Int) := by have := HNN.out; rw [IntWalk.i64_left]; unfold wrap64; omega
          have hls := HLS.out
          rw [hNj] at hls
          have hpn := HLT.out j (by omega)
          generalize L.getD j 0 = P at *
          have c2 := FDD.out _ hWA2 P hpn
          have p1 : (0 : Int) ≤ (P : Int) := by omega
          have p2 : (P : Int) < (n : Int) := by omega
          have p5 : (0 : Int) ≤ (j : Int) := by omega
          have p6 : (j : Int) < (N : Int) := by omega
          have HLS2 := Lib.hid hls
          have HWA5 := Lib.hid hWA2
          clear hNj hls hpn hWA2 hWL hj hj1 hlt
          generalize hyp : D.getD P 0 = yp at *
          clear hyp
          go_wp2_with fail
          go_quiet (fail)
          have BZ := Lib.hid (drewN_below w5 nq)
          generalize w5.drewN nq = wz at *
          clear q0 q1 c1 c2
          go_wp2_with fail
          go_loopw [12] (fun u w7 => ∃ k : Nat, k ≤ n ∧ u = .int .i64 (k : Int) ∧ w7 = wz) (fun u _ => n - (intOf u).toNat)
          case atStart => exact ⟨0, Nat.zero_le _, rfl, rfl⟩
          case round =>
            obtain ⟨k, hk, rfl, rfl⟩ := hrel
            rename World => w7
            obtain ⟨q0, q1⟩ := FD.out _ (below_call HWA5.out BZ.out)
            by_cases hlt : k < n
            · have HKN := Lib.hid hlt
              have wk : IntKind.i64.wrap ((k : Int) + 1) = ((k + 1 : Nat) : Int) := by have := HNN.out; rw [IntWalk.i64_left]; unfold wrap64; omega
              have dk := FDD.out _ (below_call HWA5.out BZ.out) k hlt
              have pk1 : (0 : Int) ≤ (k : Int) := by omega
              have pk2 : (k : Int) < (n : Int) := by omega
              have hge := HLS2.out k hlt
              generalize D.getD k 0 = yk at *
              have d2 : ¬ yk < yp := by omega
              clear hge
              go_wp2_with fail
              go_roundw
              case rel => exact ⟨k + 1, HKN.out, by go_num, (by first | trivial | rfl)⟩
              case measure => have := HKN.out; simp [intOf]; omega
            · obtain rfl : n = k := by omega
              go_wp2_with (first | (go_at_call 11; (with_reducible refine (KE.out _).mono ?_); rintro e w9 ⟨rfl, hb9⟩; have B9 := Lib.hid (below_call (below_call HB.out (below_call HWA5.out BZ.out)) hb9); clear hb9) | fail)
              go_ret
              exact ⟨rfl, B9.out⟩
end Go.Proofs.Ytoipgaolbjegnaa
