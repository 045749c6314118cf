/-
  Layer 20: the statement HullBest on a valid curve.
-/
import Derived.Test.YtoipgaolbjegnaaIe
import Derived.Test.YtoipgaolbjegnaaIg
set_option maxRecDepth 100000
namespace Go.Proofs.Ytoipgaolbjegnaa
open Go.RowKit

set_option maxHeartbeats 16000000 in
theorem hb_y (R D : List Int) (hv : VP R D) (n mr md : Nat) (sr sd : Option Addr) (d r : Int) (hd : okD d) (hr : okR r) (hr0 : r ≠ 0) (W : World) (hR : HoldsI W sr R) (hD : HoldsI W sd D) (hn : n = D.length) :
    Calls Try.prog 9 #[.agg #[.slice sr n mr, .slice sd n md], .int .i64 d, .int .i64 r] W fun e w' => e = .returned (.bool true) ∧ Below W.heap.size W w' := by
  obtain ⟨b2, off2, rfl, -⟩ := hD.at (show 0 < D.length by have := hv.1; have := hv.2.1; omega)
  obtain ⟨b3, off3, rfl, -⟩ := hR.at (show 0 < R.length by have := hv.2.1; omega)
  obtain ⟨WA, hWA⟩ : ∃ x, x = W.alloc (.cells #[.slice (some ⟨b3, off3, none⟩) n mr, .slice (some ⟨b2, off2, none⟩) n md] 24) := ⟨_, rfl⟩
  have hB : Below W.heap.size W WA := by rw [hWA]; exact below_alloc (Below.refl _ W) _
  have hX : Blk WA W.heap.size 24 #[.slice (some ⟨b3, off3, none⟩) n mr, .slice (some ⟨b2, off2, none⟩) n md] := by rw [hWA]; exact Blk.new W _ _
  have hRA := hR.below hB (Nat.le_refl _)
  have hDA := hD.below hB (Nat.le_refl _)
  have hnr : n = R.length := by rw [hn]; exact hv.1
  have kv := zvalid_c R D n n mr md _ _ WA hRA hDA hnr hn
  rw [decide_eq_true hv] at kv
  have kp := fun (W1 : World) (hb : Below WA.heap.size WA W1) => hpoints_c R D n n mr md _ _ W1 (hRA.call hb) (hDA.call hb) hnr hn
  rw [if_pos hv] at kp
  obtain ⟨L, hL⟩ : ∃ L, L = hull R D := ⟨_, rfl⟩
  rw [← hL] at kp
  obtain ⟨N, hN⟩ : ∃ N, N = L.length := ⟨_, rfl⟩
  unfold GivesI at kp
  rw [nats_len, ← hN] at kp
  have hpos : 1 ≤ N ∧ L.getD 0 0 = 0 := by rw [hN, hL]; exact hull_pos R D
  have hNn : N ≤ n ∧ n ≤ 179 := by
    have h1 := hull_len hv
    have := hv.1
    have := hv.2.2.1
    rw [← hL, ← hN] at h1
    omega
  have hlt : ∀ i, i < N → L.getD i 0 < n := fun i hi => by rw [hN] at hi; rw [hL] at hi ⊢; rw [hn]; exact hull_lt hv hi
  have hstep : ∀ i, i + 1 < N → L.getD i 0 < L.getD (i + 1) 0 ∧ D.getD (L.getD (i + 1) 0) 0 < D.getD (L.getD i 0) 0 := fun i hi => by
    rw [hN] at hi; rw [hL] at hi ⊢; exact ⟨(hull_step hv hi).2.1, (hull_step hv hi).2.2.2⟩
  obtain ⟨q0, q1⟩ := cv2 hX
  have fd : ∀ W1 : World, Below WA.heap.size WA W1 → W1.cell? ⟨W.heap.size, 0, none⟩ = some (.slice (some ⟨b3, off3, none⟩) n mr) ∧ W1.cell? ⟨W.heap.size, 1, none⟩ = some (.slice (some ⟨b2, off2, none⟩) n md) := fun W1 hb => cv2 (hX.below hb)
  have fr : ∀ W1 : World, Below WA.heap.size WA W1 → ∀ i, i < n → W1.cell? ⟨b3, off3 + i, none⟩ = some (.int .i64 (R.getD i 0)) := fun W1 hb i hi => (hRA.call hb).of (by omega)
  have fdd : ∀ W1 : World, Below WA.heap.size WA W1 → ∀ i, i < n → W1.cell? ⟨b2, off2 + i, none⟩ = some (.int .i64 (D.getD i 0)) := fun W1 hb i hi => (hDA.call hb).of (by omega)
  have HB := Lib.hid hB
  have HWA := Lib.hid hWA
  have KP := Lib.hid kp
  have FD := Lib.hid fd
  have FR := Lib.hid fr
  have FDD := Lib.hid fdd
  have HV := Lib.hid hv
  have HPOS := Lib.hid hpos
  have HNN := Lib.hid hNn
  have HLT := Lib.hid hlt
  have HST := Lib.hid hstep
  have HNL := Lib.hid hn
  have HLE := Lib.hid hL
  have HNE := Lib.hid hN
  have hbe : bestI R D d r = (bst R D d r : Int) := by unfold bestI; rw [if_pos ⟨hv, hd, hr, hr0⟩]
  have hb0 : bestI R D 0 1 = ((L.getD (N - 1) 0 : Nat) : Int) := by
    unfold bestI; rw [if_pos ⟨hv, by decide, by decide, by decide⟩, bst_zero hv, ← hL, ← hN]
  have kb := fun (dd rr : Int) (W1 : World) (hb : Below WA.heap.size WA W1) => hbest_c R D n n mr md dd rr _ _ W1 (hRA.call hb) (hDA.call hb) hnr hn
  have KB := Lib.hid kb
  have kb1 := kb d r
  rw [hbe] at kb1
  have KB1 := Lib.hid kb1
  have kb0 := kb 0 1
  rw [hb0] at kb0
  have KB0 := Lib.hid kb0
  have hmin : ∀ k, k < n → cost R D d r (bst R D d r) ≤ cost R D d r k := fun k hk => ((bsF_first R D d r D.length).2 k (by omega)).1
  have hbl : bst R D d r < n := by rw [hn]; exact bst_lt hv d r
  have hin : ∃ i, i < (nats L).length ∧ (nats L).getD i 0 = ((bst R D d r : Nat) : Int) := by
    obtain ⟨m, h1, h2⟩ := bst_hull hv (d := d) (r := r) hd.1 (by unfold okR at hr; omega)
    exact ⟨m, by rw [nats_len, hL]; exact h1, by rw [nats_get, hL, h2]⟩
  have hsl : ∀ i, i + 1 < N → 0 < R.getD (L.getD (i + 1) 0) 0 - R.getD (L.getD i 0) 0 → bestI R D (D.getD (L.getD i 0) 0 - D.getD (L.getD (i + 1) 0) 0) (R.getD (L.getD (i + 1) 0) 0 - R.getD (L.getD i 0) 0) = ((L.getD i 0 : Nat) : Int) := fun i hi h0 => by
    rw [hN] at hi; rw [hL] at hi h0 ⊢
    have h1 := bst_slope hv hi h0
    obtain ⟨-, h2, h3⟩ := hF_ok hv hi
    unfold hF hI fl inc at h1
    unfold hF fl at h2
    unfold hI inc at h3
    unfold bestI; rw [if_pos ⟨hv, h2, h3, by omega⟩, h1]
  have HMIN := Lib.hid hmin
  have HBL := Lib.hid hbl
  have HIN := Lib.hid hin
  have HSL := Lib.hid hsl
  have hcw := fun (i : Nat) (hi : i < n) => cost_wrap hv hd hr (show i < D.length by omega)
  have HCW := Lib.hid hcw
  have ke := ex20_c
  have KE := Lib.hid ke
  have g1 : decide (d < 0) = false := decide_eq_false (by have := hd.1; omega)
  have g2 : decide (70368744177664 < d) = false := decide_eq_false (by have := hd.2; omega)
  have g3 : decide (r < 1) = false := decide_eq_false (by have := hr.1; omega)
  have g4 : decide (65535 < r) = false := decide_eq_false (by have := hr.2; omega)
  obtain ⟨b, hb⟩ : ∃ b, b = bst R D d r := ⟨_, rfl⟩
  rw [← hb] at KB1 HMIN HBL HIN hbl
  have g5 : decide ((b : Int) < 0) = false := decide_eq_false (by omega)
  have g6 : decide ((n : Int) ≤ (b : Int)) = false := decide_eq_false (by omega)
  have g7 : decide (n ≤ b) = false := decide_eq_false (by omega)
  clear kb kb1 kb0 hmin hbl hin hsl hcw ke hbe hb0 hd hr hr0 hv hb
  rw [hWA] at kv q0 q1
  clear hB hX hRA hDA hnr kp fd fr fdd hpos hNn hlt hstep hWA hR hD hn hL hN
  go_enter Try.func9, Try.ntmps9
  go_wp2_with (first | (go_at_call 13; (with_reducible refine kv.mono ?_); rintro e w1 ⟨rfl, hb⟩; have B1 := Lib.hid (show Below WA.heap.size WA w1 by rw [HWA.out]; exact hb); obtain ⟨q0, q1⟩ := FD.out _ B1.out; have kp := KP.out _ B1.out; clear hb) | (go_at_call 17; (with_reducible refine kp.mono ?_); rintro e w2 ⟨s2, m2, rfl, hh2, hb2⟩; obtain ⟨gl, ol, rfl, -⟩ := hh2.at (show 0 < (nats L).length by rw [nats_len, ← HNE.out]; exact HPOS.out.1); have H2 := Lib.hid hh2; have B2 := Lib.hid (below_call B1.out hb2); obtain ⟨q0, q1⟩ := FD.out _ B2.out; have kb1 := KB1.out _ B2.out; clear hb2 hh2) | (go_at_call 19; (with_reducible refine kb1.mono ?_); rintro e w3 ⟨rfl, hb3⟩; have B3 := Lib.hid (below_call B2.out hb3); have C3 := Lib.hid hb3; obtain ⟨q0, q1⟩ := FD.out _ B3.out; have ki := in_c (nats L) (some ⟨gl, ol, none⟩) m2 (b : Int) w3 (H2.out.call hb3) (by rw [nats_len, ← HNE.out]; have := HNN.out; omega) HIN.out; rw [nats_len, ← HNE.out] at ki; clear hb3) | (go_at_call 21; (with_reducible refine ki.mono ?_); rintro e w4 ⟨rfl, hb4⟩; have B4 := Lib.hid (below_call B3.out hb4); have C4 := Lib.hid (below_call C3.out hb4); obtain ⟨q0, q1⟩ := FD.out _ B4.out; clear hb4) | fail)
  have fl : ∀ W1 : World, Below w2.heap.size w2 W1 → ∀ i, i < N → W1.cell? ⟨gl, ol + i, none⟩ = some (.int .i64 ((L.getD i 0 : Nat) : Int)) := fun W1 hb i hi => by
      have := (H2.out.call hb).of (show i < (nats L).length by rw [nats_len, ← HNE.out]; exact hi)
      rw [nats_get] at this
      exact this
  have FL := Lib.hid fl
  clear fl
  clear q0 q1 kv kp kb1 ki
  go_loopw [9] (fun u wr => ∃ k : Nat, k ≤ n ∧ u = .int .i64 (k : Int) ∧ Hid (Below w4.heap.size w4 wr)) (fun u _ => n - (intOf u).toNat)
  case atStart => exact ⟨0, Nat.zero_le _, rfl, Below.refl _ _⟩
  case round =>
    obtain ⟨k, hk, rfl, hW⟩ := hrel
    have hWA2 : Below WA.heap.size WA wr := below_call B4.out hW.out
    obtain ⟨q0, q1⟩ := FD.out _ hWA2
    by_cases hlt : k < n
    · have HLTK := Lib.hid hlt
      have wk : IntKind.i64.wrap ((k : Int) + 1) = ((k + 1 : Nat) : Int) := by have := HNN.out; rw [IntWalk.i64_left]; unfold wrap64; omega
      have rk := FR.out _ hWA2 k hlt
      have rb := FR.out _ hWA2 b HBL.out
      have dk := FDD.out _ hWA2 k hlt
      have db := FDD.out _ hWA2 b HBL.out
      obtain ⟨e1, e2, e3⟩ := HCW.out k hlt
      obtain ⟨f1, f2, f3⟩ := HCW.out b HBL.out
      have k1 : (0 : Int) ≤ (k : Int) := by omega
      have k2 : (k : Int) < (n : Int) := by omega
      have b1 : (0 : Int) ≤ (b : Int) := by omega
      have b4 : (b : Int) < (n : Int) := by have := HBL.out; omega
      have hc := HMIN.out k hlt
      have tc : decide (cost R D d r k < cost R D d r b) = false := decide_eq_false (by omega)
      clear hc hWA2
      generalize cost R D d r k = x at *
      generalize cost R D d r b = y at *
      generalize R.getD k 0 = xk at *
      generalize R.getD b 0 = xb at *
      generalize D.getD k 0 = yk at *
      generalize D.getD b 0 = yb at *
      go_wp2_with fail
      go_quiet (fail)
      go_wp2_with fail
      go_roundw
      case rel => exact ⟨k + 1, HLTK.out, by go_num, below_call hW.out (drewN_below _ _)⟩
      case measure => have := HLTK.out; simp [intOf]; omega
    · obtain rfl : n = k := by omega
      have D4 := Lib.hid (below_call C4.out hW.out)
      have E4 := Lib.hid hWA2
      clear hW hWA2 hlt
      go_wp2_with fail
      clear q0 q1
      go_loopw [10] (fun u w5 => ∃ j : Nat, j + 1 ≤ N ∧ u = .int .i64 (j : Int) ∧ Hid (Below wr.heap.size wr w5)) (fun u _ => N - (intOf u).toNat)
      case atStart => exact ⟨0, HPOS.out.1, rfl, Below.refl _ _⟩
      case round =>
        obtain ⟨j, hj, rfl, hW⟩ := hrel
        rename World => w5
        have hWA2 : Below WA.heap.size WA w5 := below_call E4.out hW.out
        have hWL : Below w2.heap.size w2 w5 := below_call D4.out hW.out
        obtain ⟨q0, q1⟩ := FD.out _ hWA2
        obtain ⟨j1, hj1⟩ : ∃ j1, j1 = j + 1 := ⟨_, rfl⟩
        have wj : IntKind.i64.wrap ((j : Int) + 1) = (j1 : Int) := by have := HNN.out; rw [IntWalk.i64_left]; unfold wrap64; omega
        have HJ1 := Lib.hid hj1
        by_cases hlt : j1 < N
        · have HJN := Lib.hid hlt
          obtain ⟨P, hP⟩ : ∃ P, P = L.getD j 0 := ⟨_, rfl⟩
          obtain ⟨Q, hQ⟩ : ∃ Q, Q = L.getD j1 0 := ⟨_, rfl⟩
          have hpn : P < n := by rw [hP]; exact HLT.out j (by omega)
          have hqn : Q < n := by rw [hQ]; exact HLT.out j1 hlt
          have hpq := HST.out j (by omega)
          rw [← hj1, ← hP, ← hQ] at hpq
          have hsl := HSL.out j (by omega)
          rw [← hj1, ← hP, ← hQ] at hsl
          have cells : ∀ W1 : World, Below w5.heap.size w5 W1 → (W1.cell? ⟨W.heap.size, 0, none⟩ = some (.slice (some ⟨b3, off3, none⟩) n mr) ∧ W1.cell? ⟨W.heap.size, 1, none⟩ = some (.slice (some ⟨b2, off2, none⟩) n md)) ∧ (W1.cell? ⟨gl, ol + j, none⟩ = some (.int .i64 (P : Int)) ∧ W1.cell? ⟨gl, ol + j1, none⟩ = some (.int .i64 (Q : Int))) ∧ (W1.cell? ⟨b3, off3 + P, none⟩ = some (.int .i64 (R.getD P 0)) ∧ W1.cell? ⟨b3, off3 + Q, none⟩ = some (.int .i64 (R.getD Q 0))) ∧ W1.cell? ⟨b2, off2 + P, none⟩ = some (.int .i64 (D.getD P 0)) ∧ W1.cell? ⟨b2, off2 + Q, none⟩ = some (.int .i64 (D.getD Q 0)) := fun W1 hb1 => by
            have h1 := below_call hWA2 hb1
            have h2 := below_call hWL hb1
            refine ⟨FD.out _ h1, ⟨?_, ?_⟩, ⟨FR.out _ h1 P hpn, FR.out _ h1 Q hqn⟩, FDD.out _ h1 P hpn, FDD.out _ h1 Q hqn⟩
            · rw [hP]; exact FL.out _ h2 j (by omega)
            · rw [hQ]; exact FL.out _ h2 j1 hlt
          have CE := Lib.hid cells
          have HWA5 := Lib.hid hWA2
          have e1 := sub_wrap (HV.out.d (show P < D.length by have := HNL.out; omega)) (HV.out.d (show Q < D.length by have := HNL.out; omega))
          have e2 := subr_wrap (HV.out.r (show Q < D.length by have := HNL.out; omega)) (HV.out.r (show P < D.length by have := HNL.out; omega))
          have t1 : decide ((P : Int) < 0) = false := decide_eq_false (by omega)
          have t2 : decide ((n : Int) ≤ (Q : Int)) = false := decide_eq_false (by omega)
          have t3 : decide ((Q : Int) ≤ (P : Int)) = false := decide_eq_false (by omega)
          have t4 : decide (n ≤ Q) = false := decide_eq_false (by omega)
          have t5 : decide (Q ≤ P) = false := decide_eq_false (by omega)
          have p1 : (0 : Int) ≤ (P : Int) := by omega
          have p2 : (P : Int) < (n : Int) := by omega
          have p3 : (0 : Int) ≤ (Q : Int) := by omega
          have p4 : (Q : Int) < (n : Int) := by omega
          have p5 : (0 : Int) ≤ (j : Int) := by omega
          have p6 : (j : Int) < (N : Int) := by omega
          have p7 : (0 : Int) ≤ (j1 : Int) := by omega
          have p8 : (j1 : Int) < (N : Int) := by omega
          obtain ⟨F, hF⟩ : ∃ F, F = D.getD P 0 - D.getD Q 0 := ⟨_, rfl⟩
          obtain ⟨S, hS⟩ : ∃ S, S = R.getD Q 0 - R.getD P 0 := ⟨_, rfl⟩
          replace e1 := e1.trans hF.symm
          replace e2 := e2.trans hS.symm
          rw [← hF, ← hS] at hsl
          have kbs := KB.out F S
          clear hF hS
          have KBS := Lib.hid kbs
          have HSS := Lib.hid hsl
          obtain ⟨-, ⟨c1, c2⟩, ⟨c3, c4⟩, c5, c6⟩ := cells w5 (Below.refl _ _)
          have hpp : ((P : Int) != (P : Int)) = false := by simp
          generalize D.getD P 0 = yp at *
          generalize D.getD Q 0 = yq at *
          generalize R.getD P 0 = xp at *
          generalize R.getD Q 0 = xq at *
          clear hP hQ hpn hqn hpq hsl cells hWA2 hWL hj hj1 kbs hlt
          go_wp2_with fail
          go_quiet (fail)
          have BZ := Lib.hid (drewN_below w5 nq)
          generalize w5.drewN nq = wz at *
          obtain ⟨⟨q0, q1⟩, ⟨c1, c2⟩, ⟨c3, c4⟩, c5, c6⟩ := CE.out _ BZ.out
          go_wp2_with fail
          go_quiet (fail)
          have BY := Lib.hid (below_call BZ.out (drewN_below wz nq))
          generalize wz.drewN nq = wy at *
          obtain ⟨⟨q0, q1⟩, ⟨c1, c2⟩, ⟨c3, c4⟩, c5, c6⟩ := CE.out _ BY.out
          by_cases h0 : 0 < S
          · have td : decide (0 < S) = true := decide_eq_true h0
            have kbs := KBS.out wy.drew (below_call HWA5.out BY.out).drew
            rw [HSS.out h0] at kbs
            have z0 : wy.drew.cell? ⟨W.heap.size, 0, none⟩ = some (.slice (some ⟨b3, off3, none⟩) n mr) ∧ wy.drew.cell? ⟨W.heap.size, 1, none⟩ = some (.slice (some ⟨b2, off2, none⟩) n md) ∧ wy.drew.cell? ⟨gl, ol + j, none⟩ = some (.int .i64 (P : Int)) := ⟨q0, q1, c1⟩
            clear c1 c2 c3 c4 c5 c6 q0 q1
            go_wp2_with fail
            go_region_held3 (fun w' => w'.cell? ⟨W.heap.size, 0, none⟩ = some (.slice (some ⟨b3, off3, none⟩) n mr) ∧ w'.cell? ⟨W.heap.size, 1, none⟩ = some (.slice (some ⟨b2, off2, none⟩) n md) ∧ w'.cell? ⟨gl, ol + j, none⟩ = some (.int .i64 (P : Int)))
              (first | (with_reducible exact z0) | (with_reducible exact z1) | fail)
              (first | (go_simp; go_at_call 19; (with_reducible refine kbs.mono ?_); rintro e w6 ⟨rfl, hb6⟩; have B6 := Lib.hid (below_call (below_call BY.out (Below.refl _ _).drew) hb6); obtain ⟨⟨q0, q1⟩, ⟨c1, c2⟩, ⟨c3, c4⟩, c5, c6⟩ := CE.out _ B6.out; have z1 : w6.cell? ⟨W.heap.size, 0, none⟩ = some (.slice (some ⟨b3, off3, none⟩) n mr) ∧ w6.cell? ⟨W.heap.size, 1, none⟩ = some (.slice (some ⟨b2, off2, none⟩) n md) ∧ w6.cell? ⟨gl, ol + j, none⟩ = some (.int .i64 (P : Int)) := ⟨q0, q1, c1⟩; clear hb6) | fail)
            all_goals
              go_wp2_with fail
              go_roundw
              case rel => exact ⟨j1, by have := HJN.out; omega, rfl, below_call hW.out B6.out⟩
              case measure => have := HJN.out; have := HJ1.out; simp [intOf]; omega
          · have td : decide (0 < S) = false := decide_eq_false h0
            go_wp2_with fail
            go_quiet (fail)
            go_wp2_with fail
            go_roundw
            case rel => exact ⟨j1, by have := HJN.out; omega, rfl, below_call hW.out (below_call BY.out (drewN_below _ _))⟩
            case measure => have := HJN.out; have := HJ1.out; simp [intOf]; omega
        · obtain rfl : N = j1 := by omega
          have hNj : N - 1 = j := by omega
          have kb0 := KB0.out w5.drew hWA2.drew
          have c1 := FL.out _ hWL j (by omega)
          rw [hNj] at kb0
          have wN : IntKind.i64.wrap ((N : Int) - 1) = (j : Int) := by have := HNN.out; rw [IntWalk.i64_left]; unfold wrap64; omega
          obtain ⟨P, hP⟩ : ∃ P, P = L.getD j 0 := ⟨_, rfl⟩
          rw [← hP] at kb0 c1
          have hpp : ((P : Int) == (P : Int)) = true := by simp
          have p5 : (0 : Int) ≤ (j : Int) := by omega
          have p6 : (j : Int) < (N : Int) := by omega
          have z0 : w5.drew.cell? ⟨W.heap.size, 0, none⟩ = some (.slice (some ⟨b3, off3, none⟩) n mr) ∧ w5.drew.cell? ⟨W.heap.size, 1, none⟩ = some (.slice (some ⟨b2, off2, none⟩) n md) ∧ w5.drew.cell? ⟨gl, ol + j, none⟩ = some (.int .i64 (P : Int)) := ⟨q0, q1, c1⟩
          have HWA5 := Lib.hid hWA2
          have c8 : ∀ W1 : World, Below w5.heap.size w5 W1 → W1.cell? ⟨gl, ol + j, none⟩ = some (.int .i64 (P : Int)) := fun W1 hb1 => by rw [hP]; exact FL.out _ (below_call hWL hb1) j (by omega)
          have C8 := Lib.hid c8
          clear c1 hP hNj hWA2 hWL c8 hj hj1 hlt q0 q1
          go_wp2_with fail
          go_region_held3 (fun w' => w'.cell? ⟨W.heap.size, 0, none⟩ = some (.slice (some ⟨b3, off3, none⟩) n mr) ∧ w'.cell? ⟨W.heap.size, 1, none⟩ = some (.slice (some ⟨b2, off2, none⟩) n md) ∧ w'.cell? ⟨gl, ol + j, none⟩ = some (.int .i64 (P : Int)))
            (first | (with_reducible exact z0) | (with_reducible exact z1) | (with_reducible exact z2) | fail)
            (first | (go_simp; go_at_call 19; (with_reducible refine kb0.mono ?_); rintro e w6 ⟨rfl, hb6⟩; have B6 := Lib.hid (below_call (Below.refl w5.heap.size w5).drew hb6); have A6 := Lib.hid (below_call HWA5.out B6.out); obtain ⟨q0, q1⟩ := FD.out _ A6.out; have z1 : w6.cell? ⟨W.heap.size, 0, none⟩ = some (.slice (some ⟨b3, off3, none⟩) n mr) ∧ w6.cell? ⟨W.heap.size, 1, none⟩ = some (.slice (some ⟨b2, off2, none⟩) n md) ∧ w6.cell? ⟨gl, ol + j, none⟩ = some (.int .i64 (P : Int)) := ⟨q0, q1, C8.out _ B6.out⟩; clear hb6 q0 q1) | (go_simp; go_at_call 11; (with_reducible refine (KE.out _).mono ?_); rintro e w7 ⟨rfl, hb7⟩; have B7 := Lib.hid (below_call B6.out hb7); have A7 := Lib.hid (below_call A6.out hb7); obtain ⟨q0, q1⟩ := FD.out _ A7.out; have z2 : w7.cell? ⟨W.heap.size, 0, none⟩ = some (.slice (some ⟨b3, off3, none⟩) n mr) ∧ w7.cell? ⟨W.heap.size, 1, none⟩ = some (.slice (some ⟨b2, off2, none⟩) n md) ∧ w7.cell? ⟨gl, ol + j, none⟩ = some (.int .i64 (P : Int)) := ⟨q0, q1, C8.out _ B7.out⟩; clear hb7 q0 q1) | fail)
          all_goals
            go_wp2_with fail
            go_ret
            exact ⟨rfl, below_call HB.out A7.out⟩
end Go.Proofs.Ytoipgaolbjegnaa
