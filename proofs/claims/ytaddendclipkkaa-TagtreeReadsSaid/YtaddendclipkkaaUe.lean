/-
  Layer 10: the reference's minima, walked.
-/
import Derived.Test.YtaddendclipkkaaUd
import Derived.BigRegion
set_option maxRecDepth 100000
namespace Go.Proofs.Ytaddendclipkkaa
open Go.RowKit

/-- The children that were gone through. -/
def vs (x y : Nat) : Nat → Nat → Prop := fun a b => b < y ∨ (b = y ∧ a < x)
theorem div_mod_ix {w h k i a1 : Nat} (ha : dm w k = a1) (_h0 : 0 < a1) : ix w h k (i % a1) (i / a1) = bs w h k + i := by
  unfold ix
  rw [ha, Nat.mul_comm]
  have := Nat.div_add_mod i a1
  omega
theorem fil_next {Q : Nat → Nat → Nat → Nd} {K i a1 : Nat} {v : Int} (hf : ∀ X Y, X < a1 → Y * a1 + X < i → (Q K X Y).v = v) (X Y : Nat) (hX : X < a1) (hi : Y * a1 + X < i + 1) :
    (upN Q K (i % a1) (i / a1) ⟨v, (Q K (i % a1) (i / a1)).l, (Q K (i % a1) (i / a1)).b⟩ K X Y).v = v := by
  unfold upN
  by_cases he : X = i % a1 ∧ Y = i / a1
  · rw [if_pos ⟨rfl, he⟩]
  · rw [if_neg (fun c => he c.2)]
    refine hf X Y hX ?_
    have hne : Y * a1 + X ≠ i := fun e => by
      refine he ⟨?_, ?_⟩
      · rw [← e, Nat.mul_comm, Nat.mul_add_mod, Nat.mod_eq_of_lt hX]
      · rw [← e, Nat.mul_comm, Nat.mul_add_div (by omega), Nat.div_eq_of_lt hX]; omega
    omega
theorem idx_wraps {n2 y2 a1 x2 ii N : Nat} (h1 : ii = n2 + (y2 * a1 + x2)) (h2 : ii < N) (h3 : N ≤ 17 * 65536) :
    IntKind.i64.wrap ((y2 : Int) * (a1 : Int)) = ((y2 * a1 : Nat) : Int) ∧ IntKind.i64.wrap ((n2 : Int) + ((y2 * a1 : Nat) : Int)) = ((n2 + y2 * a1 : Nat) : Int) ∧ IntKind.i64.wrap (((n2 + y2 * a1 : Nat) : Int) + (x2 : Int)) = (ii : Int) := by
  rw [← Int.natCast_mul]
  generalize y2 * a1 = P at *
  refine ⟨?_, ?_, ?_⟩ <;> rw [IntWalk.i64_left] <;> unfold wrap64 <;> omega
set_option maxHeartbeats 8000000
theorem minima_c {W : World} {B b g w h D : Nat} {u : Int} {Q : Nat → Nat → Nat → Nd} (H : Ur W B b g w h D u Q) : Calls Try.prog 66 #[.pointer (some ⟨b, 0, none⟩)] W fun e w' => e = .returned (.tuple #[]) ∧ Ur w' B b g w h D u (minQ w h Q) ∧ Kf (Uf b g) W w' := by
  obtain ⟨c0, c1, c2, _⟩ := H.cells
  have HH := Lib.hid H
  have hd := H.dd
  have HD := Lib.hid hd
  have MORE := Lib.hid (fun k (hk : k + 1 < D) => dep_more (k := k) H.w1 H.h1 H.ws H.hs (by rw [← H.d]; exact hk))
  have HB : Hid (1 ≤ w ∧ 1 ≤ h ∧ w * h ≤ 65536 ∧ w ≤ 65536 ∧ h ≤ 65536) := Lib.hid ⟨H.w1, H.h1, H.sz, H.ws, H.hs⟩
  have HBS := Lib.hid (fun k (hk : k ≤ 17) => Nat.le_trans (bs_le H.w1 H.h1 H.sz k) (Nat.mul_le_mul_right _ hk))
  have FIN := Lib.hid (fun (X : World) (Q' : Nat → Nat → Nat → Nd) (h1 : Ur X B b g w h D u Q') (h2 : Mo w h D (D - 1) Q Q') => mo_end h1 h2 H.vb H.qb)
  have VB := Lib.hid H.vb
  have HN := Lib.hid H.size
  clear H hd
  go_enter Try.func66, Try.ntmps66
  go_upto_region 0 with fail
  go_quiet (fail)
  go_wp2_with fail
  have S0 : Hid (Ur (W.drewN nq) B b g w h D u Q ∧ Kf (Uf b g) W (W.drewN nq)) := Lib.hid ⟨HH.out.below (drewN_below _ nq), Kf.of_below _ (drewN_below _ nq)⟩
  generalize W.drewN nq = W1 at *
  clear c0 c1 c2 HH
  have hmn := hmn
  go_loopw [2, 3, 4] (fun a c z wr => ∃ (k : Nat) (Q' : Nat → Nat → Nat → Nd), k < D ∧ a = .int .i64 ((dm w k : Nat) : Int) ∧ c = .int .i64 ((dm h k : Nat) : Int) ∧ z = .int .i64 ((bs w h k : Nat) : Int) ∧ Hid (Ur wr B b g w h D u Q' ∧ Mo w h D k Q Q' ∧ Kf (Uf b g) W wr)) (fun a c _ _ => (intOf a + intOf c).toNat)
  case atStart => exact ⟨0, Q, by have := HD.out.1; omega, rfl, rfl, rfl, S0.out.1, Mo.first, S0.out.2⟩
  case round =>
    obtain ⟨k, Q0, hk, rfl, rfl, rfl, hT⟩ := hrel
    have q1 := dm_pos HB.out.1 k
    have q2 := dm_pos HB.out.2.1 k
    have q3 := dm_le HB.out.1 k
    have q4 := dm_le HB.out.2.1 k
    have q5 : dm w k * dm h k ≤ 65536 := Nat.le_trans (Nat.mul_le_mul q3 q4) HB.out.2.2.1
    have q6 : dm w k ≤ 65536 := by have := HB.out; omega
    have q7 : dm h k ≤ 65536 := by have := HB.out; omega
    have wm : IntKind.i64.wrap (((dm w k : Nat) : Int) * ((dm h k : Nat) : Int)) = ((dm w k * dm h k : Nat) : Int) := by rw [← Int.natCast_mul, IntWalk.i64_left]; generalize dm w k * dm h k = P at *; unfold wrap64; omega
    by_cases hlt : k + 1 < D
    · have hm := MORE.out k hlt
      have w1 : IntKind.i64.wrap (((dm w k : Nat) : Int) + 1) = ((dm w k : Nat) : Int) + 1 := by rw [IntWalk.i64_left]; unfold wrap64; omega
      have w2 : IntKind.i64.wrap (((dm h k : Nat) : Int) + 1) = ((dm h k : Nat) : Int) + 1 := by rw [IntWalk.i64_left]; unfold wrap64; omega
      have e1 : (((dm w k : Nat) : Int) + 1) / 2 = ((dm w (k + 1) : Nat) : Int) := by show _ = (((dm w k + 1) / 2 : Nat) : Int); omega
      have e2 : (((dm h k : Nat) : Int) + 1) / 2 = ((dm h (k + 1) : Nat) : Int) := by show _ = (((dm h k + 1) / 2 : Nat) : Int); omega
      have r0 := dm_pos HB.out.1 (k + 1)
      have r1 := dm_le HB.out.1 (k + 1)
      have r2 := dm_le HB.out.2.1 (k + 1)
      have r5 : dm w (k + 1) * dm h (k + 1) ≤ 65536 := Nat.le_trans (Nat.mul_le_mul r1 r2) HB.out.2.2.1
      have r6 : dm w (k + 1) ≤ 65536 := by have := HB.out; omega
      have r7 : dm h (k + 1) ≤ 65536 := by have := HB.out; omega
      have wm2 : IntKind.i64.wrap (((dm w (k + 1) : Nat) : Int) * ((dm h (k + 1) : Nat) : Int)) = ((dm w (k + 1) * dm h (k + 1) : Nat) : Int) := by rw [← Int.natCast_mul, IntWalk.i64_left]; generalize dm w (k + 1) * dm h (k + 1) = P at *; unfold wrap64; omega
      have hbs := HBS.out (k + 1) (by have := HD.out.2.1; omega)
      have hbs0 := HBS.out k (by have := HD.out.2.1; omega)
      have hbs2 := HBS.out (k + 2) (by have := HD.out.2.1; omega)
      have hD17 := HD.out.2.1
      have EI : Hid (bs w h (k + 1) = bs w h k + dm w k * dm h k) := Lib.hid rfl
      have EI2 : Hid (bs w h (k + 2) = bs w h (k + 1) + dm w (k + 1) * dm h (k + 1)) := Lib.hid rfl
      have EM : Hid (bs w h (k + 2) ≤ bs w h D) := Lib.hid (bs_mono HB.out.1 HB.out.2.1 (by omega))
      have wn : IntKind.i64.wrap (((bs w h k : Nat) : Int) + ((dm w k * dm h k : Nat) : Int)) = ((bs w h (k + 1) : Nat) : Int) := by rw [EI.out, IntWalk.i64_left]; generalize dm w k * dm h k = P at *; unfold wrap64; omega
      have MS : Hid (dm w (k + 1) + dm h (k + 1) < dm w k + dm h k) := by
        have h1 : dm w (k + 1) = (dm w k + 1) / 2 := rfl
        have h2 : dm h (k + 1) = (dm h k + 1) / 2 := rfl
        have h3 : 2 ≤ dm w k ∨ 2 ≤ dm h k := by
          by_cases a : 2 ≤ dm w k
          · exact .inl a
          · have : dm w k = 1 := by omega
            rw [this, Nat.one_mul] at hm
            exact .inr hm
        exact Lib.hid (by omega)
      have DH : Hid (∀ x y, x < dm w k → y < dm h k → x / 2 < dm w (k + 1) ∧ y / 2 < dm h (k + 1)) := Lib.hid (fun x y hx hy => ⟨dm_half k hx, dm_half k hy⟩)
      have T0 := Lib.hid hT.out
      have HLT := Lib.hid hlt
      obtain ⟨n2, hN2⟩ : ∃ n, n = bs w h (k + 1) := ⟨_, rfl⟩
      obtain ⟨n1, hN1⟩ : ∃ n, n = bs w h k := ⟨_, rfl⟩
      obtain ⟨a1, hA1⟩ : ∃ n, n = dm w (k + 1) := ⟨_, rfl⟩
      obtain ⟨b1, hB1⟩ : ∃ n, n = dm h (k + 1) := ⟨_, rfl⟩
      obtain ⟨a0, hA0⟩ : ∃ n, n = dm w k := ⟨_, rfl⟩
      obtain ⟨b0, hB0⟩ : ∃ n, n = dm h k := ⟨_, rfl⟩
      obtain ⟨p1, hP1⟩ : ∃ n, n = a1 * b1 := ⟨_, rfl⟩
      obtain ⟨p0, hP0⟩ : ∃ n, n = a0 * b0 := ⟨_, rfl⟩
      rw [← hN1, ← hA0, ← hB0]
      rw [← hA1, ← hB1, ← hP1] at wm2 r5
      rw [← hA0, ← hB0, ← hP0] at wm q5 hm
      rw [← hN1, ← hN2, ← hA0, ← hB0, ← hP0] at wn
      rw [← hA0] at w1 q1 q6
      rw [← hB0] at w2 q2 q7
      rw [← hA1] at r0 r6
      rw [← hB1] at r7
      rw [← hA0, ← hA1] at e1
      rw [← hB0, ← hB1] at e2
      rw [← hN2] at hbs
      rw [← hN1] at hbs0
      have HE := Lib.hid (And.intro hN2 (And.intro hN1 (And.intro hA1 (And.intro hB1 (And.intro hA0 (And.intro hB0 (And.intro hP1 hP0)))))))
      have g1 : (1 : Int) < (p0 : Int) := by omega
      clear hT q3 q4 r1 r2 hN2 hN1 hA1 hB1 hA0 hB0 hP1 hP0 hlt hbs2
      go_wp2_with fail
      go_loopw [8] (fun i wr => ∃ (i0 : Nat) (Q1 : Nat → Nat → Nat → Nd), i0 ≤ p1 ∧ i = .int .i64 (i0 : Int) ∧ Hid (Ur wr B b g w h D u Q1 ∧ Mo w h D k Q Q1 ∧ (∀ X Y, X < a1 → Y * a1 + X < i0 → (Q1 (k + 1) X Y).v = 65536) ∧ Kf (Uf b g) W wr)) (fun i _ => p1 - (intOf i).toNat)
      case atStart => exact ⟨0, Q0, Nat.zero_le _, rfl, T0.out.1, T0.out.2.1, fun X Y hX h0 => by omega, T0.out.2.2⟩
      case round =>
        obtain ⟨i0, Q1, hi0, rfl, hT⟩ := hrel
        by_cases hil : i0 < p1
        · have hX : i0 % a1 < a1 := Nat.mod_lt _ (by omega)
          have hY : i0 / a1 < b1 := Nat.div_lt_of_lt_mul (by rw [HE.out.2.2.2.2.2.2.1] at hil; exact hil)
          have eix : ix w h (k + 1) (i0 % a1) (i0 / a1) = n2 + i0 := by rw [div_mod_ix HE.out.2.2.1.symm (by omega), HE.out.1]
          obtain ⟨y0, _, _⟩ := hT.out.1.node (k := k + 1) (x := i0 % a1) (y := i0 / a1) HLT.out (by rw [← HE.out.2.2.1]; exact hX) (by rw [← HE.out.2.2.2.1]; exact hY) (i := n2 + i0) eix.symm
          have hfr := hT.out.1.free
          obtain ⟨_, _, _, ⟨m, c3⟩, _, _⟩ := hT.out.1.cells
          have hP := Lib.hid (hT.out.1.putV (k := k) (X := i0 % a1) (Y := i0 / a1) HLT.out (by rw [← HE.out.2.2.1]; exact hX) (by rw [← HE.out.2.2.2.1]; exact hY) 65536 (o := (n2 + i0) * 3) (by rw [eix]))
          have hK := Lib.hid (hT.out.2.2.2.trans (Kf.set g ((n2 + i0) * 3) (.int .i64 65536) (.inr rfl) wr))
          have hM := Lib.hid (hT.out.2.1.put (i0 % a1) (i0 / a1) 65536)
          have hF := Lib.hid (fil_next hT.out.2.2.1)
          have hlt2 : n2 + i0 < bs w h D := by
            have := EI2.out; have := EM.out; rw [← HE.out.1, ← HE.out.2.2.1, ← HE.out.2.2.2.1, ← HE.out.2.2.2.2.2.2.1] at *; omega
          have hNN := HN.out
          obtain ⟨N, hNe⟩ : ∃ N, N = bs w h D := ⟨_, rfl⟩
          rw [← hNe] at c3 hlt2 hNN
          have wi : IntKind.i64.wrap ((n2 : Int) + (i0 : Int)) = ((n2 + i0 : Nat) : Int) := by rw [IntWalk.i64_left]; unfold wrap64; omega
          have wi1 : IntKind.i64.wrap ((i0 : Int) + 1) = ((i0 + 1 : Nat) : Int) := by rw [IntWalk.i64_left]; unfold wrap64; omega
          have hltI : ((n2 + i0 : Nat) : Int) < (N : Int) := by omega
          have hil2 : (i0 : Int) < (p1 : Int) := by omega
          clear hT hX hY eix hNe
          generalize n2 + i0 = ii at *
          go_wp2_with fail
          go_roundw
          case rel => exact ⟨i0 + 1, _, by omega, by go_num, hP.out, hM.out, hF.out, hK.out⟩
          case measure => simp [intOf]; omega
        · obtain rfl : i0 = p1 := by omega
          have hil2 : ¬ (i0 : Int) < (i0 : Int) := by omega
          have S1 : Hid (Ur wr B b g w h D u Q1 ∧ Mn w h D k Q (vs 0 0) Q1 ∧ Kf (Uf b g) W wr) := Lib.hid ⟨hT.out.1, (Mn.start hT.out.2.1 (fun X Y hX hY => hT.out.2.2.1 X Y (by rw [HE.out.2.2.1]; exact hX) (by
            have h1 := grid_lt hX hY
            rw [HE.out.2.2.2.2.2.2.1, HE.out.2.2.1, HE.out.2.2.2.1]
            exact h1))).sub (fun x y _ _ hv => by unfold vs at hv; omega), hT.out.2.2.2⟩
          clear hT
          go_wp2_with fail
          go_loopw [9] (fun yv wr => ∃ (y : Nat) (Q2 : Nat → Nat → Nat → Nd), y ≤ b0 ∧ yv = .int .i64 (y : Int) ∧ Hid (Ur wr B b g w h D u Q2 ∧ Mn w h D k Q (vs 0 y) Q2 ∧ Kf (Uf b g) W wr)) (fun yv _ => b0 - (intOf yv).toNat)
          case atStart => exact ⟨0, Q1, Nat.zero_le _, rfl, S1.out⟩
          case round =>
            obtain ⟨y, Q2, hy, rfl, hT⟩ := hrel
            by_cases hyl : y < b0
            · have hyI : (y : Int) < (b0 : Int) := by omega
              have T2 := Lib.hid hT.out
              have wy1 : IntKind.i64.wrap ((y : Int) + 1) = ((y + 1 : Nat) : Int) := by rw [IntWalk.i64_left]; unfold wrap64; omega
              clear hT
              go_wp2_with fail
              go_loopw [10] (fun xv wr => ∃ (x : Nat) (Q3 : Nat → Nat → Nat → Nd), x ≤ a0 ∧ xv = .int .i64 (x : Int) ∧ Hid (Ur wr B b g w h D u Q3 ∧ Mn w h D k Q (vs x y) Q3 ∧ Kf (Uf b g) W wr)) (fun xv _ => a0 - (intOf xv).toNat)
              case atStart => exact ⟨0, Q2, Nat.zero_le _, rfl, T2.out⟩
              case round =>
                obtain ⟨x, Q3, hx, rfl, hT⟩ := hrel
                by_cases hxl : x < a0
                · have hxI : (x : Int) < (a0 : Int) := by omega
                  have hxk : x < dm w k := by rw [← HE.out.2.2.2.2.1]; exact hxl
                  have hyk : y < dm h k := by rw [← HE.out.2.2.2.2.2.1]; exact hyl
                  obtain ⟨hx2, hy2⟩ := DH.out x y hxk hyk
                  obtain ⟨j0, _, _⟩ := hT.out.1.node (k := k) (x := x) (y := y) (by have := HLT.out; omega) hxk hyk rfl
                  obtain ⟨y0, _, _⟩ := hT.out.1.node (k := k + 1) (x := x / 2) (y := y / 2) HLT.out hx2 hy2 rfl
                  have hfr := hT.out.1.free
                  obtain ⟨_, _, _, ⟨m, c3⟩, _, _⟩ := hT.out.1.cells
                  have hP := Lib.hid (hT.out.1.putV (k := k) (X := x / 2) (Y := y / 2) HLT.out hx2 hy2 (min (Q3 (k + 1) (x / 2) (y / 2)).v (Q3 k x y).v) (o := ix w h (k + 1) (x / 2) (y / 2) * 3) rfl)
                  have hK := Lib.hid (hT.out.2.2.trans (Kf.set g (ix w h (k + 1) (x / 2) (y / 2) * 3) (.int .i64 (min (Q3 (k + 1) (x / 2) (y / 2)).v (Q3 k x y).v)) (.inr rfl) wr))
                  have hM := Lib.hid (hT.out.2.1.next hxk hyk (vis' := vs (x + 1) y) (fun a b hv => by unfold vs at hv ⊢; omega))
                  have l1 := ix_lt HB.out.1 HB.out.2.1 (D := D) (by have := HLT.out; omega) hxk hyk
                  have l2 := ix_lt HB.out.1 HB.out.2.1 (D := D) HLT.out hx2 hy2
                  have hNN := HN.out
                  have u1 : ix w h k x y = n1 + (y * a0 + x) := by unfold ix; rw [HE.out.2.1, HE.out.2.2.2.2.1]
                  have u2 : ix w h (k + 1) (x / 2) (y / 2) = n2 + (y / 2 * a1 + x / 2) := by unfold ix; rw [HE.out.1, HE.out.2.2.1]
                  obtain ⟨N, hNe⟩ : ∃ N, N = bs w h D := ⟨_, rfl⟩
                  rw [← hNe] at c3 l1 l2 hNN
                  generalize ix w h k x y = jj at *
                  generalize ix w h (k + 1) (x / 2) (y / 2) = ii at *
                  generalize (Q3 (k + 1) (x / 2) (y / 2)).v = ov at *
                  generalize (Q3 k x y).v = gv at *
                  have d1 : ((x : Nat) : Int) / 2 = ((x / 2 : Nat) : Int) := by omega
                  have d2 : ((y : Nat) : Int) / 2 = ((y / 2 : Nat) : Int) := by omega
                  have d3 : wrap64 ((x / 2 : Nat) : Int) = ((x / 2 : Nat) : Int) := by unfold wrap64; omega
                  have d4 : wrap64 ((y / 2 : Nat) : Int) = ((y / 2 : Nat) : Int) := by unfold wrap64; omega
                  have d5 : IntKind.i64.wrap ((x : Int) + 1) = ((x + 1 : Nat) : Int) := by rw [IntWalk.i64_left]; unfold wrap64; omega
                  generalize x / 2 = x2 at *
                  generalize y / 2 = y2 at *
                  obtain ⟨v1, v2, v3⟩ := idx_wraps u2 l2 hNN
                  obtain ⟨v4, v5, v6⟩ := idx_wraps u1 l1 hNN
                  have l1I : (jj : Int) < (N : Int) := Int.ofNat_lt.2 l1
                  have l2I : (ii : Int) < (N : Int) := Int.ofNat_lt.2 l2
                  clear u1 u2
                  generalize n2 + y2 * a1 = r1 at *
                  generalize y2 * a1 = r2 at *
                  generalize n1 + y * a0 = r3 at *
                  generalize y * a0 = r4 at *
                  clear hT hNe hx2 hy2 hxk hyk
                  go_upto_region 15 with fail
                  go_region
                  all_goals
                    go_wp2_with fail
                    go_roundw
                    case rel => exact ⟨x + 1, _, by omega, by go_num, by first | exact hP.out | exact hP.out.below (Below.refl _ _).drew, hM.out, by first | exact hK.out | exact hK.out.trans (Kf.of_below _ (Below.refl _ _).drew)⟩
                    case measure => simp [intOf]; omega
                · obtain rfl : x = a0 := by omega
                  have S3 : Hid (Ur wr B b g w h D u Q3 ∧ Mn w h D k Q (vs 0 (y + 1)) Q3 ∧ Kf (Uf b g) W wr) := Lib.hid ⟨hT.out.1, hT.out.2.1.sub (fun p q hp hq hv => by
                    have e := HE.out.2.2.2.2.1
                    unfold vs at hv ⊢
                    omega), hT.out.2.2⟩
                  clear hT
                  go_wp2_with fail
                  go_roundw
                  case rel => exact ⟨y + 1, Q3, by omega, by go_num, S3.out⟩
                  case measure => simp [intOf]; omega
            · obtain rfl : y = b0 := by omega
              have F : Hid (Ur wr B b g w h D u Q2 ∧ Mo w h D (k + 1) Q Q2 ∧ Kf (Uf b g) W wr) := Lib.hid ⟨hT.out.1, hT.out.2.1.done (fun p q hp hq => by
                have e := HE.out.2.2.2.2.2.1
                unfold vs
                omega) (by have := HLT.out; omega) VB.out, hT.out.2.2⟩
              clear hT
              go_wp2_with fail
              go_roundw
              case rel => exact ⟨k + 1, Q2, HLT.out, by rw [← HE.out.2.2.1], by rw [← HE.out.2.2.2.1], by rw [← HE.out.1], F.out⟩
              case measure => simp [intOf]; have := MS.out; rw [← HE.out.2.2.1, ← HE.out.2.2.2.1, ← HE.out.2.2.2.2.1, ← HE.out.2.2.2.2.2.1] at this; omega
    · have hkD : k = D - 1 := by omega
      have e1 : dm w k = 1 := by rw [hkD]; exact HD.out.2.2.1
      have e2 : dm h k = 1 := by rw [hkD]; exact HD.out.2.2.2
      have hp1 : dm w k * dm h k = 1 := by rw [e1, e2]
      have F := Lib.hid (And.intro (FIN.out _ _ hT.out.1 (by rw [← hkD]; exact hT.out.2.1)) hT.out.2.2)
      clear q1 q2 q3 q4 q5 hT
      generalize dm w k * dm h k = pp at *
      have g1 : ¬ (1 : Int) < (pp : Int) := by omega
      clear hp1 e1 e2 hkD
      generalize dm w k = a0 at *
      generalize dm h k = b0 at *
      go_wp2_with fail
      go_end0
      exact ⟨rfl, F.out⟩
end Go.Proofs.Ytaddendclipkkaa
