/-
  The reference's reader of layer 9: Gamma.
-/
import Derived.Test.YtdhjmbjpigiadaaSe
set_option maxRecDepth 100000
namespace Go.Proofs.Ytdhjmbjpigiadaa
open Go.RowKit

theorem rdg_shift (bs : List Int) : ∀ (n t : Nat) (v : Int), Bi.rdg bs n t v = if (Bi.rdg bs n t 0).2.1 = 0 then (v * 2 ^ n + (Bi.rdg bs n t 0).1, 0, (Bi.rdg bs n t 0).2.2) else Bi.rdg bs n t 0
  | 0, t, v => by simp [Bi.rdg]
  | n + 1, t, v => by
    unfold Bi.rdg
    by_cases hE : Bi.gE bs t = 0
    · simp only [if_pos hE]
      rw [rdg_shift bs n (Bi.gN bs t) (2 * v + Bi.gR bs t), rdg_shift bs n (Bi.gN bs t) (2 * 0 + Bi.gR bs t)]
      by_cases h : (Bi.rdg bs n (Bi.gN bs t) 0).2.1 = 0
      · simp only [if_pos h, if_true]
        have e : (2 * v + Bi.gR bs t) * 2 ^ n = v * 2 ^ (n + 1) + Bi.gR bs t * 2 ^ n := by rw [Int.pow_succ, Int.add_mul]; congr 1; rw [Int.mul_comm 2 v, Int.mul_assoc, Int.mul_comm 2 (2 ^ n)]
        rw [e]
        simp [Int.add_assoc]
      · simp only [if_neg h]
    · simp only [if_neg hE]
theorem rdg_z (bs : List Int) : ∀ (n t : Nat) (v : Int), (Bi.rdg bs n t v).2.1 ≠ 0 → (Bi.rdg bs n t v).1 = 0
  | 0, t, v, h => absurd rfl h
  | n + 1, t, v, h => by
    unfold Bi.rdg at h ⊢
    by_cases hE : Bi.gE bs t = 0
    · rw [if_pos hE] at h ⊢
      exact rdg_z bs n _ _ h
    · rw [if_neg hE]
theorem rdg_bd (bs : List Int) : ∀ (n t : Nat), 0 ≤ (Bi.rdg bs n t 0).1 ∧ (Bi.rdg bs n t 0).1 ≤ 2 ^ n
  | 0, t => by simp [Bi.rdg]
  | n + 1, t => by
    have hp : (0 : Int) < 2 ^ n := Int.pow_pos (by decide)
    unfold Bi.rdg
    by_cases hE : Bi.gE bs t = 0
    · simp only [if_pos hE]
      rw [rdg_shift bs n (Bi.gN bs t) (2 * 0 + Bi.gR bs t)]
      have ih := rdg_bd bs n (Bi.gN bs t)
      have hbit := Bi.gR_bit bs t
      by_cases h : (Bi.rdg bs n (Bi.gN bs t) 0).2.1 = 0
      · simp only [if_pos h]
        rw [Int.pow_succ]
        rcases hbit with e | e <;> rw [e] <;> constructor <;> omega
      · simp only [if_neg h]
        rw [Int.pow_succ]
        omega
    · simp only [if_neg hE]
      rw [Int.pow_succ]
      omega
set_option maxHeartbeats 1000000 in
theorem sgam_c (w : World) (B b : Nat) (bs : List Int) (t : Nat) (hR : Sd w B b bs t) (ht : t ≤ 8 * bs.length) (hb : Bi.bytes bs) (hl : bs.length ≤ 100000000) :
    Calls Try.prog 67 #[.pointer (some ⟨b, 0, none⟩)] w (SGives B b bs (fst3 (Bi.rgam bs t) t).2.2 (fst3 (Bi.rgam bs t) t).1 (fst3 (Bi.rgam bs t) t).2.1 w) := by
  have HR := Lib.hid hR
  have c0 : w.cell? ⟨b, 0, none⟩ = some (.bool true) := hR.ok
  generalize hT : fst3 (Bi.rgam bs t) t = T
  unfold Bi.rgam at hT
  have HT := Lib.hid hT
  clear hT
  obtain ⟨p, hp⟩ : ∃ p, p = (t + 7) / 8 := ⟨_, rfl⟩
  obtain ⟨q, hq⟩ : ∃ q, q = 8 * p - t := ⟨_, rfl⟩
  have HP := Lib.hid hp
  have HQ := Lib.hid hq
  have hS : Sp w B b bs p q := by rw [hq, hp]; exact HR.out
  clear hp hq
  obtain ⟨sv, h⟩ := hS
  have c2 : w.cell? ⟨b, 2, none⟩ = some (.int .i64 p) := h.blk.cell 2
  have c3 : w.cell? ⟨b, 3, none⟩ = some (.int .i64 q) := h.blk.cell 3
  clear h hR
  go_enter Try.func67, Try.ntmps67
  go_wp2_with fail
  go_quiet (fail)
  have T0 := HR.out.drewN nq
  have H0 : Hid (Sd (w.drewN nq) B b bs t) := T0.1
  have K0 := Lib.hid T0.2
  clear T0 c0 c2 c3
  generalize w.drewN nq = w1 at *
  go_wp2_with fail
  go_loopw [6] (fun s8 wr => ∃ (k t' : Nat), k ≤ 31 ∧ s8 = .int .i64 (k : Int) ∧ Hid (Sd wr B b bs t') ∧ Hid (Kp b w wr) ∧ t' ≤ 8 * bs.length ∧ Hid (Bi.rrun bs 0 (32 - k) k t' = Bi.rrun bs 0 32 0 t)) (fun s8 _ => 31 - (intOf s8).toNat)
  case atStart => exact ⟨0, t, Nat.zero_le _, rfl, H0, K0, ht, rfl⟩
  case round =>
    obtain ⟨k, t', hk, rfl, hR1, hK1, ht1, hq⟩ := hrel
    have hg := sget_c wr B b bs t' hR1.out ht1 hb hl
    obtain ⟨j, hj⟩ : ∃ j, 32 - k = j + 1 := ⟨31 - k, by omega⟩
    have hq2 := hq.out
    rw [hj, Bi.rrun] at hq2
    have hgn := (Bi.gN_le ht1).2
    have HJ := Lib.hid hj
    have hbit := Bi.gR_bit bs t'
    clear hj
    rcases Bi.gE_cases bs t' with hE | hE | hE
    · rw [if_pos hE] at hq2
      rw [hE] at hg
      rcases hbit with hV | hV
      · rw [hV, if_pos rfl] at hq2
        rw [hV] at hg
        have HQ2 := Lib.hid hq2
        clear hq2 hE hV
        by_cases hkM : k = 31
        · subst hkM
          have hj0 : j = 0 := by have := HJ.out; omega
          have hq3 := HQ2.out
          rw [hj0, Bi.rrun] at hq3
          have HQ3 := Lib.hid hq3
          clear hq3 HQ2 hj0
          go_wp2_with (first | (go_at_call 36; refine hg.mono ?_; rintro e wn ⟨rfl, hR2, hK2⟩) | (go_at_call 95; refine (back_c _ B b bs _ _ p q hR2).mono ?_; rintro e wm ⟨rfl, hR3, hK3⟩))
          go_ret2
          rw [← HT.out, ← HQ3.out]
          refine ⟨rfl, ?_, (hK1.out.trans hK2).trans hK3⟩
          show Sp _ _ _ _ ((t + 7) / 8) (8 * ((t + 7) / 8) - t)
          rw [← HP.out, ← HQ.out]
          exact hR3
        · have hkb : ((k : Int) == 31) = false := by simp; omega
          go_wp2_with (first | (go_at_call 36; refine hg.mono ?_; rintro e wn ⟨rfl, hR2, hK2⟩))
          go_roundw
          case rel =>
            refine ⟨k + 1, Bi.gN bs t', by omega, by go_num, hR2, hK1.out.trans hK2, hgn, ?_⟩
            show _ = _
            have := HJ.out
            rw [show 32 - (k + 1) = j by omega]
            exact HQ2.out
          case measure => simp [intOf]; omega
      · rw [hV, if_neg (by decide)] at hq2
        rw [hV] at hg
        have HQ2 := Lib.hid hq2
        clear hq2 hE hV
        go_wp2_with (first | (go_at_call 36; refine hg.mono ?_; rintro e wn ⟨rfl, hR2, hK2⟩))
        have hs := sbits_c _ B b bs _ (k : Int) hR2 hgn hb hl
        have hd : dgB (k : Int) = true := by simp [dgB]; omega
        unfold rbT rbV rbE at hs
        simp only [hd, if_true, Int.toNat_natCast] at hs
        have hsh := rdg_shift bs k (Bi.gN bs t') 1
        have hbd := rdg_bd bs k (Bi.gN bs t')
        have hpk := pow_bd (k := k) (by omega)
        have hHT := HT.out
        rw [← HQ2.out] at hHT
        simp only [if_true, Int.toNat_natCast] at hHT
        have her := Bi.rdg_err bs k (Bi.gN bs t') 0
        obtain ⟨R, hRR⟩ : ∃ R, R = Bi.rdg bs k (Bi.gN bs t') 0 := ⟨_, rfl⟩
        have hz0 := rdg_z bs k (Bi.gN bs t') 0
        rw [← hRR] at hs hsh hbd her hz0
        clear hRR hd
        obtain ⟨V, c, u⟩ := R
        simp only at hs hsh hbd her hz0
        have hku : IntKind.u64.wrap (k : Int) = k := by rw [IntKind.wrap_u64]; omega
        rcases her with rfl | rfl | rfl
        · clear hz0
          simp only [if_true] at hs hsh
          rw [hsh] at hHT
          have HHT := Lib.hid hHT
          clear hsh hHT HT HQ2
          have e1 : IntKind.i64.wrap (2 ^ k) = 2 ^ k := IntWalk.i64_in _ (by omega)
          have e2 : IntKind.i64.wrap (2 ^ k + V) = 2 ^ k + V := IntWalk.i64_in _ (by omega)
          refine hs.mono ?_
          rintro e x3 ⟨rfl, hR3, hK3⟩
          go_wp2_with fail
          go_ret2
          rw [← HHT.out]
          refine ⟨by simp [fst3], hR3, (hK1.out.trans hK2).trans hK3⟩
        · obtain rfl : V = 0 := hz0 (by decide)
          simp only [show ¬ ((7 : Int) = 0) by decide, if_false] at hs hsh
          rw [hsh] at hHT
          have HHT := Lib.hid hHT
          clear hsh hHT HT HQ2 hbd
          refine hs.mono ?_
          rintro e x3 ⟨rfl, hR3, hK3⟩
          go_wp2_with (first | (go_at_call 95; refine (back_c _ B b bs _ _ p q hR3).mono ?_; rintro e x4 ⟨rfl, hR4, hK4⟩))
          go_ret2
          rw [← HHT.out]
          refine ⟨rfl, ?_, ((hK1.out.trans hK2).trans hK3).trans hK4⟩
          show Sp _ _ _ _ ((t + 7) / 8) (8 * ((t + 7) / 8) - t)
          rw [← HP.out, ← HQ.out]
          exact hR4
        · obtain rfl : V = 0 := hz0 (by decide)
          simp only [show ¬ ((8 : Int) = 0) by decide, if_false] at hs hsh
          rw [hsh] at hHT
          have HHT := Lib.hid hHT
          clear hsh hHT HT HQ2 hbd
          refine hs.mono ?_
          rintro e x3 ⟨rfl, hR3, hK3⟩
          go_wp2_with (first | (go_at_call 95; refine (back_c _ B b bs _ _ p q hR3).mono ?_; rintro e x4 ⟨rfl, hR4, hK4⟩))
          go_ret2
          rw [← HHT.out]
          refine ⟨rfl, ?_, ((hK1.out.trans hK2).trans hK3).trans hK4⟩
          show Sp _ _ _ _ ((t + 7) / 8) (8 * ((t + 7) / 8) - t)
          rw [← HP.out, ← HQ.out]
          exact hR4
    · rw [if_neg (by rw [hE]; decide)] at hq2
      rw [hE] at hg hq2
      have hn1 : Bi.gN bs t' = t' := by simp [Bi.gN, hE]
      have hv1 : Bi.gR bs t' = 0 := by simp [Bi.gR, hE]
      rw [hn1, hv1] at hg
      have HQ2 := Lib.hid hq2
      clear hq2 hE hn1 hv1 hbit
      go_wp2_with (first | (go_at_call 36; refine hg.mono ?_; rintro e wn ⟨rfl, hR2, hK2⟩) | (go_at_call 95; refine (back_c _ B b bs _ _ p q hR2).mono ?_; rintro e wm ⟨rfl, hR3, hK3⟩))
      go_ret2
      rw [← HT.out, ← HQ2.out]
      refine ⟨rfl, ?_, (hK1.out.trans hK2).trans hK3⟩
      show Sp _ _ _ _ ((t + 7) / 8) (8 * ((t + 7) / 8) - t)
      rw [← HP.out, ← HQ.out]
      exact hR3
    · rw [if_neg (by rw [hE]; decide)] at hq2
      rw [hE] at hg hq2
      have hn1 : Bi.gN bs t' = t' := by simp [Bi.gN, hE]
      have hv1 : Bi.gR bs t' = 0 := by simp [Bi.gR, hE]
      rw [hn1, hv1] at hg
      have HQ2 := Lib.hid hq2
      clear hq2 hE hn1 hv1 hbit
      go_wp2_with (first | (go_at_call 36; refine hg.mono ?_; rintro e wn ⟨rfl, hR2, hK2⟩) | (go_at_call 95; refine (back_c _ B b bs _ _ p q hR2).mono ?_; rintro e wm ⟨rfl, hR3, hK3⟩))
      go_ret2
      rw [← HT.out, ← HQ2.out]
      refine ⟨rfl, ?_, (hK1.out.trans hK2).trans hK3⟩
      show Sp _ _ _ _ ((t + 7) / 8) (8 * ((t + 7) / 8) - t)
      rw [← HP.out, ← HQ.out]
      exact hR3
end Go.Proofs.Ytdhjmbjpigiadaa
