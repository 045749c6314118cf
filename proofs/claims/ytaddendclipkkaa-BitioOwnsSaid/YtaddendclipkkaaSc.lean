/-
  The reference's reader of layer 9: back, Bits.
-/
import Derived.Test.YtaddendclipkkaaSb
set_option maxRecDepth 100000
namespace Go.Proofs.Ytaddendclipkkaa
open Go.RowKit

theorem back_c (w : World) (B b : Nat) (bs : List Int) (p q p' q' : Nat) (hR : Sp w B b bs p q) :
    Calls Try.prog 82 #[.pointer (some ⟨b, 0, none⟩), .int .i64 p', .int .i64 q'] w fun e w' => e = .returned (.tuple #[]) ∧ Sp w' B b bs p' q' ∧ Kp b w w' := by
  have HR := Lib.hid hR
  obtain ⟨sv, h⟩ := hR
  have c0 : w.cell? ⟨b, 0, none⟩ = some (.bool true) := h.blk.cell 0
  have c1 : w.cell? ⟨b, 1, none⟩ = some sv := h.blk.cell 1
  have c2 : w.cell? ⟨b, 2, none⟩ = some (.int .i64 p) := h.blk.cell 2
  have c3 : w.cell? ⟨b, 3, none⟩ = some (.int .i64 q) := h.blk.cell 3
  have ff : ∀ i, w.frozen? ⟨b, i, none⟩ = false := h.blk.free
  clear h
  go_enter Try.func82, Try.ntmps82
  go_wp2_with fail
  go_end0
  have h1 := HR.out.set2 p' rfl
  have h2 := h1.1.set3 q' rfl
  exact ⟨rfl, h2.1, h1.2.trans h2.2⟩
theorem SGives.same {w w' : World} {B b : Nat} {bs : List Int} {t : Nat} (h : Sd w' B b bs t) (hk : Kp b w w') (c : Int) : SGives B b bs t 0 c w (.returned (.tuple #[.int .i64 0, .int .i64 c])) w' := ⟨rfl, h, hk⟩
set_option maxHeartbeats 1000000 in
theorem sbits_c (w : World) (B b : Nat) (bs : List Int) (t : Nat) (n : Int) (hR : Sd w B b bs t) (ht : t ≤ 8 * bs.length) (hb : Bi.bytes bs) (hl : bs.length ≤ 100000000) :
    Calls Try.prog 69 #[.pointer (some ⟨b, 0, none⟩), .int .i64 n] w (SGives B b bs (rbT bs t n) (rbV bs t n) (rbE bs t n) w) := by
  have HR := Lib.hid hR
  have c0 : w.cell? ⟨b, 0, none⟩ = some (.bool true) := hR.ok
  unfold rbT rbV rbE
  by_cases h1 : n < 0
  · have hd : dgB n = false := by simp [dgB]; omega
    rw [hd]
    go_enter Try.func69, Try.ntmps69
    go_wp2_with fail
    go_ret2
    exact SGives.same HR.out (Kp.refl b w) 1
  by_cases h2 : 32 < n
  · have hd : dgB n = false := by simp [dgB]; omega
    rw [hd]
    go_enter Try.func69, Try.ntmps69
    go_wp2_with fail
    go_ret2
    exact SGives.same HR.out (Kp.refl b w) 1
  obtain ⟨N, rfl⟩ : ∃ N : Nat, n = N := ⟨n.toNat, by omega⟩
  have hN : N ≤ 32 := by omega
  have hd : dgB (N : Int) = true := by simp [dgB]; omega
  rw [hd]
  simp only [if_true, Int.toNat_natCast]
  generalize hT : (if (Bi.rdg bs N t 0).2.1 = 0 then (Bi.rdg bs N t 0).2.2 else t) = T
  have HT := Lib.hid hT
  clear hT
  obtain ⟨p, hp⟩ : ∃ p, p = (t + 7) / 8 := ⟨_, rfl⟩
  obtain ⟨q, hq⟩ : ∃ q, q = 8 * p - t := ⟨_, rfl⟩
  have HP := Lib.hid hp
  have HQ := Lib.hid hq
  have hS : Sp w B b bs p q := by rw [hq, hp]; exact HR.out
  clear hp hq hd
  obtain ⟨sv, h⟩ := hS
  have c2 : w.cell? ⟨b, 2, none⟩ = some (.int .i64 p) := h.blk.cell 2
  have c3 : w.cell? ⟨b, 3, none⟩ = some (.int .i64 q) := h.blk.cell 3
  clear h hR
  go_enter Try.func69, Try.ntmps69
  go_wp2_with fail
  go_quiet (fail)
  have T0 := HR.out.drewN nq
  have H0 : Hid (Sd (w.drewN nq) B b bs t) := T0.1
  have K0 := Lib.hid T0.2
  clear T0 c0 c2 c3
  generalize w.drewN nq = w1 at *
  go_wp2_with fail
  go_loopw [8, 9] (fun s8 s9 wr => ∃ (k t' : Nat) (v' : Int), k ≤ N ∧ s8 = .int .i64 v' ∧ s9 = .int .i64 (k : Int) ∧ Hid (Sd wr B b bs t') ∧ Hid (Kp b w wr) ∧ t' ≤ 8 * bs.length ∧ Hid (Bi.rdg bs (N - k) t' v' = Bi.rdg bs N t 0) ∧ 0 ≤ v' ∧ Hid (v' + 1 ≤ 2 * 2 ^ k)) (fun _ s9 _ => N - (intOf s9).toNat)
  case atStart => exact ⟨0, t, 0, Nat.zero_le _, rfl, rfl, H0, K0, ht, rfl, by decide, by show _ ≤ _; decide⟩
  case round =>
    obtain ⟨k, t', v', hk, rfl, rfl, hR1, hK1, ht1, hq, hv0, hv1⟩ := hrel
    by_cases hlt : k < N
    · have hg := sget_c wr B b bs t' hR1.out ht1 hb hl
      obtain ⟨j, hj⟩ : ∃ j, N - k = j + 1 := ⟨N - k - 1, by omega⟩
      have hq2 := hq.out
      rw [hj, Bi.rdg] at hq2
      have hp := pow_bd (k := k) (by omega)
      have hv2 : v' < 8589934592 := by have := hv1.out; omega
      have hbit := Bi.gR_bit bs t'
      have hb01 : 0 ≤ Bi.gR bs t' ∧ Bi.gR bs t' ≤ 1 := by unfold Bi.bit at hbit; omega
      have hgn := (Bi.gN_le ht1).2
      have HJ := Lib.hid hj
      clear hbit hj
      rcases Bi.gE_cases bs t' with hE | hE | hE
      · rw [if_pos hE] at hq2
        rw [hE] at hg
        have HQ2 := Lib.hid hq2
        clear hq2 hE
        go_wp2_with (first | (go_at_call 17; refine hg.mono ?_; rintro e wn ⟨rfl, hR2, hK2⟩))
        go_roundw
        case rel =>
          refine ⟨k + 1, Bi.gN bs t', 2 * v' + Bi.gR bs t', by omega, by go_num, by go_num, hR2, hK1.out.trans hK2, hgn, ?_, by omega, ?_⟩
          · show _ = _
            have := HJ.out
            rw [show N - (k + 1) = j by omega]
            exact HQ2.out
          · show _ ≤ _
            have := hv1.out
            rw [Int.pow_succ]
            omega
        case measure => simp [intOf]; omega
      · rw [if_neg (by rw [hE]; decide)] at hq2
        rw [hE] at hg hq2
        have hn1 : Bi.gN bs t' = t' := by simp [Bi.gN, hE]
        rw [hn1] at hg
        have HQ2 := Lib.hid hq2
        clear hq2 hE hn1
        go_wp2_with (first | (go_at_call 17; refine hg.mono ?_; rintro e wn ⟨rfl, hR2, hK2⟩) | (go_at_call 82; refine (back_c _ B b bs _ _ p q hR2).mono ?_; rintro e wm ⟨rfl, hR3, hK3⟩))
        go_ret2
        rw [← HT.out, ← HQ2.out]
        simp only [show ¬ ((7 : Int) = 0) by decide, if_false]
        refine ⟨rfl, ?_, (hK1.out.trans hK2).trans hK3⟩
        show Sp _ _ _ _ _ _
        rw [← HP.out, ← HQ.out]
        exact hR3
      · rw [if_neg (by rw [hE]; decide)] at hq2
        rw [hE] at hg hq2
        have hn1 : Bi.gN bs t' = t' := by simp [Bi.gN, hE]
        rw [hn1] at hg
        have HQ2 := Lib.hid hq2
        clear hq2 hE hn1
        go_wp2_with (first | (go_at_call 17; refine hg.mono ?_; rintro e wn ⟨rfl, hR2, hK2⟩) | (go_at_call 82; refine (back_c _ B b bs _ _ p q hR2).mono ?_; rintro e wm ⟨rfl, hR3, hK3⟩))
        go_ret2
        rw [← HT.out, ← HQ2.out]
        simp only [show ¬ ((8 : Int) = 0) by decide, if_false]
        refine ⟨rfl, ?_, (hK1.out.trans hK2).trans hK3⟩
        show Sp _ _ _ _ _ _
        rw [← HP.out, ← HQ.out]
        exact hR3
    · obtain rfl : k = N := by omega
      have hq2 := hq.out
      rw [Nat.sub_self, Bi.rdg] at hq2
      have HQ2 := Lib.hid hq2
      clear hq2
      go_wp2_with fail
      go_ret2
      rw [← HT.out, ← HQ2.out]
      exact ⟨rfl, hR1.out, hK1.out⟩
end Go.Proofs.Ytaddendclipkkaa
