/-
  The reference's reader of layer 9: Unary.
-/
import Derived.Test.YtdhjmbjpigiadaaSc
set_option maxRecDepth 100000
namespace Go.Proofs.Ytdhjmbjpigiadaa
open Go.RowKit

set_option maxHeartbeats 1000000 in
theorem suna_c (w : World) (B b : Nat) (bs : List Int) (t : Nat) (n : Int) (hR : Sd w B b bs t) (ht : t ≤ 8 * bs.length) (hb : Bi.bytes bs) (hl : bs.length ≤ 100000000) :
    Calls Try.prog 68 #[.pointer (some ⟨b, 0, none⟩), .int .i64 n] w (SGives B b bs (ruR bs t n).2.2 (ruR bs t n).1 (ruR bs t n).2.1 w) := by
  have HR := Lib.hid hR
  have c0 : w.cell? ⟨b, 0, none⟩ = some (.bool true) := hR.ok
  unfold ruR
  by_cases h1 : n < 0
  · have hd : unB n = false := by simp [unB]; omega
    rw [hd]
    go_enter Try.func68, Try.ntmps68
    go_wp2_with fail
    go_ret2
    exact SGives.same HR.out (Kp.refl b w) 1
  by_cases h2 : 65535 < n
  · have hd : unB n = false := by simp [unB]; omega
    rw [hd]
    go_enter Try.func68, Try.ntmps68
    go_wp2_with fail
    go_ret2
    exact SGives.same HR.out (Kp.refl b w) 1
  obtain ⟨M, rfl⟩ : ∃ M : Nat, n = M := ⟨n.toNat, by omega⟩
  have hM : M ≤ 65535 := by omega
  have hd : unB (M : Int) = true := by simp [unB]; omega
  rw [hd]
  simp only [if_true, Int.toNat_natCast]
  generalize hT : fst3 (Bi.rrun bs 1 (M + 1) 0 t) t = T
  have HT := Lib.hid hT
  clear hT
  obtain ⟨p, hp⟩ : ∃ p, p = (t + 7) / 8 := ⟨_, rfl⟩
  obtain ⟨q, hq⟩ : ∃ q, q = 8 * p - t := ⟨_, rfl⟩
  have HP := Lib.hid hp
  have HQ := Lib.hid hq
  have hS : Sp w B b bs p q := by rw [hq, hp]; exact HR.out
  clear hp hq hd
  obtain ⟨sv, h⟩ := hS
  have c2 : w.cell? ⟨b, 2, none⟩ = some (.int .i64 p) := h.blk.cell 2
  have c3 : w.cell? ⟨b, 3, none⟩ = some (.int .i64 q) := h.blk.cell 3
  clear h hR
  go_enter Try.func68, Try.ntmps68
  go_wp2_with fail
  go_quiet (fail)
  have T0 := HR.out.drewN nq
  have H0 : Hid (Sd (w.drewN nq) B b bs t) := T0.1
  have K0 := Lib.hid T0.2
  clear T0 c0 c2 c3
  generalize w.drewN nq = w1 at *
  go_wp2_with fail
  go_loopw [8] (fun s8 wr => ∃ (k t' : Nat), k ≤ M ∧ s8 = .int .i64 (k : Int) ∧ Hid (Sd wr B b bs t') ∧ Hid (Kp b w wr) ∧ t' ≤ 8 * bs.length ∧ Hid (Bi.rrun bs 1 (M + 1 - k) k t' = Bi.rrun bs 1 (M + 1) 0 t)) (fun s8 _ => M - (intOf s8).toNat)
  case atStart => exact ⟨0, t, Nat.zero_le _, rfl, H0, K0, ht, rfl⟩
  case round =>
    obtain ⟨k, t', hk, rfl, hR1, hK1, ht1, hq⟩ := hrel
    have hg := sget_c wr B b bs t' hR1.out ht1 hb hl
    obtain ⟨j, hj⟩ : ∃ j, M + 1 - k = j + 1 := ⟨M - k, by omega⟩
    have hq2 := hq.out
    rw [hj, Bi.rrun] at hq2
    have hgn := (Bi.gN_le ht1).2
    have HJ := Lib.hid hj
    have hbit := Bi.gR_bit bs t'
    clear hj
    rcases Bi.gE_cases bs t' with hE | hE | hE
    · rw [if_pos hE] at hq2
      rw [hE] at hg
      rcases hbit with hV | hV
      · rw [hV, if_neg (by decide)] at hq2
        rw [hV] at hg
        have HQ2 := Lib.hid hq2
        clear hq2 hE hV
        go_wp2_with (first | (go_at_call 36; refine hg.mono ?_; rintro e wn ⟨rfl, hR2, hK2⟩))
        go_ret2
        rw [← HT.out, ← HQ2.out]
        exact ⟨rfl, hR2, hK1.out.trans hK2⟩
      · rw [hV, if_pos rfl] at hq2
        rw [hV] at hg
        have HQ2 := Lib.hid hq2
        clear hq2 hE hV
        by_cases hkM : k = M
        · subst hkM
          have hj0 : j = 0 := by have := HJ.out; omega
          have hq3 := HQ2.out
          rw [hj0, Bi.rrun] at hq3
          have HQ3 := Lib.hid hq3
          clear hq3 HQ2 hj0
          go_wp2_with (first | (go_at_call 36; refine hg.mono ?_; rintro e wn ⟨rfl, hR2, hK2⟩) | (go_at_call 95; refine (back_c _ B b bs _ _ p q hR2).mono ?_; rintro e wm ⟨rfl, hR3, hK3⟩))
          go_ret2
          rw [← HT.out, ← HQ3.out]
          refine ⟨rfl, ?_, (hK1.out.trans hK2).trans hK3⟩
          show Sp _ _ _ _ ((t + 7) / 8) (8 * ((t + 7) / 8) - t)
          rw [← HP.out, ← HQ.out]
          exact hR3
        · have hkb : ((k : Int) == (M : Int)) = false := by simp; omega
          go_wp2_with (first | (go_at_call 36; refine hg.mono ?_; rintro e wn ⟨rfl, hR2, hK2⟩))
          go_roundw
          case rel =>
            refine ⟨k + 1, Bi.gN bs t', by omega, by go_num, hR2, hK1.out.trans hK2, hgn, ?_⟩
            show _ = _
            have := HJ.out
            rw [show M + 1 - (k + 1) = j by omega]
            exact HQ2.out
          case measure => simp [intOf]; omega
    · rw [if_neg (by rw [hE]; decide)] at hq2
      rw [hE] at hg hq2
      have hn1 : Bi.gN bs t' = t' := by simp [Bi.gN, hE]
      have hv1 : Bi.gR bs t' = 0 := by simp [Bi.gR, hE]
      rw [hn1, hv1] at hg
      have HQ2 := Lib.hid hq2
      clear hq2 hE hn1 hv1 hbit
      go_wp2_with (first | (go_at_call 36; refine hg.mono ?_; rintro e wn ⟨rfl, hR2, hK2⟩) | (go_at_call 95; refine (back_c _ B b bs _ _ p q hR2).mono ?_; rintro e wm ⟨rfl, hR3, hK3⟩))
      go_ret2
      rw [← HT.out, ← HQ2.out]
      refine ⟨rfl, ?_, (hK1.out.trans hK2).trans hK3⟩
      show Sp _ _ _ _ ((t + 7) / 8) (8 * ((t + 7) / 8) - t)
      rw [← HP.out, ← HQ.out]
      exact hR3
    · rw [if_neg (by rw [hE]; decide)] at hq2
      rw [hE] at hg hq2
      have hn1 : Bi.gN bs t' = t' := by simp [Bi.gN, hE]
      have hv1 : Bi.gR bs t' = 0 := by simp [Bi.gR, hE]
      rw [hn1, hv1] at hg
      have HQ2 := Lib.hid hq2
      clear hq2 hE hn1 hv1 hbit
      go_wp2_with (first | (go_at_call 36; refine hg.mono ?_; rintro e wn ⟨rfl, hR2, hK2⟩) | (go_at_call 95; refine (back_c _ B b bs _ _ p q hR2).mono ?_; rintro e wm ⟨rfl, hR3, hK3⟩))
      go_ret2
      rw [← HT.out, ← HQ2.out]
      refine ⟨rfl, ?_, (hK1.out.trans hK2).trans hK3⟩
      show Sp _ _ _ _ ((t + 7) / 8) (8 * ((t + 7) / 8) - t)
      rw [← HP.out, ← HQ.out]
      exact hR3
end Go.Proofs.Ytdhjmbjpigiadaa
