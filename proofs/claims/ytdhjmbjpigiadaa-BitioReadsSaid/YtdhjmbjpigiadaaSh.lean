/-
  The reference's reader of layer 9: Align at any place of the code's reader; a call.
-/
import Derived.Test.YtdhjmbjpigiadaaSg
set_option maxRecDepth 100000
namespace Go.Proofs.Ytdhjmbjpigiadaa
open Go.RowKit

theorem sal_c (w : World) (B b : Nat) (bs : List Int) (t : Nat) (hR : Sd w B b bs t) (ht : t ≤ 8 * bs.length) (hb : Bi.bytes bs) (hl : bs.length ≤ 100000000) :
    Calls Try.prog 69 #[.pointer (some ⟨b, 0, none⟩)] w (SGives B b bs (alR bs t).2.2 (alR bs t).1 (alR bs t).2.1 w) := by
  unfold Sd at hR
  obtain ⟨n, hn⟩ : ∃ n, n = t / 8 := ⟨_, rfl⟩
  unfold alR
  rw [← hn]
  by_cases hr : t % 8 = 0
  · rw [if_pos hr]
    have e1 : (t + 7) / 8 = n := by omega
    have e2 : 8 * n - t = 0 := by omega
    rw [e1, e2] at hR
    cases n with
    | zero =>
      rw [if_neg (by simp [Bi.lst])]
      exact (sal_0 w B b bs hR hl).mono fun _ _ h => h.to e1 e2
    | succ k =>
      have hk : k < bs.length := by omega
      have eL : Bi.lst (bs.take (k + 1)) = bs[k] := by
        have e : (bs.take (k + 1)).length = k + 1 := by simp; omega
        unfold Bi.lst
        rw [e, Nat.add_sub_cancel, List.getD_eq_getElem?_getD, List.getElem?_take_of_lt (by omega), List.getElem?_eq_getElem (by omega)]
        rfl
      rw [eL]
      by_cases hs : bs[k] = 255
      · rw [if_pos hs]
        by_cases hkl : k + 1 = bs.length
        · rw [if_pos hkl]
          exact (sal_t w B b bs k hR hkl hs hl).mono fun _ _ h => h.to e1 e2
        · rw [if_neg hkl]
          have hk1 : k + 1 < bs.length := by omega
          have eD : bs.getD (k + 1) 0 = bs[k + 1] := by rw [List.getD_eq_getElem?_getD, List.getElem?_eq_getElem hk1]; rfl
          rw [eD]
          by_cases hz : bs[k + 1] = 0
          · rw [if_pos hz]
            have h := sal_s0 w B b bs k hR hk1 hs hz hl
            have e3 : ((k + 1 + 1 : Nat) : Int) = (k : Int) + 2 := by omega
            rw [e3]
            exact h.mono fun _ _ h => h.to (by dsimp only; omega) (by dsimp only; omega)
          · rw [if_neg hz]
            exact (sal_s1 w B b bs k hR hk1 hs hz hl).mono fun _ _ h => h.to e1 e2
      · rw [if_neg hs]
        have h := sal_n w B b bs k hR (by omega) hs hl
        have e3 : ((k + 1 : Nat) : Int) = (k : Int) + 1 := by omega
        rw [e3]
        exact h.mono fun _ _ h => h.to e1 e2
  · rw [if_neg hr]
    have hnl : n < bs.length := by omega
    have hx := hb bs[n] (List.getElem_mem _)
    obtain ⟨r, hrr⟩ : ∃ r, r = t % 8 := ⟨_, rfl⟩
    have e1 : (t + 7) / 8 = n + 1 := by omega
    have e2 : 8 * (n + 1) - t = 7 - r + 1 := by omega
    rw [e1, e2] at hR
    have eD : bs.getD n 0 = bs[n] := by rw [List.getD_eq_getElem?_getD, List.getElem?_eq_getElem hnl]; rfl
    have e4 : 8 - t % 8 = 7 - r + 1 := by omega
    rw [eD, e4]
    by_cases hz : bs[n] % 2 ^ (7 - r + 1) = 0
    · rw [if_pos hz]
      have h := sal_r0 w B b bs n (7 - r) hR hnl (by omega) hx hz hl
      have e3 : ((n + 1 : Nat) : Int) = (n : Int) + 1 := by omega
      rw [e3]
      exact h.mono fun _ _ h => h.to (by dsimp only; omega) (by dsimp only; omega)
    · rw [if_neg hz]
      exact (sal_r1 w B b bs n (7 - r) hR hnl (by omega) hx hz hl).mono fun _ _ h => h.to e1 e2
theorem readS_c (w : World) (B b : Nat) (bs : List Int) (t : Nat) (k v n : Int) (hR : Sd w B b bs t) (ht : t ≤ 8 * bs.length) (hb : Bi.bytes bs) (hl : bs.length ≤ 100000000) :
    Calls Try.prog 32 #[.pointer (some ⟨b, 0, none⟩), .agg #[.int .i64 k, .int .i64 v, .int .i64 n]] w (SGives B b bs (rdR bs t k n).2.2 (rdR bs t k n).1 (rdR bs t k n).2.1 w) := by
  have hA : Below w.heap.size w (w.alloc (.cells #[.int .i64 k, .int .i64 v, .int .i64 n] 30)) := (Below.refl _ _).alloc (Nat.le_refl _) _
  have hR1 : Sd _ B b bs t := Sp.below hR hA
  have hK : Kp b w (w.alloc (.cells #[.int .i64 k, .int .i64 v, .int .i64 n] 30)) := Kp.of_below hA hR.lt
  have h0 := sget_c _ B b bs t hR1 ht hb hl
  have h1 := sbits_c _ B b bs t n hR1 ht hb hl
  have h2 := sgam_c _ B b bs t hR1 ht hb hl
  have h3 := suna_c _ B b bs t n hR1 ht hb hl
  have h4 := sal_c _ B b bs t hR1 ht hb hl
  unfold rdR
  by_cases e0 : k = 0
  · subst e0
    go_enter Try.func32, Try.ntmps32
    go_wp2_with (first | (go_at_call 36; (with_reducible refine h0.mono ?_); rintro e wn ⟨rfl, hR2, hK2⟩))
    go_ret2
    exact ⟨rfl, hR2, hK.trans hK2⟩
  by_cases e1 : k = 1
  · subst e1
    go_enter Try.func32, Try.ntmps32
    go_wp2_with (first | (go_at_call 66; (with_reducible refine h1.mono ?_); rintro e wn ⟨rfl, hR2, hK2⟩))
    go_ret2
    exact ⟨rfl, hR2, hK.trans hK2⟩
  by_cases e2 : k = 2
  · subst e2
    go_enter Try.func32, Try.ntmps32
    go_wp2_with (first | (go_at_call 67; (with_reducible refine h2.mono ?_); rintro e wn ⟨rfl, hR2, hK2⟩))
    go_ret2
    exact ⟨rfl, hR2, hK.trans hK2⟩
  by_cases e3 : k = 3
  · subst e3
    go_enter Try.func32, Try.ntmps32
    go_wp2_with (first | (go_at_call 68; (with_reducible refine h3.mono ?_); rintro e wn ⟨rfl, hR2, hK2⟩))
    go_ret2
    exact ⟨rfl, hR2, hK.trans hK2⟩
  by_cases e4 : k = 4
  · subst e4
    go_enter Try.func32, Try.ntmps32
    go_wp2_with (first | (go_at_call 69; (with_reducible refine h4.mono ?_); rintro e wn ⟨rfl, hR2, hK2⟩))
    go_ret2
    exact ⟨rfl, hR2, hK.trans hK2⟩
  · have q0 : (k == 0) = false := by simpa using e0
    have q1 : (k == 1) = false := by simpa using e1
    have q2 : (k == 2) = false := by simpa using e2
    have q3 : (k == 3) = false := by simpa using e3
    have q4 : (k == 4) = false := by simpa using e4
    rw [if_neg e0, if_neg e1, if_neg e2, if_neg e3, if_neg e4]
    clear e0 e1 e2 e3 e4
    go_enter Try.func32, Try.ntmps32
    go_wp2_with fail
    go_ret2
    exact ⟨rfl, hR1, hK⟩
end Go.Proofs.Ytdhjmbjpigiadaa
