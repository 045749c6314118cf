/-
  Layer 11: both encoders in one state; Encode, Terminate, Reset.
-/
import Derived.Test.YtdnfnekfcndnhaaDoorRh
import Derived.Test.YtdnfnekfcndnhaaDoorEe2
set_option maxRecDepth 100000
namespace Go.Proofs.YtdnfnekfcndnhaaDoor
open Go.RowKit

section
variable {w w1 : World} {B B' a b : Nat} {x : Am.X}
theorem Ve.lt (h : Ve w B a x) : a < w.heap.size := h.elim fun _ h => h.elim fun _ h => h.elim fun _ h => h.1.core.lt
theorem Ve.fl (h : Ve w B a x) : ∀ k, Fp w a k → k < w.heap.size := h.elim fun _ h => h.elim fun _ h => h.elim fun _ h => h.1.core.fl
theorem Ve.fp (h : Ve w B a x) : ∀ k, Fp w a k → B ≤ k ∧ k < w.heap.size := h.elim fun _ h => h.elim fun _ h => h.elim fun _ h => h.1.core.fp
theorem Ve.out (h : Ve w B a x) (k : Kp a w w1) : Below B w w1 := h.elim fun _ h => h.elim fun _ h => h.elim fun _ h => h.1.core.out k
theorem Ve.keep (h : Ve w B a x) (hk : ∀ k, Fp w a k → w1.heap[k]? = w.heap[k]?) : Ve w1 B a x := by
  obtain ⟨pv, lv, bg, h, hb⟩ := h
  exact ⟨pv, lv, bg, h.keep hk, hb⟩
theorem Ve.below (h : Ve w B a x) (hb : Below w.heap.size w w1) : Ve w1 B a x := h.keep fun k hk => hb.block k (h.fl k hk)
theorem Ve.kp (h : Ve w B b x) (hd : Dj w a b) (hk : Kp a w w1) : Ve w1 B b x ∧ Dj w1 a b := ⟨h.keep (hd.kp hk h.fl).2, (hd.kp hk h.fl).1⟩
theorem Ve.lower (h : Ve w B a x) (hB : B' ≤ B) : Ve w B' a x := by
  obtain ⟨pv, lv, bg, h, hb⟩ := h
  exact ⟨pv, lv, bg, h.lower hB, hb⟩
end
/-- The code's and the reference's encoder in one state. -/
structure Le (N k : Nat) (w0 : World) (b c : Nat) (W : World) : Prop where
  both : ∃ x, Ec W w0.heap.size b x ∧ Ve W w0.heap.size c x ∧ Am.OkX x ∧ x.1.length = N ∧ x.2.n ≤ k
  dj : Dj W b c
  below : Below w0.heap.size w0 W
theorem Le.fl {N k : Nat} {w0 W : World} {b c : Nat} (h : Le N k w0 b c W) : (∀ i, Fp W b i → i < W.heap.size) ∧ (∀ i, Fp W c i → i < W.heap.size) := by
  obtain ⟨x, h1, h2, _⟩ := h.both
  exact ⟨h1.fl, h2.fl⟩
theorem Le.step {N k : Nat} {w0 W W1 : World} {b c : Nat} (h : Le N k w0 b c W) (hb : Below W.heap.size W W1) : Le N k w0 b c W1 := by
  have fl := h.fl
  obtain ⟨x, h1, h2, h3⟩ := h.both
  exact ⟨⟨x, h1.below hb, h2.below hb, h3⟩, h.dj.below hb (fl.1 b (.inl rfl)) (fl.2 c (.inl rfl)), below_call h.below hb⟩
theorem xn2 {x : Am.X} {c b : Int} (h : Am.OkX x) (h0 : 0 ≤ c) (h1 : c < x.1.length) : (Am.step x (c, b)).2.n ≤ x.2.n + 1 := (Am.enc_n b h.st (Am.pr_prob h h0 h1)).2
/-- Encode of both. -/
theorem both_enc (N k : Nat) (w0 W : World) (b c : Nat) (ctx bit : Int) (h : Le N k w0 b c W) (hN1 : 1 ≤ N) (hN : N ≤ 64) (hk : k ≤ 1000) :
    ∃ e, Calls Tryd.prog 13 #[.pointer (some ⟨b, 0, none⟩), .int .i64 ctx, .int .i64 bit] W fun en W1 => en = .returned (.int .i64 e) ∧ Kp b W W1 ∧
      Calls Tryd.prog 14 #[.pointer (some ⟨c, 0, none⟩), .int .i64 ctx, .int .i64 bit] W1 fun en w' => en = .returned (.int .i64 e) ∧ Kp c W1 w' ∧ Le N (k + 1) w0 b c w' := by
  obtain ⟨x, h1, h2, h3, h4, h5⟩ := h.both
  by_cases hc : 0 ≤ ctx ∧ ctx < x.1.length ∧ (bit = 0 ∨ bit = 1)
  · refine ⟨0, (enc_y W _ b x ctx bit h1 h3 hc (by omega) (by omega)).mono ?_⟩
    rintro e W1 ⟨rfl, hE1, hK1⟩
    obtain ⟨h2', hd'⟩ := h2.kp h.dj hK1
    refine ⟨rfl, hK1, (venc_y W1 _ c x ctx bit h2' h3 hc (by omega) (by omega)).mono ?_⟩
    rintro e W2 ⟨rfl, hV2, hK2⟩
    obtain ⟨h1', hd''⟩ := hE1.kp hd'.symm hK2
    exact ⟨rfl, hK2, ⟨_, h1', hV2, Am.step_ok h3 hc.1 hc.2.1, (Am.step_len _ _).trans h4, by have := xn2 (b := bit) h3 hc.1 hc.2.1; omega⟩, hd''.symm, (h.below.trans (h1.out hK1)).trans (h2'.out hK2)⟩
  · refine ⟨2, (enc_no W _ b x ctx bit h1 hc).mono ?_⟩
    rintro e W1 ⟨rfl, rfl⟩
    refine ⟨rfl, Kp.refl _ _, (venc_no W _ c x ctx bit h2 (by omega) (by omega) hc).mono ?_⟩
    rintro e W2 ⟨rfl, rfl⟩
    exact ⟨rfl, Kp.refl _ _, ⟨x, h1, h2, h3, h4, by omega⟩, h.dj, h.below⟩
theorem rep_ok2 {n : Nat} {s : Am.St} (h : Am.Ok s) : Am.OkX (List.replicate n 2048, s) := ⟨(x0_ok n).ps, h⟩
/-- Reset of both. -/
theorem both_ereset (N k : Nat) (w0 W : World) (b c : Nat) (h : Le N k w0 b c W) (hN1 : 1 ≤ N) (hN : N ≤ 64) :
    Calls Tryd.prog 11 #[.pointer (some ⟨b, 0, none⟩)] W fun en W1 => en = .returned (.tuple #[]) ∧ Kp b W W1 ∧
      Calls Tryd.prog 12 #[.pointer (some ⟨c, 0, none⟩)] W1 fun en w' => en = .returned (.tuple #[]) ∧ Kp c W1 w' ∧ Le N (k + 1) w0 b c w' := by
  obtain ⟨x, h1, h2, h3, h4, h5⟩ := h.both
  refine (ereset_c W _ b x h1 (by omega) (by omega)).mono ?_
  rintro e W1 ⟨rfl, hE1, hK1⟩
  obtain ⟨h2', hd'⟩ := h2.kp h.dj hK1
  refine ⟨rfl, hK1, (vreset_c W1 _ c x h2' (by omega)).mono ?_⟩
  rintro e W2 ⟨rfl, hV2, hK2⟩
  obtain ⟨h1', hd''⟩ := hE1.kp hd'.symm hK2
  exact ⟨rfl, hK2, ⟨_, h1', hV2, rep_ok2 h3.st, by rw [List.length_replicate]; exact h4, by show x.2.n ≤ k + 1; omega⟩, hd''.symm, (h.below.trans (h1.out hK1)).trans (h2'.out hK2)⟩
theorem cw_len2 (s : Am.St) : (Am.cw s).length ≤ s.n + 1 := by
  unfold Am.cw
  have := (Am.trim_pre (Am.dig (s.n + 1) (Am.cwv s / 16777216))).1
  rw [Am.dig_len] at this
  exact this
/-- Terminate of both: the two codewords read alike. -/
theorem both_term (N k : Nat) (w0 W : World) (b c : Nat) (h : Le N k w0 b c W) (hN1 : 1 ≤ N) (hN : N ≤ 64) (hk : k ≤ 1000) :
    ∃ l : List Int, l.length ≤ 1001 ∧ Calls Tryd.prog 9 #[.pointer (some ⟨b, 0, none⟩)] W fun en W1 => ∃ sl m, en = .returned (.slice sl l.length m) ∧ Kp b W W1 ∧
      Calls Tryd.prog 10 #[.pointer (some ⟨c, 0, none⟩)] W1 fun en w' => ∃ s2 m2, en = .returned (.slice (some s2) l.length m2) ∧ Kp c W1 w' ∧ HoldsB w' sl l ∧ HoldsB w' (some s2) l ∧ Le N (k + 1) w0 b c w' := by
  obtain ⟨x, h1, h2, h3, h4, h5⟩ := h.both
  refine ⟨Am.cw x.2, by have := cw_len2 x.2; omega, (eterm2_c W _ b x h1 h3.st (by omega)).mono ?_⟩
  rintro e W1 ⟨sl, m, rfl, hH, hm, hsl, hn, hE1, hK1⟩
  obtain ⟨h2', hd'⟩ := h2.kp h.dj hK1
  have hcs := (h.dj.kp hK1 h2.fl).2 c (.inl rfl)
  refine ⟨sl, m, rfl, hK1, (vterm_c W1 _ c x h2' h3.st (by omega) (by omega) (by omega)).mono ?_⟩
  rintro e W2 ⟨s2, m2, rfl, hH2, hm2, hs2, hV2, hK2⟩
  obtain ⟨h1', hd''⟩ := hE1.kp hd'.symm hK2
  refine ⟨s2, m2, rfl, hK2, holdsB_far hH (fun p hp => ?_), hH2, ⟨_, h1', hV2, ⟨h3.ps, Am.ok_init⟩, h4, by show 0 ≤ k + 1; omega⟩, hd''.symm, (h.below.trans (h1.out hK1)).trans (h2'.out hK2)⟩
  obtain ⟨_, ⟨ds, hb⟩, _, hor⟩ := hsl p hp
  refine hK2.block p.block hb.lt fun hf => ?_
  have hf2 := (fp_same hcs _).1 hf
  rcases hor with h6 | h6
  · exact h.dj _ h6 hf2
  · have := h2.fl _ hf2
    omega
end Go.Proofs.YtdnfnekfcndnhaaDoor
