/-
  Layer 11: decoders that are nil; what the law's loop over a decoder's calls keeps.
-/
import Derived.Test.YtbaappodeicomaaDoorSg
set_option maxRecDepth 100000
namespace Go.Proofs.YtbaappodeicomaaDoor
open Go.RowKit

theorem snone_start (s : Option Addr) (n m : Nat) (w : World) : Calls Tryd.prog 35 #[.pointer none, .slice s n m] w fun e w' => e = .returned (.int .i64 6) ∧ w = w' := by
  go_enter Tryd.func35, Tryd.ntmps35
  go_wp2_with fail
  go_ret
  exact ⟨rfl, rfl⟩
theorem snone_dec (c : Int) (w : World) : Calls Tryd.prog 39 #[.pointer none, .int .i64 c] w fun e w' => e = .returned (.tuple #[.int .i64 0, .int .i64 6]) ∧ w = w' := by
  go_enter Tryd.func39, Tryd.ntmps39
  go_wp2_with fail
  go_ret2
  exact ⟨rfl, rfl⟩
theorem snone_reset (w : World) : Calls Tryd.prog 37 #[.pointer none] w fun e w' => e = .returned (.tuple #[]) ∧ w = w' := by
  go_enter Tryd.func37, Tryd.ntmps37
  go_wp2_with fail
  go_end0
  exact ⟨rfl, rfl⟩
/-- What the code's and the reference's decoder are in, both. -/
def Both (N k : Nat) (w0 : World) (b c : Nat) (W : World) : Prop :=
  (∃ P, D0 W w0.heap.size b P ∧ Sd0 W w0.heap.size c P ∧ Am.OkX (P, Am.St.init) ∧ P.length = N) ∨
  (∃ x D, Ds W w0.heap.size b x (Am.fixd D) ∧ Sds W w0.heap.size c x D ∧ Am.OkX x ∧ Am.InX x (Am.fixd D) ∧ Am.bytes D ∧ D.length ≤ 300 ∧ x.1.length = N ∧ x.2.n ≤ k)
structure Ld (N k : Nat) (w0 : World) (b c : Nat) (W : World) : Prop where
  both : Both N k w0 b c W
  dj : Dj W b c
  below : Below w0.heap.size w0 W
theorem Both.fl {N k : Nat} {w0 W : World} {b c : Nat} (h : Both N k w0 b c W) : (∀ i, Fp W b i → i < W.heap.size) ∧ (∀ i, Fp W c i → i < W.heap.size) := by
  rcases h with ⟨P, h1, h2, _⟩ | ⟨x, D, h1, h2, _⟩
  · exact ⟨h1.fl, h2.fl⟩
  · exact ⟨h1.fl, h2.fl⟩
theorem Ld.step {N k : Nat} {w0 W W1 : World} {b c : Nat} (h : Ld N k w0 b c W) (hb : Below W.heap.size W W1) : Ld N k w0 b c W1 := by
  have fl := h.both.fl
  refine ⟨?_, h.dj.below hb (fl.1 b (.inl rfl)) (fl.2 c (.inl rfl)), below_call h.below hb⟩
  rcases h.both with ⟨P, h1, h2, h3⟩ | ⟨x, D, h1, h2, h3⟩
  · exact .inl ⟨P, h1.below hb, h2.below hb, h3⟩
  · exact .inr ⟨x, D, h1.below hb, h2.below hb, h3⟩
theorem xn {x : Am.X} {c b : Int} (h : Am.OkX x) (h0 : 0 ≤ c) (h1 : c < x.1.length) : (Am.step x (c, b)).2.n ≤ x.2.n + 1 := (Am.enc_n b h.st (Am.pr_prob h h0 h1)).2
/-- Decode of both. -/
theorem both_dec (N k : Nat) (w0 W : World) (b c : Nat) (ctx : Int) (h : Ld N k w0 b c W) (hN : N ≤ 64) (hk : k ≤ 1000) :
    ∃ v e, Calls Tryd.prog 38 #[.pointer (some ⟨b, 0, none⟩), .int .i64 ctx] W fun en W1 => en = .returned (.tuple #[.int .i64 v, .int .i64 e]) ∧ Kp b W W1 ∧
      Calls Tryd.prog 39 #[.pointer (some ⟨c, 0, none⟩), .int .i64 ctx] W1 fun en w' => en = .returned (.tuple #[.int .i64 v, .int .i64 e]) ∧ Kp c W1 w' ∧ Ld N (k + 1) w0 b c w' := by
  rcases h.both with ⟨P, h1, h2, h3, h4⟩ | ⟨x, D, h1, h2, h3, h4, h5, h6, h7, h8⟩
  · refine ⟨0, 6, (dec_none W _ b P ctx h1).mono ?_⟩
    rintro e W1 ⟨rfl, rfl⟩
    refine ⟨rfl, Kp.refl _ _, (sdec_none W _ c P ctx h2).mono ?_⟩
    rintro e W2 ⟨rfl, rfl⟩
    exact ⟨rfl, Kp.refl _ _, .inl ⟨P, h1, h2, h3, h4⟩, h.dj, h.below⟩
  · have hr : x.2.rg ≠ 0 := by have := h3.st.r1; omega
    by_cases hc : 0 ≤ ctx ∧ ctx < x.1.length
    · refine ⟨Am.dnext x (Am.fixd D) ctx, 0, (dec_y W _ b x _ ctx h1 h3 h4 (Am.fixd_bytes h5) (by rw [Am.fixd_len]; omega) hc (by omega)).mono ?_⟩
      rintro e W1 ⟨rfl, hD1, hK1⟩
      obtain ⟨h2', hd'⟩ := h2.kp h.dj hK1
      refine ⟨rfl, hK1, (sdec_y W1 _ c x D ctx h2' h3 h4 h5 hc (by omega) (by omega)).mono ?_⟩
      rintro e W2 ⟨rfl, hS2, hK2⟩
      obtain ⟨h1', hd''⟩ := hD1.kp hd'.symm hK2
      exact ⟨rfl, hK2, .inr ⟨_, D, h1', hS2, Am.step_ok h3 hc.1 hc.2, Am.step_fwd h3 (Am.fixd_bytes h5) hc.1 hc.2 h4 rfl, h5, h6, (Am.step_len _ _).trans h7, by have := xn (b := Am.dnext x (Am.fixd D) ctx) h3 hc.1 hc.2; omega⟩, hd''.symm, (h.below.trans (h1.out hK1)).trans (h2'.out hK2)⟩
    · refine ⟨0, 2, (dec_no W _ b x _ ctx h1 hr hc).mono ?_⟩
      rintro e W1 ⟨rfl, rfl⟩
      refine ⟨rfl, Kp.refl _ _, (sdec_no W _ c x D ctx h2 hc).mono ?_⟩
      rintro e W2 ⟨rfl, rfl⟩
      exact ⟨rfl, Kp.refl _ _, .inr ⟨x, D, h1, h2, h3, h4, h5, h6, h7, by omega⟩, h.dj, h.below⟩
end Go.Proofs.YtbaappodeicomaaDoor
