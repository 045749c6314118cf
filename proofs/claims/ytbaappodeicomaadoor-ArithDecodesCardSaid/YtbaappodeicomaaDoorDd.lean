/-
  Layer 11, the code's decoder: Reset; Decode before Start.
-/
import Derived.Test.YtbaappodeicomaaDoorLf
set_option maxRecDepth 100000
namespace Go.Proofs.YtbaappodeicomaaDoor
open Go.RowKit

theorem dreset_c (w : World) (B a m : Nat) (pv : Value) (s : Option Addr) (P bs : List Int) (v rg : Int) (h : DkC w B a pv s m P bs v rg) (h1 : 1 ≤ P.length) (hl : P.length ≤ 64) :
    Calls Tryd.prog 36 #[.pointer (some ⟨a, 0, none⟩)] w fun e w' => e = .returned (.tuple #[]) ∧ DkC w' B a pv s m (List.replicate P.length 2048) bs v rg ∧ Kp a w w' := by
  obtain ⟨c0, c1, c2, c3, c4⟩ := h.cells
  obtain ⟨sp, mp, rfl⟩ := own_slice h.ps
  obtain ⟨g, rfl, _, _, _, _⟩ := own_at h.ps 0 (by omega)
  have hr := mreset_c w B a g mp P.length 67 _ _ h.core rfl h.ps hl
  have H := Lib.hid h
  clear h
  go_enter Tryd.func36, Tryd.ntmps36
  go_wp2_with (first | (go_at_call 75; refine (dmade_y _ _ c1).mono ?_; rintro e wn ⟨rfl, rfl⟩) | (go_at_call 71; refine hr.mono ?_; rintro e w4 ⟨rfl, hC4, hO4, hK4, hS4⟩))
  go_end0
  refine ⟨rfl, ⟨hC4, by rw [List.length_replicate]; exact hO4, holdsB_far H.out.rest fun p hp => hS4 p.block (H.out.apart g rfl p hp), H.out.cap, fun p hp => ?_⟩, hK4⟩
  obtain ⟨u1, ds, u2⟩ := H.out.u8 p hp
  exact ⟨u1, ds, (hS4 p.block (H.out.apart g rfl p hp)).trans u2⟩
/-- Decode while no codeword has begun. -/
theorem dec_none (w : World) (B a : Nat) (P : List Int) (c : Int) (h : D0 w B a P) :
    Calls Tryd.prog 38 #[.pointer (some ⟨a, 0, none⟩), .int .i64 c] w fun e w' => e = .returned (.tuple #[.int .i64 0, .int .i64 6]) ∧ w = w' := by
  obtain ⟨pv, h⟩ := h
  obtain ⟨c0, c1, c2, c3, c4⟩ := h.cells
  clear h
  go_enter Tryd.func38, Tryd.ntmps38
  go_wp2_with (first | (go_at_call 75; refine (dmade_y _ _ c1).mono ?_; rintro e wn ⟨rfl, rfl⟩))
  go_ret2
  exact ⟨rfl, rfl⟩
end Go.Proofs.YtbaappodeicomaaDoor
