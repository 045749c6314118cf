/-
  Layer 11: both decoders: Start, Reset.
-/
import Derived.Test.YtbaappodeicomaaDoorSh
set_option maxRecDepth 100000
namespace Go.Proofs.YtbaappodeicomaaDoor
open Go.RowKit

theorem Both.parts {N k : Nat} {w0 W : World} {b c : Nat} (h : Both N k w0 b c W) : ∃ P, Dk0 W w0.heap.size b P ∧ (∃ pv dv D0 t v rg bg, SdC W w0.heap.size c pv dv P D0 t v rg bg) ∧ Am.OkX (P, Am.St.init) ∧ P.length = N := by
  rcases h with ⟨P, h1, ⟨pv, dv, h2⟩, h3, h4⟩ | ⟨x, D, h1, ⟨pv, dv, h2⟩, h3, h4, h5, h6, h7, h8⟩
  · exact ⟨P, h1.any, ⟨_, _, _, _, _, _, _, h2⟩, h3, h4⟩
  · exact ⟨x.1, h1.any, ⟨_, _, _, _, _, _, _, h2⟩, ⟨h3.ps, Am.ok_init⟩, h7⟩
theorem SdC.kp {w w1 : World} {B a b t : Nat} {pv dv : Value} {P D : List Int} {v rg : Int} {bg : Bool} (h : SdC w B b pv dv P D t v rg bg) (hd : Dj w a b) (hk : Kp a w w1) : SdC w1 B b pv dv P D t v rg bg ∧ Dj w1 a b := ⟨h.keep (hd.kp hk h.core.fl).2, (hd.kp hk h.core.fl).1⟩
/-- Start of both. -/
theorem both_start (N k : Nat) (w0 W : World) (b c : Nat) (s : Option Addr) (m : Nat) (D : List Int) (h : Ld N k w0 b c W) (h1 : 1 ≤ N) (hH : HoldsB w0 s D) (hs : s = none → D = [] ∧ m = 0) (hD : Am.bytes D) (hl : D.length ≤ 300) :
    Calls Tryd.prog 34 #[.pointer (some ⟨b, 0, none⟩), .slice s D.length m] W fun en W1 => en = .returned (.int .i64 0) ∧ Kp b W W1 ∧
      Calls Tryd.prog 35 #[.pointer (some ⟨c, 0, none⟩), .slice s D.length m] W1 fun en w' => en = .returned (.int .i64 0) ∧ Kp c W1 w' ∧ Ld N (k + 1) w0 b c w' := by
  obtain ⟨P, hP, ⟨pv, dv, D0, t, v, rg, bg, hS⟩, hx, hn⟩ := h.both.parts
  refine (hP.start s m D (hH.below h.below (Nat.le_refl _)) hs hD (by omega)).mono ?_
  rintro e W1 ⟨rfl, hD1, hK1⟩
  obtain ⟨hS', hd'⟩ := hS.kp h.dj hK1
  have hB1 := h.below.trans (hP.out hK1)
  refine ⟨rfl, hK1, (sstart_c W1 _ c t m pv dv s P D0 D v rg bg hS' (by omega) (hH.below hB1 (Nat.le_refl _)) hs hD (by omega)).mono ?_⟩
  rintro e W2 ⟨rfl, hS2, hK2⟩
  obtain ⟨h1', hd''⟩ := hD1.kp hd'.symm hK2
  exact ⟨rfl, hK2, .inr ⟨_, D, h1', hS2, hx, Am.fixd_in hD, hD, hl, hn, Nat.zero_le _⟩, hd''.symm, hB1.trans (hS'.core.out hK2)⟩
theorem rep_ok {n : Nat} {s : Am.St} (h : Am.Ok s) : Am.OkX (List.replicate n 2048, s) := ⟨(x0_ok n).ps, h⟩
/-- Reset of both. -/
theorem both_reset (N k : Nat) (w0 W : World) (b c : Nat) (h : Ld N k w0 b c W) (h1 : 1 ≤ N) (hN : N ≤ 64) :
    Calls Tryd.prog 36 #[.pointer (some ⟨b, 0, none⟩)] W fun en W1 => en = .returned (.tuple #[]) ∧ Kp b W W1 ∧
      Calls Tryd.prog 37 #[.pointer (some ⟨c, 0, none⟩)] W1 fun en w' => en = .returned (.tuple #[]) ∧ Kp c W1 w' ∧ Ld N (k + 1) w0 b c w' := by
  rcases h.both with ⟨P, ⟨pv, hD⟩, ⟨pv2, dv, hS⟩, h3, h4⟩ | ⟨x, D, ⟨pv, s, m, hD⟩, ⟨pv2, dv, hS⟩, h3, hi, h5, h6, h7, h8⟩
  · refine (dreset_c W _ b 0 pv none P [] 0 0 hD (by omega) (by omega)).mono ?_
    rintro e W1 ⟨rfl, hD1, hK1⟩
    obtain ⟨hS', hd'⟩ := hS.kp h.dj hK1
    refine ⟨rfl, hK1, (sreset_c W1 _ c 0 pv2 dv P [] 0 0 false hS' (by omega)).mono ?_⟩
    rintro e W2 ⟨rfl, ⟨pv3, hS2⟩, hK2⟩
    obtain ⟨h1', hd''⟩ := (show D0 W1 w0.heap.size b _ from ⟨pv, hD1⟩).kp hd'.symm hK2
    exact ⟨rfl, hK2, .inl ⟨_, h1', ⟨pv3, dv, hS2⟩, rep_ok Am.ok_init, by rw [List.length_replicate]; exact h4⟩, hd''.symm, (h.below.trans (hD.core.out hK1)).trans (hS'.core.out hK2)⟩
  · refine (dreset_c W _ b m pv s x.1 _ _ _ hD (by omega) (by omega)).mono ?_
    rintro e W1 ⟨rfl, hD1, hK1⟩
    obtain ⟨hS', hd'⟩ := hS.kp h.dj hK1
    refine ⟨rfl, hK1, (sreset_c W1 _ c _ pv2 dv x.1 D _ _ true hS' (by omega)).mono ?_⟩
    rintro e W2 ⟨rfl, ⟨pv3, hS2⟩, hK2⟩
    obtain ⟨h1', hd''⟩ := (show Ds W1 w0.heap.size b (List.replicate x.1.length 2048, x.2) (Am.fixd D) from ⟨pv, s, m, hD1⟩).kp hd'.symm hK2
    exact ⟨rfl, hK2, .inr ⟨(List.replicate x.1.length 2048, x.2), D, h1', ⟨pv3, dv, hS2⟩, rep_ok h3.st, hi, h5, h6, by show (List.replicate x.1.length (2048 : Int)).length = N; rw [List.length_replicate]; exact h7, by show x.2.n ≤ k + 1; omega⟩, hd''.symm, (h.below.trans (hD.core.out hK1)).trans (hS'.core.out hK2)⟩
end Go.Proofs.YtbaappodeicomaaDoor
