/-
  Layer 11, the reference's decoder: Decode.
-/
import Derived.Test.YtbaappodeicomaaDoorSc
set_option maxRecDepth 100000
namespace Go.Proofs.YtbaappodeicomaaDoor
open Go.RowKit

section
variable {w w1 : World} {B B' a b : Nat} {P D : List Int} {x : Am.X}
theorem Sds.fl (h : Sds w B a x D) : ∀ k, Fp w a k → k < w.heap.size := by obtain ⟨_, _, h⟩ := h; exact h.core.fl
theorem Sds.keep (h : Sds w B a x D) (hk : ∀ k, Fp w a k → w1.heap[k]? = w.heap[k]?) : Sds w1 B a x D := by obtain ⟨pv, dv, h⟩ := h; exact ⟨pv, dv, h.keep hk⟩
theorem Sds.below (h : Sds w B a x D) (hb : Below w.heap.size w w1) : Sds w1 B a x D := h.keep fun k hk => hb.block k (h.fl k hk)
theorem Sds.kp (h : Sds w B b x D) (hd : Dj w a b) (hk : Kp a w w1) : Sds w1 B b x D ∧ Dj w1 a b := ⟨h.keep (hd.kp hk h.fl).2, (hd.kp hk h.fl).1⟩
theorem Sds.out (h : Sds w B a x D) (k : Kp a w w1) : Below B w w1 := by obtain ⟨_, _, h⟩ := h; exact h.core.out k
theorem Sd0.fl (h : Sd0 w B a P) : ∀ k, Fp w a k → k < w.heap.size := by obtain ⟨_, _, h⟩ := h; exact h.core.fl
theorem Sd0.keep (h : Sd0 w B a P) (hk : ∀ k, Fp w a k → w1.heap[k]? = w.heap[k]?) : Sd0 w1 B a P := by obtain ⟨pv, dv, h⟩ := h; exact ⟨pv, dv, h.keep hk⟩
theorem Sd0.below (h : Sd0 w B a P) (hb : Below w.heap.size w w1) : Sd0 w1 B a P := h.keep fun k hk => hb.block k (h.fl k hk)
end
/-- Decode of the reference while no codeword has begun. -/
theorem sdec_none (w : World) (B a : Nat) (P : List Int) (c : Int) (h : Sd0 w B a P) :
    Calls Tryd.prog 39 #[.pointer (some ⟨a, 0, none⟩), .int .i64 c] w fun e w' => e = .returned (.tuple #[.int .i64 0, .int .i64 6]) ∧ w = w' := by
  obtain ⟨pv, dv, h⟩ := h
  obtain ⟨c0, c1, c2, c3, c4, c5⟩ := h.cells
  have hp := fun W => ptrSn W ⟨a, 0, none⟩
  clear h c0 c1 c2 c3 c4
  go_enter Tryd.func39, Tryd.ntmps39
  go_wp2_with fail
  go_ret2
  exact ⟨rfl, rfl⟩
/-- Decode of the reference with a context that there is not. -/
theorem sdec_no (w : World) (B a : Nat) (x : Am.X) (D : List Int) (c : Int) (h : Sds w B a x D) (hc : ¬ (0 ≤ c ∧ c < x.1.length)) :
    Calls Tryd.prog 39 #[.pointer (some ⟨a, 0, none⟩), .int .i64 c] w fun e w' => e = .returned (.tuple #[.int .i64 0, .int .i64 2]) ∧ w = w' := by
  obtain ⟨pv, dv, h⟩ := h
  obtain ⟨c0, c1, c2, c3, c4, c5⟩ := h.cells
  obtain ⟨s, m, rfl⟩ := own_slice h.ps
  have hp := fun W => ptrSn W ⟨a, 0, none⟩
  clear h c1 c2 c3 c4
  by_cases h0 : c < 0
  · clear hc
    go_enter Tryd.func39, Tryd.ntmps39
    go_wp2_with fail
    go_ret2
    exact ⟨rfl, rfl⟩
  · have h1 : (x.1.length : Int) ≤ c := by omega
    clear hc
    go_enter Tryd.func39, Tryd.ntmps39
    go_wp2_with fail
    go_ret2
    exact ⟨rfl, rfl⟩
end Go.Proofs.YtbaappodeicomaaDoor
