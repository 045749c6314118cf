/-
  The code's writer beside the reference's: both hold the same bits.
-/
import Derived.Test.YtaddendclipkkaaLawA
import Derived.Test.YtaddendclipkkaaBk
set_option maxRecDepth 100000
namespace Go.Proofs.Ytaddendclipkkaa
open Go.RowKit

structure Two (w : World) (a b : Nat) (l : List Int) (W : World) : Prop where
  wr : Wr W w.heap.size a l
  vr : Vr W w.heap.size b l
  dj : Dj W a b
  below : Below w.heap.size w W
theorem Wr.lower {w : World} {B B' a : Nat} {l : List Int} (h : Wr w B a l) (hB : B' ≤ B) : Wr w B' a l := by
  obtain ⟨sv, h⟩ := h
  refine ⟨sv, Nat.le_trans hB h.ge, h.blk, h.own.1, ?_⟩
  rcases h.own.2 with h2 | ⟨g, cap, cur, hv, h3, h4⟩
  · exact .inl h2
  · exact .inr ⟨g, cap, cur, hv, Nat.le_trans hB h3, h4⟩
theorem Vr.lower {w : World} {B B' a : Nat} {l : List Int} (h : Vr w B a l) (hB : B' ≤ B) : Vr w B' a l := by
  obtain ⟨sv, h⟩ := h
  refine ⟨sv, Nat.le_trans hB h.ge, h.blk, h.own.1, ?_⟩
  rcases h.own.2 with h2 | ⟨g, cap, cur, hv, h3, h4⟩
  · exact .inl h2
  · exact .inr ⟨g, cap, cur, hv, Nat.le_trans hB h3, h4⟩
theorem Rd.lower {w : World} {B B' a : Nat} {l : List Int} {t : Nat} (h : Rd w B a l t) (hB : B' ≤ B) : Rd w B' a l t := by
  obtain ⟨sv, h⟩ := h
  refine ⟨sv, Nat.le_trans hB h.ge, h.blk, h.own.1, ?_⟩
  rcases h.own.2 with h2 | ⟨g, cap, cur, hv, h3, h4⟩
  · exact .inl h2
  · exact .inr ⟨g, cap, cur, hv, Nat.le_trans hB h3, h4⟩
theorem two_start {w W : World} {B1 B2 a b : Nat} (hW : Wr W B1 a []) (hV : Vr W B2 b []) (hD : Dj W a b) (hB : Below w.heap.size w W) (h1 : w.heap.size ≤ B1) (h2 : w.heap.size ≤ B2) : Two w a b [] W :=
  ⟨hW.lower h1, hV.lower h2, hD, hB⟩
theorem Two.step {w W W1 : World} {a b : Nat} {l : List Int} (h : Two w a b l W) (hb : Below W.heap.size W W1) : Two w a b l W1 :=
  ⟨h.wr.below hb, h.vr.below hb, h.dj.below hb h.wr.lt h.vr.lt, below_call h.below hb⟩
section
variable {w W x1 x2 : World} {a b g : Nat} {l l1 : List Int} {cs : Array Value}
theorem Two.w1 (h : Two w a b l W) (ho : Blk W g 38 cs) (hK : Kp a W x1) : Vr x1 w.heap.size b l ∧ Dj x1 a b ∧ Blk x1 g 38 cs ∧ Below w.heap.size w x1 :=
  ⟨(h.vr.kp h.dj hK).1, (h.vr.kp h.dj hK).2, ho.kp hK (h.wr.notop ho), h.below.trans (h.wr.out hK)⟩
theorem Two.w2 (hW : Wr x1 w.heap.size a l1) (hV : Vr x1 w.heap.size b l) (hD : Dj x1 a b) (hB : Below w.heap.size w x1) (hV2 : Vr x2 w.heap.size b l1) (hK : Kp b x1 x2) : Two w a b l1 x2 :=
  ⟨(hW.kp hD.symm hK).1, hV2, (hW.kp hD.symm hK).2.symm, hB.trans (hV.out hK)⟩
end
theorem op_open {w : World} {g : Nat} {x y z : Int} (h : Blk w g 38 #[.int .i64 x, .int .i64 y, .int .i64 z]) : w.cell? ⟨g, 0, none⟩ = some (.int .i64 x) ∧ w.cell? ⟨g, 1, none⟩ = some (.int .i64 y) ∧ w.cell? ⟨g, 2, none⟩ = some (.int .i64 z) := ⟨h.cell 0, h.cell 1, h.cell 2⟩
structure One (w : World) (a : Nat) (l : List Int) (W : World) : Prop where
  wr : Wr W w.heap.size a l
  below : Below w.heap.size w W
theorem One.step {w W W1 : World} {a : Nat} {l : List Int} (h : One w a l W) (hb : Below W.heap.size W W1) : One w a l W1 := ⟨h.wr.below hb, below_call h.below hb⟩
/-- The code's reader beside the code's writer of the bits that were read. -/
structure Cn (w : World) (a b : Nat) (bs : List Int) (t : Nat) (L : List Int) (W : World) : Prop where
  rd : Rd W w.heap.size a bs t
  wr : Wr W w.heap.size b L
  dj : Dj W a b
  below : Below w.heap.size w W
  bits : Bi.bits L
  le : t ≤ 8 * bs.length
  cut : Bi.Cut bs t (Bi.st L).1 (Bi.st L).2
section
variable {w W W1 W2 : World} {a b : Nat} {bs L : List Int} {t t' : Nat}
theorem Cn.r (h : Cn w a b bs t L W) (_ : Rd W1 w.heap.size a bs t') (hK : Kp a W W1) : Wr W1 w.heap.size b L ∧ Dj W1 a b ∧ Below w.heap.size w W1 :=
  ⟨(h.wr.kp h.dj hK).1, (h.wr.kp h.dj hK).2, h.below.trans (h.rd.out hK)⟩
theorem Cn.step (h : Cn w a b bs t L W) (hb : Bi.bytes bs) (hE : Bi.gE bs t = 0) (hR : Rd W1 w.heap.size a bs (Bi.gN bs t)) (hW : Wr W1 w.heap.size b L) (hD : Dj W1 a b) (hB : Below w.heap.size w W1) (hW2 : Wr W2 w.heap.size b (L ++ [Bi.gR bs t])) (hK : Kp b W1 W2) :
    Cn w a b bs (Bi.gN bs t) (L ++ [Bi.gR bs t]) W2 :=
  ⟨(hR.kp hD.symm hK).1, hW2, (hR.kp hD.symm hK).2.symm, hB.trans (hW.out hK), Bi.bits_snoc h.bits (Bi.gR_bit _ _), (Bi.gN_le h.le).2, by
    rw [Bi.st_snoc]
    exact Bi.cut_step h.cut (Bi.st_ok h.bits).fr7 hb hE⟩
theorem Cn.same (h : Cn w a b bs t L W) (hR : Rd W1 w.heap.size a bs t) (hK : Kp a W W1) : Cn w a b bs t L W1 :=
  ⟨hR, (h.r hR hK).1, (h.r hR hK).2.1, (h.r hR hK).2.2, h.bits, h.le, h.cut⟩
end
theorem alR_err (bs : List Int) (t : Nat) : (alR bs t).2.1 = 0 ∨ ((alR bs t).1 = 0 ∧ ((alR bs t).2.1 = 7 ∨ (alR bs t).2.1 = 8)) := by
  unfold alR
  split
  · split
    · split
      · exact .inr ⟨rfl, .inl rfl⟩
      · split
        · exact .inl rfl
        · exact .inr ⟨rfl, .inr rfl⟩
    · exact .inl rfl
  · split
    · exact .inl rfl
    · exact .inr ⟨rfl, .inr rfl⟩
theorem bit_put {v : Int} (h : Bi.bit v) : bitsM v 1 = [v] ∧ bitsC v 1 = 0 := by
  have e : okB v 1 = true := by rw [put_ok]; exact decide_eq_true h
  unfold bitsM bitsC
  rw [e]
  rcases h with rfl | rfl <;> exact ⟨by decide, rfl⟩
end Go.Proofs.Ytaddendclipkkaa
