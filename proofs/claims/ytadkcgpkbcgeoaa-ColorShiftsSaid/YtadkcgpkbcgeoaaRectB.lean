/-
  What each call of Intersect, Contains, join and Reduce returns and leaves: contracts.
-/
import Derived.Test.YtadkcgpkbcgeoaaRectA
import Derived.Deep.RegionHeld3
set_option maxRecDepth 100000
namespace Go.Proofs.Ytadkcgpkbcgeoaa
open Go.RowKit

theorem hmx (x y : Int) : (if x < y then y else x) = max x y := by split <;> omega
theorem hmn (x y : Int) : (if y < x then y else x) = min x y := by split <;> omega
theorem bcall {B : Nat} {a W w1 : World} (h : Below B a W) (hb : Below W.heap.size W w1) (hB : B ≤ W.heap.size) : Below B a w1 := h.trans (hb.mono hB)

theorem fieldsR : (Try.prog.fieldsOf 37).toList = [⟨"X0", 3, 0, false, "", "", 0⟩, ⟨"Y0", 3, 1, false, "", "", 8⟩, ⟨"X1", 3, 2, false, "", "", 16⟩, ⟨"Y1", 3, 3, false, "", "", 24⟩] := by kernel_rfl
theorem eqR (a b c d a' b' c' d' : Int) (w : World) : (Op.equalIn 10000 37 (.agg #[.int .i64 a, .int .i64 b, .int .i64 c, .int .i64 d]) (.agg #[.int .i64 a', .int .i64 b', .int .i64 c', .int .i64 d'])).run Try.prog w = .ok (Pl.eqB a b c d a' b' c' d') w := by
  have hu : Try.prog.underlying 37 = some (.struct (Try.prog.fieldsOf 37)) := by kernel_rfl
  have hp : Try.prog.stoodInHeld 37 = false := by kernel_rfl
  have h3 : Try.prog.underlying 3 = some (.int .i64) := by kernel_rfl
  have he := fun (x y : Int) => run_equalIn_int (P := Try.prog) w 9998 3 .i64 .i64 x y h3
  rw [run_equalIn_struct _ _ _ _ _ hu hp, fieldsR]
  simp only [Op.eqFields, part]
  simp [he, Pl.eqB]
  repeat' split
  all_goals simp_all

theorem two_call {w W w1 : World} {x0 x1 x2 x3 y0 y1 y2 y3 : Value} (h : W.cell? ⟨w.heap.size, 0, none⟩ = some (x0) ∧ W.cell? ⟨w.heap.size, 1, none⟩ = some (x1) ∧ W.cell? ⟨w.heap.size, 2, none⟩ = some (x2) ∧ W.cell? ⟨w.heap.size, 3, none⟩ = some (x3) ∧ W.cell? ⟨w.heap.size + 1, 0, none⟩ = some (y0) ∧ W.cell? ⟨w.heap.size + 1, 1, none⟩ = some (y1) ∧ W.cell? ⟨w.heap.size + 1, 2, none⟩ = some (y2) ∧ W.cell? ⟨w.heap.size + 1, 3, none⟩ = some (y3) ∧ Below w.heap.size w W ∧ w.heap.size + 1 < W.heap.size) (hb : Below W.heap.size W w1) :
    w1.cell? ⟨w.heap.size, 0, none⟩ = some (x0) ∧ w1.cell? ⟨w.heap.size, 1, none⟩ = some (x1) ∧ w1.cell? ⟨w.heap.size, 2, none⟩ = some (x2) ∧ w1.cell? ⟨w.heap.size, 3, none⟩ = some (x3) ∧ w1.cell? ⟨w.heap.size + 1, 0, none⟩ = some (y0) ∧ w1.cell? ⟨w.heap.size + 1, 1, none⟩ = some (y1) ∧ w1.cell? ⟨w.heap.size + 1, 2, none⟩ = some (y2) ∧ w1.cell? ⟨w.heap.size + 1, 3, none⟩ = some (y3) ∧ Below w.heap.size w w1 ∧ w.heap.size + 1 < w1.heap.size := by
  obtain ⟨h0, h1, h2, h3, h4, h5, h6, h7, hB, hz⟩ := h
  obtain ⟨hc, hf⟩ := bcell hb
  have hs := hb.size
  refine ⟨(hc _ _ (by omega)).trans h0, (hc _ _ (by omega)).trans h1, (hc _ _ (by omega)).trans h2, (hc _ _ (by omega)).trans h3, (hc _ _ (by omega)).trans h4, (hc _ _ (by omega)).trans h5, (hc _ _ (by omega)).trans h6, (hc _ _ (by omega)).trans h7, bcall hB hb (by omega), by omega⟩
end Go.Proofs.Ytadkcgpkbcgeoaa
