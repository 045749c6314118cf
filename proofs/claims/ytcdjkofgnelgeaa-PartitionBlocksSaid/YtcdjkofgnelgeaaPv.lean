/-
  What the statements of layer 22 are closed by: a resolution, a subband and a precinct as an argument.
-/
import Derived.Test.YtcdjkofgnelgeaaFrame
import Derived.Test.YtcdjkofgnelgeaaPu
set_option maxRecDepth 100000
namespace Go.Proofs.Ytcdjkofgnelgeaa
open Go.ChangeShapes Go.WideShapes Go.ChangeAt Go.RowKit Go.Joins Go.Deep

theorem arr4' (T : List Value) (h : T.length = 4) : ∃ v0 v1 v2 v3, T = [v0, v1, v2, v3] := by
  match T, h with
  | [v0, v1, v2, v3], _ => exact ⟨v0, v1, v2, v3, rfl⟩
theorem arr12' (T : Array Value) (h : T.size = 12) : ∃ v0 v1 v2 v3 v4 v5 v6 v7 v8 v9 v10 v11, T = #[v0, v1, v2, v3, v4, v5, v6, v7, v8, v9, v10, v11] := by
  obtain ⟨l⟩ := T
  match l, h with
  | [v0, v1, v2, v3, v4, v5, v6, v7, v8, v9, v10, v11], _ => exact ⟨v0, v1, v2, v3, v4, v5, v6, v7, v8, v9, v10, v11, rfl⟩
theorem open_rectF {H : Type} {enc : TypeId × Value → H} {w : World} {fuel : Nat} {c0 c1 c2 c3 : Value} {x : DataW H × List MemPlace}
    (hf : DataW.trod enc Try.prog w 0 (fun _ => true) true fuel 23 [c0, c1, c2, c3] = some x) : ∃ a b c d : Int, c0 = .int .i64 a ∧ c1 = .int .i64 b ∧ c2 = .int .i64 c ∧ c3 = .int .i64 d := by
  obtain ⟨d, p⟩ := x
  obtain ⟨xs, m, _, _, _, hl, hg⟩ := DataW.trod_struct Try.underlying23 hf
  have hx : ∀ j, j < 4 → ∃ y, xs[j]? = some y := fun j hj => ⟨_, List.getElem?_eq_getElem (by rw [hl]; exact hj)⟩
  obtain ⟨y0, e0⟩ := hx 0 (by decide)
  obtain ⟨y1, e1⟩ := hx 1 (by decide)
  obtain ⟨y2, e2⟩ := hx 2 (by decide)
  obtain ⟨y3, e3⟩ := hx 3 (by decide)
  have t0 : DataW.trod enc Try.prog w 0 (fun _ => true) true m 3 [c0] = some y0 := (hg 0 _ rfl).trans e0
  have t1 : DataW.trod enc Try.prog w 0 (fun _ => true) true m 3 [c1] = some y1 := (hg 1 _ rfl).trans e1
  have t2 : DataW.trod enc Try.prog w 0 (fun _ => true) true m 3 [c2] = some y2 := (hg 2 _ rfl).trans e2
  have t3 : DataW.trod enc Try.prog w 0 (fun _ => true) true m 3 [c3] = some y3 := (hg 3 _ rfl).trans e3
  obtain ⟨a, f0, _, w0⟩ := DataW.trod_int Try.underlying3 t0
  obtain ⟨b, f1, _, w1⟩ := DataW.trod_int Try.underlying3 t1
  obtain ⟨c, f2, _, w2⟩ := DataW.trod_int Try.underlying3 t2
  obtain ⟨d', f3, _, w3⟩ := DataW.trod_int Try.underlying3 t3
  simp at f0 f1 f2 f3
  exact ⟨a, b, c, d', f0, f1, f2, f3⟩
theorem open_part {H : Type} {enc : TypeId × Value → H} {w : World} {r : Reach} {b0 : Nat} {v : Value} {d : DataW H} {p : List MemPlace}
    (hv : Value.okWide Try.prog w r b0 32 v) (h : DataW.Trod enc Try.prog w 0 (fun _ => true) true 32 v d p) :
    ∃ a b c d a2 b2 c2 d2 o px py idx : Int, v = .agg #[.int .i64 a, .int .i64 b, .int .i64 c, .int .i64 d, .int .i64 a2, .int .i64 b2, .int .i64 c2, .int .i64 d2, .int .i64 o, .int .i64 px, .int .i64 py, .int .i64 idx] := by
  obtain ⟨cs, rfl, hsz⟩ := okWide_struct Try.underlying32 hv
  obtain ⟨c0, c1, c2, c3, c4, c5, c6, c7, c8, c9, c10, c11, rfl⟩ := arr12' _ (hsz.trans (by kernel_rfl))
  obtain ⟨fuel, hf⟩ := h
  obtain ⟨xs, n, _, _, _, hl, hg⟩ := DataW.trod_struct Try.underlying32 hf
  have hx : ∀ j, j < 6 → ∃ y, xs[j]? = some y := fun j hj => ⟨_, List.getElem?_eq_getElem (by rw [hl]; exact hj)⟩
  obtain ⟨y0, e0⟩ := hx 0 (by decide)
  obtain ⟨y1, e1⟩ := hx 1 (by decide)
  obtain ⟨y2, e2⟩ := hx 2 (by decide)
  obtain ⟨y3, e3⟩ := hx 3 (by decide)
  obtain ⟨y4, e4⟩ := hx 4 (by decide)
  obtain ⟨y5, e5⟩ := hx 5 (by decide)
  have t0 : DataW.trod enc Try.prog w 0 (fun _ => true) true n 23 [c0, c1, c2, c3] = some y0 := (hg 0 _ rfl).trans e0
  have t1 : DataW.trod enc Try.prog w 0 (fun _ => true) true n 23 [c4, c5, c6, c7] = some y1 := (hg 1 _ rfl).trans e1
  have t2 : DataW.trod enc Try.prog w 0 (fun _ => true) true n 30 [c8] = some y2 := (hg 2 _ rfl).trans e2
  have t3 : DataW.trod enc Try.prog w 0 (fun _ => true) true n 3 [c9] = some y3 := (hg 3 _ rfl).trans e3
  have t4 : DataW.trod enc Try.prog w 0 (fun _ => true) true n 3 [c10] = some y4 := (hg 4 _ rfl).trans e4
  have t5 : DataW.trod enc Try.prog w 0 (fun _ => true) true n 3 [c11] = some y5 := (hg 5 _ rfl).trans e5
  obtain ⟨a, b, c, d', rfl, rfl, rfl, rfl⟩ := open_rectF t0
  obtain ⟨a2, b2, c2', d2, rfl, rfl, rfl, rfl⟩ := open_rectF t1
  obtain ⟨o, f2, _, w2⟩ := DataW.trod_int Try.underlying30 t2
  obtain ⟨px, f3, _, w3⟩ := DataW.trod_int Try.underlying3 t3
  obtain ⟨py, f4, _, w4⟩ := DataW.trod_int Try.underlying3 t4
  obtain ⟨idx, f5, _, w5⟩ := DataW.trod_int Try.underlying3 t5
  simp at f2 f3 f4 f5
  subst f2 f3 f4 f5
  exact ⟨a, b, c, d', a2, b2, c2', d2, o, px, py, idx, rfl⟩
/-- The cells of such an argument. -/
theorem Blk.part {w : World} {g : Nat} {t : TypeId} {a b c d a2 b2 c2 d2 o px py idx : Value} (h : Blk w g t #[a, b, c, d, a2, b2, c2, d2, o, px, py, idx]) : (w.cell? ⟨g, 0, none⟩ = some a ∧ w.cell? ⟨g, 1, none⟩ = some b ∧ w.cell? ⟨g, 2, none⟩ = some c ∧ w.cell? ⟨g, 3, none⟩ = some d) ∧ (w.cell? ⟨g, 4, none⟩ = some a2 ∧ w.cell? ⟨g, 5, none⟩ = some b2 ∧ w.cell? ⟨g, 6, none⟩ = some c2 ∧ w.cell? ⟨g, 7, none⟩ = some d2) ∧ (w.cell? ⟨g, 8, none⟩ = some o ∧ w.cell? ⟨g, 9, none⟩ = some px ∧ w.cell? ⟨g, 10, none⟩ = some py ∧ w.cell? ⟨g, 11, none⟩ = some idx) :=
  ⟨⟨h.cell 0, h.cell 1, h.cell 2, h.cell 3⟩, ⟨h.cell 4, h.cell 5, h.cell 6, h.cell 7⟩, h.cell 8, h.cell 9, h.cell 10, h.cell 11⟩
end Go.Proofs.Ytcdjkofgnelgeaa
