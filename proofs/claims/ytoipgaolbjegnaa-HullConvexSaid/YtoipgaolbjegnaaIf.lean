/-
  What the statements of layer 20 are closed by: a curve as an argument.
-/
import Derived.Test.YtoipgaolbjegnaaFrameI
import Derived.Test.YtoipgaolbjegnaaHx
set_option maxRecDepth 100000
namespace Go.Proofs.Ytoipgaolbjegnaa
open Go.ChangeShapes Go.WideShapes Go.ChangeAt Go.RowKit Go.Joins Go.Deep

def i64R (a : Int) : Prop := -9223372036854775808 ≤ a ∧ a ≤ 9223372036854775807
theorem i64_of {a : Int} (h : (Lit.int .i64 a).wf = true) : i64R a := by
  have h3 := h
  simp [Lit.wf] at h3
  try rw [show IntKind.i64.min = -9223372036854775808 by decide] at h3
  try rw [show IntKind.i64.max = 9223372036854775807 by decide] at h3
  exact h3
theorem arr2' (T : Array Value) (h : T.size = 2) : ∃ v0 v1, T = #[v0, v1] := by
  obtain ⟨l⟩ := T
  match l, h with
  | [v0, v1], _ => exact ⟨v0, v1, rfl⟩
theorem arr6' (T : Array Value) (h : T.size = 6) : ∃ v0 v1 v2 v3 v4 v5, T = #[v0, v1, v2, v3, v4, v5] := by
  obtain ⟨l⟩ := T
  match l, h with
  | [v0, v1, v2, v3, v4, v5], _ => exact ⟨v0, v1, v2, v3, v4, v5, rfl⟩
/-- A curve as an argument. -/
structure CuR (w : World) (v : Value) (R D : List Int) (sr sd : Option Addr) (mr md : Nat) : Prop where
  val : v = .agg #[.slice sr R.length mr, .slice sd D.length md]
  r : HoldsI w sr R
  d : HoldsI w sd D
theorem open_curve {H : Type} {enc : TypeId × Value → H} {w : World} {r : Reach} {b0 : Nat} {v : Value} {d : DataW H} {p : List MemPlace}
    (hv : Value.okWide Try.prog w r b0 24 v) (h : DataW.Trod enc Try.prog w 0 (fun _ => true) true 24 v d p) : ∃ R D sr sd mr md, CuR w v R D sr sd mr md := by
  obtain ⟨cs, rfl, hsz⟩ := okWide_struct Try.underlying24 hv
  obtain ⟨c0, c1, rfl⟩ := arr2' _ (hsz.trans (by kernel_rfl))
  obtain ⟨fuel, hf⟩ := h
  obtain ⟨xs, n, _, _, _, hl, hg⟩ := DataW.trod_struct Try.underlying24 hf
  have hx : ∀ j, j < 2 → ∃ y, xs[j]? = some y := fun j hj => ⟨_, List.getElem?_eq_getElem (by rw [hl]; exact hj)⟩
  obtain ⟨y0, e0⟩ := hx 0 (by decide)
  obtain ⟨y1, e1⟩ := hx 1 (by decide)
  have t0 : DataW.trod enc Try.prog w 0 (fun _ => true) true n 22 [c0] = some y0 := (hg 0 _ rfl).trans e0
  have t1 : DataW.trod enc Try.prog w 0 (fun _ => true) true n 22 [c1] = some y1 := (hg 1 _ rfl).trans e1
  obtain ⟨s, l, cp, f1, q1, _⟩ := open_ints t0
  obtain ⟨s2, l2, cp2, f2, q2, _⟩ := open_ints t1
  subst f1 f2
  exact ⟨l, l2, s, s2, cp, cp2, ⟨rfl, q1, q2⟩⟩
theorem open_N2 {H : Type} {enc : TypeId × Value → H} {w : World} {r : Reach} {b0 : Nat} {v : Value} {d : DataW H} {p : List MemPlace}
    (hv : Value.okWide Try.prog w r b0 27 v) (h : DataW.Trod enc Try.prog w 0 (fun _ => true) true 27 v d p) :
    ∃ x y : Int, v = .agg #[.int .i64 x, .int .i64 y] ∧ i64R x ∧ i64R y := by
  simp only [Value.okWide, Try.underlying27] at hv
  obtain ⟨cs, rfl, hsz, _⟩ := hv
  obtain ⟨c0, c1, rfl⟩ := arr2' _ (hsz.trans (by kernel_rfl))
  obtain ⟨fuel, hf⟩ := h
  obtain ⟨xs, m, _, _, _, hl, hx⟩ := DataW.trod_array Try.underlying27 hf
  have h0 := hx 0 (by decide)
  have h1 := hx 1 (by decide)
  rw [List.getElem?_eq_getElem (by omega)] at h0 h1
  have t0 : DataW.trod enc Try.prog w 0 (fun _ => true) true m 3 [c0] = some xs[0] := h0
  have t1 : DataW.trod enc Try.prog w 0 (fun _ => true) true m 3 [c1] = some xs[1] := h1
  obtain ⟨x, e0, _, w0⟩ := DataW.trod_int Try.underlying3 t0
  obtain ⟨y, e1, _, w1⟩ := DataW.trod_int Try.underlying3 t1
  simp at e0 e1
  subst e0 e1
  exact ⟨x, y, rfl, i64_of w0, i64_of w1⟩
/-- The cells of one of two numbers. -/
theorem open_N2F {H : Type} {enc : TypeId × Value → H} {w : World} {fuel : Nat} {c0 c1 : Value} {x : DataW H × List MemPlace}
    (hf : DataW.trod enc Try.prog w 0 (fun _ => true) true fuel 27 [c0, c1] = some x) : ∃ x y : Int, c0 = .int .i64 x ∧ c1 = .int .i64 y ∧ i64R x ∧ i64R y := by
  obtain ⟨d, p⟩ := x
  obtain ⟨xs, m, _, _, _, hl, hx⟩ := DataW.trod_array Try.underlying27 hf
  have h0 := hx 0 (by decide)
  have h1 := hx 1 (by decide)
  rw [List.getElem?_eq_getElem (by omega)] at h0 h1
  have t0 : DataW.trod enc Try.prog w 0 (fun _ => true) true m 3 [c0] = some xs[0] := h0
  have t1 : DataW.trod enc Try.prog w 0 (fun _ => true) true m 3 [c1] = some xs[1] := h1
  obtain ⟨x, e0, _, w0⟩ := DataW.trod_int Try.underlying3 t0
  obtain ⟨y, e1, _, w1⟩ := DataW.trod_int Try.underlying3 t1
  simp at e0 e1
  exact ⟨x, y, e0, e1, i64_of w0, i64_of w1⟩
theorem open_A32 {H : Type} {enc : TypeId × Value → H} {w : World} {r : Reach} {b0 : Nat} {v : Value} {d : DataW H} {p : List MemPlace}
    (hv : Value.okWide Try.prog w r b0 34 v) (h : DataW.Trod enc Try.prog w 0 (fun _ => true) true 34 v d p) :
    ∃ a0 a1 b0 b1 c0 c1 : Int, v = .agg #[.int .i64 a0, .int .i64 a1, .int .i64 b0, .int .i64 b1, .int .i64 c0, .int .i64 c1] := by
  simp only [Value.okWide, Try.underlying34] at hv
  obtain ⟨cs, rfl, hsz, _⟩ := hv
  obtain ⟨c0, c1, c2, c3, c4, c5, rfl⟩ := arr6' _ (hsz.trans (by kernel_rfl))
  obtain ⟨fuel, hf⟩ := h
  obtain ⟨xs, m, _, _, _, hl, hx⟩ := DataW.trod_array Try.underlying34 hf
  have h0 := hx 0 (by decide)
  have h1 := hx 1 (by decide)
  have h2 := hx 2 (by decide)
  rw [List.getElem?_eq_getElem (by omega)] at h0 h1 h2
  have t0 : DataW.trod enc Try.prog w 0 (fun _ => true) true m 27 [c0, c1] = some xs[0] := h0
  have t1 : DataW.trod enc Try.prog w 0 (fun _ => true) true m 27 [c2, c3] = some xs[1] := h1
  have t2 : DataW.trod enc Try.prog w 0 (fun _ => true) true m 27 [c4, c5] = some xs[2] := h2
  obtain ⟨x0, x1, rfl, rfl, _⟩ := open_N2F t0
  obtain ⟨x2, x3, rfl, rfl, _⟩ := open_N2F t1
  obtain ⟨x4, x5, rfl, rfl, _⟩ := open_N2F t2
  exact ⟨x0, x1, x2, x3, x4, x5, rfl⟩
/-- The statements' bound. -/
theorem few20_c (R D : List Int) (sr sd : Option Addr) (mr md : Nat) (W : World) : Calls Try.prog 10 #[.agg #[.slice sr R.length mr, .slice sd D.length md]] W fun e w' => e = .returned (.bool (decide (R.length ≤ 200 ∧ D.length ≤ 200))) ∧ Below W.heap.size W w' := by
  have hB : Below W.heap.size W (W.alloc (.cells #[.slice sr R.length mr, .slice sd D.length md] 24)) := below_alloc (Below.refl _ W) _
  have HB := Lib.hid hB
  clear hB
  by_cases h1 : R.length ≤ 200
  · by_cases h2 : D.length ≤ 200
    · rw [decide_eq_true (show R.length ≤ 200 ∧ D.length ≤ 200 from ⟨h1, h2⟩)]
      go_enter Try.func10, Try.ntmps10
      go_wp2_with fail
      go_ret
      exact ⟨by first | rfl | (simp; omega), HB.out⟩
    · rw [decide_eq_false (show ¬ (R.length ≤ 200 ∧ D.length ≤ 200) from fun h => h2 h.2)]
      go_enter Try.func10, Try.ntmps10
      go_wp2_with fail
      go_ret
      exact ⟨by first | rfl | (simp; omega), HB.out⟩
  · rw [decide_eq_false (show ¬ (R.length ≤ 200 ∧ D.length ≤ 200) from fun h => h1 h.1)]
    go_enter Try.func10, Try.ntmps10
    go_wp2_with fail
    go_ret
    exact ⟨by first | rfl | (simp; omega), HB.out⟩
end Go.Proofs.Ytoipgaolbjegnaa
