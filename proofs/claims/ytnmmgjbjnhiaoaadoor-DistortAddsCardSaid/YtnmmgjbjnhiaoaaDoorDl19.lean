/-
  What the statements of layer 19 are closed by: a block of three lists, a pair, as arguments.
-/
import Derived.Test.YtnmmgjbjnhiaoaaDoorDk19
import Derived.Test.YtnmmgjbjnhiaoaaDoorFrameI
set_option maxRecDepth 100000
namespace Go.Proofs.YtnmmgjbjnhiaoaaDoor
open Go.ChangeShapes Go.WideShapes Go.ChangeAt Go.RowKit Go.Joins Go.Deep

/-- A slice of integers with their range, opened. -/
theorem open_intsF {H : Type} {enc : TypeId × Value → H} {w : World} {fuel : Nat} {v : Value} {x : DataW H × List MemPlace}
    (h : DataW.trod enc Tryd.prog w 0 (fun _ => true) true fuel 28 [v] = some x) :
    ∃ (a : Option Addr) (l : List Int) (cap : Nat), v = .slice a l.length cap ∧ HoldsI w a l ∧ (∀ x ∈ l, -9223372036854775808 ≤ x ∧ x ≤ 9223372036854775807) ∧ l.length ≤ cap ∧ cap ≤ maxLen ∧ (a = none → l.length = 0 ∧ cap = 0) := by
  rcases open_slice1 Tryd.underlying28 cellsI h with ⟨hcs, _⟩ | ⟨a', len, cap', m, k, V, D, Pl', hcs, _, hl, hm, hmm, _, hi⟩
  · simp at hcs
    subst hcs
    exact ⟨none, [], 0, rfl, .inl rfl, fun x hx => by simp at hx, Nat.le_refl _, Nat.zero_le _, fun _ => ⟨rfl, rfl⟩⟩
  · simp at hcs
    subst hcs
    have hmm' : m = cap' := by simpa using hmm
    by_cases hn0 : len = 0
    · subst hn0
      exact ⟨some a', [], cap', rfl, .inl rfl, fun x hx => by simp at hx, Nat.zero_le _, hm, fun h => by simp at h⟩
    · have key : ∀ i, i < len → ∃ n : Int, w.cell? (a'.add i) = some (.int .i64 n) ∧ -9223372036854775808 ≤ n ∧ n ≤ 9223372036854775807 := by
        intro i hin
        obtain ⟨h1, h2⟩ := hi i (by omega)
        obtain ⟨n, e, _, hw⟩ := DataW.trod_int Tryd.underlying3 h2
        simp at e
        exact ⟨n, by rw [h1, e], by have h3 := hw; simp [Lit.wf] at h3; (try rw [show IntKind.i64.min = -9223372036854775808 by decide] at h3); (try rw [show IntKind.i64.max = 9223372036854775807 by decide] at h3); exact h3⟩
      obtain ⟨b, off, spot⟩ := a'
      obtain ⟨q, hq, _⟩ := key 0 (by omega)
      have hspot : spot = none := by
        have := World.cell?_spot hq
        simpa [Addr.add] using this
      subst hspot
      have key' : ∀ i, i < len → ∃ n : Int, w.cell? ⟨b, off + i, none⟩ = some (.int .i64 n) ∧ -9223372036854775808 ≤ n ∧ n ≤ 9223372036854775807 := fun i hi => by
        obtain ⟨n, hn⟩ := key i hi
        exact ⟨n, by rw [add_plain] at hn; exact hn⟩
      refine ⟨some ⟨b, off, none⟩, List.ofFn (fun i : Fin len => Classical.choose (key' i.1 i.2)), cap', by simp, .inr ⟨b, off, rfl, fun k hk => ?_⟩, fun x hx => ?_, by simpa using hl, hm, fun h => by simp at h⟩
      · have hk' : k < len := by simpa using hk
        rw [List.getElem_ofFn]
        exact (Classical.choose_spec (key' k hk')).1
      · obtain ⟨i, rfl⟩ := (List.mem_ofFn (f := fun i : Fin len => Classical.choose (key' i.1 i.2))).1 hx
        exact (Classical.choose_spec (key' i.1 i.2)).2
theorem i64_of {a : Int} (h : (Lit.int .i64 a).wf = true) : i64R a := by
  have h3 := h
  simp [Lit.wf] at h3
  try rw [show IntKind.i64.min = -9223372036854775808 by decide] at h3
  try rw [show IntKind.i64.max = 9223372036854775807 by decide] at h3
  exact h3
theorem arr2' (T : Array Value) (h : T.size = 2) : ∃ v0 v1, T = #[v0, v1] := by
  obtain ⟨l⟩ := T
  match l, h with
  | [v0, v1], _ => exact ⟨v0, v1, rfl⟩
theorem arr3' (T : Array Value) (h : T.size = 3) : ∃ v0 v1 v2, T = #[v0, v1, v2] := by
  obtain ⟨l⟩ := T
  match l, h with
  | [v0, v1, v2], _ => exact ⟨v0, v1, v2, rfl⟩
theorem open_N2 {H : Type} {enc : TypeId × Value → H} {w : World} {r : Reach} {b0 : Nat} {v : Value} {d : DataW H} {p : List MemPlace}
    (hv : Value.okWide Tryd.prog w r b0 25 v) (h : DataW.Trod enc Tryd.prog w 0 (fun _ => true) true 25 v d p) :
    ∃ x y : Int, v = .agg #[.int .i64 x, .int .i64 y] ∧ i64R x ∧ i64R y := by
  simp only [Value.okWide, Tryd.underlying25] at hv
  obtain ⟨cs, rfl, hsz, _⟩ := hv
  obtain ⟨c0, c1, rfl⟩ := arr2' _ (hsz.trans (by kernel_rfl))
  obtain ⟨fuel, hf⟩ := h
  obtain ⟨xs, m, _, _, _, hl, hx⟩ := DataW.trod_array Tryd.underlying25 hf
  have h0 := hx 0 (by decide)
  have h1 := hx 1 (by decide)
  rw [List.getElem?_eq_getElem (by omega)] at h0 h1
  have t0 : DataW.trod enc Tryd.prog w 0 (fun _ => true) true m 3 [c0] = some xs[0] := h0
  have t1 : DataW.trod enc Tryd.prog w 0 (fun _ => true) true m 3 [c1] = some xs[1] := h1
  obtain ⟨x, e0, _, w0⟩ := DataW.trod_int Tryd.underlying3 t0
  obtain ⟨y, e1, _, w1⟩ := DataW.trod_int Tryd.underlying3 t1
  simp at e0 e1
  subst e0 e1
  exact ⟨x, y, rfl, i64_of w0, i64_of w1⟩
/-- A block as an argument. -/
structure B3R (w : World) (v : Value) (A B C : List Int) (sa sb sc : Option Addr) (ma mb mc : Nat) : Prop where
  val : v = .agg #[.slice sa A.length ma, .slice sb B.length mb, .slice sc C.length mc]
  a : HoldsI w sa A
  b : HoldsI w sb B
  c : HoldsI w sc C
  rb : ∀ x ∈ B, i64R x
theorem open_B3 {H : Type} {enc : TypeId × Value → H} {w : World} {r : Reach} {b0 : Nat} {v : Value} {d : DataW H} {p : List MemPlace}
    (hv : Value.okWide Tryd.prog w r b0 30 v) (h : DataW.Trod enc Tryd.prog w 0 (fun _ => true) true 30 v d p) : ∃ A B C sa sb sc ma mb mc, B3R w v A B C sa sb sc ma mb mc := by
  obtain ⟨cs, rfl, hsz⟩ := okWide_struct Tryd.underlying30 hv
  obtain ⟨c0, c1, c2, rfl⟩ := arr3' _ (hsz.trans (by kernel_rfl))
  obtain ⟨fuel, hf⟩ := h
  obtain ⟨xs, n, _, _, _, hl, hg⟩ := DataW.trod_struct Tryd.underlying30 hf
  have hx : ∀ j, j < 3 → ∃ y, xs[j]? = some y := fun j hj => ⟨_, List.getElem?_eq_getElem (by rw [hl]; exact hj)⟩
  obtain ⟨y0, e0⟩ := hx 0 (by decide)
  obtain ⟨y1, e1⟩ := hx 1 (by decide)
  obtain ⟨y2, e2⟩ := hx 2 (by decide)
  have t0 : DataW.trod enc Tryd.prog w 0 (fun _ => true) true n 28 [c0] = some y0 := (hg 0 _ rfl).trans e0
  have t1 : DataW.trod enc Tryd.prog w 0 (fun _ => true) true n 28 [c1] = some y1 := (hg 1 _ rfl).trans e1
  have t2 : DataW.trod enc Tryd.prog w 0 (fun _ => true) true n 28 [c2] = some y2 := (hg 2 _ rfl).trans e2
  obtain ⟨s0, l0, k0, f0, q0, _⟩ := open_intsF t0
  obtain ⟨s1, l1, k1, f1, q1, z1, _⟩ := open_intsF t1
  obtain ⟨s2, l2, k2, f2, q2, _⟩ := open_intsF t2
  subst f0 f1 f2
  exact ⟨l0, l1, l2, s0, s1, s2, k0, k1, k2, ⟨rfl, q0, q1, q2, z1⟩⟩
end Go.Proofs.YtnmmgjbjnhiaoaaDoor
