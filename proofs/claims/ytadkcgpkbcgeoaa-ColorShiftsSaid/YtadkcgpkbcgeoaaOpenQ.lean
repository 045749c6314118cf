/-
  Arguments, opened: arrays of two and of three integers, a plane with its samples' range.
-/
import Derived.Test.YtadkcgpkbcgeoaaOpenP
import Derived.Test.YtadkcgpkbcgeoaaQap
set_option maxRecDepth 100000
namespace Go.Proofs.Ytadkcgpkbcgeoaa
open Go.ChangeShapes Go.WideShapes Go.ChangeAt Go.RowKit Go.Joins Go.Deep

theorem okWide_array {P : Program} {w : World} {r : Reach} {base : Nat} {t e : TypeId} {n : Nat} {v : Value} (ht : P.underlying t = some (.array n e)) (h : Value.okWide P w r base t v) : ∃ cs : Array Value, v = .agg cs ∧ cs.size = P.cellsOf t := by
  simp only [Value.okWide, ht] at h
  obtain ⟨cs, h1, h2, _⟩ := h
  exact ⟨cs, h1, h2⟩
theorem cellsA2 : Try.prog.cellsOf 60 = 2 := by kernel_rfl
theorem cellsA3 : Try.prog.cellsOf 23 = 3 := by kernel_rfl
theorem arr2 (T : Array Value) (h : T.size = 2) : ∃ v0 v1, T = #[v0, v1] := by
  obtain ⟨l⟩ := T
  match l, h with
  | [v0, v1], _ => exact ⟨v0, v1, rfl⟩
theorem arr3 (T : Array Value) (h : T.size = 3) : ∃ v0 v1 v2, T = #[v0, v1, v2] := by
  obtain ⟨l⟩ := T
  match l, h with
  | [v0, v1, v2], _ => exact ⟨v0, v1, v2, rfl⟩
theorem trodA {H : Type} {enc : TypeId × Value → H} {w : World} {t : TypeId} {n fuel : Nat} {cs : List Value} {x : DataW H × List MemPlace}
    (ht : Try.prog.underlying t = some (.array n 3)) (h : DataW.trod enc Try.prog w 0 (fun _ => true) true fuel t cs = some x) (i : Nat) (hi : i < n) :
    ∃ m y, DataW.trod enc Try.prog w 0 (fun _ => true) true m 3 ((cs.drop i).take 1) = some y := by
  obtain ⟨xs, m, _, _, _, hl, hx⟩ := DataW.trod_array ht h
  have := hx i hi
  rw [cellsI, Nat.mul_one, List.getElem?_eq_getElem (by omega)] at this
  exact ⟨m, _, this⟩
theorem open_arr2 {H : Type} {enc : TypeId × Value → H} {w : World} {r : Reach} {b0 : Nat} {v : Value} {d : DataW H} {p : List MemPlace}
    (hv : Value.okWide Try.prog w r b0 60 v) (h : DataW.Trod enc Try.prog w 0 (fun _ => true) true 60 v d p) :
    ∃ x y : Int, v = .agg #[.int .i64 x, .int .i64 y] ∧ InI x ∧ InI y := by
  obtain ⟨cs, rfl, hsz⟩ := okWide_array Try.underlying60 hv
  obtain ⟨c0, c1, rfl⟩ := arr2 _ (hsz.trans cellsA2)
  obtain ⟨fuel, hf⟩ := h
  obtain ⟨m0, y0, t0⟩ := trodA Try.underlying60 hf 0 (by decide)
  obtain ⟨m1, y1, t1⟩ := trodA Try.underlying60 hf 1 (by decide)
  obtain ⟨x0, e0, _, w0⟩ := DataW.trod_int Try.underlying3 t0
  obtain ⟨x1, e1, _, w1⟩ := DataW.trod_int Try.underlying3 t1
  simp [Value.cells] at e0 e1
  subst e0 e1
  exact ⟨x0, x1, rfl, bounds_i64 w0, bounds_i64 w1⟩
theorem open_arr3 {H : Type} {enc : TypeId × Value → H} {w : World} {r : Reach} {b0 : Nat} {v : Value} {d : DataW H} {p : List MemPlace}
    (hv : Value.okWide Try.prog w r b0 23 v) (h : DataW.Trod enc Try.prog w 0 (fun _ => true) true 23 v d p) :
    ∃ x y z : Int, v = .agg #[.int .i64 x, .int .i64 y, .int .i64 z] ∧ InI x ∧ InI y ∧ InI z := by
  obtain ⟨cs, rfl, hsz⟩ := okWide_array Try.underlying23 hv
  obtain ⟨c0, c1, c2, rfl⟩ := arr3 _ (hsz.trans cellsA3)
  obtain ⟨fuel, hf⟩ := h
  obtain ⟨m0, y0, t0⟩ := trodA Try.underlying23 hf 0 (by decide)
  obtain ⟨m1, y1, t1⟩ := trodA Try.underlying23 hf 1 (by decide)
  obtain ⟨m2, y2, t2⟩ := trodA Try.underlying23 hf 2 (by decide)
  obtain ⟨x0, e0, _, w0⟩ := DataW.trod_int Try.underlying3 t0
  obtain ⟨x1, e1, _, w1⟩ := DataW.trod_int Try.underlying3 t1
  obtain ⟨x2, e2, _, w2⟩ := DataW.trod_int Try.underlying3 t2
  simp [Value.cells] at e0 e1 e2
  subst e0 e1 e2
  exact ⟨x0, x1, x2, rfl, bounds_i64 w0, bounds_i64 w1, bounds_i64 w2⟩
/-- A slice of integers, opened, with the numbers' range. -/
theorem open_intsR {H : Type} {enc : TypeId × Value → H} {w : World} {fuel : Nat} {v : Value} {x : DataW H × List MemPlace}
    (h : DataW.trod enc Try.prog w 0 (fun _ => true) true fuel 38 [v] = some x) :
    ∃ (a : Option Addr) (l : List Int) (cap : Nat), v = .slice a l.length cap ∧ HoldsI w a l ∧ l.length ≤ cap ∧ cap ≤ maxLen ∧ (a = none → l.length = 0 ∧ cap = 0) ∧ ∀ z ∈ l, InI z := by
  rcases open_slice1 Try.underlying38 cellsI h with ⟨hcs, _⟩ | ⟨a', len, cap', m, k, V, D, Pl', hcs, _, hl, hm, hmm, _, hi⟩
  · simp at hcs
    subst hcs
    exact ⟨none, [], 0, rfl, .inl rfl, Nat.le_refl _, Nat.zero_le _, fun _ => ⟨rfl, rfl⟩, by simp⟩
  · simp at hcs
    subst hcs
    have hmm' : m = cap' := by simpa using hmm
    by_cases hn0 : len = 0
    · subst hn0
      exact ⟨some a', [], cap', rfl, .inl rfl, Nat.zero_le _, hm, fun h => by simp at h, by simp⟩
    · have key : ∀ i, i < len → ∃ n : Int, w.cell? (a'.add i) = some (.int .i64 n) ∧ InI n := by
        intro i hin
        obtain ⟨h1, h2⟩ := hi i (by omega)
        obtain ⟨n, e, _, wf⟩ := DataW.trod_int Try.underlying3 h2
        simp at e
        exact ⟨n, by rw [h1, e], bounds_i64 wf⟩
      obtain ⟨b, off, spot⟩ := a'
      obtain ⟨q, hq, _⟩ := key 0 (by omega)
      have hspot : spot = none := by
        have := World.cell?_spot hq
        simpa [Addr.add] using this
      subst hspot
      have key' : ∀ i, i < len → ∃ n : Int, w.cell? ⟨b, off + i, none⟩ = some (.int .i64 n) ∧ InI n := fun i hi => by
        obtain ⟨n, hn, hI⟩ := key i hi
        exact ⟨n, by rw [add_plain] at hn; exact hn, hI⟩
      refine ⟨some ⟨b, off, none⟩, List.ofFn (fun i : Fin len => Classical.choose (key' i.1 i.2)), cap', by simp, .inr ⟨b, off, rfl, fun k hk => ?_⟩, by simpa using hl, hm, fun h => by simp at h, fun z hz => ?_⟩
      · have hk' : k < len := by simpa using hk
        rw [List.getElem_ofFn]
        exact (Classical.choose_spec (key' k hk')).1
      · obtain ⟨j, hj, rfl⟩ := List.getElem_of_mem hz
        rw [List.getElem_ofFn]
        have hj' : j < len := by simpa using hj
        exact (Classical.choose_spec (key' j hj')).2
/-- A plane by value, with its samples' range; the cells of one. -/
theorem open_cells5 {H : Type} {enc : TypeId × Value → H} {w : World} {fuel : Nat} {c0 c1 c2 c3 c4 : Value} {x : DataW H × List MemPlace}
    (hf : DataW.trod enc Try.prog w 0 (fun _ => true) true fuel 40 [c0, c1, c2, c3, c4] = some x) :
    ∃ (a b c d' : Int) (s : Option Addr) (l : List Int) (m : Nat), c0 = .int .i64 a ∧ c1 = .int .i64 b ∧ c2 = .int .i64 c ∧ c3 = .int .i64 d' ∧ c4 = .slice s l.length m ∧
      HoldsI w s l ∧ l.length ≤ m ∧ m ≤ maxLen ∧ (s = none → l.length = 0 ∧ m = 0) ∧ ∀ z ∈ l, InI z := by
  obtain ⟨y0, y1, n, _, _, h0, h1⟩ := trod_struct2 Try.underlying40 hf
  simp only [cellsR, cellsSl] at h0 h1
  obtain ⟨z0, z1, z2, z3, n', _, _, t0, t1, t2, t3⟩ := Go.Joins.trod_struct4 Try.underlying37 h0
  simp only [cellsI] at t0 t1 t2 t3
  obtain ⟨x0, e0, _, _⟩ := DataW.trod_int Try.underlying3 t0
  obtain ⟨x1, e1, _, _⟩ := DataW.trod_int Try.underlying3 t1
  obtain ⟨x2, e2, _, _⟩ := DataW.trod_int Try.underlying3 t2
  obtain ⟨x3, e3, _, _⟩ := DataW.trod_int Try.underlying3 t3
  simp at e0 e1 e2 e3
  subst e0 e1 e2 e3
  obtain ⟨s, l, m, hs, hH, hm, hx, hn, hI⟩ := open_intsR (enc := enc) (w := w) (v := c4) (by simpa using h1)
  subst hs
  exact ⟨x0, x1, x2, x3, s, l, m, rfl, rfl, rfl, rfl, rfl, hH, hm, hx, hn, hI⟩
theorem open_planeR {H : Type} {enc : TypeId × Value → H} {w : World} {r : Reach} {b0 : Nat} {v : Value} {d : DataW H} {p : List MemPlace}
    (hv : Value.okWide Try.prog w r b0 40 v) (h : DataW.Trod enc Try.prog w 0 (fun _ => true) true 40 v d p) :
    ∃ (a b c d' : Int) (s : Option Addr) (l : List Int) (m : Nat), v = .agg #[.int .i64 a, .int .i64 b, .int .i64 c, .int .i64 d', .slice s l.length m] ∧
      HoldsI w s l ∧ l.length ≤ m ∧ m ≤ maxLen ∧ (s = none → l.length = 0 ∧ m = 0) ∧ ∀ z ∈ l, InI z := by
  obtain ⟨cs, rfl, hsz⟩ := okWide_struct Try.underlying40 hv
  obtain ⟨c0, c1, c2, c3, c4, rfl⟩ := arr5 _ (hsz.trans cellsPl)
  obtain ⟨fuel, hf⟩ := h
  obtain ⟨x0, x1, x2, x3, s, l, m, rfl, rfl, rfl, rfl, rfl, h1, h2, h3, h4, h5⟩ := open_cells5 (by simpa [Value.cells] using hf)
  exact ⟨x0, x1, x2, x3, s, l, m, rfl, h1, h2, h3, h4, h5⟩
end Go.Proofs.Ytadkcgpkbcgeoaa
