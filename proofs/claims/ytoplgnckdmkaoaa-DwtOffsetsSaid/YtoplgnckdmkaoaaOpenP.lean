/-
  A plane that came in by value: its rectangle, and its samples as a list of integers in memory.
-/
import Derived.Test.YtoplgnckdmkaoaaFrame
import Derived.Test.YtoplgnckdmkaoaaBsB
set_option maxRecDepth 100000
namespace Go.Proofs.Ytoplgnckdmkaoaa
open Go.ChangeShapes Go.WideShapes Go.ChangeAt Go.RowKit Go.Joins Go.Deep

theorem cellsPl : Try.prog.cellsOf 26 = 5 := by kernel_rfl
theorem cellsSl : Try.prog.cellsOf 24 = 1 := by kernel_rfl
theorem arr5 (T : Array Value) (h : T.size = 5) : ∃ v0 v1 v2 v3 v4, T = #[v0, v1, v2, v3, v4] := by
  obtain ⟨l⟩ := T
  match l, h with
  | [v0, v1, v2, v3, v4], _ => exact ⟨v0, v1, v2, v3, v4, rfl⟩
/-- A slice of integers, opened. -/
theorem open_ints {H : Type} {enc : TypeId × Value → H} {w : World} {fuel : Nat} {v : Value} {x : DataW H × List MemPlace}
    (h : DataW.trod enc Try.prog w 0 (fun _ => true) true fuel 24 [v] = some x) :
    ∃ (a : Option Addr) (l : List Int) (cap : Nat), v = .slice a l.length cap ∧ HoldsI w a l ∧ l.length ≤ cap ∧ cap ≤ maxLen ∧ (a = none → l.length = 0 ∧ cap = 0) := by
  rcases open_slice1 Try.underlying24 cellsI h with ⟨hcs, _⟩ | ⟨a', len, cap', m, k, V, D, Pl', hcs, _, hl, hm, hmm, _, hi⟩
  · simp at hcs
    subst hcs
    exact ⟨none, [], 0, rfl, .inl rfl, Nat.le_refl _, Nat.zero_le _, fun _ => ⟨rfl, rfl⟩⟩
  · simp at hcs
    subst hcs
    have hmm' : m = cap' := by simpa using hmm
    by_cases hn0 : len = 0
    · subst hn0
      exact ⟨some a', [], cap', rfl, .inl rfl, Nat.zero_le _, hm, fun h => by simp at h⟩
    · have key : ∀ i, i < len → ∃ n : Int, w.cell? (a'.add i) = some (.int .i64 n) := by
        intro i hin
        obtain ⟨h1, h2⟩ := hi i (by omega)
        obtain ⟨n, e, _, _⟩ := DataW.trod_int Try.underlying3 h2
        simp at e
        exact ⟨n, by rw [h1, e]⟩
      obtain ⟨b, off, spot⟩ := a'
      obtain ⟨q, hq⟩ := key 0 (by omega)
      have hspot : spot = none := by
        have := World.cell?_spot hq
        simpa [Addr.add] using this
      subst hspot
      have key' : ∀ i, i < len → ∃ n : Int, w.cell? ⟨b, off + i, none⟩ = some (.int .i64 n) := fun i hi => by
        obtain ⟨n, hn⟩ := key i hi
        exact ⟨n, by rw [add_plain] at hn; exact hn⟩
      refine ⟨some ⟨b, off, none⟩, List.ofFn (fun i : Fin len => Classical.choose (key' i.1 i.2)), cap', by simp, .inr ⟨b, off, rfl, fun k hk => ?_⟩, by simpa using hl, hm, fun h => by simp at h⟩
      have hk' : k < len := by simpa using hk
      rw [List.getElem_ofFn]
      exact Classical.choose_spec (key' k hk')
/-- A plane by value. -/
theorem open_plane {H : Type} {enc : TypeId × Value → H} {w : World} {r : Reach} {b0 : Nat} {v : Value} {d : DataW H} {p : List MemPlace}
    (hv : Value.okWide Try.prog w r b0 26 v) (h : DataW.Trod enc Try.prog w 0 (fun _ => true) true 26 v d p) :
    ∃ (a b c d' : Int) (s : Option Addr) (l : List Int) (m : Nat), v = .agg #[.int .i64 a, .int .i64 b, .int .i64 c, .int .i64 d', .slice s l.length m] ∧
      HoldsI w s l ∧ l.length ≤ m ∧ m ≤ maxLen ∧ (s = none → l.length = 0 ∧ m = 0) := by
  obtain ⟨cs, rfl, hsz⟩ := okWide_struct Try.underlying26 hv
  obtain ⟨c0, c1, c2, c3, c4, rfl⟩ := arr5 _ (hsz.trans cellsPl)
  obtain ⟨fuel, hf⟩ := h
  obtain ⟨y0, y1, n, _, _, h0, h1⟩ := trod_struct2 Try.underlying26 hf
  simp only [cellsR, cellsSl, Value.cells] at h0 h1
  obtain ⟨z0, z1, z2, z3, n', _, _, t0, t1, t2, t3⟩ := Go.Joins.trod_struct4 Try.underlying23 h0
  simp only [cellsI] at t0 t1 t2 t3
  obtain ⟨x0, e0, _, _⟩ := DataW.trod_int Try.underlying3 t0
  obtain ⟨x1, e1, _, _⟩ := DataW.trod_int Try.underlying3 t1
  obtain ⟨x2, e2, _, _⟩ := DataW.trod_int Try.underlying3 t2
  obtain ⟨x3, e3, _, _⟩ := DataW.trod_int Try.underlying3 t3
  simp at e0 e1 e2 e3
  subst e0 e1 e2 e3
  obtain ⟨s, l, m, hs, hH, hm, hx, hn⟩ := open_ints (enc := enc) (w := w) (v := c4) (by simpa using h1)
  subst hs
  exact ⟨x0, x1, x2, x3, s, l, m, rfl, hH, hm, hx, hn⟩
end Go.Proofs.Ytoplgnckdmkaoaa
