/-
  A slice of rectangles that came in: its elements, as a list of rectangles in memory.
-/
import Derived.Test.YtaaljfpkfgjhpaaFrame
import Derived.Test.YtaaljfpkfgjhpaaRectD
namespace Go.Proofs.Ytaaljfpkfgjhpaa
open Go.ChangeShapes Go.WideShapes Go.ChangeAt Go.RowKit Go.Joins Go.Deep

/-- A slice of rectangles, opened: the numbers of each element and where they lie. -/
theorem open_rects {H : Type} {enc : TypeId × Value → H} {w : World} {r : Reach} {b0 : Nat} {v : Value} {d : DataW H} {p : List MemPlace}
    (hv : Value.okWide Try.prog w r b0 34 v) (h : DataW.Trod enc Try.prog w 0 (fun _ => true) true 34 v d p) :
    ∃ (a : Option Addr) (n cap : Nat) (l : List Pl.R), v = .slice a n cap ∧ n = l.length ∧ Holds w a l ∧ n ≤ maxLen ∧ n ≤ cap := by
  obtain ⟨a, n, cap, rfl⟩ := okWide_slice Try.underlying34 hv
  obtain ⟨fuel, hf⟩ := h
  rcases open_slice Try.underlying34 hf with ⟨hcs, _⟩ | ⟨a', len, cap', m, k, D, Pl', hcs, _, hl, hm, hmm, _, hi⟩
  · simp [Value.cells] at hcs
    obtain ⟨rfl, rfl, rfl⟩ := hcs
    exact ⟨_, _, _, [], rfl, rfl, .inl rfl, Nat.zero_le _, Nat.zero_le _⟩
  · simp [Value.cells] at hcs
    obtain ⟨rfl, rfl, rfl⟩ := hcs
    have hmm' : m = cap := by simpa using hmm
    have key : ∀ i, i < n → ∃ q : Pl.R, w.cell? (a'.add (i * 4)) = some (.int .i64 q.x0) ∧ w.cell? (a'.add (i * 4 + 1)) = some (.int .i64 q.y0) ∧ w.cell? (a'.add (i * 4 + 2)) = some (.int .i64 q.x1) ∧ w.cell? (a'.add (i * 4 + 3)) = some (.int .i64 q.y1) := by
      intro i hin
      obtain ⟨cs, hc, ht⟩ := hi i (by omega)
      rw [cellsR] at hc
      obtain ⟨_, hlen, hat⟩ := World.cells?_some hc
      match cs, hlen, hat, ht with
      | [z0, z1, z2, z3], _, hat, ht =>
        obtain ⟨y0, y1, y2, y3, m', _, _, t0, t1, t2, t3⟩ := Go.Joins.trod_struct4 Try.underlying26 ht
        simp only [cellsI] at t0 t1 t2 t3
        obtain ⟨x0, e0, _, _⟩ := DataW.trod_int Try.underlying3 t0
        obtain ⟨x1, e1, _, _⟩ := DataW.trod_int Try.underlying3 t1
        obtain ⟨x2, e2, _, _⟩ := DataW.trod_int Try.underlying3 t2
        obtain ⟨x3, e3, _, _⟩ := DataW.trod_int Try.underlying3 t3
        simp at e0 e1 e2 e3
        have g0 := hat 0 (by omega)
        have g1 := hat 1 (by omega)
        have g2 := hat 2 (by omega)
        have g3 := hat 3 (by omega)
        rw [Addr.add_add] at g0 g1 g2 g3
        exact ⟨⟨x0, x1, x2, x3⟩, by simpa [e0] using g0, by simpa [e1] using g1, by simpa [e2] using g2, by simpa [e3] using g3⟩
    by_cases hn0 : n = 0
    · exact ⟨_, _, _, [], rfl, hn0, .inl rfl, by omega, hl⟩
    · obtain ⟨b, off, spot⟩ := a'
      obtain ⟨q, hq, _⟩ := key 0 (by omega)
      have hspot : spot = none := by
        have := World.cell?_spot hq
        simpa [Addr.add] using this
      subst hspot
      have key' : ∀ i, i < n → ∃ q : Pl.R, RectAt w b (off + i * 4) q := fun i hi => by
        obtain ⟨q, q0, q1, q2, q3⟩ := key i hi
        rw [add_plain] at q0 q1 q2 q3
        exact ⟨q, q0, by rw [Nat.add_assoc]; exact q1, by rw [Nat.add_assoc]; exact q2, by rw [Nat.add_assoc]; exact q3⟩
      refine ⟨_, _, _, List.ofFn (fun i : Fin n => Classical.choose (key' i.1 i.2)), rfl, by simp, .inr ⟨b, off, rfl, fun k hk => ?_⟩, by omega, hl⟩
      have hk' : k < n := by simpa using hk
      rw [List.getElem_ofFn]
      exact Classical.choose_spec (key' k hk')
end Go.Proofs.Ytaaljfpkfgjhpaa
