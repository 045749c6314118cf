/-
  What the statements of layer 23 are closed by: a header as an argument.
-/
import Derived.Test.YtkcjbehfhcmiaaaFrame
import Derived.Test.YtkcjbehfhcmiaaaHa
set_option maxRecDepth 100000
namespace Go.Proofs.Ytkcjbehfhcmiaaa
open Go.ChangeShapes Go.WideShapes Go.ChangeAt Go.RowKit Go.Joins Go.Deep

section
variable {H : Type} {enc : TypeId × Value → H} {P : Program} {w : World} {base : Nat} {spare : Nat → Bool} {held : Bool}
theorem open_slice_fields {t e : TypeId} {fs : Array Field} {fuel : Nat} {cs : List Value} {x : DataW H × List MemPlace} (ht : P.underlying t = some (.slice e)) (he : P.underlying e = some (.struct fs))
    (hone : oneCellFields P fs = true) (hC : P.cellsOf e = fs.size) (h : DataW.trod enc P w base spare held fuel t cs = some x) :
    (cs = [.slice none 0 0] ∧ x = (.nil, [])) ∨
    ∃ (a : Addr) (len cap m : Nat) (D : Nat → DataW H) (Pl : Nat → List MemPlace), cs = [.slice (some a) len cap] ∧ base ≤ a.block ∧ len ≤ cap ∧ cap ≤ maxLen ∧ m = (if spare a.block then cap else len) ∧
      x = (.slice ((List.range len).map D) ((List.range (m - len)).map fun j => D (len + j)), MemPlace.row a (m * fs.size) ++ (List.range m).flatMap Pl) ∧
      ∀ i, i < m → ∃ (ys : List (DataW H × List MemPlace)) (n : Nat), D i = .agg (ys.map (·.1)) ∧ Pl i = ys.flatMap (·.2) ∧ ys.length = fs.size ∧
        ∀ (j : Nat) (f : Field), fs[j]? = some f → ∃ (v : Value) (y : DataW H × List MemPlace), w.cell? (a.add (i * fs.size + j)) = some v ∧ ys[j]? = some y ∧ DataW.trod enc P w base spare held n f.type [v] = some y := by
  rcases open_slice ht h with h0 | ⟨a, len, cap, m, n, D, Pl, hcs, hb, hl, hm, hmm, hx, hi⟩
  · exact .inl h0
  · refine .inr ⟨a, len, cap, m, D, Pl, hcs, hb, hl, hm, hmm, by rw [hC] at hx; exact hx, fun i him => ?_⟩
    obtain ⟨cs', hc, ht'⟩ := hi i him
    rw [hC] at hc
    obtain ⟨ys, n', hn', hy, hlen, hyl, hf⟩ := DataW.trod_struct he ht'
    obtain ⟨_, hcl, hat⟩ := World.cells?_some hc
    simp only [Prod.mk.injEq] at hy
    refine ⟨ys, n', hy.1, hy.2, hyl, fun j f hj => ?_⟩
    obtain ⟨ho, hk⟩ := hone_of hone j f hj
    have hjl : j < fs.size := (Array.getElem?_eq_some_iff.1 hj).1
    have hcell := hat j hjl
    have hv : cs'[j]? = some (cs'[j]'(by omega)) := List.getElem?_eq_getElem (by omega)
    have h1 := hf j f hj
    rw [ho, hk] at h1
    have hone' : (cs'.drop j).take 1 = [cs'[j]'(by omega)] := by
      rw [List.drop_eq_getElem_cons (by omega)]
      rfl
    rw [hone'] at h1
    have hys : ys[j]? = some (ys[j]'(by omega)) := List.getElem?_eq_getElem (by omega)
    refine ⟨_, _, ?_, hys, h1.trans hys⟩
    rw [← Go.Deep.add_add, hcell, hv]
end
theorem open_rectF {H : Type} {enc : TypeId × Value → H} {w : World} {fuel : Nat} {c0 c1 c2 c3 : Value} {x : DataW H × List MemPlace}
    (hf : DataW.trod enc Try.prog w 0 (fun _ => true) true fuel 23 [c0, c1, c2, c3] = some x) : ∃ a b c d : Int, c0 = .int .i64 a ∧ c1 = .int .i64 b ∧ c2 = .int .i64 c ∧ c3 = .int .i64 d := by
  obtain ⟨d, p⟩ := x
  obtain ⟨xs, m, _, _, _, hl, hg⟩ := DataW.trod_struct Try.underlying23 hf
  have hx : ∀ j, j < 4 → ∃ y, xs[j]? = some y := fun j hj => ⟨_, List.getElem?_eq_getElem (by rw [hl]; exact hj)⟩
  obtain ⟨y0, e0⟩ := hx 0 (by decide)
  obtain ⟨y1, e1⟩ := hx 1 (by decide)
  obtain ⟨y2, e2⟩ := hx 2 (by decide)
  obtain ⟨y3, e3⟩ := hx 3 (by decide)
  have t0 : DataW.trod enc Try.prog w 0 (fun _ => true) true m 3 [c0] = some y0 := (hg 0 _ rfl).trans e0
  have t1 : DataW.trod enc Try.prog w 0 (fun _ => true) true m 3 [c1] = some y1 := (hg 1 _ rfl).trans e1
  have t2 : DataW.trod enc Try.prog w 0 (fun _ => true) true m 3 [c2] = some y2 := (hg 2 _ rfl).trans e2
  have t3 : DataW.trod enc Try.prog w 0 (fun _ => true) true m 3 [c3] = some y3 := (hg 3 _ rfl).trans e3
  obtain ⟨a, f0, _, w0⟩ := DataW.trod_int Try.underlying3 t0
  obtain ⟨b, f1, _, w1⟩ := DataW.trod_int Try.underlying3 t1
  obtain ⟨c, f2, _, w2⟩ := DataW.trod_int Try.underlying3 t2
  obtain ⟨d', f3, _, w3⟩ := DataW.trod_int Try.underlying3 t3
  simp at f0 f1 f2 f3
  exact ⟨a, b, c, d', f0, f1, f2, f3⟩
theorem cells_comp : Try.prog.cellsOf 56 = 4 := by kernel_rfl
theorem arr7' (T : Array Value) (h : T.size = 7) : ∃ v0 v1 v2 v3 v4 v5 v6, T = #[v0, v1, v2, v3, v4, v5, v6] := by
  obtain ⟨l⟩ := T
  match l, h with
  | [v0, v1, v2, v3, v4, v5, v6], _ => exact ⟨v0, v1, v2, v3, v4, v5, v6, rfl⟩
/-- A list of components. -/
theorem open_comps {H : Type} {enc : TypeId × Value → H} {w : World} {fuel : Nat} {v : Value} {x : DataW H × List MemPlace}
    (h : DataW.trod enc Try.prog w 0 (fun _ => true) true fuel 24 [v] = some x) :
    ∃ (a : Option Addr) (cs : List Hp.Cm) (cap : Nat), v = .slice a cs.length cap ∧ HoldsC w a cs := by
  rcases open_slice_fields Try.underlying24 Try.underlying56 (by kernel_rfl) cells_comp h with ⟨hcs, _⟩ | ⟨a', len, cap', m, D, Pl', hcs, _, hl, hm, hmm, _, hi⟩
  · simp at hcs
    subst hcs
    exact ⟨none, [], 0, rfl, .inl rfl⟩
  · simp at hcs
    subst hcs
    have hmm' : m = cap' := by simpa using hmm
    by_cases hn0 : len = 0
    · subst hn0
      exact ⟨some a', [], cap', rfl, .inl rfl⟩
    · have key : ∀ i, i < len → ∃ C : Hp.Cm, w.cell? (a'.add (i * 4 + 0)) = some (.int .i64 C.depth) ∧ w.cell? (a'.add (i * 4 + 1)) = some (.bool C.sg) ∧ w.cell? (a'.add (i * 4 + 2)) = some (.int .i64 C.dx) ∧ w.cell? (a'.add (i * 4 + 3)) = some (.int .i64 C.dy) := by
        intro i hin
        obtain ⟨ys, k, _, _, _, hg⟩ := hi i (by omega)
        obtain ⟨u0, y0, g0, _, t0⟩ := hg 0 _ rfl
        obtain ⟨u1, y1, g1, _, t1⟩ := hg 1 _ rfl
        obtain ⟨u2, y2, g2, _, t2⟩ := hg 2 _ rfl
        obtain ⟨u3, y3, g3, _, t3⟩ := hg 3 _ rfl
        obtain ⟨n0, f0, _, _⟩ := DataW.trod_int Try.underlying3 t0
        obtain ⟨n1, f1, _⟩ := DataW.trod_bool Try.underlying4 t1
        obtain ⟨n2, f2, _, _⟩ := DataW.trod_int Try.underlying3 t2
        obtain ⟨n3, f3, _, _⟩ := DataW.trod_int Try.underlying3 t3
        simp at f0 f1 f2 f3
        subst f0 f1 f2 f3
        exact ⟨⟨n0, n1, n2, n3⟩, g0, g1, g2, g3⟩
      obtain ⟨b, off, spot⟩ := a'
      obtain ⟨C, hq, _⟩ := key 0 (by omega)
      have hspot : spot = none := by
        have := World.cell?_spot hq
        simpa [Addr.add] using this
      subst hspot
      have key' : ∀ i, i < len → ∃ C : Hp.Cm, CmAt w b (off + i * 4) C := fun i hi => by
        obtain ⟨C, h0, h1, h2, h3⟩ := key i hi
        rw [add_plain] at h0 h1 h2 h3
        exact ⟨C, h0, by rw [Nat.add_assoc]; exact h1, by rw [Nat.add_assoc]; exact h2, by rw [Nat.add_assoc]; exact h3⟩
      refine ⟨some ⟨b, off, none⟩, List.ofFn (fun i : Fin len => Classical.choose (key' i.1 i.2)), cap', by simp, .inr ⟨b, off, rfl, fun k hk => ?_⟩⟩
      have hk' : k < len := by simpa using hk
      rw [List.getElem_ofFn]
      exact Classical.choose_spec (key' k hk')
theorem open_header {H : Type} {enc : TypeId × Value → H} {w : World} {r : Reach} {b0 : Nat} {v : Value} {d : DataW H} {p : List MemPlace}
    (hv : Value.okWide Try.prog w r b0 26 v) (h : DataW.Trod enc Try.prog w 0 (fun _ => true) true 26 v d p) :
    ∃ (hd : Hp.Hd) (s : Option Addr) (m : Nat), v = .agg (hvA hd s m) ∧ HoldsC w s hd.cs := by
  obtain ⟨cs, rfl, hsz⟩ := okWide_struct Try.underlying26 hv
  obtain ⟨c0, c1, c2, c3, c4, c5, c6, rfl⟩ := arr7' _ (hsz.trans (by kernel_rfl))
  obtain ⟨fuel, hf⟩ := h
  obtain ⟨xs, n, _, _, _, hl, hg⟩ := DataW.trod_struct Try.underlying26 hf
  have hx : ∀ j, j < 4 → ∃ y, xs[j]? = some y := fun j hj => ⟨_, List.getElem?_eq_getElem (by rw [hl]; exact hj)⟩
  obtain ⟨y0, e0⟩ := hx 0 (by decide)
  obtain ⟨y1, e1⟩ := hx 1 (by decide)
  obtain ⟨y2, e2⟩ := hx 2 (by decide)
  obtain ⟨y3, e3⟩ := hx 3 (by decide)
  have t0 : DataW.trod enc Try.prog w 0 (fun _ => true) true n 23 [c0, c1, c2, c3] = some y0 := (hg 0 _ rfl).trans e0
  have t1 : DataW.trod enc Try.prog w 0 (fun _ => true) true n 3 [c4] = some y1 := (hg 1 _ rfl).trans e1
  have t2 : DataW.trod enc Try.prog w 0 (fun _ => true) true n 3 [c5] = some y2 := (hg 2 _ rfl).trans e2
  have t3 : DataW.trod enc Try.prog w 0 (fun _ => true) true n 24 [c6] = some y3 := (hg 3 _ rfl).trans e3
  obtain ⟨a, b, c, d', rfl, rfl, rfl, rfl⟩ := open_rectF t0
  obtain ⟨tw, f1, _, _⟩ := DataW.trod_int Try.underlying3 t1
  obtain ⟨th, f2, _, _⟩ := DataW.trod_int Try.underlying3 t2
  simp at f1 f2
  subst f1 f2
  obtain ⟨s, l, m, rfl, hC⟩ := open_comps t3
  exact ⟨⟨a, b, c, d', tw, th, l⟩, s, m, rfl, hC⟩
end Go.Proofs.Ytkcjbehfhcmiaaa
