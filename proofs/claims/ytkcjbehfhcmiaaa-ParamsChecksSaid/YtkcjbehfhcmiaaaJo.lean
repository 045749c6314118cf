/-
  Coding parameters as an argument; a header with its capacity.
-/
import Derived.Test.YtkcjbehfhcmiaaaHo
set_option maxRecDepth 100000
namespace Go.Proofs.Ytkcjbehfhcmiaaa
open Go.ChangeShapes Go.WideShapes Go.ChangeAt Go.RowKit Go.Joins Go.Deep


theorem open_ints13 {H : Type} {enc : TypeId × Value → H} {w : World} {fuel : Nat} {v : Value} {x : DataW H × List MemPlace}
    (h : DataW.trod enc Try.prog w 0 (fun _ => true) true fuel 33 [v] = some x) :
    ∃ (a : Option Addr) (l : List Int) (cap : Nat), v = .slice a l.length cap ∧ HoldsI w a l ∧ l.length ≤ cap ∧ cap ≤ maxLen ∧ (a = none → l.length = 0 ∧ cap = 0) := by
  rcases open_slice1 Try.underlying33 cellsI h with ⟨hcs, _⟩ | ⟨a', len, cap', m, k, V, D, Pl', hcs, _, hl, hm, hmm, _, hi⟩
  · simp at hcs
    subst hcs
    exact ⟨none, [], 0, rfl, .inl rfl, Nat.le_refl _, Nat.zero_le _, fun _ => ⟨rfl, rfl⟩⟩
  · simp at hcs
    subst hcs
    have hmm' : m = cap' := by simpa using hmm
    by_cases hn0 : len = 0
    · subst hn0
      exact ⟨some a', [], cap', rfl, .inl rfl, Nat.zero_le _, hm, fun h => by simp at h⟩
    · have key : ∀ i, i < len → ∃ n : Int, w.cell? (a'.add i) = some (.int .i64 n) := by
        intro i hin
        obtain ⟨h1, h2⟩ := hi i (by omega)
        obtain ⟨n, e, _, _⟩ := DataW.trod_int Try.underlying3 h2
        simp at e
        exact ⟨n, by rw [h1, e]⟩
      obtain ⟨b, off, spot⟩ := a'
      obtain ⟨q, hq⟩ := key 0 (by omega)
      have hspot : spot = none := by
        have := World.cell?_spot hq
        simpa [Addr.add] using this
      subst hspot
      have key' : ∀ i, i < len → ∃ n : Int, w.cell? ⟨b, off + i, none⟩ = some (.int .i64 n) := fun i hi => by
        obtain ⟨n, hn⟩ := key i hi
        exact ⟨n, by rw [add_plain] at hn; exact hn⟩
      refine ⟨some ⟨b, off, none⟩, List.ofFn (fun i : Fin len => Classical.choose (key' i.1 i.2)), cap', by simp, .inr ⟨b, off, rfl, fun k hk => ?_⟩, by simpa using hl, hm, fun h => by simp at h⟩
      have hk' : k < len := by simpa using hk
      rw [List.getElem_ofFn]
      exact Classical.choose_spec (key' k hk')
theorem open_modeF {H : Type} {enc : TypeId × Value → H} {w : World} {fuel : Nat} {c0 c1 c2 c3 c4 : Value} {x : DataW H × List MemPlace} (hf : DataW.trod enc Try.prog w 0 (fun _ => true) true fuel 32 [c0, c1, c2, c3, c4] = some x) :
    ∃ z0 z1 z2 z3 z4 : Bool, c0 = .bool z0 ∧ c1 = .bool z1 ∧ c2 = .bool z2 ∧ c3 = .bool z3 ∧ c4 = .bool z4 := by
  obtain ⟨xs, n, _, _, _, hl, hg⟩ := DataW.trod_struct Try.underlying32 hf
  have key : ∀ (j : Nat) (c : Value) (f : Field), j < 5 → ([c0, c1, c2, c3, c4] : List Value)[j]? = some c → (∀ g, f = g → g.offset = j ∧ Try.prog.cellsOf g.type = 1 ∧ g.type = 4) → (DataW.trod enc Try.prog w 0 (fun _ => true) true n f.type ((([c0, c1, c2, c3, c4] : List Value).drop f.offset).take (Try.prog.cellsOf f.type)) = xs[j]?) → ∃ z : Bool, c = .bool z := by
    intro j c f hj hc hff ht
    obtain ⟨f1, f2, f3⟩ := hff f rfl
    have hx : xs[j]? = some (xs[j]'(by rw [hl]; exact hj)) := List.getElem?_eq_getElem _
    rw [f1, f2, f3, hx] at ht
    obtain ⟨hj', hc'⟩ := List.getElem?_eq_some_iff.1 hc
    rw [List.drop_eq_getElem_cons hj', hc'] at ht
    obtain ⟨z, e, _⟩ := DataW.trod_bool Try.underlying4 ht
    simp at e
    exact ⟨z, e⟩
  obtain ⟨z0, e0⟩ := key 0 c0 _ (by decide) rfl (fun g hg => by subst hg; exact ⟨rfl, by kernel_rfl, rfl⟩) (hg 0 _ rfl)
  obtain ⟨z1, e1⟩ := key 1 c1 _ (by decide) rfl (fun g hg => by subst hg; exact ⟨rfl, by kernel_rfl, rfl⟩) (hg 1 _ rfl)
  obtain ⟨z2, e2⟩ := key 2 c2 _ (by decide) rfl (fun g hg => by subst hg; exact ⟨rfl, by kernel_rfl, rfl⟩) (hg 2 _ rfl)
  obtain ⟨z3, e3⟩ := key 3 c3 _ (by decide) rfl (fun g hg => by subst hg; exact ⟨rfl, by kernel_rfl, rfl⟩) (hg 3 _ rfl)
  obtain ⟨z4, e4⟩ := key 4 c4 _ (by decide) rfl (fun g hg => by subst hg; exact ⟨rfl, by kernel_rfl, rfl⟩) (hg 4 _ rfl)
  exact ⟨z0, z1, z2, z3, z4, e0, e1, e2, e3, e4⟩
theorem cells_pnt : Try.prog.cellsOf 41 = 2 := by kernel_rfl
/-- A list of points. -/
theorem open_pts {H : Type} {enc : TypeId × Value → H} {w : World} {fuel : Nat} {v : Value} {x : DataW H × List MemPlace}
    (h : DataW.trod enc Try.prog w 0 (fun _ => true) true fuel 29 [v] = some x) :
    ∃ (a : Option Addr) (cs : List Hp.Pt) (cap : Nat), v = .slice a cs.length cap ∧ HoldsP w a cs ∧ cs.length ≤ cap ∧ (a = none → cs.length = 0 ∧ cap = 0) := by
  rcases open_slice_fields Try.underlying29 Try.underlying41 (by kernel_rfl) cells_pnt h with ⟨hcs, _⟩ | ⟨a', len, cap', m, D, Pl', hcs, _, hl, hm, hmm, _, hi⟩
  · simp at hcs
    subst hcs
    exact ⟨none, [], 0, rfl, .inl rfl, Nat.le_refl _, fun _ => ⟨rfl, rfl⟩⟩
  · simp at hcs
    subst hcs
    have hmm' : m = cap' := by simpa using hmm
    by_cases hn0 : len = 0
    · subst hn0
      exact ⟨some a', [], cap', rfl, .inl rfl, Nat.zero_le _, fun h => by simp at h⟩
    · have key : ∀ i, i < len → ∃ C : Hp.Pt, w.cell? (a'.add (i * 2 + 0)) = some (.int .i64 C.x) ∧ w.cell? (a'.add (i * 2 + 1)) = some (.int .i64 C.y) := by
        intro i hin
        obtain ⟨ys, k, _, _, _, hg⟩ := hi i (by omega)
        obtain ⟨u0, y0, g0, _, t0⟩ := hg 0 _ rfl
        obtain ⟨u1, y1, g1, _, t1⟩ := hg 1 _ rfl
        obtain ⟨n0, f0, _, _⟩ := DataW.trod_int Try.underlying3 t0
        obtain ⟨n1, f1, _, _⟩ := DataW.trod_int Try.underlying3 t1
        simp at f0 f1
        subst f0 f1
        exact ⟨⟨n0, n1⟩, g0, g1⟩
      obtain ⟨b, off, spot⟩ := a'
      obtain ⟨C, hq, _⟩ := key 0 (by omega)
      have hspot : spot = none := by
        have := World.cell?_spot hq
        simpa [Addr.add] using this
      subst hspot
      have key' : ∀ i, i < len → ∃ C : Hp.Pt, PtAt w b (off + i * 2) C := fun i hi => by
        obtain ⟨C, h0, h1⟩ := key i hi
        rw [add_plain] at h0 h1
        exact ⟨C, h0, by rw [Nat.add_assoc]; exact h1⟩
      refine ⟨some ⟨b, off, none⟩, List.ofFn (fun i : Fin len => Classical.choose (key' i.1 i.2)), cap', by simp, .inr ⟨b, off, rfl, fun k hk => ?_⟩, by simpa using hl, fun h => by simp at h⟩
      have hk' : k < len := by simpa using hk
      rw [List.getElem_ofFn]
      exact Classical.choose_spec (key' k hk')
/-- A list of components. -/
theorem open_comps2 {H : Type} {enc : TypeId × Value → H} {w : World} {fuel : Nat} {v : Value} {x : DataW H × List MemPlace}
    (h : DataW.trod enc Try.prog w 0 (fun _ => true) true fuel 24 [v] = some x) :
    ∃ (a : Option Addr) (cs : List Hp.Cm) (cap : Nat), v = .slice a cs.length cap ∧ HoldsC w a cs ∧ cs.length ≤ cap ∧ (a = none → cs.length = 0 ∧ cap = 0) := by
  rcases open_slice_fields Try.underlying24 Try.underlying56 (by kernel_rfl) cells_comp h with ⟨hcs, _⟩ | ⟨a', len, cap', m, D, Pl', hcs, _, hl, hm, hmm, _, hi⟩
  · simp at hcs
    subst hcs
    exact ⟨none, [], 0, rfl, .inl rfl, Nat.le_refl _, fun _ => ⟨rfl, rfl⟩⟩
  · simp at hcs
    subst hcs
    have hmm' : m = cap' := by simpa using hmm
    by_cases hn0 : len = 0
    · subst hn0
      exact ⟨some a', [], cap', rfl, .inl rfl, Nat.zero_le _, fun h => by simp at h⟩
    · have key : ∀ i, i < len → ∃ C : Hp.Cm, w.cell? (a'.add (i * 4 + 0)) = some (.int .i64 C.depth) ∧ w.cell? (a'.add (i * 4 + 1)) = some (.bool C.sg) ∧ w.cell? (a'.add (i * 4 + 2)) = some (.int .i64 C.dx) ∧ w.cell? (a'.add (i * 4 + 3)) = some (.int .i64 C.dy) := by
        intro i hin
        obtain ⟨ys, k, _, _, _, hg⟩ := hi i (by omega)
        obtain ⟨u0, y0, g0, _, t0⟩ := hg 0 _ rfl
        obtain ⟨u1, y1, g1, _, t1⟩ := hg 1 _ rfl
        obtain ⟨u2, y2, g2, _, t2⟩ := hg 2 _ rfl
        obtain ⟨u3, y3, g3, _, t3⟩ := hg 3 _ rfl
        obtain ⟨n0, f0, _, _⟩ := DataW.trod_int Try.underlying3 t0
        obtain ⟨n1, f1, _⟩ := DataW.trod_bool Try.underlying4 t1
        obtain ⟨n2, f2, _, _⟩ := DataW.trod_int Try.underlying3 t2
        obtain ⟨n3, f3, _, _⟩ := DataW.trod_int Try.underlying3 t3
        simp at f0 f1 f2 f3
        subst f0 f1 f2 f3
        exact ⟨⟨n0, n1, n2, n3⟩, g0, g1, g2, g3⟩
      obtain ⟨b, off, spot⟩ := a'
      obtain ⟨C, hq, _⟩ := key 0 (by omega)
      have hspot : spot = none := by
        have := World.cell?_spot hq
        simpa [Addr.add] using this
      subst hspot
      have key' : ∀ i, i < len → ∃ C : Hp.Cm, CmAt w b (off + i * 4) C := fun i hi => by
        obtain ⟨C, h0, h1, h2, h3⟩ := key i hi
        rw [add_plain] at h0 h1 h2 h3
        exact ⟨C, h0, by rw [Nat.add_assoc]; exact h1, by rw [Nat.add_assoc]; exact h2, by rw [Nat.add_assoc]; exact h3⟩
      refine ⟨some ⟨b, off, none⟩, List.ofFn (fun i : Fin len => Classical.choose (key' i.1 i.2)), cap', by simp, .inr ⟨b, off, rfl, fun k hk => ?_⟩, by simpa using hl, fun h => by simp at h⟩
      have hk' : k < len := by simpa using hk
      rw [List.getElem_ofFn]
      exact Classical.choose_spec (key' k hk')
theorem open_header2 {H : Type} {enc : TypeId × Value → H} {w : World} {r : Reach} {b0 : Nat} {v : Value} {d : DataW H} {p : List MemPlace}
    (hv : Value.okWide Try.prog w r b0 26 v) (h : DataW.Trod enc Try.prog w 0 (fun _ => true) true 26 v d p) :
    ∃ (hd : Hp.Hd) (s : Option Addr) (m : Nat), v = .agg (hvA hd s m) ∧ HoldsC w s hd.cs ∧ hd.cs.length ≤ m ∧ (s = none → hd.cs.length = 0 ∧ m = 0) := by
  obtain ⟨cs, rfl, hsz⟩ := okWide_struct Try.underlying26 hv
  obtain ⟨c0, c1, c2, c3, c4, c5, c6, rfl⟩ := arr7' _ (hsz.trans (by kernel_rfl))
  obtain ⟨fuel, hf⟩ := h
  obtain ⟨xs, n, _, _, _, hl, hg⟩ := DataW.trod_struct Try.underlying26 hf
  have hx : ∀ j, j < 4 → ∃ y, xs[j]? = some y := fun j hj => ⟨_, List.getElem?_eq_getElem (by rw [hl]; exact hj)⟩
  obtain ⟨y0, e0⟩ := hx 0 (by decide)
  obtain ⟨y1, e1⟩ := hx 1 (by decide)
  obtain ⟨y2, e2⟩ := hx 2 (by decide)
  obtain ⟨y3, e3⟩ := hx 3 (by decide)
  have t0 : DataW.trod enc Try.prog w 0 (fun _ => true) true n 23 [c0, c1, c2, c3] = some y0 := (hg 0 _ rfl).trans e0
  have t1 : DataW.trod enc Try.prog w 0 (fun _ => true) true n 3 [c4] = some y1 := (hg 1 _ rfl).trans e1
  have t2 : DataW.trod enc Try.prog w 0 (fun _ => true) true n 3 [c5] = some y2 := (hg 2 _ rfl).trans e2
  have t3 : DataW.trod enc Try.prog w 0 (fun _ => true) true n 24 [c6] = some y3 := (hg 3 _ rfl).trans e3
  obtain ⟨a, b, c, d', rfl, rfl, rfl, rfl⟩ := open_rectF t0
  obtain ⟨tw, f1, _, _⟩ := DataW.trod_int Try.underlying3 t1
  obtain ⟨th, f2, _, _⟩ := DataW.trod_int Try.underlying3 t2
  simp at f1 f2
  subst f1 f2
  obtain ⟨s, l, m, rfl, hC, hm1, hm2⟩ := open_comps2 t3
  exact ⟨⟨a, b, c, d', tw, th, l⟩, s, m, rfl, hC, hm1, hm2⟩
theorem arr19 (T : Array Value) (h : T.size = 19) : ∃ v0 v1 v2 v3 v4 v5 v6 v7 v8 v9 v10 v11 v12 v13 v14 v15 v16 v17 v18, T = #[v0, v1, v2, v3, v4, v5, v6, v7, v8, v9, v10, v11, v12, v13, v14, v15, v16, v17, v18] := by
  obtain ⟨l⟩ := T
  match l, h with
  | [v0, v1, v2, v3, v4, v5, v6, v7, v8, v9, v10, v11, v12, v13, v14, v15, v16, v17, v18], _ => exact ⟨v0, v1, v2, v3, v4, v5, v6, v7, v8, v9, v10, v11, v12, v13, v14, v15, v16, v17, v18, rfl⟩
/-- Coding parameters. -/
theorem open_params {H : Type} {enc : TypeId × Value → H} {w : World} {r : Reach} {b0 : Nat} {v : Value} {d : DataW H} {p : List MemPlace}
    (hv : Value.okWide Try.prog w r b0 35 v) (h : DataW.Trod enc Try.prog w 0 (fun _ => true) true 35 v d p) :
    ∃ (q : Hp.Ps) (s : Option Addr) (m : Nat) (s2 : Option Addr) (m2 : Nat), v = .agg (pvA q s m s2 m2) ∧ HoldsP w s q.prec ∧ HoldsI w s2 q.steps ∧ (q.prec.length ≤ m ∧ (s = none → q.prec.length = 0 ∧ m = 0)) ∧ (q.steps.length ≤ m2 ∧ (s2 = none → q.steps.length = 0 ∧ m2 = 0)) := by
  obtain ⟨cs, rfl, hsz⟩ := okWide_struct Try.underlying35 hv
  obtain ⟨c0, c1, c2, c3, c4, c5, c6, c7, c8, c9, c10, c11, c12, c13, c14, c15, c16, c17, c18, rfl⟩ := arr19 _ (hsz.trans (by kernel_rfl))
  obtain ⟨fuel, hf⟩ := h
  obtain ⟨xs, n, _, _, _, hl, hg⟩ := DataW.trod_struct Try.underlying35 hf
  have hx : ∀ j, j < 15 → ∃ y, xs[j]? = some y := fun j hj => ⟨_, List.getElem?_eq_getElem (by rw [hl]; exact hj)⟩
  obtain ⟨y0, e0⟩ := hx 0 (by decide)
  have t0 : DataW.trod enc Try.prog w 0 (fun _ => true) true n 27 [c0] = some y0 := (hg 0 _ rfl).trans e0
  obtain ⟨y1, e1⟩ := hx 1 (by decide)
  have t1 : DataW.trod enc Try.prog w 0 (fun _ => true) true n 3 [c1] = some y1 := (hg 1 _ rfl).trans e1
  obtain ⟨y2, e2⟩ := hx 2 (by decide)
  have t2 : DataW.trod enc Try.prog w 0 (fun _ => true) true n 28 [c2] = some y2 := (hg 2 _ rfl).trans e2
  obtain ⟨y3, e3⟩ := hx 3 (by decide)
  have t3 : DataW.trod enc Try.prog w 0 (fun _ => true) true n 3 [c3] = some y3 := (hg 3 _ rfl).trans e3
  obtain ⟨y4, e4⟩ := hx 4 (by decide)
  have t4 : DataW.trod enc Try.prog w 0 (fun _ => true) true n 3 [c4] = some y4 := (hg 4 _ rfl).trans e4
  obtain ⟨y5, e5⟩ := hx 5 (by decide)
  have t5 : DataW.trod enc Try.prog w 0 (fun _ => true) true n 29 [c5] = some y5 := (hg 5 _ rfl).trans e5
  obtain ⟨y6, e6⟩ := hx 6 (by decide)
  have t6 : DataW.trod enc Try.prog w 0 (fun _ => true) true n 30 [c6] = some y6 := (hg 6 _ rfl).trans e6
  obtain ⟨y7, e7⟩ := hx 7 (by decide)
  have t7 : DataW.trod enc Try.prog w 0 (fun _ => true) true n 3 [c7] = some y7 := (hg 7 _ rfl).trans e7
  obtain ⟨y8, e8⟩ := hx 8 (by decide)
  have t8 : DataW.trod enc Try.prog w 0 (fun _ => true) true n 32 [c8, c9, c10, c11, c12] = some y8 := (hg 8 _ rfl).trans e8
  obtain ⟨y9, e9⟩ := hx 9 (by decide)
  have t9 : DataW.trod enc Try.prog w 0 (fun _ => true) true n 4 [c13] = some y9 := (hg 9 _ rfl).trans e9
  obtain ⟨y10, e10⟩ := hx 10 (by decide)
  have t10 : DataW.trod enc Try.prog w 0 (fun _ => true) true n 4 [c14] = some y10 := (hg 10 _ rfl).trans e10
  obtain ⟨y11, e11⟩ := hx 11 (by decide)
  have t11 : DataW.trod enc Try.prog w 0 (fun _ => true) true n 4 [c15] = some y11 := (hg 11 _ rfl).trans e11
  obtain ⟨y12, e12⟩ := hx 12 (by decide)
  have t12 : DataW.trod enc Try.prog w 0 (fun _ => true) true n 33 [c16] = some y12 := (hg 12 _ rfl).trans e12
  obtain ⟨y13, e13⟩ := hx 13 (by decide)
  have t13 : DataW.trod enc Try.prog w 0 (fun _ => true) true n 3 [c17] = some y13 := (hg 13 _ rfl).trans e13
  obtain ⟨y14, e14⟩ := hx 14 (by decide)
  have t14 : DataW.trod enc Try.prog w 0 (fun _ => true) true n 3 [c18] = some y14 := (hg 14 _ rfl).trans e14
  obtain ⟨kern, f0, _, _⟩ := DataW.trod_int Try.underlying27 t0
  simp at f0
  subst f0
  obtain ⟨lev, f1, _, _⟩ := DataW.trod_int Try.underlying3 t1
  simp at f1
  subst f1
  obtain ⟨col, f2, _, _⟩ := DataW.trod_int Try.underlying28 t2
  simp at f2
  subst f2
  obtain ⟨bx, f3, _, _⟩ := DataW.trod_int Try.underlying3 t3
  simp at f3
  subst f3
  obtain ⟨yb, f4, _, _⟩ := DataW.trod_int Try.underlying3 t4
  simp at f4
  subst f4
  obtain ⟨s, lp, m, rfl, hP, hm1, hm2⟩ := open_pts t5
  obtain ⟨ord, f6, _, _⟩ := DataW.trod_int Try.underlying30 t6
  simp at f6
  subst f6
  obtain ⟨lay, f7, _, _⟩ := DataW.trod_int Try.underlying3 t7
  simp at f7
  subst f7
  obtain ⟨z0, z1, z2, z3, z4, rfl, rfl, rfl, rfl, rfl⟩ := open_modeF t8
  obtain ⟨dv, f9, _⟩ := DataW.trod_bool Try.underlying4 t9
  simp at f9
  subst f9
  obtain ⟨sy, f10, _⟩ := DataW.trod_bool Try.underlying4 t10
  simp at f10
  subst f10
  obtain ⟨fe, f11, _⟩ := DataW.trod_bool Try.underlying4 t11
  simp at f11
  subst f11
  obtain ⟨s2, ls, m2, rfl, hS, hn1, _, hn2⟩ := open_ints13 t12
  obtain ⟨dead, f13, _, _⟩ := DataW.trod_int Try.underlying3 t13
  simp at f13
  subst f13
  obtain ⟨sh, f14, _, _⟩ := DataW.trod_int Try.underlying3 t14
  simp at f14
  subst f14
  exact ⟨⟨kern, lev, col, bx, yb, lp, ord, lay, z0, z1, z2, z3, z4, dv, sy, fe, ls, dead, sh⟩, s, m, s2, m2, rfl, hP, hS, ⟨hm1, hm2⟩, ⟨hn1, hn2⟩⟩
end Go.Proofs.Ytkcjbehfhcmiaaa
