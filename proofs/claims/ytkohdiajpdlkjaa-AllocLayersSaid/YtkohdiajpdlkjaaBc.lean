/-
  What the statements of layer 21 are closed by: a list of curves as an argument.
-/
import Derived.Test.YtkohdiajpdlkjaaFrameI
import Derived.Test.YtkohdiajpdlkjaaAc
set_option maxRecDepth 100000
namespace Go.Proofs.Ytkohdiajpdlkjaa
open Go.ChangeShapes Go.WideShapes Go.ChangeAt Go.RowKit Go.Joins Go.Deep

section
variable {H : Type} {enc : TypeId × Value → H} {P : Program} {w : World} {base : Nat} {spare : Nat → Bool} {held : Bool}
theorem open_slice_fields {t e : TypeId} {fs : Array Field} {fuel : Nat} {cs : List Value} {x : DataW H × List MemPlace} (ht : P.underlying t = some (.slice e)) (he : P.underlying e = some (.struct fs))
    (hone : oneCellFields P fs = true) (hC : P.cellsOf e = fs.size) (h : DataW.trod enc P w base spare held fuel t cs = some x) :
    (cs = [.slice none 0 0] ∧ x = (.nil, [])) ∨
    ∃ (a : Addr) (len cap m : Nat) (D : Nat → DataW H) (Pl : Nat → List MemPlace), cs = [.slice (some a) len cap] ∧ base ≤ a.block ∧ len ≤ cap ∧ cap ≤ maxLen ∧ m = (if spare a.block then cap else len) ∧
      x = (.slice ((List.range len).map D) ((List.range (m - len)).map fun j => D (len + j)), MemPlace.row a (m * fs.size) ++ (List.range m).flatMap Pl) ∧
      ∀ i, i < m → ∃ (ys : List (DataW H × List MemPlace)) (n : Nat), D i = .agg (ys.map (·.1)) ∧ Pl i = ys.flatMap (·.2) ∧ ys.length = fs.size ∧
        ∀ (j : Nat) (f : Field), fs[j]? = some f → ∃ (v : Value) (y : DataW H × List MemPlace), w.cell? (a.add (i * fs.size + j)) = some v ∧ ys[j]? = some y ∧ DataW.trod enc P w base spare held n f.type [v] = some y := by
  rcases open_slice ht h with h0 | ⟨a, len, cap, m, n, D, Pl, hcs, hb, hl, hm, hmm, hx, hi⟩
  · exact .inl h0
  · refine .inr ⟨a, len, cap, m, D, Pl, hcs, hb, hl, hm, hmm, by rw [hC] at hx; exact hx, fun i him => ?_⟩
    obtain ⟨cs', hc, ht'⟩ := hi i him
    rw [hC] at hc
    obtain ⟨ys, n', hn', hy, hlen, hyl, hf⟩ := DataW.trod_struct he ht'
    obtain ⟨_, hcl, hat⟩ := World.cells?_some hc
    simp only [Prod.mk.injEq] at hy
    refine ⟨ys, n', hy.1, hy.2, hyl, fun j f hj => ?_⟩
    obtain ⟨ho, hk⟩ := hone_of hone j f hj
    have hjl : j < fs.size := (Array.getElem?_eq_some_iff.1 hj).1
    have hcell := hat j hjl
    have hv : cs'[j]? = some (cs'[j]'(by omega)) := List.getElem?_eq_getElem (by omega)
    have h1 := hf j f hj
    rw [ho, hk] at h1
    have hone' : (cs'.drop j).take 1 = [cs'[j]'(by omega)] := by
      rw [List.drop_eq_getElem_cons (by omega)]
      rfl
    rw [hone'] at h1
    have hys : ys[j]? = some (ys[j]'(by omega)) := List.getElem?_eq_getElem (by omega)
    refine ⟨_, _, ?_, hys, h1.trans hys⟩
    rw [← Go.Deep.add_add, hcell, hv]
end
theorem cells_curve : Try.prog.cellsOf 37 = 2 := by kernel_rfl
theorem open_curves {H : Type} {enc : TypeId × Value → H} {w : World} {r : Reach} {b0 : Nat} {v : Value} {d : DataW H} {p : List MemPlace}
    (hv : Value.okWide Try.prog w r b0 22 v) (h : DataW.Trod enc Try.prog w 0 (fun _ => true) true 22 v d p) :
    ∃ (a : Option Addr) (cs : List Cv) (cap : Nat), v = .slice a cs.length cap ∧ HoldsCv w a cs := by
  obtain ⟨a, n, cap, rfl⟩ := okWide_slice Try.underlying22 hv
  obtain ⟨fuel, hf⟩ := h
  have h' : DataW.trod enc Try.prog w 0 (fun _ => true) true fuel 22 [.slice a n cap] = some (d, p) := by simpa [Value.cells] using hf
  rcases open_slice_fields Try.underlying22 Try.underlying37 (by kernel_rfl) cells_curve h' with ⟨hcs, _⟩ | ⟨a', len, cap', m, D, Pl', hcs, _, hl, hm, hmm, _, hi⟩
  · simp at hcs
    obtain ⟨rfl, rfl, rfl⟩ := hcs
    exact ⟨none, [], 0, rfl, .inl rfl⟩
  · simp at hcs
    obtain ⟨rfl, rfl, rfl⟩ := hcs
    have hmm' : m = cap := by simpa using hmm
    by_cases hn0 : n = 0
    · subst hn0
      exact ⟨some a', [], cap, rfl, .inl rfl⟩
    · have key : ∀ i, i < n → ∃ C : Cv, ∃ sr sd mr md, w.cell? (a'.add (i * 2 + 0)) = some (.slice sr C.1.length mr) ∧ w.cell? (a'.add (i * 2 + 1)) = some (.slice sd C.2.length md) ∧ HoldsI w sr C.1 ∧ HoldsI w sd C.2 := by
        intro i hin
        obtain ⟨ys, k, _, _, _, hg⟩ := hi i (by omega)
        obtain ⟨u0, y0, g0, _, t0⟩ := hg 0 _ rfl
        obtain ⟨u1, y1, g1, _, t1⟩ := hg 1 _ rfl
        obtain ⟨s, l, cp, f1, q1, _⟩ := open_ints t0
        obtain ⟨s2, l2, cp2, f2, q2, _⟩ := open_ints t1
        subst f1 f2
        exact ⟨(l, l2), s, s2, cp, cp2, g0, g1, q1, q2⟩
      obtain ⟨b, off, spot⟩ := a'
      obtain ⟨C, sr, sd, mr, md, hq, _⟩ := key 0 (by omega)
      have hspot : spot = none := by
        have := World.cell?_spot hq
        simpa [Addr.add] using this
      subst hspot
      have key' : ∀ i, i < n → ∃ C : Cv, ∃ sr sd mr md, w.cell? ⟨b, off + i * 2, none⟩ = some (.slice sr C.1.length mr) ∧ w.cell? ⟨b, off + i * 2 + 1, none⟩ = some (.slice sd C.2.length md) ∧ HoldsI w sr C.1 ∧ HoldsI w sd C.2 := fun i hi => by
        obtain ⟨C, sr, sd, mr, md, h0, h1, h2, h3⟩ := key i hi
        rw [add_plain] at h0 h1
        exact ⟨C, sr, sd, mr, md, h0, by rw [Nat.add_assoc]; exact h1, h2, h3⟩
      refine ⟨some ⟨b, off, none⟩, List.ofFn (fun i : Fin n => Classical.choose (key' i.1 i.2)), cap, by simp, .inr ⟨b, off, rfl, fun k hk => ?_⟩⟩
      have hk' : k < n := by simpa using hk
      have e : (List.ofFn (fun i : Fin n => Classical.choose (key' i.1 i.2))).getD k ([], []) = Classical.choose (key' k hk') := by
        rw [List.getD_eq_getElem?_getD, List.getElem?_eq_getElem hk]
        simp
      rw [e]
      exact Classical.choose_spec (key' k hk')
end Go.Proofs.Ytkohdiajpdlkjaa
