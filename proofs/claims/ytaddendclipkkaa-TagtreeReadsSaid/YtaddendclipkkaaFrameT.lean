/-
  The arguments of layer 10's laws, opened: calls and lists of calls.
-/
import Derived.Test.YtaddendclipkkaaFrameI
import Derived.Test.YtaddendclipkkaaObj
import Derived.OpenShut
set_option maxRecDepth 100000
namespace Go.Proofs.Ytaddendclipkkaa
open Go.ChangeShapes Go.WideShapes Go.ChangeAt Go.RowKit Go.Joins Go.Deep

section
variable {H : Type} {enc : TypeId × Value → H} {P : Program} {w : World} {base : Nat} {spare : Nat → Bool} {held : Bool}
theorem open_slice_fields {t e : TypeId} {fs : Array Field} {fuel : Nat} {cs : List Value} {x : DataW H × List MemPlace} (ht : P.underlying t = some (.slice e)) (he : P.underlying e = some (.struct fs))
    (hone : oneCellFields P fs = true) (hC : P.cellsOf e = fs.size) (h : DataW.trod enc P w base spare held fuel t cs = some x) :
    (cs = [.slice none 0 0] ∧ x = (.nil, [])) ∨
    ∃ (a : Addr) (len cap m : Nat) (D : Nat → DataW H) (Pl : Nat → List MemPlace), cs = [.slice (some a) len cap] ∧ base ≤ a.block ∧ len ≤ cap ∧ cap ≤ maxLen ∧ m = (if spare a.block then cap else len) ∧
      x = (.slice ((List.range len).map D) ((List.range (m - len)).map fun j => D (len + j)), MemPlace.row a (m * fs.size) ++ (List.range m).flatMap Pl) ∧
      ∀ i, i < m → ∃ (ys : List (DataW H × List MemPlace)) (n : Nat), D i = .agg (ys.map (·.1)) ∧ Pl i = ys.flatMap (·.2) ∧ ys.length = fs.size ∧
        ∀ (j : Nat) (f : Field), fs[j]? = some f → ∃ (v : Value) (y : DataW H × List MemPlace), w.cell? (a.add (i * fs.size + j)) = some v ∧ ys[j]? = some y ∧ DataW.trod enc P w base spare held n f.type [v] = some y := by
  rcases open_slice ht h with h0 | ⟨a, len, cap, m, n, D, Pl, hcs, hb, hl, hm, hmm, hx, hi⟩
  · exact .inl h0
  · refine .inr ⟨a, len, cap, m, D, Pl, hcs, hb, hl, hm, hmm, by rw [hC] at hx; exact hx, fun i him => ?_⟩
    obtain ⟨cs', hc, ht'⟩ := hi i him
    rw [hC] at hc
    obtain ⟨ys, n', hn', hy, hlen, hyl, hf⟩ := DataW.trod_struct he ht'
    obtain ⟨_, hcl, hat⟩ := World.cells?_some hc
    simp only [Prod.mk.injEq] at hy
    refine ⟨ys, n', hy.1, hy.2, hyl, fun j f hj => ?_⟩
    obtain ⟨ho, hk⟩ := hone_of hone j f hj
    have hjl : j < fs.size := (Array.getElem?_eq_some_iff.1 hj).1
    have hcell := hat j hjl
    have hv : cs'[j]? = some (cs'[j]'(by omega)) := List.getElem?_eq_getElem (by omega)
    have h1 := hf j f hj
    rw [ho, hk] at h1
    have hone' : (cs'.drop j).take 1 = [cs'[j]'(by omega)] := by
      rw [List.drop_eq_getElem_cons (by omega)]
      rfl
    rw [hone'] at h1
    have hys : ys[j]? = some (ys[j]'(by omega)) := List.getElem?_eq_getElem (by omega)
    refine ⟨_, _, ?_, hys, h1.trans hys⟩
    rw [← Go.Deep.add_add, hcell, hv]
end
def i64R (a : Int) : Prop := -9223372036854775808 ≤ a ∧ a ≤ 9223372036854775807
theorem i64_of {a : Int} (h : (Lit.int .i64 a).wf = true) : i64R a := by
  have h3 := h
  simp [Lit.wf] at h3
  try rw [show IntKind.i64.min = -9223372036854775808 by decide] at h3
  try rw [show IntKind.i64.max = 9223372036854775807 by decide] at h3
  exact h3
/-- A call: kind, coordinates, value. -/
structure OpT where
  k : Int
  x : Int
  y : Int
  v : Int
def OpT.val (o : OpT) : Value := .agg #[.int .i64 o.k, .int .i64 o.x, .int .i64 o.y, .int .i64 o.v]
def OpAtT (w : World) (b off : Nat) (o : OpT) : Prop := w.cell? ⟨b, off, none⟩ = some (.int .i64 o.k) ∧ w.cell? ⟨b, off + 1, none⟩ = some (.int .i64 o.x) ∧ w.cell? ⟨b, off + 2, none⟩ = some (.int .i64 o.y) ∧ w.cell? ⟨b, off + 3, none⟩ = some (.int .i64 o.v)
/-- A slice's address holds the calls of a list. -/
def HoldsT (w : World) (s : Option Addr) (l : List OpT) : Prop := l = [] ∨ ∃ b off, s = some ⟨b, off, none⟩ ∧ ∀ k (h : k < l.length), OpAtT w b (off + k * 4) l[k]
theorem HoldsT.below {B : Nat} {w w1 : World} {s : Option Addr} {l : List OpT} (h : HoldsT w s l) (hb : Below B w w1) (hB : w.heap.size ≤ B) : HoldsT w1 s l := by
  rcases h with h | ⟨b, off, rfl, hr⟩
  · exact .inl h
  · have f : ∀ {o : Nat} {v : Value}, w.cell? ⟨b, o, none⟩ = some v → w1.cell? ⟨b, o, none⟩ = some v := fun {o v} hc => (hb.cell (p := ⟨b, o, none⟩) (Nat.lt_of_lt_of_le (cell_lt hc) hB)).trans hc
    exact .inr ⟨b, off, rfl, fun k hk => ⟨f (hr k hk).1, f (hr k hk).2.1, f (hr k hk).2.2.1, f (hr k hk).2.2.2⟩⟩
theorem HoldsT.at {w : World} {s : Option Addr} {l : List OpT} (h : HoldsT w s l) {k : Nat} (hk : k < l.length) : ∃ b off, s = some ⟨b, off, none⟩ ∧ OpAtT w b (off + k * 4) l[k] := by
  rcases h with rfl | ⟨b, off, rfl, hr⟩
  · simp at hk
  · exact ⟨b, off, rfl, hr k hk⟩
theorem cellsO : Try.prog.cellsOf 56 = 4 := by kernel_rfl
/-- An argument that is a slice of calls. -/
theorem open_ops {H : Type} {enc : TypeId × Value → H} {w : World} {r : Reach} {b0 : Nat} {v : Value} {d : DataW H} {p : List MemPlace}
    (hv : Value.okWide Try.prog w r b0 53 v) (h : DataW.Trod enc Try.prog w 0 (fun _ => true) true 53 v d p) :
    ∃ (a : Option Addr) (l : List OpT) (cap : Nat), v = .slice a l.length cap ∧ HoldsT w a l := by
  obtain ⟨a, n, cap, rfl⟩ := okWide_slice Try.underlying53 hv
  obtain ⟨fuel, hf⟩ := h
  have h' : DataW.trod enc Try.prog w 0 (fun _ => true) true fuel 53 [.slice a n cap] = some (d, p) := by simpa [Value.cells] using hf
  rcases open_slice_fields Try.underlying53 Try.underlying56 (by kernel_rfl) cellsO h' with ⟨hcs, _⟩ | ⟨a', len, cap', m, D, Pl', hcs, _, hl, hm, hmm, _, hi⟩
  · simp at hcs
    obtain ⟨rfl, rfl, rfl⟩ := hcs
    exact ⟨none, [], 0, rfl, .inl rfl⟩
  · simp at hcs
    obtain ⟨rfl, rfl, rfl⟩ := hcs
    have hmm' : m = cap := by simpa using hmm
    by_cases hn0 : n = 0
    · subst hn0
      exact ⟨some a', [], cap, rfl, .inl rfl⟩
    · have key : ∀ i, i < n → ∃ q : OpT, w.cell? (a'.add (i * 4 + 0)) = some (.int .i64 q.k) ∧ w.cell? (a'.add (i * 4 + 1)) = some (.int .i64 q.x) ∧ w.cell? (a'.add (i * 4 + 2)) = some (.int .i64 q.y) ∧ w.cell? (a'.add (i * 4 + 3)) = some (.int .i64 q.v) := by
        intro i hin
        obtain ⟨ys, k, _, _, _, hg⟩ := hi i (by omega)
        obtain ⟨u0, y0, g0, _, t0⟩ := hg 0 _ rfl
        obtain ⟨u1, y1, g1, _, t1⟩ := hg 1 _ rfl
        obtain ⟨u2, y2, g2, _, t2⟩ := hg 2 _ rfl
        obtain ⟨u3, y3, g3, _, t3⟩ := hg 3 _ rfl
        obtain ⟨q0, e0, _, _⟩ := DataW.trod_int Try.underlying3 t0
        obtain ⟨q1, e1, _, _⟩ := DataW.trod_int Try.underlying3 t1
        obtain ⟨q2, e2, _, _⟩ := DataW.trod_int Try.underlying3 t2
        obtain ⟨q3, e3, _, _⟩ := DataW.trod_int Try.underlying3 t3
        simp at e0 e1 e2 e3
        subst e0 e1 e2 e3
        exact ⟨⟨q0, q1, q2, q3⟩, g0, g1, g2, g3⟩
      obtain ⟨b, off, spot⟩ := a'
      obtain ⟨q, hq, _⟩ := key 0 (by omega)
      have hspot : spot = none := by
        have := World.cell?_spot hq
        simpa [Addr.add] using this
      subst hspot
      have key' : ∀ i, i < n → ∃ q : OpT, OpAtT w b (off + i * 4) q := fun i hi => by
        obtain ⟨q, h0, h1, h2, h3⟩ := key i hi
        rw [add_plain] at h0 h1 h2 h3
        exact ⟨q, h0, by rw [Nat.add_assoc]; exact h1, by rw [Nat.add_assoc]; exact h2, by rw [Nat.add_assoc]; exact h3⟩
      refine ⟨some ⟨b, off, none⟩, List.ofFn (fun i : Fin n => Classical.choose (key' i.1 i.2)), cap, by simp, .inr ⟨b, off, rfl, fun k hk => ?_⟩⟩
      have hk' : k < n := by simpa using hk
      rw [List.getElem_ofFn]
      exact Classical.choose_spec (key' k hk')
end Go.Proofs.Ytaddendclipkkaa
