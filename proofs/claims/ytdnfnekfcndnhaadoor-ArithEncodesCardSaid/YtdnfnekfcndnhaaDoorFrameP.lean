/-
  The arguments of stage 6's laws, opened: slices of bytes, slices of pairs of integers.
-/
import Derived.Test.YtdnfnekfcndnhaaDoorFrameI
import Derived.Test.YtdnfnekfcndnhaaDoorTb
set_option maxRecDepth 100000
namespace Go.Proofs.YtdnfnekfcndnhaaDoor
open Go.ChangeShapes Go.WideShapes Go.ChangeAt Go.RowKit Go.Joins Go.Deep

section
variable {H : Type} {enc : TypeId × Value → H} {P : Program} {w : World} {base : Nat} {spare : Nat → Bool} {held : Bool}
theorem open_slice_fields {t e : TypeId} {fs : Array Field} {fuel : Nat} {cs : List Value} {x : DataW H × List MemPlace} (ht : P.underlying t = some (.slice e)) (he : P.underlying e = some (.struct fs))
    (hone : oneCellFields P fs = true) (hC : P.cellsOf e = fs.size) (h : DataW.trod enc P w base spare held fuel t cs = some x) :
    (cs = [.slice none 0 0] ∧ x = (.nil, [])) ∨
    ∃ (a : Addr) (len cap m : Nat) (D : Nat → DataW H) (Pl : Nat → List MemPlace), cs = [.slice (some a) len cap] ∧ base ≤ a.block ∧ len ≤ cap ∧ cap ≤ maxLen ∧ m = (if spare a.block then cap else len) ∧
      x = (.slice ((List.range len).map D) ((List.range (m - len)).map fun j => D (len + j)), MemPlace.row a (m * fs.size) ++ (List.range m).flatMap Pl) ∧
      ∀ i, i < m → ∃ (ys : List (DataW H × List MemPlace)) (n : Nat), D i = .agg (ys.map (·.1)) ∧ Pl i = ys.flatMap (·.2) ∧ ys.length = fs.size ∧
        ∀ (j : Nat) (f : Field), fs[j]? = some f → ∃ (v : Value) (y : DataW H × List MemPlace), w.cell? (a.add (i * fs.size + j)) = some v ∧ ys[j]? = some y ∧ DataW.trod enc P w base spare held n f.type [v] = some y := by
  rcases open_slice ht h with h0 | ⟨a, len, cap, m, n, D, Pl, hcs, hb, hl, hm, hmm, hx, hi⟩
  · exact .inl h0
  · refine .inr ⟨a, len, cap, m, D, Pl, hcs, hb, hl, hm, hmm, by rw [hC] at hx; exact hx, fun i him => ?_⟩
    obtain ⟨cs', hc, ht'⟩ := hi i him
    rw [hC] at hc
    obtain ⟨ys, n', hn', hy, hlen, hyl, hf⟩ := DataW.trod_struct he ht'
    obtain ⟨_, hcl, hat⟩ := World.cells?_some hc
    simp only [Prod.mk.injEq] at hy
    refine ⟨ys, n', hy.1, hy.2, hyl, fun j f hj => ?_⟩
    obtain ⟨ho, hk⟩ := hone_of hone j f hj
    have hjl : j < fs.size := (Array.getElem?_eq_some_iff.1 hj).1
    have hcell := hat j hjl
    have hv : cs'[j]? = some (cs'[j]'(by omega)) := List.getElem?_eq_getElem (by omega)
    have h1 := hf j f hj
    rw [ho, hk] at h1
    have hone' : (cs'.drop j).take 1 = [cs'[j]'(by omega)] := by
      rw [List.drop_eq_getElem_cons (by omega)]
      rfl
    rw [hone'] at h1
    have hys : ys[j]? = some (ys[j]'(by omega)) := List.getElem?_eq_getElem (by omega)
    refine ⟨_, _, ?_, hys, h1.trans hys⟩
    rw [← Go.Deep.add_add, hcell, hv]
end
theorem cells8 : Tryd.prog.cellsOf 5 = 1 := by kernel_rfl
/-- An argument that is a slice of bytes. -/
theorem open_bytes {H : Type} {enc : TypeId × Value → H} {w : World} {r : Reach} {b0 : Nat} {v : Value} {d : DataW H} {p : List MemPlace}
    (hv : Value.okWide Tryd.prog w r b0 32 v) (h : DataW.Trod enc Tryd.prog w 0 (fun _ => true) true 32 v d p) :
    ∃ (a : Option Addr) (l : List Int) (cap : Nat), v = .slice a l.length cap ∧ HoldsB w a l ∧ Am.bytes l ∧ l.length ≤ cap ∧ cap ≤ maxLen ∧ (a = none → l = [] ∧ cap = 0) := by
  obtain ⟨a, n, cap, rfl⟩ := okWide_slice Tryd.underlying32 hv
  obtain ⟨fuel, hf⟩ := h
  have h' : DataW.trod enc Tryd.prog w 0 (fun _ => true) true fuel 32 [.slice a n cap] = some (d, p) := by simpa [Value.cells] using hf
  rcases open_slice1 Tryd.underlying32 cells8 h' with ⟨hcs, _⟩ | ⟨a', len, cap', m, k, V, D, Pl', hcs, _, hl, hm, hmm, _, hi⟩
  · simp at hcs
    obtain ⟨rfl, rfl, rfl⟩ := hcs
    exact ⟨none, [], 0, rfl, .inl rfl, fun _ h => by simp at h, Nat.le_refl _, Nat.zero_le _, fun _ => ⟨rfl, rfl⟩⟩
  · simp at hcs
    obtain ⟨rfl, rfl, rfl⟩ := hcs
    have hmm' : m = cap := by simpa using hmm
    by_cases hn0 : n = 0
    · subst hn0
      exact ⟨some a', [], cap, rfl, .inl rfl, fun _ h => by simp at h, Nat.zero_le _, hm, fun h => by simp at h⟩
    · have key : ∀ i, i < n → ∃ q : Int, w.cell? (a'.add i) = some (.int .u8 q) ∧ 0 ≤ q ∧ q ≤ 255 := by
        intro i hin
        obtain ⟨h1, h2⟩ := hi i (by omega)
        obtain ⟨q, e, _, hw⟩ := DataW.trod_int Tryd.underlying5 h2
        simp at e
        exact ⟨q, by rw [h1, e], by have h3 := hw; simp [Lit.wf] at h3; rw [show IntKind.u8.min = 0 by decide, show IntKind.u8.max = 255 by decide] at h3; exact h3⟩
      obtain ⟨b, off, spot⟩ := a'
      obtain ⟨q, hq, _⟩ := key 0 (by omega)
      have hspot : spot = none := by
        have := World.cell?_spot hq
        simpa [Addr.add] using this
      subst hspot
      have key' : ∀ i, i < n → ∃ q : Int, w.cell? ⟨b, off + i, none⟩ = some (.int .u8 q) ∧ 0 ≤ q ∧ q ≤ 255 := fun i hi => by
        obtain ⟨q, hq⟩ := key i hi
        exact ⟨q, by rw [add_plain] at hq; exact hq⟩
      refine ⟨some ⟨b, off, none⟩, List.ofFn (fun i : Fin n => Classical.choose (key' i.1 i.2)), cap, by simp, .inr ⟨b, off, rfl, fun k hk => ?_⟩, fun x hx => ?_, by simpa using hl, hm, fun h => by simp at h⟩
      · have hk' : k < n := by simpa using hk
        rw [List.getElem_ofFn]
        exact (Classical.choose_spec (key' k hk')).1
      · obtain ⟨i, rfl⟩ := List.mem_ofFn.1 hx
        exact (Classical.choose_spec (key' i.1 i.2)).2
/-- Two integers, one after the other. -/
def PairAt (w : World) (b o : Nat) (q : Int × Int) : Prop := w.cell? ⟨b, o, none⟩ = some (.int .i64 q.1) ∧ w.cell? ⟨b, o + 1, none⟩ = some (.int .i64 q.2)
/-- Pairs behind a slice's address. -/
def HoldsP (w : World) (a : Option Addr) (l : List (Int × Int)) : Prop := l = [] ∨ ∃ b off, a = some ⟨b, off, none⟩ ∧ ∀ k (_ : k < l.length), PairAt w b (off + k * 2) l[k]
theorem HoldsP.below {B : Nat} {w w1 : World} {a : Option Addr} {l : List (Int × Int)} (h : HoldsP w a l) (hb : Below B w w1) (hB : w.heap.size ≤ B) : HoldsP w1 a l := by
  rcases h with rfl | ⟨b, off, rfl, hr⟩
  · exact .inl rfl
  · refine .inr ⟨b, off, rfl, fun k hk => ?_⟩
    obtain ⟨h0, h1⟩ := hr k hk
    have hlt := Nat.lt_of_lt_of_le (cell_lt h0) hB
    exact ⟨(hb.cell (p := ⟨b, _, none⟩) hlt).trans h0, (hb.cell (p := ⟨b, _, none⟩) hlt).trans h1⟩
theorem HoldsP.call {w w1 : World} {s : Option Addr} {l : List (Int × Int)} (h : HoldsP w s l) (hb : Below w.heap.size w w1) : HoldsP w1 s l := h.below hb (Nat.le_refl _)
theorem HoldsP.at {w : World} {s : Option Addr} {l : List (Int × Int)} (h : HoldsP w s l) {k : Nat} (hk : k < l.length) : ∃ b off, s = some ⟨b, off, none⟩ ∧ PairAt w b (off + k * 2) l[k] := by
  rcases h with rfl | ⟨b, off, rfl, hr⟩
  · simp at hk
  · exact ⟨b, off, rfl, hr k hk⟩
theorem HoldsP.take {w : World} {s : Option Addr} {l : List (Int × Int)} (h : HoldsP w s l) (n : Nat) : HoldsP w s (l.take n) := by
  rcases h with rfl | ⟨b, off, rfl, hr⟩
  · exact .inl (by simp)
  · refine .inr ⟨b, off, rfl, fun k hk => ?_⟩
    simp at hk
    have := hr k (by omega)
    simpa using this

end Go.Proofs.YtdnfnekfcndnhaaDoor
