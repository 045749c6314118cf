/-
  What every statement of this seat is closed by: lists of integers with their ranges; a block as an argument.
-/
import Derived.Test.YtbhjapgioaiocaaDoorFrameI
import Derived.Test.YtbhjapgioaiocaaDoorEp
set_option maxRecDepth 100000
namespace Go.Proofs.YtbhjapgioaiocaaDoor
open Go.ChangeShapes Go.WideShapes Go.ChangeAt Go.RowKit Go.Joins Go.Deep

theorem cells8 : Tryd.prog.cellsOf 5 = 1 := by kernel_rfl
def HoldsF (w : World) (a : Option Addr) (l : List Int) : Prop := l = [] ∨ ∃ b off, a = some ⟨b, off, none⟩ ∧ ∀ k (_ : k < l.length), w.cell? ⟨b, off + k, none⟩ = some (.int .u8 l[k])
theorem HoldsF.call {w w1 : World} {a : Option Addr} {l : List Int} (h : HoldsF w a l) (hb : Below w.heap.size w w1) : HoldsF w1 a l := by
  rcases h with h | ⟨b, off, rfl, hr⟩
  · exact .inl h
  · exact .inr ⟨b, off, rfl, fun k hk => (hb.cell (p := ⟨b, _, none⟩) (cell_lt (hr k hk))).trans (hr k hk)⟩
/-- A slice of integers with their range, opened. -/
theorem open_intsF {H : Type} {enc : TypeId × Value → H} {w : World} {fuel : Nat} {v : Value} {x : DataW H × List MemPlace}
    (h : DataW.trod enc Tryd.prog w 0 (fun _ => true) true fuel 22 [v] = some x) :
    ∃ (a : Option Addr) (l : List Int) (cap : Nat), v = .slice a l.length cap ∧ HoldsI w a l ∧ (∀ x ∈ l, -9223372036854775808 ≤ x ∧ x ≤ 9223372036854775807) ∧ l.length ≤ cap ∧ cap ≤ maxLen ∧ (a = none → l.length = 0 ∧ cap = 0) := by
  rcases open_slice1 Tryd.underlying22 cellsI h with ⟨hcs, _⟩ | ⟨a', len, cap', m, k, V, D, Pl', hcs, _, hl, hm, hmm, _, hi⟩
  · simp at hcs
    subst hcs
    exact ⟨none, [], 0, rfl, .inl rfl, fun x hx => by simp at hx, Nat.le_refl _, Nat.zero_le _, fun _ => ⟨rfl, rfl⟩⟩
  · simp at hcs
    subst hcs
    have hmm' : m = cap' := by simpa using hmm
    by_cases hn0 : len = 0
    · subst hn0
      exact ⟨some a', [], cap', rfl, .inl rfl, fun x hx => by simp at hx, Nat.zero_le _, hm, fun h => by simp at h⟩
    · have key : ∀ i, i < len → ∃ n : Int, w.cell? (a'.add i) = some (.int .i64 n) ∧ -9223372036854775808 ≤ n ∧ n ≤ 9223372036854775807 := by
        intro i hin
        obtain ⟨h1, h2⟩ := hi i (by omega)
        obtain ⟨n, e, _, hw⟩ := DataW.trod_int Tryd.underlying3 h2
        simp at e
        exact ⟨n, by rw [h1, e], by have h3 := hw; simp [Lit.wf] at h3; (try rw [show IntKind.i64.min = -9223372036854775808 by decide] at h3); (try rw [show IntKind.i64.max = 9223372036854775807 by decide] at h3); exact h3⟩
      obtain ⟨b, off, spot⟩ := a'
      obtain ⟨q, hq, _⟩ := key 0 (by omega)
      have hspot : spot = none := by
        have := World.cell?_spot hq
        simpa [Addr.add] using this
      subst hspot
      have key' : ∀ i, i < len → ∃ n : Int, w.cell? ⟨b, off + i, none⟩ = some (.int .i64 n) ∧ -9223372036854775808 ≤ n ∧ n ≤ 9223372036854775807 := fun i hi => by
        obtain ⟨n, hn⟩ := key i hi
        exact ⟨n, by rw [add_plain] at hn; exact hn⟩
      refine ⟨some ⟨b, off, none⟩, List.ofFn (fun i : Fin len => Classical.choose (key' i.1 i.2)), cap', by simp, .inr ⟨b, off, rfl, fun k hk => ?_⟩, fun x hx => ?_, by simpa using hl, hm, fun h => by simp at h⟩
      · have hk' : k < len := by simpa using hk
        rw [List.getElem_ofFn]
        exact (Classical.choose_spec (key' k hk')).1
      · obtain ⟨i, rfl⟩ := (List.mem_ofFn (f := fun i : Fin len => Classical.choose (key' i.1 i.2))).1 hx
        exact (Classical.choose_spec (key' i.1 i.2)).2
/-- A slice of bytes, opened. -/
theorem open_u8sF {H : Type} {enc : TypeId × Value → H} {w : World} {fuel : Nat} {v : Value} {x : DataW H × List MemPlace}
    (h : DataW.trod enc Tryd.prog w 0 (fun _ => true) true fuel 23 [v] = some x) :
    ∃ (a : Option Addr) (l : List Int) (cap : Nat), v = .slice a l.length cap ∧ HoldsF w a l ∧ (∀ x ∈ l, 0 ≤ x ∧ x ≤ 255) ∧ l.length ≤ cap ∧ cap ≤ maxLen ∧ (a = none → l.length = 0 ∧ cap = 0) := by
  rcases open_slice1 Tryd.underlying23 cells8 h with ⟨hcs, _⟩ | ⟨a', len, cap', m, k, V, D, Pl', hcs, _, hl, hm, hmm, _, hi⟩
  · simp at hcs
    subst hcs
    exact ⟨none, [], 0, rfl, .inl rfl, fun x hx => by simp at hx, Nat.le_refl _, Nat.zero_le _, fun _ => ⟨rfl, rfl⟩⟩
  · simp at hcs
    subst hcs
    have hmm' : m = cap' := by simpa using hmm
    by_cases hn0 : len = 0
    · subst hn0
      exact ⟨some a', [], cap', rfl, .inl rfl, fun x hx => by simp at hx, Nat.zero_le _, hm, fun h => by simp at h⟩
    · have key : ∀ i, i < len → ∃ n : Int, w.cell? (a'.add i) = some (.int .u8 n) ∧ 0 ≤ n ∧ n ≤ 255 := by
        intro i hin
        obtain ⟨h1, h2⟩ := hi i (by omega)
        obtain ⟨n, e, _, hw⟩ := DataW.trod_int Tryd.underlying5 h2
        simp at e
        exact ⟨n, by rw [h1, e], by have h3 := hw; simp [Lit.wf] at h3; (try rw [show IntKind.u8.min = 0 by decide] at h3); (try rw [show IntKind.u8.max = 255 by decide] at h3); exact h3⟩
      obtain ⟨b, off, spot⟩ := a'
      obtain ⟨q, hq, _⟩ := key 0 (by omega)
      have hspot : spot = none := by
        have := World.cell?_spot hq
        simpa [Addr.add] using this
      subst hspot
      have key' : ∀ i, i < len → ∃ n : Int, w.cell? ⟨b, off + i, none⟩ = some (.int .u8 n) ∧ 0 ≤ n ∧ n ≤ 255 := fun i hi => by
        obtain ⟨n, hn⟩ := key i hi
        exact ⟨n, by rw [add_plain] at hn; exact hn⟩
      refine ⟨some ⟨b, off, none⟩, List.ofFn (fun i : Fin len => Classical.choose (key' i.1 i.2)), cap', by simp, .inr ⟨b, off, rfl, fun k hk => ?_⟩, fun x hx => ?_, by simpa using hl, hm, fun h => by simp at h⟩
      · have hk' : k < len := by simpa using hk
        rw [List.getElem_ofFn]
        exact (Classical.choose_spec (key' k hk')).1
      · obtain ⟨i, rfl⟩ := (List.mem_ofFn (f := fun i : Fin len => Classical.choose (key' i.1 i.2))).1 hx
        exact (Classical.choose_spec (key' i.1 i.2)).2
/-- An argument that is a slice of integers. -/
theorem open_intsR {H : Type} {enc : TypeId × Value → H} {w : World} {r : Reach} {b0 : Nat} {v : Value} {d : DataW H} {p : List MemPlace}
    (hv : Value.okWide Tryd.prog w r b0 22 v) (h : DataW.Trod enc Tryd.prog w 0 (fun _ => true) true 22 v d p) :
    ∃ (a : Option Addr) (l : List Int) (cap : Nat), v = .slice a l.length cap ∧ HoldsI w a l ∧ (∀ x ∈ l, i64R x) := by
  obtain ⟨a, n, cap, rfl⟩ := okWide_slice Tryd.underlying22 hv
  obtain ⟨fuel, hf⟩ := h
  obtain ⟨a, l, cap, h1, h2, h3, _⟩ := open_intsF (enc := enc) (w := w) (by simpa [Value.cells] using hf)
  exact ⟨a, l, cap, h1, h2, h3⟩
theorem i64_of {a : Int} (h : (Lit.int .i64 a).wf = true) : i64R a := by
  have h3 := h
  simp [Lit.wf] at h3
  try rw [show IntKind.i64.min = -9223372036854775808 by decide] at h3
  try rw [show IntKind.i64.max = 9223372036854775807 by decide] at h3
  exact h3
end Go.Proofs.YtbhjapgioaiocaaDoor
