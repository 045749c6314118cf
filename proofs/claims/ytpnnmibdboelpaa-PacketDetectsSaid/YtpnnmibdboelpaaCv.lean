/-
  The arguments of layer 27's laws, opened: slices of bytes, packets.
-/
import Derived.Test.YtpnnmibdboelpaaFrameI
import Derived.Test.YtpnnmibdboelpaaCu
set_option maxRecDepth 100000
namespace Go.Proofs.Ytpnnmibdboelpaa
open Go.ChangeShapes Go.WideShapes Go.ChangeAt Go.RowKit Go.Joins Go.Deep

theorem cells8 : Try.prog.cellsOf 5 = 1 := by kernel_rfl
/-- A slice of bytes, opened. -/
theorem open_bytesT {H : Type} {enc : TypeId × Value → H} {w : World} {fuel : Nat} {v : Value} {x : DataW H × List MemPlace}
    (h' : DataW.trod enc Try.prog w 0 (fun _ => true) true fuel 22 [v] = some x) :
    ∃ (a : Option Addr) (l : List Int) (cap : Nat), v = .slice a l.length cap ∧ HoldsB w a l ∧ Mk.bytes l ∧ l.length ≤ cap ∧ cap ≤ maxLen ∧ (a = none → l = [] ∧ cap = 0) := by
  rcases open_slice1 Try.underlying22 cells8 h' with ⟨hcs, _⟩ | ⟨a', len, cap', m, k, V, D, Pl', hcs, _, hl, hm, hmm, _, hi⟩
  · simp at hcs
    subst hcs
    exact ⟨none, [], 0, rfl, .inl rfl, fun _ h => by simp at h, Nat.le_refl _, Nat.zero_le _, fun _ => ⟨rfl, rfl⟩⟩
  · simp at hcs
    subst hcs
    have hmm' : m = cap' := by simpa using hmm
    by_cases hn0 : len = 0
    · subst hn0
      exact ⟨some a', [], cap', rfl, .inl rfl, fun _ h => by simp at h, Nat.zero_le _, hm, fun h => by simp at h⟩
    · have key : ∀ i, i < len → ∃ q : Int, w.cell? (a'.add i) = some (.int .u8 q) ∧ 0 ≤ q ∧ q ≤ 255 := by
        intro i hin
        obtain ⟨h1, h2⟩ := hi i (by omega)
        obtain ⟨q, e, _, hw⟩ := DataW.trod_int Try.underlying5 h2
        simp at e
        exact ⟨q, by rw [h1, e], by have h3 := hw; simp [Lit.wf] at h3; rw [show IntKind.u8.min = 0 by decide, show IntKind.u8.max = 255 by decide] at h3; exact h3⟩
      obtain ⟨b, off, spot⟩ := a'
      obtain ⟨q, hq, _⟩ := key 0 (by omega)
      have hspot : spot = none := by
        have := World.cell?_spot hq
        simpa [Addr.add] using this
      subst hspot
      have key' : ∀ i, i < len → ∃ q : Int, w.cell? ⟨b, off + i, none⟩ = some (.int .u8 q) ∧ 0 ≤ q ∧ q ≤ 255 := fun i hi => by
        obtain ⟨q, hq⟩ := key i hi
        exact ⟨q, by rw [add_plain] at hq; exact hq⟩
      refine ⟨some ⟨b, off, none⟩, List.ofFn (fun i : Fin len => Classical.choose (key' i.1 i.2)), cap', by simp, .inr ⟨b, off, rfl, fun k hk => ?_⟩, fun x hx => ?_, by simpa using hl, hm, fun h => by simp at h⟩
      · have hk' : k < len := by simpa using hk
        rw [List.getElem_ofFn]
        exact (Classical.choose_spec (key' k hk')).1
      · obtain ⟨i, rfl⟩ := List.mem_ofFn.1 hx
        exact (Classical.choose_spec (key' i.1 i.2)).2
/-- An argument that is a slice of bytes. -/
theorem open_bytes {H : Type} {enc : TypeId × Value → H} {w : World} {r : Reach} {b0 : Nat} {v : Value} {d : DataW H} {p : List MemPlace}
    (hv : Value.okWide Try.prog w r b0 22 v) (h : DataW.Trod enc Try.prog w 0 (fun _ => true) true 22 v d p) :
    ∃ (a : Option Addr) (l : List Int) (cap : Nat), v = .slice a l.length cap ∧ HoldsB w a l ∧ Mk.bytes l ∧ l.length ≤ cap ∧ cap ≤ maxLen ∧ (a = none → l = [] ∧ cap = 0) := by
  obtain ⟨a, n, cap, rfl⟩ := okWide_slice Try.underlying22 hv
  obtain ⟨fuel, hf⟩ := h
  exact open_bytesT (by simpa [Value.cells] using hf)
theorem arr2' (T : Array Value) (h : T.size = 2) : ∃ v0 v1, T = #[v0, v1] := by
  obtain ⟨l⟩ := T
  match l, h with
  | [v0, v1], _ => exact ⟨v0, v1, rfl⟩
theorem arr6' (T : Array Value) (h : T.size = 6) : ∃ v0 v1 v2 v3 v4 v5, T = #[v0, v1, v2, v3, v4, v5] := by
  obtain ⟨l⟩ := T
  match l, h with
  | [v0, v1, v2, v3, v4, v5], _ => exact ⟨v0, v1, v2, v3, v4, v5, rfl⟩
/-- An argument that is a packet. -/
theorem open_pkt {H : Type} {enc : TypeId × Value → H} {w : World} {r : Reach} {b0 : Nat} {v : Value} {d : DataW H} {p : List MemPlace}
    (hv : Value.okWide Try.prog w r b0 29 v) (h : DataW.Trod enc Try.prog w 0 (fun _ => true) true 29 v d p) :
    ∃ (i j k l : Int) (sh sb : Option Addr) (hd bd : List Int) (mh mb : Nat), v = .agg #[.int .i64 i, .int .i64 j, .int .i64 k, .int .i64 l, .slice sh hd.length mh, .slice sb bd.length mb] ∧
      (HoldsB w sh hd ∧ Mk.bytes hd ∧ hd.length ≤ mh ∧ mh ≤ maxLen ∧ (sh = none → hd = [] ∧ mh = 0)) ∧ (HoldsB w sb bd ∧ Mk.bytes bd ∧ bd.length ≤ mb ∧ mb ≤ maxLen ∧ (sb = none → bd = [] ∧ mb = 0)) := by
  obtain ⟨cs, rfl, hsz⟩ := okWide_struct Try.underlying29 hv
  obtain ⟨c0, c1, c2, c3, c4, c5, rfl⟩ := arr6' _ (hsz.trans (by kernel_rfl))
  obtain ⟨fuel, hf⟩ := h
  obtain ⟨xs, n, _, _, _, hl, hg⟩ := DataW.trod_struct Try.underlying29 hf
  have hx : ∀ j, j < 3 → ∃ y, xs[j]? = some y := fun j hj => ⟨_, List.getElem?_eq_getElem (by rw [hl]; exact hj)⟩
  obtain ⟨y0, e0⟩ := hx 0 (by decide)
  obtain ⟨y1, e1⟩ := hx 1 (by decide)
  obtain ⟨y2, e2⟩ := hx 2 (by decide)
  have t0 : DataW.trod enc Try.prog w 0 (fun _ => true) true n 27 [c0, c1, c2, c3] = some y0 := (hg 0 _ rfl).trans e0
  have t1 : DataW.trod enc Try.prog w 0 (fun _ => true) true n 22 [c4] = some y1 := (hg 1 _ rfl).trans e1
  have t2 : DataW.trod enc Try.prog w 0 (fun _ => true) true n 22 [c5] = some y2 := (hg 2 _ rfl).trans e2
  obtain ⟨zs, n2, _, _, _, hl2, hg2⟩ := DataW.trod_struct Try.underlying27 t0
  have hz : ∀ j, j < 4 → ∃ y, zs[j]? = some y := fun j hj => ⟨_, List.getElem?_eq_getElem (by rw [hl2]; exact hj)⟩
  obtain ⟨z0, g0⟩ := hz 0 (by decide)
  obtain ⟨z1, g1⟩ := hz 1 (by decide)
  obtain ⟨z2, g2⟩ := hz 2 (by decide)
  obtain ⟨z3, g3⟩ := hz 3 (by decide)
  have u0 : DataW.trod enc Try.prog w 0 (fun _ => true) true n2 3 [c0] = some z0 := (hg2 0 _ rfl).trans g0
  have u1 : DataW.trod enc Try.prog w 0 (fun _ => true) true n2 3 [c1] = some z1 := (hg2 1 _ rfl).trans g1
  have u2 : DataW.trod enc Try.prog w 0 (fun _ => true) true n2 3 [c2] = some z2 := (hg2 2 _ rfl).trans g2
  have u3 : DataW.trod enc Try.prog w 0 (fun _ => true) true n2 3 [c3] = some z3 := (hg2 3 _ rfl).trans g3
  obtain ⟨i, f0, _, _⟩ := DataW.trod_int Try.underlying3 u0
  obtain ⟨j, f1, _, _⟩ := DataW.trod_int Try.underlying3 u1
  obtain ⟨k, f2, _, _⟩ := DataW.trod_int Try.underlying3 u2
  obtain ⟨l, f3, _, _⟩ := DataW.trod_int Try.underlying3 u3
  simp at f0 f1 f2 f3
  subst f0 f1 f2 f3
  obtain ⟨sh, hd, mh, rfl, hH⟩ := open_bytesT t1
  obtain ⟨sb, bd, mb, rfl, hB⟩ := open_bytesT t2
  exact ⟨i, j, k, l, sh, sb, hd, bd, mh, mb, rfl, hH, hB⟩
end Go.Proofs.Ytpnnmibdboelpaa
