/-
  Layer 11: lists of calls of a law (as in Sg).
-/
import Derived.Test.YtdnfnekfcndnhaaDoorRh
import Derived.Test.YtdnfnekfcndnhaaDoorFrameP
set_option maxRecDepth 100000
namespace Go.Proofs.YtdnfnekfcndnhaaDoor
open Go.ChangeShapes Go.WideShapes Go.ChangeAt Go.RowKit Go.Joins Go.Deep

/-- A call of a law: kind, context, bit, bytes. -/
structure Cl where
  kind : Int
  ctx : Int
  bit : Int
  data : List Int
/-- The call's cells, its bytes. -/
def CallAt (w : World) (b o : Nat) (q : Cl) : Prop := w.cell? ⟨b, o, none⟩ = some (.int .i64 q.kind) ∧ w.cell? ⟨b, o + 1, none⟩ = some (.int .i64 q.ctx) ∧ w.cell? ⟨b, o + 2, none⟩ = some (.int .i64 q.bit) ∧
  ∃ s m, w.cell? ⟨b, o + 3, none⟩ = some (.slice s q.data.length m) ∧ HoldsB w s q.data ∧ Am.bytes q.data ∧ (s = none → q.data = [] ∧ m = 0)
def HoldsC (w : World) (a : Option Addr) (l : List Cl) : Prop := l = [] ∨ ∃ b off, a = some ⟨b, off, none⟩ ∧ ∀ k (_ : k < l.length), CallAt w b (off + k * 4) l[k]
theorem HoldsC.at {w : World} {s : Option Addr} {l : List Cl} (h : HoldsC w s l) {k : Nat} (hk : k < l.length) : ∃ b off, s = some ⟨b, off, none⟩ ∧ CallAt w b (off + k * 4) l[k] := by
  rcases h with rfl | ⟨b, off, rfl, hr⟩
  · simp at hk
  · exact ⟨b, off, rfl, hr k hk⟩
theorem CallAt.below {w w1 : World} {b o : Nat} {q : Cl} (h : CallAt w b o q) (hb : Below w.heap.size w w1) : CallAt w1 b o q := by
  obtain ⟨h0, h1, h2, s, m, h3, h4, h5, h6⟩ := h
  exact ⟨(hb.cell (p := ⟨b, _, none⟩) (cell_lt h0)).trans h0, (hb.cell (p := ⟨b, _, none⟩) (cell_lt h1)).trans h1, (hb.cell (p := ⟨b, _, none⟩) (cell_lt h2)).trans h2, s, m, (hb.cell (p := ⟨b, _, none⟩) (cell_lt h3)).trans h3, h4.call hb, h5, h6⟩
theorem HoldsC.below {w w1 : World} {s : Option Addr} {l : List Cl} (h : HoldsC w s l) (hb : Below w.heap.size w w1) : HoldsC w1 s l := by
  rcases h with rfl | ⟨b, off, rfl, hr⟩
  · exact .inl rfl
  · exact .inr ⟨b, off, rfl, fun k hk => (hr k hk).below hb⟩
def fewB (l : List Cl) : Bool := decide (l.length ≤ 300) && l.all fun q => decide (q.data.length ≤ 300)
theorem fewB_iff (l : List Cl) : fewB l = true ↔ l.length ≤ 300 ∧ ∀ q ∈ l, q.data.length ≤ 300 := by
  unfold fewB
  simp only [Bool.and_eq_true, decide_eq_true_eq, List.all_eq_true]
theorem fewB_no {l : List Cl} (h : ¬ (l.length ≤ 300 ∧ ∀ q ∈ l, q.data.length ≤ 300)) : fewB l = false := by
  rw [← Bool.not_eq_true, fewB_iff]; exact h
theorem few11_c (l : List Cl) (s : Option Addr) (m : Nat) (w : World) (hH : HoldsC w s l) : Calls Tryd.prog 4 #[.slice s l.length m] w fun e w' => e = .returned (.bool (fewB l)) ∧ w = w' := by
  have HH := Lib.hid hH
  clear hH
  go_enter Tryd.func4, Tryd.ntmps4
  go_wp2_with fail
  go_loop [3] (fun i => ∃ k : Nat, k ≤ l.length ∧ k ≤ 300 ∧ i = .int .i64 (k : Int) ∧ Hid (∀ j (_ : j < l.length), j < k → l[j].data.length ≤ 300)) (fun i => 300 - (intOf i).toNat)
  case atStart => exact ⟨0, Nat.zero_le _, by omega, rfl, fun j _ h => by omega⟩
  case round =>
    obtain ⟨k, hk, hk2, rfl, hR⟩ := hrel
    by_cases hlt : k < l.length
    · by_cases h2 : k < 300
      · obtain ⟨b, off, rfl, _, _, _, sd, md, c3, _⟩ := HH.out.at hlt
        obtain ⟨n, hn⟩ : ∃ n, n = l[k].data.length := ⟨_, rfl⟩
        rw [← hn] at c3
        have HN := Lib.hid hn
        clear hn
        by_cases h3 : 300 < n
        · have hf : Hid (fewB l = false) := by
            refine fewB_no ?_
            rintro ⟨_, hb⟩
            have := hb _ (List.getElem_mem hlt)
            have := HN.out
            omega
          have h4 : (300 : Int) < (n : Int) := by omega
          go_wp2_with fail
          go_ret
          exact ⟨by rw [hf.out]; rfl, rfl⟩
        · have h4 : ¬ (300 : Int) < (n : Int) := by omega
          go_wp2_with fail
          go_round
          case rel =>
            refine ⟨k + 1, by omega, by omega, by go_num, fun j hj hjk => ?_⟩
            by_cases he : j = k
            · subst he; have := HN.out; omega
            · exact hR.out j hj (by omega)
          case measure => simp [intOf]; omega
      · have hf : Hid (fewB l = false) := fewB_no (by omega)
        have h9 : ¬ ((l.length : Int) ≤ 300) := by omega
        have h8 : (k : Int) = 300 := by omega
        go_wp2_with fail
        go_ret
        exact ⟨by rw [hf.out]; rfl, rfl⟩
    · obtain rfl : k = l.length := by omega
      have hf : Hid (fewB l = true) := (fewB_iff l).2 ⟨hk2, fun q hq => by
        obtain ⟨j, hj, rfl⟩ := List.mem_iff_getElem.1 hq
        exact hR.out j hj hj⟩
      have h7 : (l.length : Int) ≤ 300 := by omega
      go_wp2_with fail
      go_ret
      exact ⟨by rw [hf.out]; rfl, rfl⟩
/-- A cell that is a slice of bytes. -/
theorem bytes_of {H : Type} {enc : TypeId × Value → H} {w : World} {v : Value} {d : DataW H} {p : List MemPlace} {fuel : Nat} (h' : DataW.trod enc Tryd.prog w 0 (fun _ => true) true fuel 32 [v] = some (d, p)) :
    ∃ (a : Option Addr) (l : List Int) (cap : Nat), v = .slice a l.length cap ∧ HoldsB w a l ∧ Am.bytes l ∧ (a = none → l = [] ∧ cap = 0) := by
  rcases open_slice1 Tryd.underlying32 cells8 h' with ⟨hcs, _⟩ | ⟨a', n, cap', m, k, V, D, Pl', hcs, _, hl, hm, hmm, _, hi⟩
  · simp at hcs
    subst hcs
    exact ⟨none, [], 0, rfl, .inl rfl, fun _ h => by simp at h, fun _ => ⟨rfl, rfl⟩⟩
  · simp at hcs
    subst hcs
    have hmm' : m = cap' := by simpa using hmm
    by_cases hn0 : n = 0
    · subst hn0
      exact ⟨some a', [], cap', rfl, .inl rfl, fun _ h => by simp at h, fun h => by simp at h⟩
    · have key : ∀ i, i < n → ∃ q : Int, w.cell? (a'.add i) = some (.int .u8 q) ∧ 0 ≤ q ∧ q ≤ 255 := by
        intro i hin
        obtain ⟨h1, h2⟩ := hi i (by omega)
        obtain ⟨q, e, _, hw⟩ := DataW.trod_int Tryd.underlying5 h2
        simp at e
        exact ⟨q, by rw [h1, e], by have h3 := hw; simp [Lit.wf] at h3; rw [show IntKind.u8.min = 0 by decide, show IntKind.u8.max = 255 by decide] at h3; exact h3⟩
      obtain ⟨b, off, spot⟩ := a'
      obtain ⟨q, hq, _⟩ := key 0 (by omega)
      have hspot : spot = none := by
        have := World.cell?_spot hq
        simpa [Addr.add] using this
      subst hspot
      have key' : ∀ i, i < n → ∃ q : Int, w.cell? ⟨b, off + i, none⟩ = some (.int .u8 q) ∧ 0 ≤ q ∧ q ≤ 255 := fun i hi => by
        obtain ⟨q, hq⟩ := key i hi
        exact ⟨q, by rw [add_plain] at hq; exact hq⟩
      refine ⟨some ⟨b, off, none⟩, List.ofFn (fun i : Fin n => Classical.choose (key' i.1 i.2)), cap', by simp, .inr ⟨b, off, rfl, fun k hk => ?_⟩, fun x hx => ?_, fun h => by simp at h⟩
      · have hk' : k < n := by simpa using hk
        rw [List.getElem_ofFn]
        exact (Classical.choose_spec (key' k hk')).1
      · obtain ⟨i, rfl⟩ := List.mem_ofFn.1 hx
        exact (Classical.choose_spec (key' i.1 i.2)).2
theorem cells_calls11 : Tryd.prog.cellsOf 34 = 4 := by kernel_rfl
/-- An argument that is a list of calls. -/
theorem open_calls11 {H : Type} {enc : TypeId × Value → H} {w : World} {r : Reach} {b0 : Nat} {v : Value} {d : DataW H} {p : List MemPlace}
    (hv : Value.okWide Tryd.prog w r b0 22 v) (h : DataW.Trod enc Tryd.prog w 0 (fun _ => true) true 22 v d p) :
    ∃ (a : Option Addr) (l : List Cl) (cap : Nat), v = .slice a l.length cap ∧ HoldsC w a l := by
  obtain ⟨a, n, cap, rfl⟩ := okWide_slice Tryd.underlying22 hv
  obtain ⟨fuel, hf⟩ := h
  have h' : DataW.trod enc Tryd.prog w 0 (fun _ => true) true fuel 22 [.slice a n cap] = some (d, p) := by simpa [Value.cells] using hf
  rcases open_slice_fields Tryd.underlying22 Tryd.underlying34 (by kernel_rfl) cells_calls11 h' with ⟨hcs, _⟩ | ⟨a', len, cap', m, D, Pl', hcs, _, hl, hm, hmm, _, hi⟩
  · simp at hcs
    obtain ⟨rfl, rfl, rfl⟩ := hcs
    exact ⟨none, [], 0, rfl, .inl rfl⟩
  · simp at hcs
    obtain ⟨rfl, rfl, rfl⟩ := hcs
    have hmm' : m = cap := by simpa using hmm
    by_cases hn0 : n = 0
    · subst hn0
      exact ⟨some a', [], cap, rfl, .inl rfl⟩
    · have key : ∀ i, i < n → ∃ q : Cl, w.cell? (a'.add (i * 4 + 0)) = some (.int .i64 q.kind) ∧ w.cell? (a'.add (i * 4 + 1)) = some (.int .i64 q.ctx) ∧ w.cell? (a'.add (i * 4 + 2)) = some (.int .i64 q.bit) ∧ ∃ s m, w.cell? (a'.add (i * 4 + 3)) = some (.slice s q.data.length m) ∧ HoldsB w s q.data ∧ Am.bytes q.data ∧ (s = none → q.data = [] ∧ m = 0) := by
        intro i hin
        obtain ⟨ys, k, _, _, _, hg⟩ := hi i (by omega)
        obtain ⟨u0, y0, g0, _, t0⟩ := hg 0 _ rfl
        obtain ⟨u1, y1, g1, _, t1⟩ := hg 1 _ rfl
        obtain ⟨u2, y2, g2, _, t2⟩ := hg 2 _ rfl
        obtain ⟨u3, y3, g3, _, t3⟩ := hg 3 _ rfl
        obtain ⟨q0, e0, _, _⟩ := DataW.trod_int Tryd.underlying3 t0
        obtain ⟨q1, e1, _, _⟩ := DataW.trod_int Tryd.underlying3 t1
        obtain ⟨q2, e2, _, _⟩ := DataW.trod_int Tryd.underlying3 t2
        obtain ⟨s3, l3, m3, e3, k1, k2, k3⟩ := bytes_of (p := y3.2) (d := y3.1) t3
        simp at e0 e1 e2
        subst e0 e1 e2 e3
        exact ⟨⟨q0, q1, q2, l3⟩, g0, g1, g2, s3, m3, g3, k1, k2, k3⟩
      obtain ⟨b, off, spot⟩ := a'
      obtain ⟨q, hq, _⟩ := key 0 (by omega)
      have hspot : spot = none := by
        have := World.cell?_spot hq
        simpa [Addr.add] using this
      subst hspot
      have key' : ∀ i, i < n → ∃ q : Cl, CallAt w b (off + i * 4) q := fun i hi => by
        obtain ⟨q, h0, h1, h2, s, m, h3, hr⟩ := key i hi
        rw [add_plain] at h0 h1 h2 h3
        exact ⟨q, h0, by rw [Nat.add_assoc]; exact h1, by rw [Nat.add_assoc]; exact h2, s, m, by rw [Nat.add_assoc]; exact h3, hr⟩
      refine ⟨some ⟨b, off, none⟩, List.ofFn (fun i : Fin n => Classical.choose (key' i.1 i.2)), cap, by simp, .inr ⟨b, off, rfl, fun k hk => ?_⟩⟩
      have hk' : k < n := by simpa using hk
      rw [List.getElem_ofFn]
      exact Classical.choose_spec (key' k hk')
end Go.Proofs.YtdnfnekfcndnhaaDoor
