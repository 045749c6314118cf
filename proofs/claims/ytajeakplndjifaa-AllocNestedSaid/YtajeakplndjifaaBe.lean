/-
  Layer 21: the mathematics of a greater budget.
-/
import Derived.Test.YtajeakplndjifaaAy
set_option maxRecDepth 100000
namespace Go.Proofs.Ytajeakplndjifaa
open Go.RowKit

/-- The points rise along each curve. -/
def upP (S : List Stp) : Prop := S.Pairwise fun s t => s.c = t.c → s.p < t.p
theorem isS_up {cs : List Cv} {S : List Stp} (h : okC cs) (hS : isS cs S) : upP S := by
  refine List.Pairwise.imp_of_mem ?_ hS.2
  intro s t hs ht hlt hc
  obtain ⟨i, j, hi, hj, rfl⟩ := allS_mem (hS.1.subset hs)
  obtain ⟨i2, k, hi2, hk, rfl⟩ := allS_mem (hS.1.subset ht)
  have e : i = i2 := hc
  subst e
  have hv := h.2 i hi
  have hjk : j < k := by
    rcases Nat.lt_trichotomy j k with q | q | q
    · exact q
    · subst q; exact absurd hlt (ltS_irrefl _)
    · exact absurd (ltS_asymm hlt (stepAt_lt hv q hj)) id
  show (hull (cs.getD i ([], [])).1 (cs.getD i ([], [])).2).getD (j + 1) 0 < (hull (cs.getD i ([], [])).1 (cs.getD i ([], [])).2).getD (k + 1) 0
  exact hull_inc hv (by omega) (by unfold nS at hk; omega)
theorem wth_grow (b : Int) : ∀ (S : List Stp) (rate : Int) (ch : List Int), upP S → (∀ s ∈ S, ch.getD s.c 0 ≤ (s.p : Int)) → ∀ j, ch.getD j 0 ≤ (wth b rate S ch).getD j 0
  | [], _, _, _, _, _ => Int.le_refl _
  | s :: S, rate, ch, hup, hch, j => by
    unfold wth
    split
    · exact Int.le_refl _
    · have hu := List.pairwise_cons.1 hup
      have h1 : ch.getD j 0 ≤ (ch.set s.c (s.p : Int)).getD j 0 := by
        rw [getD_set']
        split
        · rename_i q
          rw [← q.1]
          exact hch s (List.mem_cons_self ..)
        · exact Int.le_refl _
      refine Int.le_trans h1 (wth_grow b S _ _ hu.2 (fun t ht => ?_) j)
      rw [getD_set']
      split
      · rename_i q
        have := hu.1 t ht q.1
        omega
      · exact hch t (List.mem_cons_of_mem _ ht)
theorem wth_nest {b b2 : Int} (hb : b ≤ b2) : ∀ (S : List Stp) (rate : Int) (ch : List Int), upP S → (∀ s ∈ S, ch.getD s.c 0 ≤ (s.p : Int)) → ∀ j, (wth b rate S ch).getD j 0 ≤ (wth b2 rate S ch).getD j 0
  | [], _, _, _, _, _ => Int.le_refl _
  | s :: S, rate, ch, hup, hch, j => by
    by_cases h1 : b < rate + s.r
    · have e : wth b rate (s :: S) ch = ch := by unfold wth; rw [if_pos h1]
      rw [e]
      exact wth_grow b2 (s :: S) rate ch hup hch j
    · have hu := List.pairwise_cons.1 hup
      unfold wth
      rw [if_neg h1, if_neg (by omega)]
      refine wth_nest hb S _ _ hu.2 (fun t ht => ?_) j
      rw [getD_set']
      split
      · rename_i q
        have := hu.1 t ht q.1
        omega
      · exact hch t (List.mem_cons_of_mem _ ht)
theorem wth_bound (b : Int) (M : Nat → Int) : ∀ (S : List Stp) (rate : Int) (ch : List Int), (∀ s ∈ S, (s.p : Int) ≤ M s.c) → (∀ j, j < ch.length → ch.getD j 0 ≤ M j) → ∀ j, j < ch.length → (wth b rate S ch).getD j 0 ≤ M j
  | [], _, _, _, hc, j, hj => hc j hj
  | s :: S, rate, ch, hs, hc, j, hj => by
    unfold wth
    split
    · exact hc j hj
    · refine wth_bound b M S _ _ (fun t ht => hs t (List.mem_cons_of_mem _ ht)) (fun i hi => ?_) j (by simpa using hj)
      rw [getD_set']
      split
      · rename_i q
        rw [← q.1]
        exact hs s (List.mem_cons_self ..)
      · exact hc i (by simpa using hi)
theorem lastL_get {cs : List Cv} {j : Nat} (hj : j < cs.length) : (lastL cs).getD j 0 = ((cs.getD j ([], [])).1.length : Int) - 1 := by
  simp [lastL, hj, List.getD_eq_getElem?_getD]
theorem rep_get (n j : Nat) : (List.replicate n (0 : Int)).getD j 0 = 0 := by
  rw [List.getD_eq_getElem?_getD, List.getElem?_replicate]
  split <;> rfl
theorem nested {cs : List Cv} (h : okC cs) {b b2 : Int} (h0 : 0 ≤ b) (hb : b ≤ b2) {j : Nat} (hj : j < cs.length) :
    0 ≤ (chs cs b).getD j 0 ∧ (chs cs b).getD j 0 ≤ (chs cs b2).getD j 0 ∧ (chs cs b2).getD j 0 ≤ (chs cs (-1)).getD j 0 ∧ (chs cs (-1)).getD j 0 = ((cs.getD j ([], [])).1.length : Int) - 1 := by
  have hS := insA_is h
  have hup := isS_up h hS
  have e1 : chs cs b = wth b 0 (insA cs cs.length) (List.replicate cs.length 0) := if_neg (by omega)
  have e2 : chs cs b2 = wth b2 0 (insA cs cs.length) (List.replicate cs.length 0) := if_neg (by omega)
  have e3 : chs cs (-1) = lastL cs := if_pos rfl
  have hz : ∀ s ∈ insA cs cs.length, (List.replicate cs.length (0 : Int)).getD s.c 0 ≤ (s.p : Int) := fun s _ => by rw [rep_get]; omega
  rw [e1, e2, e3, lastL_get hj]
  refine ⟨?_, wth_nest hb _ _ _ hup hz j, ?_, rfl⟩
  · have := wth_grow b _ 0 _ hup hz j
    rw [rep_get] at this
    exact this
  · refine wth_bound b2 (fun j => ((cs.getD j ([], [])).1.length : Int) - 1) _ 0 _ (fun s hs => ?_) (fun i hi => ?_) j (by simpa using hj)
    · obtain ⟨i, k, hi, hk, rfl⟩ := allS_mem (hS.1.subset hs)
      have hv := h.2 i hi
      have h1 := hull_lt hv (i := k + 1) (by unfold nS at hk; omega)
      have h2 := hv.1
      show ((hull (cs.getD i ([], [])).1 (cs.getD i ([], [])).2).getD (k + 1) 0 : Int) ≤ ((cs.getD i ([], [])).1.length : Int) - 1
      omega
    · rw [rep_get]
      have h2 := (h.2 i (by simpa using hi)).2.1
      show (0 : Int) ≤ ((cs.getD i ([], [])).1.length : Int) - 1
      omega
end Go.Proofs.Ytajeakplndjifaa
