/-
  Layer 10: coding a leaf again: nothing is coded twice (mathematics).
-/
import Derived.Test.YtaddendclipkkaaTd
set_option maxRecDepth 100000
namespace Go.Proofs.Ytaddendclipkkaa
open Go.RowKit

theorem nrun_done {σ : Type} (g : σ → Nd → Int × Int × σ) (t : Int) : ∀ (f : Nat) (s : σ) (n : Nd), (n.b = true ∨ (t - n.l).toNat < f) → (nrun g t f s n).1 = 0 → (nrun g t f s n).2.2.b = true ∨ t ≤ (nrun g t f s n).2.2.l
  | 0, s, n, h, _ => by
    rcases h with h | h
    · exact .inl h
    · omega
  | f + 1, s, n, h, he => by
    by_cases hc : n.l < t ∧ n.b = false
    · unfold nrun at he ⊢
      rw [if_pos hc] at he ⊢
      by_cases h1 : (g s n).2.1 ≠ 0
      · rw [if_pos h1] at he
        exact absurd he h1
      · rw [if_neg h1] at he ⊢
        have hf : (t - n.l).toNat < f + 1 := by
          rcases h with h | h
          · rw [hc.2] at h; exact absurd h (by decide)
          · exact h
        by_cases h2 : (g s n).1 = 1
        · rw [if_pos h2] at he ⊢
          exact nrun_done g t f _ _ (.inl rfl) he
        · rw [if_neg h2] at he ⊢
          exact nrun_done g t f _ _ (.inr (by simp only; omega)) he
    · rw [nrun_stop g t (f + 1) s n hc]
      simp only
      by_cases hb : n.b = true
      · exact .inl hb
      · right
        have hb' : n.b = false := by simpa using hb
        have : ¬ n.l < t := fun hl => hc ⟨hl, hb'⟩
        omega
/-- What is known of the nodes behind some levels. -/
structure Dn {σ : Type} (t : Int) (D j : Nat) (p : Ps σ) : Prop where
  dn : ∀ k, D ≤ k + j → k < D → (p.n k).b = true ∨ t ≤ (p.n k).l
  up : ∀ k, D ≤ k + j → k + 1 < D → (p.n (k + 1)).l ≤ (p.n k).l
  low : p.low = if j = 0 then 0 else (p.n (D - j)).l
theorem pst_dn {σ : Type} (g : σ → Nd → Int × Int × σ) (t : Int) (ht : t ≤ 65536) (N : Nat → Nd) (hN : ∀ k, 0 ≤ (N k).l ∧ (N k).l ≤ 65536) (D : Nat) (s : σ) : ∀ j, j ≤ D → (pst g t N D s j).e = 0 → Dn t D j (pst g t N D s j)
  | 0, _, _ => ⟨fun k h1 h2 => by omega, fun k h1 h2 => by omega, rfl⟩
  | j + 1, hj, he => by
    obtain ⟨k, hk⟩ : ∃ k, D = k + 1 + j := ⟨D - 1 - j, by omega⟩
    have hkD : k < D := by omega
    have hDj : D - (k + 1) = j := by omega
    have hDk : D - k = j + 1 := by omega
    have he0 : (pst g t N D s j).e = 0 := by
      by_cases h : (pst g t N D s j).e = 0
      · exact h
      · have := pst_err g t N D s j h 1
        rw [this] at he
        exact absurd he h
    have ih := pst_dn g t ht N hN D s j (by omega) he0
    have hnx := pst_next g t N D s k hkD (by rw [hDj]; exact he0)
    rw [hDk, hDj] at hnx
    have hb := pst_bd g t ht N D s hN j
    rw [hnx] at he ⊢
    simp only at he
    have hml : 0 ≤ max (N k).l (pst g t N D s j).low ∧ max (N k).l (pst g t N D s j).low ≤ 65536 := by have := hN k; have := hb.1; omega
    have hd := nrun_done g t FU (pst g t N D s j).s ⟨(N k).v, max (N k).l (pst g t N D s j).low, (N k).b⟩ (.inr (by unfold FU; simp only; omega)) he
    have hbd := nrun_bd g t ht FU (pst g t N D s j).s ⟨(N k).v, max (N k).l (pst g t N D s j).low, (N k).b⟩ hml.1 hml.2
    generalize nrun g t FU (pst g t N D s j).s ⟨(N k).v, max (N k).l (pst g t N D s j).low, (N k).b⟩ = r at *
    refine ⟨fun i h1 h2 => ?_, fun i h1 h2 => ?_, ?_⟩
    · simp only
      by_cases hi : i = k
      · rw [if_pos hi]; exact hd
      · rw [if_neg hi]; exact ih.dn i (by omega) h2
    · simp only
      rw [if_neg (by omega)]
      by_cases hi : i = k
      · rw [if_pos hi]
        have hl := ih.low
        rw [if_neg (by omega)] at hl
        rw [show D - j = i + 1 by omega] at hl
        rw [← hl]
        have := hbd.2.2.2
        simp only at this
        omega
      · rw [if_neg hi]
        exact ih.up i (by omega) h2
    · simp only
      rw [if_neg (by omega), show D - (j + 1) = k by omega, if_pos rfl]
/-- Coding the same leaf again, up to no more: nothing happens. -/
theorem pst_again {σ : Type} (g : σ → Nd → Int × Int × σ) (t t2 : Int) (h2 : t2 ≤ t) (N : Nat → Nd) (D : Nat) (s : σ) (hN : ∀ k, 0 ≤ (N k).l) (hd : ∀ k, k < D → (N k).b = true ∨ t ≤ (N k).l) (hu : ∀ k, k + 1 < D → (N (k + 1)).l ≤ (N k).l) :
    ∀ j, j ≤ D → (pst g t2 N D s j).e = 0 ∧ (pst g t2 N D s j).s = s ∧ (∀ k, (pst g t2 N D s j).n k = N k) ∧ (pst g t2 N D s j).low = if j = 0 then 0 else (N (D - j)).l
  | 0, _ => ⟨rfl, rfl, fun _ => rfl, rfl⟩
  | j + 1, hj => by
    obtain ⟨k, hk⟩ : ∃ k, D = k + 1 + j := ⟨D - 1 - j, by omega⟩
    have hkD : k < D := by omega
    have hDj : D - (k + 1) = j := by omega
    have hDk : D - k = j + 1 := by omega
    obtain ⟨i1, i2, i3, i4⟩ := pst_again g t t2 h2 N D s hN hd hu j (by omega)
    have hnx := pst_next g t2 N D s k hkD (by rw [hDj]; exact i1)
    rw [hDk, hDj] at hnx
    have hlow : (pst g t2 N D s j).low ≤ (N k).l := by
      rw [i4]
      split
      · exact hN k
      · rw [show D - j = k + 1 by omega]
        exact hu k (by omega)
    have hm : max (N k).l (pst g t2 N D s j).low = (N k).l := by omega
    have hst := nrun_stop g t2 FU (pst g t2 N D s j).s (N k) (fun c => by
      rcases hd k hkD with h | h
      · rw [c.2] at h; exact absurd h (by decide)
      · omega)
    rw [hm] at hnx
    rw [show (⟨(N k).v, (N k).l, (N k).b⟩ : Nd) = N k from rfl, hst] at hnx
    rw [hnx]
    refine ⟨rfl, i2, fun i => ?_, ?_⟩
    · simp only
      by_cases hi : i = k
      · rw [if_pos hi, hi]
      · rw [if_neg hi]; exact i3 i
    · simp only
      rw [if_neg (by omega), show D - (j + 1) = k by omega]
end Go.Proofs.Ytaddendclipkkaa
