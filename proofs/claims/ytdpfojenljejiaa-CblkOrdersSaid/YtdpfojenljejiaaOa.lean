/-
  Layer 14: Scan contains each coefficient once; what the numbers of Segments are.
-/
import Derived.Test.YtdpfojenljejiaaPc2
import Derived.Test.YtdpfojenljejiaaPb
set_option maxRecDepth 100000
namespace Go.Proofs.Ytdpfojenljejiaa
open Go.RowKit

/-- The place of a coefficient, row by row. -/
def posP (w : Nat) (p : Int × Int) : Nat := p.2.toNat * w + p.1.toNat
theorem colP_in (x top n : Nat) : ∀ p ∈ colP x top n, ∃ Y : Nat, p = ((x : Int), (Y : Int)) ∧ top ≤ Y ∧ Y < top + n := by
  intro p hp
  simp only [colP, List.mem_map, List.mem_range] at hp
  obtain ⟨i, hi, rfl⟩ := hp
  exact ⟨top + i, rfl, by omega, by omega⟩
theorem strP_in (top n k : Nat) : ∀ p ∈ strP top n k, ∃ X Y : Nat, p = ((X : Int), (Y : Int)) ∧ X < k ∧ top ≤ Y ∧ Y < top + n := by
  intro p hp
  simp only [strP, List.mem_flatMap, List.mem_range] at hp
  obtain ⟨x, hx, hp⟩ := hp
  obtain ⟨Y, rfl, h1, h2⟩ := colP_in x top n p hp
  exact ⟨x, Y, rfl, hx, h1, h2⟩
theorem scnP_in (w h q : Nat) : ∀ p ∈ scnP w h q, ∃ X Y : Nat, p = ((X : Int), (Y : Int)) ∧ X < w ∧ Y < h ∧ Y < 4 * q := by
  intro p hp
  simp only [scnP, List.mem_flatMap, List.mem_range] at hp
  obtain ⟨s, hs, hp⟩ := hp
  obtain ⟨X, Y, rfl, h0, h1, h2⟩ := strP_in _ _ _ p hp
  exact ⟨X, Y, rfl, h0, by omega, by omega⟩
theorem colP_nodup (x top n : Nat) : (colP x top n).Nodup := by
  induction n with
  | zero => simp [colP]
  | succ n ih =>
    rw [colP_succ, List.nodup_append]
    refine ⟨ih, by simp, ?_⟩
    intro a ha b hb hab
    obtain ⟨Y, rfl, h1, h2⟩ := colP_in x top n a ha
    simp only [List.mem_singleton] at hb
    rw [hb] at hab
    have := congrArg Prod.snd hab
    simp only at this
    omega
theorem strP_nodup (top n k : Nat) : (strP top n k).Nodup := by
  induction k with
  | zero => simp [strP]
  | succ k ih =>
    rw [strP_succ, List.nodup_append]
    refine ⟨ih, colP_nodup _ _ _, ?_⟩
    intro a ha b hb hab
    obtain ⟨X, Y, rfl, h1, h2, h3⟩ := strP_in top n k a ha
    obtain ⟨Y', rfl, h4, h5⟩ := colP_in k top n b hb
    have := congrArg Prod.fst hab
    simp only at this
    omega
theorem scnP_nodup (w h q : Nat) : (scnP w h q).Nodup := by
  induction q with
  | zero => simp [scnP]
  | succ q ih =>
    rw [scnP_succ, List.nodup_append]
    refine ⟨ih, strP_nodup _ _ _, ?_⟩
    intro a ha b hb hab
    obtain ⟨X, Y, rfl, h1, h2, h3⟩ := scnP_in w h q a ha
    obtain ⟨X', Y', rfl, h4, h5, h6⟩ := strP_in _ _ _ b hb
    have := congrArg Prod.snd hab
    simp only at this
    omega
theorem scnP_size (w h q : Nat) : (scnP w h q).length = w * min h (4 * q) := by
  induction q with
  | zero => simp [scnP]
  | succ q ih =>
    rw [scnP_succ, List.length_append, strP_len, ih, ← Nat.mul_add]
    congr 1
    omega
theorem scan_size (w h : Nat) : (scan w h).length = w * h := by
  unfold scan
  rw [scnP_size, show min h (4 * ((h + 3) / 4)) = h by omega]
/-- Whether one of the first k points lies at a place. -/
def seenP (w : Nat) (l : List (Int × Int)) (k i : Nat) : Bool := (l.take k).any fun p => posP w p == i
theorem seenP_zero (w : Nat) (l : List (Int × Int)) (i : Nat) : seenP w l 0 i = false := by simp [seenP]
theorem seenP_succ (w : Nat) (l : List (Int × Int)) (k i : Nat) (hk : k < l.length) : seenP w l (k + 1) i = if posP w l[k] = i then true else seenP w l k i := by
  unfold seenP
  rw [List.take_succ_eq_append_getElem hk, List.any_append]
  by_cases h : posP w l[k] = i
  · rw [if_pos h]; simp [h]
  · rw [if_neg h]; simp [h]
theorem scan_new (w h k : Nat) (hk : k < (scan w h).length) : ∃ X Y : Nat, (scan w h)[k] = ((X : Int), (Y : Int)) ∧ X < w ∧ Y < h ∧ seenP w (scan w h) k (Y * w + X) = false ∧ posP w (scan w h)[k] = Y * w + X := by
  obtain ⟨X, Y, he, h1, h2, _⟩ := scnP_in w h _ _ (List.getElem_mem (l := scan w h) hk)
  refine ⟨X, Y, he, h1, h2, ?_, by rw [he]; simp [posP]⟩
  unfold seenP
  rw [List.any_eq_false]
  intro p hp
  obtain ⟨j, hj, rfl⟩ := List.mem_iff_getElem.1 hp
  rw [List.length_take] at hj
  rw [List.getElem_take]
  obtain ⟨X', Y', he', h1', h2', _⟩ := scnP_in w h _ _ (List.getElem_mem (l := scan w h) (n := j) (by omega))
  simp only [beq_iff_eq]
  intro hpos
  have hnd : (scan w h).Nodup := scnP_nodup _ _ _
  rw [he'] at hpos
  have hp2 : Y' * w + X' = Y * w + X := by simpa [posP] using hpos
  have hXY : X' = X ∧ Y' = Y := by
    have d1 : (Y' * w + X') / w = Y' := by rw [Nat.mul_comm, Nat.mul_add_div (by omega)]; rw [Nat.div_eq_of_lt h1']; omega
    have d2 : (Y * w + X) / w = Y := by rw [Nat.mul_comm, Nat.mul_add_div (by omega)]; rw [Nat.div_eq_of_lt h1]; omega
    rw [hp2, d2] at d1
    subst d1
    omega
  obtain ⟨rfl, rfl⟩ := hXY
  have := (List.getElem_inj (h₀ := by omega) (h₁ := hk) hnd).1 (he'.trans he.symm)
  omega
theorem bump_end (l : List Int) (x : Int) : bump (l ++ [x]) = l ++ [x + 1] := by
  unfold bump
  have : (l ++ [x]).length - 1 = l.length := by simp
  rw [this]
  simp [List.getD]
/-- What the numbers of Segments are. -/
structure SegOk (b : Bool) (L : List Int) (k : Nat) : Prop where
  sum : L.sum = (k : Int)
  piece : ∀ i x, L[i]? = some x → 1 ≤ x ∧ ∀ j : Nat, (L.take i).sum ≤ (j : Int) → (j : Int) < (L.take i).sum + x → rawM (j : Int) b = rawM (L.take i).sum b
theorem segC_next (b r : Bool) (k : Nat) : (newSeg b r k = true ∧ segC b r (k + 1) = segC b r k ++ [1]) ∨ (newSeg b r k = false ∧ ∃ L x, segC b r k = L ++ [x] ∧ segC b r (k + 1) = L ++ [x + 1]) := by
  have hs : segC b r (k + 1) = bump (if newSeg b r k then segC b r k ++ [0] else segC b r k) := rfl
  by_cases hn : newSeg b r k = true
  · rw [if_pos hn, bump_end] at hs
    exact .inl ⟨hn, hs⟩
  · rw [if_neg hn] at hs
    have hk : k ≠ 0 := by rintro rfl; simp [newSeg] at hn
    have hl := (segC_len b r k).2 (by omega)
    obtain ⟨L, x, hL⟩ : ∃ L x, segC b r k = L ++ [x] := ⟨(segC b r k).dropLast, (segC b r k).getLast (by intro h; rw [h] at hl; simp at hl), (List.dropLast_concat_getLast _).symm⟩
    rw [hL, bump_end] at hs
    exact .inr ⟨by simpa using hn, L, x, hL, hs⟩
theorem segC_ok (b r : Bool) (k : Nat) : SegOk b (segC b r k) k := by
  induction k with
  | zero => exact ⟨rfl, fun i x h => by simp [segC] at h⟩
  | succ k ih =>
    rcases segC_next b r k with ⟨hn, he⟩ | ⟨hn, L, x, hL, he⟩
    · rw [he]
      refine ⟨by rw [List.sum_append, ih.sum]; simp, fun i y hy => ?_⟩
      by_cases hi : i < (segC b r k).length
      · rw [List.getElem?_append_left hi] at hy
        rw [List.take_append_of_le_length (by omega)]
        exact ih.piece i y hy
      · have hi' : i = (segC b r k).length := by
          have h2 := (List.getElem?_eq_some_iff.1 hy).1
          rw [List.length_append] at h2
          simp at h2
          omega
        subst hi'
        rw [List.getElem?_append_right (Nat.le_refl _)] at hy
        simp at hy
        subst hy
        rw [List.take_left, ih.sum]
        refine ⟨by omega, fun j h1 h2 => ?_⟩
        obtain rfl : j = k := by omega
        rfl
    · rw [hL] at ih
      rw [he]
      have hk0 : k ≠ 0 := by rintro rfl; simp [newSeg] at hn
      have hsum : L.sum + x = (k : Int) := by have := ih.sum; rw [List.sum_append] at this; simpa using this
      have hlast := ih.piece L.length x (by rw [List.getElem?_append_right (Nat.le_refl _)]; simp)
      rw [List.take_left] at hlast
      refine ⟨by rw [List.sum_append]; simp; omega, fun i y hy => ?_⟩
      by_cases hi : i < L.length
      · rw [List.getElem?_append_left hi] at hy
        rw [List.take_append_of_le_length (by omega)]
        have := ih.piece i y (by rw [List.getElem?_append_left hi]; exact hy)
        rw [List.take_append_of_le_length (by omega)] at this
        exact this
      · have hi' : i = L.length := by
          have h2 := (List.getElem?_eq_some_iff.1 hy).1
          rw [List.length_append] at h2
          simp at h2
          omega
        subst hi'
        rw [List.getElem?_append_right (Nat.le_refl _)] at hy
        simp at hy
        subst hy
        rw [List.take_left]
        refine ⟨by omega, fun j h1 h2 => ?_⟩
        by_cases hj : (j : Int) < L.sum + x
        · exact hlast.2 j h1 hj
        · have hjk : j = k := by omega
          subst hjk
          have h3 := hlast.2 (j - 1) (by omega) (by omega)
          rw [← h3]
          have h4 : newSeg b r j = false := hn
          unfold newSeg at h4
          simp only [Bool.or_eq_false_iff] at h4
          have h5 := h4.2
          simp at h5
          rw [h5, show ((j - 1 : Nat) : Int) = (j : Int) - 1 by omega]
/-- The numbers of one pass more are the same but for the last. -/
theorem segC_more (b r : Bool) (k i : Nat) (hi : i + 1 < (segC b r k).length) : i < (segC b r (k + 1)).length ∧ (segC b r (k + 1)).getD i 0 = (segC b r k).getD i 0 := by
  rcases segC_next b r k with ⟨hn, he⟩ | ⟨hn, L, x, hL, he⟩
  · rw [he]
    refine ⟨by rw [List.length_append]; omega, ?_⟩
    simp only [List.getD]
    rw [List.getElem?_append_left (by omega)]
  · rw [he]
    rw [hL, List.length_append] at hi
    simp at hi
    refine ⟨by rw [List.length_append]; omega, ?_⟩
    rw [hL]
    simp only [List.getD]
    rw [List.getElem?_append_left (by omega), List.getElem?_append_left (by omega)]
theorem take_sum (L : List Int) (i : Nat) (hi : i < L.length) : (L.take (i + 1)).sum = (L.take i).sum + L.getD i 0 := by
  rw [List.take_succ_eq_append_getElem hi, List.sum_append]
  simp [List.getD, hi]
theorem SegOk.le {b : Bool} {L : List Int} {k : Nat} (h : SegOk b L k) : ∀ i, i ≤ L.length → 0 ≤ (L.take i).sum ∧ (L.take i).sum ≤ (k : Int) := by
  have hpos : ∀ M : List Int, (∀ x ∈ M, 1 ≤ x) → 0 ≤ M.sum := by
    intro M
    induction M with
    | nil => intro _; simp
    | cons a M ih => intro hM; rw [List.sum_cons]; have := hM a (by simp); have := ih (fun x hx => hM x (by simp [hx])); omega
  have hall : ∀ x ∈ L, 1 ≤ x := fun x hx => by
    obtain ⟨i, hi, rfl⟩ := List.mem_iff_getElem.1 hx
    exact (h.piece i _ (List.getElem?_eq_getElem hi)).1
  intro i hi
  have h1 := hpos (L.take i) (fun x hx => hall x (List.mem_of_mem_take hx))
  have h2 := hpos (L.drop i) (fun x hx => hall x (List.mem_of_mem_drop hx))
  have h3 : (L.take i).sum + (L.drop i).sum = L.sum := by rw [← List.sum_append, List.take_append_drop]
  have := h.sum
  omega
end Go.Proofs.Ytdpfojenljejiaa
