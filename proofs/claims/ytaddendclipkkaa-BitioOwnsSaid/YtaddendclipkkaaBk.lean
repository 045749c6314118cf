/-
  Reading bits of some bytes and writing them again.
-/
import Derived.Test.YtaddendclipkkaaBj
set_option maxRecDepth 100000
namespace Go.Proofs.Ytaddendclipkkaa
namespace Bi

/-- The writer's bytes are the first bytes that were read, the bits of the last one that were not read being 0. -/
structure Cut (bs : List Int) (t : Nat) (s : List Int) (fr : Nat) : Prop where
  pos : t + fr = 8 * s.length
  le : s.length ≤ bs.length
  emp : s.length = 0 → fr = 0
  at_ : ∀ i, i < s.length → s.getD i 0 = if i + 1 = s.length then bs.getD i 0 - bs.getD i 0 % 2 ^ fr else bs.getD i 0
theorem cut_nil (bs : List Int) : Cut bs 0 [] 0 := ⟨rfl, Nat.zero_le _, fun _ => rfl, fun i hi => by simp at hi⟩
theorem getD_take (bs : List Int) (n i : Nat) : (bs.take n).getD i 0 = if i < n then bs.getD i 0 else 0 := by
  simp only [List.getD_eq_getElem?_getD]
  split
  · rw [List.getElem?_take_of_lt (by assumption)]
  · rw [List.getElem?_eq_none (by simp; omega)]; rfl
theorem ext_getD {l m : List Int} (hl : l.length = m.length) (h : ∀ i, i < l.length → l.getD i 0 = m.getD i 0) : l = m := by
  refine List.ext_getElem hl fun i h1 h2 => ?_
  have := h i h1
  rwa [List.getD_eq_getElem?_getD, List.getD_eq_getElem?_getD, List.getElem?_eq_getElem h1, List.getElem?_eq_getElem h2] at this
theorem Cut.full {bs s : List Int} {t : Nat} (h : Cut bs t s 0) : s = bs.take s.length := by
  refine ext_getD (by simp [h.le]) fun i hi => ?_
  rw [getD_take, if_pos hi, h.at_ i hi]
  split <;> simp
theorem lst_getD (s : List Int) : lst s = s.getD (s.length - 1) 0 := rfl
theorem byte_getD {bs : List Int} (h : bytes bs) (i : Nat) : 0 ≤ bs.getD i 0 ∧ bs.getD i 0 ≤ 255 := by
  rw [List.getD_eq_getElem?_getD]
  cases hq : bs[i]? with
  | none => decide
  | some x => exact h x (List.mem_of_getElem? hq)
theorem low_step {x : Int} {f : Nat} (hf : f < 8) : x - x % 2 ^ (f + 1) + x / 2 ^ f % 2 * 2 ^ f = x - x % 2 ^ f := by
  rcases pow_lt f (by omega) with rfl | rfl | rfl | rfl | rfl | rfl | rfl | rfl | rfl <;> simp <;> omega
theorem cut_step {bs s : List Int} {t fr : Nat} (h : Cut bs t s fr) (hfr : fr ≤ 7) (hb : bytes bs) (hE : gE bs t = 0) : Cut bs (gN bs t) (addB (s, fr) (gR bs t)).1 (addB (s, fr) (gR bs t)).2 := by
  have hne : t / 8 ≠ bs.length := fun e => by simp [gE, e] at hE
  have hpos := h.pos
  have hle := h.le
  simp only [gN, gR, if_pos hE, gV]
  by_cases h0 : fr = 0
  · subst h0
    have ht : t / 8 = s.length := by omega
    have hlt : s.length < bs.length := by omega
    have hx := byte_getD hb s.length
    have hfull := h.full
    have hS : gS bs t = true ↔ lst s = 255 := by
      simp only [gS, decide_eq_true_eq]
      rw [ht, ← hfull]
      exact ⟨fun a => a.2, fun a => ⟨by omega, a⟩⟩
    rw [ht]
    by_cases hs : lst s = 255
    · have hS1 : gS bs t = true := hS.2 hs
      have h128 : bs.getD s.length 0 < 128 := by
        by_cases h1 : 128 ≤ bs.getD s.length 0
        · exfalso
          have : gE bs t = 8 := by
            unfold gE
            rw [if_neg hne, ht, if_pos ⟨hS1, h1⟩]
          omega
        · omega
      have hA : gA bs t = t + 1 := if_pos hS1
      have hw : wd s = 7 := by simp [wd, hs]
      have e7 : 7 - (t + 1) % 8 = 6 := by omega
      simp only [addB, if_true, hw, hA, e7]
      refine ⟨by simp; omega, by simp; omega, fun h => by simp at h, fun i hi => ?_⟩
      rw [List.length_append, List.length_singleton] at hi ⊢
      rw [getD_app]
      by_cases hi2 : i < s.length
      · rw [if_pos hi2, if_neg (by omega), h.at_ i hi2]
        split <;> simp
      · obtain rfl : i = s.length := by omega
        rw [if_neg hi2, if_pos rfl, Nat.sub_self]
        simp only [List.getD_cons_zero]
        generalize bs.getD s.length 0 = x at *
        simp; omega
    · have hS0 : gS bs t = false := by
        cases hc : gS bs t with
        | false => rfl
        | true => exact absurd (hS.1 hc) hs
      have hA : gA bs t = t := by unfold gA; rw [hS0]; rfl
      have hw : wd s = 8 := by simp [wd, hs]
      have e7 : 7 - t % 8 = 7 := by omega
      simp only [addB, if_true, hw, hA, e7]
      refine ⟨by simp; omega, by simp; omega, fun h => by simp at h, fun i hi => ?_⟩
      rw [List.length_append, List.length_singleton] at hi ⊢
      rw [getD_app]
      by_cases hi2 : i < s.length
      · rw [if_pos hi2, if_neg (by omega), h.at_ i hi2]
        split <;> simp
      · obtain rfl : i = s.length := by omega
        rw [if_neg hi2, if_pos rfl, Nat.sub_self]
        simp only [List.getD_cons_zero]
        generalize bs.getD s.length 0 = x at *
        simp; omega
  · have hsl : 0 < s.length := by
      rcases Nat.eq_zero_or_pos s.length with h1 | h1
      · exact absurd (h.emp h1) h0
      · exact h1
    have ht : t / 8 = s.length - 1 := by omega
    have hr : t % 8 = 8 - fr := by omega
    have hS0 : gS bs t = false := by simp [gS]; omega
    have hA : gA bs t = t := by unfold gA; rw [hS0]; rfl
    rw [hA, ht]
    obtain ⟨f, rfl⟩ : ∃ f, fr = f + 1 := ⟨fr - 1, by omega⟩
    have e7 : 7 - t % 8 = f := by omega
    rw [e7]
    simp only [addB, if_neg h0, Nat.add_sub_cancel]
    refine ⟨by simp; omega, by simp; omega, fun h => by rw [List.length_set] at h; omega, fun i hi => ?_⟩
    rw [List.length_set] at hi ⊢
    rw [getD_setl]
    by_cases hi2 : i + 1 = s.length
    · rw [if_pos (by omega), if_pos hi2]
      have hi3 : s.length - 1 = i := by omega
      have hat := h.at_ i hi
      rw [if_pos hi2] at hat
      rw [lst_getD, hi3, hat]
      exact low_step (by omega)
    · rw [if_neg (by omega), if_neg hi2, h.at_ i hi, if_neg hi2]
/-- What Align gives (as in the text of the reader). -/
def alR (bs : List Int) (t : Nat) : Int × Int × Nat :=
  if t % 8 = 0 then
    (if lst (bs.take (t / 8)) = 255 then (if t / 8 = bs.length then (0, 7, t) else if bs.getD (t / 8) 0 = 0 then (((t / 8 + 1 : Nat) : Int), 0, 8 * (t / 8 + 1)) else (0, 8, t)) else (((t / 8 : Nat) : Int), 0, t))
  else if bs.getD (t / 8) 0 % 2 ^ (8 - t % 8) = 0 then (((t / 8 + 1 : Nat) : Int), 0, 8 * (t / 8 + 1)) else (0, 8, t)
/-- The bytes up to the place that Align gives are the writer's. -/
theorem cut_align {bs s : List Int} {t fr : Nat} (h : Cut bs t s fr) (hfr : fr ≤ 7) (hE : (alR bs t).2.1 = 0) : ∃ n : Nat, (alR bs t).1 = n ∧ n ≤ bs.length ∧ fin s = bs.take n := by
  have hpos := h.pos
  have hle := h.le
  unfold alR at hE ⊢
  by_cases h0 : t % 8 = 0
  · have hf0 : fr = 0 := by omega
    subst hf0
    have ht : t / 8 = s.length := by omega
    have hfull := h.full
    rw [if_pos h0, ht] at hE ⊢
    rw [← hfull] at hE ⊢
    by_cases hl : lst s = 255
    · rw [if_pos hl] at hE ⊢
      by_cases hn : s.length = bs.length
      · rw [if_pos hn] at hE; simp at hE
      · rw [if_neg hn] at hE ⊢
        by_cases hz : bs.getD s.length 0 = 0
        · rw [if_pos hz]
          have hlt : s.length < bs.length := by omega
          refine ⟨s.length + 1, rfl, by omega, ?_⟩
          have e : bs[s.length] = 0 := by rw [List.getD_eq_getElem?_getD, List.getElem?_eq_getElem hlt] at hz; exact hz
          rw [fin, if_pos hl, List.take_succ_eq_append_getElem hlt, ← hfull, e]
        · rw [if_neg hz] at hE; simp at hE
    · rw [if_neg hl]
      exact ⟨s.length, rfl, hle, by rw [fin, if_neg hl]; exact hfull⟩
  · rw [if_neg h0] at hE ⊢
    have hsl : 0 < s.length := by
      rcases Nat.eq_zero_or_pos s.length with h1 | h1
      · have := h.emp h1; omega
      · exact h1
    have ht : t / 8 = s.length - 1 := by omega
    have hf : 8 - t % 8 = fr := by omega
    rw [ht, hf] at hE ⊢
    by_cases hz : bs.getD (s.length - 1) 0 % 2 ^ fr = 0
    · rw [if_pos hz]
      have hs : s = bs.take s.length := by
        refine ext_getD (by simp [hle]) fun i hi => ?_
        rw [getD_take, if_pos hi, h.at_ i hi]
        split
        · rename_i h2
          rw [show i = s.length - 1 by omega, hz]; simp
        · rfl
      have hl : lst s ≠ 255 := by
        intro e
        rw [lst_getD, h.at_ _ (by omega), if_pos (by omega), hz, Int.sub_zero] at e
        rw [e] at hz
        have h9 : fr = 1 ∨ fr = 2 ∨ fr = 3 ∨ fr = 4 ∨ fr = 5 ∨ fr = 6 ∨ fr = 7 := by omega
        rcases h9 with h | h | h | h | h | h | h <;> subst h <;> revert hz <;> decide
      refine ⟨s.length, by congr 1; omega, hle, ?_⟩
      rw [fin, if_neg hl]
      exact hs
    · rw [if_neg hz] at hE; simp at hE
end Bi
end Go.Proofs.Ytaddendclipkkaa
