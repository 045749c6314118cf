/-
  What holds of the bytes of a bit string: no byte 255 is the last one or stands before a byte of 128 or more; there are bits enough.
-/
import Derived.Test.YtaddendclipkkaaBi
set_option maxRecDepth 100000
namespace Go.Proofs.Ytaddendclipkkaa
namespace Bi

/-- Behind a byte 255 stands a byte below 128, its free bits counted. -/
def Gd (bs : List Int) (fr : Nat) : Prop := ∀ i, i + 1 < bs.length → bs.getD i 0 = 255 → bs.getD (i + 1) 0 + (if i + 2 = bs.length then 2 ^ fr else 1) ≤ 128
theorem getD_app (l m : List Int) (i : Nat) : (l ++ m).getD i 0 = if i < l.length then l.getD i 0 else m.getD (i - l.length) 0 := by
  simp only [List.getD_eq_getElem?_getD]
  split
  · rw [List.getElem?_append_left (by assumption)]
  · rw [List.getElem?_append_right (by omega)]
theorem getD_setl (l : List Int) (k i : Nat) (x : Int) : (l.set k x).getD i 0 = if k = i ∧ i < l.length then x else l.getD i 0 := by
  simp only [List.getD_eq_getElem?_getD, List.getElem?_set]
  by_cases h : k = i
  · subst h
    by_cases h2 : k < l.length
    · simp [h2]
    · simp [h2]
  · simp [h]
theorem one_le_pow (f : Nat) : (1 : Int) ≤ 2 ^ f := by
  have : 0 < 2 ^ f := Nat.two_pow_pos f
  have e : (2 : Int) ^ f = ((2 ^ f : Nat) : Int) := by simp
  rw [e]; omega
theorem gd_add {bs : List Int} {fr : Nat} {b : Int} (ho : Ok bs fr) (h : Gd bs fr) (hb : bit b) : Gd (addB (bs, fr) b).1 (addB (bs, fr) b).2 := by
  unfold addB
  by_cases e : fr = 0
  · subst e
    simp only [if_true]
    intro i hi h255
    rw [List.length_append, List.length_singleton] at hi ⊢
    rw [getD_app] at h255 ⊢
    rw [if_pos (by omega)] at h255
    by_cases hl : i + 1 < bs.length
    · rw [if_pos hl, if_neg (by omega)]
      have := h i hl h255
      split at this
      · simpa using this
      · exact this
    · have hi1 : i + 1 = bs.length := by omega
      rw [if_neg hl, if_pos (by omega), hi1, Nat.sub_self]
      have hw : wd bs = 7 := by
        have : lst bs = bs.getD i 0 := by unfold lst; congr 1; omega
        unfold wd; rw [this, h255]; rfl
      rw [hw]
      rcases hb with rfl | rfl <;> decide
  · simp only [if_neg e]
    have hne : bs ≠ [] := fun h1 => e (ho.emp h1)
    have hlen : 0 < bs.length := List.length_pos_iff.2 hne
    intro i hi h255
    rw [List.length_set] at hi ⊢
    rw [getD_setl] at h255 ⊢
    rw [if_neg (by omega)] at h255
    have hg := h i hi h255
    by_cases hl : i + 2 = bs.length
    · rw [if_pos hl] at hg ⊢
      rw [if_pos (by omega)]
      have hx : bs.getD (i + 1) 0 = lst bs := by unfold lst; congr 1; omega
      rw [hx] at hg
      have hp : (2 : Int) ^ fr = 2 * 2 ^ (fr - 1) := by
        obtain ⟨f, rfl⟩ : ∃ f, fr = f + 1 := ⟨fr - 1, by omega⟩
        rw [Int.pow_succ, Nat.add_sub_cancel, Int.mul_comm]
      rw [hp] at hg
      have := one_le_pow (fr - 1)
      rcases hb with rfl | rfl <;> simp <;> omega
    · rw [if_neg hl] at hg ⊢
      rw [if_neg (by omega)]
      exact hg
theorem add_cnt (s : List Int × Nat) (b : Int) (n : Nat) (h : n + s.2 ≤ 8 * s.1.length) : n + 1 + (addB s b).2 ≤ 8 * (addB s b).1.length := by
  unfold addB
  have := wd_cases s.1
  split
  · simp; omega
  · simp; omega
theorem st_gd {l : List Int} (h : bits l) : Gd (st l).1 (st l).2 ∧ l.length + (st l).2 ≤ 8 * (st l).1.length := by
  have key : ∀ (m : List Int) (s : List Int × Nat) (n : Nat), Ok s.1 s.2 → Gd s.1 s.2 → n + s.2 ≤ 8 * s.1.length → bits m → Gd (m.foldl addB s).1 (m.foldl addB s).2 ∧ n + m.length + (m.foldl addB s).2 ≤ 8 * (m.foldl addB s).1.length := by
    intro m
    induction m with
    | nil => intro s n _ hg hn _; exact ⟨hg, hn⟩
    | cons b m ih =>
      intro s n hs hg hn hm
      have hb := hm b (by simp)
      have := ih (addB s b) (n + 1) (ok_add hs hb) (gd_add hs hg hb) (add_cnt s b n hn) (fun x hx => hm x (by simp [hx]))
      rw [show n + (b :: m).length = n + 1 + m.length by simp; omega]
      exact this
  have := key l ([], 0) 0 ok_nil (fun i hi => by simp at hi) (by simp) h
  simpa [st] using this
theorem enc_stuff {l : List Int} (h : bits l) (i : Nat) (hi : i < (enc l).length) (h255 : (enc l)[i] = 255) : ∃ h2 : i + 1 < (enc l).length, (enc l)[i + 1] < 128 := by
  obtain ⟨hg, _⟩ := st_gd h
  have e1 : (enc l).getD i 0 = 255 := by rw [List.getD_eq_getElem?_getD, List.getElem?_eq_getElem hi, h255]; rfl
  have key : i + 1 < (enc l).length ∧ (enc l).getD (i + 1) 0 < 128 := by
    unfold enc fin at *
    split at e1
    · rename_i hl
      rw [if_pos hl] at hi ⊢
      rw [List.length_append, List.length_singleton] at hi ⊢
      rw [getD_app] at e1 ⊢
      by_cases h1 : i < (st l).1.length
      · rw [if_pos h1] at e1
        refine ⟨by omega, ?_⟩
        by_cases h2 : i + 1 < (st l).1.length
        · rw [if_pos h2]
          have hq := hg i h2 e1
          have := one_le_pow (st l).2
          split at hq <;> omega
        · rw [if_neg h2, show i + 1 - (st l).1.length = 0 by omega]
          decide
      · rw [if_neg h1, show i - (st l).1.length = 0 by omega] at e1
        simp at e1
    · rename_i hl
      rw [if_neg hl] at hi ⊢
      by_cases h2 : i + 1 < (st l).1.length
      · refine ⟨h2, ?_⟩
        have hq := hg i h2 e1
        have := one_le_pow (st l).2
        split at hq <;> omega
      · exfalso
        apply hl
        unfold lst
        rw [show (st l).1.length - 1 = i by omega]
        exact e1
  refine ⟨key.1, ?_⟩
  have := key.2
  rwa [List.getD_eq_getElem?_getD, List.getElem?_eq_getElem key.1] at this
theorem enc_len {l : List Int} (h : bits l) : l.length ≤ 8 * (enc l).length := by
  have := (st_gd h).2
  unfold enc fin
  split
  · rw [List.length_append]; omega
  · omega
theorem enc_nil : enc [] = [] := by decide
end Bi
end Go.Proofs.Ytaddendclipkkaa
