/-
  Bits in bytes, eight by eight: plain mathematics of layer 12. No program in sight.
-/
import Derived.Test.YtbaappodeicomaaDoorAm
set_option maxRecDepth 100000
namespace Go.Proofs.YtbaappodeicomaaDoor
namespace Pk

def bit (b : Int) : Prop := b = 0 ∨ b = 1
def bits (l : List Int) : Prop := ∀ b ∈ l, bit b
theorem bits_getD {l : List Int} (h : bits l) (k : Nat) : bit (l.getD k 0) := by
  rw [List.getD_eq_getElem?_getD]
  by_cases hk : k < l.length
  · rw [List.getElem?_eq_getElem hk]; exact h _ (List.getElem_mem hk)
  · rw [List.getElem?_eq_none (by omega)]; exact .inl rfl
theorem bits_nil : bits [] := fun _ h => by simp at h
theorem bits_snoc {l : List Int} {b : Int} (h : bits l) (hb : bit b) : bits (l ++ [b]) := fun x hx => by
  rcases List.mem_append.1 hx with h1 | h1
  · exact h x h1
  · simp at h1; subst h1; exact hb
theorem bits_take {l : List Int} (h : bits l) (k : Nat) : bits (l.take k) := fun x hx => h x (List.mem_of_mem_take hx)
/-- The byte of so many bits. -/
def byt (l : List Int) (j : Nat) : Int :=
  128 * l.getD (8 * j) 0 + 64 * l.getD (8 * j + 1) 0 + 32 * l.getD (8 * j + 2) 0 + 16 * l.getD (8 * j + 3) 0 + 8 * l.getD (8 * j + 4) 0 + 4 * l.getD (8 * j + 5) 0 + 2 * l.getD (8 * j + 6) 0 + l.getD (8 * j + 7) 0
/-- So many bytes of bits. -/
def pk (N : Nat) (l : List Int) : List Int := (List.range N).map (byt l)
theorem pk_len (N : Nat) (l : List Int) : (pk N l).length = N := by simp [pk]
theorem pk_at {N : Nat} {l : List Int} {j : Nat} (h : j < N) : (pk N l).getD j 0 = byt l j := by
  simp [pk, List.getD_eq_getElem?_getD, h]
theorem byt_bd {l : List Int} (h : bits l) (j : Nat) : 0 ≤ byt l j ∧ byt l j ≤ 255 := by
  have h0 := bits_getD h (8 * j)
  have h1 := bits_getD h (8 * j + 1)
  have h2 := bits_getD h (8 * j + 2)
  have h3 := bits_getD h (8 * j + 3)
  have h4 := bits_getD h (8 * j + 4)
  have h5 := bits_getD h (8 * j + 5)
  have h6 := bits_getD h (8 * j + 6)
  have h7 := bits_getD h (8 * j + 7)
  unfold bit at *
  unfold byt
  omega
theorem pk_bytes {l : List Int} (h : bits l) (N : Nat) : Am.bytes (pk N l) := by
  intro x hx
  simp only [pk, List.mem_map] at hx
  obtain ⟨j, _, rfl⟩ := hx
  exact byt_bd h j
theorem getD_snoc (l : List Int) (b : Int) (k : Nat) : (l ++ [b]).getD k 0 = if k = l.length then b else l.getD k 0 := by
  rw [List.getD_eq_getElem?_getD, List.getD_eq_getElem?_getD]
  by_cases h : k = l.length
  · subst h; rw [if_pos rfl, List.getElem?_append_right (Nat.le_refl _)]; simp
  · rw [if_neg h]
    by_cases h2 : k < l.length
    · rw [List.getElem?_append_left h2]
    · rw [List.getElem?_eq_none (by simp; omega), List.getElem?_eq_none (by omega)]
theorem byt_snoc (l : List Int) (b : Int) (j : Nat) : byt (l ++ [b]) j = if j = l.length / 8 then byt l j + b * 2 ^ (7 - l.length % 8) else byt l j := by
  unfold byt
  simp only [getD_snoc]
  by_cases hj : j = l.length / 8
  · rw [if_pos hj]
    have hz : ∀ k, l.length ≤ k → l.getD k 0 = 0 := fun k hk => Am.getD_over hk
    have hn : l.length = 8 * j + l.length % 8 := by omega
    rcases (show l.length % 8 = 0 ∨ l.length % 8 = 1 ∨ l.length % 8 = 2 ∨ l.length % 8 = 3 ∨ l.length % 8 = 4 ∨ l.length % 8 = 5 ∨ l.length % 8 = 6 ∨ l.length % 8 = 7 by omega) with h | h | h | h | h | h | h | h
    · have := hz (8 * j) (by omega)
      rw [h, if_pos (by omega), if_neg (by omega), if_neg (by omega), if_neg (by omega), if_neg (by omega), if_neg (by omega), if_neg (by omega), if_neg (by omega)]
      simp only [show (2:Int) ^ (7 - 0) = 128 by decide]; omega
    · have := hz (8 * j + 1) (by omega)
      rw [h, if_neg (by omega), if_pos (by omega), if_neg (by omega), if_neg (by omega), if_neg (by omega), if_neg (by omega), if_neg (by omega), if_neg (by omega)]
      simp only [show (2:Int) ^ (7 - 1) = 64 by decide]; omega
    · have := hz (8 * j + 2) (by omega)
      rw [h, if_neg (by omega), if_neg (by omega), if_pos (by omega), if_neg (by omega), if_neg (by omega), if_neg (by omega), if_neg (by omega), if_neg (by omega)]
      simp only [show (2:Int) ^ (7 - 2) = 32 by decide]; omega
    · have := hz (8 * j + 3) (by omega)
      rw [h, if_neg (by omega), if_neg (by omega), if_neg (by omega), if_pos (by omega), if_neg (by omega), if_neg (by omega), if_neg (by omega), if_neg (by omega)]
      simp only [show (2:Int) ^ (7 - 3) = 16 by decide]; omega
    · have := hz (8 * j + 4) (by omega)
      rw [h, if_neg (by omega), if_neg (by omega), if_neg (by omega), if_neg (by omega), if_pos (by omega), if_neg (by omega), if_neg (by omega), if_neg (by omega)]
      simp only [show (2:Int) ^ (7 - 4) = 8 by decide]; omega
    · have := hz (8 * j + 5) (by omega)
      rw [h, if_neg (by omega), if_neg (by omega), if_neg (by omega), if_neg (by omega), if_neg (by omega), if_pos (by omega), if_neg (by omega), if_neg (by omega)]
      simp only [show (2:Int) ^ (7 - 5) = 4 by decide]; omega
    · have := hz (8 * j + 6) (by omega)
      rw [h, if_neg (by omega), if_neg (by omega), if_neg (by omega), if_neg (by omega), if_neg (by omega), if_neg (by omega), if_pos (by omega), if_neg (by omega)]
      simp only [show (2:Int) ^ (7 - 6) = 2 by decide]; omega
    · have := hz (8 * j + 7) (by omega)
      rw [h, if_neg (by omega), if_neg (by omega), if_neg (by omega), if_neg (by omega), if_neg (by omega), if_neg (by omega), if_neg (by omega), if_pos (by omega)]
      simp only [show (2:Int) ^ (7 - 7) = 1 by decide]; omega
  · rw [if_neg hj, if_neg (by omega), if_neg (by omega), if_neg (by omega), if_neg (by omega), if_neg (by omega), if_neg (by omega), if_neg (by omega), if_neg (by omega)]
/-- The bit of bytes at a place. -/
def bitAt (bs : List Int) (i : Nat) : Int := bs.getD (i / 8) 0 / 2 ^ (7 - i % 8) % 2
theorem spl {m A b c x : Int} (hx : x = c + m * (2 * A + b)) (h0 : 0 ≤ c) (h1 : c < m) (hb : bit b) : x / m % 2 = b := by
  rw [hx, Int.add_mul_ediv_left _ _ (by omega), Int.ediv_eq_zero_of_lt h0 h1]
  rcases hb with rfl | rfl <;> omega
theorem byt_bit' {l : List Int} (hl : bits l) (j r : Nat) (hr : r < 8) : byt l j / 2 ^ (7 - r) % 2 = l.getD (8 * j + r) 0 := by
  have h0 := bits_getD hl (8 * j)
  have h1 := bits_getD hl (8 * j + 1)
  have h2 := bits_getD hl (8 * j + 2)
  have h3 := bits_getD hl (8 * j + 3)
  have h4 := bits_getD hl (8 * j + 4)
  have h5 := bits_getD hl (8 * j + 5)
  have h6 := bits_getD hl (8 * j + 6)
  have h7 := bits_getD hl (8 * j + 7)
  have n1 : 0 ≤ l.getD (8 * j + 1) 0 ∧ l.getD (8 * j + 1) 0 ≤ 1 := by unfold bit at h1; omega
  have n2 : 0 ≤ l.getD (8 * j + 2) 0 ∧ l.getD (8 * j + 2) 0 ≤ 1 := by unfold bit at h2; omega
  have n3 : 0 ≤ l.getD (8 * j + 3) 0 ∧ l.getD (8 * j + 3) 0 ≤ 1 := by unfold bit at h3; omega
  have n4 : 0 ≤ l.getD (8 * j + 4) 0 ∧ l.getD (8 * j + 4) 0 ≤ 1 := by unfold bit at h4; omega
  have n5 : 0 ≤ l.getD (8 * j + 5) 0 ∧ l.getD (8 * j + 5) 0 ≤ 1 := by unfold bit at h5; omega
  have n6 : 0 ≤ l.getD (8 * j + 6) 0 ∧ l.getD (8 * j + 6) 0 ≤ 1 := by unfold bit at h6; omega
  have n7 : 0 ≤ l.getD (8 * j + 7) 0 ∧ l.getD (8 * j + 7) 0 ≤ 1 := by unfold bit at h7; omega
  unfold byt
  rcases (show r = 0 ∨ r = 1 ∨ r = 2 ∨ r = 3 ∨ r = 4 ∨ r = 5 ∨ r = 6 ∨ r = 7 by omega) with h | h | h | h | h | h | h | h <;> subst h
  · show _ = l.getD (8 * j) 0
    exact spl (m := 128) (A := 0) (c := 64 * l.getD (8 * j + 1) 0 + 32 * l.getD (8 * j + 2) 0 + 16 * l.getD (8 * j + 3) 0 + 8 * l.getD (8 * j + 4) 0 + 4 * l.getD (8 * j + 5) 0 + 2 * l.getD (8 * j + 6) 0 + l.getD (8 * j + 7) 0) (by omega) (by omega) (by omega) h0
  · exact spl (m := 64) (A := l.getD (8 * j) 0) (c := 32 * l.getD (8 * j + 2) 0 + 16 * l.getD (8 * j + 3) 0 + 8 * l.getD (8 * j + 4) 0 + 4 * l.getD (8 * j + 5) 0 + 2 * l.getD (8 * j + 6) 0 + l.getD (8 * j + 7) 0) (by omega) (by omega) (by omega) h1
  · exact spl (m := 32) (A := 2 * l.getD (8 * j) 0 + l.getD (8 * j + 1) 0) (c := 16 * l.getD (8 * j + 3) 0 + 8 * l.getD (8 * j + 4) 0 + 4 * l.getD (8 * j + 5) 0 + 2 * l.getD (8 * j + 6) 0 + l.getD (8 * j + 7) 0) (by omega) (by omega) (by omega) h2
  · exact spl (m := 16) (A := 4 * l.getD (8 * j) 0 + 2 * l.getD (8 * j + 1) 0 + l.getD (8 * j + 2) 0) (c := 8 * l.getD (8 * j + 4) 0 + 4 * l.getD (8 * j + 5) 0 + 2 * l.getD (8 * j + 6) 0 + l.getD (8 * j + 7) 0) (by omega) (by omega) (by omega) h3
  · exact spl (m := 8) (A := 8 * l.getD (8 * j) 0 + 4 * l.getD (8 * j + 1) 0 + 2 * l.getD (8 * j + 2) 0 + l.getD (8 * j + 3) 0) (c := 4 * l.getD (8 * j + 5) 0 + 2 * l.getD (8 * j + 6) 0 + l.getD (8 * j + 7) 0) (by omega) (by omega) (by omega) h4
  · exact spl (m := 4) (A := 16 * l.getD (8 * j) 0 + 8 * l.getD (8 * j + 1) 0 + 4 * l.getD (8 * j + 2) 0 + 2 * l.getD (8 * j + 3) 0 + l.getD (8 * j + 4) 0) (c := 2 * l.getD (8 * j + 6) 0 + l.getD (8 * j + 7) 0) (by omega) (by omega) (by omega) h5
  · exact spl (m := 2) (A := 32 * l.getD (8 * j) 0 + 16 * l.getD (8 * j + 1) 0 + 8 * l.getD (8 * j + 2) 0 + 4 * l.getD (8 * j + 3) 0 + 2 * l.getD (8 * j + 4) 0 + l.getD (8 * j + 5) 0) (c := l.getD (8 * j + 7) 0) (by omega) (by omega) (by omega) h6
  · exact spl (m := 1) (A := 64 * l.getD (8 * j) 0 + 32 * l.getD (8 * j + 1) 0 + 16 * l.getD (8 * j + 2) 0 + 8 * l.getD (8 * j + 3) 0 + 4 * l.getD (8 * j + 4) 0 + 2 * l.getD (8 * j + 5) 0 + l.getD (8 * j + 6) 0) (c := 0) (by omega) (by omega) (by omega) h7
theorem byt_bit {l : List Int} (h : bits l) (i : Nat) : byt l (i / 8) / 2 ^ (7 - i % 8) % 2 = l.getD i 0 := by
  rw [byt_bit' h _ _ (by omega), show 8 * (i / 8) + i % 8 = i by omega]
/-- So many bytes take the bits. -/
def nb (n : Nat) : Nat := (n + 7) / 8
theorem byt_over {l : List Int} {j : Nat} (h : l.length ≤ 8 * j) : byt l j = 0 := by
  unfold byt
  rw [Am.getD_over (by omega), Am.getD_over (by omega), Am.getD_over (by omega), Am.getD_over (by omega), Am.getD_over (by omega), Am.getD_over (by omega), Am.getD_over (by omega), Am.getD_over (by omega)]
  rfl
theorem pk_getD {l : List Int} {N : Nat} (h : l.length ≤ 8 * N) (j : Nat) : (pk N l).getD j 0 = byt l j := by
  by_cases hj : j < N
  · exact pk_at hj
  · rw [Am.getD_over (by rw [pk_len]; omega), byt_over (by omega)]
theorem pk_bit {l : List Int} (h : bits l) {N : Nat} (hN : l.length ≤ 8 * N) (i : Nat) : bitAt (pk N l) i = l.getD i 0 := by
  unfold bitAt
  rw [pk_getD hN, byt_bit h]
theorem trim_bit (bs : List Int) (i : Nat) : bitAt (Am.trim bs) i = bitAt bs i := by
  unfold bitAt
  rw [(Am.trim_pre bs).2.2.1]
/-- The segment of bits. -/
def seg (l : List Int) : List Int := Am.trim (pk (nb l.length) l)
theorem seg_bit {l : List Int} (h : bits l) (i : Nat) : bitAt (seg l) i = l.getD i 0 := by
  unfold seg
  rw [trim_bit, pk_bit h (by unfold nb; omega)]
theorem seg_len (l : List Int) : (seg l).length ≤ nb l.length := by
  have := (Am.trim_pre (pk (nb l.length) l)).1
  rw [pk_len] at this; exact this
theorem seg_bytes {l : List Int} (h : bits l) : Am.bytes (seg l) := by
  unfold seg; rw [(Am.trim_pre _).2.1]; exact Am.bytes_take (pk_bytes h _) _
theorem seg_last {l : List Int} (h : 0 < (seg l).length) : (seg l).getD ((seg l).length - 1) 0 ≠ 0 := (Am.trim_pre (pk (nb l.length) l)).2.2.2 h
theorem bit_of_byte {bs cs : List Int} {i : Nat} (h : bs.getD (i / 8) 0 = cs.getD (i / 8) 0) : bitAt bs i = bitAt cs i := by unfold bitAt; rw [h]
/-- A bit more, within the bytes. -/
theorem pk_set {l : List Int} {b : Int} {N : Nat} : pk N (l ++ [b]) = (pk N l).set (l.length / 8) (byt l (l.length / 8) + b * 2 ^ (7 - l.length % 8)) := by
  apply List.ext_getElem
  · simp [pk]
  · intro j h1 h2
    rw [List.getElem_set]
    simp only [pk, List.getElem_map, List.getElem_range, byt_snoc]
    by_cases hj : l.length / 8 = j
    · rw [if_pos hj, if_pos hj.symm, hj]
    · rw [if_neg hj, if_neg (fun e => hj e.symm)]
theorem pk_more {l : List Int} (h : l.length % 8 = 0) : pk (nb l.length + 1) l = pk (nb l.length) l ++ [0] := by
  have e : nb l.length = l.length / 8 := by unfold nb; omega
  rw [pk, List.range_succ, List.map_append, List.map_singleton, byt_over (by omega)]
  rfl
/-- How long what is left is when zero bytes are removed. -/
theorem trim_len {l : List Int} {k : Nat} (hk : l.getD k 0 ≠ 0) (ho : ∀ j, k < j → l.getD j 0 = 0) : (Am.trim l).length = k + 1 := by
  obtain ⟨h1, _, h3, h4⟩ := Am.trim_pre l
  rcases Nat.lt_trichotomy (Am.trim l).length (k + 1) with hlt | heq | hgt
  · have := h3 k
    rw [Am.getD_over (by omega)] at this
    exact absurd this.symm hk
  · exact heq
  · have := h4 (by omega)
    rw [h3, ho _ (by omega)] at this
    exact absurd rfl this
theorem trim_none {l : List Int} (ho : ∀ j, l.getD j 0 = 0) : (Am.trim l).length = 0 := by
  obtain ⟨h1, _, h3, h4⟩ := Am.trim_pre l
  rcases Nat.eq_zero_or_pos (Am.trim l).length with h | h
  · exact h
  · have := h4 h
    rw [h3, ho] at this
    exact absurd rfl this
/-- What is free in the last byte is 0. -/
theorem byt_low {l : List Int} (hl : l.length % 8 ≠ 0) : byt l (l.length / 8) % 2 ^ (7 - l.length % 8 + 1) = 0 := by
  have hz : ∀ k, l.length ≤ k → l.getD k 0 = 0 := fun k hk => Am.getD_over hk
  obtain ⟨j, hj⟩ : ∃ j, j = l.length / 8 := ⟨_, rfl⟩
  have hn : l.length = 8 * j + l.length % 8 := by omega
  rw [← hj]
  unfold byt
  rcases (show l.length % 8 = 1 ∨ l.length % 8 = 2 ∨ l.length % 8 = 3 ∨ l.length % 8 = 4 ∨ l.length % 8 = 5 ∨ l.length % 8 = 6 ∨ l.length % 8 = 7 by omega) with h | h | h | h | h | h | h
  · rw [h, hz (8 * j + 1) (by omega), hz (8 * j + 2) (by omega), hz (8 * j + 3) (by omega), hz (8 * j + 4) (by omega), hz (8 * j + 5) (by omega), hz (8 * j + 6) (by omega), hz (8 * j + 7) (by omega)]
    simp only [show (2:Int) ^ (7 - 1 + 1) = 128 by decide]; omega
  · rw [h, hz (8 * j + 2) (by omega), hz (8 * j + 3) (by omega), hz (8 * j + 4) (by omega), hz (8 * j + 5) (by omega), hz (8 * j + 6) (by omega), hz (8 * j + 7) (by omega)]
    simp only [show (2:Int) ^ (7 - 2 + 1) = 64 by decide]; omega
  · rw [h, hz (8 * j + 3) (by omega), hz (8 * j + 4) (by omega), hz (8 * j + 5) (by omega), hz (8 * j + 6) (by omega), hz (8 * j + 7) (by omega)]
    simp only [show (2:Int) ^ (7 - 3 + 1) = 32 by decide]; omega
  · rw [h, hz (8 * j + 4) (by omega), hz (8 * j + 5) (by omega), hz (8 * j + 6) (by omega), hz (8 * j + 7) (by omega)]
    simp only [show (2:Int) ^ (7 - 4 + 1) = 16 by decide]; omega
  · rw [h, hz (8 * j + 5) (by omega), hz (8 * j + 6) (by omega), hz (8 * j + 7) (by omega)]
    simp only [show (2:Int) ^ (7 - 5 + 1) = 8 by decide]; omega
  · rw [h, hz (8 * j + 6) (by omega), hz (8 * j + 7) (by omega)]
    simp only [show (2:Int) ^ (7 - 6 + 1) = 4 by decide]; omega
  · rw [h, hz (8 * j + 7) (by omega)]
    simp only [show (2:Int) ^ (7 - 7 + 1) = 2 by decide]; omega
end Pk
end Go.Proofs.YtbaappodeicomaaDoor
