/-
  Layer 11, the code's encoder: raise, Encode.
-/
import Derived.Test.YtnmmgjbjnhiaoaaDoorQEc
set_option maxRecDepth 100000
namespace Go.Proofs.YtnmmgjbjnhiaoaaDoor
open Go.RowKit

/-- While the carry runs: the bytes that are left, the zeros behind them. -/
structure Carry (n : Nat) (h1 : Int) (k : Nat) (R : List Int) : Prop where
  len : R.length = n
  kn : k ≤ n
  tail : R = R.take k ++ List.replicate (n - k) 0
  bytes : Am.bytes R
  val : (Am.val (R.take k) + 1) * Am.Pw (n - k) = h1
theorem carry0 {n : Nat} {h : Int} (h0 : 0 ≤ h) (hh : h + 1 ≤ Am.Pw n) : Carry n (h + 1) n (Am.dig n h) :=
  ⟨Am.dig_len _ _, Nat.le_refl _, by rw [Nat.sub_self, List.take_of_length_le (by rw [Am.dig_len]; omega)]; simp, Am.dig_bytes _ _, by rw [Nat.sub_self, List.take_of_length_le (by rw [Am.dig_len]; omega), Am.val_dig n h h0 hh, Am.Pw_zero, Int.mul_one]⟩
theorem Carry.pos {n k : Nat} {h1 : Int} {R : List Int} (c : Carry n h1 k R) (hh : h1 + 1 ≤ Am.Pw n) : k ≠ 0 := by
  intro hk
  subst hk
  have := c.val
  rw [List.take_zero, Am.val_nil, Nat.sub_zero] at this
  omega
theorem Carry.at {n k : Nat} {h1 : Int} {R : List Int} (c : Carry n h1 (k + 1) R) : R.take (k + 1) = R.take k ++ [R.getD k 0] ∧ Am.byte (R.getD k 0) := by
  have hk : k < R.length := by have := c.kn; have := c.len; omega
  exact ⟨by rw [List.take_succ_eq_append_getElem hk, List.getD_eq_getElem?_getD, List.getElem?_eq_getElem hk]; rfl, Am.bytes_getD c.bytes k⟩
/-- A byte 255 becomes 0. -/
theorem Carry.next {n k : Nat} {h1 : Int} {R : List Int} (c : Carry n h1 (k + 1) R) (hx : R.getD k 0 = 255) : Carry n h1 k (R.set k 0) := by
  have hk : k < R.length := by have := c.kn; have := c.len; omega
  obtain ⟨e, _⟩ := c.at
  have ht : (R.set k 0).take k = R.take k := by rw [List.take_set, List.set_eq_of_length_le (by simp; omega)]
  refine ⟨by rw [List.length_set]; exact c.len, by have := c.kn; omega, ?_, ?_, ?_⟩
  · have h2 := c.tail
    rw [ht]
    have e3 : R.set k 0 = (R.take k ++ [255] ++ List.replicate (n - (k + 1)) 0).set k 0 := by
      have : R = R.take k ++ [255] ++ List.replicate (n - (k + 1)) 0 := by rw [← hx, ← e]; exact h2
      rw [← this]
    rw [e3, List.append_assoc, List.set_append_right _ _ (by simp; omega), List.length_take, Nat.min_eq_left (by omega), Nat.sub_self]
    have : n - k = (n - (k + 1)) + 1 := by have := c.kn; omega
    rw [this, List.replicate_succ]
    rfl
  · intro x hx'
    rcases List.mem_or_eq_of_mem_set hx' with h3 | rfl
    · exact c.bytes x h3
    · exact ⟨by decide, by decide⟩
  · rw [ht]
    have h2 := c.val
    rw [e, Am.val_snoc, hx] at h2
    have : n - k = (n - (k + 1)) + 1 := by have := c.kn; omega
    rw [this, Am.Pw_succ, ← h2, show 256 * Am.val (R.take k) + 255 + 1 = 256 * (Am.val (R.take k) + 1) by omega, Int.mul_comm 256 (Am.val (R.take k) + 1), Int.mul_assoc]
/-- Any other byte grows, and the number is reached. -/
theorem Carry.done {n k : Nat} {h1 : Int} {R : List Int} (c : Carry n h1 (k + 1) R) (hx : R.getD k 0 ≠ 255) : R.set k (R.getD k 0 + 1) = Am.dig n h1 := by
  have hk : k < R.length := by have := c.kn; have := c.len; omega
  obtain ⟨e, hb⟩ := c.at
  have h2 := c.tail
  have e3 : R.set k (R.getD k 0 + 1) = (R.take k ++ [R.getD k 0 + 1]) ++ List.replicate (n - (k + 1)) 0 := by
    have e4 : R = R.take k ++ [R.getD k 0] ++ List.replicate (n - (k + 1)) 0 := by rw [← e]; exact h2
    have e5 : R.set k (R.getD k 0 + 1) = (R.take k ++ [R.getD k 0] ++ List.replicate (n - (k + 1)) 0).set k (R.getD k 0 + 1) := by rw [← e4]
    rw [e5, List.append_assoc, List.set_append_right _ _ (by simp; omega), List.length_take, Nat.min_eq_left (by omega), Nat.sub_self, List.append_assoc]
    rfl
  have hby : Am.bytes (R.set k (R.getD k 0 + 1)) := by
    intro x hx'
    rcases List.mem_or_eq_of_mem_set hx' with h3 | rfl
    · exact c.bytes x h3
    · unfold Am.byte at *; omega
  have hv : Am.val (R.set k (R.getD k 0 + 1)) = h1 := by
    rw [e3, Am.val_zeros, Am.val_snoc, ← c.val, e, Am.val_snoc]
    rw [Int.add_assoc]
  rw [← hv]
  have hl : (R.set k (R.getD k 0 + 1)).length = n := by rw [List.length_set]; exact c.len
  have := Am.dig_val _ hby
  rw [hl] at this
  exact this.symm
end Go.Proofs.YtnmmgjbjnhiaoaaDoor
