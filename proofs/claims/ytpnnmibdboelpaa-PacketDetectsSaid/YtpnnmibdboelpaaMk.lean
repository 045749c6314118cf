/-
  The mathematics of layer 28: numbers in bytes, marker segments, lists of them.
-/
import Derived.Test.YtpnnmibdboelpaaRows
set_option maxRecDepth 100000
namespace Go.Proofs.Ytpnnmibdboelpaa
namespace Mk
def bytes (l : List Int) : Prop := ∀ x ∈ l, 0 ≤ x ∧ x ≤ 255
def num (l : List Int) : Int := l.foldl (fun v d => v * 256 + d) 0
theorem num_snoc (l : List Int) (x : Int) : num (l ++ [x]) = num l * 256 + x := by simp [num, List.foldl_append]
theorem bytes_take {l : List Int} (h : bytes l) (n : Nat) : bytes (l.take n) := fun x hx => h x (List.mem_of_mem_take hx)
theorem bytes_drop {l : List Int} (h : bytes l) (n : Nat) : bytes (l.drop n) := fun x hx => h x (List.mem_of_mem_drop hx)
theorem bytes_app {l m : List Int} (h : bytes l) (h2 : bytes m) : bytes (l ++ m) := fun x hx => by
  rcases List.mem_append.1 hx with q | q
  · exact h x q
  · exact h2 x q
theorem snoc_of {l : List Int} {n : Nat} (h : l.length = n + 1) : ∃ m x, l = m ++ [x] ∧ m.length = n := by
  refine ⟨l.take n, l[n], ?_, by simp; omega⟩
  have := List.take_succ_eq_append_getElem (show n < l.length by omega)
  rw [← this, List.take_of_length_le (by omega)]
theorem num_bd {l : List Int} (h : bytes l) : 0 ≤ num l ∧ num l < 256 ^ l.length := by
  generalize hn : l.length = n
  induction n generalizing l with
  | zero =>
    obtain rfl := List.length_eq_zero_iff.1 hn
    simp [num]
  | succ n ih =>
    obtain ⟨m, x, rfl, hm⟩ := snoc_of hn
    have h1 := ih (fun y hy => h y (by simp [hy])) hm
    have h2 := h x (by simp)
    rw [num_snoc, Int.pow_succ]
    generalize (256 : Int) ^ n = P at *
    omega
/-- The n lowest bytes of a number, the highest first. -/
def dg (v : Int) : Nat → List Int
  | 0 => []
  | n + 1 => dg (v / 256) n ++ [v % 256]
theorem dg_len (v : Int) (n : Nat) : (dg v n).length = n := by
  induction n generalizing v with
  | zero => rfl
  | succ n ih => simp [dg, ih]
theorem dg_bytes (v : Int) (n : Nat) : bytes (dg v n) := by
  induction n generalizing v with
  | zero => intro x hx; simp [dg] at hx
  | succ n ih =>
    intro x hx
    rcases List.mem_append.1 hx with q | q
    · exact ih _ x q
    · simp at q; omega
theorem num_dg (v : Int) (n : Nat) (h0 : 0 ≤ v) (h1 : v < 256 ^ n) : num (dg v n) = v := by
  induction n generalizing v with
  | zero => simp at h1; simp [dg, num]; omega
  | succ n ih =>
    rw [Int.pow_succ] at h1
    rw [dg, num_snoc, ih (v / 256) (by omega) (by omega)]
    omega
theorem dg_num {l : List Int} (h : bytes l) : dg (num l) l.length = l := by
  generalize hn : l.length = n
  induction n generalizing l with
  | zero => rw [List.length_eq_zero_iff.1 hn]; rfl
  | succ n ih =>
    obtain ⟨m, x, rfl, hm⟩ := snoc_of hn
    have h2 := h x (by simp)
    have e1 : (num m * 256 + x) / 256 = num m := by omega
    have e2 : (num m * 256 + x) % 256 = x := by omega
    rw [num_snoc, dg, e1, e2, ih (fun y hy => h y (by simp [hy])) hm]
/-- The digit at a place. -/
theorem dg_get (v : Int) (n : Nat) (k : Nat) (h : k < n) : (dg v n)[k]? = some (v / 256 ^ (n - 1 - k) % 256) := by
  induction n generalizing v k with
  | zero => omega
  | succ n ih =>
    by_cases hk : k < n
    · rw [dg, List.getElem?_append_left (by rw [dg_len]; exact hk), ih _ _ hk, Int.ediv_ediv_of_nonneg (by omega)]
      have e : n + 1 - 1 - k = (n - 1 - k) + 1 := by omega
      rw [e, Int.pow_succ, Int.mul_comm]
    · obtain rfl : k = n := by omega
      rw [dg, List.getElem?_append_right (by rw [dg_len]; omega), dg_len]
      simp
def isN (n : Int) : Bool := decide (1 ≤ n) && decide (n ≤ 4)
def rdE (bs : List Int) (a n : Int) : Int := if isN n = false ∨ a < 0 ∨ a > bs.length then 2 else if n > bs.length - a then 7 else 0
def rdV (bs : List Int) (a n : Int) : Int := if rdE bs a n = 0 then num ((bs.drop a.toNat).take n.toNat) else 0
def known (c : Int) : Bool := (decide (65440 ≤ c) && decide (c ≤ 65445)) || decide (c = 65455) || (decide (65456 ≤ c) && decide (c ≤ 65458))
def bare (c : Int) : Bool := decide (c = 65440) || decide (c = 65458) || decide (c = 65455)
/-- A segment read at an offset: what it is, the offset behind it, the error. -/
structure Rs where
  c : Int
  p : List Int
  n : Int
  e : Int
def rs (bs : List Int) (a : Int) : Rs :=
  if rdE bs a 2 ≠ 0 then ⟨0, [], 0, rdE bs a 2⟩
  else if known (rdV bs a 2) = false then ⟨0, [], 0, 11⟩
  else if bare (rdV bs a 2) = true then ⟨rdV bs a 2, [], a + 2, 0⟩
  else if rdE bs (a + 2) 2 ≠ 0 then ⟨0, [], 0, rdE bs (a + 2) 2⟩
  else if rdV bs (a + 2) 2 < 2 then ⟨0, [], 0, 4⟩
  else if rdV bs (a + 2) 2 > bs.length - (a + 2) then ⟨0, [], 0, 7⟩
  else ⟨rdV bs a 2, (bs.drop (a.toNat + 4)).take ((rdV bs (a + 2) 2).toNat - 2), a + 2 + rdV bs (a + 2) 2, 0⟩
def ends (bs : List Int) (a : Int) : Bool := decide (rdE bs a 2 = 0) && (decide (rdV bs a 2 = 65456) || decide (rdV bs a 2 = 65458) || decide (rdV bs a 2 = 65455))
structure Al where
  l : List (Int × List Int)
  n : Int
  e : Int
/-- What stands before, put before what is read. -/
def Al.put (x : Al) (acc : List (Int × List Int)) : Al := if x.e = 0 then ⟨acc ++ x.l, x.n, 0⟩ else ⟨[], 0, x.e⟩
def al (bs : List Int) : Nat → Int → Al
  | 0, a => ⟨[], a, 0⟩
  | f + 1, a => if ends bs a = true then ⟨[], a, 0⟩ else if (rs bs a).e ≠ 0 then ⟨[], 0, (rs bs a).e⟩ else (al bs f (rs bs a).n).put [((rs bs a).c, (rs bs a).p)]
/-- Append's error, and what it gives. -/
def apE (c : Int) (p : List Int) : Int := if known c = false then 11 else if bare c = true ∧ 0 < p.length then 4 else if p.length > 65533 then 5 else 0
def seg (c : Int) (p : List Int) : List Int := if bare c = true then dg c 2 else dg c 2 ++ dg (p.length + 2) 2 ++ p
def ap (bs : List Int) (c : Int) (p : List Int) : List Int := if apE c p = 0 then bs ++ seg c p else []
def unE (v n : Int) : Int := if isN n = true ∧ 0 ≤ v ∧ v < 256 ^ n.toNat then 0 else 2
def un (bs : List Int) (v n : Int) : List Int := if unE v n = 0 then bs ++ dg v n.toNat else []
theorem rdE_ok {bs : List Int} {a n : Int} (h : rdE bs a n = 0) : 1 ≤ n ∧ n ≤ 4 ∧ 0 ≤ a ∧ a + n ≤ bs.length := by
  unfold rdE at h
  split at h
  · omega
  · rename_i q
    split at h
    · omega
    · rw [not_or, not_or] at q
      have q1 : isN n = true := by simpa using q.1
      simp [isN] at q1
      omega
theorem rdE_of {bs : List Int} {a n : Int} (h1 : 1 ≤ n) (h2 : n ≤ 4) (h3 : 0 ≤ a) (h4 : a + n ≤ bs.length) : rdE bs a n = 0 := by
  have q : isN n = true := by simp [isN, h1, h2]
  rw [rdE, if_neg (by rw [q]; simp; omega), if_neg (by omega)]
theorem rs_next {bs : List Int} {a : Int} (h : (rs bs a).e = 0) : 0 ≤ a ∧ a + 2 ≤ (rs bs a).n ∧ (rs bs a).n ≤ bs.length := by
  revert h
  unfold rs
  by_cases h0 : rdE bs a 2 = 0
  · have k := rdE_ok h0
    rw [if_neg (by simp [h0])]
    by_cases h1 : known (rdV bs a 2) = false
    · rw [if_pos h1]; intro h; simp at h
    · rw [if_neg h1]
      by_cases h2 : bare (rdV bs a 2) = true
      · rw [if_pos h2]; intro _; simp; omega
      · rw [if_neg h2]
        by_cases h3 : rdE bs (a + 2) 2 = 0
        · rw [if_neg (by simp [h3])]
          by_cases h4 : rdV bs (a + 2) 2 < 2
          · rw [if_pos h4]; intro h; simp at h
          · rw [if_neg h4]
            by_cases h5 : rdV bs (a + 2) 2 > bs.length - (a + 2)
            · rw [if_pos h5]; intro h; simp at h
            · rw [if_neg h5]; intro _; simp; omega
        · rw [if_pos h3]; intro h; exact absurd h h3
  · rw [if_pos h0]; intro h; exact absurd h h0
end Mk
end Go.Proofs.Ytpnnmibdboelpaa
