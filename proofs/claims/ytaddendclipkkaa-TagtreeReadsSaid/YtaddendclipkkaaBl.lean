/-
  What a writer wrote is read back.
-/
import Derived.Test.YtaddendclipkkaaBk
set_option maxRecDepth 100000
namespace Go.Proofs.Ytaddendclipkkaa
namespace Bi

/-- The place of a reader behind the first j bits. -/
def P (L : List Int) (j : Nat) : Nat := 8 * (st (L.take j)).1.length - (st (L.take j)).2
theorem high_step {x y b : Int} {f : Nat} (hf : f < 8) (hb : bit b) (hy : y % 2 ^ (f + 1) = 0) (h : y + b * 2 ^ f = x - x % 2 ^ f) : y = x - x % 2 ^ (f + 1) ∧ x / 2 ^ f % 2 = b := by
  rcases hb with rfl | rfl <;> rcases pow_lt f (by omega) with rfl | rfl | rfl | rfl | rfl | rfl | rfl | rfl | rfl <;> simp at * <;> omega
theorem back_step {bs s : List Int} {fr : Nat} {b : Int} (ho : Ok s fr) (hb : bit b) (hbs : bytes bs) (hp8 : fr ≤ 8 * s.length)
    (h : Cut bs (8 * (addB (s, fr) b).1.length - (addB (s, fr) b).2) (addB (s, fr) b).1 (addB (s, fr) b).2) :
    Cut bs (8 * s.length - fr) s fr ∧ gE bs (8 * s.length - fr) = 0 ∧ gR bs (8 * s.length - fr) = b ∧ gN bs (8 * s.length - fr) = 8 * (addB (s, fr) b).1.length - (addB (s, fr) b).2 := by
  by_cases h0 : fr = 0
  · subst h0
    simp only [addB, if_true] at h ⊢
    have hw := wd_cases s
    have hle := h.le
    rw [List.length_append, List.length_singleton] at hle
    have hat : ∀ i, i < s.length → s.getD i 0 = bs.getD i 0 := fun i hi => by
      have := h.at_ i (by simp; omega)
      rw [getD_app, if_pos hi, if_neg (by simp; omega)] at this
      exact this
    have hla := h.at_ s.length (by simp)
    rw [getD_app, if_neg (by omega), if_pos (by simp), Nat.sub_self] at hla
    simp only [List.getD_cons_zero] at hla
    have hC : Cut bs (8 * s.length - 0) s 0 := ⟨by omega, by omega, fun _ => rfl, fun i hi => by rw [hat i hi]; split <;> simp⟩
    have hx := byte_getD hbs s.length
    have hfull := hC.full
    have ht8 : (8 * s.length - 0) / 8 = s.length := by omega
    have htm : (8 * s.length - 0) % 8 = 0 := by omega
    have hS : gS bs (8 * s.length - 0) = true ↔ lst s = 255 := by
      simp only [gS, decide_eq_true_eq, htm, ht8]
      rw [← hfull]
      simp
    refine ⟨hC, ?_⟩
    by_cases hs : lst s = 255
    · have hS1 := hS.2 hs
      have hw7 : wd s = 7 := by simp [wd, hs]
      rw [hw7] at hla ⊢
      have e64 : (2 : Int) ^ (7 - 1) = 64 := by decide
      rw [e64] at hla
      have hE : gE bs (8 * s.length - 0) = 0 := by
        unfold gE
        rw [ht8, if_neg (by omega), if_neg]
        rintro ⟨_, h128⟩
        rcases hb with rfl | rfl <;> omega
      have hA : gA bs (8 * s.length - 0) = 8 * s.length - 0 + 1 := if_pos hS1
      refine ⟨hE, ?_, ?_⟩
      · rw [gR, if_pos hE, gV, hA, ht8, show 7 - (8 * s.length - 0 + 1) % 8 = 6 by omega]
        rw [show (2 : Int) ^ 6 = 64 by decide]
        rcases hb with rfl | rfl <;> omega
      · rw [gN, if_pos hE, hA]; simp; omega
    · have hS0 : gS bs (8 * s.length - 0) = false := by
        cases hc : gS bs (8 * s.length - 0) with
        | false => rfl
        | true => exact absurd (hS.1 hc) hs
      have hw8 : wd s = 8 := by simp [wd, hs]
      rw [hw8] at hla ⊢
      have e128 : (2 : Int) ^ (8 - 1) = 128 := by decide
      rw [e128] at hla
      have hE : gE bs (8 * s.length - 0) = 0 := by
        unfold gE
        rw [ht8, if_neg (by omega), hS0, if_neg (by simp)]
      have hA : gA bs (8 * s.length - 0) = 8 * s.length - 0 := by unfold gA; rw [hS0]; rfl
      refine ⟨hE, ?_, ?_⟩
      · rw [gR, if_pos hE, gV, hA, ht8, show 7 - (8 * s.length - 0) % 8 = 7 by omega]
        rw [show (2 : Int) ^ 7 = 128 by decide]
        rcases hb with rfl | rfl <;> omega
      · rw [gN, if_pos hE, hA]; simp; omega
  · have hne : s ≠ [] := fun e => h0 (ho.emp e)
    have hsl : 0 < s.length := List.length_pos_iff.2 hne
    obtain ⟨f, rfl⟩ : ∃ f, fr = f + 1 := ⟨fr - 1, by omega⟩
    have hf7 := ho.fr7
    simp only [addB, if_neg h0, Nat.add_sub_cancel] at h ⊢
    have hle := h.le
    rw [List.length_set] at hle
    have hla := h.at_ (s.length - 1) (by simp; omega)
    rw [getD_setl, if_pos (by omega), if_pos (by simp; omega)] at hla
    obtain ⟨y1, y2⟩ := high_step (by omega) hb ho.low hla
    have ht8 : (8 * s.length - (f + 1)) / 8 = s.length - 1 := by omega
    have htm : (8 * s.length - (f + 1)) % 8 = 7 - f := by omega
    have hS0 : gS bs (8 * s.length - (f + 1)) = false := by simp [gS]; omega
    have hA : gA bs (8 * s.length - (f + 1)) = 8 * s.length - (f + 1) := by unfold gA; rw [hS0]; rfl
    have hE : gE bs (8 * s.length - (f + 1)) = 0 := by
      unfold gE
      rw [ht8, if_neg (by omega), hS0, if_neg (by simp)]
    refine ⟨⟨by omega, hle, fun e => by omega, fun i hi => ?_⟩, hE, ?_, ?_⟩
    · by_cases hi2 : i + 1 = s.length
      · rw [if_pos hi2, show i = s.length - 1 by omega]
        exact y1
      · have := h.at_ i (by simpa using hi)
        rw [getD_setl, if_neg (by omega), if_neg (by simpa using hi2)] at this
        rw [if_neg hi2]
        exact this
    · rw [gR, if_pos hE, gV, hA, ht8, htm, show 7 - (7 - f) = f by omega]
      exact y2
    · rw [gN, if_pos hE, hA, List.length_set]; omega
theorem fr_le {l : List Int} (h : bits l) : (st l).2 ≤ 8 * (st l).1.length := by
  have ho := st_ok h
  have := ho.fr7
  rcases Nat.eq_zero_or_pos (st l).1.length with h0 | h0
  · have := ho.emp (List.length_eq_zero_iff.1 h0); omega
  · omega
/-- Bytes that begin with the encoding of some bits. -/
def Begins (bs L : List Int) : Prop := bytes bs ∧ ∃ m, bs = enc L ++ m
theorem begins_cut {bs L : List Int} (hL : bits L) (h : Begins bs L) : Cut bs (P L L.length) (st L).1 (st L).2 := by
  obtain ⟨_, m, rfl⟩ := h
  have ho := st_ok hL
  have hfl := fr_le hL
  unfold P
  rw [List.take_length]
  have hlen : (st L).1.length ≤ (enc L).length := by unfold enc fin; split <;> simp
  have hget : ∀ i, i < (st L).1.length → (enc L ++ m).getD i 0 = (st L).1.getD i 0 := fun i hi => by
    rw [getD_app, if_pos (by omega)]
    unfold enc fin
    split
    · rw [getD_app, if_pos hi]
    · rfl
  refine ⟨by omega, by rw [List.length_append]; omega, fun e => ho.emp (List.length_eq_zero_iff.1 e), fun i hi => ?_⟩
  rw [hget i hi]
  split
  · rename_i h2
    have e : (st L).1.getD i 0 = lst (st L).1 := by unfold lst; congr 1; omega
    rw [e, ho.low]; simp
  · rfl
theorem read_at {bs L : List Int} (hL : bits L) (h : Begins bs L) : ∀ d j : Nat, j + d = L.length → Cut bs (P L j) (st (L.take j)).1 (st (L.take j)).2
  | 0, j, hj => by
    obtain rfl : j = L.length := by omega
    have := begins_cut hL h
    rwa [List.take_length]
  | d + 1, j, hj => by
    have ih := read_at hL h d (j + 1) (by omega)
    unfold P at ih ⊢
    rw [List.take_succ_eq_append_getElem (by omega), st_snoc] at ih
    exact (back_step (st_ok (bits_take hL j)) (hL _ (List.getElem_mem _)) h.1 (fr_le (bits_take hL j)) ih).1
theorem get_at {bs L : List Int} (hL : bits L) (h : Begins bs L) {j : Nat} (hj : j < L.length) : gE bs (P L j) = 0 ∧ gR bs (P L j) = L[j] ∧ gN bs (P L j) = P L (j + 1) := by
  have ih := read_at hL h (L.length - (j + 1)) (j + 1) (by omega)
  unfold P at ih ⊢
  rw [List.take_succ_eq_append_getElem hj, st_snoc] at ih ⊢
  exact (back_step (st_ok (bits_take hL j)) (hL _ (List.getElem_mem _)) h.1 (fr_le (bits_take hL j)) ih).2
theorem rdg_list {bs L : List Int} (hL : bits L) (h : Begins bs L) : ∀ (M A C : List Int) (v : Int), L = A ++ M ++ C → rdg bs M.length (P L A.length) v = (M.foldl (fun v b => 2 * v + b) v, 0, P L (A.length + M.length))
  | [], A, C, v, _ => rfl
  | b :: M, A, C, v, e => by
    have hj : A.length < L.length := by rw [e]; simp
    obtain ⟨g1, g2, g3⟩ := get_at hL h hj
    have hb : L[A.length] = b := by simp [e]
    rw [List.length_cons, rdg, if_pos g1, g3, g2, hb, List.foldl_cons]
    have := rdg_list hL h M (A ++ [b]) C (2 * v + b) (by rw [e]; simp)
    rw [List.length_append, List.length_singleton] at this
    rw [this, show A.length + 1 + M.length = A.length + (M.length + 1) by omega]
theorem rrun_list {bs L : List Int} (hL : bits L) (h : Begins bs L) {q p : Int} (hpq : p ≠ q) : ∀ (r : Nat) (A C : List Int) (m k : Nat), L = A ++ (List.replicate r q ++ [p]) ++ C → r < m → rrun bs q m k (P L A.length) = (((k + r : Nat) : Int), 0, P L (A.length + r + 1))
  | 0, A, C, m + 1, k, e, _ => by
    have hj : A.length < L.length := by rw [e]; simp
    obtain ⟨g1, g2, g3⟩ := get_at hL h hj
    have hb : L[A.length] = p := by simp [e]
    rw [rrun, if_pos g1, g2, hb, if_neg hpq, g3]
    rfl
  | r + 1, A, C, m + 1, k, e, hm => by
    have hj : A.length < L.length := by rw [e]; simp; omega
    obtain ⟨g1, g2, g3⟩ := get_at hL h hj
    have hb : L[A.length] = q := by simp [e, List.replicate_succ]
    rw [rrun, if_pos g1, g2, hb, if_pos rfl, g3]
    have := rrun_list hL h hpq r (A ++ [q]) C m (k + 1) (by rw [e, List.replicate_succ]; simp) (by omega)
    rw [List.length_append, List.length_singleton] at this
    rw [this, show A.length + 1 + r + 1 = A.length + (r + 1) + 1 by omega, show k + 1 + r = k + (r + 1) by omega]
theorem dig_cons (x : Int) (n : Nat) : dig x (n + 1) = x / 2 ^ n % 2 :: dig x n := by
  refine List.ext_getElem (by simp [dig_len]) fun j h1 h2 => ?_
  cases j with
  | zero => simp [dig]
  | succ j =>
    simp only [dig, List.getElem_map, List.getElem_range, List.getElem_cons_succ]
    congr 3
    omega
theorem dig_fold (x : Nat) : ∀ (n : Nat) (v : Int), (dig x n).foldl (fun v b => 2 * v + b) v = v * 2 ^ n + ((x % 2 ^ n : Nat) : Int)
  | 0, v => by simp [dig, Nat.mod_one]
  | n + 1, v => by
    rw [dig_cons, List.foldl_cons, dig_fold x n, Nat.pow_succ, Nat.mod_mul]
    have e : ((x : Int) / 2 ^ n % 2) = ((x / 2 ^ n % 2 : Nat) : Int) := by
      have e2 : (2 : Int) ^ n = ((2 ^ n : Nat) : Int) := by simp
      rw [e2]; omega
    rw [e, Int.pow_succ]
    have e3 : ((x % 2 ^ n + 2 ^ n * (x / 2 ^ n % 2) : Nat) : Int) = ((x % 2 ^ n : Nat) : Int) + 2 ^ n * ((x / 2 ^ n % 2 : Nat) : Int) := by simp
    rw [e3]
    generalize ((x / 2 ^ n % 2 : Nat) : Int) = b
    generalize ((x % 2 ^ n : Nat) : Int) = c
    generalize (2 : Int) ^ n = p
    rw [Int.add_mul, Int.mul_comm 2 v, Int.mul_assoc, Int.mul_comm 2 p, Int.mul_comm b p]
    omega
theorem rdg_dig {bs L : List Int} (hL : bits L) (h : Begins bs L) (A C : List Int) (x n : Nat) (v : Int) (e : L = A ++ dig x n ++ C) : rdg bs n (P L A.length) v = (v * 2 ^ n + ((x % 2 ^ n : Nat) : Int), 0, P L (A.length + n)) := by
  have := rdg_list hL h (dig x n) A C v e
  rwa [dig_len, dig_fold] at this
theorem rgam_at {bs L : List Int} (hL : bits L) (h : Begins bs L) (A C : List Int) (x K : Nat) (hK : 1 ≤ K) (hK2 : K ≤ 32) (h1 : 2 ^ (K - 1) ≤ x) (h2 : x < 2 ^ K) (e : L = A ++ (List.replicate (K - 1) 0 ++ dig x K) ++ C) :
    rgam bs (P L A.length) = ((x : Int), 0, P L (A.length + (2 * K - 1))) := by
  obtain ⟨k, rfl⟩ : ∃ k, K = k + 1 := ⟨K - 1, by omega⟩
  rw [Nat.add_sub_cancel] at h1 e
  have hone : (x : Int) / 2 ^ k % 2 = 1 := by
    have e2 : (2 : Int) ^ k = ((2 ^ k : Nat) : Int) := by simp
    have e4 : x / 2 ^ k = 1 := by
      rw [Nat.pow_succ] at h2
      exact Nat.div_eq_of_lt_le (by omega) (by omega)
    rw [e2]; omega
  rw [dig_cons, hone] at e
  have e1 : L = A ++ (List.replicate k 0 ++ [1]) ++ (dig x k ++ C) := by rw [e]; simp
  have hr := rrun_list hL h (q := 0) (p := 1) (by decide) k A (dig x k ++ C) 32 0 e1 (by omega)
  have e2 : L = (A ++ (List.replicate k 0 ++ [1])) ++ dig x k ++ C := by rw [e]; simp
  have hd := rdg_dig hL h (A ++ (List.replicate k 0 ++ [1])) C x k 1 e2
  have el : (A ++ (List.replicate k (0 : Int) ++ [1])).length = A.length + k + 1 := by simp; omega
  rw [el] at hd
  unfold rgam
  rw [hr]
  simp only [if_true, Nat.zero_add, Int.toNat_natCast]
  rw [hd, show A.length + k + 1 + k = A.length + (2 * (k + 1) - 1) by omega]
  congr 1
  rw [Int.one_mul]
  have e5 : x % 2 ^ k = x - 2 ^ k := by
    rw [Nat.mod_eq_sub_mod h1]
    rw [Nat.pow_succ] at h2
    exact Nat.mod_eq_of_lt (by omega)
  have e6 : (2 : Int) ^ k = ((2 ^ k : Nat) : Int) := by simp
  rw [e5, e6]
  omega
/-- Behind all bits Align gives the number of the bytes, and a second time. -/
theorem lst_enc (L : List Int) : lst (enc L) ≠ 255 := by
  unfold enc fin
  split
  · rw [lst_snoc]; decide
  · assumption
theorem align_at {bs L : List Int} (hL : bits L) (h : Begins bs L) : alR bs (P L L.length) = (((enc L).length : Int), 0, 8 * (enc L).length) ∧ alR bs (8 * (enc L).length) = (((enc L).length : Int), 0, 8 * (enc L).length) := by
  obtain ⟨_, m, rfl⟩ := h
  have ho := st_ok hL
  have hfl := fr_le hL
  have hle := lst_enc L
  constructor
  · unfold P alR
    rw [List.take_length]
    by_cases h0 : (st L).2 = 0
    · rw [h0]
      have e1 : (8 * (st L).1.length - 0) % 8 = 0 := by omega
      have e2 : (8 * (st L).1.length - 0) / 8 = (st L).1.length := by omega
      rw [if_pos e1, e2]
      have e3 : (enc L ++ m).take (st L).1.length = (st L).1 := by unfold enc fin; split <;> simp
      rw [e3]
      by_cases hl : lst (st L).1 = 255
      · have e4 : enc L = (st L).1 ++ [0] := by rw [enc, fin, if_pos hl]
        rw [if_pos hl, e4, if_neg (by simp)]
        have e5 : ((st L).1 ++ [0] ++ m).getD (st L).1.length 0 = 0 := by simp [List.getD_eq_getElem?_getD]
        rw [if_pos e5]
        simp
      · have e4 : enc L = (st L).1 := by rw [enc, fin, if_neg hl]
        rw [if_neg hl, e4]
        simp
    · have hne : (st L).1 ≠ [] := fun e => h0 (ho.emp e)
      have hsl : 0 < (st L).1.length := List.length_pos_iff.2 hne
      have hf7 := ho.fr7
      have hlow := ho.low
      have hl : lst (st L).1 ≠ 255 := by
        intro e
        rw [e] at hlow
        have h9 : (st L).2 = 1 ∨ (st L).2 = 2 ∨ (st L).2 = 3 ∨ (st L).2 = 4 ∨ (st L).2 = 5 ∨ (st L).2 = 6 ∨ (st L).2 = 7 := by omega
        rcases h9 with h | h | h | h | h | h | h <;> rw [h] at hlow <;> revert hlow <;> decide
      have e4 : enc L = (st L).1 := by rw [enc, fin, if_neg hl]
      rw [e4]
      rw [if_neg (by omega), show (8 * (st L).1.length - (st L).2) / 8 = (st L).1.length - 1 by omega, show 8 - (8 * (st L).1.length - (st L).2) % 8 = (st L).2 by omega]
      have e5 : ((st L).1 ++ m).getD ((st L).1.length - 1) 0 = lst (st L).1 := by rw [getD_app, if_pos (by omega)]; rfl
      rw [e5, if_pos hlow, show (st L).1.length - 1 + 1 = (st L).1.length by omega]
  · unfold alR
    rw [if_pos (by omega), show 8 * (enc L).length / 8 = (enc L).length by omega]
    have e3 : (enc L ++ m).take (enc L).length = enc L := by simp
    rw [e3, if_neg hle]
end Bi
end Go.Proofs.Ytaddendclipkkaa
