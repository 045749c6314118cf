/-
  The plain mathematics of layers 3 and 4: reflected indices, samples at even and at odd indices, lifting steps. No program in sight.
-/
import Derived.RowKit
import Derived.IntWalk
set_option maxRecDepth 100000
namespace Go.Proofs.Ytnfnidgabgdphaa.Ex

/-! Reflected indices -/
/-- The index of the symmetric extension. -/
def mirI (i lo hi : Int) : Int :=
  if hi - lo = 1 then lo else if (i - lo) % (2 * (hi - lo - 1)) < hi - lo then lo + (i - lo) % (2 * (hi - lo - 1)) else lo + 2 * (hi - lo - 1) - (i - lo) % (2 * (hi - lo - 1))
theorem emod_is {a p r t : Int} (h0 : 0 ≤ r) (h1 : r < p) (h : a = r + p * t) : a % p = r := by
  rw [h, Int.add_mul_emod_self_left, Int.emod_eq_of_lt h0 h1]
theorem emod_parts {a p : Int} (hp : 0 < p) : ∃ q, a = a % p + p * q ∧ 0 ≤ a % p ∧ a % p < p :=
  ⟨a / p, by have := Int.emod_add_mul_ediv a p; omega, Int.emod_nonneg _ (by omega), Int.emod_lt_of_pos _ hp⟩
theorem mir_mem {i lo hi : Int} (h : lo < hi) : lo ≤ mirI i lo hi ∧ mirI i lo hi < hi := by
  unfold mirI
  by_cases h1 : hi - lo = 1
  · rw [if_pos h1]; omega
  · rw [if_neg h1]
    obtain ⟨q, _, h2, h3⟩ := emod_parts (a := i - lo) (p := 2 * (hi - lo - 1)) (by omega)
    generalize (i - lo) % (2 * (hi - lo - 1)) = m at *
    by_cases h4 : m < hi - lo
    · rw [if_pos h4]; omega
    · rw [if_neg h4]; omega
theorem mir_id {i lo hi : Int} (h0 : lo ≤ i) (h1 : i < hi) : mirI i lo hi = i := by
  unfold mirI
  by_cases h2 : hi - lo = 1
  · rw [if_pos h2]; omega
  · rw [if_neg h2, Int.emod_eq_of_lt (by omega) (by omega), if_pos (by omega)]
    omega
/-- The value by the remainder. -/
theorem mir_of {i lo hi m q : Int} (h2 : 2 ≤ hi - lo) (h0 : 0 ≤ m) (h1 : m < 2 * (hi - lo - 1)) (h : i - lo = m + 2 * (hi - lo - 1) * q) : mirI i lo hi = if m < hi - lo then lo + m else lo + 2 * (hi - lo - 1) - m := by
  unfold mirI
  rw [if_neg (by omega), emod_is h0 h1 h]
theorem mir_left {i lo hi : Int} (h : lo < hi) : mirI (2 * lo - i) lo hi = mirI i lo hi := by
  by_cases h1 : hi - lo = 1
  · unfold mirI; rw [if_pos h1, if_pos h1]
  · obtain ⟨q, hq, h2, h3⟩ := emod_parts (a := i - lo) (p := 2 * (hi - lo - 1)) (by omega)
    generalize (i - lo) % (2 * (hi - lo - 1)) = m at *
    rw [mir_of (i := i) (by omega) h2 h3 hq]
    by_cases h4 : m = 0
    · rw [mir_of (m := 0) (q := -q) (by omega) (by omega) (by omega) (by rw [Int.mul_neg]; omega), if_pos (by omega), if_pos (by omega)]
      omega
    · rw [mir_of (m := 2 * (hi - lo - 1) - m) (q := -q - 1) (by omega) (by omega) (by omega) (by rw [show 2 * (hi - lo - 1) * (-q - 1) = -(2 * (hi - lo - 1) * q) - 2 * (hi - lo - 1) by rw [Int.mul_sub (2 * (hi - lo - 1)), Int.mul_neg, Int.mul_one]]; omega)]
      split <;> split <;> omega
theorem mir_right {i lo hi : Int} (h : lo < hi) : mirI (2 * (hi - 1) - i) lo hi = mirI i lo hi := by
  by_cases h1 : hi - lo = 1
  · unfold mirI; rw [if_pos h1, if_pos h1]
  · obtain ⟨q, hq, h2, h3⟩ := emod_parts (a := i - lo) (p := 2 * (hi - lo - 1)) (by omega)
    generalize (i - lo) % (2 * (hi - lo - 1)) = m at *
    rw [mir_of (i := i) (by omega) h2 h3 hq]
    by_cases h4 : m = 0
    · rw [mir_of (m := 0) (q := 1 - q) (by omega) (by omega) (by omega) (by rw [show 2 * (hi - lo - 1) * (1 - q) = 2 * (hi - lo - 1) - 2 * (hi - lo - 1) * q by rw [Int.mul_sub (2 * (hi - lo - 1)), Int.mul_one]]; omega), if_pos (by omega), if_pos (by omega)]
      omega
    · rw [mir_of (m := 2 * (hi - lo - 1) - m) (q := -q) (by omega) (by omega) (by omega) (by rw [Int.mul_neg]; omega)]
      split <;> split <;> omega
theorem mir_par {i lo hi : Int} (h : 2 ≤ hi - lo) : (i - mirI i lo hi) % 2 = 0 := by
  obtain ⟨q, hq, h2, h3⟩ := emod_parts (a := i - lo) (p := 2 * (hi - lo - 1)) (by omega)
  generalize (i - lo) % (2 * (hi - lo - 1)) = m at *
  rw [mir_of (i := i) (by omega) h2 h3 hq, Int.mul_assoc] at *
  generalize (hi - lo - 1) * q = z at *
  split <;> omega
/-- Shifted. -/
theorem mir_shift (i lo hi t : Int) : mirI (i + t) (lo + t) (hi + t) = mirI i lo hi + t := by
  unfold mirI
  rw [show hi + t - (lo + t) = hi - lo by omega, show i + t - (lo + t) = i - lo by omega]
  split
  · rfl
  · split <;> omega
/-- One step further moves the reflected index by at most one. -/
theorem mir_step {i lo hi : Int} (h : lo < hi) : mirI (i + 1) lo hi - mirI i lo hi ≤ 1 ∧ mirI i lo hi - mirI (i + 1) lo hi ≤ 1 := by
  by_cases h1 : hi - lo = 1
  · unfold mirI; rw [if_pos h1, if_pos h1]; omega
  · obtain ⟨q, hq, h2, h3⟩ := emod_parts (a := i - lo) (p := 2 * (hi - lo - 1)) (by omega)
    generalize (i - lo) % (2 * (hi - lo - 1)) = m at *
    rw [mir_of (i := i) (by omega) h2 h3 hq]
    by_cases h4 : m + 1 = 2 * (hi - lo - 1)
    · rw [mir_of (m := 0) (q := q + 1) (by omega) (by omega) (by omega) (by rw [Int.mul_add, Int.mul_one]; omega), if_pos (by omega)]
      split <;> omega
    · rw [mir_of (m := m + 1) (q := q) (by omega) (by omega) (by omega) (by omega)]
      split <;> split <;> omega
theorem mir_near {i lo hi : Int} (h0 : lo ≤ i) (h1 : i < hi) (d : Nat) : (mirI (i + d) lo hi - i ≤ d ∧ i - mirI (i + d) lo hi ≤ d) ∧ (mirI (i - d) lo hi - i ≤ d ∧ i - mirI (i - d) lo hi ≤ d) := by
  induction d with
  | zero =>
    rw [show i + ((0 : Nat) : Int) = i by omega, show i - ((0 : Nat) : Int) = i by omega, mir_id h0 h1]
    omega
  | succ d ih =>
    have e1 := mir_step (i := i + d) (show lo < hi by omega)
    have e2 := mir_step (i := i - ((d + 1 : Nat) : Int)) (show lo < hi by omega)
    rw [show i - ((d + 1 : Nat) : Int) + 1 = i - d by omega] at e2
    rw [show i + ((d + 1 : Nat) : Int) = i + d + 1 by omega]
    omega

/-! Signals: lists whose first sample stands at an index -/
def sg (s : Int) (x : List Int) (i : Int) : Int := x.getD (i - s).toNat 0
def tb (s : Int) (n : Nat) (f : Int → Int) : List Int := (List.range n).map fun j : Nat => f (s + (j : Int))
theorem tb_len (s : Int) (n : Nat) (f : Int → Int) : (tb s n f).length = n := by simp [tb]
theorem sg_at {s : Int} {x : List Int} {j : Nat} (hj : j < x.length) : sg s x (s + (j : Int)) = x[j] := by
  rw [sg, show (s + (j : Int) - s).toNat = j by omega]
  simp [hj]
theorem tb_at {s : Int} {n : Nat} {f : Int → Int} {j : Nat} (hj : j < (tb s n f).length) : (tb s n f)[j] = f (s + (j : Int)) := by simp [tb]
theorem sg_tb {s : Int} {n : Nat} {f : Int → Int} {i : Int} (h0 : s ≤ i) (h1 : i < s + n) : sg s (tb s n f) i = f i := by
  obtain ⟨j, rfl⟩ : ∃ j : Nat, i = s + (j : Int) := ⟨(i - s).toNat, by omega⟩
  rw [sg_at (by rw [tb_len]; omega), tb_at]
theorem sig_ext {s : Int} {x y : List Int} (hl : x.length = y.length) (h : ∀ i, s ≤ i → i < s + x.length → sg s x i = sg s y i) : x = y := by
  refine List.ext_getElem hl fun j h1 h2 => ?_
  rw [← sg_at (s := s) h1, ← sg_at (s := s) h2]
  exact h _ (by omega) (by omega)
theorem tb_self (s : Int) (x : List Int) : tb s x.length (sg s x) = x :=
  sig_ext (s := s) (by rw [tb_len]) fun i h0 h1 => by rw [tb_len] at h1; exact sg_tb h0 h1
theorem tb_congr {s : Int} {n : Nat} {f g : Int → Int} (h : ∀ i, s ≤ i → i < s + n → f i = g i) : tb s n f = tb s n g :=
  sig_ext (s := s) (by rw [tb_len, tb_len]) fun i h0 h1 => by rw [tb_len] at h1; rw [sg_tb h0 h1, sg_tb h0 h1, h i h0 h1]
theorem tb_next (s : Int) (k : Nat) (f : Int → Int) : tb s (k + 1) f = tb s k f ++ [f (s + (k : Int))] := by simp [tb, List.range_succ]
theorem tb_take {s : Int} {n k : Nat} {f : Int → Int} (h : k ≤ n) : (tb s n f).take k = tb s k f := by
  simp only [tb, ← List.map_take, List.take_range]
  rw [Nat.min_eq_left h]
/-- The sample of the symmetric extension. -/
def ex (s : Int) (x : List Int) (i : Int) : Int := sg s x (mirI i s (s + x.length))
theorem ex_in {s : Int} {x : List Int} {i : Int} (h0 : s ≤ i) (h1 : i < s + x.length) : ex s x i = sg s x i := by rw [ex, mir_id h0 h1]

/-! Even and odd -/
def cntE (s : Int) (k : Nat) : Nat := ((s + k + 1) / 2 - (s + 1) / 2).toNat
def cntO (s : Int) (k : Nat) : Nat := k - cntE s k
theorem cnt_next {s : Int} {k : Nat} : (cntE s (k + 1) = cntE s k + (if (s + (k : Int)) % 2 = 0 then 1 else 0)) ∧ (cntO s (k + 1) = cntO s k + (if (s + (k : Int)) % 2 = 0 then 0 else 1)) ∧ cntE s k ≤ k ∧ cntE s k + cntO s k = k := by
  unfold cntO cntE
  by_cases h : (s + (k : Int)) % 2 = 0
  · rw [if_pos h, if_pos h]; omega
  · rw [if_neg h, if_neg h]; omega
/-- The samples at even indices, at odd ones. -/
def splitE (s : Int) : List Int → List Int
  | [] => []
  | v :: x => if s % 2 = 0 then v :: splitE (s + 1) x else splitE (s + 1) x
def splitO (s : Int) : List Int → List Int
  | [] => []
  | v :: x => if s % 2 = 0 then splitO (s + 1) x else v :: splitO (s + 1) x
theorem splitE_snoc (x : List Int) (v : Int) : ∀ s : Int, splitE s (x ++ [v]) = splitE s x ++ (if (s + (x.length : Int)) % 2 = 0 then [v] else []) := by
  induction x with
  | nil => intro s; simp [splitE]
  | cons z x ih =>
    intro s
    rw [List.cons_append, splitE, splitE, ih, List.length_cons, show s + 1 + (x.length : Int) = s + ((x.length + 1 : Nat) : Int) by omega]
    split <;> simp
theorem splitO_snoc (x : List Int) (v : Int) : ∀ s : Int, splitO s (x ++ [v]) = splitO s x ++ (if (s + (x.length : Int)) % 2 = 0 then [] else [v]) := by
  induction x with
  | nil => intro s; simp [splitO]
  | cons z x ih =>
    intro s
    rw [List.cons_append, splitO, splitO, ih, List.length_cons, show s + 1 + (x.length : Int) = s + ((x.length + 1 : Nat) : Int) by omega]
    split <;> simp
theorem split_take_next {s : Int} {x : List Int} {k : Nat} (hk : k < x.length) :
    splitE s (x.take (k + 1)) = splitE s (x.take k) ++ (if (s + (k : Int)) % 2 = 0 then [x[k]] else []) ∧ splitO s (x.take (k + 1)) = splitO s (x.take k) ++ (if (s + (k : Int)) % 2 = 0 then [] else [x[k]]) := by
  rw [List.take_succ_eq_append_getElem hk, splitE_snoc, splitO_snoc, List.length_take, Nat.min_eq_left (by omega)]
  exact ⟨rfl, rfl⟩
theorem split_len (s : Int) (x : List Int) : ∀ k, k ≤ x.length → (splitE s (x.take k)).length = cntE s k ∧ (splitO s (x.take k)).length = cntO s k := by
  intro k
  induction k with
  | zero => intro _; simp [splitE, splitO, cntE, cntO]
  | succ k ih =>
    intro hk
    obtain ⟨h1, h2⟩ := ih (by omega)
    obtain ⟨h3, h4⟩ := split_take_next (s := s) (x := x) (k := k) (by omega)
    obtain ⟨c1, c2, _, _⟩ := cnt_next (s := s) (k := k)
    rw [h3, h4, List.length_append, List.length_append, h1, h2, c1, c2]
    split <;> simp
theorem splitE_len (s : Int) (x : List Int) : (splitE s x).length = cntE s x.length := by
  have := (split_len s x x.length (Nat.le_refl _)).1
  rwa [List.take_length] at this
theorem splitO_len (s : Int) (x : List Int) : (splitO s x).length = cntO s x.length := by
  have := (split_len s x x.length (Nat.le_refl _)).2
  rwa [List.take_length] at this
/-- Where a sample stands in its part. -/
theorem split_get {s : Int} {x : List Int} {j : Nat} (hj : j < x.length) :
    ((s + (j : Int)) % 2 = 0 → (splitE s x)[cntE s j]? = some x[j]) ∧ ((s + (j : Int)) % 2 ≠ 0 → (splitO s x)[cntO s j]? = some x[j]) := by
  have key : ∀ k, j < k → k ≤ x.length → ((s + (j : Int)) % 2 = 0 → (splitE s (x.take k))[cntE s j]? = some x[j]) ∧ ((s + (j : Int)) % 2 ≠ 0 → (splitO s (x.take k))[cntO s j]? = some x[j]) := by
    intro k
    induction k with
    | zero => intro h; omega
    | succ k ih =>
      intro h1 h2
      obtain ⟨h3, h4⟩ := split_take_next (s := s) (x := x) (k := k) (by omega)
      obtain ⟨l1, l2⟩ := split_len s x k (by omega)
      by_cases hjk : j = k
      · subst hjk
        refine ⟨fun hp => ?_, fun hp => ?_⟩
        · rw [h3, if_pos hp, List.getElem?_append_right (by omega), l1]; simp
        · rw [h4, if_neg hp, List.getElem?_append_right (by omega), l2]; simp
      · obtain ⟨i1, i2⟩ := ih (by omega) (by omega)
        refine ⟨fun hp => ?_, fun hp => ?_⟩
        · have := i1 hp
          rw [h3, List.getElem?_append_left (List.getElem?_eq_some_iff.1 this).1, this]
        · have := i2 hp
          rw [h4, List.getElem?_append_left (List.getElem?_eq_some_iff.1 this).1, this]
  have := key x.length hj (Nat.le_refl _)
  rwa [List.take_length] at this
/-- The signal of two parts. -/
def joinL (s : Int) (e o : List Int) : List Int :=
  (List.range (e.length + o.length)).map fun j : Nat => if (s + (j : Int)) % 2 = 0 then e.getD (cntE s j) 0 else o.getD (cntO s j) 0
theorem joinL_len (s : Int) (e o : List Int) : (joinL s e o).length = e.length + o.length := by simp [joinL]
theorem join_split (s : Int) (x : List Int) : joinL s (splitE s x) (splitO s x) = x := by
  have hc := (cnt_next (s := s) (k := x.length)).2.2.2
  have hl : (joinL s (splitE s x) (splitO s x)).length = x.length := by rw [joinL_len, splitE_len, splitO_len]; exact hc
  refine List.ext_getElem hl fun j h1 h2 => ?_
  obtain ⟨g1, g2⟩ := split_get (s := s) h2
  simp only [joinL, List.getElem_map, List.getElem_range]
  by_cases hp : (s + (j : Int)) % 2 = 0
  · rw [if_pos hp, List.getD_eq_getElem?_getD, g1 hp]; rfl
  · rw [if_neg hp, List.getD_eq_getElem?_getD, g2 hp]; rfl
/-- Parts of the right numbers come back. -/
theorem cnt_lt {s : Int} {n j : Nat} (hj : j < n) : ((s + (j : Int)) % 2 = 0 → cntE s j < cntE s n) ∧ ((s + (j : Int)) % 2 ≠ 0 → cntO s j < cntO s n) := by
  unfold cntO cntE
  omega
theorem cnt_ex {s : Int} {n k : Nat} : (k < cntE s n → ∃ j : Nat, j < n ∧ (s + (j : Int)) % 2 = 0 ∧ cntE s j = k) ∧ (k < cntO s n → ∃ j : Nat, j < n ∧ (s + (j : Int)) % 2 ≠ 0 ∧ cntO s j = k) := by
  unfold cntO cntE
  by_cases hs : s % 2 = 0
  · exact ⟨fun h => ⟨2 * k, by omega, by omega, by omega⟩, fun h => ⟨2 * k + 1, by omega, by omega, by omega⟩⟩
  · exact ⟨fun h => ⟨2 * k + 1, by omega, by omega, by omega⟩, fun h => ⟨2 * k, by omega, by omega, by omega⟩⟩
theorem split_join {s : Int} {e o : List Int} (he : e.length = cntE s (e.length + o.length)) (ho : o.length = cntO s (e.length + o.length)) : splitE s (joinL s e o) = e ∧ splitO s (joinL s e o) = o := by
  have le := splitE_len s (joinL s e o)
  have lo := splitO_len s (joinL s e o)
  rw [joinL_len] at le lo
  refine ⟨List.ext_getElem (by omega) fun k h1 h2 => ?_, List.ext_getElem (by omega) fun k h1 h2 => ?_⟩
  · obtain ⟨j, hj, hp, hk⟩ := (cnt_ex (s := s) (n := e.length + o.length) (k := k)).1 (by omega)
    have g := (split_get (s := s) (x := joinL s e o) (j := j) (by rw [joinL_len]; exact hj)).1 hp
    rw [hk, List.getElem?_eq_getElem h1] at g
    rw [Option.some.inj g]
    simp only [joinL, List.getElem_map, List.getElem_range]
    rw [if_pos hp, hk]
    simp [h2]
  · obtain ⟨j, hj, hp, hk⟩ := (cnt_ex (s := s) (n := e.length + o.length) (k := k)).2 (by omega)
    have g := (split_get (s := s) (x := joinL s e o) (j := j) (by rw [joinL_len]; exact hj)).2 hp
    rw [hk, List.getElem?_eq_getElem h1] at g
    rw [Option.some.inj g]
    simp only [joinL, List.getElem_map, List.getElem_range]
    rw [if_neg hp, hk]
    simp [h2]
theorem splitE_mem {s : Int} {x : List Int} {v : Int} (h : v ∈ splitE s x) : ∃ j, ∃ hj : j < x.length, (s + (j : Int)) % 2 = 0 ∧ v = x[j] := by
  obtain ⟨k, hk, rfl⟩ := List.getElem_of_mem h
  obtain ⟨j, hj, hp, e⟩ := (cnt_ex (s := s) (n := x.length) (k := k)).1 (by rw [← splitE_len]; exact hk)
  have g := (split_get (s := s) hj).1 hp
  rw [e, List.getElem?_eq_getElem hk] at g
  exact ⟨j, hj, hp, Option.some.inj g⟩
theorem splitO_mem {s : Int} {x : List Int} {v : Int} (h : v ∈ splitO s x) : ∃ j, ∃ hj : j < x.length, (s + (j : Int)) % 2 ≠ 0 ∧ v = x[j] := by
  obtain ⟨k, hk, rfl⟩ := List.getElem_of_mem h
  obtain ⟨j, hj, hp, e⟩ := (cnt_ex (s := s) (n := x.length) (k := k)).2 (by rw [← splitO_len]; exact hk)
  have g := (split_get (s := s) hj).2 hp
  rw [e, List.getElem?_eq_getElem hk] at g
  exact ⟨j, hj, hp, Option.some.inj g⟩
end Go.Proofs.Ytnfnidgabgdphaa.Ex
