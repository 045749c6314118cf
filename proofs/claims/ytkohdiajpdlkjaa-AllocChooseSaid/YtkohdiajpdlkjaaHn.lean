/-
  Layer 20: the mathematics of the hull and of its prices.
-/
import Derived.Test.YtkohdiajpdlkjaaHm
set_option maxRecDepth 100000
namespace Go.Proofs.Ytkohdiajpdlkjaa

def pts (R D : List Int) : Nat → Nat → List Nat
  | 0, i => [i]
  | f + 1, i => if nxt R D i = i then [i] else i :: pts R D f (nxt R D i)
def hull (R D : List Int) : List Nat := pts R D D.length 0
def Ch (R D : List Int) : List Nat → Prop
  | [] => True
  | [p] => nxt R D p = p
  | p :: q :: t => q = nxt R D p ∧ q ≠ p ∧ Ch R D (q :: t)
theorem pts_head (R D : List Int) (f i : Nat) : ∃ t, pts R D f i = i :: t := by
  cases f with
  | zero => exact ⟨_, rfl⟩
  | succ f =>
    unfold pts
    by_cases h : nxt R D i = i
    · rw [if_pos h]; exact ⟨_, rfl⟩
    · rw [if_neg h]; exact ⟨_, rfl⟩
theorem pts_ch (R D : List Int) (f i : Nat) (hi : i < D.length) (hf : D.length ≤ i + f + 1) : Ch R D (pts R D f i) := by
  induction f generalizing i with
  | zero =>
    show nxt R D i = i
    rcases nxt_in R D i with h | h
    · exact h
    · omega
  | succ f ih =>
    unfold pts
    by_cases h : nxt R D i = i
    · rw [if_pos h]; exact h
    · rw [if_neg h]
      have hn := (nxt_in R D i).resolve_left h
      have := ih (nxt R D i) hn.2.1 (by omega)
      obtain ⟨t, ht⟩ := pts_head R D f (nxt R D i)
      rw [ht] at this ⊢
      exact ⟨rfl, h, this⟩
theorem ch_at {R D : List Int} (P : List Nat) (h : Ch R D P) (i : Nat) (hi : i + 1 < P.length) : P.getD (i + 1) 0 = nxt R D (P.getD i 0) ∧ P.getD (i + 1) 0 ≠ P.getD i 0 := by
  induction P generalizing i with
  | nil => simp at hi
  | cons p t ih =>
    cases t with
    | nil => simp at hi
    | cons q t =>
      obtain ⟨h1, h2, h3⟩ := h
      cases i with
      | zero => simpa using ⟨h1, h2⟩
      | succ i =>
        have := ih h3 i (by simp at hi ⊢; omega)
        simpa using this
theorem ch_last {R D : List Int} (P : List Nat) (h : Ch R D P) (hn : 1 ≤ P.length) : nxt R D (P.getD (P.length - 1) 0) = P.getD (P.length - 1) 0 := by
  induction P with
  | nil => simp at hn
  | cons p t ih =>
    cases t with
    | nil => exact h
    | cons q t =>
      have := ih h.2.2 (by simp)
      simpa using this
section
variable {R D : List Int}
theorem hull_ch (h : VP R D) : Ch R D (hull R D) := pts_ch R D _ _ (by have := h.1; have := h.2.1; omega) (by omega)
theorem hull_pos (R D : List Int) : 1 ≤ (hull R D).length ∧ (hull R D).getD 0 0 = 0 := by
  obtain ⟨t, ht⟩ := pts_head R D D.length 0
  unfold hull
  rw [ht]
  exact ⟨by simp, rfl⟩
theorem hull_step (h : VP R D) {i : Nat} (hi : i + 1 < (hull R D).length) :
    (hull R D).getD (i + 1) 0 = nxt R D ((hull R D).getD i 0) ∧ (hull R D).getD i 0 < (hull R D).getD (i + 1) 0 ∧ (hull R D).getD (i + 1) 0 < D.length ∧ D.getD ((hull R D).getD (i + 1) 0) 0 < D.getD ((hull R D).getD i 0) 0 := by
  obtain ⟨h1, h2⟩ := ch_at _ (hull_ch h) i hi
  have := nxt_in R D ((hull R D).getD i 0)
  rw [← h1] at this
  exact ⟨h1, this.resolve_left h2⟩
theorem hull_lt (h : VP R D) {i : Nat} (hi : i < (hull R D).length) : (hull R D).getD i 0 < D.length := by
  cases i with
  | zero => rw [(hull_pos R D).2]; have := h.1; have := h.2.1; omega
  | succ i => exact (hull_step h hi).2.2.1
theorem hull_mono (h : VP R D) {i n : Nat} (hi : i + n < (hull R D).length) : (hull R D).getD i 0 + n ≤ (hull R D).getD (i + n) 0 := by
  induction n with
  | zero => exact Nat.le_refl _
  | succ n ih =>
    have h1 := ih (by omega)
    have h2 := (hull_step h (i := i + n) (by omega)).2.1
    have : i + n + 1 = i + (n + 1) := by omega
    rw [this] at h2
    omega
theorem hull_inc (h : VP R D) {i j : Nat} (hij : i < j) (hj : j < (hull R D).length) : (hull R D).getD i 0 < (hull R D).getD j 0 := by
  have := hull_mono h (i := i) (n := j - i) (by omega)
  rw [show i + (j - i) = j by omega] at this
  omega
theorem hull_len (h : VP R D) : (hull R D).length ≤ D.length := by
  have h0 := (hull_pos R D).1
  have h1 := hull_mono h (i := 0) (n := (hull R D).length - 1) (by omega)
  rw [(hull_pos R D).2] at h1
  have h2 := hull_lt h (i := 0 + ((hull R D).length - 1)) (by omega)
  omega
theorem bt_le {i j k : Nat} (h : Bt R D i j k) : fl D i k * inc R i j ≤ fl D i j * inc R i k := by rcases h with h | h <;> omega
/-- No point up to a point of the hull has less distortion. -/
theorem hull_low (h : VP R D) (i : Nat) (hi : i < (hull R D).length) : ∀ k, k ≤ (hull R D).getD i 0 → D.getD ((hull R D).getD i 0) 0 ≤ D.getD k 0 := by
  induction i with
  | zero => rw [(hull_pos R D).2]; intro k hk; obtain rfl : k = 0 := by omega
            exact Int.le_refl _
  | succ i ih =>
    have ih := ih (by omega)
    obtain ⟨h1, h2, h3, h4⟩ := hull_step h hi
    obtain ⟨p, hp⟩ : ∃ p, p = (hull R D).getD i 0 := ⟨_, rfl⟩
    obtain ⟨q, hq⟩ : ∃ q, q = (hull R D).getD (i + 1) 0 := ⟨_, rfl⟩
    rw [← hp] at ih h1 h2 h4
    rw [← hq] at h1 h2 h3 h4 ⊢
    intro k hk
    rcases Nat.lt_or_ge p k with hlt | hge
    · refine Classical.byContradiction fun hn => ?_
      have hb := (nxt_best h (i := p) (k := k) (by omega) (by omega) (by omega)).2
      rw [← h1] at hb
      have r1 := h.rr (show p ≤ k by omega) (show k < D.length by omega)
      have r2 := h.mono hk h3
      have r3 := h.rr (show p ≤ q by omega) h3
      have e0 : 0 < fl D p q := by unfold fl; omega
      have e1 : fl D p q < fl D p k := by unfold fl; omega
      have e2 : inc R p k ≤ inc R p q := by unfold inc; omega
      have e3 : 0 ≤ inc R p k := r1.1
      have m1 : fl D p q * inc R p k ≤ fl D p q * inc R p q := mul_mono e2 (by omega)
      rcases Int.lt_or_eq_of_le (show 0 ≤ inc R p q from r3.1) with hz | hz
      · have m2 : inc R p q * fl D p q < inc R p q * fl D p k := Int.mul_lt_mul_of_pos_left e1 hz
        rw [Int.mul_comm (inc R p q) (fl D p q), Int.mul_comm (inc R p q) (fl D p k)] at m2
        have := bt_le hb
        omega
      · have hz2 : inc R p k = 0 := by omega
        unfold Bt at hb
        rw [← hz, hz2, Int.mul_zero, Int.mul_zero] at hb
        omega
    · have := ih k hge
      omega
/-- The last point has the least distortion. -/
theorem hull_least (h : VP R D) {k : Nat} (hk : k < D.length) : D.getD ((hull R D).getD ((hull R D).length - 1) 0) 0 ≤ D.getD k 0 := by
  have h0 := (hull_pos R D).1
  have hl := hull_low h ((hull R D).length - 1) (by omega) k
  have hc := ch_last _ (hull_ch h) h0
  rcases Nat.lt_or_ge ((hull R D).getD ((hull R D).length - 1) 0) k with hlt | hge
  · refine Classical.byContradiction fun hn => ?_
    exact (nxt_best h (i := (hull R D).getD ((hull R D).length - 1) 0) (k := k) (by omega) hk (by omega)).1 hc
  · exact hl hge
/-- The fall and the increase from a point of the hull to the next one. -/
def hF (R D : List Int) (i : Nat) : Int := fl D ((hull R D).getD i 0) ((hull R D).getD (i + 1) 0)
def hI (R D : List Int) (i : Nat) : Int := inc R ((hull R D).getD i 0) ((hull R D).getD (i + 1) 0)
theorem hF_ok (h : VP R D) {i : Nat} (hi : i + 1 < (hull R D).length) : 0 < hF R D i ∧ okD (hF R D i) ∧ okR (hI R D i) := by
  obtain ⟨h1, h2, h3, h4⟩ := hull_step h hi
  refine ⟨by unfold hF fl; omega, h.dd (hull_lt h (by omega)) h3 (by omega), h.rr (by omega) h3⟩
theorem hull_turn (h : VP R D) {i : Nat} (hi : i + 2 < (hull R D).length) : hF R D (i + 1) * hI R D i < hF R D i * hI R D (i + 1) := by
  obtain ⟨h1, h2, h3, h4⟩ := hull_step h (i := i) (by omega)
  obtain ⟨g1, g2, g3, g4⟩ := hull_step h (i := i + 1) (by omega)
  unfold hF hI
  generalize (hull R D).getD (i + 1 + 1) 0 = q at *
  generalize (hull R D).getD (i + 1) 0 = p at *
  generalize (hull R D).getD i 0 = o at *
  have hb := (nxt_best h (i := o) (k := q) (by omega) g3 (by omega)).2
  rw [← h1] at hb
  have e1 : fl D o q = fl D o p + fl D p q := by unfold fl; omega
  have e2 : inc R o q = inc R o p + inc R p q := by unfold inc; omega
  unfold Bt at hb
  rw [e1, e2, Int.add_mul, Int.mul_add] at hb
  omega
theorem hull_slopes (h : VP R D) (i : Nat) (hi : i + 1 < (hull R D).length) : ∀ j, j < i → hF R D i * hI R D j < hF R D j * hI R D i := by
  induction i with
  | zero => intro j hj; omega
  | succ i ih =>
    have ih := ih (by omega)
    intro j hj
    have ht := hull_turn h (i := i) (by omega)
    obtain ⟨a1, -, a2⟩ := hF_ok h (i := j) (by omega)
    obtain ⟨b1, -, b2⟩ := hF_ok h (i := i) (by omega)
    obtain ⟨c1, -, c2⟩ := hF_ok h (i := i + 1) (by omega)
    rcases Nat.lt_or_ge j i with hlt | hge
    · have k1 := ih j hlt
      exact crs_lt (by omega) a2.1 (by omega) b2.1 (by omega) c2.1 (.inl a1) (.inl c1) (by omega) (by omega) (.inl k1)
    · obtain rfl : j = i := by omega
      exact ht
/-- No point lies below the hull. -/
theorem hull_below (h : VP R D) {i k : Nat} (hi : i + 1 < (hull R D).length) (hk : k < D.length) (hd : D.getD k 0 < D.getD ((hull R D).getD i 0) 0) :
    (hull R D).getD i 0 < k ∧ fl D ((hull R D).getD i 0) k * hI R D i ≤ hF R D i * inc R ((hull R D).getD i 0) k := by
  have hl := hull_low h i (by omega) k
  have hlt : (hull R D).getD i 0 < k := by
    rcases Nat.lt_or_ge ((hull R D).getD i 0) k with h | h
    · exact h
    · have := hl h; omega
  have hb := (nxt_best h (i := (hull R D).getD i 0) (k := k) (by omega) hk hd).2
  rw [← (hull_step h hi).1] at hb
  exact ⟨hlt, bt_le hb⟩

/-- The cost of a point. -/
def cost (R D : List Int) (d r : Int) (i : Nat) : Int := r * D.getD i 0 + d * R.getD i 0
def bsF (R D : List Int) (d r : Int) : Nat → Nat
  | 0 => 0
  | n + 1 => if cost R D d r n < cost R D d r (bsF R D d r n) then n else bsF R D d r n
def bst (R D : List Int) (d r : Int) : Nat := bsF R D d r D.length
theorem bsF_first (R D : List Int) (d r : Int) (n : Nat) : (bsF R D d r n = 0 ∨ bsF R D d r n < n) ∧ ∀ k, k < n → cost R D d r (bsF R D d r n) ≤ cost R D d r k ∧ (k < bsF R D d r n → cost R D d r (bsF R D d r n) < cost R D d r k) := by
  induction n with
  | zero => exact ⟨.inl rfl, fun k hk => by omega⟩
  | succ n ih =>
    obtain ⟨h0, ih⟩ := ih
    unfold bsF
    by_cases h : cost R D d r n < cost R D d r (bsF R D d r n)
    · rw [if_pos h]
      refine ⟨.inr (by omega), fun k hk => ?_⟩
      rcases Nat.lt_or_ge k n with hlt | hge
      · have := (ih k hlt).1; omega
      · obtain rfl : k = n := by omega
        omega
    · rw [if_neg h]
      refine ⟨by omega, fun k hk => ?_⟩
      rcases Nat.lt_or_ge k n with hlt | hge
      · exact ih k hlt
      · obtain rfl : k = n := by omega
        refine ⟨by omega, fun hb => by omega⟩
theorem bst_lt (h : VP R D) (d r : Int) : bst R D d r < D.length := by
  have := (bsF_first R D d r D.length).1
  have := h.1; have := h.2.1
  unfold bst; omega
/-- Where the cheapest point lies behind a point, the next one comes and lies not behind the cheapest. -/
theorem bst_next (h : VP R D) {d r : Int} (hd : 0 ≤ d) (hr : 0 < r) {p : Nat} (hp : p < bst R D d r) : nxt R D p ≠ p ∧ nxt R D p ≤ bst R D d r := by
  have hbl := bst_lt h d r
  have hf := (bsF_first R D d r D.length).2
  have hm : ∀ k, k < D.length → cost R D d r (bst R D d r) ≤ cost R D d r k := fun k hk => (hf k hk).1
  have hs : ∀ k, k < bst R D d r → cost R D d r (bst R D d r) < cost R D d r k := fun k hk => (hf k (by omega)).2 hk
  clear hf
  generalize bst R D d r = b at *
  have h1 := hs p hp
  have hrr : 0 ≤ inc R p b := (h.rr (show p ≤ b by omega) hbl).1
  have c1 : r * fl D p b = r * D.getD p 0 - r * D.getD b 0 := by unfold fl; rw [Int.mul_sub]
  have c2 : d * inc R p b = d * R.getD b 0 - d * R.getD p 0 := by unfold inc; rw [Int.mul_sub]
  have cp : d * inc R p b < r * fl D p b := by unfold cost at h1; omega
  have d0 : 0 ≤ d * inc R p b := Int.mul_nonneg hd hrr
  have hdb : D.getD b 0 < D.getD p 0 := by
    refine Classical.byContradiction fun hn => ?_
    have : r * fl D p b ≤ r * 0 := mul_mono (by unfold fl; omega) (by omega)
    rw [Int.mul_zero] at this
    omega
  obtain ⟨hne, hbt⟩ := nxt_best h (i := p) (k := b) (by omega) hbl hdb
  refine ⟨hne, ?_⟩
  obtain ⟨hq1, hq2, hq3⟩ := (nxt_in R D p).resolve_left hne
  generalize nxt R D p = q at *
  refine Classical.byContradiction fun hn => ?_
  have hbq : b < q := by omega
  have h2 := hm q hq2
  have e1 : r * fl D p q = r * D.getD p 0 - r * D.getD q 0 := by unfold fl; rw [Int.mul_sub]
  have e2 : d * inc R p q = d * R.getD q 0 - d * R.getD p 0 := by unfold inc; rw [Int.mul_sub]
  have cq : r * fl D p q - d * inc R p q ≤ r * fl D p b - d * inc R p b := by unfold cost at h2; omega
  have hle := bt_le hbt
  have hsq : inc R p b ≤ inc R p q := by have := h.mono (show b ≤ q by omega) hq2; unfold inc; omega
  have fb : 0 < fl D p b := by unfold fl; omega
  have fq : 0 < fl D p q := by unfold fl; omega
  unfold Bt at hbt
  generalize hA : fl D p b = A at *
  generalize hQ : fl D p q = Q at *
  generalize ha : inc R p b = a at *
  generalize hs' : inc R p q = s at *
  have hkey : A = Q ∧ a = s := by
    rcases Int.lt_or_eq_of_le hrr with hz | hz
    · -- a positive: both costs scaled by a
      have m1 : a * (r * Q - d * s) ≤ a * (r * A - d * a) := mul_mono cq (by omega)
      have m2 : r * (A * s) ≤ r * (Q * a) := mul_mono hle (by omega)
      have x1 : a * (r * Q - d * s) = r * (Q * a) - d * (a * s) := by
        rw [Int.mul_sub, ← Int.mul_assoc, Int.mul_comm a r, Int.mul_assoc, Int.mul_comm a Q, ← Int.mul_assoc a d s, Int.mul_comm a d, Int.mul_assoc]
      have x2 : a * (r * A - d * a) = r * (A * a) - d * (a * a) := by
        rw [Int.mul_sub, ← Int.mul_assoc, Int.mul_comm a r, Int.mul_assoc, Int.mul_comm a A, ← Int.mul_assoc a d a, Int.mul_comm a d, Int.mul_assoc]
      have x3 : s * (r * A - d * a) = r * (A * s) - d * (a * s) := by
        rw [Int.mul_sub, ← Int.mul_assoc, Int.mul_comm s r, Int.mul_assoc, Int.mul_comm s A, ← Int.mul_assoc s d a, Int.mul_comm s d, Int.mul_assoc, Int.mul_comm s a]
      have x4 : s * (r * A - d * a) ≤ a * (r * A - d * a) := by omega
      have hX : 0 < r * A - d * a := by omega
      have hsa : s ≤ a := by
        rw [Int.mul_comm s, Int.mul_comm a] at x4
        exact le_cancel x4 hX
      have hsa' : s = a := by omega
      rw [hsa'] at hle cq
      have q1 : A ≤ Q := by
        rw [Int.mul_comm A, Int.mul_comm Q] at hle
        exact le_cancel hle hz
      have q2 : Q ≤ A := le_cancel (a := r) (by omega) hr
      exact ⟨by omega, hsa'.symm⟩
    · have hz' : a = 0 := hz.symm
      rw [hz', Int.mul_zero] at hle
      have hs0 : s = 0 := by
        rcases Int.lt_or_eq_of_le (show 0 ≤ s by omega) with hh | hh
        · have := Int.mul_pos fb hh; omega
        · exact hh.symm
      have hQA : Q ≤ A := by
        rw [hs0, hz', Int.mul_zero] at cq
        exact le_cancel (a := r) (by omega) hr
      rw [hs0, hz', Int.mul_zero, Int.mul_zero] at hbt
      have : D.getD q 0 ≤ D.getD b 0 := by omega
      exact ⟨by unfold fl at hA hQ; omega, by omega⟩
  rw [hkey.1, hkey.2] at hbt
  have := hkey.1
  unfold fl at hA hQ
  omega
theorem bst_hull (h : VP R D) {d r : Int} (hd : 0 ≤ d) (hr : 0 < r) : ∃ m, m < (hull R D).length ∧ (hull R D).getD m 0 = bst R D d r := by
  have key : ∀ i, i < (hull R D).length → (∃ m, m < (hull R D).length ∧ (hull R D).getD m 0 = bst R D d r) ∨ (hull R D).getD i 0 ≤ bst R D d r := by
    intro i
    induction i with
    | zero => intro _; rw [(hull_pos R D).2]; exact .inr (Nat.zero_le _)
    | succ i ih =>
      intro hi
      rcases ih (by omega) with h1 | h1
      · exact .inl h1
      · rcases Nat.lt_or_ge ((hull R D).getD i 0) (bst R D d r) with hlt | hge
        · have := (bst_next h hd hr hlt).2
          rw [← (hull_step h hi).1] at this
          exact .inr this
        · exact .inl ⟨i, by omega, by omega⟩
  have h0 := (hull_pos R D).1
  rcases key ((hull R D).length - 1) (by omega) with h1 | h1
  · exact h1
  · rcases Nat.lt_or_ge ((hull R D).getD ((hull R D).length - 1) 0) (bst R D d r) with hlt | hge
    · exact absurd (ch_last _ (hull_ch h) h0) (bst_next h hd hr hlt).1
    · exact ⟨(hull R D).length - 1, by omega, by omega⟩
/-- A point of the hull is the cheapest for the slope behind it. -/
theorem bst_slope (h : VP R D) {i : Nat} (hi : i + 1 < (hull R D).length) (hr : 0 < hI R D i) : bst R D (hF R D i) (hI R D i) = (hull R D).getD i 0 := by
  obtain ⟨hd, -, -⟩ := hF_ok h hi
  obtain ⟨m, hm1, hm2⟩ := bst_hull h (d := hF R D i) (r := hI R D i) (by omega) hr
  have hf := (bsF_first R D (hF R D i) (hI R D i) D.length).2
  have hmin : ∀ k, k < D.length → cost R D (hF R D i) (hI R D i) (bst R D (hF R D i) (hI R D i)) ≤ cost R D (hF R D i) (hI R D i) k := fun k hk => (hf k hk).1
  have hstr : ∀ k, k < bst R D (hF R D i) (hI R D i) → cost R D (hF R D i) (hI R D i) (bst R D (hF R D i) (hI R D i)) < cost R D (hF R D i) (hI R D i) k := fun k hk => (hf k (by have := bst_lt h (hF R D i) (hI R D i); omega)).2 hk
  clear hf
  have dn : ∀ n j, j + n = i → 0 < n → cost R D (hF R D i) (hI R D i) ((hull R D).getD i 0) < cost R D (hF R D i) (hI R D i) ((hull R D).getD j 0) := by
    intro n
    induction n with
    | zero => intro j _ hn; omega
    | succ n ih =>
      intro j hj _
      have hs := hull_slopes h i hi j (by omega)
      have c1 : hI R D i * hF R D j = hI R D i * D.getD ((hull R D).getD j 0) 0 - hI R D i * D.getD ((hull R D).getD (j + 1) 0) 0 := by
        rw [← Int.mul_sub]; rfl
      have c2 : hF R D i * hI R D j = hF R D i * R.getD ((hull R D).getD (j + 1) 0) 0 - hF R D i * R.getD ((hull R D).getD j 0) 0 := by
        rw [← Int.mul_sub]; rfl
      rw [Int.mul_comm (hF R D j)] at hs
      have step : cost R D (hF R D i) (hI R D i) ((hull R D).getD (j + 1) 0) < cost R D (hF R D i) (hI R D i) ((hull R D).getD j 0) := by unfold cost; omega
      rcases Nat.eq_zero_or_pos n with hz | hz
      · have : j + 1 = i := by omega
        rw [this] at step
        exact step
      · have := ih (j + 1) (by omega) hz
        omega
  have up : ∀ k, (hull R D).getD i 0 < k → k < D.length → cost R D (hF R D i) (hI R D i) ((hull R D).getD i 0) ≤ cost R D (hF R D i) (hI R D i) k := by
    intro k h1 h2
    obtain ⟨p, hp⟩ : ∃ p, p = (hull R D).getD i 0 := ⟨_, rfl⟩
    have hrr := (h.rr (show (hull R D).getD i 0 ≤ k by omega) h2).1
    have c1 : hI R D i * fl D ((hull R D).getD i 0) k = hI R D i * D.getD ((hull R D).getD i 0) 0 - hI R D i * D.getD k 0 := by unfold fl; rw [Int.mul_sub]
    have c2 : hF R D i * inc R ((hull R D).getD i 0) k = hF R D i * R.getD k 0 - hF R D i * R.getD ((hull R D).getD i 0) 0 := by unfold inc; rw [Int.mul_sub]
    unfold cost
    by_cases hdk : D.getD k 0 < D.getD ((hull R D).getD i 0) 0
    · have hb := (hull_below h hi h2 hdk).2
      rw [Int.mul_comm (fl D _ _)] at hb
      omega
    · have m1 : hI R D i * D.getD ((hull R D).getD i 0) 0 ≤ hI R D i * D.getD k 0 := mul_mono (by omega) (by omega)
      have m2 : 0 ≤ hF R D i * inc R ((hull R D).getD i 0) k := Int.mul_nonneg (by omega) hrr
      omega
  rcases Nat.lt_trichotomy m i with hlt | heq | hgt
  · have := dn (i - m) m (by omega) (by omega)
    have h2 := hmin ((hull R D).getD i 0) (hull_lt h (by omega))
    rw [← hm2] at h2
    omega
  · rw [← hm2, heq]
  · have hinc := hull_inc h hgt hm1
    have h2 := hstr ((hull R D).getD i 0) (by omega)
    have h3 := up (bst R D (hF R D i) (hI R D i)) (by omega) (bst_lt h _ _)
    omega
/-- The last point of the hull is the cheapest for the price 0. -/
theorem bst_zero (h : VP R D) : bst R D 0 1 = (hull R D).getD ((hull R D).length - 1) 0 := by
  obtain ⟨m, hm1, hm2⟩ := bst_hull h (d := 0) (r := 1) (by omega) (by omega)
  have hf := (bsF_first R D 0 1 D.length).2
  have h0 := (hull_pos R D).1
  have hl : (hull R D).getD ((hull R D).length - 1) 0 < D.length := hull_lt h (by omega)
  have h1 := (hf _ hl).1
  unfold cost at h1
  rw [show bsF R D 0 1 D.length = bst R D 0 1 from rfl] at h1
  rcases Nat.lt_or_ge m ((hull R D).length - 1) with hlt | hge
  · exfalso
    have hlow := hull_least h (k := (hull R D).getD (m + 1) 0) (hull_lt h (by omega))
    have hstep := (hull_step h (i := m) (by omega)).2.2.2
    rw [← hm2] at h1
    omega
  · rw [← hm2, show m = (hull R D).length - 1 by omega]
end
end Go.Proofs.Ytkohdiajpdlkjaa
