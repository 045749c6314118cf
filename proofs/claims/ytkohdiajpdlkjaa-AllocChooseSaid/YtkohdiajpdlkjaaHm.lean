/-
  Layer 20: the mathematics of slopes, of the next point, of the hull and of the cheapest point.
-/
import Derived.Test.YtkohdiajpdlkjaaKit
set_option maxRecDepth 100000
namespace Go.Proofs.Ytkohdiajpdlkjaa

theorem le_cancel {a b c : Int} (h : a * b ≤ a * c) (ha : 0 < a) : b ≤ c := Int.le_of_mul_le_mul_left h ha
theorem mul_mono {a b c : Int} (h : b ≤ c) (ha : 0 ≤ a) : a * b ≤ a * c := Int.mul_le_mul_of_nonneg_left h ha
/-- Slopes as pairs: 'at least as steep' is transitive. -/
theorem crs {a x b y c z : Int} (ha : 0 ≤ a) (hx : 0 ≤ x) (hy : 0 ≤ y) (hz : 0 ≤ z) (n : 0 < b ∨ 0 < y) (h1 : b * x ≤ a * y) (h2 : c * y ≤ b * z) : c * x ≤ a * z := by
  rcases Int.lt_or_eq_of_le hy with hy' | hy'
  · have e1 : y * (c * x) ≤ y * (a * z) := by
      have k1 : x * (c * y) ≤ x * (b * z) := mul_mono h2 hx
      have k2 : z * (b * x) ≤ z * (a * y) := mul_mono h1 hz
      have e1 : y * (c * x) = x * (c * y) := by rw [Int.mul_comm y, Int.mul_comm c x, Int.mul_assoc]
      have e2 : x * (b * z) = z * (b * x) := by rw [Int.mul_comm x, Int.mul_comm b z, Int.mul_assoc]
      have e3 : z * (a * y) = y * (a * z) := by rw [Int.mul_comm z, Int.mul_comm a y, Int.mul_assoc]
      omega
    exact le_cancel e1 hy'
  · subst hy'
    have hb : 0 < b := by omega
    rw [Int.mul_zero] at h1
    have hx0 : x = 0 := by
      rcases Int.lt_or_eq_of_le hx with h | h
      · have := Int.mul_pos hb h; omega
      · exact h.symm
    subst hx0
    rw [Int.mul_zero]
    exact Int.mul_nonneg ha hz
theorem crs_lt {a x b y c z : Int} (_ha : 0 ≤ a) (hx : 0 ≤ x) (hb : 0 ≤ b) (hy : 0 ≤ y) (hc : 0 ≤ c) (hz : 0 ≤ z) (na : 0 < a ∨ 0 < x) (nc : 0 < c ∨ 0 < z)
    (h1 : b * x ≤ a * y) (h2 : c * y ≤ b * z) (h : b * x < a * y ∨ c * y < b * z) : c * x < a * z := by
  refine Classical.byContradiction fun hn => ?_
  have hn' : a * z ≤ c * x := by omega
  rcases h with h | h
  · have := crs (a := b) (x := y) (b := c) (y := z) (c := a) (z := x) hb hy hz hx nc h2 hn'
    omega
  · have := crs (a := c) (x := z) (b := a) (y := x) (c := b) (z := y) hc hz hx hy na hn' h1
    omega
def cmpI (a b : Int) : Int := if a < b then -1 else if b < a then 1 else 0
theorem cmpI_cases (a b : Int) : (a < b ∧ cmpI a b = -1) ∨ (a = b ∧ cmpI a b = 0) ∨ (b < a ∧ cmpI a b = 1) := by
  unfold cmpI
  by_cases h : a < b
  · exact .inl ⟨h, if_pos h⟩
  · by_cases h2 : b < a
    · exact .inr (.inr ⟨h2, by rw [if_neg h, if_pos h2]⟩)
    · exact .inr (.inl ⟨by omega, by rw [if_neg h, if_neg h2]⟩)
def okD (d : Int) : Prop := 0 ≤ d ∧ d ≤ 70368744177664
def okR (r : Int) : Prop := 0 ≤ r ∧ r ≤ 65535
instance (d : Int) : Decidable (okD d) := by unfold okD; infer_instance
instance (d : Int) : Decidable (okR d) := by unfold okR; infer_instance
def inS (d1 r1 d2 r2 : Int) : Prop := okD d1 ∧ okR r1 ∧ okD d2 ∧ okR r2
instance (a b c d : Int) : Decidable (inS a b c d) := by unfold inS; infer_instance
/-- The increase that counts. -/
def nr (d r : Int) : Int := if d = 0 then 1 else r
def stp (d1 r1 d2 r2 : Int) : Int := cmpI (d1 * nr d2 r2) (d2 * nr d1 r1)
def steep (d1 r1 d2 r2 : Int) : Int := if inS d1 r1 d2 r2 then stp d1 r1 d2 r2 else 0
theorem nr_ok {d r : Int} (hd : okD d) (hr : okR r) : 0 ≤ nr d r ∧ nr d r ≤ 65535 ∧ (0 < d ∨ 0 < nr d r) := by
  unfold okD okR at *
  unfold nr
  by_cases h : d = 0
  · rw [if_pos h]; omega
  · rw [if_neg h]; omega
theorem steep_y {a x b y : Int} (h : inS a x b y) : steep a x b y = cmpI (a * nr b y) (b * nr a x) := by unfold steep; rw [if_pos h]; rfl
theorem steep_self {a x : Int} (h1 : okD a) (h2 : okR x) : steep a x a x = 0 := by
  rw [steep_y ⟨h1, h2, h1, h2⟩]
  rcases cmpI_cases (a * nr a x) (a * nr a x) with h | h | h <;> omega
theorem steep_neg {a x b y : Int} (h1 : okD a) (h2 : okR x) (h3 : okD b) (h4 : okR y) : steep b y a x = - steep a x b y := by
  rw [steep_y ⟨h1, h2, h3, h4⟩, steep_y ⟨h3, h4, h1, h2⟩]
  rcases cmpI_cases (a * nr b y) (b * nr a x) with h | h | h <;> rcases cmpI_cases (b * nr a x) (a * nr b y) with h' | h' | h' <;> omega
theorem steep_in (a x b y : Int) : -1 ≤ steep a x b y ∧ steep a x b y ≤ 1 := by
  unfold steep
  by_cases h : inS a x b y
  · rw [if_pos h]; unfold stp
    rcases cmpI_cases (a * nr b y) (b * nr a x) with h | h | h <;> omega
  · rw [if_neg h]; decide
theorem steep_trans {a x b y c z : Int} (h1 : okD a) (h2 : okR x) (h3 : okD b) (h4 : okR y) (h5 : okD c) (h6 : okR z)
    (u : 0 ≤ steep a x b y) (v : 0 ≤ steep b y c z) : 0 ≤ steep a x c z ∧ (0 < steep a x b y + steep b y c z → 0 < steep a x c z) := by
  rw [steep_y ⟨h1, h2, h3, h4⟩] at u ⊢
  rw [steep_y ⟨h3, h4, h5, h6⟩] at v ⊢
  rw [steep_y ⟨h1, h2, h5, h6⟩]
  obtain ⟨n1, -, m1⟩ := nr_ok h1 h2
  obtain ⟨n2, -, m2⟩ := nr_ok h3 h4
  obtain ⟨n3, -, m3⟩ := nr_ok h5 h6
  have a0 := h1.1
  have b0 := h3.1
  have c0 := h5.1
  have k1 : b * nr a x ≤ a * nr b y := by rcases cmpI_cases (a * nr b y) (b * nr a x) with h | h | h <;> omega
  have k2 : c * nr b y ≤ b * nr c z := by rcases cmpI_cases (b * nr c z) (c * nr b y) with h | h | h <;> omega
  have k3 := crs a0 n1 n2 n3 m2 k1 k2
  have k4 := crs_lt a0 n1 b0 n2 c0 n3 m1 m3 k1 k2
  constructor
  · rcases cmpI_cases (a * nr c z) (c * nr a x) with h | h | h <;> omega
  · intro hs
    have : c * nr a x < a * nr c z := k4 (by
      rcases cmpI_cases (a * nr b y) (b * nr a x) with h | h | h <;> rcases cmpI_cases (b * nr c z) (c * nr b y) with h' | h' | h' <;> omega)
    rcases cmpI_cases (a * nr c z) (c * nr a x) with h | h | h <;> omega

/-- Numbers in ascending order. -/
def Asc (l : List Int) : Prop := ∀ i, i < l.length - 1 → l.getD i 0 ≤ l.getD (i + 1) 0
instance (l : List Int) : Decidable (Asc l) := by unfold Asc; infer_instance
/-- A valid curve. -/
def VP (R D : List Int) : Prop := D.length = R.length ∧ 1 ≤ R.length ∧ R.length ≤ 179 ∧ R.getD 0 0 = 0 ∧ Asc R ∧ R.getD (R.length - 1) 0 ≤ 65535 ∧ ∀ i, i < D.length → okD (D.getD i 0)
instance (R D : List Int) : Decidable (VP R D) := by unfold VP; infer_instance
theorem asc_le {l : List Int} (h : Asc l) (i n : Nat) (hn : i + n < l.length) : l.getD i 0 ≤ l.getD (i + n) 0 := by
  induction n with
  | zero => exact Int.le_refl _
  | succ n ih =>
    have h1 := ih (by omega)
    have h2 := h (i + n) (by omega)
    have : i + n + 1 = i + (n + 1) := by omega
    rw [this] at h2
    omega
theorem asc_mono {l : List Int} (h : Asc l) {i j : Nat} (hij : i ≤ j) (hj : j < l.length) : l.getD i 0 ≤ l.getD j 0 := by
  have := asc_le h i (j - i) (by omega)
  rwa [show i + (j - i) = j by omega] at this
section
variable {R D : List Int}
theorem VP.len (h : VP R D) : D.length = R.length := h.1
theorem VP.mono (h : VP R D) {i j : Nat} (hij : i ≤ j) (hj : j < D.length) : R.getD i 0 ≤ R.getD j 0 := asc_mono h.2.2.2.2.1 hij (by have := h.1; omega)
theorem VP.r (h : VP R D) {i : Nat} (hi : i < D.length) : okR (R.getD i 0) := by
  have h0 := h.mono (Nat.zero_le i) hi
  have h1 := h.mono (show i ≤ R.length - 1 by have := h.1; omega) (by have := h.1; have := h.2.1; omega)
  obtain ⟨_, _, _, h2, _, h3, _⟩ := h
  unfold okR; omega
theorem VP.d (h : VP R D) {i : Nat} (hi : i < D.length) : okD (D.getD i 0) := h.2.2.2.2.2.2 i hi
theorem VP.rr (h : VP R D) {i j : Nat} (hij : i ≤ j) (hj : j < D.length) : okR (R.getD j 0 - R.getD i 0) := by
  have h0 := h.mono hij hj
  have h1 := h.r hj
  have h2 := h.r (show i < D.length by omega)
  unfold okR at *; omega
theorem VP.dd (h : VP R D) {i j : Nat} (hi : i < D.length) (hj : j < D.length) (hd : D.getD j 0 ≤ D.getD i 0) : okD (D.getD i 0 - D.getD j 0) := by
  have h1 := h.d hi
  have h2 := h.d hj
  unfold okD at *; omega
end
/-- Slopes from point i to points j and k, compared. -/
def slp (R D : List Int) (i j k : Nat) : Int := steep (D.getD i 0 - D.getD j 0) (R.getD j 0 - R.getD i 0) (D.getD i 0 - D.getD k 0) (R.getD k 0 - R.getD i 0)
/-- Whether a point takes the place of the best one. -/
def win (R D : List Int) (i j b : Nat) : Bool := decide (0 < slp R D i j b) || (decide (slp R D i j b = 0) && decide (D.getD j 0 < D.getD b 0))
def nxS (R D : List Int) (i b j : Nat) : Nat := if D.getD i 0 ≤ D.getD j 0 then b else if win R D i j b then j else b
def nxF (R D : List Int) (i : Nat) : Nat → Nat
  | 0 => i
  | n + 1 => nxS R D i (nxF R D i n) (i + n)
def nxt (R D : List Int) (i : Nat) : Nat := nxF R D i (D.length - i)
theorem nxS_cases (R D : List Int) (i b j : Nat) : nxS R D i b j = b ∨ (nxS R D i b j = j ∧ D.getD j 0 < D.getD i 0) := by
  unfold nxS
  by_cases h : D.getD i 0 ≤ D.getD j 0
  · exact .inl (if_pos h)
  · rw [if_neg h]
    by_cases h2 : win R D i j b = true
    · rw [if_pos h2]; exact .inr ⟨rfl, by omega⟩
    · rw [if_neg h2]; exact .inl rfl
theorem nxF_in (R D : List Int) (i n : Nat) : nxF R D i n = i ∨ (i < nxF R D i n ∧ nxF R D i n < i + n ∧ D.getD (nxF R D i n) 0 < D.getD i 0) := by
  induction n with
  | zero => exact .inl rfl
  | succ n ih =>
    have e : nxF R D i (n + 1) = nxS R D i (nxF R D i n) (i + n) := rfl
    rw [e]
    rcases nxS_cases R D i (nxF R D i n) (i + n) with h | ⟨h, h2⟩
    · rw [h]; rcases ih with h | h
      · exact .inl h
      · exact .inr ⟨h.1, by omega, h.2.2⟩
    · rw [h]
      refine .inr ⟨?_, by omega, h2⟩
      rcases Nat.eq_zero_or_pos n with rfl | hn
      · simp at h2
      · omega
theorem nxt_in (R D : List Int) (i : Nat) : nxt R D i = i ∨ (i < nxt R D i ∧ nxt R D i < D.length ∧ D.getD (nxt R D i) 0 < D.getD i 0) := by
  rcases nxF_in R D i (D.length - i) with h | h
  · exact .inl h
  · exact .inr ⟨h.1, by have := h.2.1; unfold nxt; omega, h.2.2⟩
/-- A fall and an increase from point i. -/
def fl (D : List Int) (i j : Nat) : Int := D.getD i 0 - D.getD j 0
def inc (R : List Int) (i j : Nat) : Int := R.getD j 0 - R.getD i 0
theorem slp_eq {R D : List Int} (h : VP R D) {i j k : Nat} (hi : i < D.length) (hij : i ≤ j) (hj : j < D.length) (hik : i ≤ k) (hk : k < D.length) (dj : D.getD j 0 < D.getD i 0) (dk : D.getD k 0 < D.getD i 0) :
    slp R D i j k = cmpI (fl D i j * inc R i k) (fl D i k * inc R i j) := by
  unfold slp
  rw [steep_y ⟨h.dd hi hj (by omega), h.rr hij hj, h.dd hi hk (by omega), h.rr hik hk⟩]
  unfold nr fl inc
  rw [if_neg (by omega), if_neg (by omega)]
theorem slp_self {R D : List Int} (h : VP R D) {i j : Nat} (hi : i < D.length) (hij : i ≤ j) (hj : j < D.length) (dj : D.getD j 0 < D.getD i 0) : slp R D i j i = 1 := by
  unfold slp
  rw [steep_y ⟨h.dd hi hj (by omega), h.rr hij hj, h.dd hi hi (by omega), h.rr (Nat.le_refl _) hi⟩]
  unfold nr
  rw [if_pos (by omega), if_neg (by omega)]
  have e1 : D.getD i 0 - D.getD i 0 = 0 := by omega
  rw [e1, Int.zero_mul, Int.mul_one]
  rcases cmpI_cases (D.getD i 0 - D.getD j 0) 0 with h | h | h <;> omega
/-- Point j is at least as good as point k, and comes first if it is as good. -/
def Bt (R D : List Int) (i j k : Nat) : Prop := fl D i k * inc R i j < fl D i j * inc R i k ∨ (fl D i k * inc R i j = fl D i j * inc R i k ∧ (D.getD j 0 < D.getD k 0 ∨ (D.getD j 0 = D.getD k 0 ∧ j ≤ k)))
theorem bt_trans {R D : List Int} (h : VP R D) {i a b c : Nat} (ha : i ≤ a ∧ a < D.length ∧ D.getD a 0 < D.getD i 0) (hb : i ≤ b ∧ b < D.length ∧ D.getD b 0 < D.getD i 0) (hc : i ≤ c ∧ c < D.length ∧ D.getD c 0 < D.getD i 0)
    (h1 : Bt R D i a b) (h2 : Bt R D i b c) : Bt R D i a c := by
  have fa : 0 < fl D i a := by unfold fl; omega
  have fb : 0 < fl D i b := by unfold fl; omega
  have fc : 0 < fl D i c := by unfold fl; omega
  have ra : 0 ≤ inc R i a := (h.rr ha.1 ha.2.1).1
  have rb : 0 ≤ inc R i b := (h.rr hb.1 hb.2.1).1
  have rc : 0 ≤ inc R i c := (h.rr hc.1 hc.2.1).1
  have k1 : fl D i b * inc R i a ≤ fl D i a * inc R i b := by rcases h1 with h | h <;> omega
  have k2 : fl D i c * inc R i b ≤ fl D i b * inc R i c := by rcases h2 with h | h <;> omega
  have k3 := crs_lt (by omega) ra (by omega) rb (by omega) rc (.inl fa) (.inl fc) k1 k2
  rcases h1 with h1 | ⟨h1, h1'⟩
  · exact .inl (k3 (.inl h1))
  · rcases h2 with h2 | ⟨h2, h2'⟩
    · exact .inl (k3 (.inr h2))
    · refine .inr ⟨?_, by omega⟩
      have k4 := crs (by omega) ra rb rc (.inl fb) k1 k2
      have k5 := crs (a := fl D i c) (x := inc R i c) (b := fl D i b) (y := inc R i b) (c := fl D i a) (z := inc R i a) (by omega) rc rb ra (.inl fb) (by omega) (by omega)
      omega
/-- The best of the first points is at least as good as each of them. -/
theorem nxF_best {R D : List Int} (h : VP R D) {i : Nat} (hi : i < D.length) (n : Nat) (hn : i + n ≤ D.length) :
    ∀ k, i ≤ k → k < i + n → D.getD k 0 < D.getD i 0 → nxF R D i n ≠ i ∧ Bt R D i (nxF R D i n) k := by
  induction n with
  | zero => intro k h1 h2; omega
  | succ n ih =>
    have ih := ih (by omega)
    intro k hk1 hk2 hk3
    have hin := nxF_in R D i n
    have e : nxF R D i (n + 1) = nxS R D i (nxF R D i n) (i + n) := rfl
    rw [e]
    obtain ⟨b, hb⟩ : ∃ b, b = nxF R D i n := ⟨_, rfl⟩
    rw [← hb] at hin ih ⊢
    unfold nxS
    by_cases h1 : D.getD i 0 ≤ D.getD (i + n) 0
    · rw [if_pos h1]
      exact ih k hk1 (by
        rcases Nat.lt_or_ge k (i + n) with h | h
        · exact h
        · have : k = i + n := by omega
          subst this; omega) hk3
    · rw [if_neg h1]
      have h1' : D.getD (i + n) 0 < D.getD i 0 := by omega
      have hjne : i + n ≠ i := by rintro e; rw [e] at h1'; omega
      have cj : i ≤ i + n ∧ i + n < D.length ∧ D.getD (i + n) 0 < D.getD i 0 := ⟨by omega, by omega, h1'⟩
      rcases hin with hin | hin
      · have hw : win R D i (i + n) b = true := by
          unfold win
          rw [hin, slp_self h hi (by omega) (by omega) h1']
          rfl
        rw [if_pos hw]
        refine ⟨hjne, ?_⟩
        rcases Nat.lt_or_ge k (i + n) with hlt | hge
        · exact absurd hin (ih k hk1 hlt hk3).1
        · have : k = i + n := by omega
          subst this
          exact .inr ⟨rfl, .inr ⟨rfl, Nat.le_refl _⟩⟩
      · have cb : i ≤ b ∧ b < D.length ∧ D.getD b 0 < D.getD i 0 := ⟨by omega, by omega, hin.2.2⟩
        have hs := slp_eq h hi cj.1 cj.2.1 cb.1 cb.2.1 cj.2.2 cb.2.2
        by_cases hw : win R D i (i + n) b = true
        · rw [if_pos hw]
          refine ⟨hjne, ?_⟩
          have hjb : Bt R D i (i + n) b := by
            unfold win at hw
            rw [hs] at hw
            simp only [Bool.or_eq_true, Bool.and_eq_true, decide_eq_true_eq] at hw
            unfold Bt
            rcases cmpI_cases (fl D i (i + n) * inc R i b) (fl D i b * inc R i (i + n)) with hh | hh | hh
            · rw [hh.2] at hw; omega
            · refine .inr ⟨hh.1.symm, .inl ?_⟩; rw [hh.2] at hw; omega
            · exact .inl hh.1
          rcases Nat.lt_or_ge k (i + n) with hlt | hge
          · exact bt_trans h cj cb ⟨hk1, by omega, hk3⟩ hjb (ih k hk1 hlt hk3).2
          · have : k = i + n := by omega
            subst this
            exact .inr ⟨rfl, .inr ⟨rfl, Nat.le_refl _⟩⟩
        · rw [if_neg hw]
          refine ⟨by omega, ?_⟩
          rcases Nat.lt_or_ge k (i + n) with hlt | hge
          · exact (ih k hk1 hlt hk3).2
          · have : k = i + n := by omega
            subst this
            unfold win at hw
            rw [hs] at hw
            simp only [Bool.or_eq_true, Bool.and_eq_true, decide_eq_true_eq] at hw
            unfold Bt
            rcases cmpI_cases (fl D i (i + n) * inc R i b) (fl D i b * inc R i (i + n)) with hh | hh | hh
            · exact .inl hh.1
            · rw [hh.2] at hw; exact .inr ⟨hh.1, by omega⟩
            · rw [hh.2] at hw; omega
theorem nxt_best {R D : List Int} (h : VP R D) {i k : Nat} (hik : i ≤ k) (hk : k < D.length) (hd : D.getD k 0 < D.getD i 0) : nxt R D i ≠ i ∧ Bt R D i (nxt R D i) k :=
  nxF_best h (by omega) (D.length - i) (by omega) k hik (by omega) hd
end Go.Proofs.Ytkohdiajpdlkjaa
