/-
  Numbers to the base 256, the interval of an arithmetic coder: plain mathematics of layer 11. No program in sight.
-/
import Derived.Below
set_option maxRecDepth 100000
namespace Go.Proofs.YtnmmgjbjnhiaoaaDoor
namespace Am

def byte (x : Int) : Prop := 0 ≤ x ∧ x ≤ 255
def bytes (l : List Int) : Prop := ∀ x ∈ l, byte x
theorem bytes_nil : bytes [] := fun _ h => by simp at h
theorem bytes_snoc {l : List Int} {b : Int} (h : bytes l) (hb : byte b) : bytes (l ++ [b]) := fun x hx => by
  rcases List.mem_append.1 hx with h1 | h1
  · exact h x h1
  · simp at h1; subst h1; exact hb
theorem bytes_app {l m : List Int} (h : bytes l) (hm : bytes m) : bytes (l ++ m) := fun x hx => (List.mem_append.1 hx).elim (h x) (hm x)
theorem bytes_take {l : List Int} (h : bytes l) (k : Nat) : bytes (l.take k) := fun x hx => h x (List.mem_of_mem_take hx)
theorem bytes_getD {l : List Int} (h : bytes l) (k : Nat) : byte (l.getD k 0) := by
  rw [List.getD_eq_getElem?_getD]
  by_cases hk : k < l.length
  · rw [List.getElem?_eq_getElem hk]; exact h _ (List.getElem_mem hk)
  · rw [List.getElem?_eq_none (by omega)]; exact ⟨by decide, by decide⟩
/-- The power of 256. -/
def Pw (n : Nat) : Int := 256 ^ n
theorem Pw_zero : Pw 0 = 1 := rfl
theorem Pw_succ (n : Nat) : Pw (n + 1) = 256 * Pw n := by unfold Pw; rw [Int.pow_succ, Int.mul_comm]
theorem Pw_pos (n : Nat) : 1 ≤ Pw n := by
  induction n with
  | zero => decide
  | succ n ih => rw [Pw_succ]; omega
/-- The number that bytes are, the most significant one first. -/
def val (l : List Int) : Int := l.foldl (fun a x => 256 * a + x) 0
theorem val_nil : val [] = 0 := rfl
theorem val_snoc (l : List Int) (x : Int) : val (l ++ [x]) = 256 * val l + x := by simp [val, List.foldl_append]
theorem rev_ind {p : List Int → Prop} (h0 : p []) (h1 : ∀ l x, p l → p (l ++ [x])) (l : List Int) : p l := by
  have key : ∀ l : List Int, p l.reverse := by
    intro l
    induction l with
    | nil => exact h0
    | cons x l ih => rw [List.reverse_cons]; exact h1 _ _ ih
  have := key l.reverse
  rwa [List.reverse_reverse] at this
theorem bytes_init {l : List Int} {x : Int} (h : bytes (l ++ [x])) : bytes l ∧ byte x := ⟨fun y hy => h y (List.mem_append_left _ hy), h x (by simp)⟩
theorem val_bd (l : List Int) : bytes l → 0 ≤ val l ∧ val l + 1 ≤ Pw l.length := by
  induction l using rev_ind with
  | h0 => intro _; exact ⟨by decide, by decide⟩
  | h1 l x ih =>
    intro h
    obtain ⟨h1, h2⟩ := bytes_init h
    obtain ⟨i1, i2⟩ := ih h1
    obtain ⟨b1, b2⟩ := h2
    rw [val_snoc, List.length_append, List.length_singleton, Pw_succ]
    omega
theorem val_zeros (l : List Int) (z : Nat) : val (l ++ List.replicate z 0) = val l * Pw z := by
  induction z with
  | zero => simp [Pw_zero]
  | succ z ih => rw [List.replicate_succ', ← List.append_assoc, val_snoc, ih, Pw_succ, Int.mul_left_comm, Int.add_zero]
/-- So many digits of a number. -/
def dig : Nat → Int → List Int
  | 0, _ => []
  | k + 1, v => dig k (v / 256) ++ [v % 256]
theorem dig_len (k : Nat) : ∀ v, (dig k v).length = k := by
  induction k with
  | zero => intro v; rfl
  | succ k ih => intro v; simp [dig, ih]
theorem dig_bytes (k : Nat) : ∀ v, bytes (dig k v) := by
  induction k with
  | zero => intro v; exact bytes_nil
  | succ k ih => intro v; exact bytes_snoc (ih _) ⟨by omega, by omega⟩
theorem dig_val (l : List Int) : bytes l → dig l.length (val l) = l := by
  induction l using rev_ind with
  | h0 => intro _; rfl
  | h1 l x ih =>
    intro h
    obtain ⟨h1, h2, h3⟩ := bytes_init h
    rw [List.length_append, List.length_singleton, val_snoc, dig, show (256 * val l + x) / 256 = val l by omega, show (256 * val l + x) % 256 = x by omega, ih h1]
theorem val_dig (k : Nat) : ∀ v, 0 ≤ v → v + 1 ≤ Pw k → val (dig k v) = v := by
  induction k with
  | zero => intro v h0 h1; rw [Pw_zero] at h1; have : v = 0 := by omega
            subst this; rfl
  | succ k ih =>
    intro v h0 h1
    rw [Pw_succ] at h1
    rw [dig, val_snoc, ih (v / 256) (by omega) (by omega)]
    omega
theorem val_inj {l m : List Int} (hl : bytes l) (hm : bytes m) (hn : l.length = m.length) (h : val l = val m) : l = m := by
  rw [← dig_val l hl, ← dig_val m hm, hn, h]
/-- The number of the first bytes, zeros behind the end. -/
def num (d : List Int) : Nat → Int
  | 0 => 0
  | k + 1 => 256 * num d k + d.getD k 0
theorem num_take (d : List Int) (k : Nat) (h : k ≤ d.length) : num d k = val (d.take k) := by
  induction k with
  | zero => rfl
  | succ k ih =>
    rw [num, ih (by omega), List.take_succ_eq_append_getElem (by omega), val_snoc, List.getD_eq_getElem?_getD, List.getElem?_eq_getElem (by omega)]
    rfl
theorem num_bd {d : List Int} (h : bytes d) (k : Nat) : 0 ≤ num d k ∧ num d k + 1 ≤ Pw k := by
  induction k with
  | zero => simp [num, Pw_zero]
  | succ k ih =>
    have := bytes_getD h k
    unfold byte at this
    rw [num, Pw_succ]; omega
theorem num_congr {d e : List Int} {k : Nat} (h : ∀ i, i < k → d.getD i 0 = e.getD i 0) : num d k = num e k := by
  induction k with
  | zero => rfl
  | succ k ih => rw [num, num, ih (fun i hi => h i (by omega)), h k (by omega)]
theorem num_inj {d e : List Int} (hd : bytes d) (he : bytes e) (k : Nat) : num d k = num e k → ∀ i, i < k → d.getD i 0 = e.getD i 0 := by
  induction k with
  | zero => intro _ i hi; omega
  | succ k ih =>
    intro h i hi
    have h1 := bytes_getD hd k
    have h2 := bytes_getD he k
    unfold byte at h1 h2
    rw [num, num] at h
    by_cases hk : i = k
    · subst hk; omega
    · exact ih (by omega) i (by omega)
theorem getD_over {d : List Int} {k : Nat} (h : d.length ≤ k) : d.getD k 0 = 0 := by
  rw [List.getD_eq_getElem?_getD, List.getElem?_eq_none h]; rfl
/-- Zero bytes at the end removed. -/
def trim (l : List Int) : List Int := (l.reverse.dropWhile (· == 0)).reverse
theorem trim_nil : trim [] = [] := rfl
theorem trim_zero (l : List Int) : trim (l ++ [0]) = trim l := by simp [trim]
theorem trim_other (l : List Int) (x : Int) (h : x ≠ 0) : trim (l ++ [x]) = l ++ [x] := by simp [trim, h]
theorem trim_pre (l : List Int) : (trim l).length ≤ l.length ∧ trim l = l.take (trim l).length ∧ (∀ i, (trim l).getD i 0 = l.getD i 0) ∧ (0 < (trim l).length → (trim l).getD ((trim l).length - 1) 0 ≠ 0) := by
  induction l using rev_ind with
  | h0 => exact ⟨Nat.le_refl _, rfl, fun _ => rfl, fun h => by simp [trim_nil] at h⟩
  | h1 l x ih =>
    obtain ⟨i1, i2, i3, i4⟩ := ih
    by_cases hx : x = 0
    · subst hx
      rw [trim_zero]
      refine ⟨by rw [List.length_append]; omega, ?_, fun i => ?_, i4⟩
      · rw [List.take_append_of_le_length i1]; exact i2
      · rw [i3, List.getD_eq_getElem?_getD, List.getD_eq_getElem?_getD]
        by_cases h : i < l.length
        · rw [List.getElem?_append_left h]
        · rw [List.getElem?_eq_none (by omega), List.getElem?_append_right (by omega)]
          cases h2 : i - l.length with
          | zero => rfl
          | succ j => rfl
    · rw [trim_other l x hx]
      refine ⟨Nat.le_refl _, by rw [List.take_length], fun _ => rfl, fun _ => ?_⟩
      rw [List.getD_eq_getElem?_getD, List.length_append, List.length_singleton, List.getElem?_append_right (by omega)]
      simpa using hx
theorem trim_num (l : List Int) (k : Nat) : num (trim l) k = num l k := num_congr fun i _ => (trim_pre l).2.2.1 i

/-- low, range, n. -/
structure St where
  lo : Int
  rg : Int
  n : Nat
def St.init : St := ⟨0, 4294967295, 0⟩
/-- The part of the range that belongs to the bit 0. -/
def part (s : St) (p : Int) : Int := s.rg / 4096 * p
def cut (s : St) (p b : Int) : St := if b = 0 then ⟨s.lo, part s p, s.n⟩ else ⟨s.lo + part s p, s.rg - part s p, s.n⟩
def norm (s : St) : St := if s.rg < 16777216 then ⟨256 * s.lo, 256 * s.rg, s.n + 1⟩ else s
def enc (s : St) (p b : Int) : St := norm (cut s p b)
structure Ok (s : St) : Prop where
  lo : 0 ≤ s.lo
  r1 : 16777216 ≤ s.rg
  r2 : s.rg ≤ 4294967295
  top : s.lo + s.rg ≤ 4294967296 * Pw s.n
def prob (p : Int) : Prop := 31 ≤ p ∧ p ≤ 4065
theorem ok_init : Ok St.init := ⟨by decide, by decide, by decide, by decide⟩
theorem part_bd {s : St} {p : Int} (h : Ok s) (hp : prob p) : 65536 ≤ part s p ∧ part s p + 65536 ≤ s.rg ∧ 4096 ≤ s.rg / 4096 ∧ s.rg / 4096 ≤ 1048575 := by
  have h1 := h.r1
  have h2 := h.r2
  obtain ⟨q, hq⟩ : ∃ q, q = s.rg / 4096 := ⟨_, rfl⟩
  have e : part s p = q * p := by rw [hq]; rfl
  have q0 : 4096 ≤ q := by omega
  have m1 : q * 31 ≤ q * p := Int.mul_le_mul_of_nonneg_left hp.1 (by omega)
  have m2 : q * p ≤ q * 4065 := Int.mul_le_mul_of_nonneg_left hp.2 (by omega)
  rw [e, ← hq]
  omega
theorem cut_bd {s : St} {p : Int} (b : Int) (h : Ok s) (hp : prob p) : s.lo ≤ (cut s p b).lo ∧ (cut s p b).lo + (cut s p b).rg ≤ s.lo + s.rg ∧ 65536 ≤ (cut s p b).rg ∧ (cut s p b).rg ≤ 4294967295 ∧ (cut s p b).n = s.n := by
  have := part_bd h hp
  have h2 := h.r2
  unfold cut
  by_cases hb : b = 0
  · rw [if_pos hb]; dsimp only; omega
  · rw [if_neg hb]; dsimp only; omega
theorem enc_ok {s : St} {p : Int} (b : Int) (h : Ok s) (hp : prob p) : Ok (enc s p b) := by
  obtain ⟨c1, c2, c3, c4, c5⟩ := cut_bd b h hp
  have h0 := h.lo
  have h3 := h.top
  unfold enc norm
  split
  · refine ⟨?_, ?_, ?_, ?_⟩ <;> simp only
    · omega
    · omega
    · omega
    · rw [Pw_succ, c5]; omega
  · exact ⟨by omega, by omega, c4, by rw [c5]; omega⟩
theorem enc_ne {s : St} {p : Int} (b : Int) (h : Ok s) (hp : prob p) : (enc s p b).rg ≠ 4294967295 := by
  have := part_bd h hp
  have h2 := h.r2
  unfold enc norm cut
  by_cases hb : b = 0
  · rw [if_pos hb]; dsimp only; split <;> (dsimp only; omega)
  · rw [if_neg hb]; dsimp only; split <;> (dsimp only; omega)
theorem enc_n {s : St} {p : Int} (b : Int) (h : Ok s) (hp : prob p) : s.n ≤ (enc s p b).n ∧ (enc s p b).n ≤ s.n + 1 := by
  have c5 := (cut_bd b h hp).2.2.2.2
  unfold enc norm
  split
  · dsimp only; omega
  · omega
/-- The probability after a bit. -/
def adp (p b : Int) : Int := if b = 0 then p + (4096 - p) / 32 else p - p / 32
theorem adp_prob {p : Int} (b : Int) (h : prob p) : prob (adp p b) := by
  unfold prob at *; unfold adp; split <;> omega
/-- The number lies in the interval. -/
def In (s : St) (u : Int) : Prop := s.lo ≤ u ∧ u < s.lo + s.rg
/-- The bit that is decoded. -/
def dbit (s : St) (p u : Int) : Int := if u - s.lo < part s p then 0 else 1
def bit (b : Int) : Prop := b = 0 ∨ b = 1
theorem cut_in {s : St} {p b u : Int} (hb : bit b) : In (cut s p b) u → (0 ≤ part s p ∧ part s p ≤ s.rg) → In s u ∧ dbit s p u = b := by
  unfold In cut dbit
  rintro ⟨h1, h2⟩ ⟨h3, h4⟩
  rcases hb with rfl | rfl
  · simp only [if_true] at h1 h2
    exact ⟨by omega, by rw [if_pos (by omega)]⟩
  · simp only [show (1 : Int) = 0 ↔ False by decide, if_false] at h1 h2
    exact ⟨by omega, by rw [if_neg (by omega)]⟩
theorem in_cut {s : St} {p u : Int} (h : In s u) : In (cut s p (dbit s p u)) u := by
  unfold In at *
  unfold cut dbit
  by_cases h3 : u - s.lo < part s p
  · rw [if_pos h3, if_pos rfl]; simp only; omega
  · rw [if_neg h3, if_neg (by decide)]; simp only; omega
theorem norm_in {s : St} {d : List Int} (hd : bytes d) : In (norm s) (num d ((norm s).n + 4)) ↔ In s (num d (s.n + 4)) := by
  unfold In norm
  split
  · have := bytes_getD hd (s.n + 4)
    unfold byte at this
    simp only
    rw [show s.n + 1 + 4 = (s.n + 4) + 1 by omega, num]
    omega
  · exact Iff.rfl
/-- Probabilities and interval. -/
abbrev X := List Int × St
def pr (x : X) (c : Int) : Int := x.1.getD c.toNat 0
def step (x : X) (y : Int × Int) : X := (x.1.set y.1.toNat (adp (pr x y.1) y.2), enc x.2 (pr x y.1) y.2)
def run (x : X) (l : List (Int × Int)) : X := l.foldl step x
structure OkX (x : X) : Prop where
  ps : ∀ p ∈ x.1, prob p
  st : Ok x.2
def sym (n : Nat) (y : Int × Int) : Prop := 0 ≤ y.1 ∧ y.1 < n ∧ bit y.2
theorem step_len (x : X) (y : Int × Int) : (step x y).1.length = x.1.length := by simp [step]
theorem run_len (l : List (Int × Int)) : ∀ x : X, (run x l).1.length = x.1.length := by
  induction l with
  | nil => intro x; rfl
  | cons y l ih => intro x; exact (ih (step x y)).trans (step_len x y)
theorem pr_prob {x : X} (h : OkX x) {c : Int} (h0 : 0 ≤ c) (h1 : c < x.1.length) : prob (pr x c) := by
  unfold pr
  rw [List.getD_eq_getElem?_getD, List.getElem?_eq_getElem (by omega)]
  exact h.ps _ (List.getElem_mem _)
theorem step_ok {x : X} {y : Int × Int} (h : OkX x) (h0 : 0 ≤ y.1) (h1 : y.1 < x.1.length) : OkX (step x y) := by
  have hp := pr_prob h h0 h1
  refine ⟨fun p hp' => ?_, enc_ok _ h.st hp⟩
  rcases List.mem_or_eq_of_mem_set hp' with h2 | rfl
  · exact h.ps p h2
  · exact adp_prob _ hp
theorem run_ok {n : Nat} (l : List (Int × Int)) : ∀ x : X, OkX x → x.1.length = n → (∀ y ∈ l, sym n y) → OkX (run x l) := by
  induction l with
  | nil => intro x h _ _; exact h
  | cons y l ih =>
    intro x h hn hs
    have := hs y (by simp)
    exact ih (step x y) (step_ok h this.1 (by rw [hn]; exact this.2.1)) ((step_len x y).trans hn) (fun z hz => hs z (by simp [hz]))
theorem run_snoc (x : X) (l : List (Int × Int)) (y : Int × Int) : run x (l ++ [y]) = step (run x l) y := by simp [run, List.foldl_append]
theorem run_app (x : X) (l m : List (Int × Int)) : run x (l ++ m) = run (run x l) m := by simp [run, List.foldl_append]
theorem run_n {n : Nat} (l : List (Int × Int)) : ∀ x : X, OkX x → x.1.length = n → (∀ y ∈ l, sym n y) → x.2.n ≤ (run x l).2.n ∧ (run x l).2.n ≤ x.2.n + l.length := by
  induction l with
  | nil => intro x _ _ _; exact ⟨Nat.le_refl _, Nat.le_refl _⟩
  | cons y l ih =>
    intro x h hn hs
    have hy := hs y (by simp)
    have h1 := ih (step x y) (step_ok h hy.1 (by rw [hn]; exact hy.2.1)) ((step_len x y).trans hn) (fun z hz => hs z (by simp [hz]))
    have h2 := enc_n y.2 h.st (pr_prob h hy.1 (by rw [hn]; exact hy.2.1))
    have e : (step x y).2.n = (enc x.2 (pr x y.1) y.2).n := rfl
    rw [e] at h1
    have e2 : run x (y :: l) = run (step x y) l := rfl
    rw [e2, List.length_cons]
    omega
/-- What a decoder of some bytes decodes in the context of the next symbol. -/
def dnext (x : X) (d : List Int) (c : Int) : Int := dbit x.2 (pr x c) (num d (x.2.n + 4))
/-- How many symbols are decoded before one differs. -/
def dc (x : X) (d : List Int) : List (Int × Int) → Nat
  | [] => 0
  | y :: l => if dnext x d y.1 = y.2 then 1 + dc (step x y) d l else 0
def InX (x : X) (d : List Int) : Prop := In x.2 (num d (x.2.n + 4))
theorem step_back {x : X} {d : List Int} {y : Int × Int} (h : OkX x) (hd : bytes d) (h0 : 0 ≤ y.1) (h1 : y.1 < x.1.length) (hb : bit y.2) (hi : InX (step x y) d) : InX x d ∧ dnext x d y.1 = y.2 := by
  have hp := pr_prob h h0 h1
  have c5 := (cut_bd y.2 h.st hp).2.2.2.2
  have hi' : In (cut x.2 (pr x y.1) y.2) (num d ((cut x.2 (pr x y.1) y.2).n + 4)) := (norm_in hd).1 hi
  rw [c5] at hi'
  have pb := part_bd h.st hp
  exact cut_in hb hi' ⟨by omega, by omega⟩
theorem step_fwd {x : X} {d : List Int} {y : Int × Int} (h : OkX x) (hd : bytes d) (h0 : 0 ≤ y.1) (h1 : y.1 < x.1.length) (hi : InX x d) (hy : dnext x d y.1 = y.2) : InX (step x y) d := by
  have hp := pr_prob h h0 h1
  have c5 := (cut_bd y.2 h.st hp).2.2.2.2
  refine (norm_in hd).2 ?_
  rw [c5, ← hy]
  exact in_cut hi
theorem run_back {n : Nat} {d : List Int} (hd : bytes d) (l : List (Int × Int)) : ∀ x : X, OkX x → x.1.length = n → (∀ y ∈ l, sym n y) → InX (run x l) d → InX x d ∧ dc x d l = l.length := by
  induction l with
  | nil => intro x _ _ _ h; exact ⟨h, rfl⟩
  | cons y l ih =>
    intro x h hn hs hi
    obtain ⟨y0, y1, yb⟩ := hs y (by simp)
    have y1' : y.1 < x.1.length := by rw [hn]; exact y1
    obtain ⟨i1, i2⟩ := ih (step x y) (step_ok h y0 y1') ((step_len x y).trans hn) (fun z hz => hs z (by simp [hz])) hi
    obtain ⟨j1, j2⟩ := step_back h hd y0 y1' yb i1
    exact ⟨j1, by rw [dc, if_pos j2, i2, List.length_cons]; omega⟩
theorem run_fwd {n : Nat} {d : List Int} (hd : bytes d) (l : List (Int × Int)) : ∀ x : X, OkX x → x.1.length = n → (∀ y ∈ l, sym n y) → InX x d → dc x d l = l.length → InX (run x l) d := by
  induction l with
  | nil => intro x _ _ _ h _; exact h
  | cons y l ih =>
    intro x h hn hs hi hc
    obtain ⟨y0, y1, yb⟩ := hs y (by simp)
    have y1' : y.1 < x.1.length := by rw [hn]; exact y1
    rw [dc] at hc
    split at hc
    · rename_i hy
      exact ih (step x y) (step_ok h y0 y1') ((step_len x y).trans hn) (fun z hz => hs z (by simp [hz])) (step_fwd h hd y0 y1' hi hy) (by rw [List.length_cons] at hc; omega)
    · rw [List.length_cons] at hc; omega
theorem dc_le (d : List Int) (l : List (Int × Int)) : ∀ x : X, dc x d l ≤ l.length := by
  induction l with
  | nil => intro x; exact Nat.le_refl _
  | cons y l ih => intro x; rw [dc, List.length_cons]; split; have := ih (step x y); omega; omega
/-- The codeword's number. -/
def cwv (s : St) : Int := if (-s.lo) % 4294967296 < s.rg then s.lo + (-s.lo) % 4294967296 else s.lo + (-s.lo) % 16777216
theorem cwv_in {s : St} (h : Ok s) : In s (cwv s) := by
  have h1 := h.r1
  unfold In cwv
  split <;> omega
theorem cwv_24 (s : St) : cwv s % 16777216 = 0 := by
  unfold cwv; split <;> omega
/-- The codeword. -/
def cw (s : St) : List Int := trim (dig (s.n + 1) (cwv s / 16777216))
theorem cw_bytes (s : St) : bytes (cw s) := by
  rw [cw, (trim_pre _).2.1]; exact bytes_take (dig_bytes _ _) _
theorem num_dig (k : Nat) (v : Int) (h0 : 0 ≤ v) (h1 : v + 1 ≤ Pw k) : num (dig k v) k = v := by
  rw [num_take _ _ (by rw [dig_len]; omega), List.take_of_length_le (by rw [dig_len]; omega), val_dig k v h0 h1]
theorem cw_num {s : St} (h : Ok s) : num (cw s) (s.n + 4) = cwv s := by
  have h2 := cwv_in h
  have h3 := h.top
  have h4 := h.lo
  have h5 := cwv_24 s
  unfold In at h2
  have hl : (dig (s.n + 1) (cwv s / 16777216)).length = s.n + 1 := dig_len _ _
  have h6 := num_dig (s.n + 1) (cwv s / 16777216) (by omega) (by rw [Pw_succ]; omega)
  rw [cw, trim_num, num, num, num, getD_over (by omega), getD_over (by omega), getD_over (by omega), h6]
  omega
theorem cw_InX {x : X} (h : OkX x) : InX x (cw x.2) := by
  unfold InX; rw [cw_num h.st]; exact cwv_in h.st
theorem cw_len (s : St) : (cw s).length ≤ s.n + 1 := by
  have := (trim_pre (dig (s.n + 1) (cwv s / 16777216))).1
  rw [dig_len] at this; exact this
/-- The first four bytes are at most 2^32 - 2. -/
def fixd (d : List Int) : List Int := if num d 4 = 4294967295 then d.set 3 254 else d
theorem fixd_len (d : List Int) : (fixd d).length = d.length := by unfold fixd; split <;> simp
theorem fixd_bytes {d : List Int} (h : bytes d) : bytes (fixd d) := by
  unfold fixd
  split
  · intro x hx
    rcases List.mem_or_eq_of_mem_set hx with h1 | rfl
    · exact h x h1
    · exact ⟨by decide, by decide⟩
  · exact h
theorem fixd_at {d : List Int} {i : Nat} (hi : 4 ≤ i) : (fixd d).getD i 0 = d.getD i 0 := by
  unfold fixd
  split
  · rw [List.getD_eq_getElem?_getD, List.getD_eq_getElem?_getD, List.getElem?_set_ne (by omega)]
  · rfl
theorem fixd_num {d : List Int} (h : bytes d) : num (fixd d) 4 = min (num d 4) 4294967294 := by
  have hb := (num_bd h 4).2
  have e : Pw 4 = 4294967296 := by decide
  rw [e] at hb
  unfold fixd
  split
  · rename_i hh
    have b3 := bytes_getD h 3
    have n3 := (num_bd h 3).2
    rw [show Pw 3 = 16777216 by decide] at n3
    unfold byte at b3
    have hl : 3 < d.length := by
      rcases Nat.lt_or_ge 3 d.length with h1 | h1
      · exact h1
      · have := getD_over (d := d) (k := 3) h1
        rw [num] at hh
        omega
    have e3 : (d.set 3 254).getD 3 0 = 254 := by
      rw [List.getD_eq_getElem?_getD, List.getElem?_set_self hl]; rfl
    have eo : ∀ i, i < 3 → (d.set 3 254).getD i 0 = d.getD i 0 := fun i hi => by
      rw [List.getD_eq_getElem?_getD, List.getD_eq_getElem?_getD, List.getElem?_set_ne (by omega)]
    have e4 : num (d.set 3 254) 3 = num d 3 := num_congr eo
    rw [hh, num, e3, e4]
    rw [num] at hh
    omega
  · omega
theorem fixd_id {d : List Int} (h : num d 4 < 4294967295) : fixd d = d := by
  unfold fixd; rw [if_neg (by omega)]
theorem fixd_in {ps : List Int} {d : List Int} (h : bytes d) : InX (ps, St.init) (fixd d) := by
  have h1 := fixd_num h
  have h2 := (num_bd h 4).1
  show In St.init (num (fixd d) (0 + 4))
  rw [show (0 + 4) = 4 from rfl, h1]
  exact ⟨by show (0 : Int) ≤ _; omega, by show _ < (0 : Int) + 4294967295; omega⟩
/-- The codeword of a run from the start begins with less than the greatest number. -/
theorem init_lt {ps : List Int} {d : List Int} (h : InX (ps, St.init) d) : num d 4 < 4294967295 := by
  have : num d (0 + 4) < (0 : Int) + 4294967295 := h.2
  rw [show (0 + 4) = 4 from rfl] at this
  omega
/-- P11.5 -/
theorem restores {n : Nat} {ps : List Int} {l : List (Int × Int)} (hx : OkX (ps, St.init)) (hn : ps.length = n) (hs : ∀ y ∈ l, sym n y) : dc (ps, St.init) (fixd (cw (run (ps, St.init) l).2)) l = l.length := by
  have hk := run_ok l _ hx hn hs
  have h1 := cw_InX hk
  have h2 := run_back (cw_bytes _) l _ hx hn hs h1
  rw [fixd_id (init_lt h2.1)]
  exact h2.2
/-- P11.6 -/
theorem prefixes {n : Nat} {ps : List Int} {l m : List (Int × Int)} {e : List Int} (hx : OkX (ps, St.init)) (hn : ps.length = n) (hs : ∀ y ∈ l, sym n y) (hm : ∀ y ∈ m, sym n y)
    (he : bytes e) (hc : ∀ i, i < (run (ps, St.init) l).2.n + 4 → e.getD i 0 = (cw (run (ps, St.init) (l ++ m)).2).getD i 0) : dc (ps, St.init) (fixd e) l = l.length := by
  have hk := run_ok l _ hx hn hs
  have hk2 := run_ok m _ hk ((run_len l _).trans hn) hm
  rw [run_app] at hc
  have h1 := cw_InX hk2
  have h2 := (run_back (cw_bytes _) m _ hk ((run_len l _).trans hn) hm h1).1
  have h3 : InX (run (ps, St.init) l) e := by
    unfold InX at *
    rw [num_congr hc]; exact h2
  have h4 := run_back he l _ hx hn hs h3
  rw [fixd_id (init_lt h4.1)]
  exact h4.2
theorem num_short {d : List Int} {k : Nat} (h : d.length ≤ k) : num d (k + 4) = 4294967296 * num d k := by
  rw [num, num, num, num, getD_over (by omega), getD_over (by omega), getD_over (by omega), getD_over (by omega)]
  omega
/-- P11.7 -/
theorem shortest {n : Nat} {ps : List Int} {l : List (Int × Int)} {e : List Int} (hx : OkX (ps, St.init)) (hn : ps.length = n) (hs : ∀ y ∈ l, sym n y)
    (he : bytes e) (hlen : e.length < (cw (run (ps, St.init) l).2).length) : dc (ps, St.init) (fixd e) l < l.length := by
  rcases Nat.lt_or_ge (dc (ps, St.init) (fixd e) l) l.length with h | h
  · exact h
  exfalso
  have hk := run_ok l _ hx hn hs
  have h1 := run_fwd (fixd_bytes he) l _ hx hn hs (fixd_in he) (by have := dc_le (fixd e) l (ps, St.init); omega)
  generalize hS : (run (ps, St.init) l) = x at *
  obtain ⟨qs, s⟩ := x
  have hok : Ok s := hk.st
  have hcl := cw_len s
  have hel : (fixd e).length ≤ s.n := by rw [fixd_len]; simp only at hlen; omega
  have hu : num (fixd e) (s.n + 4) = 4294967296 * num (fixd e) s.n := num_short hel
  have hin : In s (num (fixd e) (s.n + 4)) := h1
  have hcin := cwv_in hok
  have hnum := cw_num hok
  unfold In at hin hcin
  have hr := hok.r2
  have hA : (-s.lo) % 4294967296 < s.rg := by omega
  have hv : cwv s = s.lo + (-s.lo) % 4294967296 := by unfold cwv; rw [if_pos hA]
  have heq : num (fixd e) (s.n + 4) = num (cw s) (s.n + 4) := by rw [hnum]; omega
  have hb := num_inj (fixd_bytes he) (cw_bytes s) (s.n + 4) heq
  have hlast := (trim_pre (dig (s.n + 1) (cwv s / 16777216))).2.2.2
  have hpos : 0 < (cw s).length := by simp only at hlen; omega
  have h9 := hb ((cw s).length - 1) (by omega)
  rw [getD_over (by rw [fixd_len]; simp only at hlen; omega)] at h9
  exact hlast hpos h9.symm
end Am
end Go.Proofs.YtnmmgjbjnhiaoaaDoor
