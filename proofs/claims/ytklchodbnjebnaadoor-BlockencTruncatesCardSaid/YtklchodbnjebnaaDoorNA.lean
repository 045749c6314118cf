/-
  Numbers to the base 256, the interval of an arithmetic coder: plain mathematics of layer 11. No program in sight.
  Bits in bytes, eight by eight: plain mathematics of layer 12. No program in sight.
  Bytes behind a slice; bytes.TrimRight with a zero byte, bytes.Clone.
  The code's writer of layer 12: made, step, Put, Size, Terminate, NewWriter.
-/
import Derived.Below
import Derived.Test.YtklchodbnjebnaaDoorObj6
import Derived.Laws.AppendOwn
import Derived.Laws.AppendOwnNone
import Derived.LaidEqlPtr
import Derived.Lib.Hide
import Derived.Lib.SliceRun
import Derived.Laws.BitsAllLaws
import Derived.Maps.AppendAt
set_option maxRecDepth 100000
namespace Go.Proofs.YtklchodbnjebnaaDoor
namespace Am

def byte (x : Int) : Prop := 0 ≤ x ∧ x ≤ 255
def bytes (l : List Int) : Prop := ∀ x ∈ l, byte x
theorem bytes_nil : bytes [] := fun _ h => by simp at h
theorem bytes_snoc {l : List Int} {b : Int} (h : bytes l) (hb : byte b) : bytes (l ++ [b]) := fun x hx => by
  rcases List.mem_append.1 hx with h1 | h1
  · exact h x h1
  · simp at h1; subst h1; exact hb
theorem bytes_app {l m : List Int} (h : bytes l) (hm : bytes m) : bytes (l ++ m) := fun x hx => (List.mem_append.1 hx).elim (h x) (hm x)
theorem bytes_take {l : List Int} (h : bytes l) (k : Nat) : bytes (l.take k) := fun x hx => h x (List.mem_of_mem_take hx)
theorem bytes_getD {l : List Int} (h : bytes l) (k : Nat) : byte (l.getD k 0) := by
  rw [List.getD_eq_getElem?_getD]
  by_cases hk : k < l.length
  · rw [List.getElem?_eq_getElem hk]; exact h _ (List.getElem_mem hk)
  · rw [List.getElem?_eq_none (by omega)]; exact ⟨by decide, by decide⟩
/-- The power of 256. -/
def Pw (n : Nat) : Int := 256 ^ n
theorem Pw_zero : Pw 0 = 1 := rfl
theorem Pw_succ (n : Nat) : Pw (n + 1) = 256 * Pw n := by unfold Pw; rw [Int.pow_succ, Int.mul_comm]
theorem Pw_pos (n : Nat) : 1 ≤ Pw n := by
  induction n with
  | zero => decide
  | succ n ih => rw [Pw_succ]; omega
/-- The number that bytes are, the most significant one first. -/
def val (l : List Int) : Int := l.foldl (fun a x => 256 * a + x) 0
theorem val_nil : val [] = 0 := rfl
theorem val_snoc (l : List Int) (x : Int) : val (l ++ [x]) = 256 * val l + x := by simp [val, List.foldl_append]
theorem rev_ind {p : List Int → Prop} (h0 : p []) (h1 : ∀ l x, p l → p (l ++ [x])) (l : List Int) : p l := by
  have key : ∀ l : List Int, p l.reverse := by
    intro l
    induction l with
    | nil => exact h0
    | cons x l ih => rw [List.reverse_cons]; exact h1 _ _ ih
  have := key l.reverse
  rwa [List.reverse_reverse] at this
theorem bytes_init {l : List Int} {x : Int} (h : bytes (l ++ [x])) : bytes l ∧ byte x := ⟨fun y hy => h y (List.mem_append_left _ hy), h x (by simp)⟩
theorem val_bd (l : List Int) : bytes l → 0 ≤ val l ∧ val l + 1 ≤ Pw l.length := by
  induction l using rev_ind with
  | h0 => intro _; exact ⟨by decide, by decide⟩
  | h1 l x ih =>
    intro h
    obtain ⟨h1, h2⟩ := bytes_init h
    obtain ⟨i1, i2⟩ := ih h1
    obtain ⟨b1, b2⟩ := h2
    rw [val_snoc, List.length_append, List.length_singleton, Pw_succ]
    omega
theorem val_zeros (l : List Int) (z : Nat) : val (l ++ List.replicate z 0) = val l * Pw z := by
  induction z with
  | zero => simp [Pw_zero]
  | succ z ih => rw [List.replicate_succ', ← List.append_assoc, val_snoc, ih, Pw_succ, Int.mul_left_comm, Int.add_zero]
/-- So many digits of a number. -/
def dig : Nat → Int → List Int
  | 0, _ => []
  | k + 1, v => dig k (v / 256) ++ [v % 256]
theorem dig_len (k : Nat) : ∀ v, (dig k v).length = k := by
  induction k with
  | zero => intro v; rfl
  | succ k ih => intro v; simp [dig, ih]
theorem dig_bytes (k : Nat) : ∀ v, bytes (dig k v) := by
  induction k with
  | zero => intro v; exact bytes_nil
  | succ k ih => intro v; exact bytes_snoc (ih _) ⟨by omega, by omega⟩
theorem dig_val (l : List Int) : bytes l → dig l.length (val l) = l := by
  induction l using rev_ind with
  | h0 => intro _; rfl
  | h1 l x ih =>
    intro h
    obtain ⟨h1, h2, h3⟩ := bytes_init h
    rw [List.length_append, List.length_singleton, val_snoc, dig, show (256 * val l + x) / 256 = val l by omega, show (256 * val l + x) % 256 = x by omega, ih h1]
theorem val_dig (k : Nat) : ∀ v, 0 ≤ v → v + 1 ≤ Pw k → val (dig k v) = v := by
  induction k with
  | zero => intro v h0 h1; rw [Pw_zero] at h1; have : v = 0 := by omega
            subst this; rfl
  | succ k ih =>
    intro v h0 h1
    rw [Pw_succ] at h1
    rw [dig, val_snoc, ih (v / 256) (by omega) (by omega)]
    omega
theorem val_inj {l m : List Int} (hl : bytes l) (hm : bytes m) (hn : l.length = m.length) (h : val l = val m) : l = m := by
  rw [← dig_val l hl, ← dig_val m hm, hn, h]
/-- The number of the first bytes, zeros behind the end. -/
def num (d : List Int) : Nat → Int
  | 0 => 0
  | k + 1 => 256 * num d k + d.getD k 0
theorem num_take (d : List Int) (k : Nat) (h : k ≤ d.length) : num d k = val (d.take k) := by
  induction k with
  | zero => rfl
  | succ k ih =>
    rw [num, ih (by omega), List.take_succ_eq_append_getElem (by omega), val_snoc, List.getD_eq_getElem?_getD, List.getElem?_eq_getElem (by omega)]
    rfl
theorem num_bd {d : List Int} (h : bytes d) (k : Nat) : 0 ≤ num d k ∧ num d k + 1 ≤ Pw k := by
  induction k with
  | zero => simp [num, Pw_zero]
  | succ k ih =>
    have := bytes_getD h k
    unfold byte at this
    rw [num, Pw_succ]; omega
theorem num_congr {d e : List Int} {k : Nat} (h : ∀ i, i < k → d.getD i 0 = e.getD i 0) : num d k = num e k := by
  induction k with
  | zero => rfl
  | succ k ih => rw [num, num, ih (fun i hi => h i (by omega)), h k (by omega)]
theorem num_inj {d e : List Int} (hd : bytes d) (he : bytes e) (k : Nat) : num d k = num e k → ∀ i, i < k → d.getD i 0 = e.getD i 0 := by
  induction k with
  | zero => intro _ i hi; omega
  | succ k ih =>
    intro h i hi
    have h1 := bytes_getD hd k
    have h2 := bytes_getD he k
    unfold byte at h1 h2
    rw [num, num] at h
    by_cases hk : i = k
    · subst hk; omega
    · exact ih (by omega) i (by omega)
theorem getD_over {d : List Int} {k : Nat} (h : d.length ≤ k) : d.getD k 0 = 0 := by
  rw [List.getD_eq_getElem?_getD, List.getElem?_eq_none h]; rfl
/-- Zero bytes at the end removed. -/
def trim (l : List Int) : List Int := (l.reverse.dropWhile (· == 0)).reverse
theorem trim_nil : trim [] = [] := rfl
theorem trim_zero (l : List Int) : trim (l ++ [0]) = trim l := by simp [trim]
theorem trim_other (l : List Int) (x : Int) (h : x ≠ 0) : trim (l ++ [x]) = l ++ [x] := by simp [trim, h]
theorem trim_pre (l : List Int) : (trim l).length ≤ l.length ∧ trim l = l.take (trim l).length ∧ (∀ i, (trim l).getD i 0 = l.getD i 0) ∧ (0 < (trim l).length → (trim l).getD ((trim l).length - 1) 0 ≠ 0) := by
  induction l using rev_ind with
  | h0 => exact ⟨Nat.le_refl _, rfl, fun _ => rfl, fun h => by simp [trim_nil] at h⟩
  | h1 l x ih =>
    obtain ⟨i1, i2, i3, i4⟩ := ih
    by_cases hx : x = 0
    · subst hx
      rw [trim_zero]
      refine ⟨by rw [List.length_append]; omega, ?_, fun i => ?_, i4⟩
      · rw [List.take_append_of_le_length i1]; exact i2
      · rw [i3, List.getD_eq_getElem?_getD, List.getD_eq_getElem?_getD]
        by_cases h : i < l.length
        · rw [List.getElem?_append_left h]
        · rw [List.getElem?_eq_none (by omega), List.getElem?_append_right (by omega)]
          cases h2 : i - l.length with
          | zero => rfl
          | succ j => rfl
    · rw [trim_other l x hx]
      refine ⟨Nat.le_refl _, by rw [List.take_length], fun _ => rfl, fun _ => ?_⟩
      rw [List.getD_eq_getElem?_getD, List.length_append, List.length_singleton, List.getElem?_append_right (by omega)]
      simpa using hx
theorem trim_num (l : List Int) (k : Nat) : num (trim l) k = num l k := num_congr fun i _ => (trim_pre l).2.2.1 i

/-- low, range, n. -/
structure St where
  lo : Int
  rg : Int
  n : Nat
def St.init : St := ⟨0, 4294967295, 0⟩
/-- The part of the range that belongs to the bit 0. -/
def part (s : St) (p : Int) : Int := s.rg / 4096 * p
def cut (s : St) (p b : Int) : St := if b = 0 then ⟨s.lo, part s p, s.n⟩ else ⟨s.lo + part s p, s.rg - part s p, s.n⟩
def norm (s : St) : St := if s.rg < 16777216 then ⟨256 * s.lo, 256 * s.rg, s.n + 1⟩ else s
def enc (s : St) (p b : Int) : St := norm (cut s p b)
structure Ok (s : St) : Prop where
  lo : 0 ≤ s.lo
  r1 : 16777216 ≤ s.rg
  r2 : s.rg ≤ 4294967295
  top : s.lo + s.rg ≤ 4294967296 * Pw s.n
def prob (p : Int) : Prop := 31 ≤ p ∧ p ≤ 4065
theorem ok_init : Ok St.init := ⟨by decide, by decide, by decide, by decide⟩
theorem part_bd {s : St} {p : Int} (h : Ok s) (hp : prob p) : 65536 ≤ part s p ∧ part s p + 65536 ≤ s.rg ∧ 4096 ≤ s.rg / 4096 ∧ s.rg / 4096 ≤ 1048575 := by
  have h1 := h.r1
  have h2 := h.r2
  obtain ⟨q, hq⟩ : ∃ q, q = s.rg / 4096 := ⟨_, rfl⟩
  have e : part s p = q * p := by rw [hq]; rfl
  have q0 : 4096 ≤ q := by omega
  have m1 : q * 31 ≤ q * p := Int.mul_le_mul_of_nonneg_left hp.1 (by omega)
  have m2 : q * p ≤ q * 4065 := Int.mul_le_mul_of_nonneg_left hp.2 (by omega)
  rw [e, ← hq]
  omega
theorem cut_bd {s : St} {p : Int} (b : Int) (h : Ok s) (hp : prob p) : s.lo ≤ (cut s p b).lo ∧ (cut s p b).lo + (cut s p b).rg ≤ s.lo + s.rg ∧ 65536 ≤ (cut s p b).rg ∧ (cut s p b).rg ≤ 4294967295 ∧ (cut s p b).n = s.n := by
  have := part_bd h hp
  have h2 := h.r2
  unfold cut
  by_cases hb : b = 0
  · rw [if_pos hb]; dsimp only; omega
  · rw [if_neg hb]; dsimp only; omega
theorem enc_ok {s : St} {p : Int} (b : Int) (h : Ok s) (hp : prob p) : Ok (enc s p b) := by
  obtain ⟨c1, c2, c3, c4, c5⟩ := cut_bd b h hp
  have h0 := h.lo
  have h3 := h.top
  unfold enc norm
  split
  · refine ⟨?_, ?_, ?_, ?_⟩ <;> simp only
    · omega
    · omega
    · omega
    · rw [Pw_succ, c5]; omega
  · exact ⟨by omega, by omega, c4, by rw [c5]; omega⟩
theorem enc_ne {s : St} {p : Int} (b : Int) (h : Ok s) (hp : prob p) : (enc s p b).rg ≠ 4294967295 := by
  have := part_bd h hp
  have h2 := h.r2
  unfold enc norm cut
  by_cases hb : b = 0
  · rw [if_pos hb]; dsimp only; split <;> (dsimp only; omega)
  · rw [if_neg hb]; dsimp only; split <;> (dsimp only; omega)
theorem enc_n {s : St} {p : Int} (b : Int) (h : Ok s) (hp : prob p) : s.n ≤ (enc s p b).n ∧ (enc s p b).n ≤ s.n + 1 := by
  have c5 := (cut_bd b h hp).2.2.2.2
  unfold enc norm
  split
  · dsimp only; omega
  · omega
/-- The probability after a bit. -/
def adp (p b : Int) : Int := if b = 0 then p + (4096 - p) / 32 else p - p / 32
theorem adp_prob {p : Int} (b : Int) (h : prob p) : prob (adp p b) := by
  unfold prob at *; unfold adp; split <;> omega
/-- The number lies in the interval. -/
def In (s : St) (u : Int) : Prop := s.lo ≤ u ∧ u < s.lo + s.rg
/-- The bit that is decoded. -/
def dbit (s : St) (p u : Int) : Int := if u - s.lo < part s p then 0 else 1
def bit (b : Int) : Prop := b = 0 ∨ b = 1
theorem cut_in {s : St} {p b u : Int} (hb : bit b) : In (cut s p b) u → (0 ≤ part s p ∧ part s p ≤ s.rg) → In s u ∧ dbit s p u = b := by
  unfold In cut dbit
  rintro ⟨h1, h2⟩ ⟨h3, h4⟩
  rcases hb with rfl | rfl
  · simp only [if_true] at h1 h2
    exact ⟨by omega, by rw [if_pos (by omega)]⟩
  · simp only [show (1 : Int) = 0 ↔ False by decide, if_false] at h1 h2
    exact ⟨by omega, by rw [if_neg (by omega)]⟩
theorem in_cut {s : St} {p u : Int} (h : In s u) : In (cut s p (dbit s p u)) u := by
  unfold In at *
  unfold cut dbit
  by_cases h3 : u - s.lo < part s p
  · rw [if_pos h3, if_pos rfl]; simp only; omega
  · rw [if_neg h3, if_neg (by decide)]; simp only; omega
theorem norm_in {s : St} {d : List Int} (hd : bytes d) : In (norm s) (num d ((norm s).n + 4)) ↔ In s (num d (s.n + 4)) := by
  unfold In norm
  split
  · have := bytes_getD hd (s.n + 4)
    unfold byte at this
    simp only
    rw [show s.n + 1 + 4 = (s.n + 4) + 1 by omega, num]
    omega
  · exact Iff.rfl
/-- Probabilities and interval. -/
abbrev X := List Int × St
def pr (x : X) (c : Int) : Int := x.1.getD c.toNat 0
def step (x : X) (y : Int × Int) : X := (x.1.set y.1.toNat (adp (pr x y.1) y.2), enc x.2 (pr x y.1) y.2)
def run (x : X) (l : List (Int × Int)) : X := l.foldl step x
structure OkX (x : X) : Prop where
  ps : ∀ p ∈ x.1, prob p
  st : Ok x.2
def sym (n : Nat) (y : Int × Int) : Prop := 0 ≤ y.1 ∧ y.1 < n ∧ bit y.2
theorem step_len (x : X) (y : Int × Int) : (step x y).1.length = x.1.length := by simp [step]
theorem run_len (l : List (Int × Int)) : ∀ x : X, (run x l).1.length = x.1.length := by
  induction l with
  | nil => intro x; rfl
  | cons y l ih => intro x; exact (ih (step x y)).trans (step_len x y)
theorem pr_prob {x : X} (h : OkX x) {c : Int} (h0 : 0 ≤ c) (h1 : c < x.1.length) : prob (pr x c) := by
  unfold pr
  rw [List.getD_eq_getElem?_getD, List.getElem?_eq_getElem (by omega)]
  exact h.ps _ (List.getElem_mem _)
theorem step_ok {x : X} {y : Int × Int} (h : OkX x) (h0 : 0 ≤ y.1) (h1 : y.1 < x.1.length) : OkX (step x y) := by
  have hp := pr_prob h h0 h1
  refine ⟨fun p hp' => ?_, enc_ok _ h.st hp⟩
  rcases List.mem_or_eq_of_mem_set hp' with h2 | rfl
  · exact h.ps p h2
  · exact adp_prob _ hp
theorem run_ok {n : Nat} (l : List (Int × Int)) : ∀ x : X, OkX x → x.1.length = n → (∀ y ∈ l, sym n y) → OkX (run x l) := by
  induction l with
  | nil => intro x h _ _; exact h
  | cons y l ih =>
    intro x h hn hs
    have := hs y (by simp)
    exact ih (step x y) (step_ok h this.1 (by rw [hn]; exact this.2.1)) ((step_len x y).trans hn) (fun z hz => hs z (by simp [hz]))
theorem run_snoc (x : X) (l : List (Int × Int)) (y : Int × Int) : run x (l ++ [y]) = step (run x l) y := by simp [run, List.foldl_append]
theorem run_app (x : X) (l m : List (Int × Int)) : run x (l ++ m) = run (run x l) m := by simp [run, List.foldl_append]
theorem run_n {n : Nat} (l : List (Int × Int)) : ∀ x : X, OkX x → x.1.length = n → (∀ y ∈ l, sym n y) → x.2.n ≤ (run x l).2.n ∧ (run x l).2.n ≤ x.2.n + l.length := by
  induction l with
  | nil => intro x _ _ _; exact ⟨Nat.le_refl _, Nat.le_refl _⟩
  | cons y l ih =>
    intro x h hn hs
    have hy := hs y (by simp)
    have h1 := ih (step x y) (step_ok h hy.1 (by rw [hn]; exact hy.2.1)) ((step_len x y).trans hn) (fun z hz => hs z (by simp [hz]))
    have h2 := enc_n y.2 h.st (pr_prob h hy.1 (by rw [hn]; exact hy.2.1))
    have e : (step x y).2.n = (enc x.2 (pr x y.1) y.2).n := rfl
    rw [e] at h1
    have e2 : run x (y :: l) = run (step x y) l := rfl
    rw [e2, List.length_cons]
    omega
/-- What a decoder of some bytes decodes in the context of the next symbol. -/
def dnext (x : X) (d : List Int) (c : Int) : Int := dbit x.2 (pr x c) (num d (x.2.n + 4))
/-- How many symbols are decoded before one differs. -/
def dc (x : X) (d : List Int) : List (Int × Int) → Nat
  | [] => 0
  | y :: l => if dnext x d y.1 = y.2 then 1 + dc (step x y) d l else 0
def InX (x : X) (d : List Int) : Prop := In x.2 (num d (x.2.n + 4))
theorem step_back {x : X} {d : List Int} {y : Int × Int} (h : OkX x) (hd : bytes d) (h0 : 0 ≤ y.1) (h1 : y.1 < x.1.length) (hb : bit y.2) (hi : InX (step x y) d) : InX x d ∧ dnext x d y.1 = y.2 := by
  have hp := pr_prob h h0 h1
  have c5 := (cut_bd y.2 h.st hp).2.2.2.2
  have hi' : In (cut x.2 (pr x y.1) y.2) (num d ((cut x.2 (pr x y.1) y.2).n + 4)) := (norm_in hd).1 hi
  rw [c5] at hi'
  have pb := part_bd h.st hp
  exact cut_in hb hi' ⟨by omega, by omega⟩
theorem step_fwd {x : X} {d : List Int} {y : Int × Int} (h : OkX x) (hd : bytes d) (h0 : 0 ≤ y.1) (h1 : y.1 < x.1.length) (hi : InX x d) (hy : dnext x d y.1 = y.2) : InX (step x y) d := by
  have hp := pr_prob h h0 h1
  have c5 := (cut_bd y.2 h.st hp).2.2.2.2
  refine (norm_in hd).2 ?_
  rw [c5, ← hy]
  exact in_cut hi
theorem run_back {n : Nat} {d : List Int} (hd : bytes d) (l : List (Int × Int)) : ∀ x : X, OkX x → x.1.length = n → (∀ y ∈ l, sym n y) → InX (run x l) d → InX x d ∧ dc x d l = l.length := by
  induction l with
  | nil => intro x _ _ _ h; exact ⟨h, rfl⟩
  | cons y l ih =>
    intro x h hn hs hi
    obtain ⟨y0, y1, yb⟩ := hs y (by simp)
    have y1' : y.1 < x.1.length := by rw [hn]; exact y1
    obtain ⟨i1, i2⟩ := ih (step x y) (step_ok h y0 y1') ((step_len x y).trans hn) (fun z hz => hs z (by simp [hz])) hi
    obtain ⟨j1, j2⟩ := step_back h hd y0 y1' yb i1
    exact ⟨j1, by rw [dc, if_pos j2, i2, List.length_cons]; omega⟩
theorem run_fwd {n : Nat} {d : List Int} (hd : bytes d) (l : List (Int × Int)) : ∀ x : X, OkX x → x.1.length = n → (∀ y ∈ l, sym n y) → InX x d → dc x d l = l.length → InX (run x l) d := by
  induction l with
  | nil => intro x _ _ _ h _; exact h
  | cons y l ih =>
    intro x h hn hs hi hc
    obtain ⟨y0, y1, yb⟩ := hs y (by simp)
    have y1' : y.1 < x.1.length := by rw [hn]; exact y1
    rw [dc] at hc
    split at hc
    · rename_i hy
      exact ih (step x y) (step_ok h y0 y1') ((step_len x y).trans hn) (fun z hz => hs z (by simp [hz])) (step_fwd h hd y0 y1' hi hy) (by rw [List.length_cons] at hc; omega)
    · rw [List.length_cons] at hc; omega
theorem dc_le (d : List Int) (l : List (Int × Int)) : ∀ x : X, dc x d l ≤ l.length := by
  induction l with
  | nil => intro x; exact Nat.le_refl _
  | cons y l ih => intro x; rw [dc, List.length_cons]; split; have := ih (step x y); omega; omega
/-- The codeword's number. -/
def cwv (s : St) : Int := if (-s.lo) % 4294967296 < s.rg then s.lo + (-s.lo) % 4294967296 else s.lo + (-s.lo) % 16777216
theorem cwv_in {s : St} (h : Ok s) : In s (cwv s) := by
  have h1 := h.r1
  unfold In cwv
  split <;> omega
theorem cwv_24 (s : St) : cwv s % 16777216 = 0 := by
  unfold cwv; split <;> omega
/-- The codeword. -/
def cw (s : St) : List Int := trim (dig (s.n + 1) (cwv s / 16777216))
theorem cw_bytes (s : St) : bytes (cw s) := by
  rw [cw, (trim_pre _).2.1]; exact bytes_take (dig_bytes _ _) _
theorem num_dig (k : Nat) (v : Int) (h0 : 0 ≤ v) (h1 : v + 1 ≤ Pw k) : num (dig k v) k = v := by
  rw [num_take _ _ (by rw [dig_len]; omega), List.take_of_length_le (by rw [dig_len]; omega), val_dig k v h0 h1]
theorem cw_num {s : St} (h : Ok s) : num (cw s) (s.n + 4) = cwv s := by
  have h2 := cwv_in h
  have h3 := h.top
  have h4 := h.lo
  have h5 := cwv_24 s
  unfold In at h2
  have hl : (dig (s.n + 1) (cwv s / 16777216)).length = s.n + 1 := dig_len _ _
  have h6 := num_dig (s.n + 1) (cwv s / 16777216) (by omega) (by rw [Pw_succ]; omega)
  rw [cw, trim_num, num, num, num, getD_over (by omega), getD_over (by omega), getD_over (by omega), h6]
  omega
theorem cw_InX {x : X} (h : OkX x) : InX x (cw x.2) := by
  unfold InX; rw [cw_num h.st]; exact cwv_in h.st
theorem cw_len (s : St) : (cw s).length ≤ s.n + 1 := by
  have := (trim_pre (dig (s.n + 1) (cwv s / 16777216))).1
  rw [dig_len] at this; exact this
/-- The first four bytes are at most 2^32 - 2. -/
def fixd (d : List Int) : List Int := if num d 4 = 4294967295 then d.set 3 254 else d
theorem fixd_len (d : List Int) : (fixd d).length = d.length := by unfold fixd; split <;> simp
theorem fixd_bytes {d : List Int} (h : bytes d) : bytes (fixd d) := by
  unfold fixd
  split
  · intro x hx
    rcases List.mem_or_eq_of_mem_set hx with h1 | rfl
    · exact h x h1
    · exact ⟨by decide, by decide⟩
  · exact h
theorem fixd_at {d : List Int} {i : Nat} (hi : 4 ≤ i) : (fixd d).getD i 0 = d.getD i 0 := by
  unfold fixd
  split
  · rw [List.getD_eq_getElem?_getD, List.getD_eq_getElem?_getD, List.getElem?_set_ne (by omega)]
  · rfl
theorem fixd_num {d : List Int} (h : bytes d) : num (fixd d) 4 = min (num d 4) 4294967294 := by
  have hb := (num_bd h 4).2
  have e : Pw 4 = 4294967296 := by decide
  rw [e] at hb
  unfold fixd
  split
  · rename_i hh
    have b3 := bytes_getD h 3
    have n3 := (num_bd h 3).2
    rw [show Pw 3 = 16777216 by decide] at n3
    unfold byte at b3
    have hl : 3 < d.length := by
      rcases Nat.lt_or_ge 3 d.length with h1 | h1
      · exact h1
      · have := getD_over (d := d) (k := 3) h1
        rw [num] at hh
        omega
    have e3 : (d.set 3 254).getD 3 0 = 254 := by
      rw [List.getD_eq_getElem?_getD, List.getElem?_set_self hl]; rfl
    have eo : ∀ i, i < 3 → (d.set 3 254).getD i 0 = d.getD i 0 := fun i hi => by
      rw [List.getD_eq_getElem?_getD, List.getD_eq_getElem?_getD, List.getElem?_set_ne (by omega)]
    have e4 : num (d.set 3 254) 3 = num d 3 := num_congr eo
    rw [hh, num, e3, e4]
    rw [num] at hh
    omega
  · omega
theorem fixd_id {d : List Int} (h : num d 4 < 4294967295) : fixd d = d := by
  unfold fixd; rw [if_neg (by omega)]
theorem fixd_in {ps : List Int} {d : List Int} (h : bytes d) : InX (ps, St.init) (fixd d) := by
  have h1 := fixd_num h
  have h2 := (num_bd h 4).1
  show In St.init (num (fixd d) (0 + 4))
  rw [show (0 + 4) = 4 from rfl, h1]
  exact ⟨by show (0 : Int) ≤ _; omega, by show _ < (0 : Int) + 4294967295; omega⟩
/-- The codeword of a run from the start begins with less than the greatest number. -/
theorem init_lt {ps : List Int} {d : List Int} (h : InX (ps, St.init) d) : num d 4 < 4294967295 := by
  have : num d (0 + 4) < (0 : Int) + 4294967295 := h.2
  rw [show (0 + 4) = 4 from rfl] at this
  omega
/-- P11.5 -/
theorem restores {n : Nat} {ps : List Int} {l : List (Int × Int)} (hx : OkX (ps, St.init)) (hn : ps.length = n) (hs : ∀ y ∈ l, sym n y) : dc (ps, St.init) (fixd (cw (run (ps, St.init) l).2)) l = l.length := by
  have hk := run_ok l _ hx hn hs
  have h1 := cw_InX hk
  have h2 := run_back (cw_bytes _) l _ hx hn hs h1
  rw [fixd_id (init_lt h2.1)]
  exact h2.2
/-- P11.6 -/
theorem prefixes {n : Nat} {ps : List Int} {l m : List (Int × Int)} {e : List Int} (hx : OkX (ps, St.init)) (hn : ps.length = n) (hs : ∀ y ∈ l, sym n y) (hm : ∀ y ∈ m, sym n y)
    (he : bytes e) (hc : ∀ i, i < (run (ps, St.init) l).2.n + 4 → e.getD i 0 = (cw (run (ps, St.init) (l ++ m)).2).getD i 0) : dc (ps, St.init) (fixd e) l = l.length := by
  have hk := run_ok l _ hx hn hs
  have hk2 := run_ok m _ hk ((run_len l _).trans hn) hm
  rw [run_app] at hc
  have h1 := cw_InX hk2
  have h2 := (run_back (cw_bytes _) m _ hk ((run_len l _).trans hn) hm h1).1
  have h3 : InX (run (ps, St.init) l) e := by
    unfold InX at *
    rw [num_congr hc]; exact h2
  have h4 := run_back he l _ hx hn hs h3
  rw [fixd_id (init_lt h4.1)]
  exact h4.2
theorem num_short {d : List Int} {k : Nat} (h : d.length ≤ k) : num d (k + 4) = 4294967296 * num d k := by
  rw [num, num, num, num, getD_over (by omega), getD_over (by omega), getD_over (by omega), getD_over (by omega)]
  omega
/-- P11.7 -/
theorem shortest {n : Nat} {ps : List Int} {l : List (Int × Int)} {e : List Int} (hx : OkX (ps, St.init)) (hn : ps.length = n) (hs : ∀ y ∈ l, sym n y)
    (he : bytes e) (hlen : e.length < (cw (run (ps, St.init) l).2).length) : dc (ps, St.init) (fixd e) l < l.length := by
  rcases Nat.lt_or_ge (dc (ps, St.init) (fixd e) l) l.length with h | h
  · exact h
  exfalso
  have hk := run_ok l _ hx hn hs
  have h1 := run_fwd (fixd_bytes he) l _ hx hn hs (fixd_in he) (by have := dc_le (fixd e) l (ps, St.init); omega)
  generalize hS : (run (ps, St.init) l) = x at *
  obtain ⟨qs, s⟩ := x
  have hok : Ok s := hk.st
  have hcl := cw_len s
  have hel : (fixd e).length ≤ s.n := by rw [fixd_len]; simp only at hlen; omega
  have hu : num (fixd e) (s.n + 4) = 4294967296 * num (fixd e) s.n := num_short hel
  have hin : In s (num (fixd e) (s.n + 4)) := h1
  have hcin := cwv_in hok
  have hnum := cw_num hok
  unfold In at hin hcin
  have hr := hok.r2
  have hA : (-s.lo) % 4294967296 < s.rg := by omega
  have hv : cwv s = s.lo + (-s.lo) % 4294967296 := by unfold cwv; rw [if_pos hA]
  have heq : num (fixd e) (s.n + 4) = num (cw s) (s.n + 4) := by rw [hnum]; omega
  have hb := num_inj (fixd_bytes he) (cw_bytes s) (s.n + 4) heq
  have hlast := (trim_pre (dig (s.n + 1) (cwv s / 16777216))).2.2.2
  have hpos : 0 < (cw s).length := by simp only at hlen; omega
  have h9 := hb ((cw s).length - 1) (by omega)
  rw [getD_over (by rw [fixd_len]; simp only at hlen; omega)] at h9
  exact hlast hpos h9.symm
end Am
end Go.Proofs.YtklchodbnjebnaaDoor
set_option maxRecDepth 100000
namespace Go.Proofs.YtklchodbnjebnaaDoor
namespace Pk

def bit (b : Int) : Prop := b = 0 ∨ b = 1
def bits (l : List Int) : Prop := ∀ b ∈ l, bit b
theorem bits_getD {l : List Int} (h : bits l) (k : Nat) : bit (l.getD k 0) := by
  rw [List.getD_eq_getElem?_getD]
  by_cases hk : k < l.length
  · rw [List.getElem?_eq_getElem hk]; exact h _ (List.getElem_mem hk)
  · rw [List.getElem?_eq_none (by omega)]; exact .inl rfl
theorem bits_nil : bits [] := fun _ h => by simp at h
theorem bits_snoc {l : List Int} {b : Int} (h : bits l) (hb : bit b) : bits (l ++ [b]) := fun x hx => by
  rcases List.mem_append.1 hx with h1 | h1
  · exact h x h1
  · simp at h1; subst h1; exact hb
theorem bits_take {l : List Int} (h : bits l) (k : Nat) : bits (l.take k) := fun x hx => h x (List.mem_of_mem_take hx)
/-- The byte of so many bits. -/
def byt (l : List Int) (j : Nat) : Int :=
  128 * l.getD (8 * j) 0 + 64 * l.getD (8 * j + 1) 0 + 32 * l.getD (8 * j + 2) 0 + 16 * l.getD (8 * j + 3) 0 + 8 * l.getD (8 * j + 4) 0 + 4 * l.getD (8 * j + 5) 0 + 2 * l.getD (8 * j + 6) 0 + l.getD (8 * j + 7) 0
/-- So many bytes of bits. -/
def pk (N : Nat) (l : List Int) : List Int := (List.range N).map (byt l)
theorem pk_len (N : Nat) (l : List Int) : (pk N l).length = N := by simp [pk]
theorem pk_at {N : Nat} {l : List Int} {j : Nat} (h : j < N) : (pk N l).getD j 0 = byt l j := by
  simp [pk, List.getD_eq_getElem?_getD, h]
theorem byt_bd {l : List Int} (h : bits l) (j : Nat) : 0 ≤ byt l j ∧ byt l j ≤ 255 := by
  have h0 := bits_getD h (8 * j)
  have h1 := bits_getD h (8 * j + 1)
  have h2 := bits_getD h (8 * j + 2)
  have h3 := bits_getD h (8 * j + 3)
  have h4 := bits_getD h (8 * j + 4)
  have h5 := bits_getD h (8 * j + 5)
  have h6 := bits_getD h (8 * j + 6)
  have h7 := bits_getD h (8 * j + 7)
  unfold bit at *
  unfold byt
  omega
theorem pk_bytes {l : List Int} (h : bits l) (N : Nat) : Am.bytes (pk N l) := by
  intro x hx
  simp only [pk, List.mem_map] at hx
  obtain ⟨j, _, rfl⟩ := hx
  exact byt_bd h j
theorem getD_snoc (l : List Int) (b : Int) (k : Nat) : (l ++ [b]).getD k 0 = if k = l.length then b else l.getD k 0 := by
  rw [List.getD_eq_getElem?_getD, List.getD_eq_getElem?_getD]
  by_cases h : k = l.length
  · subst h; rw [if_pos rfl, List.getElem?_append_right (Nat.le_refl _)]; simp
  · rw [if_neg h]
    by_cases h2 : k < l.length
    · rw [List.getElem?_append_left h2]
    · rw [List.getElem?_eq_none (by simp; omega), List.getElem?_eq_none (by omega)]
theorem byt_snoc (l : List Int) (b : Int) (j : Nat) : byt (l ++ [b]) j = if j = l.length / 8 then byt l j + b * 2 ^ (7 - l.length % 8) else byt l j := by
  unfold byt
  simp only [getD_snoc]
  by_cases hj : j = l.length / 8
  · rw [if_pos hj]
    have hz : ∀ k, l.length ≤ k → l.getD k 0 = 0 := fun k hk => Am.getD_over hk
    have hn : l.length = 8 * j + l.length % 8 := by omega
    rcases (show l.length % 8 = 0 ∨ l.length % 8 = 1 ∨ l.length % 8 = 2 ∨ l.length % 8 = 3 ∨ l.length % 8 = 4 ∨ l.length % 8 = 5 ∨ l.length % 8 = 6 ∨ l.length % 8 = 7 by omega) with h | h | h | h | h | h | h | h
    · have := hz (8 * j) (by omega)
      rw [h, if_pos (by omega), if_neg (by omega), if_neg (by omega), if_neg (by omega), if_neg (by omega), if_neg (by omega), if_neg (by omega), if_neg (by omega)]
      simp only [show (2:Int) ^ (7 - 0) = 128 by decide]; omega
    · have := hz (8 * j + 1) (by omega)
      rw [h, if_neg (by omega), if_pos (by omega), if_neg (by omega), if_neg (by omega), if_neg (by omega), if_neg (by omega), if_neg (by omega), if_neg (by omega)]
      simp only [show (2:Int) ^ (7 - 1) = 64 by decide]; omega
    · have := hz (8 * j + 2) (by omega)
      rw [h, if_neg (by omega), if_neg (by omega), if_pos (by omega), if_neg (by omega), if_neg (by omega), if_neg (by omega), if_neg (by omega), if_neg (by omega)]
      simp only [show (2:Int) ^ (7 - 2) = 32 by decide]; omega
    · have := hz (8 * j + 3) (by omega)
      rw [h, if_neg (by omega), if_neg (by omega), if_neg (by omega), if_pos (by omega), if_neg (by omega), if_neg (by omega), if_neg (by omega), if_neg (by omega)]
      simp only [show (2:Int) ^ (7 - 3) = 16 by decide]; omega
    · have := hz (8 * j + 4) (by omega)
      rw [h, if_neg (by omega), if_neg (by omega), if_neg (by omega), if_neg (by omega), if_pos (by omega), if_neg (by omega), if_neg (by omega), if_neg (by omega)]
      simp only [show (2:Int) ^ (7 - 4) = 8 by decide]; omega
    · have := hz (8 * j + 5) (by omega)
      rw [h, if_neg (by omega), if_neg (by omega), if_neg (by omega), if_neg (by omega), if_neg (by omega), if_pos (by omega), if_neg (by omega), if_neg (by omega)]
      simp only [show (2:Int) ^ (7 - 5) = 4 by decide]; omega
    · have := hz (8 * j + 6) (by omega)
      rw [h, if_neg (by omega), if_neg (by omega), if_neg (by omega), if_neg (by omega), if_neg (by omega), if_neg (by omega), if_pos (by omega), if_neg (by omega)]
      simp only [show (2:Int) ^ (7 - 6) = 2 by decide]; omega
    · have := hz (8 * j + 7) (by omega)
      rw [h, if_neg (by omega), if_neg (by omega), if_neg (by omega), if_neg (by omega), if_neg (by omega), if_neg (by omega), if_neg (by omega), if_pos (by omega)]
      simp only [show (2:Int) ^ (7 - 7) = 1 by decide]; omega
  · rw [if_neg hj, if_neg (by omega), if_neg (by omega), if_neg (by omega), if_neg (by omega), if_neg (by omega), if_neg (by omega), if_neg (by omega), if_neg (by omega)]
/-- The bit of bytes at a place. -/
def bitAt (bs : List Int) (i : Nat) : Int := bs.getD (i / 8) 0 / 2 ^ (7 - i % 8) % 2
theorem spl {m A b c x : Int} (hx : x = c + m * (2 * A + b)) (h0 : 0 ≤ c) (h1 : c < m) (hb : bit b) : x / m % 2 = b := by
  rw [hx, Int.add_mul_ediv_left _ _ (by omega), Int.ediv_eq_zero_of_lt h0 h1]
  rcases hb with rfl | rfl <;> omega
theorem byt_bit' {l : List Int} (hl : bits l) (j r : Nat) (hr : r < 8) : byt l j / 2 ^ (7 - r) % 2 = l.getD (8 * j + r) 0 := by
  have h0 := bits_getD hl (8 * j)
  have h1 := bits_getD hl (8 * j + 1)
  have h2 := bits_getD hl (8 * j + 2)
  have h3 := bits_getD hl (8 * j + 3)
  have h4 := bits_getD hl (8 * j + 4)
  have h5 := bits_getD hl (8 * j + 5)
  have h6 := bits_getD hl (8 * j + 6)
  have h7 := bits_getD hl (8 * j + 7)
  have n1 : 0 ≤ l.getD (8 * j + 1) 0 ∧ l.getD (8 * j + 1) 0 ≤ 1 := by unfold bit at h1; omega
  have n2 : 0 ≤ l.getD (8 * j + 2) 0 ∧ l.getD (8 * j + 2) 0 ≤ 1 := by unfold bit at h2; omega
  have n3 : 0 ≤ l.getD (8 * j + 3) 0 ∧ l.getD (8 * j + 3) 0 ≤ 1 := by unfold bit at h3; omega
  have n4 : 0 ≤ l.getD (8 * j + 4) 0 ∧ l.getD (8 * j + 4) 0 ≤ 1 := by unfold bit at h4; omega
  have n5 : 0 ≤ l.getD (8 * j + 5) 0 ∧ l.getD (8 * j + 5) 0 ≤ 1 := by unfold bit at h5; omega
  have n6 : 0 ≤ l.getD (8 * j + 6) 0 ∧ l.getD (8 * j + 6) 0 ≤ 1 := by unfold bit at h6; omega
  have n7 : 0 ≤ l.getD (8 * j + 7) 0 ∧ l.getD (8 * j + 7) 0 ≤ 1 := by unfold bit at h7; omega
  unfold byt
  rcases (show r = 0 ∨ r = 1 ∨ r = 2 ∨ r = 3 ∨ r = 4 ∨ r = 5 ∨ r = 6 ∨ r = 7 by omega) with h | h | h | h | h | h | h | h <;> subst h
  · show _ = l.getD (8 * j) 0
    exact spl (m := 128) (A := 0) (c := 64 * l.getD (8 * j + 1) 0 + 32 * l.getD (8 * j + 2) 0 + 16 * l.getD (8 * j + 3) 0 + 8 * l.getD (8 * j + 4) 0 + 4 * l.getD (8 * j + 5) 0 + 2 * l.getD (8 * j + 6) 0 + l.getD (8 * j + 7) 0) (by omega) (by omega) (by omega) h0
  · exact spl (m := 64) (A := l.getD (8 * j) 0) (c := 32 * l.getD (8 * j + 2) 0 + 16 * l.getD (8 * j + 3) 0 + 8 * l.getD (8 * j + 4) 0 + 4 * l.getD (8 * j + 5) 0 + 2 * l.getD (8 * j + 6) 0 + l.getD (8 * j + 7) 0) (by omega) (by omega) (by omega) h1
  · exact spl (m := 32) (A := 2 * l.getD (8 * j) 0 + l.getD (8 * j + 1) 0) (c := 16 * l.getD (8 * j + 3) 0 + 8 * l.getD (8 * j + 4) 0 + 4 * l.getD (8 * j + 5) 0 + 2 * l.getD (8 * j + 6) 0 + l.getD (8 * j + 7) 0) (by omega) (by omega) (by omega) h2
  · exact spl (m := 16) (A := 4 * l.getD (8 * j) 0 + 2 * l.getD (8 * j + 1) 0 + l.getD (8 * j + 2) 0) (c := 8 * l.getD (8 * j + 4) 0 + 4 * l.getD (8 * j + 5) 0 + 2 * l.getD (8 * j + 6) 0 + l.getD (8 * j + 7) 0) (by omega) (by omega) (by omega) h3
  · exact spl (m := 8) (A := 8 * l.getD (8 * j) 0 + 4 * l.getD (8 * j + 1) 0 + 2 * l.getD (8 * j + 2) 0 + l.getD (8 * j + 3) 0) (c := 4 * l.getD (8 * j + 5) 0 + 2 * l.getD (8 * j + 6) 0 + l.getD (8 * j + 7) 0) (by omega) (by omega) (by omega) h4
  · exact spl (m := 4) (A := 16 * l.getD (8 * j) 0 + 8 * l.getD (8 * j + 1) 0 + 4 * l.getD (8 * j + 2) 0 + 2 * l.getD (8 * j + 3) 0 + l.getD (8 * j + 4) 0) (c := 2 * l.getD (8 * j + 6) 0 + l.getD (8 * j + 7) 0) (by omega) (by omega) (by omega) h5
  · exact spl (m := 2) (A := 32 * l.getD (8 * j) 0 + 16 * l.getD (8 * j + 1) 0 + 8 * l.getD (8 * j + 2) 0 + 4 * l.getD (8 * j + 3) 0 + 2 * l.getD (8 * j + 4) 0 + l.getD (8 * j + 5) 0) (c := l.getD (8 * j + 7) 0) (by omega) (by omega) (by omega) h6
  · exact spl (m := 1) (A := 64 * l.getD (8 * j) 0 + 32 * l.getD (8 * j + 1) 0 + 16 * l.getD (8 * j + 2) 0 + 8 * l.getD (8 * j + 3) 0 + 4 * l.getD (8 * j + 4) 0 + 2 * l.getD (8 * j + 5) 0 + l.getD (8 * j + 6) 0) (c := 0) (by omega) (by omega) (by omega) h7
theorem byt_bit {l : List Int} (h : bits l) (i : Nat) : byt l (i / 8) / 2 ^ (7 - i % 8) % 2 = l.getD i 0 := by
  rw [byt_bit' h _ _ (by omega), show 8 * (i / 8) + i % 8 = i by omega]
/-- So many bytes take the bits. -/
def nb (n : Nat) : Nat := (n + 7) / 8
theorem byt_over {l : List Int} {j : Nat} (h : l.length ≤ 8 * j) : byt l j = 0 := by
  unfold byt
  rw [Am.getD_over (by omega), Am.getD_over (by omega), Am.getD_over (by omega), Am.getD_over (by omega), Am.getD_over (by omega), Am.getD_over (by omega), Am.getD_over (by omega), Am.getD_over (by omega)]
  rfl
theorem pk_getD {l : List Int} {N : Nat} (h : l.length ≤ 8 * N) (j : Nat) : (pk N l).getD j 0 = byt l j := by
  by_cases hj : j < N
  · exact pk_at hj
  · rw [Am.getD_over (by rw [pk_len]; omega), byt_over (by omega)]
theorem pk_bit {l : List Int} (h : bits l) {N : Nat} (hN : l.length ≤ 8 * N) (i : Nat) : bitAt (pk N l) i = l.getD i 0 := by
  unfold bitAt
  rw [pk_getD hN, byt_bit h]
theorem trim_bit (bs : List Int) (i : Nat) : bitAt (Am.trim bs) i = bitAt bs i := by
  unfold bitAt
  rw [(Am.trim_pre bs).2.2.1]
/-- The segment of bits. -/
def seg (l : List Int) : List Int := Am.trim (pk (nb l.length) l)
theorem seg_bit {l : List Int} (h : bits l) (i : Nat) : bitAt (seg l) i = l.getD i 0 := by
  unfold seg
  rw [trim_bit, pk_bit h (by unfold nb; omega)]
theorem seg_len (l : List Int) : (seg l).length ≤ nb l.length := by
  have := (Am.trim_pre (pk (nb l.length) l)).1
  rw [pk_len] at this; exact this
theorem seg_bytes {l : List Int} (h : bits l) : Am.bytes (seg l) := by
  unfold seg; rw [(Am.trim_pre _).2.1]; exact Am.bytes_take (pk_bytes h _) _
theorem seg_last {l : List Int} (h : 0 < (seg l).length) : (seg l).getD ((seg l).length - 1) 0 ≠ 0 := (Am.trim_pre (pk (nb l.length) l)).2.2.2 h
theorem bit_of_byte {bs cs : List Int} {i : Nat} (h : bs.getD (i / 8) 0 = cs.getD (i / 8) 0) : bitAt bs i = bitAt cs i := by unfold bitAt; rw [h]
/-- A bit more, within the bytes. -/
theorem pk_set {l : List Int} {b : Int} {N : Nat} : pk N (l ++ [b]) = (pk N l).set (l.length / 8) (byt l (l.length / 8) + b * 2 ^ (7 - l.length % 8)) := by
  apply List.ext_getElem
  · simp [pk]
  · intro j h1 h2
    rw [List.getElem_set]
    simp only [pk, List.getElem_map, List.getElem_range, byt_snoc]
    by_cases hj : l.length / 8 = j
    · rw [if_pos hj, if_pos hj.symm, hj]
    · rw [if_neg hj, if_neg (fun e => hj e.symm)]
theorem pk_more {l : List Int} (h : l.length % 8 = 0) : pk (nb l.length + 1) l = pk (nb l.length) l ++ [0] := by
  have e : nb l.length = l.length / 8 := by unfold nb; omega
  rw [pk, List.range_succ, List.map_append, List.map_singleton, byt_over (by omega)]
  rfl
/-- How long what is left is when zero bytes are removed. -/
theorem trim_len {l : List Int} {k : Nat} (hk : l.getD k 0 ≠ 0) (ho : ∀ j, k < j → l.getD j 0 = 0) : (Am.trim l).length = k + 1 := by
  obtain ⟨h1, _, h3, h4⟩ := Am.trim_pre l
  rcases Nat.lt_trichotomy (Am.trim l).length (k + 1) with hlt | heq | hgt
  · have := h3 k
    rw [Am.getD_over (by omega)] at this
    exact absurd this.symm hk
  · exact heq
  · have := h4 (by omega)
    rw [h3, ho _ (by omega)] at this
    exact absurd rfl this
theorem trim_none {l : List Int} (ho : ∀ j, l.getD j 0 = 0) : (Am.trim l).length = 0 := by
  obtain ⟨h1, _, h3, h4⟩ := Am.trim_pre l
  rcases Nat.eq_zero_or_pos (Am.trim l).length with h | h
  · exact h
  · have := h4 h
    rw [h3, ho] at this
    exact absurd rfl this
/-- What is free in the last byte is 0. -/
theorem byt_low {l : List Int} (hl : l.length % 8 ≠ 0) : byt l (l.length / 8) % 2 ^ (7 - l.length % 8 + 1) = 0 := by
  have hz : ∀ k, l.length ≤ k → l.getD k 0 = 0 := fun k hk => Am.getD_over hk
  obtain ⟨j, hj⟩ : ∃ j, j = l.length / 8 := ⟨_, rfl⟩
  have hn : l.length = 8 * j + l.length % 8 := by omega
  rw [← hj]
  unfold byt
  rcases (show l.length % 8 = 1 ∨ l.length % 8 = 2 ∨ l.length % 8 = 3 ∨ l.length % 8 = 4 ∨ l.length % 8 = 5 ∨ l.length % 8 = 6 ∨ l.length % 8 = 7 by omega) with h | h | h | h | h | h | h
  · rw [h, hz (8 * j + 1) (by omega), hz (8 * j + 2) (by omega), hz (8 * j + 3) (by omega), hz (8 * j + 4) (by omega), hz (8 * j + 5) (by omega), hz (8 * j + 6) (by omega), hz (8 * j + 7) (by omega)]
    simp only [show (2:Int) ^ (7 - 1 + 1) = 128 by decide]; omega
  · rw [h, hz (8 * j + 2) (by omega), hz (8 * j + 3) (by omega), hz (8 * j + 4) (by omega), hz (8 * j + 5) (by omega), hz (8 * j + 6) (by omega), hz (8 * j + 7) (by omega)]
    simp only [show (2:Int) ^ (7 - 2 + 1) = 64 by decide]; omega
  · rw [h, hz (8 * j + 3) (by omega), hz (8 * j + 4) (by omega), hz (8 * j + 5) (by omega), hz (8 * j + 6) (by omega), hz (8 * j + 7) (by omega)]
    simp only [show (2:Int) ^ (7 - 3 + 1) = 32 by decide]; omega
  · rw [h, hz (8 * j + 4) (by omega), hz (8 * j + 5) (by omega), hz (8 * j + 6) (by omega), hz (8 * j + 7) (by omega)]
    simp only [show (2:Int) ^ (7 - 4 + 1) = 16 by decide]; omega
  · rw [h, hz (8 * j + 5) (by omega), hz (8 * j + 6) (by omega), hz (8 * j + 7) (by omega)]
    simp only [show (2:Int) ^ (7 - 5 + 1) = 8 by decide]; omega
  · rw [h, hz (8 * j + 6) (by omega), hz (8 * j + 7) (by omega)]
    simp only [show (2:Int) ^ (7 - 6 + 1) = 4 by decide]; omega
  · rw [h, hz (8 * j + 7) (by omega)]
    simp only [show (2:Int) ^ (7 - 7 + 1) = 2 by decide]; omega
end Pk
end Go.Proofs.YtklchodbnjebnaaDoor
set_option maxRecDepth 100000
namespace Go.Proofs.YtklchodbnjebnaaDoor
open Go.RowKit

/-- Bytes behind a slice's address. -/
def HoldsB (w : World) (a : Option Addr) (l : List Int) : Prop := l = [] ∨ ∃ b off, a = some ⟨b, off, none⟩ ∧ ∀ k (_ : k < l.length), w.cell? ⟨b, off + k, none⟩ = some (.int .u8 l[k])
theorem HoldsB.below {B : Nat} {w w1 : World} {a : Option Addr} {l : List Int} (h : HoldsB w a l) (hb : Below B w w1) (hB : w.heap.size ≤ B) : HoldsB w1 a l := by
  rcases h with rfl | ⟨b, off, rfl, hr⟩
  · exact .inl rfl
  · exact .inr ⟨b, off, rfl, fun k hk => (hb.cell (p := ⟨b, _, none⟩) (Nat.lt_of_lt_of_le (cell_lt (hr k hk)) hB)).trans (hr k hk)⟩
theorem HoldsB.call {w w1 : World} {s : Option Addr} {l : List Int} (h : HoldsB w s l) (hb : Below w.heap.size w w1) : HoldsB w1 s l := h.below hb (Nat.le_refl _)
theorem HoldsB.take {w : World} {s : Option Addr} {bs : List Int} (h : HoldsB w s bs) (n : Nat) : HoldsB w s (bs.take n) := by
  rcases h with rfl | ⟨b, off, rfl, hr⟩
  · exact .inl (by simp)
  · refine .inr ⟨b, off, rfl, fun k hk => ?_⟩
    simp at hk
    rw [hr k (by omega)]
    simp
theorem HoldsB.of_own {w : World} {base : Nat} {v : Value} {n : Nat} {l : List Int} (h : w.ownsRow base 5 1 v n (l.map (Value.int .u8))) :
    n = l.length ∧ ∃ s m, v = .slice s l.length m ∧ HoldsB w s l ∧ (l.length ≤ m ∧ m ≤ maxLen) ∧ (s = none → l = [] ∧ m = 0) := by
  obtain ⟨h1, h2⟩ := h
  have hn : n = l.length := by simpa using h1.symm
  subst hn
  refine ⟨rfl, ?_⟩
  rcases h2 with ⟨rfl, h0⟩ | ⟨g, cap, cur, rfl, hb, hg, hc, hm, hs, ht⟩
  · obtain rfl := List.length_eq_zero_iff.1 h0
    exact ⟨none, 0, rfl, .inl rfl, ⟨Nat.le_refl _, Nat.zero_le _⟩, fun _ => ⟨rfl, rfl⟩⟩
  · refine ⟨_, cap, rfl, .inr ⟨g, 0, rfl, fun k hk => ?_⟩, ⟨hc, hm⟩, fun h => by simp at h⟩
    have e : cur[k]? = some (.int .u8 l[k]) := by
      have h3 : (cur.toList.take (l.length * 1))[k]? = (l.map (Value.int .u8))[k]? := by rw [ht]
      rw [List.getElem?_take_of_lt (by omega)] at h3
      rw [Array.getElem?_toList] at h3
      rw [h3]; simp [hk]
    simp [World.cell?, hg, e]
theorem info8 : (Tryd.prog.info? 5).map (fun i => (i.zero, i.size, i.bytes)) = some (some (.int .u8 0), 1, 1) := by kernel_rfl
theorem holdsB_list {w : World} {p : Addr} {l : List Int} (h : HoldsB w (some p) l) : ∀ j u, (l.map (Value.int .u8))[j]? = some u → w.cell? (p.add j) = some u := by
  intro j v hj
  rcases h with rfl | ⟨b, off, e, hr⟩
  · simp at hj
  · simp at e; subst e
    rw [List.getElem?_map, Option.map_eq_some_iff] at hj
    obtain ⟨x, hx, rfl⟩ := hj
    obtain ⟨hj', hx'⟩ := List.getElem?_eq_some_iff.1 hx
    have e : (⟨b, off, none⟩ : Addr).add j = ⟨b, off + j, none⟩ := by
      simp only [Addr.add]
      split
      · subst_vars; rfl
      · rfl
    rw [e, hr j hj', hx']
theorem one8 (l : List Int) : ∀ v ∈ l.map (Value.int .u8), v.oneCell' = true := by
  intro v hv
  obtain ⟨x, _, rfl⟩ := List.mem_map.1 hv
  rfl
theorem HoldsB.at {w : World} {s : Option Addr} {l : List Int} (h : HoldsB w s l) {k : Nat} (hk : k < l.length) : ∃ b off, s = some ⟨b, off, none⟩ ∧ w.cell? ⟨b, off + k, none⟩ = some (.int .u8 (l.getD k 0)) := by
  rcases h with rfl | ⟨b, off, rfl, hr⟩
  · simp at hk
  · exact ⟨b, off, rfl, by rw [hr k hk, List.getD_eq_getElem?_getD, List.getElem?_eq_getElem hk]; rfl⟩
theorem holdsB_new (w : World) (l : List Int) : HoldsB (w.alloc (.cells (l.map (Value.int .u8)).toArray 5)) (some ⟨w.heap.size, 0, none⟩) l := by
  refine .inr ⟨w.heap.size, 0, rfl, fun k hk => ?_⟩
  rw [Nat.zero_add, (Blk.new w 5 (l.map (Value.int .u8)).toArray).cell k]
  simp [hk]
theorem trimB_c (l : List Int) (s : Option Addr) (m : Nat) (w : World) (hH : HoldsB w s l) (hm : l.length ≤ m) (hl : l.length ≤ 1000000000) :
    Calls Tryd.prog 118 #[.slice s l.length m, .int .u8 0] w fun e w' => e = .returned (.slice s (Am.trim l).length m) ∧ w = w' := by
  have HH := Lib.hid hH
  clear hH
  go_enter Tryd.func118, Tryd.ntmps118
  go_wp2_with fail
  go_loop [0] (fun v => ∃ k : Nat, k ≤ l.length ∧ v = .slice s k m ∧ Hid (Am.trim (l.take k) = Am.trim l)) (fun v => match v with | .slice _ n _ => n | _ => 0)
  case atStart => exact ⟨l.length, Nat.le_refl _, rfl, by show _ = _; rw [List.take_length]⟩
  case round =>
    obtain ⟨k, hk, rfl, hT⟩ := hrel
    cases k with
    | zero =>
      have h0 : Hid ((Am.trim l).length = 0) := by
        show _ = _
        rw [← hT.out]; rfl
      go_wp2_with fail
      go_ret
      exact ⟨by rw [h0.out]; rfl, rfl⟩
    | succ k =>
      obtain ⟨b, off, rfl, hc⟩ := HH.out.at (k := k) (by omega)
      have e1 : l.take (k + 1) = l.take k ++ [l.getD k 0] := by
        rw [List.take_succ_eq_append_getElem (by omega), List.getD_eq_getElem?_getD, List.getElem?_eq_getElem (by omega)]; rfl
      by_cases hx : l.getD k 0 = 0
      · rw [hx] at hc e1
        have hT2 : Hid (Am.trim (l.take k) = Am.trim l) := by
          have := hT.out
          rw [e1, Am.trim_zero] at this
          exact this
        clear hx e1 hT
        go_wp2_with fail
        go_round
        case rel => exact ⟨k, by omega, rfl, hT2⟩
        case measure => simp
      · have hxb : (l.getD k 0 == 0) = false := by simpa using hx
        have hT2 : Hid ((Am.trim l).length = k + 1) := by
          have := hT.out
          rw [e1, Am.trim_other _ _ hx] at this
          show _ = _
          rw [← this]; simp; omega
        clear hx e1 hT
        generalize l.getD k 0 = x at *
        go_wp2_with fail
        go_ret
        exact ⟨by rw [hT2.out]; rfl, rfl⟩
theorem trim_c (l : List Int) (s : Option Addr) (m : Nat) (w : World) (hH : HoldsB w s l) (hm : l.length ≤ m) (hl : l.length ≤ 1000000000) :
    Calls Tryd.prog 117 #[.slice s l.length m, .string ⟨#[0]⟩] w fun e w' => e = .returned (.slice s (Am.trim l).length m) ∧ w = w' := by
  have ht := trimB_c l s m w hH hm hl
  have HH := Lib.hid hH
  clear hH
  by_cases h0 : l.length = 0
  · obtain rfl := List.length_eq_zero_iff.1 h0
    go_enter Tryd.func117, Tryd.ntmps117
    go_wp2_with fail
    go_ret
    exact ⟨rfl, rfl⟩
  · have hp : 0 < l.length := by omega
    have hb : ((l.length : Int) == 0) = false := beq_eq_false_iff_ne.2 (by omega)
    clear h0
    go_enter Tryd.func117, Tryd.ntmps117
    go_wp2_with (first | (go_at_call 118; (show Calls Tryd.prog 118 #[.slice s l.length m, .int .u8 0] _ _); refine ht.mono ?_; rintro e wn ⟨rfl, rfl⟩))
    go_ret
    exact ⟨rfl, rfl⟩
theorem clone_none (w : World) : Calls Tryd.prog 22 #[.slice none 0 0] w fun e w' => e = .returned (.slice none 0 0) ∧ w = w' := by
  have hn : ∀ (w : World) (a : Option Addr) (n c n' c' : Nat), (binOp .eql 23 (.slice a n c) (.slice none n' c')).run Tryd.prog w = .ok (.bool a.isNone) w := fun w a n c n' c' => Go.Lib.run_eql_slice_nil w _ _ a n c n' c' Tryd.underlying23
  go_enter Tryd.func22, Tryd.ntmps22
  go_wp2_with fail
  go_ret
  exact ⟨rfl, rfl⟩
/-- What Clone returns: bytes of the call's own. -/
def GivesB (bs : List Int) (w : World) (e : Ending) (w' : World) : Prop := ∃ v, e = .returned v ∧ w'.ownsRow w.heap.size 5 1 v bs.length (bs.map (Value.int .u8)) ∧ Below w.heap.size w w'
theorem clone_some (w : World) (bs : List Int) (p : Addr) (m : Nat) (hH : HoldsB w (some p) bs) (hl : bs.length ≤ 1000000000) :
    Calls Tryd.prog 22 #[.slice (some p) bs.length m] w (GivesB bs w) := by
  obtain ⟨i0, hi, hz0, hz1, hz2⟩ := info_parts info8
  have HN := Lib.hid (fun X => holdsB_list (hH.call ((Below.refl w.heap.size w).alloc (Nat.le_refl _) X)))
  have HA := Lib.hid (fun X => (Below.refl w.heap.size w).alloc (Nat.le_refl _) X)
  have hn : ∀ (w : World) (a : Option Addr) (n c n' c' : Nat), (binOp .eql 23 (.slice a n c) (.slice none n' c')).run Tryd.prog w = .ok (.bool a.isNone) w := fun w a n c n' c' => Go.Lib.run_eql_slice_nil w _ _ a n c n' c' Tryd.underlying23
  clear hH
  go_enter Tryd.func22, Tryd.ntmps22
  go_wp2_with (first | (at_builtin; refine wpList_append_own_at _ rfl _ _ 23 rfl w.heap.size 5 i0 (.int .u8 0) 1 1 Tryd.underlying23 hi hz0 hz1 hz2 rfl (by decide) _ 0 [] rfl (World.ownsRow_made w #[] 0 (Nat.le_refl _) (by decide) (by simp)) p bs.length m (bs.map (Value.int .u8)) rfl (by simp) (HN.out _) (one8 bs) (by unfold maxLen; omega) (by omega) (by simp) ?_))
  intro v' w2 hown hgrow _ hat
  have hown2 : w2.ownsRow w.heap.size 5 1 v' bs.length (bs.map (Value.int .u8)) := by simpa using hown
  have hb : Below w.heap.size w w2 := (HA.out _).grown hgrow (by simp) (fun k hk => by simp [Value.ownBlock] at hk; omega)
  have HO := Lib.hid hown2
  have HB := Lib.hid hb
  clear hown hown2 hgrow hat hb
  go_wp2_with fail
  go_ret
  exact ⟨v', rfl, HO.out, HB.out⟩
theorem clone_c (w : World) (bs : List Int) (s : Option Addr) (m : Nat) (hH : HoldsB w s bs) (hs : s = none → bs = [] ∧ m = 0) (hl : bs.length ≤ 1000000000) :
    Calls Tryd.prog 22 #[.slice s bs.length m] w (GivesB bs w) := by
  cases s with
  | none =>
    obtain ⟨rfl, rfl⟩ := hs rfl
    refine (clone_none w).mono ?_
    rintro e w' ⟨rfl, rfl⟩
    exact ⟨_, rfl, World.ownsRow_nil _ _ _ _, Below.refl _ _⟩
  | some p => exact clone_some w bs p m hH hl
end Go.Proofs.YtklchodbnjebnaaDoor
set_option maxRecDepth 100000
namespace Go.Proofs.YtklchodbnjebnaaDoor
open Go.RowKit

theorem aDrewN_below (w : World) (n : Nat) : Below w.heap.size w (w.drewN n) := by
  induction n with
  | zero => exact Below.refl _ _
  | succ n ih => exact ih.drew
theorem ptrW (w : World) (a : Addr) : (binOp .eql 74 (.pointer (some a)) (.pointer (some a))).run Tryd.prog w = .ok (.bool true) w := by
  obtain ⟨j, hj⟩ : ∃ j, Tryd.prog.info? 118 = some j := ⟨_, rfl⟩
  exact run_eql_ptr_same w a (te := 118) Tryd.underlying74 hj
theorem ptrWz (w : World) (a : Addr) : (binOp .eql 74 (.pointer none) (.pointer (some a))).run Tryd.prog w = .ok (.bool false) w := by
  have h : ∀ d : Nat, (Op.equalIn (d + 1) 74 (.pointer none) (.pointer (some a))).run Tryd.prog w = .ok false w := fun d => by
    simp [Op.equalIn, run_underlying (P := Tryd.prog) (t := 74) Tryd.underlying74]
  simp only [binOp]
  simp [Op.equal, Op.maxDepth, h 9999]
theorem wmade_y (a : Nat) (w : World) (h0 : w.cell? ⟨a, 2, none⟩ = some (.pointer (some ⟨a, 0, none⟩))) : Calls Tryd.prog 130 #[.pointer (some ⟨a, 0, none⟩)] w fun e w' => e = .returned (.bool true) ∧ w = w' := by
  have hp := fun W => ptrW W ⟨a, 0, none⟩
  go_enter Tryd.func130, Tryd.ntmps130
  go_wp2_with fail
  go_ret
  exact ⟨rfl, rfl⟩
theorem wmade_n (w : World) : Calls Tryd.prog 130 #[.pointer none] w fun e w' => e = .returned (.bool false) ∧ w = w' := by
  go_enter Tryd.func130, Tryd.ntmps130
  go_wp2_with fail
  go_ret
  exact ⟨rfl, rfl⟩
theorem wmade_z (a : Nat) (w : World) (h0 : w.cell? ⟨a, 2, none⟩ = some (.pointer none)) : Calls Tryd.prog 130 #[.pointer (some ⟨a, 0, none⟩)] w fun e w' => e = .returned (.bool false) ∧ w = w' := by
  have hp := fun W => ptrWz W ⟨a, 0, none⟩
  go_enter Tryd.func130, Tryd.ntmps130
  go_wp2_with fail
  go_ret
  exact ⟨rfl, rfl⟩
theorem ptrR (w : World) (a : Addr) : (binOp .eql 125 (.pointer (some a)) (.pointer (some a))).run Tryd.prog w = .ok (.bool true) w := by
  obtain ⟨j, hj⟩ : ∃ j, Tryd.prog.info? 146 = some j := ⟨_, rfl⟩
  exact run_eql_ptr_same w a (te := 146) Tryd.underlying125 hj
theorem ptrRz (w : World) (a : Addr) : (binOp .eql 125 (.pointer none) (.pointer (some a))).run Tryd.prog w = .ok (.bool false) w := by
  have h : ∀ d : Nat, (Op.equalIn (d + 1) 125 (.pointer none) (.pointer (some a))).run Tryd.prog w = .ok false w := fun d => by
    simp [Op.equalIn, run_underlying (P := Tryd.prog) (t := 125) Tryd.underlying125]
  simp only [binOp]
  simp [Op.equal, Op.maxDepth, h 9999]
theorem aRmade_y (a : Nat) (w : World) (h0 : w.cell? ⟨a, 2, none⟩ = some (.pointer (some ⟨a, 0, none⟩))) : Calls Tryd.prog 147 #[.pointer (some ⟨a, 0, none⟩)] w fun e w' => e = .returned (.bool true) ∧ w = w' := by
  have hp := fun W => ptrR W ⟨a, 0, none⟩
  go_enter Tryd.func147, Tryd.ntmps147
  go_wp2_with fail
  go_ret
  exact ⟨rfl, rfl⟩
theorem rmade_n (w : World) : Calls Tryd.prog 147 #[.pointer none] w fun e w' => e = .returned (.bool false) ∧ w = w' := by
  go_enter Tryd.func147, Tryd.ntmps147
  go_wp2_with fail
  go_ret
  exact ⟨rfl, rfl⟩
theorem rmade_z (a : Nat) (w : World) (h0 : w.cell? ⟨a, 2, none⟩ = some (.pointer none)) : Calls Tryd.prog 147 #[.pointer (some ⟨a, 0, none⟩)] w fun e w' => e = .returned (.bool false) ∧ w = w' := by
  have hp := fun W => ptrRz W ⟨a, 0, none⟩
  go_enter Tryd.func147, Tryd.ntmps147
  go_wp2_with fail
  go_ret
  exact ⟨rfl, rfl⟩
/-- After step. -/
def Stepped (w : World) (a n : Nat) (e : Ending) (w' : World) : Prop := e = .returned (.tuple #[.int .i64 ((n / 8 : Nat) : Int), .int .i64 ((7 - n % 8 : Nat) : Int)]) ∧ ∃ k, w' = (w.drewN k).setCell ⟨a, 1, none⟩ (.int .i64 ((n + 1 : Nat) : Int))
theorem step_c (w : World) (a n : Nat) (c1 : w.cell? ⟨a, 1, none⟩ = some (.int .i64 (n : Int))) (f : ∀ i, w.frozen? ⟨a, i, none⟩ = false) (hn : n ≤ 1000000000) :
    Calls Tryd.prog 141 #[.pointer (some ⟨a, 0, none⟩)] w (Stepped w a n) := by
  have HN : Hid ((n : Int) / 8 = ((n / 8 : Nat) : Int) ∧ 7 - (n : Int) % 8 = ((7 - n % 8 : Nat) : Int) ∧ (n : Int) + 1 = ((n + 1 : Nat) : Int)) := by
    show _ ∧ _ ∧ _
    omega
  go_enter Tryd.func141, Tryd.ntmps141
  go_wp2_with fail
  go_quiet (fail)
  go_wp2_with fail
  go_ret2
  refine ⟨?_, nq, ?_⟩
  · show Ending.returned (.tuple #[.int .i64 ((n : Int) / 8), .int .i64 (7 - (n : Int) % 8)]) = _
    rw [HN.out.1, HN.out.2.1]
  · rw [← HN.out.2.2]
/-- The code's writer at a block, with the bits that were put. -/
structure RwC (w : World) (B a : Nat) (sv : Value) (l : List Int) : Prop where
  core : Core w B a 118 #[sv, .int .i64 (l.length : Int), .pointer (some ⟨a, 0, none⟩)]
  own : w.ownsRow B 5 1 sv (Pk.nb l.length) ((Pk.pk (Pk.nb l.length) l).map (Value.int .u8))
def Rw (w : World) (B a : Nat) (l : List Int) : Prop := ∃ sv, RwC w B a sv l
theorem Rw.lt {w : World} {B a : Nat} {l : List Int} (h : Rw w B a l) : a < w.heap.size := h.elim fun _ h => h.core.lt
theorem Rw.ge {w : World} {B a : Nat} {l : List Int} (h : Rw w B a l) : B ≤ a := h.elim fun _ h => h.core.ge
theorem Rw.fl {w : World} {B a : Nat} {l : List Int} (h : Rw w B a l) : ∀ k, Fp w a k → k < w.heap.size := h.elim fun _ h => h.core.fl
theorem Rw.fp {w : World} {B a : Nat} {l : List Int} (h : Rw w B a l) : ∀ k, Fp w a k → B ≤ k ∧ k < w.heap.size := h.elim fun _ h => h.core.fp
theorem Rw.out {w w1 : World} {B a : Nat} {l : List Int} (h : Rw w B a l) (k : Kp a w w1) : Below B w w1 := h.elim fun _ h => h.core.out k
theorem Rw.keep {w w1 : World} {B a : Nat} {l : List Int} (h : Rw w B a l) (hk : ∀ k, Fp w a k → w1.heap[k]? = w.heap[k]?) : Rw w1 B a l := by
  obtain ⟨sv, h⟩ := h
  exact ⟨sv, h.core.keep hk, own_keep h.own fun k ho => hk k (h.core.of (i := 0) rfl ho)⟩
theorem Rw.below {w w1 : World} {B a : Nat} {l : List Int} (h : Rw w B a l) (hb : Below w.heap.size w w1) : Rw w1 B a l := h.keep fun k hk => hb.block k (h.fl k hk)
theorem Rw.kp {w w1 : World} {B a b : Nat} {l : List Int} (h : Rw w B b l) (hd : Dj w a b) (hk : Kp a w w1) : Rw w1 B b l ∧ Dj w1 a b := ⟨h.keep (hd.kp hk h.fl).2, (hd.kp hk h.fl).1⟩
theorem Rw.lower {w : World} {B B' a : Nat} {l : List Int} (h : Rw w B a l) (hB : B' ≤ B) : Rw w B' a l := by
  obtain ⟨sv, h⟩ := h
  exact ⟨sv, h.core.lower hB, own_lower h.own hB⟩
theorem core_one {w : World} {B a : Nat} {T e : TypeId} {cs : Array Value} {sv : Value} {n i : Nat} {xs : List Value} (hB : B ≤ a) (hb : Blk w a T cs) (hne : e ≠ T) (hi : cs[i]? = some sv) (ho : w.ownsRow B e 1 sv n xs)
    (hr : ∀ (j : Nat) (v : Value), j ≠ i → cs[j]? = some v → v.ownBlock = none) : Core w B a T cs := by
  refine ⟨hB, hb, fun j v k hv hk => ?_, fun j j' v v' k hne hv hv' hk hk' => ?_⟩
  · by_cases h : j = i
    · subst h
      rw [hi] at hv
      obtain rfl := Option.some.inj hv
      obtain ⟨h1, ds, h2⟩ := own_foot ho hk
      exact ⟨h1, e, ds, h2, hne⟩
    · rw [hr j v h hv] at hk; simp at hk
  · by_cases h : j = i
    · rw [hr j' v' (fun e => hne (h.trans e.symm)) hv'] at hk'; simp at hk'
    · rw [hr j v h hv] at hk; simp at hk
/-- The cells of an object of three: a row's value, and two that hold no slice. -/
theorem rest3 {sv x y : Value} (hx : x.ownBlock = none) (hy : y.ownBlock = none) : ∀ (j : Nat) (v : Value), j ≠ 0 → (#[sv, x, y] : Array Value)[j]? = some v → v.ownBlock = none := by
  intro j v hj hv
  match j, hj, hv with
  | 1, _, hv => simp at hv; subst hv; exact hx
  | 2, _, hv => simp at hv; subst hv; exact hy
  | j + 3, _, hv => simp at hv
/-- After a call of a writer: the bits, and what else there is. -/
def RwGives (B a : Nat) (l : List Int) (c : Int) (w : World) (e : Ending) (w' : World) : Prop := e = .returned (.int .i64 c) ∧ Rw w' B a l ∧ Kp a w w'
theorem wnew_c (w : World) : Calls Tryd.prog 35 #[] w fun e w' => ∃ a, e = .returned (.pointer (some ⟨a, 0, none⟩)) ∧ Rw w' w.heap.size a [] ∧ Below w.heap.size w w' := by
  go_enter Tryd.func35, Tryd.ntmps35
  go_wp2_with fail
  go_ret
  exact ⟨_, rfl, ⟨.slice none 0 0, core_one (i := 0) (e := 5) (n := 0) (xs := []) (Nat.le_refl _) (Blk.new w 118 _) (by decide) rfl (World.ownsRow_nil _ _ _ _) (rest3 rfl rfl), World.ownsRow_nil _ _ _ _⟩, (Below.refl _ _).alloc (Nat.le_refl _) _⟩
theorem wsize_c (w : World) (B a : Nat) (l : List Int) (h : Rw w B a l) (hl : l.length ≤ 1000000000) : Calls Tryd.prog 128 #[.pointer (some ⟨a, 0, none⟩)] w fun e w' => e = .returned (.int .i64 ((Pk.nb l.length : Nat) : Int)) ∧ w = w' := by
  obtain ⟨sv, h⟩ := h
  have c0 : w.cell? ⟨a, 0, none⟩ = some sv := h.core.blk.cell 0
  have c2 : w.cell? ⟨a, 2, none⟩ = some (.pointer (some ⟨a, 0, none⟩)) := h.core.blk.cell 2
  obtain ⟨s, m, rfl⟩ := own_slice h.own
  clear h
  have hn : Pk.nb l.length ≤ 1000000000 := by unfold Pk.nb; omega
  generalize Pk.nb l.length = n at *
  go_enter Tryd.func128, Tryd.ntmps128
  go_wp2_with (first | (go_at_call 130; refine (wmade_y _ _ c2).mono ?_; rintro e wn ⟨rfl, rfl⟩))
  go_ret
  exact ⟨rfl, rfl⟩
/-- What Terminate returns: a slice over the bytes, none of them the writer's any more. -/
def WTerm (B a : Nat) (l : List Int) (w : World) (e : Ending) (w' : World) : Prop := ∃ s m, e = .returned (.slice s (Pk.seg l).length m) ∧ HoldsB w' s (Pk.seg l) ∧ (Pk.seg l).length ≤ m ∧ (∀ p, s = some p → B ≤ p.block ∧ ∃ ds, Blk w' p.block 5 ds) ∧ (s = none → Pk.seg l = [] ∧ m = 0) ∧ Rw w' B a [] ∧ Kp a w w'
theorem wterm_c (w : World) (B a : Nat) (l : List Int) (h : Rw w B a l) (hl : l.length ≤ 1000000000) : Calls Tryd.prog 129 #[.pointer (some ⟨a, 0, none⟩)] w (WTerm B a l w) := by
  obtain ⟨sv, h⟩ := h
  have H := Lib.hid h
  have c0 : w.cell? ⟨a, 0, none⟩ = some sv := h.core.blk.cell 0
  have c1 : w.cell? ⟨a, 1, none⟩ = some (.int .i64 (l.length : Int)) := h.core.blk.cell 1
  have c2 : w.cell? ⟨a, 2, none⟩ = some (.pointer (some ⟨a, 0, none⟩)) := h.core.blk.cell 2
  have f := h.core.blk.free
  have ho := h.own
  obtain ⟨L, hL⟩ : ∃ L, L = Pk.pk (Pk.nb l.length) l := ⟨_, rfl⟩
  have hLl : Pk.nb l.length = L.length := by rw [hL, Pk.pk_len]
  rw [← hL, hLl] at ho
  have HL := Lib.hid hL
  obtain ⟨_, s, m, rfl, hH, ⟨hm, hm2⟩, hs⟩ := HoldsB.of_own ho
  have ht := trim_c L s m w hH hm (by rw [← hLl]; unfold Pk.nb; omega)
  have HH := Lib.hid hH
  have HO := Lib.hid ho
  have HS := Lib.hid hs
  have hseg : Hid (Pk.seg l = Am.trim L) := by show _ = _; rw [hL]; rfl
  clear h ho hL hLl hH hs
  go_enter Tryd.func129, Tryd.ntmps129
  go_wp2_with (first | (go_at_call 130; refine (wmade_y _ _ c2).mono ?_; rintro e wn ⟨rfl, rfl⟩) | (go_at_call 117; refine ht.mono ?_; rintro e wn ⟨rfl, rfl⟩))
  go_ret
  have K1 := H.out.core.put 0 (.slice none 0 0) (fun k hk => by simp [Value.ownBlock] at hk)
  have K2 := (K1.num 1 (.int .i64 0) rfl).1
  have K3 := (H.out.core.num 0 (.slice none 0 0) rfl).2.trans (K1.num 1 (.int .i64 0) rfl).2
  have hpre := Am.trim_pre L
  have hne := own_blk_ne HO.out H.out.core.blk (by decide)
  have O2 := own_far (own_far HO.out ⟨a, 0, none⟩ (.slice none 0 0) hne) ⟨a, 1, none⟩ (.int .i64 0) hne
  refine ⟨s, m, by rw [hseg.out]; rfl, ?_, by rw [hseg.out]; omega, fun p hp => ?_, fun h0 => ?_, ⟨.slice none 0 0, by simpa using K2, World.ownsRow_nil _ _ _ _⟩, K3⟩
  · obtain ⟨_, s', m', he, hH', _⟩ := HoldsB.of_own O2
    simp at he
    obtain ⟨rfl, rfl⟩ := he
    rw [hseg.out, hpre.2.1]
    exact hH'.take _
  · subst hp
    exact own_foot O2 rfl
  · have := HS.out h0
    refine ⟨?_, this.2⟩
    rw [hseg.out, this.1]; rfl
theorem or_pow (x f : Nat) (hx : x < 256) (hf : f ≤ 7) (hm : x % 2 ^ (f + 1) = 0) : x ||| 2 ^ f = x + 2 ^ f := by
  have key : ∀ f, f < 8 → ∀ x, x < 256 → x % 2 ^ (f + 1) = 0 → x ||| 2 ^ f = x + 2 ^ f := by decide +kernel
  exact key f (by omega) x hx hm
theorem or_u8 {x b : Int} {f : Nat} (h0 : 0 ≤ x ∧ x ≤ 255) (hb : Pk.bit b) (hf : f ≤ 7) (hm : x % 2 ^ (f + 1) = 0) : bits .or .u8 x (b * 2 ^ f % 256) = x + b * 2 ^ f := by
  obtain ⟨k, rfl⟩ : ∃ k : Nat, x = k := ⟨x.toNat, by omega⟩
  have hp : (2 : Int) ^ f = ((2 ^ f : Nat) : Int) := by simp
  have hlt : 2 ^ f < 256 := by
    have : 2 ^ f ≤ 2 ^ 7 := Nat.pow_le_pow_right (by omega) hf
    omega
  have hm' : k % 2 ^ (f + 1) = 0 := by
    have e : (2 : Int) ^ (f + 1) = ((2 ^ (f + 1) : Nat) : Int) := by simp
    rw [e] at hm
    omega
  rcases hb with rfl | rfl
  · have := u8_or_nat k 0 (by omega) (by omega)
    simpa using this
  · rw [Int.one_mul, hp, show ((2 ^ f : Nat) : Int) % 256 = ((2 ^ f : Nat) : Int) by omega, u8_or_nat k (2 ^ f) (by omega) hlt, or_pow k f (by omega) hf hm']
    simp
theorem put_no (w : World) (B a : Nat) (l : List Int) (b : Int) (h : Rw w B a l) (hb : ¬ Pk.bit b) : Calls Tryd.prog 140 #[.pointer (some ⟨a, 0, none⟩), .int .i64 b] w (RwGives B a l 2 w) := by
  have H := Lib.hid h
  obtain ⟨sv, h⟩ := h
  have c2 : w.cell? ⟨a, 2, none⟩ = some (.pointer (some ⟨a, 0, none⟩)) := h.core.blk.cell 2
  have b0 : (b != 0) = true := by simp; exact fun e => hb (.inl e)
  have b1 : (b != 1) = true := by simp; exact fun e => hb (.inr e)
  have b0' : (b == 0) = false := by simp; exact fun e => hb (.inl e)
  have b1' : (b == 1) = false := by simp; exact fun e => hb (.inr e)
  clear h hb
  go_enter Tryd.func140, Tryd.ntmps140
  go_wp2_with (first | (go_at_call 130; refine (wmade_y _ _ c2).mono ?_; rintro e wn ⟨rfl, rfl⟩))
  go_ret
  exact ⟨rfl, H.out, Kp.refl _ _⟩
/-- The writer's memory behind step. -/
structure Step1 (w : World) (B a g m q : Nat) (l : List Int) (W1 : World) : Prop where
  core : Core W1 B a 118 #[.slice (some ⟨g, 0, none⟩) (q + 1) m, .int .i64 ((l.length : Int) + 1), .pointer (some ⟨a, 0, none⟩)]
  own : W1.ownsRow B 5 1 (.slice (some ⟨g, 0, none⟩) (q + 1) m) (q + 1) ((Pk.pk (q + 1) l).map (Value.int .u8))
  kp : Kp a w W1
  byte : W1.cell? ⟨g, q, none⟩ = some (.int .u8 (Pk.byt l q))
  free : ∀ j, W1.frozen? ⟨g, j, none⟩ = false
theorem step1 {w : World} {B a g m q : Nat} {l : List Int} (h : RwC w B a (.slice (some ⟨g, 0, none⟩) (q + 1) m) l) (hnb : Pk.nb l.length = q + 1) (k : Nat) : Step1 w B a g m q l ((w.drewN k).setCell ⟨a, 1, none⟩ (.int .i64 ((l.length : Int) + 1))) := by
  have D := aDrewN_below w k
  have C0 := h.core.keep (w1 := w.drewN k) (fun j hj => D.block j (h.core.fl j hj))
  have N1 := C0.num 1 (.int .i64 ((l.length : Int) + 1)) rfl
  have ho := h.own
  rw [hnb] at ho
  have hne := own_blk_ne ho h.core.blk (by decide)
  have O0 := own_keep (w1 := w.drewN k) ho (fun j hj => D.block j (h.core.fl j (h.core.of (i := 0) rfl hj)))
  have O1 := own_far O0 ⟨a, 1, none⟩ (.int .i64 ((l.length : Int) + 1)) hne
  obtain ⟨g', he, h1, h2, _⟩ := own_at O1 q (by omega)
  obtain rfl : g = g' := by simpa using he
  refine ⟨by simpa using N1.1, O1, (Kp.of_below D h.core.lt).trans N1.2, ?_, h2⟩
  rw [h1]
  simp [Pk.pk]
theorem put_end {w W1 : World} {B a g m q r : Nat} {l : List Int} {b v : Int} (S : Step1 w B a g m q l W1) (hq : l.length / 8 = q) (hr : 7 - l.length % 8 = r) (hnb : Pk.nb (l.length + 1) = q + 1) (hv : v = Pk.byt l q + b * 2 ^ r) :
    Rw (W1.setCell ⟨g, q, none⟩ (.int .u8 v)).drew B a (l ++ [b]) ∧ Kp a w (W1.setCell ⟨g, q, none⟩ (.int .u8 v)).drew := by
  have R := S.core.row (i := 0) (g := g) rfl rfl q (.int .u8 v)
  have K := S.kp.trans R.2
  have O := own_put S.own q (.int .u8 v)
  refine ⟨⟨.slice (some ⟨g, 0, none⟩) (q + 1) m, ?_, ?_⟩, K.trans (Kp.of_below (Below.refl _ _).drew R.1.lt)⟩
  · have := R.1
    rw [List.length_append, List.length_singleton]
    exact ⟨this.ge, this.blk, this.foot, this.dis⟩
  · rw [List.length_append, List.length_singleton, hnb, Pk.pk_set, hq, hr, List.map_set, ← hv]
    exact O
theorem put_val {l : List Int} {q r : Nat} {b y v : Int} (hlow : Pk.byt l q % 2 ^ (r + 1) = 0) (hl : Pk.bits l) (hb : Pk.bit b) (hr7 : r ≤ 7) (hy : y = bits .or .u8 (Pk.byt l q) (b * 2 ^ r % 256)) (hv : v = y) : v = Pk.byt l q + b * 2 ^ r := by
  rw [hv, hy, or_u8 (Pk.byt_bd hl q) hb hr7 hlow]
theorem put_p (w : World) (B a g m q r : Nat) (l : List Int) (b : Int) (h : RwC w B a (.slice (some ⟨g, 0, none⟩) (q + 1) m) l) (hb : Pk.bit b) (hl : Pk.bits l) (hq : l.length / 8 = q) (hr : 7 - l.length % 8 = r) (h8 : l.length % 8 ≠ 0) (hn : l.length + 1 ≤ 1000000000) :
    Calls Tryd.prog 140 #[.pointer (some ⟨a, 0, none⟩), .int .i64 b] w (RwGives B a (l ++ [b]) 0 w) := by
  have H := Lib.hid h
  have c0 : w.cell? ⟨a, 0, none⟩ = some (.slice (some ⟨g, 0, none⟩) (q + 1) m) := h.core.blk.cell 0
  have c1 : w.cell? ⟨a, 1, none⟩ = some (.int .i64 (l.length : Int)) := h.core.blk.cell 1
  have c2 : w.cell? ⟨a, 2, none⟩ = some (.pointer (some ⟨a, 0, none⟩)) := h.core.blk.cell 2
  have f := h.core.blk.free
  have hs := step_c w a l.length c1 f (by omega)
  unfold Stepped at hs
  rw [hq, hr] at hs
  have hnb : Pk.nb l.length = q + 1 := by unfold Pk.nb; omega
  have HL : Hid (l.length / 8 = q ∧ 7 - l.length % 8 = r ∧ l.length % 8 ≠ 0 ∧ Pk.nb l.length = q + 1 ∧ r ≤ 6 ∧ q ≤ 1000000000) := ⟨hq, hr, h8, hnb, by omega, by omega⟩
  have HLOW : Hid (Pk.byt l q % 2 ^ (r + 1) = 0) := by show _ = _; rw [← hq, ← hr]; exact Pk.byt_low h8
  have hbb : b = 0 ∨ b = 1 := hb
  have HB := Lib.hid hb
  clear h hq hr h8 hb hnb
  have b01 : 0 ≤ b ∧ b ≤ 1 := by omega
  have hq9 : q ≤ 1000000000 := HL.out.2.2.2.2.2
  have hr6 : r ≤ 6 := HL.out.2.2.2.2.1
  clear b01
  rcases hbb with rfl | rfl
  · go_enter Tryd.func140, Tryd.ntmps140
    go_wp2_with (first | (go_at_call 130; refine (wmade_y _ _ c2).mono ?_; rintro e wn ⟨rfl, rfl⟩) | (go_at_call 141; refine hs.mono ?_; rintro e wn ⟨rfl, k, rfl⟩))
    obtain ⟨W1, hW1⟩ : ∃ x, x = (w.drewN k).setCell ⟨a, 1, none⟩ (.int .i64 ((l.length : Int) + 1)) := ⟨_, rfl⟩
    have S1 : Hid (Step1 w B a g m q l W1) := by rw [hW1]; exact step1 H.out HL.out.2.2.2.1 k
    rw [← hW1]
    clear hW1 c0 c1 c2 f hs
    have q1 : W1.cell? ⟨a, 0, none⟩ = some (.slice (some ⟨g, 0, none⟩) (q + 1) m) := S1.out.core.blk.cell 0
    have g1 : W1.cell? ⟨g, q, none⟩ = some (.int .u8 (Pk.byt l q)) := S1.out.byte
    have fg1 : ∀ j, W1.frozen? ⟨g, j, none⟩ = false := S1.out.free
    have e6 : IntKind.i64.wrap (q : Int) = (q : Int) := IntWalk.i64_in _ (by omega)
    have e7 : IntKind.i64.wrap (r : Int) = (r : Int) := IntWalk.i64_in _ (by omega)
    have e3 : (0 : Int) ≤ (q : Int) := by omega
    have e8 : (0 : Int) ≤ (r : Int) := by omega
    have e4 : (q : Int) < (q : Int) + 1 := by omega
    have e5 : (q : Int) < ((q + 1 : Nat) : Int) := by omega
    obtain ⟨x, hx⟩ : ∃ x, x = Pk.byt l q := ⟨_, rfl⟩
    rw [← hx] at g1
    have HX := Lib.hid hx
    clear hx
    go_region_law (fail)
    all_goals
      go_wp2_with fail
      go_ret
      exact ⟨rfl, put_end (b := 0) S1.out HL.out.1 HL.out.2.1 (by have := HL.out; unfold Pk.nb at *; omega) (put_val HLOW.out hl (.inl rfl) (by omega) rfl (by rw [HX.out]; simp [IntKind.wrap_u8]))⟩
  · go_enter Tryd.func140, Tryd.ntmps140
    go_wp2_with (first | (go_at_call 130; refine (wmade_y _ _ c2).mono ?_; rintro e wn ⟨rfl, rfl⟩) | (go_at_call 141; refine hs.mono ?_; rintro e wn ⟨rfl, k, rfl⟩))
    obtain ⟨W1, hW1⟩ : ∃ x, x = (w.drewN k).setCell ⟨a, 1, none⟩ (.int .i64 ((l.length : Int) + 1)) := ⟨_, rfl⟩
    have S1 : Hid (Step1 w B a g m q l W1) := by rw [hW1]; exact step1 H.out HL.out.2.2.2.1 k
    rw [← hW1]
    clear hW1 c0 c1 c2 f hs
    have q1 : W1.cell? ⟨a, 0, none⟩ = some (.slice (some ⟨g, 0, none⟩) (q + 1) m) := S1.out.core.blk.cell 0
    have g1 : W1.cell? ⟨g, q, none⟩ = some (.int .u8 (Pk.byt l q)) := S1.out.byte
    have fg1 : ∀ j, W1.frozen? ⟨g, j, none⟩ = false := S1.out.free
    have e6 : IntKind.i64.wrap (q : Int) = (q : Int) := IntWalk.i64_in _ (by omega)
    have e7 : IntKind.i64.wrap (r : Int) = (r : Int) := IntWalk.i64_in _ (by omega)
    have e3 : (0 : Int) ≤ (q : Int) := by omega
    have e8 : (0 : Int) ≤ (r : Int) := by omega
    have e4 : (q : Int) < (q : Int) + 1 := by omega
    have e5 : (q : Int) < ((q + 1 : Nat) : Int) := by omega
    obtain ⟨x, hx⟩ : ∃ x, x = Pk.byt l q := ⟨_, rfl⟩
    rw [← hx] at g1
    have HX := Lib.hid hx
    clear hx
    go_region_law (fail)
    all_goals
      go_wp2_with fail
      go_ret
      exact ⟨rfl, put_end (b := 1) S1.out HL.out.1 HL.out.2.1 (by have := HL.out; unfold Pk.nb at *; omega) (put_val HLOW.out hl (.inr rfl) (by omega) rfl (by rw [HX.out]; simp [IntKind.wrap_u8]))⟩
/-- The writer's memory behind step, where a byte begins. -/
structure Step0 (w : World) (B a q : Nat) (sv : Value) (l : List Int) (W1 : World) : Prop where
  core : Core W1 B a 118 #[sv, .int .i64 ((l.length : Int) + 1), .pointer (some ⟨a, 0, none⟩)]
  own : W1.ownsRow B 5 1 sv q ((Pk.pk q l).map (Value.int .u8))
  kp : Kp a w W1
theorem step0 {w : World} {B a q : Nat} {sv : Value} {l : List Int} (h : RwC w B a sv l) (hnb : Pk.nb l.length = q) (k : Nat) : Step0 w B a q sv l ((w.drewN k).setCell ⟨a, 1, none⟩ (.int .i64 ((l.length : Int) + 1))) := by
  have D := aDrewN_below w k
  have C0 := h.core.keep (w1 := w.drewN k) (fun j hj => D.block j (h.core.fl j hj))
  have N1 := C0.num 1 (.int .i64 ((l.length : Int) + 1)) rfl
  have ho := h.own
  rw [hnb] at ho
  have hne := own_blk_ne ho h.core.blk (by decide)
  have O0 := own_keep (w1 := w.drewN k) ho (fun j hj => D.block j (h.core.fl j (h.core.of (i := 0) rfl hj)))
  have O1 := own_far O0 ⟨a, 1, none⟩ (.int .i64 ((l.length : Int) + 1)) hne
  exact ⟨by simpa using N1.1, O1, (Kp.of_below D h.core.lt).trans N1.2⟩
theorem step0_grow {w W1 w2 : World} {B a q : Nat} {sv v' : Value} {l : List Int} {X : Obj} (h : Step0 w B a q sv l W1) (h8 : l.length % 8 = 0) (hnb : Pk.nb l.length = q)
    (hown : w2.ownsRow B 5 1 v' (q + 1) ((Pk.pk q l).map (Value.int .u8) ++ [.int .u8 0])) (hg : (W1.alloc X).grownBy w2 sv.ownBlock) (hat : v'.ownBlock = sv.ownBlock ∨ v'.ownBlock = some (W1.heap.size + 1)) :
    ∃ g m, v' = .slice (some ⟨g, 0, none⟩) (q + 1) m ∧ Step1 w B a g m q l (w2.setCell ⟨a, 0, none⟩ v') ∧ Blk w2 a 118 #[sv, .int .i64 ((l.length : Int) + 1), .pointer (some ⟨a, 0, none⟩)] := by
  have hmore : (Pk.pk q l).map (Value.int .u8) ++ [.int .u8 0] = (Pk.pk (q + 1) l).map (Value.int .u8) := by
    rw [← hnb, Pk.pk_more h8, List.map_append]; rfl
  rw [hmore] at hown
  obtain ⟨x1, x2, x3, x4⟩ := h.core.grow (i := 0) rfl h.own (by decide) hown hg (hat.imp id fun he k hk => by rw [he] at hk; have := Option.some.inj hk; omega)
  obtain ⟨g, m, rfl, hgB, ⟨cs, hBg⟩, hg1, fg⟩ := own_form x2
  refine ⟨g, m, rfl, ⟨by simpa using x1, x2, h.kp.trans x3, ?_, fg⟩, x4⟩
  rw [hg1]
  simp [Pk.pk]
theorem put_z (w : World) (B a q : Nat) (s : Option Addr) (m : Nat) (l : List Int) (b : Int) (h : RwC w B a (.slice s q m) l) (hb : Pk.bit b) (hl : Pk.bits l) (hq : l.length / 8 = q) (h8 : l.length % 8 = 0) (hn : l.length + 1 ≤ 1000000000) :
    Calls Tryd.prog 140 #[.pointer (some ⟨a, 0, none⟩), .int .i64 b] w (RwGives B a (l ++ [b]) 0 w) := by
  have H := Lib.hid h
  have c0 : w.cell? ⟨a, 0, none⟩ = some (.slice s q m) := h.core.blk.cell 0
  have c1 : w.cell? ⟨a, 1, none⟩ = some (.int .i64 (l.length : Int)) := h.core.blk.cell 1
  have c2 : w.cell? ⟨a, 2, none⟩ = some (.pointer (some ⟨a, 0, none⟩)) := h.core.blk.cell 2
  have f := h.core.blk.free
  have hs := step_c w a l.length c1 f (by omega)
  unfold Stepped at hs
  rw [hq, h8] at hs
  have HL : Hid (l.length / 8 = q ∧ 7 - l.length % 8 = 7 ∧ l.length % 8 = 0 ∧ Pk.nb l.length = q ∧ q ≤ 1000000000) := ⟨hq, by omega, h8, by unfold Pk.nb; omega, by omega⟩
  have HLOW : Hid (Pk.byt l q % 2 ^ (7 + 1) = 0) := by show _ = _; rw [Pk.byt_over (by omega)]; rfl
  have hbb : b = 0 ∨ b = 1 := hb
  clear h hq h8 hb
  have hq9 : q ≤ 1000000000 := HL.out.2.2.2.2
  obtain ⟨i0, hi, hz0, hz1, hz2⟩ := info_parts info8
  rcases hbb with rfl | rfl
  · go_enter Tryd.func140, Tryd.ntmps140
    go_upto_region 7 with (first | (go_at_call 130; refine (wmade_y _ _ c2).mono ?_; rintro e wn ⟨rfl, rfl⟩) | (go_at_call 141; refine hs.mono ?_; rintro e wn ⟨rfl, k, rfl⟩))
    obtain ⟨W1, hW1⟩ : ∃ x, x = (w.drewN k).setCell ⟨a, 1, none⟩ (.int .i64 ((l.length : Int) + 1)) := ⟨_, rfl⟩
    have S0 : Hid (Step0 w B a q (.slice s q m) l W1) := by rw [hW1]; exact step0 H.out HL.out.2.2.2.1 k
    rw [← hW1]
    clear hW1 c0 c1 c2 f hs
    have d0 : W1.cell? ⟨a, 0, none⟩ = some (.slice s q m) := S0.out.core.blk.cell 0
    have df : ∀ i, W1.frozen? ⟨a, i, none⟩ = false := S0.out.core.blk.free
    have hB1 : B ≤ W1.heap.size := by have := S0.out.core.lt; have := S0.out.core.ge; omega
    go_wp2_with (first | (at_builtin; refine wpList_append_own_at _ rfl _ _ 23 rfl B 5 i0 (.int .u8 0) 1 1 Tryd.underlying23 hi hz0 hz1 hz2 rfl (by decide) _ q _ rfl (own_below S0.out.own ((Below.refl _ _).alloc (Nat.le_refl _) _)) ⟨W1.heap.size, 0, none⟩ 1 1 [.int .u8 0] rfl rfl (one_new8 _ _ _) (oneOne8 _) (by unfold maxLen; omega) (by omega) (by simp; omega) ?_))
    intro v' w2 hown hgrow _ hat
    obtain ⟨g, m2, rfl, S1'⟩ := step0_grow S0.out HL.out.2.2.1 HL.out.2.2.2.1 hown hgrow hat
    have S1 := Lib.hid S1'
    have d2 : w2.cell? ⟨a, 0, none⟩ = some (.slice s q m) := S1'.2.cell 0
    have df2 : ∀ i, w2.frozen? ⟨a, i, none⟩ = false := S1'.2.free
    clear S1' hown hgrow hat d0 df
    go_upto_region 8 with fail
    obtain ⟨W3, hW3⟩ : ∃ x, x = w2.setCell ⟨a, 0, none⟩ (.slice (some ⟨g, 0, none⟩) (q + 1) m2) := ⟨_, rfl⟩
    replace S1 : Hid (Step1 w B a g m2 q l W3) := by rw [hW3]; exact S1.out.1
    rw [← hW3]
    clear hW3 d2 df2
    have q1 : W3.cell? ⟨a, 0, none⟩ = some (.slice (some ⟨g, 0, none⟩) (q + 1) m2) := S1.out.core.blk.cell 0
    have g1 : W3.cell? ⟨g, q, none⟩ = some (.int .u8 (Pk.byt l q)) := S1.out.byte
    have fg1 : ∀ j, W3.frozen? ⟨g, j, none⟩ = false := S1.out.free
    have e6 : IntKind.i64.wrap (q : Int) = (q : Int) := IntWalk.i64_in _ (by omega)
    have e3 : (0 : Int) ≤ (q : Int) := by omega
    have e4 : (q : Int) < (q : Int) + 1 := by omega
    have e5 : (q : Int) < ((q + 1 : Nat) : Int) := by omega
    obtain ⟨x, hx⟩ : ∃ x, x = Pk.byt l q := ⟨_, rfl⟩
    rw [← hx] at g1
    have HX := Lib.hid hx
    clear hx
    go_region_law (fail)
    all_goals
      go_wp2_with fail
      go_ret
      exact ⟨rfl, put_end (b := 0) S1.out HL.out.1 HL.out.2.1 (by have := HL.out; unfold Pk.nb at *; omega) (put_val HLOW.out hl (.inl rfl) (by omega) rfl (by rw [HX.out]; simp [IntKind.wrap_u8]))⟩
  · go_enter Tryd.func140, Tryd.ntmps140
    go_upto_region 7 with (first | (go_at_call 130; refine (wmade_y _ _ c2).mono ?_; rintro e wn ⟨rfl, rfl⟩) | (go_at_call 141; refine hs.mono ?_; rintro e wn ⟨rfl, k, rfl⟩))
    obtain ⟨W1, hW1⟩ : ∃ x, x = (w.drewN k).setCell ⟨a, 1, none⟩ (.int .i64 ((l.length : Int) + 1)) := ⟨_, rfl⟩
    have S0 : Hid (Step0 w B a q (.slice s q m) l W1) := by rw [hW1]; exact step0 H.out HL.out.2.2.2.1 k
    rw [← hW1]
    clear hW1 c0 c1 c2 f hs
    have d0 : W1.cell? ⟨a, 0, none⟩ = some (.slice s q m) := S0.out.core.blk.cell 0
    have df : ∀ i, W1.frozen? ⟨a, i, none⟩ = false := S0.out.core.blk.free
    have hB1 : B ≤ W1.heap.size := by have := S0.out.core.lt; have := S0.out.core.ge; omega
    go_wp2_with (first | (at_builtin; refine wpList_append_own_at _ rfl _ _ 23 rfl B 5 i0 (.int .u8 0) 1 1 Tryd.underlying23 hi hz0 hz1 hz2 rfl (by decide) _ q _ rfl (own_below S0.out.own ((Below.refl _ _).alloc (Nat.le_refl _) _)) ⟨W1.heap.size, 0, none⟩ 1 1 [.int .u8 0] rfl rfl (one_new8 _ _ _) (oneOne8 _) (by unfold maxLen; omega) (by omega) (by simp; omega) ?_))
    intro v' w2 hown hgrow _ hat
    obtain ⟨g, m2, rfl, S1'⟩ := step0_grow S0.out HL.out.2.2.1 HL.out.2.2.2.1 hown hgrow hat
    have S1 := Lib.hid S1'
    have d2 : w2.cell? ⟨a, 0, none⟩ = some (.slice s q m) := S1'.2.cell 0
    have df2 : ∀ i, w2.frozen? ⟨a, i, none⟩ = false := S1'.2.free
    clear S1' hown hgrow hat d0 df
    go_upto_region 8 with fail
    obtain ⟨W3, hW3⟩ : ∃ x, x = w2.setCell ⟨a, 0, none⟩ (.slice (some ⟨g, 0, none⟩) (q + 1) m2) := ⟨_, rfl⟩
    replace S1 : Hid (Step1 w B a g m2 q l W3) := by rw [hW3]; exact S1.out.1
    rw [← hW3]
    clear hW3 d2 df2
    have q1 : W3.cell? ⟨a, 0, none⟩ = some (.slice (some ⟨g, 0, none⟩) (q + 1) m2) := S1.out.core.blk.cell 0
    have g1 : W3.cell? ⟨g, q, none⟩ = some (.int .u8 (Pk.byt l q)) := S1.out.byte
    have fg1 : ∀ j, W3.frozen? ⟨g, j, none⟩ = false := S1.out.free
    have e6 : IntKind.i64.wrap (q : Int) = (q : Int) := IntWalk.i64_in _ (by omega)
    have e3 : (0 : Int) ≤ (q : Int) := by omega
    have e4 : (q : Int) < (q : Int) + 1 := by omega
    have e5 : (q : Int) < ((q + 1 : Nat) : Int) := by omega
    obtain ⟨x, hx⟩ : ∃ x, x = Pk.byt l q := ⟨_, rfl⟩
    rw [← hx] at g1
    have HX := Lib.hid hx
    clear hx
    go_region_law (fail)
    all_goals
      go_wp2_with fail
      go_ret
      exact ⟨rfl, put_end (b := 1) S1.out HL.out.1 HL.out.2.1 (by have := HL.out; unfold Pk.nb at *; omega) (put_val HLOW.out hl (.inr rfl) (by omega) rfl (by rw [HX.out]; simp [IntKind.wrap_u8]))⟩
/-- What a call of Put gives. -/
def putL (l : List Int) (b : Int) : List Int := if b = 0 ∨ b = 1 then l ++ [b] else l
def putE (b : Int) : Int := if b = 0 ∨ b = 1 then 0 else 2
theorem putL_bits {l : List Int} (h : Pk.bits l) (b : Int) : Pk.bits (putL l b) := by
  unfold putL; split
  · rename_i hb; exact Pk.bits_snoc h hb
  · exact h
theorem putL_len (l : List Int) (b : Int) : (putL l b).length ≤ l.length + 1 := by unfold putL; split <;> simp
theorem aPut_c (w : World) (B a : Nat) (l : List Int) (b : Int) (h : Rw w B a l) (hl : Pk.bits l) (hn : l.length + 1 ≤ 1000000000) :
    Calls Tryd.prog 140 #[.pointer (some ⟨a, 0, none⟩), .int .i64 b] w (RwGives B a (putL l b) (putE b) w) := by
  unfold putL putE
  by_cases hb : b = 0 ∨ b = 1
  · rw [if_pos hb, if_pos hb]
    obtain ⟨sv, h⟩ := h
    have ho := h.own
    obtain ⟨s, m, rfl⟩ := own_slice ho
    by_cases h8 : l.length % 8 = 0
    · have e : Pk.nb l.length = l.length / 8 := by unfold Pk.nb; omega
      rw [e] at h
      exact put_z w B a _ s m l b h hb hl rfl h8 hn
    · have e : Pk.nb l.length = l.length / 8 + 1 := by unfold Pk.nb; omega
      rw [e] at ho
      obtain ⟨g, m', he, _⟩ := own_form ho
      simp at he
      obtain ⟨rfl, _, rfl⟩ := he
      rw [e] at h
      exact put_p w B a g m _ _ l b h hb hl rfl rfl h8 hn
  · rw [if_neg hb, if_neg hb]
    exact put_no w B a l b h hb
end Go.Proofs.YtklchodbnjebnaaDoor
