/-
  Bit strings in bytes with stuffing: plain mathematics of layer 9. No program in sight.
-/
import Derived.Below
import Derived.Lib.BitFns
set_option maxRecDepth 100000
namespace Go.Proofs.Ytaddendclipkkaa
namespace Bi

/-- The last byte, 0 if there is none. -/
def lst (bs : List Int) : Int := bs.getD (bs.length - 1) 0
/-- The number of bits that the byte behind some bytes takes. -/
def wd (bs : List Int) : Nat := if lst bs = 255 then 7 else 8
/-- A bit is added to bytes of whose last one some bits are free. -/
def addB (s : List Int × Nat) (b : Int) : List Int × Nat :=
  if s.2 = 0 then (s.1 ++ [b * 2 ^ (wd s.1 - 1)], wd s.1 - 1) else (s.1.set (s.1.length - 1) (lst s.1 + b * 2 ^ (s.2 - 1)), s.2 - 1)
def st (l : List Int) : List Int × Nat := l.foldl addB ([], 0)
def bit (b : Int) : Prop := b = 0 ∨ b = 1
def bits (l : List Int) : Prop := ∀ b ∈ l, bit b
theorem st_nil : st [] = ([], 0) := rfl
theorem st_snoc (l : List Int) (b : Int) : st (l ++ [b]) = addB (st l) b := by simp [st, List.foldl_append]
theorem bits_nil : bits [] := fun _ h => by simp at h
theorem bits_snoc {l : List Int} {b : Int} (h : bits l) (hb : bit b) : bits (l ++ [b]) := fun x hx => by
  rcases List.mem_append.1 hx with h1 | h1
  · exact h x h1
  · simp at h1; subst h1; exact hb
theorem bits_app {l m : List Int} (h : bits l) (hm : bits m) : bits (l ++ m) := fun x hx => (List.mem_append.1 hx).elim (h x) (hm x)

theorem lst_snoc (bs : List Int) (x : Int) : lst (bs ++ [x]) = x := by simp [lst]
theorem lst_set (bs : List Int) (x : Int) (h : bs ≠ []) : lst (bs.set (bs.length - 1) x) = x := by
  have : 0 < bs.length := List.length_pos_iff.2 h
  have h2 : bs.length - 1 < bs.length := by omega
  simp [lst, List.getD_eq_getElem?_getD, h2]
theorem wd_cases (bs : List Int) : wd bs = 7 ∨ wd bs = 8 := by unfold wd; split <;> simp

/-- What holds of bytes of whose last one some bits are free. -/
structure Ok (bs : List Int) (fr : Nat) : Prop where
  fr7 : fr ≤ 7
  emp : bs = [] → fr = 0
  byte : ∀ x ∈ bs, 0 ≤ x ∧ x ≤ 255
  low : lst bs % 2 ^ fr = 0
theorem ok_nil : Ok [] 0 := ⟨by omega, fun _ => rfl, fun _ h => by simp at h, by simp [lst]⟩
theorem lst_byte {bs : List Int} {fr : Nat} (h : Ok bs fr) : 0 ≤ lst bs ∧ lst bs ≤ 255 := by
  by_cases e : bs = []
  · subst e; simp [lst]
  · have hl : 0 < bs.length := List.length_pos_iff.2 e
    have h2 : bs.length - 1 < bs.length := by omega
    have : lst bs = bs[bs.length - 1] := by simp [lst, List.getD_eq_getElem?_getD, List.getElem?_eq_getElem h2]
    rw [this]
    exact h.byte _ (List.getElem_mem _)
theorem pow_lt (k : Nat) (h : k ≤ 8) : k = 0 ∨ k = 1 ∨ k = 2 ∨ k = 3 ∨ k = 4 ∨ k = 5 ∨ k = 6 ∨ k = 7 ∨ k = 8 := by omega
theorem room {x : Int} {f : Nat} {b : Int} (hf : 0 < f) (hf7 : f ≤ 7) (hb : bit b) (h0 : 0 ≤ x ∧ x ≤ 255) (hm : x % 2 ^ f = 0) :
    0 ≤ x + b * 2 ^ (f - 1) ∧ x + b * 2 ^ (f - 1) ≤ 255 ∧ (x + b * 2 ^ (f - 1)) % 2 ^ (f - 1) = 0 := by
  rcases pow_lt f (by omega) with rfl | rfl | rfl | rfl | rfl | rfl | rfl | rfl | rfl <;> rcases hb with rfl | rfl <;> simp at * <;> omega
theorem room0 {b : Int} {n : Nat} (hb : bit b) (hn : n = 7 ∨ n = 8) : 0 ≤ b * 2 ^ (n - 1) ∧ b * 2 ^ (n - 1) ≤ 128 ∧ (b * 2 ^ (n - 1)) % 2 ^ (n - 1) = 0 := by
  rcases hn with rfl | rfl <;> rcases hb with rfl | rfl <;> simp
theorem ok_add {bs : List Int} {fr : Nat} {b : Int} (h : Ok bs fr) (hb : bit b) : Ok (addB (bs, fr) b).1 (addB (bs, fr) b).2 := by
  unfold addB
  by_cases e : fr = 0
  · subst e
    simp only [if_true]
    have hw := wd_cases bs
    have hr := room0 hb hw
    refine ⟨by omega, fun h => by simp at h, fun x hx => ?_, by rw [lst_snoc]; exact hr.2.2⟩
    rcases List.mem_append.1 hx with h1 | h1
    · exact h.byte x h1
    · simp at h1; subst h1; omega
  · simp only [if_neg e]
    have hne : bs ≠ [] := fun h1 => e (h.emp h1)
    have hr := room (by omega) h.fr7 hb (lst_byte h) h.low
    refine ⟨by have := h.fr7; omega, fun h1 => by simp at h1; exact absurd h1 hne, fun x hx => ?_, by rw [lst_set _ _ hne]; exact hr.2.2⟩
    rcases List.mem_or_eq_of_mem_set hx with h1 | h1
    · exact h.byte x h1
    · subst h1; omega
theorem st_ok {l : List Int} (h : bits l) : Ok (st l).1 (st l).2 := by
  have key : ∀ (m : List Int) (s : List Int × Nat), Ok s.1 s.2 → bits m → Ok (m.foldl addB s).1 (m.foldl addB s).2 := by
    intro m
    induction m with
    | nil => intro s hs _; exact hs
    | cons b m ih =>
      intro s hs hm
      exact ih _ (ok_add hs (hm b (by simp))) (fun x hx => hm x (by simp [hx]))
  exact key l ([], 0) ok_nil h
theorem add_len (s : List Int × Nat) (b : Int) : (addB s b).1.length ≤ s.1.length + 1 := by
  unfold addB; split <;> simp
theorem st_len (l : List Int) : (st l).1.length ≤ l.length := by
  have key : ∀ (m : List Int) (s : List Int × Nat), (m.foldl addB s).1.length ≤ s.1.length + m.length := by
    intro m
    induction m with
    | nil => intro s; simp
    | cons b m ih => intro s; have := ih (addB s b); have := add_len s b; simp only [List.foldl_cons, List.length_cons]; omega
  have := key l ([], 0); simpa [st] using this
/-- The bytes in the end: behind a last byte 255 stands a byte 0. -/
def fin (bs : List Int) : List Int := if lst bs = 255 then bs ++ [0] else bs
def enc (l : List Int) : List Int := fin (st l).1
/-- The n lowest binary digits of a number, the highest first. -/
def dig (v : Int) (n : Nat) : List Int := (List.range n).map fun j => v / 2 ^ (n - 1 - j) % 2
theorem dig_len (v : Int) (n : Nat) : (dig v n).length = n := by simp [dig]
theorem dig_bits (v : Int) (n : Nat) : bits (dig v n) := fun x hx => by
  simp [dig] at hx
  obtain ⟨j, _, rfl⟩ := hx
  unfold bit; omega
theorem dig_next (v : Int) {n k : Nat} (hk : k < n) : (dig v n).take (n - (k + 1)) ++ [v / 2 ^ k % 2] = (dig v n).take (n - k) := by
  have e : n - k = (n - (k + 1)) + 1 := by omega
  rw [e, List.take_succ_eq_append_getElem (by rw [dig_len]; omega)]
  congr 2
  simp [dig]
  congr 3
  omega
theorem bits_take {l : List Int} (h : bits l) (k : Nat) : bits (l.take k) := fun x hx => h x (List.mem_of_mem_take hx)
/-- v bits 1 and a bit 0. -/
def una (v : Nat) : List Int := List.replicate v 1 ++ [0]
theorem ones_bits (v : Nat) : bits (List.replicate v 1) := fun x hx => by
  rw [List.mem_replicate] at hx; exact .inr hx.2
theorem una_bits (v : Nat) : bits (una v) := bits_snoc (ones_bits v) (.inl rfl)
theorem dig_lead {v : Int} {K m : Nat} (h0 : 0 ≤ v) (h : v < 2 ^ K) : dig v (m + K) = List.replicate m 0 ++ dig v K := by
  refine List.ext_getElem (by simp [dig_len]) fun j h1 h2 => ?_
  rw [dig_len] at h1
  rw [List.getElem_append]
  simp only [List.length_replicate]
  split
  · rename_i hj
    simp only [dig, List.getElem_map, List.getElem_range, List.getElem_replicate]
    have hp : (2 : Int) ^ K ≤ 2 ^ (m + K - 1 - j) := by
      have : 2 ^ K ≤ 2 ^ (m + K - 1 - j) := Nat.pow_le_pow_right (by omega) (by omega)
      exact_mod_cast this
    rw [Int.ediv_eq_zero_of_lt h0 (by omega)]
    rfl
  · simp only [dig, List.getElem_map, List.getElem_range]
    congr 3
    omega
def gam (v : Int) : List Int := dig v (2 * Lib.bitLen v.toNat - 1)
/-- The number that the first k bits of a list are; behind its end there are bits 0. -/
def hv (d : List Int) : Nat → Int
  | 0 => 0
  | k + 1 => 2 * hv d k + d.getD k 0
theorem hv_bd {d : List Int} (h : bits d) (k : Nat) : 0 ≤ hv d k ∧ hv d k < 2 ^ k := by
  induction k with
  | zero => simp [hv]
  | succ k ih =>
    have hb : bit (d.getD k 0) := by
      rw [List.getD_eq_getElem?_getD]
      cases hd : d[k]? with
      | none => exact .inl rfl
      | some x => exact h x (List.mem_of_getElem? hd)
    have e : (2 : Int) ^ (k + 1) = 2 * 2 ^ k := by rw [Int.pow_succ]; omega
    simp only [hv]
    rw [e]
    unfold bit at hb
    omega
theorem hv_end (d : List Int) (k m : Nat) (h : d.length ≤ k) : hv d (k + m) = hv d k * 2 ^ m := by
  induction m with
  | zero => simp
  | succ m ih =>
    have : d.getD (k + m) 0 = 0 := by rw [List.getD_eq_getElem?_getD, List.getElem?_eq_none (by omega)]; rfl
    rw [show k + (m + 1) = (k + m) + 1 by omega, hv, this, ih, Int.pow_succ]
    generalize hv d k = x
    generalize (2 : Int) ^ m = y
    rw [Int.add_zero, ← Int.mul_assoc x y 2, Int.mul_comm]
theorem chunk {bs d : List Int} : ∀ j : Nat, j + 1 ≤ wd bs → j + 1 ≤ d.length → (d.take (j + 1)).foldl addB (bs, 0) = (bs ++ [hv d (j + 1) * 2 ^ (wd bs - (j + 1))], wd bs - (j + 1))
  | 0, _, h2 => by
    rw [List.take_succ_eq_append_getElem (by omega)]
    simp only [List.take_zero, List.nil_append, List.foldl_cons, List.foldl_nil, addB, if_true, hv]
    rw [List.getD_eq_getElem?_getD, List.getElem?_eq_getElem (by omega)]
    simp
  | j + 1, h1, h2 => by
    rw [List.take_succ_eq_append_getElem (by omega), List.foldl_append, chunk j (by omega) (by omega)]
    simp only [List.foldl_cons, List.foldl_nil]
    have hn : wd bs - (j + 1) ≠ 0 := by omega
    simp only [addB, if_neg hn, lst_snoc]
    have e1 : wd bs - (j + 1) = (wd bs - (j + 2)) + 1 := by omega
    have e2 : d.getD (j + 1) 0 = d[j + 1] := by rw [List.getD_eq_getElem?_getD, List.getElem?_eq_getElem (by omega)]; rfl
    have e3 : (bs ++ [hv d (j + 1) * 2 ^ (wd bs - (j + 1))]).length - 1 = bs.length := by simp
    have e4 : hv d (j + 2) = 2 * hv d (j + 1) + d[j + 1] := by
      show 2 * hv d (j + 1) + d.getD (j + 1) 0 = _
      rw [e2]
    rw [e3, show j + 1 + 1 = j + 2 by omega, e4]
    refine Prod.ext ?_ (by simp; omega)
    simp only
    rw [List.set_append_right _ _ (Nat.le_refl _), Nat.sub_self, List.set_cons_zero, e1, show wd bs - (j + 2) + 1 - 1 = wd bs - (j + 2) by omega, Int.pow_succ]
    congr 2
    rw [Int.add_mul, ← Int.mul_assoc, Int.mul_comm (hv d (j + 1) * 2 ^ (wd bs - (j + 2))) 2, Int.mul_assoc 2]
theorem st_split (l : List Int) (a n : Nat) : st (l.take (a + n)) = ((l.drop a).take n).foldl addB (st (l.take a)) := by
  rw [List.take_add, st, List.foldl_append]
  rfl
/-- One byte of the encoding. -/
theorem st_chunk {l : List Int} {a : Nat} (ha : a < l.length) (h0 : (st (l.take a)).2 = 0) :
    (st (l.take (a + wd (st (l.take a)).1))).1 = (st (l.take a)).1 ++ [hv (l.drop a) (wd (st (l.take a)).1)] ∧
    (a + wd (st (l.take a)).1 ≤ l.length → (st (l.take (a + wd (st (l.take a)).1))).2 = 0) := by
  obtain ⟨bs, hbs⟩ : ∃ bs, bs = (st (l.take a)).1 := ⟨_, rfl⟩
  have hp : st (l.take a) = (bs, 0) := by rw [hbs, ← h0]
  rw [← hbs, st_split, hp]
  have hd : (l.drop a).length = l.length - a := by simp
  have hw := wd_cases bs
  obtain ⟨n, hn⟩ : ∃ n, wd bs = n + 1 := ⟨wd bs - 1, by omega⟩
  by_cases hc : wd bs ≤ l.length - a
  · have := chunk (bs := bs) (d := l.drop a) n (by omega) (by omega)
    rw [hn, this, ← hn, Nat.sub_self]
    simp
  · obtain ⟨j, hj⟩ : ∃ j, l.length - a = j + 1 := ⟨l.length - a - 1, by omega⟩
    have := chunk (bs := bs) (d := l.drop a) j (by omega) (by omega)
    have e : (l.drop a).take (wd bs) = (l.drop a).take (j + 1) := by
      rw [List.take_of_length_le (by omega), List.take_of_length_le (by omega)]
    rw [e, this]
    refine ⟨?_, fun h => by omega⟩
    simp only
    have e2 : hv (l.drop a) (wd bs) = hv (l.drop a) (j + 1) * 2 ^ (wd bs - (j + 1)) := by
      rw [← hv_end _ _ _ (by omega)]
      congr 1
      omega
    rw [e2]
/-- Whether the highest bit of the next byte is skipped at a place; the error there; the place of the bit; the bit. -/
def gS (bs : List Int) (t : Nat) : Bool := decide (t % 8 = 0 ∧ lst (bs.take (t / 8)) = 255)
def gE (bs : List Int) (t : Nat) : Int := if t / 8 = bs.length then 7 else if gS bs t = true ∧ 128 ≤ bs.getD (t / 8) 0 then 8 else 0
def gA (bs : List Int) (t : Nat) : Nat := if gS bs t = true then t + 1 else t
def gV (bs : List Int) (t : Nat) : Int := bs.getD (t / 8) 0 / 2 ^ (7 - gA bs t % 8) % 2
/-- What Get returns, and where it leaves the reader. -/
def gR (bs : List Int) (t : Nat) : Int := if gE bs t = 0 then gV bs t else 0
def gN (bs : List Int) (t : Nat) : Nat := if gE bs t = 0 then gA bs t + 1 else t
theorem gV_bit (bs : List Int) (t : Nat) : bit (gV bs t) := by unfold gV bit; omega
theorem gN_le {bs : List Int} {t : Nat} (h : t ≤ 8 * bs.length) : t ≤ gN bs t ∧ gN bs t ≤ 8 * bs.length := by
  by_cases h0 : gE bs t = 0
  · have hne : t / 8 ≠ bs.length := fun e => by simp [gE, e] at h0
    simp only [gN, if_pos h0, gA]
    by_cases hs : gS bs t = true
    · rw [if_pos hs]
      simp [gS] at hs
      omega
    · rw [if_neg hs]; omega
  · simp only [gN, if_neg h0]; omega
theorem gE_cases (bs : List Int) (t : Nat) : gE bs t = 0 ∨ gE bs t = 7 ∨ gE bs t = 8 := by
  unfold gE; split; exact .inr (.inl rfl); split; exact .inr (.inr rfl); exact .inl rfl
def bytes (bs : List Int) : Prop := ∀ x ∈ bs, 0 ≤ x ∧ x ≤ 255
/-- What reading n further binary digits gives: the number, the error, the place. -/
def rdg (bs : List Int) : Nat → Nat → Int → Int × Int × Nat
  | 0, t, v => (v, 0, t)
  | n + 1, t, v => if gE bs t = 0 then rdg bs n (gN bs t) (2 * v + gR bs t) else (0, gE bs t, t)
theorem rdg_le {bs : List Int} : ∀ (n t : Nat) (v : Int), t ≤ 8 * bs.length → (rdg bs n t v).2.2 ≤ 8 * bs.length
  | 0, t, v, h => h
  | n + 1, t, v, h => by
    unfold rdg
    split
    · exact rdg_le n _ _ (gN_le h).2
    · exact h
theorem gR_bit (bs : List Int) (t : Nat) : bit (gR bs t) := by
  unfold gR; split
  · exact gV_bit _ _
  · exact .inl rfl
/-- What reading equal bits gives, at most m, and the other one behind them: how many, the error, the place. -/
def rrun (bs : List Int) (q : Int) : Nat → Nat → Nat → Int × Int × Nat
  | 0, _, t => (0, 8, t)
  | m + 1, k, t => if gE bs t = 0 then (if gR bs t = q then rrun bs q m (k + 1) (gN bs t) else ((k : Int), 0, gN bs t)) else (0, gE bs t, t)
theorem rrun_le {bs : List Int} {q : Int} : ∀ (m k t : Nat), t ≤ 8 * bs.length → (rrun bs q m k t).2.2 ≤ 8 * bs.length
  | 0, _, _, h => h
  | m + 1, k, t, h => by
    unfold rrun
    split
    · split
      · exact rrun_le m _ _ (gN_le h).2
      · exact (gN_le h).2
    · exact h
theorem rrun_num {bs : List Int} {q : Int} : ∀ (m k t : Nat), (rrun bs q m k t).2.1 = 0 → ∃ j : Nat, (rrun bs q m k t).1 = j ∧ j < k + m
  | 0, k, t, h => by simp [rrun] at h
  | m + 1, k, t, h => by
    unfold rrun at h ⊢
    split
    · rename_i h0
      rw [if_pos h0] at h
      split
      · rename_i h1
        rw [if_pos h1] at h
        obtain ⟨j, h2, h3⟩ := rrun_num m _ _ h
        exact ⟨j, h2, by omega⟩
      · exact ⟨k, rfl, by omega⟩
    · rename_i h0
      rw [if_neg h0] at h
      exact absurd h h0
theorem rrun_err (bs : List Int) (q : Int) : ∀ (m k t : Nat), (rrun bs q m k t).2.1 = 0 ∨ (rrun bs q m k t).2.1 = 7 ∨ (rrun bs q m k t).2.1 = 8
  | 0, _, _ => .inr (.inr rfl)
  | m + 1, k, t => by
    unfold rrun
    split
    · split
      · exact rrun_err bs q m _ _
      · exact .inl rfl
    · exact gE_cases bs t
theorem rdg_err (bs : List Int) : ∀ (n t : Nat) (v : Int), (rdg bs n t v).2.1 = 0 ∨ (rdg bs n t v).2.1 = 7 ∨ (rdg bs n t v).2.1 = 8
  | 0, _, _ => .inl rfl
  | n + 1, t, v => by
    unfold rdg
    split
    · exact rdg_err bs n _ _
    · exact gE_cases bs t
/-- What reading a number in the gamma code gives. -/
def rgam (bs : List Int) (t : Nat) : Int × Int × Nat := if (rrun bs 0 32 0 t).2.1 = 0 then rdg bs (rrun bs 0 32 0 t).1.toNat (rrun bs 0 32 0 t).2.2 1 else (0, (rrun bs 0 32 0 t).2.1, (rrun bs 0 32 0 t).2.2)
theorem rgam_err (bs : List Int) (t : Nat) : (rgam bs t).2.1 = 0 ∨ (rgam bs t).2.1 = 7 ∨ (rgam bs t).2.1 = 8 := by
  unfold rgam; split
  · exact rdg_err _ _ _ _
  · exact rrun_err _ _ _ _ _
theorem rgam_le {bs : List Int} {t : Nat} (h : t ≤ 8 * bs.length) : (rgam bs t).2.2 ≤ 8 * bs.length := by
  unfold rgam; split
  · exact rdg_le _ _ _ (rrun_le _ _ _ h)
  · exact rrun_le _ _ _ h
end Bi
end Go.Proofs.Ytaddendclipkkaa
