/-
  The mathematics of layer 27: the CRC-16, bit by bit and byte by byte.
-/
import Derived.Test.YtpnnmibdboelpaaMk
set_option maxRecDepth 100000
namespace Go.Proofs.Ytpnnmibdboelpaa
namespace Ck
/-- One bit. -/
def bit1 (r b : Nat) : Nat := (2 * r % 65536) ^^^ (4129 * ((r / 32768 ^^^ b) % 2))
/-- The bits of a byte from place k down. -/
def steps (r x : Nat) : Nat → Nat
  | 0 => r
  | k + 1 => steps (bit1 r (x / 2 ^ k % 2)) x k
def step8 (r x : Nat) : Nat := steps r x 8
theorem xor_lt {a b : Nat} (n : Nat) (ha : a < 2 ^ n) (hb : b < 2 ^ n) : a ^^^ b < 2 ^ n := Nat.xor_lt_two_pow ha hb
theorem bit1_lt (r b : Nat) : bit1 r b < 65536 := by
  unfold bit1
  refine xor_lt 16 (Nat.mod_lt _ (by omega)) ?_
  have : (r / 32768 ^^^ b) % 2 < 2 := Nat.mod_lt _ (by omega)
  omega
theorem steps_lt {r : Nat} (h : r < 65536) (x : Nat) (k : Nat) : steps r x k < 65536 := by
  induction k generalizing r with
  | zero => exact h
  | succ k ih => exact ih (bit1_lt _ _)
theorem two_xor (a b : Nat) : 2 * (a ^^^ b) = 2 * a ^^^ 2 * b := by
  have := Nat.shiftLeft_xor_distrib (a := a) (b := b) (i := 1)
  simpa [Nat.shiftLeft_eq, Nat.mul_comm] using this
theorem div_xor (a b n : Nat) : (a ^^^ b) / 2 ^ n = a / 2 ^ n ^^^ b / 2 ^ n := by
  have := Nat.shiftRight_xor_distrib (a := a) (b := b) (i := n)
  simpa [Nat.shiftRight_eq_div_pow] using this
theorem mod_xor (a b n : Nat) : (a ^^^ b) % 2 ^ n = a % 2 ^ n ^^^ b % 2 ^ n := Nat.xor_mod_two_pow
theorem xor4 (a b c d : Nat) : (a ^^^ b) ^^^ (c ^^^ d) = (a ^^^ c) ^^^ (b ^^^ d) := by
  rw [Nat.xor_assoc, ← Nat.xor_assoc b, Nat.xor_comm b c, Nat.xor_assoc, ← Nat.xor_assoc a]
theorem poly_xor {u v : Nat} (hu : u < 2) (hv : v < 2) : 4129 * (u ^^^ v) = 4129 * u ^^^ 4129 * v := by
  match u, v, hu, hv with
  | 0, 0, _, _ => decide
  | 0, 1, _, _ => decide
  | 1, 0, _, _ => decide
  | 1, 1, _, _ => decide
theorem bit1_xor (r s b c : Nat) : bit1 (r ^^^ s) (b ^^^ c) = bit1 r b ^^^ bit1 s c := by
  unfold bit1
  have e1 : 2 * (r ^^^ s) % 65536 = 2 * r % 65536 ^^^ 2 * s % 65536 := by rw [two_xor]; exact mod_xor _ _ 16
  have e2 : ((r ^^^ s) / 32768 ^^^ (b ^^^ c)) % 2 = ((r / 32768 ^^^ b) % 2) ^^^ ((s / 32768 ^^^ c) % 2) := by
    rw [show (r ^^^ s) / 32768 = r / 32768 ^^^ s / 32768 from div_xor r s 15, xor4]
    exact mod_xor _ _ 1
  rw [e1, e2, poly_xor (Nat.mod_lt _ (by omega)) (Nat.mod_lt _ (by omega)), xor4]
theorem steps_xor (r s x y k : Nat) : steps (r ^^^ s) (x ^^^ y) k = steps r x k ^^^ steps s y k := by
  induction k generalizing r s with
  | zero => rfl
  | succ k ih =>
    unfold steps
    rw [div_xor, show (x / 2 ^ k ^^^ y / 2 ^ k) % 2 = (x / 2 ^ k % 2) ^^^ (y / 2 ^ k % 2) from mod_xor _ _ 1, bit1_xor, ih]
theorem step8_xor (r s x y : Nat) : step8 (r ^^^ s) (x ^^^ y) = step8 r x ^^^ step8 s y := steps_xor r s x y 8
/-- A byte at once. -/
def tab (g : Nat) : Nat := ((g ^^^ g / 16) * 4096 % 65536 ^^^ (g ^^^ g / 16) * 32 % 65536) ^^^ (g ^^^ g / 16)
def cstep (r x : Nat) : Nat := (r * 256 % 65536 ^^^ (((r / 256) ^^^ x) ^^^ ((r / 256) ^^^ x) / 16) * 4096 % 65536 ^^^ (((r / 256) ^^^ x) ^^^ ((r / 256) ^^^ x) / 16) * 32 % 65536) ^^^ (((r / 256) ^^^ x) ^^^ ((r / 256) ^^^ x) / 16)
theorem low8 : ∀ l, l < 256 → step8 l 0 = l * 256 := by decide +kernel
theorem self8 : ∀ x, x < 256 → step8 (x * 256) x = 0 := by decide +kernel
theorem tab8 : ∀ g, g < 256 → step8 (g * 256) 0 = tab g := by decide +kernel
theorem tab_ne : ∀ g, g < 256 → 0 < g → step8 0 g ≠ 0 := by decide +kernel
theorem xor_self_cancel (a b : Nat) : (a ^^^ b) ^^^ b = a := by rw [Nat.xor_assoc, Nat.xor_self, Nat.xor_zero]
theorem split8 (r : Nat) : r = (r / 256 * 256) ^^^ (r % 256) := by
  have h := Nat.two_pow_add_eq_or_of_lt (i := 8) (b := r % 256) (Nat.mod_lt _ (by omega)) (r / 256)
  have h2 : 2 ^ 8 * (r / 256) ^^^ r % 256 = 2 ^ 8 * (r / 256) ||| r % 256 := by
    apply Nat.eq_of_testBit_eq
    intro i
    rw [Nat.testBit_xor, Nat.testBit_or]
    by_cases hi : i < 8
    · have : (2 ^ 8 * (r / 256)).testBit i = false := by rw [Nat.testBit_two_pow_mul]; simp; omega
      rw [this]; simp
    · have : (r % 256).testBit i = false := by
        rw [show (256 : Nat) = 2 ^ 8 by decide, Nat.testBit_mod_two_pow]; simp [hi]
      rw [this]; simp
  show r = r / 2 ^ 8 * 2 ^ 8 ^^^ r % 2 ^ 8
  rw [Nat.mul_comm]
  exact ((h2.trans h.symm).trans (Nat.div_add_mod r (2 ^ 8))).symm
theorem xor_zero_eq {a b : Nat} (h : a ^^^ b = 0) : a = b := by
  have := xor_self_cancel a b
  rw [h, Nat.zero_xor] at this
  exact this.symm
theorem step_eq {r x : Nat} (hr : r < 65536) (hx : x < 256) : step8 r x = cstep r x := by
  have hh : r / 256 < 256 := by omega
  have hl : r % 256 < 256 := Nat.mod_lt _ (by omega)
  have hg : (r / 256) ^^^ x < 256 := xor_lt 8 hh hx
  have e1 : step8 r x = step8 (r / 256 * 256) x ^^^ step8 (r % 256) 0 := by
    conv => lhs; rw [split8 r, ← Nat.xor_zero x]
    exact step8_xor _ _ _ _
  have e2 : r / 256 * 256 = (((r / 256) ^^^ x) * 256) ^^^ (x * 256) := by
    have := Nat.shiftLeft_xor_distrib (a := (r / 256) ^^^ x) (b := x) (i := 8)
    rw [xor_self_cancel] at this
    simpa [Nat.shiftLeft_eq] using this
  have e3 : step8 (r / 256 * 256) x = step8 (((r / 256) ^^^ x) * 256) 0 ^^^ step8 (x * 256) x := by
    conv => lhs; rw [e2, ← Nat.zero_xor x]
    rw [Nat.zero_xor, show step8 (((r / 256 ^^^ x) * 256) ^^^ (x * 256)) x = step8 (((r / 256 ^^^ x) * 256) ^^^ (x * 256)) (0 ^^^ x) by rw [Nat.zero_xor]]
    exact step8_xor _ _ _ _
  rw [e1, e3, self8 x hx, Nat.xor_zero, tab8 _ hg, low8 _ hl]
  unfold tab cstep
  have e4 : r * 256 % 65536 = r % 256 * 256 := by omega
  rw [e4]
  generalize ((r / 256) ^^^ x) ^^^ ((r / 256) ^^^ x) / 16 = f
  generalize f * 4096 % 65536 = a
  generalize f * 32 % 65536 = b
  rw [Nat.xor_comm, Nat.xor_assoc, Nat.xor_assoc, Nat.xor_assoc]
/-- The CRC-16 of bytes. -/
def crcN (bs : List Int) : Nat := bs.foldl (fun r x => step8 r x.toNat) 65535
def crc (bs : List Int) : Int := (crcN bs : Int)
theorem fold_lt (bs : List Int) {r : Nat} (h : r < 65536) : bs.foldl (fun r x => step8 r x.toNat) r < 65536 := by
  induction bs generalizing r with
  | nil => exact h
  | cons x bs ih => exact ih (steps_lt h _ 8)
theorem crcN_lt (bs : List Int) : crcN bs < 65536 := fold_lt bs (by omega)
theorem crcN_snoc (bs : List Int) (x : Int) : crcN (bs ++ [x]) = step8 (crcN bs) x.toNat := by simp [crcN, List.foldl_append]
/-- Different registers stay different. -/
theorem bit1_zero (d : Nat) : bit1 d 0 = (2 * d % 65536) ^^^ (4129 * (d / 32768 % 2)) := by
  show (2 * d % 65536) ^^^ (4129 * ((d / 32768 ^^^ 0) % 2)) = _
  rw [Nat.xor_zero (d / 32768)]
theorem par (d u : Nat) (hd : d < 65536) (hu : u = d / 32768 % 2) (h : 2 * d % 65536 = 4129 * u) : d = 0 := by
  have h3 : u = 0 ∨ u = 1 := by omega
  rcases h3 with h3 | h3
  · subst h3; omega
  · subst h3; omega
theorem bit1_ker {d : Nat} (hd : d < 65536) (h : bit1 d 0 = 0) : d = 0 := by
  rw [bit1_zero] at h
  generalize hu : d / 32768 % 2 = u at h
  generalize hp : 4129 * u = p at h
  have h2 := xor_zero_eq h
  rw [← hp] at h2
  exact par d u hd hu.symm h2
theorem bit1_inj {r s : Nat} (hr : r < 65536) (hs : s < 65536) (b : Nat) (h : bit1 r b = bit1 s b) : r = s := by
  have h1 : bit1 (r ^^^ s) (b ^^^ b) = 0 := by rw [bit1_xor, h, Nat.xor_self]
  rw [Nat.xor_self] at h1
  exact xor_zero_eq (bit1_ker (xor_lt 16 hr hs) h1)
theorem steps_inj {r s : Nat} (hr : r < 65536) (hs : s < 65536) (x k : Nat) (h : steps r x k = steps s x k) : r = s := by
  induction k generalizing r s with
  | zero => exact h
  | succ k ih => exact bit1_inj hr hs _ (ih (bit1_lt _ _) (bit1_lt _ _) h)
theorem step8_byte {r x y : Nat} (hx : x < 256) (hy : y < 256) (h : step8 r x = step8 r y) : x = y := by
  have h1 : step8 (r ^^^ r) (x ^^^ y) = 0 := by rw [step8_xor, h, Nat.xor_self]
  rw [Nat.xor_self] at h1
  have hd : x ^^^ y < 256 := xor_lt 8 hx hy
  by_cases h0 : x ^^^ y = 0
  · exact xor_zero_eq h0
  · exact absurd h1 (tab_ne _ hd (by omega))
theorem fold_inj (bs : List Int) {r s : Nat} (hr : r < 65536) (hs : s < 65536) (h : bs.foldl (fun r x => step8 r x.toNat) r = bs.foldl (fun r x => step8 r x.toNat) s) : r = s := by
  induction bs generalizing r s with
  | nil => exact h
  | cons x bs ih => exact steps_inj hr hs _ 8 (ih (steps_lt hr _ 8) (steps_lt hs _ 8) h)
/-- One byte changed is noticed. -/
theorem crc_set {bs : List Int} (hB : Mk.bytes bs) {k : Nat} (hk : k < bs.length) {y : Int} (hy : 0 ≤ y ∧ y ≤ 255) (hne : bs[k] ≠ y) : crc (bs.set k y) ≠ crc bs := by
  intro h
  have hx := hB bs[k] (List.getElem_mem _)
  have h2 : crcN (bs.set k y) = crcN bs := by unfold crc at h; omega
  have e1 : bs.set k y = bs.take k ++ y :: bs.drop (k + 1) := by rw [List.set_eq_take_append_cons_drop, if_pos hk]
  have e2 : bs = bs.take k ++ bs[k] :: bs.drop (k + 1) := by rw [← List.drop_eq_getElem_cons hk, List.take_append_drop]
  have h3 : crcN (bs.take k ++ y :: bs.drop (k + 1)) = crcN (bs.take k ++ bs[k] :: bs.drop (k + 1)) := by rw [← e1, ← e2]; exact h2
  unfold crcN at h3
  rw [List.foldl_append, List.foldl_append, List.foldl_cons, List.foldl_cons] at h3
  have hl : (bs.take k).foldl (fun r x => step8 r x.toNat) 65535 < 65536 := fold_lt _ (by omega)
  have h4 := fold_inj _ (steps_lt hl _ 8) (steps_lt hl _ 8) h3
  have h5 := step8_byte (by omega) (by omega) h4
  omega
end Ck
end Go.Proofs.Ytpnnmibdboelpaa
