/-
  The plain mathematics of layer 7: pixels, transforms, ranges. No program in sight.
-/
import Derived.Test.YtadkcgpkbcgeoaaPlain
set_option maxRecDepth 100000
namespace Go.Proofs.Ytadkcgpkbcgeoaa.Co

/-- Known transforms and depths; a transform, its inverse. -/
def kB (t : Int) : Bool := decide (t = 0 ∨ t = 1 ∨ t = 2)
def dB (n : Int) : Bool := decide (1 ≤ n ∧ n ≤ 16)
def fwY (t a b c : Int) : Int := if t = 1 then (a + 2 * b + c) / 4 else if t = 2 then c + (a - c) / 2 + (b - (c + (a - c) / 2)) / 2 else a
def fwU (t a b c : Int) : Int := if t = 1 then c - b else if t = 2 then a - c else b
def fwV (t a b c : Int) : Int := if t = 1 then a - b else if t = 2 then b - (c + (a - c) / 2) else c
def ivA (t y u v : Int) : Int := if t = 1 then v + (y - (u + v) / 4) else if t = 2 then y - v / 2 - u / 2 + u else y
def ivB (t y u v : Int) : Int := if t = 1 then y - (u + v) / 4 else if t = 2 then v + (y - v / 2) else u
def ivC (t y u v : Int) : Int := if t = 1 then u + (y - (u + v) / 4) else if t = 2 then y - v / 2 - u / 2 else v
def ok3 (t a b c : Int) : Prop := t = 1 ∨ t = 2 → -1125899906842624 ≤ a ∧ a ≤ 1125899906842624 ∧ -1125899906842624 ≤ b ∧ b ≤ 1125899906842624 ∧ -1125899906842624 ≤ c ∧ c ≤ 1125899906842624
def offC (sg : Bool) (n : Int) : Int := if sg = true then 0 else 2 ^ (n.toNat - 1)
def rgL (sg : Bool) (n : Int) : Int := if dB n = true then offC sg n - 2 ^ (n.toNat - 1) else 0
def rgH (sg : Bool) (n : Int) : Int := if dB n = true then offC sg n + 2 ^ (n.toNat - 1) - 1 else 0
def bdC (t n : Int) : Int := if kB t = true ∧ dB n = true then (if t = 0 then 2 ^ (n.toNat - 1) else 2 ^ n.toNat) else 0
theorem k_iff {t : Int} : kB t = true ↔ (t = 0 ∨ t = 1 ∨ t = 2) := by simp [kB]
theorem d_iff {n : Int} : dB n = true ↔ (1 ≤ n ∧ n ≤ 16) := by simp [dB]
theorem pw {n : Nat} (h : n ≤ 16) : (1 : Int) ≤ 2 ^ n ∧ (2 : Int) ^ n ≤ 65536 := by
  constructor
  · have : (0 : Int) < 2 ^ n := Int.pow_pos (by decide)
    omega
  · have e : (65536 : Int) = 2 ^ 16 := by decide
    rw [e]
    exact_mod_cast Nat.pow_le_pow_right (by decide) h
theorem inv_fw (t a b c : Int) : ivA t (fwY t a b c) (fwU t a b c) (fwV t a b c) = a ∧ ivB t (fwY t a b c) (fwU t a b c) (fwV t a b c) = b ∧ ivC t (fwY t a b c) (fwU t a b c) (fwV t a b c) = c := by
  unfold ivA ivB ivC fwY fwU fwV
  by_cases h1 : t = 1
  · subst h1; simp only [reduceIte]; omega
  · by_cases h2 : t = 2
    · have h3 : ¬ (2 : Int) = 1 := by decide
      subst h2; simp only [h3, reduceIte]; omega
    · simp only [h1, h2, reduceIte, and_self]
theorem fw_inv (t a b c : Int) : fwY t (ivA t a b c) (ivB t a b c) (ivC t a b c) = a ∧ fwU t (ivA t a b c) (ivB t a b c) (ivC t a b c) = b ∧ fwV t (ivA t a b c) (ivB t a b c) (ivC t a b c) = c := by
  unfold ivA ivB ivC fwY fwU fwV
  by_cases h1 : t = 1
  · subst h1; simp only [reduceIte]; omega
  · by_cases h2 : t = 2
    · have h3 : ¬ (2 : Int) = 1 := by decide
      subst h2; simp only [h3, reduceIte]; omega
    · simp only [h1, h2, reduceIte, and_self]
end Go.Proofs.Ytadkcgpkbcgeoaa.Co
