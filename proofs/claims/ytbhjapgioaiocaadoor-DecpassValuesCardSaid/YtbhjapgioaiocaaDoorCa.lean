/-
  Layer 13: limit, Refine, Contribution of the code; the reference whole.
-/
import Derived.Test.YtbhjapgioaiocaaDoorKit
import Derived.BigQuiet
import Derived.Lib.Hide
set_option maxRecDepth 100000
namespace Go.Proofs.YtbhjapgioaiocaaDoor.Cx
open Go.RowKit

theorem drewN_below (w : World) (n : Nat) : Below w.heap.size w (w.drewN n) := by
  induction n with
  | zero => exact Below.refl _ _
  | succ n ih => exact ih.drew
theorem hmx (x y : Int) : (if x < y then y else x) = max x y := by split <;> omega
theorem hmn (x y : Int) : (if y < x then y else x) = min x y := by split <;> omega
def limM (n lo hi : Int) : Int := max lo (min n hi)
theorem lim_c (n lo hi : Int) (w : World) : Calls Tryd.prog 126 #[.int .i64 n, .int .i64 lo, .int .i64 hi] w fun e w' => e = .returned (.int .i64 (limM n lo hi)) ∧ w = w' := by
  have hmx := hmx
  have hmn := hmn
  go_enter Tryd.func126, Tryd.ntmps126
  go_wp2_with fail
  go_ret
  exact ⟨rfl, rfl⟩
theorem limR_c (n lo hi : Int) (w : World) : Calls Tryd.prog 130 #[.int .i64 n, .int .i64 lo, .int .i64 hi] w fun e w' => e = .returned (.int .i64 (min (max n lo) hi)) ∧ w = w' := by
  have hmx := hmx
  have hmn := hmn
  go_enter Tryd.func130, Tryd.ntmps130
  go_wp2_with fail
  go_ret
  exact ⟨rfl, rfl⟩
def refM (f n : Bool) : Int := if f then (if n then 15 else 14) else 16
theorem ref_c (f n : Bool) (w : World) : Calls Tryd.prog 90 #[.bool f, .bool n] w fun e w' => e = .returned (.int .i64 (refM f n)) ∧ w = w' := by
  cases f <;> cases n <;> (go_enter Tryd.func90, Tryd.ntmps90; go_wp2_with fail; go_ret; exact ⟨rfl, rfl⟩)
theorem refR_c (f n : Bool) (w : World) : Calls Tryd.prog 97 #[.bool f, .bool n] w fun e w' => e = .returned (.int .i64 (refM f n)) ∧ w = w' := by
  cases f <;> cases n <;> (go_enter Tryd.func97, Tryd.ntmps97; go_wp2_with fail; go_ret; exact ⟨rfl, rfl⟩)
def conM (a b : Int) : Int := if a + b < 0 then -1 else if a + b = 0 then 0 else 1
def i64R (a : Int) : Prop := -9223372036854775808 ≤ a ∧ a ≤ 9223372036854775807
theorem xneg (b : Int) (h1 : -9223372036854775808 ≤ b) (h2 : b ≤ 9223372036854775807) : bits .xor .i64 (if IntKind.i64.signed = true then -1 else 9223372036854775807) b = -b - 1 := by
  rw [if_pos (by rfl)]
  have e : (BitVec.ofInt 64 (-1)) ^^^ (BitVec.ofInt 64 b) = ~~~ (BitVec.ofInt 64 b) := by
    have h : BitVec.ofInt 64 (-1) = BitVec.allOnes 64 := by decide
    rw [h, BitVec.allOnes_xor]
  have e2 : bits .xor .i64 (-1) b = IntKind.i64.wrap (((BitVec.ofInt 64 (-1)) ^^^ (BitVec.ofInt 64 b)).toNat : Int) := by
    unfold bits; rfl
  have hm : ∃ m : Nat, (b % ((2 ^ 64 : Nat) : Int)).toNat = m ∧ ((0 ≤ b ∧ (m : Int) = b) ∨ (b < 0 ∧ (m : Int) = b + 18446744073709551616)) := by
    refine ⟨_, rfl, ?_⟩
    have e64 : ((2 ^ 64 : Nat) : Int) = 18446744073709551616 := by decide
    rw [e64]
    omega
  obtain ⟨m, hm, hb⟩ := hm
  rw [e2, e, BitVec.toNat_not, BitVec.toNat_ofInt, hm]
  have e64 : (2 ^ 64 : Nat) = 18446744073709551616 := by decide
  rw [e64]
  simp only [IntKind.wrap, IntKind.signed, IntKind.bits, Bool.true_and]
  by_cases h : ((18446744073709551616 - 1 - m : Nat) : Int) % 2 ^ 64 ≥ 2 ^ (64 - 1)
  · rw [if_pos (by simpa using h)]; omega
  · rw [if_neg (by simpa using h)]; omega
theorem conR_c (a b : Int) (ha : i64R a) (hb : i64R b) (w : World) : Calls Tryd.prog 143 #[.int .i64 a, .int .i64 b] w fun e w' => e = .returned (.int .i64 (conM a b)) ∧ w = w' := by
  obtain ⟨ha1, ha2⟩ := ha
  obtain ⟨hb1, hb2⟩ := hb
  by_cases h1 : 0 < a ∧ 0 < b
  · obtain ⟨h1, h2⟩ := h1
    have e : conM a b = 1 := by unfold conM; rw [if_neg (by omega), if_neg (by omega)]
    rw [e]
    clear e ha1 ha2 hb1 hb2
    go_enter Tryd.func143, Tryd.ntmps143
    go_wp2_with fail
    go_ret
    exact ⟨rfl, rfl⟩
  by_cases h2 : a < 0 ∧ b < 0
  · obtain ⟨h2, h3⟩ := h2
    have e : conM a b = -1 := by unfold conM; rw [if_pos (by omega)]
    rw [e]
    clear e ha1 ha2 hb1 hb2
    go_enter Tryd.func143, Tryd.ntmps143
    go_wp2_with fail
    go_ret
    exact ⟨rfl, rfl⟩
  have e : min (max (a + b) (-1)) 1 = conM a b := by unfold conM; split; omega; split <;> omega
  have hs : IntKind.i64.wrap (a + b) = a + b := by rw [IntWalk.i64_left]; unfold wrap64; omega
  have hl := fun W => limR_c (a + b) (-1) 1 W
  rw [e] at hl
  generalize conM a b = c at *
  have arm : ∀ W, Calls Tryd.prog 130 #[.int .i64 (a + b), .int .i64 (-1), .int .i64 1] W fun e w' => e = .returned (.int .i64 c) ∧ W = w' := hl
  have H1 := Lib.hid h1
  have H2 := Lib.hid h2
  clear h1 h2 e ha1 ha2 hb1 hb2 hl
  by_cases p1 : 0 < a
  · have p2 : ¬ 0 < b := fun h => H1.out ⟨p1, h⟩
    have p3 : ¬ a < 0 := by omega
    clear H1 H2
    go_enter Tryd.func143, Tryd.ntmps143
    go_wp2_with (first | (go_at_call 130; (with_reducible refine (arm _).mono ?_); rintro e wn ⟨rfl, rfl⟩))
    go_ret
    exact ⟨rfl, rfl⟩
  · by_cases p2 : a < 0
    · have p3 : ¬ b < 0 := fun h => H2.out ⟨p2, h⟩
      clear H1 H2
      go_enter Tryd.func143, Tryd.ntmps143
      go_wp2_with (first | (go_at_call 130; (with_reducible refine (arm _).mono ?_); rintro e wn ⟨rfl, rfl⟩))
      go_ret
      exact ⟨rfl, rfl⟩
    · clear H1 H2
      go_enter Tryd.func143, Tryd.ntmps143
      go_wp2_with (first | (go_at_call 130; (with_reducible refine (arm _).mono ?_); rintro e wn ⟨rfl, rfl⟩))
      go_ret
      exact ⟨rfl, rfl⟩
/-- The two tables of P13.1. -/
def strM (p s d : Nat) : Nat := if p = 2 then 8 else if p = 1 then (if 1 ≤ s then 7 else if 1 ≤ d then 6 else 5) else if 0 < s then 2 + s else min d 2
def diaM (n d : Nat) : Nat := if 3 ≤ d then 8 else if d = 2 then 6 + min n 1 else 3 * d + min n 2
theorem strR_c (p s d : Nat) (hp : p < 3) (hs : s < 3) (hd : d < 5) (w : World) : Calls Tryd.prog 132 #[.int .i64 (p : Int), .int .i64 (s : Int), .int .i64 (d : Int)] w fun e w' => e = .returned (.int .i64 (strM p s d : Nat)) ∧ w = w' := by
  have hmn := hmn
  match p, hp with
  | 2, _ => go_enter Tryd.func132, Tryd.ntmps132; go_wp2_with fail; go_ret; exact ⟨rfl, rfl⟩
  | 1, _ =>
    match s, hs, d, hd with
    | 0, _, 0, _ => go_enter Tryd.func132, Tryd.ntmps132; go_wp2_with fail; go_ret; exact ⟨rfl, rfl⟩
    | 0, _, 1, _ => go_enter Tryd.func132, Tryd.ntmps132; go_wp2_with fail; go_ret; exact ⟨rfl, rfl⟩
    | 0, _, 2, _ => go_enter Tryd.func132, Tryd.ntmps132; go_wp2_with fail; go_ret; exact ⟨rfl, rfl⟩
    | 0, _, 3, _ => go_enter Tryd.func132, Tryd.ntmps132; go_wp2_with fail; go_ret; exact ⟨rfl, rfl⟩
    | 0, _, 4, _ => go_enter Tryd.func132, Tryd.ntmps132; go_wp2_with fail; go_ret; exact ⟨rfl, rfl⟩
    | 1, _, d, _ => go_enter Tryd.func132, Tryd.ntmps132; go_wp2_with fail; go_ret; exact ⟨rfl, rfl⟩
    | 2, _, d, _ => go_enter Tryd.func132, Tryd.ntmps132; go_wp2_with fail; go_ret; exact ⟨rfl, rfl⟩
  | 0, _ =>
    match s, hs, d, hd with
    | 0, _, 0, _ => go_enter Tryd.func132, Tryd.ntmps132; go_wp2_with fail; go_ret; exact ⟨rfl, rfl⟩
    | 0, _, 1, _ => go_enter Tryd.func132, Tryd.ntmps132; go_wp2_with fail; go_ret; exact ⟨rfl, rfl⟩
    | 0, _, 2, _ => go_enter Tryd.func132, Tryd.ntmps132; go_wp2_with fail; go_ret; exact ⟨rfl, rfl⟩
    | 0, _, 3, _ => go_enter Tryd.func132, Tryd.ntmps132; go_wp2_with fail; go_ret; exact ⟨rfl, rfl⟩
    | 0, _, 4, _ => go_enter Tryd.func132, Tryd.ntmps132; go_wp2_with fail; go_ret; exact ⟨rfl, rfl⟩
    | 1, _, d, _ => go_enter Tryd.func132, Tryd.ntmps132; go_wp2_with fail; go_ret; exact ⟨rfl, rfl⟩
    | 2, _, d, _ => go_enter Tryd.func132, Tryd.ntmps132; go_wp2_with fail; go_ret; exact ⟨rfl, rfl⟩
theorem diaR_c (n d : Nat) (hn : n < 5) (hd : d < 5) (w : World) : Calls Tryd.prog 131 #[.int .i64 (n : Int), .int .i64 (d : Int)] w fun e w' => e = .returned (.int .i64 (diaM n d : Nat)) ∧ w = w' := by
  have hmn := hmn
  match d, hd, n, hn with
  | 3, _, n, _ => go_enter Tryd.func131, Tryd.ntmps131; go_wp2_with fail; go_ret; exact ⟨rfl, rfl⟩
  | 4, _, n, _ => go_enter Tryd.func131, Tryd.ntmps131; go_wp2_with fail; go_ret; exact ⟨rfl, rfl⟩
  | 0, _, 0, _ => go_enter Tryd.func131, Tryd.ntmps131; go_wp2_with fail; go_ret; exact ⟨rfl, rfl⟩
  | 0, _, 1, _ => go_enter Tryd.func131, Tryd.ntmps131; go_wp2_with fail; go_ret; exact ⟨rfl, rfl⟩
  | 0, _, 2, _ => go_enter Tryd.func131, Tryd.ntmps131; go_wp2_with fail; go_ret; exact ⟨rfl, rfl⟩
  | 0, _, 3, _ => go_enter Tryd.func131, Tryd.ntmps131; go_wp2_with fail; go_ret; exact ⟨rfl, rfl⟩
  | 0, _, 4, _ => go_enter Tryd.func131, Tryd.ntmps131; go_wp2_with fail; go_ret; exact ⟨rfl, rfl⟩
  | 1, _, 0, _ => go_enter Tryd.func131, Tryd.ntmps131; go_wp2_with fail; go_ret; exact ⟨rfl, rfl⟩
  | 1, _, 1, _ => go_enter Tryd.func131, Tryd.ntmps131; go_wp2_with fail; go_ret; exact ⟨rfl, rfl⟩
  | 1, _, 2, _ => go_enter Tryd.func131, Tryd.ntmps131; go_wp2_with fail; go_ret; exact ⟨rfl, rfl⟩
  | 1, _, 3, _ => go_enter Tryd.func131, Tryd.ntmps131; go_wp2_with fail; go_ret; exact ⟨rfl, rfl⟩
  | 1, _, 4, _ => go_enter Tryd.func131, Tryd.ntmps131; go_wp2_with fail; go_ret; exact ⟨rfl, rfl⟩
  | 2, _, 0, _ => go_enter Tryd.func131, Tryd.ntmps131; go_wp2_with fail; go_ret; exact ⟨rfl, rfl⟩
  | 2, _, 1, _ => go_enter Tryd.func131, Tryd.ntmps131; go_wp2_with fail; go_ret; exact ⟨rfl, rfl⟩
  | 2, _, 2, _ => go_enter Tryd.func131, Tryd.ntmps131; go_wp2_with fail; go_ret; exact ⟨rfl, rfl⟩
  | 2, _, 3, _ => go_enter Tryd.func131, Tryd.ntmps131; go_wp2_with fail; go_ret; exact ⟨rfl, rfl⟩
  | 2, _, 4, _ => go_enter Tryd.func131, Tryd.ntmps131; go_wp2_with fail; go_ret; exact ⟨rfl, rfl⟩
def l2 (h : Int) : Nat := (limM h 0 2).toNat
def l4 (h : Int) : Nat := (limM h 0 4).toNat
theorem l2_lt (h : Int) : l2 h < 3 := by unfold l2 limM; omega
theorem l4_lt (h : Int) : l4 h < 5 := by unfold l4 limM; omega
theorem l2_is (h : Int) : limM h 0 2 = (l2 h : Int) := by unfold l2 limM; omega
theorem l4_is (h : Int) : limM h 0 4 = (l4 h : Int) := by unfold l4 limM; omega
theorem l2_r (h : Int) : min (max h 0) 2 = (l2 h : Int) := by unfold l2 limM; omega
theorem l4_r (h : Int) : min (max h 0) 4 = (l4 h : Int) := by unfold l4 limM; omega
def sigN (o : Int) (a b c : Nat) : Nat := if o = 3 then diaM (a + b) c else if o = 1 then strM b a c else strM a b c
def sigM (o h v d : Int) : Int := (sigN o (l2 h) (l2 v) (l4 d) : Nat)
theorem sigR_c (o h v d : Int) (w : World) : Calls Tryd.prog 118 #[.int .i64 o, .int .i64 h, .int .i64 v, .int .i64 d] w fun e w' => e = .returned (.int .i64 (sigM o h v d)) ∧ w = w' := by
  have c1 := fun W => limR_c h 0 2 W
  have c2 := fun W => limR_c v 0 2 W
  have c3 := fun W => limR_c d 0 4 W
  rw [l2_r] at c1 c2
  rw [l4_r] at c3
  have ha := l2_lt h
  have hb := l2_lt v
  have hc := l4_lt d
  unfold sigM
  generalize l2 h = a at *
  generalize l2 v = b at *
  generalize l4 d = c at *
  by_cases ho : o = 3
  · subst ho
    have k := fun W => diaR_c (a + b) c (by omega) hc W
    rw [Int.natCast_add] at k
    have kk : IntKind.i64.wrap ((a : Int) + (b : Int)) = (a : Int) + (b : Int) := by rw [IntWalk.i64_left]; unfold wrap64; omega
    have e : sigN 3 a b c = diaM (a + b) c := rfl
    rw [e]
    clear ha hb hc e
    generalize diaM (a + b) c = r at *
    go_enter Tryd.func118, Tryd.ntmps118
    go_wp2_with (first | (go_at_call 130; first | ((with_reducible refine (c1 _).mono ?_); rintro e wn ⟨rfl, rfl⟩) | ((with_reducible refine (c2 _).mono ?_); rintro e wn ⟨rfl, rfl⟩) | ((with_reducible refine (c3 _).mono ?_); rintro e wn ⟨rfl, rfl⟩)) | (go_at_call 131; (with_reducible refine (k _).mono ?_); rintro e wn ⟨rfl, rfl⟩))
    go_ret
    exact ⟨rfl, rfl⟩
  have o3 : (o == 3) = false := by simpa using ho
  by_cases ho1 : o = 1
  · subst ho1
    have k := fun W => strR_c b a c hb ha hc W
    have e : sigN 1 a b c = strM b a c := rfl
    rw [e]
    clear ha hb hc e ho o3
    generalize strM b a c = r at *
    go_enter Tryd.func118, Tryd.ntmps118
    go_wp2_with (first | (go_at_call 130; first | ((with_reducible refine (c1 _).mono ?_); rintro e wn ⟨rfl, rfl⟩) | ((with_reducible refine (c2 _).mono ?_); rintro e wn ⟨rfl, rfl⟩) | ((with_reducible refine (c3 _).mono ?_); rintro e wn ⟨rfl, rfl⟩)) | (go_at_call 132; (with_reducible refine (k _).mono ?_); rintro e wn ⟨rfl, rfl⟩))
    go_ret
    exact ⟨rfl, rfl⟩
  have o1 : (o == 1) = false := by simpa using ho1
  have k := fun W => strR_c a b c ha hb hc W
  have e : sigN o a b c = strM a b c := by unfold sigN; rw [if_neg ho, if_neg ho1]
  rw [e]
  clear ha hb hc e ho ho1
  generalize strM a b c = r at *
  go_enter Tryd.func118, Tryd.ntmps118
  go_wp2_with (first | (go_at_call 130; first | ((with_reducible refine (c1 _).mono ?_); rintro e wn ⟨rfl, rfl⟩) | ((with_reducible refine (c2 _).mono ?_); rintro e wn ⟨rfl, rfl⟩) | ((with_reducible refine (c3 _).mono ?_); rintro e wn ⟨rfl, rfl⟩)) | (go_at_call 132; (with_reducible refine (k _).mono ?_); rintro e wn ⟨rfl, rfl⟩))
  go_ret
  exact ⟨rfl, rfl⟩
/-- Signs: of h and of v limited; which context, which bit. -/
def sgC (x y : Int) : Int := if x < 0 ∨ (x = 0 ∧ y < 0) then 9 - 3 * x - y else 9 + 3 * x + y
def sgF (x y : Int) : Int := if x < 0 ∨ (x = 0 ∧ y < 0) then 1 else 0
def l1 (h : Int) : Int := limM h (-1) 1
theorem l1_cases (h : Int) : l1 h = -1 ∨ l1 h = 0 ∨ l1 h = 1 := by unfold l1 limM; omega
theorem l1_r (h : Int) : min (max h (-1)) 1 = l1 h := by unfold l1 limM; omega
theorem sgnR0 (x y h v : Int) (hx : l1 h = x) (hy : l1 v = y) (hh : (x = 0 ∧ (y = 0 ∨ y = 1)) ∨ (x = 1 ∧ (y = -1 ∨ y = 0 ∨ y = 1))) (w : World) : Calls Tryd.prog 134 #[.int .i64 h, .int .i64 v] w fun e w' => e = .returned (.tuple #[.int .i64 (sgC x y), .int .i64 (sgF x y)]) ∧ w = w' := by
  have c1 := fun W => limR_c h (-1) 1 W
  have c2 := fun W => limR_c v (-1) 1 W
  rw [l1_r, hx] at c1
  rw [l1_r, hy] at c2
  clear hx hy
  rcases hh with ⟨rfl, rfl | rfl⟩ | ⟨rfl, rfl | rfl | rfl⟩ <;>
   (go_enter Tryd.func134, Tryd.ntmps134
    go_wp2_with (first | (go_at_call 130; first | ((with_reducible refine (c1 _).mono ?_); rintro e wn ⟨rfl, rfl⟩) | ((with_reducible refine (c2 _).mono ?_); rintro e wn ⟨rfl, rfl⟩)))
    go_ret2
    exact ⟨rfl, rfl⟩)
theorem sgnR_c (h v : Int) (w : World) : Calls Tryd.prog 134 #[.int .i64 h, .int .i64 v] w fun e w' => e = .returned (.tuple #[.int .i64 (sgC (l1 h) (l1 v)), .int .i64 (sgF (l1 h) (l1 v))]) ∧ w = w' := by
  obtain ⟨x, hx⟩ : ∃ x, l1 h = x := ⟨_, rfl⟩
  obtain ⟨y, hy⟩ : ∃ y, l1 v = y := ⟨_, rfl⟩
  rw [hx, hy]
  have kx := l1_cases h
  have ky := l1_cases v
  rw [hx] at kx
  rw [hy] at ky
  by_cases hh : (x = 0 ∧ (y = 0 ∨ y = 1)) ∨ (x = 1 ∧ (y = -1 ∨ y = 0 ∨ y = 1))
  · exact sgnR0 x y h v hx hy hh w
  have c1 := fun W => limR_c h (-1) 1 W
  have c2 := fun W => limR_c v (-1) 1 W
  rw [l1_r, hx] at c1
  rw [l1_r, hy] at c2
  have hh' : (x = 0 ∧ y = -1) ∨ (x = -1 ∧ (y = -1 ∨ y = 0 ∨ y = 1)) := by omega
  clear hh kx ky hx hy
  rcases hh' with ⟨rfl, rfl⟩ | ⟨rfl, rfl | rfl | rfl⟩
  · have k := fun W => sgnR0 0 1 0 1 (by decide) (by decide) (by decide) W
    go_enter Tryd.func134, Tryd.ntmps134
    go_wp2_with (first | (go_at_call 130; first | ((with_reducible refine (c1 _).mono ?_); rintro e wn ⟨rfl, rfl⟩) | ((with_reducible refine (c2 _).mono ?_); rintro e wn ⟨rfl, rfl⟩)) | (go_at_call 134; (with_reducible refine (k _).mono ?_); rintro e wn ⟨rfl, rfl⟩))
    go_ret2
    exact ⟨rfl, rfl⟩
  · have k := fun W => sgnR0 1 1 1 1 (by decide) (by decide) (by decide) W
    go_enter Tryd.func134, Tryd.ntmps134
    go_wp2_with (first | (go_at_call 130; first | ((with_reducible refine (c1 _).mono ?_); rintro e wn ⟨rfl, rfl⟩) | ((with_reducible refine (c2 _).mono ?_); rintro e wn ⟨rfl, rfl⟩)) | (go_at_call 134; (with_reducible refine (k _).mono ?_); rintro e wn ⟨rfl, rfl⟩))
    go_ret2
    exact ⟨rfl, rfl⟩
  · have k := fun W => sgnR0 1 0 1 0 (by decide) (by decide) (by decide) W
    go_enter Tryd.func134, Tryd.ntmps134
    go_wp2_with (first | (go_at_call 130; first | ((with_reducible refine (c1 _).mono ?_); rintro e wn ⟨rfl, rfl⟩) | ((with_reducible refine (c2 _).mono ?_); rintro e wn ⟨rfl, rfl⟩)) | (go_at_call 134; (with_reducible refine (k _).mono ?_); rintro e wn ⟨rfl, rfl⟩))
    go_ret2
    exact ⟨rfl, rfl⟩
  · have k := fun W => sgnR0 1 (-1) 1 (-1) (by decide) (by decide) (by decide) W
    go_enter Tryd.func134, Tryd.ntmps134
    go_wp2_with (first | (go_at_call 130; first | ((with_reducible refine (c1 _).mono ?_); rintro e wn ⟨rfl, rfl⟩) | ((with_reducible refine (c2 _).mono ?_); rintro e wn ⟨rfl, rfl⟩)) | (go_at_call 134; (with_reducible refine (k _).mono ?_); rintro e wn ⟨rfl, rfl⟩))
    go_ret2
    exact ⟨rfl, rfl⟩
end Go.Proofs.YtbhjapgioaiocaaDoor.Cx
