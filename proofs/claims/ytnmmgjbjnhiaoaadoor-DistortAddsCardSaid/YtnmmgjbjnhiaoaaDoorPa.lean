/-
  Layer 14: sizes, hidden rows, joint signs; Pass, Raw.
-/
import Derived.Test.YtnmmgjbjnhiaoaaDoorObj6
import Derived.BigQuiet
import Derived.Lib.Hide
set_option maxRecDepth 100000
namespace Go.Proofs.YtnmmgjbjnhiaoaaDoor
open Go.RowKit

theorem drewN_below (w : World) (n : Nat) : Below w.heap.size w (w.drewN n) := by
  induction n with
  | zero => exact Below.refl _ _
  | succ n ih => exact ih.drew
theorem hmx (x y : Int) : (if x < y then y else x) = max x y := by split <;> omega
theorem hmn (x y : Int) : (if y < x then y else x) = min x y := by split <;> omega
def i64R (a : Int) : Prop := -9223372036854775808 ≤ a ∧ a ≤ 9223372036854775807
def fits (w h : Int) : Prop := 1 ≤ w ∧ w ≤ 64 ∧ 1 ≤ h ∧ h ≤ 64
theorem sized_y (w h : Int) (hf : fits w h) (W : World) : Calls Tryd.prog 65 #[.int .i64 w, .int .i64 h] W fun e w' => e = .returned (.bool true) ∧ W = w' := by
  obtain ⟨h1, h2, h3, h4⟩ := hf
  go_enter Tryd.func65, Tryd.ntmps65
  go_wp2_with fail
  go_ret
  exact ⟨rfl, rfl⟩
theorem sized_n (w h : Int) (hf : ¬ fits w h) (W : World) : Calls Tryd.prog 65 #[.int .i64 w, .int .i64 h] W fun e w' => e = .returned (.bool false) ∧ W = w' := by
  have hc : w < 1 ∨ (1 ≤ w ∧ 64 < w) ∨ (1 ≤ w ∧ w ≤ 64 ∧ h < 1) ∨ (1 ≤ w ∧ w ≤ 64 ∧ 1 ≤ h ∧ 64 < h) := by unfold fits at hf; omega
  clear hf
  rcases hc with h1 | ⟨h1, h2⟩ | ⟨h1, h2, h3⟩ | ⟨h1, h2, h3, h4⟩ <;> (go_enter Tryd.func65, Tryd.ntmps65; go_wp2_with fail; go_ret; first | exact ⟨rfl, rfl⟩ | exact ⟨by simpa using h4, rfl⟩)
/-- Whether the row below y is not looked at (y not negative). -/
def hid (y : Int) (c : Bool) : Bool := c && (y % 4 == 3)
theorem hidden_c (y : Int) (c : Bool) (hy : 0 ≤ y) (hy2 : y ≤ 100) (W : World) : Calls Tryd.prog 97 #[.int .i64 y, .bool c] W fun e w' => e = .returned (.bool (hid y c)) ∧ W = w' := by
  cases c
  · go_enter Tryd.func97, Tryd.ntmps97
    go_wp2_with fail
    go_ret
    exact ⟨rfl, rfl⟩
  · have e1 : hid y true = (y % 4 == 3) := rfl
    rw [e1]
    go_enter Tryd.func97, Tryd.ntmps97
    go_wp2_with fail
    go_ret
    exact ⟨rfl, rfl⟩
def jnt (a b : Int) : Int := max (-1) (min (a + b) 1)
theorem joint_c (a b : Int) (ha : -1 ≤ a ∧ a ≤ 1) (hb : -1 ≤ b ∧ b ≤ 1) (W : World) : Calls Tryd.prog 103 #[.int .i64 a, .int .i64 b] W fun e w' => e = .returned (.int .i64 (jnt a b)) ∧ W = w' := by
  have hmx := hmx
  have hmn := hmn
  have hs : IntKind.i64.wrap (a + b) = a + b := by rw [IntWalk.i64_left]; unfold wrap64; omega
  clear ha hb
  go_enter Tryd.func103, Tryd.ntmps103
  go_wp2_with fail
  go_ret
  exact ⟨rfl, rfl⟩
def plnP (n : Int) : Int := if n < 0 then -1 else if n = 0 then 0 else (n - 1) / 3 + 1
def kndP (n : Int) : Int := if n < 0 then -1 else if n = 0 then 2 else (n - 1) % 3
theorem pass_c (n : Int) (hn : n ≤ 9223372036854775807) (W : World) : Calls Tryd.prog 69 #[.int .i64 n] W fun e w' => e = .returned (.tuple #[.int .i64 (plnP n), .int .i64 (kndP n)]) ∧ W = w' := by
  by_cases h1 : n < 0
  · rw [show plnP n = -1 by unfold plnP; rw [if_pos h1], show kndP n = -1 by unfold kndP; rw [if_pos h1]]
    go_enter Tryd.func69, Tryd.ntmps69
    go_wp2_with fail
    go_ret2
    exact ⟨rfl, rfl⟩
  · by_cases h2 : n = 0
    · subst h2
      go_enter Tryd.func69, Tryd.ntmps69
      go_wp2_with fail
      go_ret2
      exact ⟨rfl, rfl⟩
    · rw [show plnP n = (n - 1) / 3 + 1 by unfold plnP; rw [if_neg h1, if_neg h2], show kndP n = (n - 1) % 3 by unfold kndP; rw [if_neg h1, if_neg h2]]
      have h3 : (n == 0) = false := by simpa using h2
      have w1 : IntKind.i64.wrap (n - 1) = n - 1 := by rw [IntWalk.i64_left]; unfold wrap64; omega
      have w2 : 0 ≤ n - 1 := by omega
      go_enter Tryd.func69, Tryd.ntmps69
      go_wp2_with fail
      go_ret2
      exact ⟨rfl, rfl⟩
theorem fdiv_c (n : Int) (h0 : 0 ≤ n) (hn : n ≤ 9223372036854775807) (W : World) : Calls Tryd.prog 33 #[.int .i64 n, .int .i64 3] W fun e w' => e = .returned (.int .i64 (n / 3)) ∧ W = w' := by
  go_enter Tryd.func33, Tryd.ntmps33
  go_wp2_with fail
  go_ret
  exact ⟨rfl, rfl⟩
/-- A mode: Bypass, Restart, Reset, Causal, Symbols. -/
structure Mo where
  b : Bool
  r : Bool
  s : Bool
  c : Bool
  y : Bool
def Mo.val (m : Mo) : Value := .agg #[.bool m.b, .bool m.r, .bool m.s, .bool m.c, .bool m.y]
def rawM (n : Int) (b : Bool) : Bool := b && decide (4 ≤ plnP n) && !(kndP n == 2)
theorem knd_in (n : Int) (h : 0 ≤ n) : kndP n = 0 ∨ kndP n = 1 ∨ kndP n = 2 := by unfold kndP; split; omega; split <;> omega
theorem raw_c (n : Int) (m : Mo) (hn : n ≤ 9223372036854775807) (W : World) : Calls Tryd.prog 58 #[.int .i64 n, m.val] W fun e w' => e = .returned (.bool (rawM n m.b)) ∧ Below W.heap.size W w' := by
  have k := pass_c n hn
  unfold Mo.val
  have hB := below_alloc (Below.refl _ W) (.cells #[.bool m.b, .bool m.r, .bool m.s, .bool m.c, .bool m.y] 43)
  obtain ⟨b, r, s, c, y⟩ := m
  by_cases h0 : n < 0
  · rw [show plnP n = -1 by unfold plnP; rw [if_pos h0], show kndP n = -1 by unfold kndP; rw [if_pos h0]] at k
    rw [show rawM n b = false by unfold rawM plnP; rw [if_pos h0]; simp]
    go_enter Tryd.func58, Tryd.ntmps58
    go_wp2_with (first | (go_at_call 69; (with_reducible refine (k _).mono ?_); rintro e wn ⟨rfl, rfl⟩))
    go_ret
    exact ⟨rfl, hB⟩
  have hk := knd_in n (by omega)
  have e1 : rawM n b = (b && decide (4 ≤ plnP n) && !(kndP n == 2)) := rfl
  rw [e1]
  clear e1 h0 hn
  generalize plnP n = p at *
  generalize kndP n = q at *
  rcases hk with rfl | rfl | rfl <;> cases b <;>
   (go_enter Tryd.func58, Tryd.ntmps58
    go_wp2_with (first | (go_at_call 69; (with_reducible refine (k _).mono ?_); rintro e wn ⟨rfl, rfl⟩))
    go_ret
    exact ⟨by first | rfl | simp, hB⟩)
end Go.Proofs.YtnmmgjbjnhiaoaaDoor
