/-
  Layer 20: contracts of both Steepers.
-/
import Derived.Test.YtkohdiajpdlkjaaHw
set_option maxRecDepth 100000
namespace Go.Proofs.Ytkohdiajpdlkjaa
open Go.RowKit

theorem mul_wrap {a b : Int} (ha : okD a) (hb : 0 ≤ b ∧ b ≤ 65535) : IntKind.i64.wrap (a * b) = a * b := by
  have h1 : 0 ≤ a * b := Int.mul_nonneg ha.1 hb.1
  have h2 : a * b ≤ 70368744177664 * 65535 := Int.mul_le_mul ha.2 hb.2 hb.1 (by decide)
  rw [IntWalk.i64_left]; unfold wrap64; omega
set_option maxHeartbeats 4000000 in
theorem hsteeper_c (a x b y : Int) (W : World) : Calls Try.prog 31 #[.int .i64 a, .int .i64 x, .int .i64 b, .int .i64 y] W fun e w' => e = .returned (.int .i64 (steep a x b y)) ∧ w' = W := by
  have k1 := isdist_c a
  have k2 := israte_c x
  have k3 := isdist_c b
  have k4 := israte_c y
  by_cases h1 : okD a
  · rw [decide_eq_true h1] at k1
    by_cases h2 : okR x
    · rw [decide_eq_true h2] at k2
      by_cases h3 : okD b
      · rw [decide_eq_true h3] at k3
        by_cases h4 : okR y
        · rw [decide_eq_true h4] at k4
          have e : steep a x b y = cmpI (a * nr b y) (b * nr a x) := steep_y ⟨h1, h2, h3, h4⟩
          have m1 := mul_wrap h1 (show 0 ≤ nr b y ∧ nr b y ≤ 65535 from ⟨(nr_ok h3 h4).1, (nr_ok h3 h4).2.1⟩)
          have m2 := mul_wrap h3 (show 0 ≤ nr a x ∧ nr a x ≤ 65535 from ⟨(nr_ok h1 h2).1, (nr_ok h1 h2).2.1⟩)
          have kc := compare_c (a * nr b y) (b * nr a x)
          rw [e]
          generalize cmpI (a * nr b y) (b * nr a x) = c at *
          clear e h1 h2 h3 h4
          unfold nr at m1 m2 kc
          have w0 : IntKind.i64.wrap 0 = 0 := by decide
          by_cases ha : a = 0
          · subst ha
            rw [if_pos rfl, Int.mul_one] at m2
            rw [if_pos rfl, Int.mul_one, Int.zero_mul] at kc
            clear m1
            by_cases hb : b = 0
            · subst hb
              go_enter Try.func31, Try.ntmps31
              go_wp2_with (first | (go_at_call 35; (with_reducible refine (k1 _).mono ?_); rintro e wn ⟨rfl, rfl⟩) | (go_at_call 39; (with_reducible refine (k2 _).mono ?_); rintro e wn ⟨rfl, rfl⟩) | (go_at_call 35; (with_reducible refine (k3 _).mono ?_); rintro e wn ⟨rfl, rfl⟩) | (go_at_call 39; (with_reducible refine (k4 _).mono ?_); rintro e wn ⟨rfl, rfl⟩) | (go_at_call 40; (with_reducible refine (kc _).mono ?_); rintro e wn ⟨rfl, rfl⟩))
              go_ret
              exact ⟨rfl, rfl⟩
            · have tb : (b == 0) = false := by simpa using hb
              clear hb
              go_enter Try.func31, Try.ntmps31
              go_wp2_with (first | (go_at_call 35; (with_reducible refine (k1 _).mono ?_); rintro e wn ⟨rfl, rfl⟩) | (go_at_call 39; (with_reducible refine (k2 _).mono ?_); rintro e wn ⟨rfl, rfl⟩) | (go_at_call 35; (with_reducible refine (k3 _).mono ?_); rintro e wn ⟨rfl, rfl⟩) | (go_at_call 39; (with_reducible refine (k4 _).mono ?_); rintro e wn ⟨rfl, rfl⟩) | (go_at_call 40; (with_reducible refine (kc _).mono ?_); rintro e wn ⟨rfl, rfl⟩))
              go_ret
              exact ⟨rfl, rfl⟩
          · rw [if_neg ha] at m2 kc
            have ta : (a == 0) = false := by simpa using ha
            clear ha
            by_cases hb : b = 0
            · subst hb
              rw [if_pos rfl, Int.mul_one] at m1
              rw [if_pos rfl, Int.mul_one, Int.zero_mul] at kc
              clear m2
              go_enter Try.func31, Try.ntmps31
              go_wp2_with (first | (go_at_call 35; (with_reducible refine (k1 _).mono ?_); rintro e wn ⟨rfl, rfl⟩) | (go_at_call 39; (with_reducible refine (k2 _).mono ?_); rintro e wn ⟨rfl, rfl⟩) | (go_at_call 35; (with_reducible refine (k3 _).mono ?_); rintro e wn ⟨rfl, rfl⟩) | (go_at_call 39; (with_reducible refine (k4 _).mono ?_); rintro e wn ⟨rfl, rfl⟩) | (go_at_call 40; (with_reducible refine (kc _).mono ?_); rintro e wn ⟨rfl, rfl⟩))
              go_ret
              exact ⟨rfl, rfl⟩
            · rw [if_neg hb] at m1 kc
              have tb : (b == 0) = false := by simpa using hb
              clear hb
              go_enter Try.func31, Try.ntmps31
              go_wp2_with (first | (go_at_call 35; (with_reducible refine (k1 _).mono ?_); rintro e wn ⟨rfl, rfl⟩) | (go_at_call 39; (with_reducible refine (k2 _).mono ?_); rintro e wn ⟨rfl, rfl⟩) | (go_at_call 35; (with_reducible refine (k3 _).mono ?_); rintro e wn ⟨rfl, rfl⟩) | (go_at_call 39; (with_reducible refine (k4 _).mono ?_); rintro e wn ⟨rfl, rfl⟩) | (go_at_call 40; (with_reducible refine (kc _).mono ?_); rintro e wn ⟨rfl, rfl⟩))
              go_ret
              exact ⟨rfl, rfl⟩
        · have e : steep a x b y = 0 := by unfold steep; rw [if_neg (fun h => h4 h.2.2.2)]
          rw [decide_eq_false h4] at k4
          rw [e]; clear e h1 h2 h3 h4
          go_enter Try.func31, Try.ntmps31
          go_wp2_with (first | (go_at_call 35; (with_reducible refine (k1 _).mono ?_); rintro e wn ⟨rfl, rfl⟩) | (go_at_call 39; (with_reducible refine (k2 _).mono ?_); rintro e wn ⟨rfl, rfl⟩) | (go_at_call 35; (with_reducible refine (k3 _).mono ?_); rintro e wn ⟨rfl, rfl⟩) | (go_at_call 39; (with_reducible refine (k4 _).mono ?_); rintro e wn ⟨rfl, rfl⟩))
          go_ret
          exact ⟨rfl, rfl⟩
      · have e : steep a x b y = 0 := by unfold steep; rw [if_neg (fun h => h3 h.2.2.1)]
        rw [decide_eq_false h3] at k3
        rw [e]; clear e h1 h2 h3
        go_enter Try.func31, Try.ntmps31
        go_wp2_with (first | (go_at_call 35; (with_reducible refine (k1 _).mono ?_); rintro e wn ⟨rfl, rfl⟩) | (go_at_call 39; (with_reducible refine (k2 _).mono ?_); rintro e wn ⟨rfl, rfl⟩) | (go_at_call 35; (with_reducible refine (k3 _).mono ?_); rintro e wn ⟨rfl, rfl⟩))
        go_ret
        exact ⟨rfl, rfl⟩
    · have e : steep a x b y = 0 := by unfold steep; rw [if_neg (fun h => h2 h.2.1)]
      rw [decide_eq_false h2] at k2
      rw [e]; clear e h1 h2
      go_enter Try.func31, Try.ntmps31
      go_wp2_with (first | (go_at_call 35; (with_reducible refine (k1 _).mono ?_); rintro e wn ⟨rfl, rfl⟩) | (go_at_call 39; (with_reducible refine (k2 _).mono ?_); rintro e wn ⟨rfl, rfl⟩))
      go_ret
      exact ⟨rfl, rfl⟩
  · have e : steep a x b y = 0 := by unfold steep; rw [if_neg (fun h => h1 h.1)]
    rw [decide_eq_false h1] at k1
    rw [e]; clear e h1
    go_enter Try.func31, Try.ntmps31
    go_wp2_with (first | (go_at_call 35; (with_reducible refine (k1 _).mono ?_); rintro e wn ⟨rfl, rfl⟩))
    go_ret
    exact ⟨rfl, rfl⟩
/-- The reference's comparison. -/
def stR (a x b y : Int) : Int := if x = 0 ∧ 0 < a then (if y = 0 ∧ 0 < b then 0 else 1) else if y = 0 ∧ 0 < b then -1 else cmpI (a * max y 1) (b * max x 1)
theorem stR_eq {a x b y : Int} (h1 : okD a) (h2 : okR x) (h3 : okD b) (h4 : okR y) : steep a x b y = stR a x b y := by
  rw [steep_y ⟨h1, h2, h3, h4⟩]
  unfold stR nr
  unfold okD okR at *
  by_cases hx : x = 0 ∧ 0 < a
  · rw [if_pos hx, if_neg (show ¬ a = 0 by omega)]
    obtain ⟨hx0, hxa⟩ := hx
    subst hx0
    rw [Int.mul_zero]
    by_cases hy : y = 0 ∧ 0 < b
    · rw [if_pos hy, if_neg (show ¬ b = 0 by omega)]
      obtain ⟨hy0, _⟩ := hy
      subst hy0
      rw [Int.mul_zero]; rfl
    · rw [if_neg hy]
      have hp : 0 < a * (if b = 0 then 1 else y) := Int.mul_pos hxa (by by_cases hb : b = 0 <;> simp [hb] <;> omega)
      rcases cmpI_cases (a * (if b = 0 then 1 else y)) 0 with h | h | h <;> omega
  · rw [if_neg hx]
    by_cases hy : y = 0 ∧ 0 < b
    · rw [if_pos hy, if_neg (show ¬ b = 0 by omega)]
      obtain ⟨hy0, hyb⟩ := hy
      subst hy0
      rw [Int.mul_zero]
      have hp : 0 < b * (if a = 0 then 1 else x) := Int.mul_pos hyb (by by_cases ha : a = 0 <;> simp [ha] <;> omega)
      rcases cmpI_cases 0 (b * (if a = 0 then 1 else x)) with h | h | h <;> omega
    · rw [if_neg hy]
      by_cases ha : a = 0
      · subst ha
        rw [if_pos rfl, Int.zero_mul, Int.zero_mul, Int.mul_one]
        by_cases hb : b = 0
        · subst hb; rw [Int.zero_mul]
        · have hp : 0 < b * max x 1 := Int.mul_pos (by omega) (by omega)
          rcases cmpI_cases 0 b with h | h | h <;> rcases cmpI_cases 0 (b * max x 1) with h' | h' | h' <;> omega
      · rw [if_neg ha, show max x 1 = x by omega]
        by_cases hb : b = 0
        · subst hb
          rw [if_pos rfl, Int.zero_mul, Int.mul_one]
          have hp : 0 < a * max y 1 := Int.mul_pos (by omega) (by omega)
          rcases cmpI_cases a 0 with h | h | h <;> rcases cmpI_cases (a * max y 1) 0 with h' | h' | h' <;> omega
        · rw [if_neg hb, show max y 1 = y by omega]
end Go.Proofs.Ytkohdiajpdlkjaa
