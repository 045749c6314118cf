/-
  Layer 20: contract of the reference's Steeper.
-/
import Derived.Test.YtkohdiajpdlkjaaHy
set_option maxRecDepth 100000
namespace Go.Proofs.Ytkohdiajpdlkjaa
open Go.RowKit

theorem hmx (x y : Int) : (if x < y then y else x) = max x y := by by_cases h : x < y <;> simp [h] <;> omega
set_option maxHeartbeats 8000000 in
theorem zsteeper_c (a x b y : Int) (W : World) : Calls Try.prog 25 #[.int .i64 a, .int .i64 x, .int .i64 b, .int .i64 y] W fun e w' => e = .returned (.int .i64 (steep a x b y)) ∧ w' = W := by
  have k1 := ranged_c a x
  have k2 := ranged_c b y
  have hmx9 := fun x y : Int => hmx x y
  by_cases h1 : okD a ∧ okR x
  · rw [decide_eq_true h1] at k1
    by_cases h2 : okD b ∧ okR y
    · rw [decide_eq_true h2] at k2
      have e : steep a x b y = stR a x b y := stR_eq h1.1 h1.2 h2.1 h2.2
      have m1 := mul_wrap h1.1 (show 0 ≤ max y 1 ∧ max y 1 ≤ 65535 by have := h2.2; unfold okR at this; omega)
      have m2 := mul_wrap h2.1 (show 0 ≤ max x 1 ∧ max x 1 ≤ 65535 by have := h1.2; unfold okR at this; omega)
      rw [e]
      clear e h1 h2
      obtain ⟨c, hc⟩ : ∃ c, c = stR a x b y := ⟨_, rfl⟩
      rw [← hc]
      unfold stR at hc
      by_cases hx : x = 0
      · have tx : (x == 0) = true := by simpa using hx
        by_cases ha : 0 < a
        · have hf : x = 0 ∧ 0 < a := ⟨hx, ha⟩
          clear hx
          by_cases hy : y = 0
          · have ty : (y == 0) = true := by simpa using hy
            by_cases hb : 0 < b
            · have hs : y = 0 ∧ 0 < b := ⟨hy, hb⟩
              clear hy
              rw [if_pos hf, if_pos hs] at hc
              clear hf hs
              subst hc
              go_enter Try.func25, Try.ntmps25
              go_wp2_with (first | (go_at_call 33; (with_reducible refine (k1 _).mono ?_); rintro e wn ⟨rfl, rfl⟩) | (go_at_call 33; (with_reducible refine (k2 _).mono ?_); rintro e wn ⟨rfl, rfl⟩))
              go_ret
              exact ⟨rfl, rfl⟩
            · have hs : ¬ (y = 0 ∧ 0 < b) := fun h => hb h.2
              clear hy
              rw [if_pos hf, if_neg hs] at hc
              clear hf hs
              subst hc
              go_enter Try.func25, Try.ntmps25
              go_wp2_with (first | (go_at_call 33; (with_reducible refine (k1 _).mono ?_); rintro e wn ⟨rfl, rfl⟩) | (go_at_call 33; (with_reducible refine (k2 _).mono ?_); rintro e wn ⟨rfl, rfl⟩))
              go_ret
              exact ⟨rfl, rfl⟩
          · have ty : (y == 0) = false := by simpa using hy
            have hs : ¬ (y = 0 ∧ 0 < b) := fun h => hy h.1
            clear hy
            rw [if_pos hf, if_neg hs] at hc
            clear hf hs
            subst hc
            go_enter Try.func25, Try.ntmps25
            go_wp2_with (first | (go_at_call 33; (with_reducible refine (k1 _).mono ?_); rintro e wn ⟨rfl, rfl⟩) | (go_at_call 33; (with_reducible refine (k2 _).mono ?_); rintro e wn ⟨rfl, rfl⟩))
            go_ret
            exact ⟨rfl, rfl⟩
        · have hf : ¬ (x = 0 ∧ 0 < a) := fun h => ha h.2
          clear hx
          by_cases hy : y = 0
          · have ty : (y == 0) = true := by simpa using hy
            by_cases hb : 0 < b
            · have hs : y = 0 ∧ 0 < b := ⟨hy, hb⟩
              clear hy
              rw [if_neg hf, if_pos hs] at hc
              clear hf hs
              subst hc
              go_enter Try.func25, Try.ntmps25
              go_wp2_with (first | (go_at_call 33; (with_reducible refine (k1 _).mono ?_); rintro e wn ⟨rfl, rfl⟩) | (go_at_call 33; (with_reducible refine (k2 _).mono ?_); rintro e wn ⟨rfl, rfl⟩))
              go_ret
              exact ⟨rfl, rfl⟩
            · have hs : ¬ (y = 0 ∧ 0 < b) := fun h => hb h.2
              clear hy
              rw [if_neg hf, if_neg hs] at hc
              clear hf hs
              obtain ⟨A, hA⟩ : ∃ A, A = a * max y 1 := ⟨_, rfl⟩
              obtain ⟨B, hB⟩ : ∃ B, B = b * max x 1 := ⟨_, rfl⟩
              rw [← hA, ← hB] at hc
              replace m1 := m1.trans hA.symm
              replace m2 := m2.trans hB.symm
              clear hA hB
              rcases cmpI_cases A B with ⟨h3, h4⟩ | ⟨h3, h4⟩ | ⟨h3, h4⟩
              · rw [h4] at hc
                clear h4
                subst hc
                have h5 : ¬ B < A := by omega
                go_enter Try.func25, Try.ntmps25
                go_wp2_with (first | (go_at_call 33; (with_reducible refine (k1 _).mono ?_); rintro e wn ⟨rfl, rfl⟩) | (go_at_call 33; (with_reducible refine (k2 _).mono ?_); rintro e wn ⟨rfl, rfl⟩))
                go_ret
                exact ⟨rfl, rfl⟩
              · rw [h4] at hc
                clear h4
                subst hc
                have h5 : ¬ B < A := by omega
                have h6 : ¬ A < B := by omega
                clear h3
                go_enter Try.func25, Try.ntmps25
                go_wp2_with (first | (go_at_call 33; (with_reducible refine (k1 _).mono ?_); rintro e wn ⟨rfl, rfl⟩) | (go_at_call 33; (with_reducible refine (k2 _).mono ?_); rintro e wn ⟨rfl, rfl⟩))
                go_ret
                exact ⟨rfl, rfl⟩
              · rw [h4] at hc
                clear h4
                subst hc
                go_enter Try.func25, Try.ntmps25
                go_wp2_with (first | (go_at_call 33; (with_reducible refine (k1 _).mono ?_); rintro e wn ⟨rfl, rfl⟩) | (go_at_call 33; (with_reducible refine (k2 _).mono ?_); rintro e wn ⟨rfl, rfl⟩))
                go_ret
                exact ⟨rfl, rfl⟩
          · have ty : (y == 0) = false := by simpa using hy
            have hs : ¬ (y = 0 ∧ 0 < b) := fun h => hy h.1
            clear hy
            rw [if_neg hf, if_neg hs] at hc
            clear hf hs
            obtain ⟨A, hA⟩ : ∃ A, A = a * max y 1 := ⟨_, rfl⟩
            obtain ⟨B, hB⟩ : ∃ B, B = b * max x 1 := ⟨_, rfl⟩
            rw [← hA, ← hB] at hc
            replace m1 := m1.trans hA.symm
            replace m2 := m2.trans hB.symm
            clear hA hB
            rcases cmpI_cases A B with ⟨h3, h4⟩ | ⟨h3, h4⟩ | ⟨h3, h4⟩
            · rw [h4] at hc
              clear h4
              subst hc
              have h5 : ¬ B < A := by omega
              go_enter Try.func25, Try.ntmps25
              go_wp2_with (first | (go_at_call 33; (with_reducible refine (k1 _).mono ?_); rintro e wn ⟨rfl, rfl⟩) | (go_at_call 33; (with_reducible refine (k2 _).mono ?_); rintro e wn ⟨rfl, rfl⟩))
              go_ret
              exact ⟨rfl, rfl⟩
            · rw [h4] at hc
              clear h4
              subst hc
              have h5 : ¬ B < A := by omega
              have h6 : ¬ A < B := by omega
              clear h3
              go_enter Try.func25, Try.ntmps25
              go_wp2_with (first | (go_at_call 33; (with_reducible refine (k1 _).mono ?_); rintro e wn ⟨rfl, rfl⟩) | (go_at_call 33; (with_reducible refine (k2 _).mono ?_); rintro e wn ⟨rfl, rfl⟩))
              go_ret
              exact ⟨rfl, rfl⟩
            · rw [h4] at hc
              clear h4
              subst hc
              go_enter Try.func25, Try.ntmps25
              go_wp2_with (first | (go_at_call 33; (with_reducible refine (k1 _).mono ?_); rintro e wn ⟨rfl, rfl⟩) | (go_at_call 33; (with_reducible refine (k2 _).mono ?_); rintro e wn ⟨rfl, rfl⟩))
              go_ret
              exact ⟨rfl, rfl⟩
      · have tx : (x == 0) = false := by simpa using hx
        have hf : ¬ (x = 0 ∧ 0 < a) := fun h => hx h.1
        clear hx
        by_cases hy : y = 0
        · have ty : (y == 0) = true := by simpa using hy
          by_cases hb : 0 < b
          · have hs : y = 0 ∧ 0 < b := ⟨hy, hb⟩
            clear hy
            rw [if_neg hf, if_pos hs] at hc
            clear hf hs
            subst hc
            go_enter Try.func25, Try.ntmps25
            go_wp2_with (first | (go_at_call 33; (with_reducible refine (k1 _).mono ?_); rintro e wn ⟨rfl, rfl⟩) | (go_at_call 33; (with_reducible refine (k2 _).mono ?_); rintro e wn ⟨rfl, rfl⟩))
            go_ret
            exact ⟨rfl, rfl⟩
          · have hs : ¬ (y = 0 ∧ 0 < b) := fun h => hb h.2
            clear hy
            rw [if_neg hf, if_neg hs] at hc
            clear hf hs
            obtain ⟨A, hA⟩ : ∃ A, A = a * max y 1 := ⟨_, rfl⟩
            obtain ⟨B, hB⟩ : ∃ B, B = b * max x 1 := ⟨_, rfl⟩
            rw [← hA, ← hB] at hc
            replace m1 := m1.trans hA.symm
            replace m2 := m2.trans hB.symm
            clear hA hB
            rcases cmpI_cases A B with ⟨h3, h4⟩ | ⟨h3, h4⟩ | ⟨h3, h4⟩
            · rw [h4] at hc
              clear h4
              subst hc
              have h5 : ¬ B < A := by omega
              go_enter Try.func25, Try.ntmps25
              go_wp2_with (first | (go_at_call 33; (with_reducible refine (k1 _).mono ?_); rintro e wn ⟨rfl, rfl⟩) | (go_at_call 33; (with_reducible refine (k2 _).mono ?_); rintro e wn ⟨rfl, rfl⟩))
              go_ret
              exact ⟨rfl, rfl⟩
            · rw [h4] at hc
              clear h4
              subst hc
              have h5 : ¬ B < A := by omega
              have h6 : ¬ A < B := by omega
              clear h3
              go_enter Try.func25, Try.ntmps25
              go_wp2_with (first | (go_at_call 33; (with_reducible refine (k1 _).mono ?_); rintro e wn ⟨rfl, rfl⟩) | (go_at_call 33; (with_reducible refine (k2 _).mono ?_); rintro e wn ⟨rfl, rfl⟩))
              go_ret
              exact ⟨rfl, rfl⟩
            · rw [h4] at hc
              clear h4
              subst hc
              go_enter Try.func25, Try.ntmps25
              go_wp2_with (first | (go_at_call 33; (with_reducible refine (k1 _).mono ?_); rintro e wn ⟨rfl, rfl⟩) | (go_at_call 33; (with_reducible refine (k2 _).mono ?_); rintro e wn ⟨rfl, rfl⟩))
              go_ret
              exact ⟨rfl, rfl⟩
        · have ty : (y == 0) = false := by simpa using hy
          have hs : ¬ (y = 0 ∧ 0 < b) := fun h => hy h.1
          clear hy
          rw [if_neg hf, if_neg hs] at hc
          clear hf hs
          obtain ⟨A, hA⟩ : ∃ A, A = a * max y 1 := ⟨_, rfl⟩
          obtain ⟨B, hB⟩ : ∃ B, B = b * max x 1 := ⟨_, rfl⟩
          rw [← hA, ← hB] at hc
          replace m1 := m1.trans hA.symm
          replace m2 := m2.trans hB.symm
          clear hA hB
          rcases cmpI_cases A B with ⟨h3, h4⟩ | ⟨h3, h4⟩ | ⟨h3, h4⟩
          · rw [h4] at hc
            clear h4
            subst hc
            have h5 : ¬ B < A := by omega
            go_enter Try.func25, Try.ntmps25
            go_wp2_with (first | (go_at_call 33; (with_reducible refine (k1 _).mono ?_); rintro e wn ⟨rfl, rfl⟩) | (go_at_call 33; (with_reducible refine (k2 _).mono ?_); rintro e wn ⟨rfl, rfl⟩))
            go_ret
            exact ⟨rfl, rfl⟩
          · rw [h4] at hc
            clear h4
            subst hc
            have h5 : ¬ B < A := by omega
            have h6 : ¬ A < B := by omega
            clear h3
            go_enter Try.func25, Try.ntmps25
            go_wp2_with (first | (go_at_call 33; (with_reducible refine (k1 _).mono ?_); rintro e wn ⟨rfl, rfl⟩) | (go_at_call 33; (with_reducible refine (k2 _).mono ?_); rintro e wn ⟨rfl, rfl⟩))
            go_ret
            exact ⟨rfl, rfl⟩
          · rw [h4] at hc
            clear h4
            subst hc
            go_enter Try.func25, Try.ntmps25
            go_wp2_with (first | (go_at_call 33; (with_reducible refine (k1 _).mono ?_); rintro e wn ⟨rfl, rfl⟩) | (go_at_call 33; (with_reducible refine (k2 _).mono ?_); rintro e wn ⟨rfl, rfl⟩))
            go_ret
            exact ⟨rfl, rfl⟩
    · have e : steep a x b y = 0 := by unfold steep; rw [if_neg (fun h => h2 ⟨h.2.2.1, h.2.2.2⟩)]
      rw [decide_eq_false h2] at k2
      rw [e]; clear e h1 h2
      go_enter Try.func25, Try.ntmps25
      go_wp2_with (first | (go_at_call 33; (with_reducible refine (k1 _).mono ?_); rintro e wn ⟨rfl, rfl⟩) | (go_at_call 33; (with_reducible refine (k2 _).mono ?_); rintro e wn ⟨rfl, rfl⟩))
      go_ret
      exact ⟨rfl, rfl⟩
  · have e : steep a x b y = 0 := by unfold steep; rw [if_neg (fun h => h1 ⟨h.1, h.2.1⟩)]
    rw [decide_eq_false h1] at k1
    rw [e]; clear e h1
    go_enter Try.func25, Try.ntmps25
    go_wp2_with (first | (go_at_call 33; (with_reducible refine (k1 _).mono ?_); rintro e wn ⟨rfl, rfl⟩) | (go_at_call 33; (with_reducible refine (k2 _).mono ?_); rintro e wn ⟨rfl, rfl⟩))
    go_ret
    exact ⟨rfl, rfl⟩
end Go.Proofs.Ytkohdiajpdlkjaa
