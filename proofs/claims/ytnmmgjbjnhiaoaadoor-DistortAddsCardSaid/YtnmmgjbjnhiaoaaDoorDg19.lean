/-
  Layer 19: contracts of Place and Weight, code and reference.
-/
import Derived.Test.YtnmmgjbjnhiaoaaDoorRa19
import Derived.Test.YtnmmgjbjnhiaoaaDoorPj
import Derived.Laws.Shifts
set_option maxRecDepth 100000
namespace Go.Proofs.YtnmmgjbjnhiaoaaDoor
open Go.RowKit

def cntP (l : Int) : Int := if l < 0 ∨ 5 < l then 0 else 3 * l + 1
def okP (i l : Int) : Prop := 0 ≤ i ∧ i < cntP l
instance (i l : Int) : Decidable (okP i l) := by unfold okP; infer_instance
def lvl (i l : Int) : Int := if okP i l then (if i = 0 then l else l - (i + 2) / 3 + 1) else 0
theorem lvl_in (i l : Int) : 0 ≤ lvl i l ∧ lvl i l ≤ 5 := by
  unfold lvl
  by_cases h : okP i l
  · rw [if_pos h]
    unfold okP cntP at h
    by_cases hl : l < 0 ∨ 5 < l
    · rw [if_pos hl] at h; omega
    · rw [if_neg hl] at h
      by_cases h0 : i = 0
      · rw [if_pos h0]; omega
      · rw [if_neg h0]; omega
  · rw [if_neg h]; omega
def wgt (n : Int) : Int := if n ≤ 1 then 1 else if n = 2 then 4 else 16
def wgtI (l i : Int) : Int := if okP i l then wgt (lvl i l) else 0
theorem cd3 (i : Int) (h : 0 ≤ i) : Pl.cd i 3 = (i + 2) / 3 := by
  unfold Pl.cd
  have e := Int.tdiv_eq_ediv_of_nonneg (a := i) (b := 3) h
  have m := Int.tmod_eq_emod_of_nonneg (a := i) (b := 3) h
  rw [if_neg (by decide), e, m]
  split <;> omega
theorem pcount_c (l : Int) (W : World) : Calls Tryd.prog 41 #[.int .i64 l] W fun e w' => e = .returned (.int .i64 (cntP l)) ∧ w' = W := by
  unfold cntP
  by_cases h1 : l < 0
  · rw [if_pos (.inl h1)]
    go_enter Tryd.func41, Tryd.ntmps41
    go_wp2_with fail
    go_ret
    exact ⟨rfl, rfl⟩
  · by_cases h2 : 5 < l
    · rw [if_pos (.inr h2)]
      go_enter Tryd.func41, Tryd.ntmps41
      go_wp2_with fail
      go_ret
      exact ⟨rfl, rfl⟩
    · rw [if_neg (by omega)]
      have w1 : IntKind.i64.wrap (3 * l) = 3 * l := by rw [IntWalk.i64_left]; unfold wrap64; omega
      have w2 : IntKind.i64.wrap (3 * l + 1) = 3 * l + 1 := by rw [IntWalk.i64_left]; unfold wrap64; omega
      go_enter Tryd.func41, Tryd.ntmps41
      go_wp2_with fail
      go_ret
      exact ⟨rfl, rfl⟩
theorem zcount_c (l : Int) (W : World) : Calls Tryd.prog 44 #[.int .i64 l] W fun e w' => e = .returned (.int .i64 (cntP l)) ∧ w' = W := by
  unfold cntP
  by_cases h1 : l < 0
  · rw [if_pos (.inl h1)]
    go_enter Tryd.func44, Tryd.ntmps44
    go_wp2_with fail
    go_ret
    exact ⟨rfl, rfl⟩
  · by_cases h2 : 5 < l
    · rw [if_pos (.inr h2)]
      go_enter Tryd.func44, Tryd.ntmps44
      go_wp2_with fail
      go_ret
      exact ⟨rfl, rfl⟩
    · rw [if_neg (by omega)]
      have w1 : IntKind.i64.wrap (3 * l) = 3 * l := by rw [IntWalk.i64_left]; unfold wrap64; omega
      have w2 : IntKind.i64.wrap (3 * l + 1) = 3 * l + 1 := by rw [IntWalk.i64_left]; unfold wrap64; omega
      go_enter Tryd.func44, Tryd.ntmps44
      go_wp2_with fail
      go_ret
      exact ⟨rfl, rfl⟩
theorem pfirst_c (r : Int) (W : World) (h : 0 ≤ r ∧ r ≤ 100) : Calls Tryd.prog 43 #[.int .i64 r] W fun e w' => e = .returned (.int .i64 (3 * r - 2)) ∧ w' = W := by
  have w1 : IntKind.i64.wrap (3 * r) = 3 * r := by rw [IntWalk.i64_left]; unfold wrap64; omega
  have w2 : IntKind.i64.wrap (3 * r - 2) = 3 * r - 2 := by rw [IntWalk.i64_left]; unfold wrap64; omega
  go_enter Tryd.func43, Tryd.ntmps43
  go_wp2_with fail
  go_ret
  exact ⟨rfl, rfl⟩
/-- What Place gives, its orientation whatever it is. -/
def PlG (i l : Int) (W : World) (e : Ending) (w' : World) : Prop := ∃ o, e = .returned (.tuple #[.int .i64 (lvl i l), o, .bool (decide (okP i l))]) ∧ w' = W
theorem pplace_c (i l : Int) (W : World) : Calls Tryd.prog 25 #[.int .i64 i, .int .i64 l] W (PlG i l W) := by
  have kc := pcount_c l
  by_cases ho : okP i l
  · have hc := ho
    unfold okP cntP at hc
    have hl : ¬ (l < 0 ∨ 5 < l) := fun h => by rw [if_pos h] at hc; omega
    rw [if_neg hl] at hc
    have hcn : cntP l = 3 * l + 1 := by unfold cntP; rw [if_neg hl]
    rw [hcn] at kc
    have hlv : lvl i l = if i = 0 then l else l - (i + 2) / 3 + 1 := by unfold lvl; rw [if_pos ho]
    unfold PlG
    rw [hlv, decide_eq_true ho]
    clear hlv hcn ho
    have t1 : ¬ i < 0 := by omega
    have t2 : ¬ 3 * l + 1 ≤ i := by omega
    by_cases h0 : i = 0
    · subst h0
      rw [if_pos rfl]
      clear hl hc
      go_enter Tryd.func25, Tryd.ntmps25
      go_wp2_with (first | (go_at_call 41; (with_reducible refine (kc _).mono ?_); rintro e wn ⟨rfl, rfl⟩) | fail)
      go_ret3
      exact ⟨_, rfl, rfl⟩
    · rw [if_neg h0]
      have t3 : (i == 0) = false := by simpa using h0
      have kd := fun W => cd_c i 3 W (by omega) (by omega)
      rw [cd3 i (by omega)] at kd
      obtain ⟨r, hr⟩ : ∃ r, r = (i + 2) / 3 := ⟨_, rfl⟩
      rw [← hr] at kd ⊢
      have hrr : 0 ≤ r ∧ r ≤ 100 := by omega
      have kf := fun W => pfirst_c r W hrr
      have w1 : IntKind.i64.wrap (l - r) = l - r := by rw [IntWalk.i64_left]; unfold wrap64; omega
      have w2 : IntKind.i64.wrap (l - r + 1) = l - r + 1 := by rw [IntWalk.i64_left]; unfold wrap64; omega
      clear hl hc h0 hrr hr
      go_enter Tryd.func25, Tryd.ntmps25
      go_wp2_with (first | (go_at_call 41; (with_reducible refine (kc _).mono ?_); rintro e wn ⟨rfl, rfl⟩) | (go_at_call 42; (with_reducible refine (kd _).mono ?_); rintro e wn ⟨rfl, rfl⟩) | (go_at_call 43; (with_reducible refine (kf _).mono ?_); rintro e wn ⟨rfl, rfl⟩) | fail)
      go_ret3
      exact ⟨_, rfl, rfl⟩
  · have hlv : lvl i l = 0 := by unfold lvl; rw [if_neg ho]
    unfold PlG
    rw [hlv, decide_eq_false ho]
    unfold okP at ho
    generalize cntP l = c at *
    by_cases h1 : i < 0
    · clear ho hlv
      go_enter Tryd.func25, Tryd.ntmps25
      go_wp2_with (first | (go_at_call 41; (with_reducible refine (kc _).mono ?_); rintro e wn ⟨rfl, rfl⟩) | fail)
      go_ret3
      exact ⟨_, rfl, rfl⟩
    · have t2 : c ≤ i := by omega
      clear ho hlv
      go_enter Tryd.func25, Tryd.ntmps25
      go_wp2_with (first | (go_at_call 41; (with_reducible refine (kc _).mono ?_); rintro e wn ⟨rfl, rfl⟩) | fail)
      go_ret3
      exact ⟨_, rfl, rfl⟩
theorem zplace_c (i l : Int) (W : World) : Calls Tryd.prog 26 #[.int .i64 i, .int .i64 l] W (PlG i l W) := by
  have kc := zcount_c l
  by_cases ho : okP i l
  · have hc := ho
    unfold okP cntP at hc
    have hl : ¬ (l < 0 ∨ 5 < l) := fun h => by rw [if_pos h] at hc; omega
    rw [if_neg hl] at hc
    have hcn : cntP l = 3 * l + 1 := by unfold cntP; rw [if_neg hl]
    rw [hcn] at kc
    have hlv : lvl i l = if i = 0 then l else l - (i + 2) / 3 + 1 := by unfold lvl; rw [if_pos ho]
    unfold PlG
    rw [hlv, decide_eq_true ho]
    clear hlv hcn ho
    have t1 : ¬ i < 0 := by omega
    have t2 : ¬ 3 * l + 1 ≤ i := by omega
    by_cases h0 : i = 0
    · subst h0
      rw [if_pos rfl]
      clear hl hc
      go_enter Tryd.func26, Tryd.ntmps26
      go_wp2_with (first | (go_at_call 44; (with_reducible refine (kc _).mono ?_); rintro e wn ⟨rfl, rfl⟩) | fail)
      go_ret3
      exact ⟨_, rfl, rfl⟩
    · rw [if_neg h0]
      have t3 : (i == 0) = false := by simpa using h0
      obtain ⟨r, hr⟩ : ∃ r, r = (i + 2) / 3 := ⟨_, rfl⟩
      have w0 : IntKind.i64.wrap (i + 2) = i + 2 := by rw [IntWalk.i64_left]; unfold wrap64; omega
      have e0 : (i + 2).tdiv 3 = r := by rw [hr]; exact Int.tdiv_eq_ediv_of_nonneg (by omega)
      rw [← hr]
      have w4 : IntKind.i64.wrap r = r := by rw [IntWalk.i64_left]; unfold wrap64; omega
      have w1 : IntKind.i64.wrap (l - r) = l - r := by rw [IntWalk.i64_left]; unfold wrap64; omega
      have w2 : IntKind.i64.wrap (l - r + 1) = l - r + 1 := by rw [IntWalk.i64_left]; unfold wrap64; omega
      clear hl hc h0 hr
      go_enter Tryd.func26, Tryd.ntmps26
      go_wp2_with (first | (go_at_call 44; (with_reducible refine (kc _).mono ?_); rintro e wn ⟨rfl, rfl⟩) | fail)
      go_ret3
      exact ⟨_, rfl, rfl⟩
  · have hlv : lvl i l = 0 := by unfold lvl; rw [if_neg ho]
    unfold PlG
    rw [hlv, decide_eq_false ho]
    unfold okP at ho
    generalize cntP l = c at *
    by_cases h1 : i < 0
    · clear ho hlv
      go_enter Tryd.func26, Tryd.ntmps26
      go_wp2_with (first | (go_at_call 44; (with_reducible refine (kc _).mono ?_); rintro e wn ⟨rfl, rfl⟩) | fail)
      go_ret3
      exact ⟨_, rfl, rfl⟩
    · have t2 : c ≤ i := by omega
      clear ho hlv
      go_enter Tryd.func26, Tryd.ntmps26
      go_wp2_with (first | (go_at_call 44; (with_reducible refine (kc _).mono ?_); rintro e wn ⟨rfl, rfl⟩) | fail)
      go_ret3
      exact ⟨_, rfl, rfl⟩
theorem lv6 {n : Int} (h : 0 ≤ n ∧ n ≤ 5) : n = 0 ∨ n = 1 ∨ n = 2 ∨ n = 3 ∨ n = 4 ∨ n = 5 := by omega
theorem dweight_c (l i : Int) (W : World) : Calls Tryd.prog 9 #[.int .i64 l, .int .i64 i] W fun e w' => e = .returned (.int .i64 (wgtI l i)) ∧ w' = W := by
  have kp := pplace_c i l
  have hin := lvl_in i l
  unfold PlG at kp
  unfold wgtI
  have hmx9 := fun x y : Int => hmx x y
  have hmn9 := fun x y : Int => hmn x y
  by_cases ho : okP i l
  · rw [decide_eq_true ho] at kp
    rw [if_pos ho]
    clear ho
    generalize lvl i l = n at *
    rcases lv6 hin with h | h | h | h | h | h <;> subst h <;>
    · clear hin
      go_enter Tryd.func9, Tryd.ntmps9
      go_wp2_with (first | (go_at_call 25; (with_reducible refine (kp _).mono ?_); rintro e wn ⟨o, rfl, rfl⟩) | fail)
      go_ret
      exact ⟨by first | rfl | decide, rfl⟩
  · rw [decide_eq_false ho] at kp
    rw [if_neg ho]
    clear ho hin
    go_enter Tryd.func9, Tryd.ntmps9
    go_wp2_with (first | (go_at_call 25; (with_reducible refine (kp _).mono ?_); rintro e wn ⟨o, rfl, rfl⟩) | fail)
    go_ret
    exact ⟨rfl, rfl⟩
end Go.Proofs.YtnmmgjbjnhiaoaaDoor
