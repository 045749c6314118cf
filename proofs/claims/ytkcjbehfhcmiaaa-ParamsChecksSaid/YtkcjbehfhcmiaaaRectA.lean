/-
  What each call of the small functions of layer 1 returns and leaves: contracts, callees first.
-/
import Derived.Test.YtkcjbehfhcmiaaaRows
import Derived.Test.YtkcjbehfhcmiaaaPlain
import Derived.WalkKit
import Derived.WalkSpells
import Derived.WalkLawsBesides
import Derived.Deep.QuietTactic
import Derived.BigQuiet
set_option maxRecDepth 100000
namespace Go.Proofs.Ytkcjbehfhcmiaaa
open Go.RowKit

theorem bcell {W w1 : World} (hb : Below W.heap.size W w1) : (∀ b o, b < W.heap.size → w1.cell? ⟨b, o, none⟩ = W.cell? ⟨b, o, none⟩) ∧ (∀ b o, b < W.heap.size → w1.frozen? ⟨b, o, none⟩ = W.frozen? ⟨b, o, none⟩) :=
  ⟨fun b o h => hb.cell (p := ⟨b, o, none⟩) h, fun b o h => hb.frozen (p := ⟨b, o, none⟩) h⟩

theorem ret_bool {p q : Bool} (h : p = true ↔ q = true) : Ending.returned (.bool p) = .returned (.bool q) := by rw [Bool.eq_iff_iff.2 h]
theorem ret_int {a b : Int} (h : a = b) : Ending.returned (.int .i64 a) = .returned (.int .i64 b) := by rw [h]

set_option maxHeartbeats 400000 in
theorem empty_c (a b c d : Int) (w : World) :
    Calls Try.prog 26 #[.agg #[.int .i64 a, .int .i64 b, .int .i64 c, .int .i64 d]] w fun e w' => e = .returned (.bool (Pl.emptyB a b c d)) ∧ Below w.heap.size w w' := by
  go_enter Try.func26, Try.ntmps26
  go_wp2
  all_goals
    go_ret
    exact ⟨ret_bool (by simp [Pl.emptyB]; try omega), (Below.refl _ _).alloc (Nat.le_refl _) _⟩
set_option maxHeartbeats 400000 in
theorem valid_c (a b c d : Int) (w : World) :
    Calls Try.prog 56 #[.agg #[.int .i64 a, .int .i64 b, .int .i64 c, .int .i64 d]] w fun e w' => e = .returned (.bool (Pl.validB a b c d)) ∧ Below w.heap.size w w' := by
  go_enter Try.func56, Try.ntmps56
  go_wp2
  all_goals
    go_ret
    exact ⟨ret_bool (by simp [Pl.validB]; try omega), (Below.refl _ _).alloc (Nat.le_refl _) _⟩
set_option maxHeartbeats 400000 in
theorem cd_c (a b : Int) (w : World) (h0 : -9223372036854775808 ≤ a) (h1 : a ≤ 9223372036854775807) :
    Calls Try.prog 58 #[.int .i64 a, .int .i64 b] w fun e w' => e = .returned (.int .i64 (Pl.cd a b)) ∧ w = w' := by
  go_enter Try.func58, Try.ntmps58
  by_cases hb : b < 1
  · go_wp2
    go_ret
    exact ⟨ret_int (by simp [Pl.cd, hb]), rfl⟩
  · by_cases hm : 0 < a.tmod b
    · have H : Hid _ := Pl.cd_wrap (by omega) h0 h1 hm
      go_wp2
      go_ret
      exact ⟨ret_int (by rw [Pl.cd, if_neg (Int.not_lt.2 hb), if_pos hm]; exact H.out), rfl⟩
    · go_wp2
      go_ret
      exact ⟨ret_int (by rw [Pl.cd, if_neg (Int.not_lt.2 hb), if_neg (Int.not_lt.2 hm)]), rfl⟩
set_option maxHeartbeats 400000 in
theorem fd_c (a b : Int) (w : World) (h0 : -9223372036854775808 ≤ a) (h1 : a ≤ 9223372036854775807) :
    Calls Try.prog 57 #[.int .i64 a, .int .i64 b] w fun e w' => e = .returned (.int .i64 (Pl.fd a b)) ∧ w = w' := by
  go_enter Try.func57, Try.ntmps57
  by_cases hb : b < 1
  · go_wp2
    go_ret
    exact ⟨ret_int (by simp [Pl.fd, hb]), rfl⟩
  · by_cases hm : a.tmod b < 0
    · have H : Hid _ := Pl.fd_wrap (by omega) h0 h1 hm
      go_wp2
      go_ret
      exact ⟨ret_int (by rw [Pl.fd, if_neg (Int.not_lt.2 hb), if_pos hm]; exact H.out), rfl⟩
    · go_wp2
      go_ret
      exact ⟨ret_int (by rw [Pl.fd, if_neg (Int.not_lt.2 hb), if_neg (Int.not_lt.2 hm)]), rfl⟩
set_option maxHeartbeats 400000 in
theorem area_c (a b c d : Int) (w : World) :
    Calls Try.prog 28 #[.agg #[.int .i64 a, .int .i64 b, .int .i64 c, .int .i64 d]] w fun e w' => e = .returned (.int .i64 (Pl.areaI a b c d)) ∧ Below w.heap.size w w' := by
  go_enter Try.func28, Try.ntmps28
  by_cases hv : Pl.validB a b c d = true
  · have H : Hid _ := Pl.area_wrap hv
    obtain ⟨v1, v2, v3, v4, v5, v6⟩ := Pl.valid_iff.1 hv
    go_wp2_with fail
    refine (valid_c _ _ _ _ _).mono ?_
    rintro e w1 ⟨rfl, hb⟩
    obtain ⟨hc, hf⟩ := bcell hb
    go_wp2
    go_ret
    exact ⟨ret_int H.out, ((Below.refl _ _).alloc (Nat.le_refl _) _).trans (hb.mono (by simp))⟩
  · have hv' : Pl.validB a b c d = false := by simpa using hv
    go_wp2_with fail
    refine (valid_c _ _ _ _ _).mono ?_
    rintro e w1 ⟨rfl, hb⟩
    go_wp2
    go_ret
    exact ⟨ret_int (by simp [Pl.areaI, hv']), ((Below.refl _ _).alloc (Nat.le_refl _) _).trans (hb.mono (by simp))⟩
set_option maxHeartbeats 400000 in
theorem empty_r (a b c d : Int) (w : World) :
    Calls Try.prog 78 #[.agg #[.int .i64 a, .int .i64 b, .int .i64 c, .int .i64 d]] w fun e w' => e = .returned (.bool (Pl.emptyB a b c d)) ∧ Below w.heap.size w w' := by
  go_enter Try.func78, Try.ntmps78
  go_wp2
  all_goals
    go_ret
    exact ⟨ret_bool (by simp [Pl.emptyB]; try omega), (Below.refl _ _).alloc (Nat.le_refl _) _⟩
set_option maxHeartbeats 400000 in
theorem valid_r (a b c d : Int) (w : World) :
    Calls Try.prog 77 #[.agg #[.int .i64 a, .int .i64 b, .int .i64 c, .int .i64 d]] w fun e w' => e = .returned (.bool (Pl.validB a b c d)) ∧ Below w.heap.size w w' := by
  go_enter Try.func77, Try.ntmps77
  go_wp2
  all_goals
    go_ret
    exact ⟨ret_bool (by simp [Pl.validB]; try omega), (Below.refl _ _).alloc (Nat.le_refl _) _⟩
set_option maxHeartbeats 400000 in
theorem cd_r (a b : Int) (w : World) (h0 : -9223372036854775808 ≤ a) (h1 : a ≤ 9223372036854775807) :
    Calls Try.prog 83 #[.int .i64 a, .int .i64 b] w fun e w' => e = .returned (.int .i64 (Pl.cd a b)) ∧ w = w' := by
  go_enter Try.func83, Try.ntmps83
  by_cases hb : b < 1
  · go_wp2
    go_ret
    exact ⟨ret_int (by simp [Pl.cd, hb]), rfl⟩
  · by_cases hm : 0 < a.tmod b
    · have H : Hid _ := Pl.cd_wrap (by omega) h0 h1 hm
      go_wp2
      go_ret
      exact ⟨ret_int (by rw [Pl.cd, if_neg (Int.not_lt.2 hb), if_pos hm]; exact H.out), rfl⟩
    · go_wp2
      go_ret
      exact ⟨ret_int (by rw [Pl.cd, if_neg (Int.not_lt.2 hb), if_neg (Int.not_lt.2 hm)]), rfl⟩
set_option maxHeartbeats 400000 in
theorem fd_r (a b : Int) (w : World) (h0 : -9223372036854775808 ≤ a) (h1 : a ≤ 9223372036854775807) :
    Calls Try.prog 82 #[.int .i64 a, .int .i64 b] w fun e w' => e = .returned (.int .i64 (Pl.fd a b)) ∧ w = w' := by
  go_enter Try.func82, Try.ntmps82
  by_cases hb : b < 1
  · go_wp2
    go_ret
    exact ⟨ret_int (by simp [Pl.fd, hb]), rfl⟩
  · by_cases hm : a.tmod b < 0
    · have H : Hid _ := Pl.fd_wrap (by omega) h0 h1 hm
      go_wp2
      go_ret
      exact ⟨ret_int (by rw [Pl.fd, if_neg (Int.not_lt.2 hb), if_pos hm]; exact H.out), rfl⟩
    · go_wp2
      go_ret
      exact ⟨ret_int (by rw [Pl.fd, if_neg (Int.not_lt.2 hb), if_neg (Int.not_lt.2 hm)]), rfl⟩
set_option maxHeartbeats 400000 in
theorem area_r (a b c d : Int) (w : World) :
    Calls Try.prog 81 #[.agg #[.int .i64 a, .int .i64 b, .int .i64 c, .int .i64 d]] w fun e w' => e = .returned (.int .i64 (Pl.areaI a b c d)) ∧ Below w.heap.size w w' := by
  go_enter Try.func81, Try.ntmps81
  by_cases hv : Pl.validB a b c d = true
  · have H : Hid _ := Pl.area_wrap hv
    obtain ⟨v1, v2, v3, v4, v5, v6⟩ := Pl.valid_iff.1 hv
    go_wp2_with fail
    refine (valid_r _ _ _ _ _).mono ?_
    rintro e w1 ⟨rfl, hb⟩
    obtain ⟨hc, hf⟩ := bcell hb
    go_wp2
    go_ret
    exact ⟨ret_int H.out, ((Below.refl _ _).alloc (Nat.le_refl _) _).trans (hb.mono (by simp))⟩
  · have hv' : Pl.validB a b c d = false := by simpa using hv
    go_wp2_with fail
    refine (valid_r _ _ _ _ _).mono ?_
    rintro e w1 ⟨rfl, hb⟩
    go_wp2
    go_ret
    exact ⟨ret_int (by simp [Pl.areaI, hv']), ((Below.refl _ _).alloc (Nat.le_refl _) _).trans (hb.mono (by simp))⟩
end Go.Proofs.Ytkcjbehfhcmiaaa
