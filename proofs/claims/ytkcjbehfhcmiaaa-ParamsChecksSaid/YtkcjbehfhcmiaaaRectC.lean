/-
  What each call of divisor and Reduce returns and leaves: contracts.
-/
import Derived.Test.YtkcjbehfhcmiaaaRectB
import Derived.StillTailTactics
set_option maxRecDepth 100000
namespace Go.Proofs.Ytkcjbehfhcmiaaa
open Go.RowKit

set_option maxHeartbeats 400000 in
theorem divisor_c (d : Int) (w : World) :
    Calls Try.prog 60 #[.int .i64 d] w fun e w' => e = .returned (.bool (Pl.divB d)) ∧ w = w' := by
  go_enter Try.func60, Try.ntmps60
  go_wp2
  all_goals
    go_ret
    exact ⟨ret_bool (by simp [Pl.divB]; try omega), rfl⟩
theorem cd_cs (a b : Int) (w : World) (h0 : -9223372036854775808 ≤ a) (h1 : a ≤ 9223372036854775807) :
    Calls Try.prog 58 #[.int .i64 a, .int .i64 b] w fun e w' => e = .returned (.int .i64 (Pl.cd a b)) ∧ w' = w := (cd_c a b w h0 h1).mono fun _ _ h => ⟨h.1, h.2.symm⟩
theorem fd_cs (a b : Int) (w : World) (h0 : -9223372036854775808 ≤ a) (h1 : a ≤ 9223372036854775807) :
    Calls Try.prog 57 #[.int .i64 a, .int .i64 b] w fun e w' => e = .returned (.int .i64 (Pl.fd a b)) ∧ w' = w := (fd_c a b w h0 h1).mono fun _ _ h => ⟨h.1, h.2.symm⟩
set_option maxHeartbeats 1000000 in
theorem red_c (a b c d dx dy : Int) (w : World) :
    Calls Try.prog 29 #[.agg #[.int .i64 a, .int .i64 b, .int .i64 c, .int .i64 d], .int .i64 dx, .int .i64 dy] w fun e w' => e = .returned (.agg #[.int .i64 (Pl.redR a b c d dx dy).x0, .int .i64 (Pl.redR a b c d dx dy).y0, .int .i64 (Pl.redR a b c d dx dy).x1, .int .i64 (Pl.redR a b c d dx dy).y1]) ∧ Below w.heap.size w w' := by
  by_cases hv : Pl.validB a b c d = true
  · obtain ⟨v1, v2, v3, v4, v5, v6⟩ := Pl.valid_iff.1 hv
    by_cases h1 : Pl.divB dx = true
    · by_cases h2 : Pl.divB dy = true
      · obtain ⟨x1, x2⟩ := Pl.div_iff.1 h1
        obtain ⟨y1, y2⟩ := Pl.div_iff.1 h2
        go_enter Try.func29, Try.ntmps29
        go_wp2_with fail
        refine (valid_c _ _ _ _ _).mono ?_
        rintro e w1 ⟨rfl, hb⟩
        obtain ⟨hc, hf⟩ := bcell hb
        have hz := hb.size
        simp at hz
        have hw : Below w.heap.size w w1 := bcall (by (repeat (first | exact Below.refl _ _ | (refine Below.drew ?_) | (refine Below.setCell ?_ (by simp <;> omega) _) | (refine Below.alloc ?_ (by simp <;> omega) _)))) hb (by simp <;> omega)
        go_wp2_with (first | (go_at_call 60; refine (divisor_c _ _).mono ?_; rintro e w2 ⟨rfl, rfl⟩))
        have k0 : w1.cell? ⟨w.heap.size, 0, none⟩ = some (.int .i64 a) := (hc _ _ (by simp <;> omega)).trans (by simp)
        have k1 : w1.cell? ⟨w.heap.size, 1, none⟩ = some (.int .i64 b) := (hc _ _ (by simp <;> omega)).trans (by simp)
        have k2 : w1.cell? ⟨w.heap.size, 2, none⟩ = some (.int .i64 c) := (hc _ _ (by simp <;> omega)).trans (by simp)
        have k3 : w1.cell? ⟨w.heap.size, 3, none⟩ = some (.int .i64 d) := (hc _ _ (by simp <;> omega)).trans (by simp)
        refine wp_region_still_tail 17 (by kernel_rfl) (by kernel_rfl) ?_
        simp only [List.take_succ_cons, List.take_zero, List.drop_succ_cons, List.drop_zero]
        repeat (first | still_step | still_call (cd_cs _ _ _ (by omega) (by omega)))
        refine wpStill_nil ?_
        clear k0 k1 k2 k3
        go_wp2
        refine bodyPost_ret (v := .agg #[.int .i64 (Pl.redR a b c d dx dy).x0, .int .i64 (Pl.redR a b c d dx dy).y0, .int .i64 (Pl.redR a b c d dx dy).x1, .int .i64 (Pl.redR a b c d dx dy).y1]) (by simp [results, Try.results29, go_sem, hc, Nat.lt_of_succ_le, Pl.redR, hv, h1, h2]) rfl ⟨rfl, ?_⟩
        (repeat (first | exact hw | (refine Below.drew ?_) | (refine Below.setCell ?_ (by simp <;> omega) _) | (refine Below.alloc ?_ (by simp <;> omega) _)))
      · have h2' : Pl.divB dy = false := by simpa using h2
        go_enter Try.func29, Try.ntmps29
        go_wp2_with fail
        refine (valid_c _ _ _ _ _).mono ?_
        rintro e w1 ⟨rfl, hb⟩
        obtain ⟨hc, hf⟩ := bcell hb
        have hz := hb.size
        simp at hz
        have hw : Below w.heap.size w w1 := bcall (by (repeat (first | exact Below.refl _ _ | (refine Below.drew ?_) | (refine Below.setCell ?_ (by simp <;> omega) _) | (refine Below.alloc ?_ (by simp <;> omega) _)))) hb (by simp <;> omega)
        go_wp2_with (first | (go_at_call 60; refine (divisor_c _ _).mono ?_; rintro e w2 ⟨rfl, rfl⟩))
        all_goals
          refine bodyPost_ret (v := .agg #[.int .i64 0, .int .i64 0, .int .i64 0, .int .i64 0]) (by simp [results, Try.results29, go_sem, hc, Nat.lt_of_succ_le]) rfl ⟨by simp [Pl.redR, hv, h1, h2'], ?_⟩
          (repeat (first | exact hw | (refine Below.drew ?_) | (refine Below.setCell ?_ (by simp <;> omega) _) | (refine Below.alloc ?_ (by simp <;> omega) _)))
    · have h1' : Pl.divB dx = false := by simpa using h1
      go_enter Try.func29, Try.ntmps29
      go_wp2_with fail
      refine (valid_c _ _ _ _ _).mono ?_
      rintro e w1 ⟨rfl, hb⟩
      obtain ⟨hc, hf⟩ := bcell hb
      have hz := hb.size
      simp at hz
      have hw : Below w.heap.size w w1 := bcall (by (repeat (first | exact Below.refl _ _ | (refine Below.drew ?_) | (refine Below.setCell ?_ (by simp <;> omega) _) | (refine Below.alloc ?_ (by simp <;> omega) _)))) hb (by simp <;> omega)
      go_wp2_with (first | (go_at_call 60; refine (divisor_c _ _).mono ?_; rintro e w2 ⟨rfl, rfl⟩))
      all_goals
        refine bodyPost_ret (v := .agg #[.int .i64 0, .int .i64 0, .int .i64 0, .int .i64 0]) (by simp [results, Try.results29, go_sem, hc, Nat.lt_of_succ_le]) rfl ⟨by simp [Pl.redR, hv, h1'], ?_⟩
        (repeat (first | exact hw | (refine Below.drew ?_) | (refine Below.setCell ?_ (by simp <;> omega) _) | (refine Below.alloc ?_ (by simp <;> omega) _)))
  · have hv' : Pl.validB a b c d = false := by simpa using hv
    go_enter Try.func29, Try.ntmps29
    go_wp2_with fail
    refine (valid_c _ _ _ _ _).mono ?_
    rintro e w1 ⟨rfl, hb⟩
    obtain ⟨hc, hf⟩ := bcell hb
    have hz := hb.size
    simp at hz
    have hw : Below w.heap.size w w1 := bcall (by (repeat (first | exact Below.refl _ _ | (refine Below.drew ?_) | (refine Below.setCell ?_ (by simp <;> omega) _) | (refine Below.alloc ?_ (by simp <;> omega) _)))) hb (by simp <;> omega)
    go_wp2
    all_goals
      refine bodyPost_ret (v := .agg #[.int .i64 0, .int .i64 0, .int .i64 0, .int .i64 0]) (by simp [results, Try.results29, go_sem, hc, Nat.lt_of_succ_le]) rfl ⟨by simp [Pl.redR, hv'], ?_⟩
      (repeat (first | exact hw | (refine Below.drew ?_) | (refine Below.setCell ?_ (by simp <;> omega) _) | (refine Below.alloc ?_ (by simp <;> omega) _)))
theorem cd_rs (a b : Int) (w : World) (h0 : -9223372036854775808 ≤ a) (h1 : a ≤ 9223372036854775807) :
    Calls Try.prog 83 #[.int .i64 a, .int .i64 b] w fun e w' => e = .returned (.int .i64 (Pl.cd a b)) ∧ w' = w := (cd_r a b w h0 h1).mono fun _ _ h => ⟨h.1, h.2.symm⟩
theorem fd_rs (a b : Int) (w : World) (h0 : -9223372036854775808 ≤ a) (h1 : a ≤ 9223372036854775807) :
    Calls Try.prog 82 #[.int .i64 a, .int .i64 b] w fun e w' => e = .returned (.int .i64 (Pl.fd a b)) ∧ w' = w := (fd_r a b w h0 h1).mono fun _ _ h => ⟨h.1, h.2.symm⟩
set_option maxHeartbeats 1000000 in
theorem red_r (a b c d dx dy : Int) (w : World) :
    Calls Try.prog 79 #[.agg #[.int .i64 a, .int .i64 b, .int .i64 c, .int .i64 d], .int .i64 dx, .int .i64 dy] w fun e w' => e = .returned (.agg #[.int .i64 (Pl.redR a b c d dx dy).x0, .int .i64 (Pl.redR a b c d dx dy).y0, .int .i64 (Pl.redR a b c d dx dy).x1, .int .i64 (Pl.redR a b c d dx dy).y1]) ∧ Below w.heap.size w w' := by
  by_cases hv : Pl.validB a b c d = true
  · obtain ⟨v1, v2, v3, v4, v5, v6⟩ := Pl.valid_iff.1 hv
    by_cases h1 : Pl.divB dx = true
    · by_cases h2 : Pl.divB dy = true
      · obtain ⟨x1, x2⟩ := Pl.div_iff.1 h1
        obtain ⟨y1, y2⟩ := Pl.div_iff.1 h2
        go_enter Try.func79, Try.ntmps79
        go_wp2_with fail
        refine (valid_r _ _ _ _ _).mono ?_
        rintro e w1 ⟨rfl, hb⟩
        obtain ⟨hc, hf⟩ := bcell hb
        have hz := hb.size
        simp at hz
        have hw : Below w.heap.size w w1 := bcall (by (repeat (first | exact Below.refl _ _ | (refine Below.drew ?_) | (refine Below.setCell ?_ (by simp <;> omega) _) | (refine Below.alloc ?_ (by simp <;> omega) _)))) hb (by simp <;> omega)
        go_wp2_with fail
        have k0 : w1.cell? ⟨w.heap.size, 0, none⟩ = some (.int .i64 a) := (hc _ _ (by simp <;> omega)).trans (by simp)
        have k1 : w1.cell? ⟨w.heap.size, 1, none⟩ = some (.int .i64 b) := (hc _ _ (by simp <;> omega)).trans (by simp)
        have k2 : w1.cell? ⟨w.heap.size, 2, none⟩ = some (.int .i64 c) := (hc _ _ (by simp <;> omega)).trans (by simp)
        have k3 : w1.cell? ⟨w.heap.size, 3, none⟩ = some (.int .i64 d) := (hc _ _ (by simp <;> omega)).trans (by simp)
        refine wp_region_still_tail 17 (by kernel_rfl) (by kernel_rfl) ?_
        simp only [List.take_succ_cons, List.take_zero, List.drop_succ_cons, List.drop_zero]
        repeat (first | still_step | still_call (cd_rs _ _ _ (by omega) (by omega)))
        refine wpStill_nil ?_
        clear k0 k1 k2 k3
        go_wp2
        refine bodyPost_ret (v := .agg #[.int .i64 (Pl.redR a b c d dx dy).x0, .int .i64 (Pl.redR a b c d dx dy).y0, .int .i64 (Pl.redR a b c d dx dy).x1, .int .i64 (Pl.redR a b c d dx dy).y1]) (by simp [results, Try.results79, go_sem, hc, Nat.lt_of_succ_le, Pl.redR, hv, h1, h2]) rfl ⟨rfl, ?_⟩
        (repeat (first | exact hw | (refine Below.drew ?_) | (refine Below.setCell ?_ (by simp <;> omega) _) | (refine Below.alloc ?_ (by simp <;> omega) _)))
      · have h2' : Pl.divB dy = false := by simpa using h2
        obtain ⟨x1, x2⟩ := Pl.div_iff.1 h1
        rcases Pl.div_not.1 h2' with hd | hd
        all_goals
          go_enter Try.func79, Try.ntmps79
          go_wp2_with fail
          refine (valid_r _ _ _ _ _).mono ?_
          rintro e w1 ⟨rfl, hb⟩
          obtain ⟨hc, hf⟩ := bcell hb
          have hz := hb.size
          simp at hz
          have hw : Below w.heap.size w w1 := bcall (by (repeat (first | exact Below.refl _ _ | (refine Below.drew ?_) | (refine Below.setCell ?_ (by simp <;> omega) _) | (refine Below.alloc ?_ (by simp <;> omega) _)))) hb (by simp <;> omega)
          go_wp2
          all_goals
            refine bodyPost_ret (v := .agg #[.int .i64 0, .int .i64 0, .int .i64 0, .int .i64 0]) (by simp [results, Try.results79, go_sem, hc, Nat.lt_of_succ_le]) rfl ⟨by simp [Pl.redR, hv, h1, h2'], ?_⟩
            (repeat (first | exact hw | (refine Below.drew ?_) | (refine Below.setCell ?_ (by simp <;> omega) _) | (refine Below.alloc ?_ (by simp <;> omega) _)))
    · have h1' : Pl.divB dx = false := by simpa using h1
      rcases Pl.div_not.1 h1' with hd | hd
      all_goals
        go_enter Try.func79, Try.ntmps79
        go_wp2_with fail
        refine (valid_r _ _ _ _ _).mono ?_
        rintro e w1 ⟨rfl, hb⟩
        obtain ⟨hc, hf⟩ := bcell hb
        have hz := hb.size
        simp at hz
        have hw : Below w.heap.size w w1 := bcall (by (repeat (first | exact Below.refl _ _ | (refine Below.drew ?_) | (refine Below.setCell ?_ (by simp <;> omega) _) | (refine Below.alloc ?_ (by simp <;> omega) _)))) hb (by simp <;> omega)
        go_wp2
        all_goals
          refine bodyPost_ret (v := .agg #[.int .i64 0, .int .i64 0, .int .i64 0, .int .i64 0]) (by simp [results, Try.results79, go_sem, hc, Nat.lt_of_succ_le]) rfl ⟨by simp [Pl.redR, hv, h1'], ?_⟩
          (repeat (first | exact hw | (refine Below.drew ?_) | (refine Below.setCell ?_ (by simp <;> omega) _) | (refine Below.alloc ?_ (by simp <;> omega) _)))
  · have hv' : Pl.validB a b c d = false := by simpa using hv
    go_enter Try.func79, Try.ntmps79
    go_wp2_with fail
    refine (valid_r _ _ _ _ _).mono ?_
    rintro e w1 ⟨rfl, hb⟩
    obtain ⟨hc, hf⟩ := bcell hb
    have hz := hb.size
    simp at hz
    have hw : Below w.heap.size w w1 := bcall (by (repeat (first | exact Below.refl _ _ | (refine Below.drew ?_) | (refine Below.setCell ?_ (by simp <;> omega) _) | (refine Below.alloc ?_ (by simp <;> omega) _)))) hb (by simp <;> omega)
    go_wp2
    all_goals
      refine bodyPost_ret (v := .agg #[.int .i64 0, .int .i64 0, .int .i64 0, .int .i64 0]) (by simp [results, Try.results79, go_sem, hc, Nat.lt_of_succ_le]) rfl ⟨by simp [Pl.redR, hv'], ?_⟩
      (repeat (first | exact hw | (refine Below.drew ?_) | (refine Below.setCell ?_ (by simp <;> omega) _) | (refine Below.alloc ?_ (by simp <;> omega) _)))
end Go.Proofs.Ytkcjbehfhcmiaaa
