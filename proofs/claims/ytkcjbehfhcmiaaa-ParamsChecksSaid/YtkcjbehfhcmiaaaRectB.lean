/-
  What each call of Intersect, Contains, join and Reduce returns and leaves: contracts.
-/
import Derived.Test.YtkcjbehfhcmiaaaRectA
import Derived.Deep.RegionHeld3
set_option maxRecDepth 100000
namespace Go.Proofs.Ytkcjbehfhcmiaaa
open Go.RowKit

theorem hmx (x y : Int) : (if x < y then y else x) = max x y := by split <;> omega
theorem hmn (x y : Int) : (if y < x then y else x) = min x y := by split <;> omega
theorem bcall {B : Nat} {a W w1 : World} (h : Below B a W) (hb : Below W.heap.size W w1) (hB : B ≤ W.heap.size) : Below B a w1 := h.trans (hb.mono hB)

theorem fieldsR : (Try.prog.fieldsOf 23).toList = [⟨"X0", 3, 0, false, "", "", 0⟩, ⟨"Y0", 3, 1, false, "", "", 8⟩, ⟨"X1", 3, 2, false, "", "", 16⟩, ⟨"Y1", 3, 3, false, "", "", 24⟩] := by kernel_rfl
theorem eqR (a b c d a' b' c' d' : Int) (w : World) : (Op.equalIn 10000 23 (.agg #[.int .i64 a, .int .i64 b, .int .i64 c, .int .i64 d]) (.agg #[.int .i64 a', .int .i64 b', .int .i64 c', .int .i64 d'])).run Try.prog w = .ok (Pl.eqB a b c d a' b' c' d') w := by
  have hu : Try.prog.underlying 23 = some (.struct (Try.prog.fieldsOf 23)) := by kernel_rfl
  have hp : Try.prog.stoodInHeld 23 = false := by kernel_rfl
  have h3 : Try.prog.underlying 3 = some (.int .i64) := by kernel_rfl
  have he := fun (x y : Int) => run_equalIn_int (P := Try.prog) w 9998 3 .i64 .i64 x y h3
  rw [run_equalIn_struct _ _ _ _ _ hu hp, fieldsR]
  simp only [Op.eqFields, part]
  simp [he, Pl.eqB]
  repeat' split
  all_goals simp_all

set_option maxHeartbeats 400000 in
theorem isec_c (a b c d a' b' c' d' : Int) (w : World) :
    Calls Try.prog 59 #[.agg #[.int .i64 a, .int .i64 b, .int .i64 c, .int .i64 d], .agg #[.int .i64 a', .int .i64 b', .int .i64 c', .int .i64 d']] w fun e w' => e = .returned (.agg #[.int .i64 (Pl.isec a b c d a' b' c' d').x0, .int .i64 (Pl.isec a b c d a' b' c' d').y0, .int .i64 (Pl.isec a b c d a' b' c' d').x1, .int .i64 (Pl.isec a b c d a' b' c' d').y1]) ∧ Below w.heap.size w w' := by
  have hmx := hmx
  have hmn := hmn
  go_enter Try.func59, Try.ntmps59
  go_wp2_with fail
  refine (empty_c _ _ _ _ _).mono ?_
  rintro e w1 ⟨rfl, hb⟩
  obtain ⟨hc, hf⟩ := bcell hb
  have hz := hb.size
  simp at hz
  have hw : Below w.heap.size w w1 := bcall (by (repeat (first | exact Below.refl _ _ | (refine Below.setCell ?_ (by simp <;> omega) _) | (refine Below.alloc ?_ (by simp <;> omega) _)))) hb (by simp <;> omega)
  by_cases he : Pl.emptyB (max a a') (max b b') (min c c') (min d d') = true
  · go_wp2
    refine bodyPost_ret (v := .agg #[.int .i64 0, .int .i64 0, .int .i64 0, .int .i64 0]) (by simp [results, Try.results59, go_sem, hc, Nat.lt_of_succ_le]) rfl ⟨by simp [Pl.isec, he], ?_⟩
    (repeat (first | exact hw | (refine Below.setCell ?_ (by simp <;> omega) _) | (refine Below.alloc ?_ (by simp <;> omega) _)))
  · have he' : Pl.emptyB (max a a') (max b b') (min c c') (min d d') = false := by simpa using he
    go_wp2
    refine bodyPost_ret (v := .agg #[.int .i64 (max a a'), .int .i64 (max b b'), .int .i64 (min c c'), .int .i64 (min d d')]) (by simp [results, Try.results59, go_sem, hc, Nat.lt_of_succ_le]) rfl ⟨by simp [Pl.isec, he'], ?_⟩
    (repeat (first | exact hw | (refine Below.setCell ?_ (by simp <;> omega) _) | (refine Below.alloc ?_ (by simp <;> omega) _)))
set_option maxHeartbeats 400000 in
theorem isec_r (a b c d a' b' c' d' : Int) (w : World) :
    Calls Try.prog 84 #[.agg #[.int .i64 a, .int .i64 b, .int .i64 c, .int .i64 d], .agg #[.int .i64 a', .int .i64 b', .int .i64 c', .int .i64 d']] w fun e w' => e = .returned (.agg #[.int .i64 (Pl.isec a b c d a' b' c' d').x0, .int .i64 (Pl.isec a b c d a' b' c' d').y0, .int .i64 (Pl.isec a b c d a' b' c' d').x1, .int .i64 (Pl.isec a b c d a' b' c' d').y1]) ∧ Below w.heap.size w w' := by
  have hmx := hmx
  have hmn := hmn
  go_enter Try.func84, Try.ntmps84
  go_wp2_with fail
  refine (empty_r _ _ _ _ _).mono ?_
  rintro e w1 ⟨rfl, hb⟩
  obtain ⟨hc, hf⟩ := bcell hb
  have hz := hb.size
  simp at hz
  have hw : Below w.heap.size w w1 := bcall (by (repeat (first | exact Below.refl _ _ | (refine Below.setCell ?_ (by simp <;> omega) _) | (refine Below.alloc ?_ (by simp <;> omega) _)))) hb (by simp <;> omega)
  by_cases he : Pl.emptyB (max a a') (max b b') (min c c') (min d d') = true
  · go_wp2
    refine bodyPost_ret (v := .agg #[.int .i64 0, .int .i64 0, .int .i64 0, .int .i64 0]) (by simp [results, Try.results84, go_sem, hc, Nat.lt_of_succ_le]) rfl ⟨by simp [Pl.isec, he], ?_⟩
    (repeat (first | exact hw | (refine Below.setCell ?_ (by simp <;> omega) _) | (refine Below.alloc ?_ (by simp <;> omega) _)))
  · have he' : Pl.emptyB (max a a') (max b b') (min c c') (min d d') = false := by simpa using he
    go_wp2
    refine bodyPost_ret (v := .agg #[.int .i64 (max a a'), .int .i64 (max b b'), .int .i64 (min c c'), .int .i64 (min d d')]) (by simp [results, Try.results84, go_sem, hc, Nat.lt_of_succ_le]) rfl ⟨by simp [Pl.isec, he'], ?_⟩
    (repeat (first | exact hw | (refine Below.setCell ?_ (by simp <;> omega) _) | (refine Below.alloc ?_ (by simp <;> omega) _)))
theorem two_call {w W w1 : World} {x0 x1 x2 x3 y0 y1 y2 y3 : Value} (h : W.cell? ⟨w.heap.size, 0, none⟩ = some (x0) ∧ W.cell? ⟨w.heap.size, 1, none⟩ = some (x1) ∧ W.cell? ⟨w.heap.size, 2, none⟩ = some (x2) ∧ W.cell? ⟨w.heap.size, 3, none⟩ = some (x3) ∧ W.cell? ⟨w.heap.size + 1, 0, none⟩ = some (y0) ∧ W.cell? ⟨w.heap.size + 1, 1, none⟩ = some (y1) ∧ W.cell? ⟨w.heap.size + 1, 2, none⟩ = some (y2) ∧ W.cell? ⟨w.heap.size + 1, 3, none⟩ = some (y3) ∧ Below w.heap.size w W ∧ w.heap.size + 1 < W.heap.size) (hb : Below W.heap.size W w1) :
    w1.cell? ⟨w.heap.size, 0, none⟩ = some (x0) ∧ w1.cell? ⟨w.heap.size, 1, none⟩ = some (x1) ∧ w1.cell? ⟨w.heap.size, 2, none⟩ = some (x2) ∧ w1.cell? ⟨w.heap.size, 3, none⟩ = some (x3) ∧ w1.cell? ⟨w.heap.size + 1, 0, none⟩ = some (y0) ∧ w1.cell? ⟨w.heap.size + 1, 1, none⟩ = some (y1) ∧ w1.cell? ⟨w.heap.size + 1, 2, none⟩ = some (y2) ∧ w1.cell? ⟨w.heap.size + 1, 3, none⟩ = some (y3) ∧ Below w.heap.size w w1 ∧ w.heap.size + 1 < w1.heap.size := by
  obtain ⟨h0, h1, h2, h3, h4, h5, h6, h7, hB, hz⟩ := h
  obtain ⟨hc, hf⟩ := bcell hb
  have hs := hb.size
  refine ⟨(hc _ _ (by omega)).trans h0, (hc _ _ (by omega)).trans h1, (hc _ _ (by omega)).trans h2, (hc _ _ (by omega)).trans h3, (hc _ _ (by omega)).trans h4, (hc _ _ (by omega)).trans h5, (hc _ _ (by omega)).trans h6, (hc _ _ (by omega)).trans h7, bcall hB hb (by omega), by omega⟩
set_option maxHeartbeats 400000 in
theorem cont_c (a b c d a' b' c' d' : Int) (w : World) :
    Calls Try.prog 27 #[.agg #[.int .i64 a, .int .i64 b, .int .i64 c, .int .i64 d], .agg #[.int .i64 a', .int .i64 b', .int .i64 c', .int .i64 d']] w fun e w' => e = .returned (.bool (Pl.contB a b c d a' b' c' d')) ∧ Below w.heap.size w w' := by
  by_cases he : Pl.emptyB a' b' c' d' = true
  · go_enter Try.func27, Try.ntmps27
    go_wp2_with fail
    go_region_with (first | (go_at_call 26; refine (empty_c _ _ _ _ _).mono ?_; rintro e w1 ⟨rfl, hb⟩))
    all_goals
      go_wp2
      go_ret
      exact ⟨ret_bool (by simp [Pl.contB, he]), bcall (by (repeat (first | exact Below.refl _ _ | (refine Below.drew ?_) | (refine Below.setCell ?_ (by simp <;> omega) _) | (refine Below.alloc ?_ (by simp <;> omega) _)))) hb (by simp <;> omega)⟩
  · have he' : Pl.emptyB a' b' c' d' = false := by simpa using he
    have heq := eqR
    go_enter Try.func27, Try.ntmps27
    go_wp2_with fail
    go_region_held3 (fun w' => w'.cell? ⟨w.heap.size, 0, none⟩ = some (.int .i64 a) ∧ w'.cell? ⟨w.heap.size, 1, none⟩ = some (.int .i64 b) ∧ w'.cell? ⟨w.heap.size, 2, none⟩ = some (.int .i64 c) ∧ w'.cell? ⟨w.heap.size, 3, none⟩ = some (.int .i64 d) ∧ w'.cell? ⟨w.heap.size + 1, 0, none⟩ = some (.int .i64 a') ∧ w'.cell? ⟨w.heap.size + 1, 1, none⟩ = some (.int .i64 b') ∧ w'.cell? ⟨w.heap.size + 1, 2, none⟩ = some (.int .i64 c') ∧ w'.cell? ⟨w.heap.size + 1, 3, none⟩ = some (.int .i64 d') ∧ Below w.heap.size w w' ∧ w.heap.size + 1 < w'.heap.size)
      (first | assumption | (refine ⟨?_, ?_, ?_, ?_, ?_, ?_, ?_, ?_, ?_, ?_⟩ <;> first | (simp; done) | (repeat (first | exact Below.refl _ _ | (refine Below.drew ?_) | (refine Below.setCell ?_ (by simp <;> omega) _) | (refine Below.alloc ?_ (by simp <;> omega) _)))))
      (first
      | (go_at_call 26; refine (empty_c _ _ _ _ _).mono ?_; rintro e w1 ⟨rfl, hb⟩; have hS1 := two_call (by assumption) hb)
      | (go_at_call 59; refine (isec_c _ _ _ _ _ _ _ _ _).mono ?_; rintro e w2 ⟨rfl, hb2⟩; have hS2 := two_call (by assumption) hb2))
    have hS := (by assumption : w2.cell? ⟨w.heap.size, 0, none⟩ = some (.int .i64 a) ∧ w2.cell? ⟨w.heap.size, 1, none⟩ = some (.int .i64 b) ∧ w2.cell? ⟨w.heap.size, 2, none⟩ = some (.int .i64 c) ∧ w2.cell? ⟨w.heap.size, 3, none⟩ = some (.int .i64 d) ∧ w2.cell? ⟨w.heap.size + 1, 0, none⟩ = some (.int .i64 a') ∧ w2.cell? ⟨w.heap.size + 1, 1, none⟩ = some (.int .i64 b') ∧ w2.cell? ⟨w.heap.size + 1, 2, none⟩ = some (.int .i64 c') ∧ w2.cell? ⟨w.heap.size + 1, 3, none⟩ = some (.int .i64 d') ∧ Below w.heap.size w w2 ∧ w.heap.size + 1 < w2.heap.size)
    go_wp2
    go_ret
    exact ⟨ret_bool (Pl.cont_eq he'), hS.2.2.2.2.2.2.2.2.1⟩
end Go.Proofs.Ytkcjbehfhcmiaaa
