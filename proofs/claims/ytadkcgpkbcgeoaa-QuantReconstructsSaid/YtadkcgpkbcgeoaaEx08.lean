/-
  The examples of the chapter of layer 8 hold.
-/
import Derived.Test.YtadkcgpkbcgeoaaQap
import Derived.Test.YtadkcgpkbcgeoaaEx02
set_option maxRecDepth 100000
namespace Go.Proofs.Ytadkcgpkbcgeoaa
open Go.RowKit

theorem e8t1 (w : World) : Calls Try.prog 45 #[.int .i64 8, .int .i64 32] w fun e w' => e = .returned (.int .i64 16) ∧ w' = w := by
  have h := thr_q 8 32 w
  rw [show Qu.thr 8 32 = 16 by decide] at h
  exact h
theorem e8t2 (w : World) : Calls Try.prog 45 #[.int .i64 1, .int .i64 8] w fun e w' => e = .returned (.int .i64 1) ∧ w' = w := by
  have h := thr_q 1 8 w
  rw [show Qu.thr 1 8 = 1 by decide] at h
  exact h
theorem e8t3 (w : World) : Calls Try.prog 45 #[.int .i64 1, .int .i64 7] w fun e w' => e = .returned (.int .i64 0) ∧ w' = w := by
  have h := thr_q 1 7 w
  rw [show Qu.thr 1 7 = 0 by decide] at h
  exact h
theorem e8i1 (w : World) : Calls Try.prog 50 #[.int .i64 2, .int .i64 0, .int .i64 8, .int .i64 16] w fun e w' => e = .returned (.tuple #[.int .i64 16, .int .i64 23]) ∧ w' = w := by
  have h := iv_q 2 0 8 16 w (by decide) (by decide)
  rw [show Qu.ivL 2 0 8 16 = 16 by decide, show Qu.ivH 2 0 8 16 = 23 by decide] at h
  exact h
theorem e8i2 (w : World) : Calls Try.prog 50 #[.int .i64 0, .int .i64 3, .int .i64 1, .int .i64 16] w fun e w' => e = .returned (.tuple #[.int .i64 (-7), .int .i64 7]) ∧ w' = w := by
  have h := iv_q 0 3 1 16 w (by decide) (by decide)
  rw [show Qu.ivL 0 3 1 16 = (-7) by decide, show Qu.ivH 0 3 1 16 = 7 by decide] at h
  exact h
theorem e8i3 (w : World) : Calls Try.prog 50 #[.int .i64 (-4), .int .i64 1, .int .i64 1, .int .i64 16] w fun e w' => e = .returned (.tuple #[.int .i64 (-5), .int .i64 (-4)]) ∧ w' = w := by
  have h := iv_q (-4) 1 1 16 w (by decide) (by decide)
  rw [show Qu.ivL (-4) 1 1 16 = (-5) by decide, show Qu.ivH (-4) 1 1 16 = (-4) by decide] at h
  exact h
theorem e8r1 (w : World) : Calls Try.prog 52 #[.int .i64 (-2), .int .i64 0, .int .i64 8, .int .i64 16] w fun e w' => e = .returned (.int .i64 (-19)) ∧ w' = w := by
  have h := rec_q (-2) 0 8 16 w (by decide) (by decide)
  rw [show Qu.rec_ (-2) 0 8 16 = (-19) by decide] at h
  exact h
theorem e8r2 (w : World) : Calls Try.prog 52 #[.int .i64 4, .int .i64 1, .int .i64 1, .int .i64 16] w fun e w' => e = .returned (.int .i64 4) ∧ w' = w := by
  have h := rec_q 4 1 1 16 w (by decide) (by decide)
  rw [show Qu.rec_ 4 1 1 16 = 4 by decide] at h
  exact h
theorem e8u1 (w : World) : Calls Try.prog 56 #[.int .i64 (-40), .int .i64 2, .int .i64 3] w fun e w' => e = .returned (.tuple #[.int .i64 (-5), .int .i64 0]) ∧ w' = w := by
  have h := un_q (-40) 2 3 w (by decide) (by decide)
  rw [show Qu.unV (-40) 2 3 = (-5) by decide, show Qu.unM (-40) 2 3 = 0 by decide] at h
  exact h
theorem e8u2 (w : World) : Calls Try.prog 56 #[.int .i64 6, .int .i64 5, .int .i64 3] w fun e w' => e = .returned (.tuple #[.int .i64 6, .int .i64 3]) ∧ w' = w := by
  have h := un_q 6 5 3 w (by decide) (by decide)
  rw [show Qu.unV 6 5 3 = 6 by decide, show Qu.unM 6 5 3 = 3 by decide] at h
  exact h
theorem e8p1 (w : World) : Calls Try.prog 54 #[.int .i64 255, .int .i64 1, .int .i64 16] w fun e w' => e = .returned (.int .i64 8) ∧ w' = w := by
  have h := pl_q 255 1 16 w (by decide)
  rw [show plN 255 1 16 = 8 by decide] at h
  exact h
theorem e8p2 (w : World) : Calls Try.prog 54 #[.int .i64 7, .int .i64 8, .int .i64 16] w fun e w' => e = .returned (.int .i64 0) ∧ w' = w := by
  have h := pl_q 7 8 16 w (by decide)
  rw [show plN 7 8 16 = 0 by decide] at h
  exact h
theorem e8v (w : World) : Calls Try.prog 43 #[.int .i64 65536, .int .i64 32] w fun e w' => e = .returned (.bool true) ∧ w' = w := by
  have h := vd_q 65536 32 w
  rw [show Qu.vB 65536 32 = true by decide] at h
  exact h
theorem e8a1 (s : Option Addr) (w : World) (hH : HoldsI w s [7, 8, 15, 16, -20]) :
    Calls Try.prog 58 #[.agg #[.int .i64 0, .int .i64 0, .int .i64 5, .int .i64 1, .slice s 5 5], .int .i64 8, .int .i64 16] w fun e w' => ∃ t n, e = .returned (.tuple #[.agg #[.int .i64 0, .int .i64 0, .int .i64 5, .int .i64 1, .slice t 5 n], .int .i64 0]) ∧ HoldsI w' t [0, 1, 1, 2, -2] ∧ Below w.heap.size w w' := by
  have h := qa_yes 0 0 5 1 8 16 s 5 [7, 8, 15, 16, -20] w (by decide) (by decide) (by intro v hv; simp at hv; unfold InI; omega) hH
  rw [show qL 8 16 [7, 8, 15, 16, -20] = [0, 1, 1, 2, -2] by decide] at h
  exact h.mono (by rintro e w' ⟨t, n, rfl, h1, h2, h3⟩; exact ⟨t, n, rfl, h1, h2⟩)
theorem e8a2 (s : Option Addr) (w : World) :
    Calls Try.prog 58 #[.agg #[.int .i64 0, .int .i64 0, .int .i64 5, .int .i64 1, .slice s 5 5], .int .i64 0, .int .i64 16] w fun e w' => ∃ t n, e = .returned (.tuple #[.agg #[.int .i64 0, .int .i64 0, .int .i64 0, .int .i64 0, .slice t 0 n], .int .i64 2]) ∧ Below w.heap.size w w' := by
  have h := qa_no2 0 0 5 1 0 16 s 5 [7, 8, 15, 16, -20] w (by decide) (by decide)
  exact h.mono (by rintro e w' ⟨t, n, rfl, h1, h2, h3⟩; exact ⟨t, n, rfl, h2⟩)
set_option maxRecDepth 100000 in
set_option maxHeartbeats 4000000 in
theorem example08_c (w : World) : Calls Try.prog 49 #[] w fun e w' => e = .returned (.bool true) ∧ Below w.heap.size w w' := by
  go_enter Try.func49, Try.ntmps49
  go_wp2_with fail
  have lp := (holds_new w w.heap.size rfl [7, 8, 15, 16, -20] _ rfl).alloc (.cells #[.int .i64 0, .int .i64 0, .int .i64 5, .int .i64 1, .slice (some ⟨w.heap.size, 0, none⟩) 5 5] 40)
  have p := QBox.freshAt (w.alloc (.cells #[.int .i64 7, .int .i64 8, .int .i64 15, .int .i64 16, .int .i64 (-20)] 3)) (w.heap.size + 1) (by simp) 0 0 5 1 (some ⟨w.heap.size, 0, none⟩) 5 5 40
  have B := below_alloc (below_alloc (Below.refl _ w) (.cells #[.int .i64 7, .int .i64 8, .int .i64 15, .int .i64 16, .int .i64 (-20)] 3)) (.cells #[.int .i64 0, .int .i64 0, .int .i64 5, .int .i64 1, .slice (some ⟨w.heap.size, 0, none⟩) 5 5] 40)
  refine (e8a1 _ _ lp).mono ?_
  rintro e w1 ⟨t, n, rfl, lt, hb⟩
  replace p := p.below hb
  replace B := below_call B hb
  clear hb lp
  replace lt := lt.alloc (.cells #[.int .i64 0, .int .i64 0, .int .i64 5, .int .i64 1, .slice t 5 n] 40)
  replace p := p.alloc (.cells #[.int .i64 0, .int .i64 0, .int .i64 5, .int .i64 1, .slice t 5 n] 40)
  replace B := below_alloc B (.cells #[.int .i64 0, .int .i64 0, .int .i64 5, .int .i64 1, .slice t 5 n] 40)
  have q := QBox.fresh w1 0 0 5 1 t 5 n 40
  obtain ⟨q0, q1, q2, q3, q4⟩ := q.open
  go_wp2_with fail
  clear q0 q1 q2 q3 q4 q
  have nl := holds_new (w1.alloc (.cells #[.int .i64 0, .int .i64 0, .int .i64 5, .int .i64 1, .slice t 5 n] 40)) (w1.heap.size + 1) (by simp) [0, 1, 1, 2, -2] _ rfl
  refine (ints_t [0, 1, 1, 2, -2] 5 rfl (by decide) _ _ _ _ _ (lt.alloc _) nl).mono ?_
  rintro e w2 ⟨rfl, hb⟩
  replace p := (p.alloc _).below hb
  replace B := below_call (below_alloc B _) hb
  clear hb lt nl
  obtain ⟨p0, p1, p2, p3, p4⟩ := p.open
  go_wp2_with (first | (go_at_call 45; (first | (with_reducible refine (e8t1 _).mono ?_) | (with_reducible refine (e8t2 _).mono ?_) | (with_reducible refine (e8t3 _).mono ?_)); rintro e wn ⟨rfl, hw⟩; replace hw := hw.symm; subst hw) | (go_at_call 50; (first | (with_reducible refine (e8i1 _).mono ?_) | (with_reducible refine (e8i2 _).mono ?_) | (with_reducible refine (e8i3 _).mono ?_)); rintro e wn ⟨rfl, hw⟩; replace hw := hw.symm; subst hw) | (go_at_call 52; (first | (with_reducible refine (e8r1 _).mono ?_) | (with_reducible refine (e8r2 _).mono ?_)); rintro e wn ⟨rfl, hw⟩; replace hw := hw.symm; subst hw) | (go_at_call 56; (first | (with_reducible refine (e8u1 _).mono ?_) | (with_reducible refine (e8u2 _).mono ?_)); rintro e wn ⟨rfl, hw⟩; replace hw := hw.symm; subst hw) | (go_at_call 54; (first | (with_reducible refine (e8p1 _).mono ?_) | (with_reducible refine (e8p2 _).mono ?_)); rintro e wn ⟨rfl, hw⟩; replace hw := hw.symm; subst hw) | (go_at_call 43; (first | (with_reducible refine (e8v _).mono ?_)); rintro e wn ⟨rfl, hw⟩; replace hw := hw.symm; subst hw))
  clear p0 p1 p2 p3 p4
  refine (e8a2 _ _).mono ?_
  rintro e w3 ⟨t3, n3, rfl, hb⟩
  replace B := below_call B hb
  clear hb p
  replace B := below_alloc B (.cells #[.int .i64 0, .int .i64 0, .int .i64 0, .int .i64 0, .slice t3 0 n3] 40)
  go_wp2_with (first | (go_at_call 45; (first | (with_reducible refine (e8t1 _).mono ?_) | (with_reducible refine (e8t2 _).mono ?_) | (with_reducible refine (e8t3 _).mono ?_)); rintro e wn ⟨rfl, hw⟩; replace hw := hw.symm; subst hw) | (go_at_call 50; (first | (with_reducible refine (e8i1 _).mono ?_) | (with_reducible refine (e8i2 _).mono ?_) | (with_reducible refine (e8i3 _).mono ?_)); rintro e wn ⟨rfl, hw⟩; replace hw := hw.symm; subst hw) | (go_at_call 52; (first | (with_reducible refine (e8r1 _).mono ?_) | (with_reducible refine (e8r2 _).mono ?_)); rintro e wn ⟨rfl, hw⟩; replace hw := hw.symm; subst hw) | (go_at_call 56; (first | (with_reducible refine (e8u1 _).mono ?_) | (with_reducible refine (e8u2 _).mono ?_)); rintro e wn ⟨rfl, hw⟩; replace hw := hw.symm; subst hw) | (go_at_call 54; (first | (with_reducible refine (e8p1 _).mono ?_) | (with_reducible refine (e8p2 _).mono ?_)); rintro e wn ⟨rfl, hw⟩; replace hw := hw.symm; subst hw) | (go_at_call 43; (first | (with_reducible refine (e8v _).mono ?_)); rintro e wn ⟨rfl, hw⟩; replace hw := hw.symm; subst hw))
  go_ret
  exact ⟨rfl, B⟩
end Go.Proofs.Ytadkcgpkbcgeoaa
