/-
  Layer 27: contract of Frame, reference.
-/
import Derived.Test.YtpnnmibdboelpaaCp
set_option maxRecDepth 100000
namespace Go.Proofs.Ytpnnmibdboelpaa
open Go.RowKit

set_option maxHeartbeats 2000000 in
theorem rframe_c (bs : List Int) (s : Option Addr) (m : Nat) (a : Int) (w : World) (hH : HoldsB w s bs) (hB : Mk.bytes bs) (hm : bs.length ≤ m) (hl : bs.length ≤ 1000000) :
    Calls Try.prog 15 #[.slice s bs.length m, .int .i64 a] w (GivesFr (fr bs a) w) := by
  obtain ⟨W0, hW0⟩ : ∃ W0, W0 = w.alloc (.cells #[.int .i64 0, .int .i64 0] 36) := ⟨_, rfl⟩
  have HB := Lib.hid (show Below w.heap.size w W0 by rw [hW0]; exact (Below.refl _ _).alloc (Nat.le_refl _) _)
  have HK := Lib.hid (show Blk W0 w.heap.size 36 #[.int .i64 0, .int .i64 0] by rw [hW0]; exact Blk.new _ _ _)
  have HZ := Lib.hid (show W0.heap.size = w.heap.size + 1 by rw [hW0]; simp)
  have HW0 := Lib.hid hW0
  have HH := Lib.hid (hH.call HB.out)
  clear hH hW0
  by_cases g1 : a < 0
  · have e : fr bs a = ⟨0, 0, 0, 2⟩ := by
      have : rm bs a = ⟨0, 0, 0, 2⟩ := by unfold rm; rw [if_pos (.inl g1)]
      unfold fr; rw [this]; rfl
    rw [e]; clear e
    have d1 : decide (a < 0) = true := decide_eq_true g1
    obtain ⟨s0, s1⟩ := HK.out.two'
    have f0 := HK.out.free 0
    have f1 := HK.out.free 1
    go_enter Try.func15, Try.ntmps15
    go_upto_region 1 with fail
    rw [← HW0.out]
    go_wp2_with fail
    refine bodyPost_ret (results_tst rfl _ rfl rfl rfl (HK.out.set2 _ _)) rfl ?_
    exact ⟨rfl, (HB.out.setCell (Nat.le_refl _) _).setCell (Nat.le_refl _) _⟩
  by_cases g2 : (bs.length : Int) < a
  · have e : fr bs a = ⟨0, 0, 0, 2⟩ := by
      have : rm bs a = ⟨0, 0, 0, 2⟩ := by unfold rm; rw [if_pos (.inr g2)]
      unfold fr; rw [this]; rfl
    rw [e]; clear e
    have d1 : decide (a < 0) = false := decide_eq_false g1
    have d2 : decide ((bs.length : Int) < a) = true := decide_eq_true g2
    obtain ⟨s0, s1⟩ := HK.out.two'
    have f0 := HK.out.free 0
    have f1 := HK.out.free 1
    go_enter Try.func15, Try.ntmps15
    go_upto_region 1 with fail
    rw [← HW0.out]
    go_wp2_with fail
    refine bodyPost_ret (results_tst rfl _ rfl rfl rfl (HK.out.set2 _ _)) rfl ?_
    exact ⟨rfl, (HB.out.setCell (Nat.le_refl _) _).setCell (Nat.le_refl _) _⟩
  have d1 : decide (a < 0) = false := decide_eq_false g1
  have d2 : decide ((bs.length : Int) < a) = false := decide_eq_false g2
  have ko := rhead_c bs s m a W0 HH.out hB hl (by omega) (by omega)
  by_cases h : (rm bs a).e = 0
  · obtain ⟨A, rfl, hA, hn, hq⟩ := rm_ok hB h
    have kt := fun w1 (hw1 : Below W0.heap.size W0 w1) => rrest_c bs s m A (rm bs A).n (rm bs A).c w1 (HH.out.call hw1) hB hm hl hA hn
    have e : fr bs A = if (rt bs A (rm bs A).n (rm bs A).c).e ≠ 0 then ⟨0, 0, 0, (rt bs A (rm bs A).n (rm bs A).c).e⟩
        else ⟨(rm bs A).q, (rt bs A (rm bs A).n (rm bs A).c).f, (rt bs A (rm bs A).n (rm bs A).c).t, 0⟩ := by unfold fr; rw [if_neg (fun z => z h)]; rfl
    have er := rt_err bs A (rm bs A).n (rm bs A).c
    rw [e]; clear e hn hq
    generalize rt bs A (rm bs A).n (rm bs A).c = T at *
    generalize rm bs A = R at *
    obtain ⟨Q, N, C, E⟩ := R
    obtain rfl : E = 0 := h
    obtain ⟨F, T, E⟩ := T
    simp only at er kt ⊢
    by_cases h2 : E = 0
    · subst h2
      clear er
      rw [if_neg (fun z => z rfl)]
      go_enter Try.func15, Try.ntmps15
      go_upto_region 1 with fail
      rw [← HW0.out]
      go_upto_region 9 with (first | (go_at_call 26; (with_reducible refine ko.mono ?_); rintro e w1 ⟨rfl, hw1⟩; have Hw1 := Lib.hid hw1; clear hw1) | (go_at_call 27; (with_reducible refine (kt _ Hw1.out).mono ?_); rintro e w3 ⟨rfl, hw3⟩; have Hw3 := Lib.hid hw3; clear hw3; have HK3 := Lib.hid ((HK.out.below Hw1.out).below Hw3.out); have d0 := HK3.out.two'.1; have d1 := HK3.out.two'.2; have f0 := HK3.out.free 0; have f1 := HK3.out.free 1) | fail)
      have HB4 := Lib.hid (show Below w.heap.size w ((w3.setCell ⟨w.heap.size, 0, none⟩ (.int .i64 F)).setCell ⟨w.heap.size, 1, none⟩ (.int .i64 T)) from (((HB.out.trans (Hw1.out.mono HB.out.size)).trans (Hw3.out.mono (HB.out.trans (Hw1.out.mono HB.out.size)).size)).setCell (Nat.le_refl _) _).setCell (Nat.le_refl _) _)
      have HK4 := Lib.hid (show Blk ((w3.setCell ⟨w.heap.size, 0, none⟩ (.int .i64 F)).setCell ⟨w.heap.size, 1, none⟩ (.int .i64 T)) w.heap.size 36 #[.int .i64 F, .int .i64 T] from HK3.out.set2 _ _)
      generalize (w3.setCell ⟨w.heap.size, 0, none⟩ (.int .i64 F)).setCell ⟨w.heap.size, 1, none⟩ (.int .i64 T) = W4 at *
      clear d0 d1 f0 f1
      have c0 := HK4.out.two'.1
      have c1 := HK4.out.two'.2
      have f0 := HK4.out.free 0
      have f1 := HK4.out.free 1
      go_region
      go_wp2_with fail
      refine bodyPost_ret (results_tst rfl _ rfl rfl rfl (HK4.out.set2 _ _).drew) rfl ?_
      exact ⟨rfl, ((HB4.out.setCell (Nat.le_refl _) _).setCell (Nat.le_refl _) _).drew⟩
    · obtain ⟨rfl, rfl⟩ := er h2
      rw [if_pos h2]
      have b2 : (E != 0) = true := by simpa using h2
      clear er
      go_enter Try.func15, Try.ntmps15
      go_upto_region 1 with fail
      rw [← HW0.out]
      go_wp2_with (first | (go_at_call 26; (with_reducible refine ko.mono ?_); rintro e w1 ⟨rfl, hw1⟩; have Hw1 := Lib.hid hw1; clear hw1) | (go_at_call 27; (with_reducible refine (kt _ Hw1.out).mono ?_); rintro e w3 ⟨rfl, hw3⟩; have Hw3 := Lib.hid hw3; clear hw3; have HK3 := Lib.hid ((HK.out.below Hw1.out).below Hw3.out); have d0 := HK3.out.two'.1; have d1 := HK3.out.two'.2; have f0 := HK3.out.free 0; have f1 := HK3.out.free 1) | fail)
      refine bodyPost_ret (results_tst rfl _ rfl rfl rfl ((HK3.out.set2 _ _).set2 _ _)) rfl ?_
      exact ⟨rfl, (((((HB.out.trans (Hw1.out.mono HB.out.size)).trans (Hw3.out.mono (HB.out.trans (Hw1.out.mono HB.out.size)).size)).setCell (Nat.le_refl _) _).setCell (Nat.le_refl _) _).setCell (Nat.le_refl _) _).setCell (Nat.le_refl _) _⟩
  · have e : fr bs a = ⟨0, 0, 0, (rm bs a).e⟩ := by unfold fr; rw [if_pos h]
    rw [e]; clear e
    generalize rm bs a = R at *
    have b2 : (R.e != 0) = true := by simpa using h
    go_enter Try.func15, Try.ntmps15
    go_upto_region 1 with fail
    rw [← HW0.out]
    go_wp2_with (first | (go_at_call 26; (with_reducible refine ko.mono ?_); rintro e w1 ⟨rfl, hw1⟩; have Hw1 := Lib.hid hw1; clear hw1; have HK3 := Lib.hid (HK.out.below Hw1.out); have d0 := HK3.out.two'.1; have d1 := HK3.out.two'.2; have f0 := HK3.out.free 0; have f1 := HK3.out.free 1) | fail)
    refine bodyPost_ret (results_tst rfl _ rfl rfl rfl (HK3.out.set2 _ _)) rfl ?_
    exact ⟨rfl, (((HB.out.trans (Hw1.out.mono HB.out.size))).setCell (Nat.le_refl _) _).setCell (Nat.le_refl _) _⟩
end Go.Proofs.Ytpnnmibdboelpaa
