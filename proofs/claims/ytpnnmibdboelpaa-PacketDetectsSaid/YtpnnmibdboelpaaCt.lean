/-
  Layer 27: contract of Resync, reference.
-/
import Derived.Test.YtpnnmibdboelpaaCr
set_option maxRecDepth 100000
namespace Go.Proofs.Ytpnnmibdboelpaa
open Go.RowKit

set_option maxHeartbeats 4000000 in
theorem rresync_c (bs : List Int) (s : Option Addr) (m : Nat) (a lo hi : Int) (w : World) (hH : HoldsB w s bs) (hB : Mk.bytes bs) (hm : bs.length ≤ m) (hl : bs.length ≤ 1000000) :
    Calls Try.prog 17 #[.slice s bs.length m, .int .i64 a, .int .i64 lo, .int .i64 hi] w (GivesRs (rs bs a lo hi) w) := by
  by_cases g1 : a < 0
  · have e : rs bs a lo hi = ⟨0, 0, false⟩ := by unfold rs; rw [if_neg (by omega)]
    rw [e]
    have d1 : decide (a < 0) = true := decide_eq_true g1
    clear e
    go_enter Try.func17, Try.ntmps17
    go_wp2_with fail
    refine bodyPost_ret (results_3 rfl _ _) rfl ?_
    exact ⟨rfl, Below.refl _ _⟩
  by_cases g2 : (bs.length : Int) < a
  · have e : rs bs a lo hi = ⟨0, 0, false⟩ := by unfold rs; rw [if_neg (by omega)]
    rw [e]
    have d1 : decide (a < 0) = false := decide_eq_false g1
    have d2 : decide ((bs.length : Int) < a) = true := decide_eq_true g2
    clear e
    go_enter Try.func17, Try.ntmps17
    go_wp2_with fail
    refine bodyPost_ret (results_3 rfl _ _) rfl ?_
    exact ⟨rfl, Below.refl _ _⟩
  obtain ⟨A, rfl⟩ : ∃ A : Nat, a = A := ⟨a.toNat, by omega⟩
  have e : rs bs A lo hi = rsF bs lo hi (bs.length + 1 - A) A := by unfold rs; rw [if_pos (by omega)]; rfl
  rw [e]
  have HH := Lib.hid hH
  have HB := Lib.hid hB
  have HM := Lib.hid hm
  have hA : A ≤ bs.length := by omega
  have d1 : decide ((A : Int) < 0) = false := decide_eq_false g1
  have d2 : decide ((bs.length : Int) < (A : Int)) = false := decide_eq_false g2
  clear e hH hB hm
  go_enter Try.func17, Try.ntmps17
  go_upto_region 3 with fail
  clear d1 d2 g1 g2
  go_wp2_with fail
  go_loopw [11] (fun i wr => ∃ k : Nat, k ≤ bs.length + 1 ∧ i = .int .i64 (k : Int) ∧ Hid (Below w.heap.size w wr) ∧ Hid (rsF bs lo hi (bs.length + 1 - A) A = rsF bs lo hi (bs.length + 1 - k) k)) (fun i _ => bs.length + 2 - (intOf i).toNat)
  case atStart => exact ⟨A, by omega, rfl, Lib.hid (Below.refl _ _), Lib.hid rfl⟩
  case round =>
    obtain ⟨k, hk, rfl, HW, HR⟩ := hrel
    by_cases hlt : (k : Int) ≤ (bs.length : Int)
    · have hk2 : k ≤ bs.length := by omega
      have km := rframe_c bs s m k wr (HH.out.call HW.out) HB.out HM.out hl
      have HN := Lib.hid (show ¬ hit bs lo hi k → rsF bs lo hi (bs.length + 1 - A) A = rsF bs lo hi (bs.length + 1 - (k + 1)) (k + 1) from fun z => HR.out.trans (rsF_miss hk2 z))
      have HG := Lib.hid (show hit bs lo hi k → rsF bs lo hi (bs.length + 1 - A) A = ⟨k, (fr bs k).q, true⟩ from fun z => HR.out.trans (rsF_hit hk2 z))
      have HI := Lib.hid (show hit bs lo hi k ↔ ((fr bs k).e = 0 ∧ lo ≤ (fr bs k).q ∧ (fr bs k).q ≤ hi) from Iff.rfl)
      generalize hit bs lo hi k = P at *
      generalize fr bs k = R at *
      obtain ⟨Q, F, T, E⟩ := R
      by_cases hE : E = 0
      · subst hE
        by_cases hq : lo ≤ Q
        · by_cases hq2 : Q ≤ hi
          · have HZ := Lib.hid (HG.out (HI.out.2 ⟨rfl, hq, hq2⟩))
            have d1 : decide (lo ≤ Q) = true := decide_eq_true hq
            have d2 : decide (Q ≤ hi) = true := decide_eq_true hq2
            clear hq hq2
            go_wp2_with (first | (go_at_call 15; (with_reducible refine km.mono ?_); rintro e w1 ⟨rfl, hw1⟩; have Hw1 := Lib.hid hw1; clear hw1) | fail)
            have WW := (show Below w.heap.size w (w1.alloc (Obj.cells #[Value.int IntKind.i64 F, Value.int IntKind.i64 T] 36)) from (HW.out.trans (Hw1.out.mono HW.out.size)).alloc (HW.out.trans (Hw1.out.mono HW.out.size)).size _)
            refine bodyPost_ret (results_3 rfl _ _) rfl ?_
            refine ⟨?_, WW⟩
            rw [HZ.out]; rfl
          · have HZ := Lib.hid (HN.out (fun t => hq2 (HI.out.1 t).2.2))
            have d1 : decide (lo ≤ Q) = true := decide_eq_true hq
            have d2 : decide (Q ≤ hi) = false := decide_eq_false hq2
            clear hq hq2
            go_wp2_with (first | (go_at_call 15; (with_reducible refine km.mono ?_); rintro e w1 ⟨rfl, hw1⟩; have Hw1 := Lib.hid hw1; clear hw1) | fail)
            have WW := (show Below w.heap.size w (w1.alloc (Obj.cells #[Value.int IntKind.i64 F, Value.int IntKind.i64 T] 36)) from (HW.out.trans (Hw1.out.mono HW.out.size)).alloc (HW.out.trans (Hw1.out.mono HW.out.size)).size _)
            go_roundw
            case rel => exact ⟨k + 1, by omega, by go_num, Lib.hid WW, HZ⟩
            case measure => simp [intOf]; omega
        · have HZ := Lib.hid (HN.out (fun t => hq (HI.out.1 t).2.1))
          have d1 : decide (lo ≤ Q) = false := decide_eq_false hq
          clear hq
          go_wp2_with (first | (go_at_call 15; (with_reducible refine km.mono ?_); rintro e w1 ⟨rfl, hw1⟩; have Hw1 := Lib.hid hw1; clear hw1) | fail)
          have WW := (show Below w.heap.size w (w1.alloc (Obj.cells #[Value.int IntKind.i64 F, Value.int IntKind.i64 T] 36)) from (HW.out.trans (Hw1.out.mono HW.out.size)).alloc (HW.out.trans (Hw1.out.mono HW.out.size)).size _)
          go_roundw
          case rel => exact ⟨k + 1, by omega, by go_num, Lib.hid WW, HZ⟩
          case measure => simp [intOf]; omega
      · have HZ := Lib.hid (HN.out (fun t => hE (HI.out.1 t).1))
        have b2 : (E == 0) = false := by simpa using hE
        clear hE
        go_wp2_with (first | (go_at_call 15; (with_reducible refine km.mono ?_); rintro e w1 ⟨rfl, hw1⟩; have Hw1 := Lib.hid hw1; clear hw1) | fail)
        have WW := (show Below w.heap.size w (w1.alloc (Obj.cells #[Value.int IntKind.i64 F, Value.int IntKind.i64 T] 36)) from (HW.out.trans (Hw1.out.mono HW.out.size)).alloc (HW.out.trans (Hw1.out.mono HW.out.size)).size _)
        go_roundw
        case rel => exact ⟨k + 1, by omega, by go_num, Lib.hid WW, HZ⟩
        case measure => simp [intOf]; omega
    · have d1 : decide ((k : Int) ≤ (bs.length : Int)) = false := decide_eq_false hlt
      go_wp2_with fail
      refine bodyPost_ret (results_3 rfl _ _) rfl ?_
      refine ⟨?_, HW.out⟩
      rw [HR.out, rsF_short bs lo hi _ _ (by omega)]; rfl
end Go.Proofs.Ytpnnmibdboelpaa
