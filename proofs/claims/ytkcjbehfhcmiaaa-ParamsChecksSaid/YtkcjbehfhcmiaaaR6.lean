/-
  The reference of layer 6: contracts of Count, Place, Resolution, Band.
-/
import Derived.Test.YtkcjbehfhcmiaaaHy3
import Derived.Test.YtkcjbehfhcmiaaaHw
set_option maxRecDepth 100000
namespace Go.Proofs.Ytkcjbehfhcmiaaa
open Go.RowKit

set_option maxHeartbeats 1000000 in
theorem rcount (lev : Int) (W : World) : Calls Try.prog 102 #[.int .i64 lev] W fun e w' => e = .returned (.int .i64 (Hp.cntM lev)) ∧ w' = W := by
  by_cases h1 : lev < 0
  · rw [show Hp.cntM lev = 0 from if_pos (.inl h1)]
    go_enter Try.func102, Try.ntmps102
    go_wp2_with fail
    go_ret
    exact ⟨rfl, rfl⟩
  · by_cases h2 : 5 < lev
    · rw [show Hp.cntM lev = 0 from if_pos (.inr h2)]
      go_enter Try.func102, Try.ntmps102
      go_wp2_with fail
      go_ret
      exact ⟨rfl, rfl⟩
    · rw [show Hp.cntM lev = 3 * lev + 1 from if_neg (by omega)]
      have w1 : IntKind.i64.wrap (3 * lev) = 3 * lev := IntWalk.i64_in _ (by omega)
      have w1' : wrap64 (3 * lev) = 3 * lev := IntWalk.wrap64_in _ (by omega)
      have w2 : IntKind.i64.wrap (3 * lev + 1) = 3 * lev + 1 := IntWalk.i64_in _ (by omega)
      go_enter Try.func102, Try.ntmps102
      go_wp2_with fail
      go_ret
      exact ⟨rfl, rfl⟩
set_option maxHeartbeats 1000000 in
theorem rplace (idx lev : Int) (W : World) : Calls Try.prog 103 #[.int .i64 idx, .int .i64 lev] W fun e w' => e = .returned (.tuple #[.int .i64 (Hp.lvI idx lev), .int .i64 (Hp.orI idx lev), .bool (Hp.okI idx lev)]) ∧ w' = W := by
  have kc := rcount lev W
  have HL := Lib.hid (show Hp.lvI idx lev = if Hp.okI idx lev = true then (if idx = 0 then lev else lev - Hp.rsI idx + 1) else 0 from rfl)
  have HO := Lib.hid (show Hp.orI idx lev = if Hp.okI idx lev = true then (if idx = 0 then 0 else idx - 3 * Hp.rsI idx + 3) else 0 from rfl)
  have HK := Lib.hid (show Hp.okI idx lev = decide (0 ≤ idx ∧ idx < Hp.cntM lev) from rfl)
  by_cases h1 : idx < 0
  · have hk : Hp.okI idx lev = false := by rw [HK.out]; exact decide_eq_false (by omega)
    rw [HL.out, HO.out, hk, if_neg (by decide), if_neg (by decide)]
    clear HL HO HK hk
    go_enter Try.func103, Try.ntmps103
    go_wp2_with (first | (go_at_call 102; (with_reducible refine kc.mono ?_); rintro e wn ⟨rfl, rfl⟩) | fail)
    go_ret3
    exact ⟨rfl, rfl⟩
  · by_cases h2 : Hp.cntM lev ≤ idx
    · have hk : Hp.okI idx lev = false := by rw [HK.out]; exact decide_eq_false (by omega)
      rw [HL.out, HO.out, hk, if_neg (by decide), if_neg (by decide)]
      clear HL HO HK hk
      generalize Hp.cntM lev = CN at *
      go_enter Try.func103, Try.ntmps103
      go_wp2_with (first | (go_at_call 102; (with_reducible refine kc.mono ?_); rintro e wn ⟨rfl, rfl⟩) | fail)
      go_ret3
      exact ⟨rfl, rfl⟩
    · have hk : Hp.okI idx lev = true := by rw [HK.out]; exact decide_eq_true (by omega)
      obtain ⟨c1, c2, c3⟩ := cnt_pos (lev := lev) (idx := idx) (by omega) (by omega)
      rw [HL.out, HO.out, hk, if_pos rfl, if_pos rfl]
      by_cases h0 : idx = 0
      · subst h0
        rw [if_pos rfl, if_pos rfl]
        clear HL HO HK hk
        generalize Hp.cntM lev = CN at *
        go_enter Try.func103, Try.ntmps103
        go_wp2_with (first | (go_at_call 102; (with_reducible refine kc.mono ?_); rintro e wn ⟨rfl, rfl⟩) | fail)
        go_ret3
        exact ⟨rfl, rfl⟩
      · rw [if_neg h0, if_neg h0]
        have t0 : (idx == 0) = false := by simp [h0]
        have r1 : 1 ≤ Hp.rsI idx ∧ Hp.rsI idx ≤ 6 ∧ 3 * Hp.rsI idx ≤ idx + 2 ∧ idx ≤ 3 * Hp.rsI idx := by unfold Hp.rsI; omega
        have w0 : IntKind.i64.wrap (idx + 2) = idx + 2 := IntWalk.i64_in _ (by omega)
        have q0 : IntKind.i64.wrap ((idx + 2).tdiv 3) = Hp.rsI idx := by
          rw [Int.tdiv_eq_ediv_of_nonneg (by omega)]
          exact IntWalk.i64_in _ (by unfold Hp.rsI at r1; omega)
        have w1 : IntKind.i64.wrap (lev - Hp.rsI idx) = lev - Hp.rsI idx := IntWalk.i64_in _ (by omega)
        have w2 : IntKind.i64.wrap (lev - Hp.rsI idx + 1) = lev - Hp.rsI idx + 1 := IntWalk.i64_in _ (by omega)
        have w3 : wrap64 (3 * Hp.rsI idx) = 3 * Hp.rsI idx := IntWalk.wrap64_in _ (by omega)
        have w3' : IntKind.i64.wrap (3 * Hp.rsI idx) = 3 * Hp.rsI idx := IntWalk.i64_in _ (by omega)
        have w4 : IntKind.i64.wrap (idx - 3 * Hp.rsI idx) = idx - 3 * Hp.rsI idx := IntWalk.i64_in _ (by omega)
        have w5 : IntKind.i64.wrap (idx - 3 * Hp.rsI idx + 3) = idx - 3 * Hp.rsI idx + 3 := IntWalk.i64_in _ (by omega)
        generalize Hp.cntM lev = CN at *
        generalize Hp.rsI idx = RS at *
        clear HL HO HK hk h0 r1 c1 c2 c3
        go_enter Try.func103, Try.ntmps103
        go_wp2_with (first | (go_at_call 102; (with_reducible refine kc.mono ?_); rintro e wn ⟨rfl, rfl⟩) | fail)
        go_ret3
        exact ⟨rfl, rfl⟩
set_option maxHeartbeats 1000000 in
theorem rreso (r : Pl.R) (lev res : Int) (W : World) : Calls Try.prog 86 #[.agg #[.int .i64 r.x0, .int .i64 r.y0, .int .i64 r.x1, .int .i64 r.y1], .int .i64 lev, .int .i64 res] W fun e w' => e = .returned (.agg (rv (Hp.resR r lev res))) ∧ Below W.heap.size W w' := by
  have kc := rcount lev
  have HRR := Lib.hid (show Hp.resR r lev res = if Hp.exB lev res = true then Pl.redR r.x0 r.y0 r.x1 r.y1 (Pl.pw (lev - res)) (Pl.pw (lev - res)) else ⟨0, 0, 0, 0⟩ from rfl)
  obtain ⟨WB, hWB⟩ : ∃ ww, ww = ((W.alloc (.cells #[.int .i64 r.x0, .int .i64 r.y0, .int .i64 r.x1, .int .i64 r.y1] 23)).alloc (.cells #[.int .i64 0, .int .i64 0, .int .i64 0, .int .i64 0] 23)) := ⟨_, rfl⟩
  have hb0 : Below W.heap.size W WB := by rw [hWB]; exact (below_alloc (below_alloc (Below.refl _ W) (Nat.le_refl _) _) (by simp <;> omega) _)
  have B0 := Lib.hid hb0
  have hX : Blk WB (W.heap.size) 23 #[.int .i64 r.x0, .int .i64 r.y0, .int .i64 r.x1, .int .i64 r.y1] := by
    have := Blk.new (W) 23 #[.int .i64 r.x0, .int .i64 r.y0, .int .i64 r.x1, .int .i64 r.y1]
    rw [hWB]
    exact ((show Blk _ (W.heap.size) _ _ by simpa using this)).alloc _
  have HX0 := Lib.hid hX
  have hY : Blk WB (W.heap.size + 1) 23 #[.int .i64 0, .int .i64 0, .int .i64 0, .int .i64 0] := by
    have := Blk.new ((W.alloc (.cells #[.int .i64 r.x0, .int .i64 r.y0, .int .i64 r.x1, .int .i64 r.y1] 23))) 23 #[.int .i64 0, .int .i64 0, .int .i64 0, .int .i64 0]
    rw [hWB]
    exact (show Blk _ (W.heap.size + 1) _ _ by simpa using this)
  have HY0 := Lib.hid hY
  have HWB := Lib.hid hWB
  clear hb0 hWB hX hY
  have HW2 := HWB.out
  clear HWB
  by_cases h1 : lev < 0 ∨ 5 < lev
  · have hx : Hp.exB lev res = false := decide_eq_false (by omega)
    rw [HRR.out, if_neg (by rw [hx]; decide)]
    rw [show Hp.cntM lev = 0 from if_pos h1] at kc
    obtain ⟨y0, y1, y2, y3⟩ := HY0.out.four
    have yf := HY0.out.free
    clear hx HRR h1
    go_enter Try.func86, Try.ntmps86
    go_upto_region 1 with fail
    rw [← HW2]
    clear HW2
    go_wp2_with (first | (go_at_call 102; (with_reducible refine (kc _).mono ?_); rintro e wn ⟨rfl, rfl⟩) | fail)
    refine bodyPost_ret (results_r rfl _ rfl (HY0.out.set4 _ _ _ _)) rfl ?_
    exact ⟨rfl, below4 B0.out (by omega) _ _ _ _⟩
  · have hc : Hp.cntM lev = 3 * lev + 1 := if_neg h1
    rw [hc] at kc
    have t0 : (3 * lev + 1 == 0) = false := by simp; omega
    generalize 3 * lev + 1 = CN at *
    clear hc
    by_cases h2 : res < 0
    · have hx : Hp.exB lev res = false := decide_eq_false (by omega)
      rw [HRR.out, if_neg (by rw [hx]; decide)]
      obtain ⟨y0, y1, y2, y3⟩ := HY0.out.four
      have yf := HY0.out.free
      clear hx HRR h1
      go_enter Try.func86, Try.ntmps86
      go_upto_region 1 with fail
      rw [← HW2]
      clear HW2
      go_wp2_with (first | (go_at_call 102; (with_reducible refine (kc _).mono ?_); rintro e wn ⟨rfl, rfl⟩) | fail)
      refine bodyPost_ret (results_r rfl _ rfl (HY0.out.set4 _ _ _ _)) rfl ?_
      exact ⟨rfl, below4 B0.out (by omega) _ _ _ _⟩
    · by_cases h3 : lev < res
      · have hx : Hp.exB lev res = false := decide_eq_false (by omega)
        rw [HRR.out, if_neg (by rw [hx]; decide)]
        obtain ⟨y0, y1, y2, y3⟩ := HY0.out.four
        have yf := HY0.out.free
        clear hx HRR h1
        go_enter Try.func86, Try.ntmps86
        go_upto_region 1 with fail
        rw [← HW2]
        clear HW2
        go_wp2_with (first | (go_at_call 102; (with_reducible refine (kc _).mono ?_); rintro e wn ⟨rfl, rfl⟩) | fail)
        refine bodyPost_ret (results_r rfl _ rfl (HY0.out.set4 _ _ _ _)) rfl ?_
        exact ⟨rfl, below4 B0.out (by omega) _ _ _ _⟩
      · have hx : Hp.exB lev res = true := decide_eq_true (by omega)
        rw [HRR.out, if_pos hx]
        obtain ⟨d, hd⟩ : ∃ d : Nat, lev - res = (d : Int) := ⟨(lev - res).toNat, by omega⟩
        have hd5 : d ≤ 5 := by omega
        obtain rfl : lev = res + (d : Int) := by omega
        have hp : Pl.pw (res + (d : Int) - res) = ((2 ^ d : Nat) : Int) := by rw [hd]; unfold Pl.pw; simp
        rw [hp]
        have kr := fun W1 : World => red_r r.x0 r.y0 r.x1 r.y1 ((2 ^ d : Nat) : Int) ((2 ^ d : Nat) : Int) W1
        generalize Pl.redR r.x0 r.y0 r.x1 r.y1 ((2 ^ d : Nat) : Int) ((2 ^ d : Nat) : Int) = Q at *
        have HD := Lib.hid hd5
        have HR0 := Lib.hid (show 0 ≤ res ∧ res ≤ 5 by omega)
        have HLV := Lib.hid (show res + (d : Int) ≤ 5 by omega)
        clear hx HRR h1 hd hp hd5
        go_enter Try.func86, Try.ntmps86
        go_upto_region 1 with fail
        rw [← HW2]
        clear HW2
        go_upto_region 5 with (first | (go_at_call 102; (with_reducible refine (kc _).mono ?_); rintro e wn ⟨rfl, rfl⟩) | fail)
        go_loopw [7, 8] (fun v7 v8 wr => ∃ k : Nat, k ≤ d ∧ v8 = .int .i64 (res + (k : Int)) ∧ v7 = .int .i64 ((2 ^ k : Nat) : Int) ∧ wr = wn) (fun _ v8 _ => d + 6 - (intOf v8).toNat)
        case atStart => exact ⟨0, Nat.zero_le _, by simp, by simp, by first | rfl | trivial⟩
        case round =>
          obtain ⟨k, hk, rfl, rfl, rfl⟩ := hrel
          have hr := HR0.out
          have hlv := HLV.out
          by_cases hlt : k < d
          · have hki : res + (k : Int) < res + (d : Int) := by omega
            have w2 : IntKind.i64.wrap (res + (k : Int) + 1) = res + ((k + 1 : Nat) : Int) := by rw [IntWalk.i64_in _ (by omega)]; omega
            have hpk : (2 ^ k : Nat) ≤ 32 := by
              have := Nat.pow_le_pow_right (show 0 < 2 by decide) (show k ≤ 5 by have := HD.out; omega)
              simpa using this
            obtain ⟨P2, hP2⟩ : ∃ x : Nat, 2 ^ k = x := ⟨_, rfl⟩
            obtain ⟨P3, hP3⟩ : ∃ x : Nat, 2 ^ (k + 1) = x := ⟨_, rfl⟩
            have h23 : P3 = P2 * 2 := by rw [← hP3, ← hP2, Nat.pow_succ]
            rw [hP2] at hpk
            have w3 : wrap64 (2 * (P2 : Int)) = (P3 : Int) := by rw [IntWalk.wrap64_in _ ⟨by omega, by omega⟩]; omega
            have w3' : IntKind.i64.wrap (2 * (P2 : Int)) = (P3 : Int) := by rw [IntWalk.i64_left]; exact w3
            rw [hP2]
            clear h23
            have HP3 := Lib.hid hP3
            clear hpk hP2 hP3 hr hlv
            go_wp2_with fail
            go_roundw
            case rel => exact ⟨k + 1, by omega, by first | rfl | go_num, by rw [HP3.out], by first | rfl | trivial⟩
            case measure => simp [intOf]; have := HR0.out; omega
          · obtain rfl : k = d := by omega
            obtain ⟨P2, hP2⟩ : ∃ x : Nat, 2 ^ k = x := ⟨_, rfl⟩
            rw [hP2] at kr
            rw [hP2]
            obtain ⟨x0, x1, x2, x3⟩ := HX0.out.four
            clear hP2 hr hlv
            go_wp2_with (first | (go_at_call 79; (with_reducible refine (kr _).mono ?_); rintro e w1 ⟨rfl, hb1⟩; have HY1 := Lib.hid (HY0.out.below hb1); have B1 := Lib.hid (B0.out.trans (hb1.mono B0.out.size)); obtain ⟨y0, y1, y2, y3⟩ := HY1.out.four; have yf := HY1.out.free; clear hb1) | fail)
            refine bodyPost_ret (results_r rfl _ rfl (HY1.out.set4 _ _ _ _)) rfl ?_
            exact ⟨rfl, below4 B1.out (by omega) _ _ _ _⟩
theorem ban_inv {r : Pl.R} {lev idx : Int} (hv : Pl.validB r.x0 r.y0 r.x1 r.y1 = false) : Hp.banR r lev idx = ⟨0, 0, 0, 0⟩ := by
  have e : ∀ res, Hp.resR r lev res = ⟨0, 0, 0, 0⟩ := by
    intro res
    unfold Hp.resR
    split
    · unfold Pl.redR
      rw [if_neg (by rw [hv]; simp)]
    · rfl
  unfold Hp.banR
  split
  · rfl
  · split
    · exact e 0
    · rw [e]
      unfold Hp.bdR Hp.hfI
      simp [Pl.validB]
set_option maxHeartbeats 4000000 in
theorem rband (r : Pl.R) (lev idx : Int) (W : World) : Calls Try.prog 87 #[.agg #[.int .i64 r.x0, .int .i64 r.y0, .int .i64 r.x1, .int .i64 r.y1], .int .i64 lev, .int .i64 idx] W fun e w' => e = .returned (.agg (rv (Hp.banR r lev idx))) ∧ Below W.heap.size W w' := by
  obtain ⟨WB, hWB⟩ : ∃ ww, ww = ((W.alloc (.cells #[.int .i64 r.x0, .int .i64 r.y0, .int .i64 r.x1, .int .i64 r.y1] 23)).alloc (.cells #[.int .i64 0, .int .i64 0, .int .i64 0, .int .i64 0] 23)) := ⟨_, rfl⟩
  have hb0 : Below W.heap.size W WB := by rw [hWB]; exact (below_alloc (below_alloc (Below.refl _ W) (Nat.le_refl _) _) (by simp <;> omega) _)
  have B0 := Lib.hid hb0
  have hX : Blk WB (W.heap.size) 23 #[.int .i64 r.x0, .int .i64 r.y0, .int .i64 r.x1, .int .i64 r.y1] := by
    have := Blk.new (W) 23 #[.int .i64 r.x0, .int .i64 r.y0, .int .i64 r.x1, .int .i64 r.y1]
    rw [hWB]
    exact ((show Blk _ (W.heap.size) _ _ by simpa using this)).alloc _
  have HX0 := Lib.hid hX
  have hY : Blk WB (W.heap.size + 1) 23 #[.int .i64 0, .int .i64 0, .int .i64 0, .int .i64 0] := by
    have := Blk.new ((W.alloc (.cells #[.int .i64 r.x0, .int .i64 r.y0, .int .i64 r.x1, .int .i64 r.y1] 23))) 23 #[.int .i64 0, .int .i64 0, .int .i64 0, .int .i64 0]
    rw [hWB]
    exact (show Blk _ (W.heap.size + 1) _ _ by simpa using this)
  have HY0 := Lib.hid hY
  have HWB := Lib.hid hWB
  clear hb0 hWB hX hY
  have kp := rplace idx lev WB
  have HM := Lib.hid (show Hp.banR r lev idx = if Hp.okI idx lev = false then ⟨0, 0, 0, 0⟩ else if idx = 0 then Hp.resR r lev 0 else Hp.bdR (Hp.resR r lev (Hp.rsI idx)) (Hp.orI idx lev) from rfl)
  have HW2 := HWB.out
  clear HWB
  cases hk : Hp.okI idx lev with
  | false =>
    rw [HM.out, if_pos hk]
    rw [show Hp.lvI idx lev = 0 from if_neg (by rw [hk]; decide), show Hp.orI idx lev = 0 from if_neg (by rw [hk]; decide), hk] at kp
    obtain ⟨y0, y1, y2, y3⟩ := HY0.out.four
    have yf := HY0.out.free
    clear HM hk
    go_enter Try.func87, Try.ntmps87
    go_upto_region 1 with fail
    rw [← HW2]
    clear HW2
    go_wp2_with (first | (go_at_call 103; (with_reducible refine kp.mono ?_); rintro e wn ⟨rfl, rfl⟩) | fail)
    refine bodyPost_ret (results_r rfl _ rfl (HY0.out.set4 _ _ _ _)) rfl ?_
    exact ⟨rfl, below4 B0.out (by omega) _ _ _ _⟩
  | true =>
    have kv := fun W1 : World => valid_r r.x0 r.y0 r.x1 r.y1 W1
    cases hvd : Pl.validB r.x0 r.y0 r.x1 r.y1 with
    | false =>
      rw [hvd] at kv
      rw [show Hp.banR r lev idx = ⟨0, 0, 0, 0⟩ from ban_inv hvd]
      obtain ⟨x0, x1, x2, x3⟩ := HX0.out.four
      clear HM
      rw [hk] at kp
      generalize Hp.lvI idx lev = LV at *
      generalize Hp.orI idx lev = OR at *
      clear hk hvd
      go_enter Try.func87, Try.ntmps87
      go_upto_region 1 with fail
      rw [← HW2]
      clear HW2
      go_wp2_with (first | (go_at_call 103; (with_reducible refine kp.mono ?_); rintro e wn ⟨rfl, rfl⟩) | (go_at_call 77; (with_reducible refine (kv _).mono ?_); rintro e wv ⟨rfl, hbv⟩; have HXv := Lib.hid (HX0.out.below hbv); have HYv := Lib.hid (HY0.out.below hbv); have Bv := Lib.hid (B0.out.trans (hbv.mono B0.out.size)); obtain ⟨x0, x1, x2, x3⟩ := HXv.out.four; obtain ⟨y0, y1, y2, y3⟩ := HYv.out.four; have yf := HYv.out.free; clear hbv) | fail)
      refine bodyPost_ret (results_r rfl _ rfl (HYv.out.set4 _ _ _ _)) rfl ?_
      exact ⟨rfl, below4 Bv.out (by omega) _ _ _ _⟩
    | true =>
    rw [hvd] at kv
    clear hvd
    obtain ⟨k1, k2⟩ := ok_iff.1 hk
    obtain ⟨c1, c2, c3⟩ := cnt_pos k1 k2
    by_cases h0 : idx = 0
    · subst h0
      rw [HM.out, if_neg (by rw [hk]; decide), if_pos rfl]
      rw [show Hp.lvI 0 lev = lev by unfold Hp.lvI; rw [if_pos hk, if_pos rfl], show Hp.orI 0 lev = 0 by unfold Hp.orI; rw [if_pos hk, if_pos rfl], hk] at kp
      have kr := fun W1 : World => rreso r lev 0 W1
      generalize Hp.resR r lev 0 = Q at *
      dsimp only [rv] at kr
      obtain ⟨x0, x1, x2, x3⟩ := HX0.out.four
      clear HM hk k2
      go_enter Try.func87, Try.ntmps87
      go_upto_region 1 with fail
      rw [← HW2]
      clear HW2
      go_wp2_with (first | (go_at_call 103; (with_reducible refine kp.mono ?_); rintro e wn ⟨rfl, rfl⟩) | (go_at_call 77; (with_reducible refine (kv _).mono ?_); rintro e wv ⟨rfl, hbv⟩; have HXv := Lib.hid (HX0.out.below hbv); have HYv := Lib.hid (HY0.out.below hbv); have Bv := Lib.hid (B0.out.trans (hbv.mono B0.out.size)); obtain ⟨x0, x1, x2, x3⟩ := HXv.out.four; obtain ⟨y0, y1, y2, y3⟩ := HYv.out.four; have yf := HYv.out.free; clear hbv) | (go_at_call 86; (with_reducible refine (kr _).mono ?_); rintro e w1 ⟨rfl, hb1⟩; have HY1 := Lib.hid (HYv.out.below hb1); have B1 := Lib.hid (Bv.out.trans (hb1.mono Bv.out.size)); obtain ⟨y0, y1, y2, y3⟩ := HY1.out.four; have yf := HY1.out.free; clear hb1) | fail)
      refine bodyPost_ret (results_r rfl _ rfl (HY1.out.set4 _ _ _ _)) rfl ?_
      exact ⟨rfl, below4 B1.out (by omega) _ _ _ _⟩
    · have hL : Hp.lvI idx lev = lev - Hp.rsI idx + 1 := by unfold Hp.lvI; rw [if_pos hk, if_neg h0]
      have hO : Hp.orI idx lev = idx - 3 * Hp.rsI idx + 3 := by unfold Hp.orI; rw [if_pos hk, if_neg h0]
      rw [HM.out, if_neg (by rw [hk]; decide), if_neg h0]
      rw [hL, hk] at kp
      have r1 : 1 ≤ Hp.rsI idx ∧ Hp.rsI idx ≤ 6 ∧ 3 * Hp.rsI idx ≤ idx + 2 ∧ idx ≤ 3 * Hp.rsI idx := by unfold Hp.rsI; omega
      have hO3 : Hp.orI idx lev = 1 ∨ Hp.orI idx lev = 2 ∨ Hp.orI idx lev = 3 := by omega
      have kr := fun W1 : World => rreso r lev (Hp.rsI idx) W1
      have kb := fun W1 : World => Dw.bands_r (Hp.resR r lev (Hp.rsI idx)).x0 (Hp.resR r lev (Hp.rsI idx)).y0 (Hp.resR r lev (Hp.rsI idx)).x1 (Hp.resR r lev (Hp.rsI idx)).y1 W1
      have kq : Dw.bnds ⟨(Hp.resR r lev (Hp.rsI idx)).x0, (Hp.resR r lev (Hp.rsI idx)).y0, (Hp.resR r lev (Hp.rsI idx)).x1, (Hp.resR r lev (Hp.rsI idx)).y1⟩ = Dw.bnds (Hp.resR r lev (Hp.rsI idx)) := rfl
      rw [kq] at kb
      clear kq
      obtain ⟨e1, e2, e3⟩ := bnds_eq (Hp.resR r lev (Hp.rsI idx))
      rw [Dw.arr4_get] at kb
      have w1 : IntKind.i64.wrap (lev - (lev - Hp.rsI idx + 1)) = Hp.rsI idx - 1 := by rw [IntWalk.i64_in _ (by omega)]; omega
      have w2 : IntKind.i64.wrap (Hp.rsI idx - 1 + 1) = Hp.rsI idx := by rw [IntWalk.i64_in _ (by omega)]; omega
      have w3 : IntKind.i64.wrap (Hp.rsI idx) = Hp.rsI idx := IntWalk.i64_in _ (by omega)
      generalize Hp.resR r lev (Hp.rsI idx) = Q at *
      dsimp only [rv] at kr
      generalize Hp.rsI idx = RS at *
      generalize lev - RS + 1 = LV at *
      generalize Hp.orI idx lev = OR at *
      obtain ⟨x0, x1, x2, x3⟩ := HX0.out.four
      have t0 : (idx == 0) = false := by simp [h0]
      clear HM hk k1 k2 hL hO r1 h0 c1 c2 c3
      rcases hO3 with rfl | rfl | rfl
      · rw [← e1]
        clear e1 e2 e3
        generalize Dw.bnds Q = F at *
        have hix := ix1 F
        go_enter Try.func87, Try.ntmps87
        go_upto_region 1 with fail
        rw [← HW2]
        clear HW2
        go_wp2_with (first | (go_at_call 103; (with_reducible refine kp.mono ?_); rintro e wn ⟨rfl, rfl⟩) | (go_at_call 77; (with_reducible refine (kv _).mono ?_); rintro e wv ⟨rfl, hbv⟩; have HXv := Lib.hid (HX0.out.below hbv); have HYv := Lib.hid (HY0.out.below hbv); have Bv := Lib.hid (B0.out.trans (hbv.mono B0.out.size)); obtain ⟨x0, x1, x2, x3⟩ := HXv.out.four; obtain ⟨y0, y1, y2, y3⟩ := HYv.out.four; have yf := HYv.out.free; clear hbv) | (go_at_call 86; (with_reducible refine (kr _).mono ?_); rintro e w1 ⟨rfl, hb1⟩; have HY1 := Lib.hid (HYv.out.below hb1); have B1 := Lib.hid (Bv.out.trans (hb1.mono Bv.out.size)); clear hb1) | (go_at_call 104; (with_reducible refine (kb _).mono ?_); rintro e w2 ⟨rfl, hb2⟩; have HY2 := Lib.hid (HY1.out.below hb2); have B2 := Lib.hid (B1.out.trans (hb2.mono B1.out.size)); obtain ⟨y0, y1, y2, y3⟩ := HY2.out.four; have yf := HY2.out.free; clear hb2) | fail)
        refine bodyPost_ret (results_r rfl _ rfl (HY2.out.set4 _ _ _ _)) rfl ?_
        exact ⟨rfl, below4 B2.out (by omega) _ _ _ _⟩
      · rw [← e2]
        clear e1 e2 e3
        generalize Dw.bnds Q = F at *
        have hix := ix2 F
        go_enter Try.func87, Try.ntmps87
        go_upto_region 1 with fail
        rw [← HW2]
        clear HW2
        go_wp2_with (first | (go_at_call 103; (with_reducible refine kp.mono ?_); rintro e wn ⟨rfl, rfl⟩) | (go_at_call 77; (with_reducible refine (kv _).mono ?_); rintro e wv ⟨rfl, hbv⟩; have HXv := Lib.hid (HX0.out.below hbv); have HYv := Lib.hid (HY0.out.below hbv); have Bv := Lib.hid (B0.out.trans (hbv.mono B0.out.size)); obtain ⟨x0, x1, x2, x3⟩ := HXv.out.four; obtain ⟨y0, y1, y2, y3⟩ := HYv.out.four; have yf := HYv.out.free; clear hbv) | (go_at_call 86; (with_reducible refine (kr _).mono ?_); rintro e w1 ⟨rfl, hb1⟩; have HY1 := Lib.hid (HYv.out.below hb1); have B1 := Lib.hid (Bv.out.trans (hb1.mono Bv.out.size)); clear hb1) | (go_at_call 104; (with_reducible refine (kb _).mono ?_); rintro e w2 ⟨rfl, hb2⟩; have HY2 := Lib.hid (HY1.out.below hb2); have B2 := Lib.hid (B1.out.trans (hb2.mono B1.out.size)); obtain ⟨y0, y1, y2, y3⟩ := HY2.out.four; have yf := HY2.out.free; clear hb2) | fail)
        refine bodyPost_ret (results_r rfl _ rfl (HY2.out.set4 _ _ _ _)) rfl ?_
        exact ⟨rfl, below4 B2.out (by omega) _ _ _ _⟩
      · rw [← e3]
        clear e1 e2 e3
        generalize Dw.bnds Q = F at *
        have hix := ix3 F
        go_enter Try.func87, Try.ntmps87
        go_upto_region 1 with fail
        rw [← HW2]
        clear HW2
        go_wp2_with (first | (go_at_call 103; (with_reducible refine kp.mono ?_); rintro e wn ⟨rfl, rfl⟩) | (go_at_call 77; (with_reducible refine (kv _).mono ?_); rintro e wv ⟨rfl, hbv⟩; have HXv := Lib.hid (HX0.out.below hbv); have HYv := Lib.hid (HY0.out.below hbv); have Bv := Lib.hid (B0.out.trans (hbv.mono B0.out.size)); obtain ⟨x0, x1, x2, x3⟩ := HXv.out.four; obtain ⟨y0, y1, y2, y3⟩ := HYv.out.four; have yf := HYv.out.free; clear hbv) | (go_at_call 86; (with_reducible refine (kr _).mono ?_); rintro e w1 ⟨rfl, hb1⟩; have HY1 := Lib.hid (HYv.out.below hb1); have B1 := Lib.hid (Bv.out.trans (hb1.mono Bv.out.size)); clear hb1) | (go_at_call 104; (with_reducible refine (kb _).mono ?_); rintro e w2 ⟨rfl, hb2⟩; have HY2 := Lib.hid (HY1.out.below hb2); have B2 := Lib.hid (B1.out.trans (hb2.mono B1.out.size)); obtain ⟨y0, y1, y2, y3⟩ := HY2.out.four; have yf := HY2.out.free; clear hb2) | fail)
        refine bodyPost_ret (results_r rfl _ rfl (HY2.out.set4 _ _ _ _)) rfl ?_
        exact ⟨rfl, below4 B2.out (by omega) _ _ _ _⟩
end Go.Proofs.Ytkcjbehfhcmiaaa
