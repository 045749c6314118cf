/-
  Layer 6 (code): contracts of exists, first, Resolution, Indices, Place, Band.
-/
import Derived.Test.YtkcjbehfhcmiaaaHg
import Derived.Test.YtkcjbehfhcmiaaaBd
set_option maxRecDepth 100000
namespace Go.Proofs.Ytkcjbehfhcmiaaa
open Go.RowKit

theorem pw_facts {e : Int} {m : Nat} (h : e ≤ (m : Int)) (hm : m ≤ 12) : (2 : Int) ^ e.toNat = Pl.pw e ∧ IntKind.i64.wrap (Pl.pw e) = Pl.pw e ∧ 1 ≤ Pl.pw e ∧ Pl.pw e ≤ 4096 := by
  have k0 := Pl.pw_pos e
  have k1 := Pl.pw_le (e := e) (m := 12) (by omega)
  have k2 : ((2 ^ 12 : Nat) : Int) = 4096 := by decide
  rw [k2] at k1
  refine ⟨by unfold Pl.pw; simp, ?_, k0, k1⟩
  rw [IntWalk.i64_left]; unfold wrap64; omega
set_option maxHeartbeats 1000000 in
theorem exists_y (lev res : Int) (W : World) : Calls Try.prog 98 #[.int .i64 lev, .int .i64 res] W fun e w' => e = .returned (.bool (Hp.exB lev res)) ∧ w' = W := by
  by_cases h1 : lev ≤ 5
  · by_cases h2 : 0 ≤ res
    · by_cases h3 : res ≤ lev
      · go_enter Try.func98, Try.ntmps98
        go_wp2_with fail
        go_ret
        exact ⟨ret_bool (by simp [Hp.exB]; omega), rfl⟩
      · go_enter Try.func98, Try.ntmps98
        go_wp2_with fail
        go_ret
        exact ⟨ret_bool (by simp [Hp.exB]; omega), rfl⟩
    · go_enter Try.func98, Try.ntmps98
      go_wp2_with fail
      go_ret
      exact ⟨ret_bool (by simp [Hp.exB]; omega), rfl⟩
  · go_enter Try.func98, Try.ntmps98
    go_wp2_with fail
    go_ret
    exact ⟨ret_bool (by simp [Hp.exB]; omega), rfl⟩
set_option maxHeartbeats 1000000 in
theorem first_y (res : Int) (W : World) (h : 0 ≤ res ∧ res ≤ 1000) : Calls Try.prog 99 #[.int .i64 res] W fun e w' => e = .returned (.int .i64 (3 * res - 2)) ∧ w' = W := by
  have w1 : IntKind.i64.wrap (3 * res) = 3 * res := IntWalk.i64_in _ (by omega)
  have w2 : IntKind.i64.wrap (3 * res - 2) = 3 * res - 2 := IntWalk.i64_in _ (by omega)
  go_enter Try.func99, Try.ntmps99
  go_wp2_with fail
  go_ret
  exact ⟨rfl, rfl⟩
theorem ex_iff {lev res : Int} : Hp.exB lev res = true ↔ (lev ≤ 5 ∧ 0 ≤ res ∧ res ≤ lev) := by simp [Hp.exB]
/-- What Indices gives. -/
def GivesL (l : List Int) (w : World) (e : Ending) (w' : World) : Prop := ∃ s m, e = .returned (.slice s l.length m) ∧ HoldsI w' s l ∧ Below w.heap.size w w'
theorem idxL_no {lev res : Int} (h : Hp.exB lev res = false) : Hp.idxL lev res = [] := if_pos h
theorem holds_three (W : World) (x y z : Int) : HoldsI (W.alloc (.cells #[.int .i64 x, .int .i64 y, .int .i64 z] 3)) (some ⟨W.heap.size, 0, none⟩) [x, y, z] := holds_new W W.heap.size rfl [x, y, z] _ rfl
set_option maxHeartbeats 1000000 in
theorem indices_y (lev res : Int) (W : World) : Calls Try.prog 71 #[.int .i64 lev, .int .i64 res] W (GivesL (Hp.idxL lev res) W) := by
  have ke := exists_y lev res W
  cases hx : Hp.exB lev res with
  | false =>
    rw [hx] at ke
    rw [idxL_no hx]
    clear hx
    go_enter Try.func71, Try.ntmps71
    go_wp2_with (first | (go_at_call 98; (with_reducible refine ke.mono ?_); rintro e wn ⟨rfl, rfl⟩) | fail)
    go_ret
    exact ⟨none, 0, rfl, .inl rfl, Below.refl _ _⟩
  | true =>
    rw [hx] at ke
    obtain ⟨x1, x2, x3⟩ := ex_iff.1 hx
    by_cases h0 : res = 0
    · subst h0
      rw [show Hp.idxL lev 0 = [0] by unfold Hp.idxL; rw [if_neg (by rw [hx]; decide), if_pos rfl]]
      clear hx
      go_enter Try.func71, Try.ntmps71
      go_wp2_with (first | (go_at_call 98; (with_reducible refine ke.mono ?_); rintro e wn ⟨rfl, rfl⟩) | fail)
      go_ret
      exact ⟨_, _, rfl, holds_one _ _, below_alloc (Below.refl _ _) (Nat.le_refl _) _⟩
    · rw [show Hp.idxL lev res = [3 * res - 2, 3 * res - 1, 3 * res] by unfold Hp.idxL; rw [if_neg (by rw [hx]; decide), if_neg h0]]
      have t0 : (res == 0) = false := by simp [h0]
      have kf := first_y res W ⟨x2, by omega⟩
      have w1 : IntKind.i64.wrap (3 * res - 2 + 1) = 3 * res - 1 := by rw [IntWalk.i64_in _ (by omega)]; omega
      have w2 : IntKind.i64.wrap (3 * res - 2 + 2) = 3 * res := by rw [IntWalk.i64_in _ (by omega)]; omega
      obtain ⟨f, hf⟩ : ∃ f, 3 * res - 2 = f := ⟨_, rfl⟩
      rw [hf] at kf w1 w2
      have HF := Lib.hid hf
      clear hx h0 hf
      go_enter Try.func71, Try.ntmps71
      go_wp2_with (first | (go_at_call 98; (with_reducible refine ke.mono ?_); rintro e wn ⟨rfl, rfl⟩) | (go_at_call 99; (with_reducible refine kf.mono ?_); rintro e wn ⟨rfl, rfl⟩) | fail)
      go_ret
      exact ⟨_, _, rfl, by rw [← HF.out]; rw [HF.out]; exact HF.out ▸ holds_three _ _ _ _, below_alloc (Below.refl _ _) (Nat.le_refl _) _⟩
set_option maxHeartbeats 1000000 in
theorem reso_y (r : Pl.R) (lev res : Int) (W : World) : Calls Try.prog 68 #[.agg #[.int .i64 r.x0, .int .i64 r.y0, .int .i64 r.x1, .int .i64 r.y1], .int .i64 lev, .int .i64 res] W fun e w' => e = .returned (.agg (rv (Hp.resR r lev res))) ∧ Below W.heap.size W w' := by
  have ke := fun W1 : World => exists_y lev res W1
  have HRR := Lib.hid (show Hp.resR r lev res = if Hp.exB lev res = true then Pl.redR r.x0 r.y0 r.x1 r.y1 (Pl.pw (lev - res)) (Pl.pw (lev - res)) else ⟨0, 0, 0, 0⟩ from rfl)
  obtain ⟨WB, hWB⟩ : ∃ ww, ww = ((W.alloc (.cells #[.int .i64 r.x0, .int .i64 r.y0, .int .i64 r.x1, .int .i64 r.y1] 23)).alloc (.cells #[.int .i64 0, .int .i64 0, .int .i64 0, .int .i64 0] 23)) := ⟨_, rfl⟩
  have hb0 : Below W.heap.size W WB := by rw [hWB]; exact (below_alloc (below_alloc (Below.refl _ W) (Nat.le_refl _) _) (by simp <;> omega) _)
  have B0 := Lib.hid hb0
  have hX : Blk WB (W.heap.size) 23 #[.int .i64 r.x0, .int .i64 r.y0, .int .i64 r.x1, .int .i64 r.y1] := by
    have := Blk.new (W) 23 #[.int .i64 r.x0, .int .i64 r.y0, .int .i64 r.x1, .int .i64 r.y1]
    rw [hWB]
    exact ((show Blk _ (W.heap.size) _ _ by simpa using this)).alloc _
  have HX0 := Lib.hid hX
  have hY : Blk WB (W.heap.size + 1) 23 #[.int .i64 0, .int .i64 0, .int .i64 0, .int .i64 0] := by
    have := Blk.new ((W.alloc (.cells #[.int .i64 r.x0, .int .i64 r.y0, .int .i64 r.x1, .int .i64 r.y1] 23))) 23 #[.int .i64 0, .int .i64 0, .int .i64 0, .int .i64 0]
    rw [hWB]
    exact (show Blk _ (W.heap.size + 1) _ _ by simpa using this)
  have HY0 := Lib.hid hY
  have HWB := Lib.hid hWB
  clear hb0 hWB hX hY
  cases hx : Hp.exB lev res with
  | false =>
    rw [hx] at ke
    rw [HRR.out, if_neg (by rw [hx]; decide)]
    clear hx HRR
    have hw2 := HWB.out
    go_enter Try.func68, Try.ntmps68
    go_upto_region 1 with fail
    rw [← hw2]
    clear hw2
    obtain ⟨y0, y1, y2, y3⟩ := HY0.out.four
    have yf := HY0.out.free
    go_wp2_with (first | (go_at_call 98; (with_reducible refine (ke _).mono ?_); rintro e wn ⟨rfl, rfl⟩) | fail)
    refine bodyPost_ret (results_r rfl _ rfl (HY0.out.set4 _ _ _ _)) rfl ?_
    exact ⟨rfl, below4 B0.out (by omega) _ _ _ _⟩
  | true =>
    rw [hx] at ke
    rw [HRR.out, if_pos hx]
    obtain ⟨x1, x2, x3⟩ := ex_iff.1 hx
    obtain ⟨sa, wa1, wa2, wa3⟩ := pw_facts (e := lev - res) (m := 12) (by omega) (by omega)
    have w1 : IntKind.i64.wrap (lev - res) = lev - res := IntWalk.i64_in _ (by omega)
    have wa0 : wrap64 (2 ^ min (lev - res).toNat 64) = Pl.pw (lev - res) := by rw [show min (lev - res).toNat 64 = (lev - res).toNat by omega, sa, ← IntWalk.i64_left]; exact wa1
    have z1 : 0 ≤ lev - res := by omega
    have z2 : ¬ lev - res < 0 := by omega
    have kr := fun W1 : World => red_c r.x0 r.y0 r.x1 r.y1 (Pl.pw (lev - res)) (Pl.pw (lev - res)) W1
    generalize Pl.redR r.x0 r.y0 r.x1 r.y1 (Pl.pw (lev - res)) (Pl.pw (lev - res)) = Q at *
    generalize Pl.pw (lev - res) = PW at *
    obtain ⟨DF, hDF⟩ : ∃ q, lev - res = q := ⟨_, rfl⟩
    have w1' : IntKind.i64.wrap (lev - res) = DF := w1.trans hDF
    rw [hDF] at z1 z2 sa wa0
    clear hx HRR x1 x2 x3 w1 hDF
    have hw2 := HWB.out
    go_enter Try.func68, Try.ntmps68
    go_upto_region 1 with fail
    rw [← hw2]
    clear hw2
    obtain ⟨x0, x1, x2, x3⟩ := HX0.out.four
    go_wp2_with (first | (go_at_call 98; (with_reducible refine (ke _).mono ?_); rintro e wn ⟨rfl, rfl⟩) | (go_at_call 29; (with_reducible refine (kr _).mono ?_); rintro e w1 ⟨rfl, hb1⟩; have HY1 := Lib.hid (HY0.out.below hb1); have B1 := Lib.hid (B0.out.trans (hb1.mono B0.out.size)); obtain ⟨y0, y1, y2, y3⟩ := HY1.out.four; have yf := HY1.out.free; clear hb1) | fail)
    refine bodyPost_ret (results_r rfl _ rfl (HY1.out.set4 _ _ _ _)) rfl ?_
    exact ⟨rfl, below4 B1.out (by omega) _ _ _ _⟩
/-- A subband's level, orientation, and that there is one. -/
theorem ok_iff {idx lev : Int} : Hp.okI idx lev = true ↔ (0 ≤ idx ∧ idx < Hp.cntM lev) := by simp [Hp.okI]
theorem cnt_pos {lev idx : Int} (h0 : 0 ≤ idx) (h : idx < Hp.cntM lev) : 0 ≤ lev ∧ lev ≤ 5 ∧ idx ≤ 3 * lev := by
  unfold Hp.cntM at h
  split at h <;> omega
theorem cd3 {idx : Int} (h : 0 ≤ idx) : Pl.cd idx 3 = Hp.rsI idx := by
  have t1 : idx.tmod 3 = idx % 3 := Int.tmod_eq_emod_of_nonneg h
  have t2 : idx.tdiv 3 = idx / 3 := Int.tdiv_eq_ediv_of_nonneg h
  rw [Pl.cd, if_neg (by decide), t1, t2, Hp.rsI]
  split <;> omega
set_option maxHeartbeats 1000000 in
theorem place_y (idx lev : Int) (W : World) : Calls Try.prog 100 #[.int .i64 idx, .int .i64 lev] W fun e w' => e = .returned (.tuple #[.int .i64 (Hp.lvI idx lev), .int .i64 (Hp.orI idx lev), .bool (Hp.okI idx lev)]) ∧ w' = W := by
  have kc := count_y lev W
  have HL := Lib.hid (show Hp.lvI idx lev = if Hp.okI idx lev = true then (if idx = 0 then lev else lev - Hp.rsI idx + 1) else 0 from rfl)
  have HO := Lib.hid (show Hp.orI idx lev = if Hp.okI idx lev = true then (if idx = 0 then 0 else idx - 3 * Hp.rsI idx + 3) else 0 from rfl)
  have HK := Lib.hid (show Hp.okI idx lev = decide (0 ≤ idx ∧ idx < Hp.cntM lev) from rfl)
  by_cases h1 : idx < 0
  · have hk : Hp.okI idx lev = false := by rw [HK.out]; exact decide_eq_false (by omega)
    rw [HL.out, HO.out, hk, if_neg (by decide), if_neg (by decide)]
    clear HL HO HK hk
    go_enter Try.func100, Try.ntmps100
    go_wp2_with (first | (go_at_call 64; (with_reducible refine kc.mono ?_); rintro e wn ⟨rfl, rfl⟩) | fail)
    go_ret3
    exact ⟨rfl, rfl⟩
  · by_cases h2 : Hp.cntM lev ≤ idx
    · have hk : Hp.okI idx lev = false := by rw [HK.out]; exact decide_eq_false (by omega)
      rw [HL.out, HO.out, hk, if_neg (by decide), if_neg (by decide)]
      clear HL HO HK hk
      generalize Hp.cntM lev = CN at *
      go_enter Try.func100, Try.ntmps100
      go_wp2_with (first | (go_at_call 64; (with_reducible refine kc.mono ?_); rintro e wn ⟨rfl, rfl⟩) | fail)
      go_ret3
      exact ⟨rfl, rfl⟩
    · have hk : Hp.okI idx lev = true := by rw [HK.out]; exact decide_eq_true (by omega)
      obtain ⟨c1, c2, c3⟩ := cnt_pos (lev := lev) (idx := idx) (by omega) (by omega)
      rw [HL.out, HO.out, hk, if_pos rfl, if_pos rfl]
      by_cases h0 : idx = 0
      · subst h0
        rw [if_pos rfl, if_pos rfl]
        clear HL HO HK hk
        generalize Hp.cntM lev = CN at *
        go_enter Try.func100, Try.ntmps100
        go_wp2_with (first | (go_at_call 64; (with_reducible refine kc.mono ?_); rintro e wn ⟨rfl, rfl⟩) | fail)
        go_ret3
        exact ⟨rfl, rfl⟩
      · rw [if_neg h0, if_neg h0]
        have t0 : (idx == 0) = false := by simp [h0]
        have kd := cd_cs idx 3 W (by omega) (by omega)
        rw [cd3 (by omega)] at kd
        have r1 : 1 ≤ Hp.rsI idx ∧ Hp.rsI idx ≤ 6 ∧ 3 * Hp.rsI idx ≤ idx + 2 ∧ idx ≤ 3 * Hp.rsI idx := by unfold Hp.rsI; omega
        have kf := first_y (Hp.rsI idx) W (by omega)
        have w1 : IntKind.i64.wrap (lev - Hp.rsI idx) = lev - Hp.rsI idx := IntWalk.i64_in _ (by omega)
        have w2 : IntKind.i64.wrap (lev - Hp.rsI idx + 1) = lev - Hp.rsI idx + 1 := IntWalk.i64_in _ (by omega)
        have w3 : IntKind.i64.wrap (idx - (3 * Hp.rsI idx - 2)) = idx - (3 * Hp.rsI idx - 2) := IntWalk.i64_in _ (by omega)
        have w4 : IntKind.i64.wrap (1 + (idx - (3 * Hp.rsI idx - 2))) = idx - 3 * Hp.rsI idx + 3 := by rw [IntWalk.i64_in _ (by omega)]; omega
        generalize Hp.cntM lev = CN at *
        generalize Hp.rsI idx = RS at *
        obtain ⟨f, hf⟩ : ∃ f, 3 * RS - 2 = f := ⟨_, rfl⟩
        rw [hf] at kf w3 w4
        clear HL HO HK hk h0 r1 hf c1 c2 c3
        go_enter Try.func100, Try.ntmps100
        go_wp2_with (first | (go_at_call 64; (with_reducible refine kc.mono ?_); rintro e wn ⟨rfl, rfl⟩) | (go_at_call 58; (with_reducible refine kd.mono ?_); rintro e wn ⟨rfl, rfl⟩) | (go_at_call 99; (with_reducible refine kf.mono ?_); rintro e wn ⟨rfl, rfl⟩) | fail)
        go_ret3
        exact ⟨rfl, rfl⟩
end Go.Proofs.Ytkcjbehfhcmiaaa
