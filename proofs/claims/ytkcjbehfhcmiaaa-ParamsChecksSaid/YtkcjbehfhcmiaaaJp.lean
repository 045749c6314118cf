/-
  Layer 23 (reference): contracts of Precinct, Planes, Lossless; what few returns.
-/
import Derived.Test.YtkcjbehfhcmiaaaHw
import Derived.Test.YtkcjbehfhcmiaaaHz1
set_option maxRecDepth 100000
namespace Go.Proofs.Ytkcjbehfhcmiaaa
open Go.RowKit

set_option maxHeartbeats 4000000 in
theorem rprec_c (p : Hp.Ps) (s s2 : Option Addr) (m m2 : Nat) (res : Int) (W : World) (hP : HoldsP W s p.prec) : Calls Try.prog 14 #[.agg (pvA p s m s2 m2), .int .i64 res] W fun e w' => e = .returned (.agg #[.int .i64 (Hp.precM p res).x, .int .i64 (Hp.precM p res).y]) ∧ Below W.heap.size W w' := by
  obtain ⟨WB, hWB⟩ : ∃ ww, ww = ((W.alloc (.cells (pvA p s m s2 m2) 35)).alloc (.cells #[.int .i64 0, .int .i64 0] 41)) := ⟨_, rfl⟩
  have hb0 : Below W.heap.size W WB := by rw [hWB]; exact (below_alloc (below_alloc (Below.refl _ W) (Nat.le_refl _) _) (by simp <;> omega) _)
  have B0 := Lib.hid hb0
  have hPb : Blk WB (W.heap.size) 35 (pvA p s m s2 m2) := by
    have := Blk.new (W) 35 (pvA p s m s2 m2)
    rw [hWB]
    exact ((show Blk _ (W.heap.size) _ _ by simpa using this)).alloc _
  have HP0 := Lib.hid hPb
  have hYb : Blk WB (W.heap.size + 1) 41 #[.int .i64 0, .int .i64 0] := by
    have := Blk.new ((W.alloc (.cells (pvA p s m s2 m2) 35))) 41 #[.int .i64 0, .int .i64 0]
    rw [hWB]
    exact (show Blk _ (W.heap.size + 1) _ _ by simpa using this)
  have HY0 := Lib.hid hYb
  have HW2 := hWB
  clear hb0 hWB hPb hYb
  have p1 := HP0.out.get 1 (v := .int .i64 p.lev) rfl
  have p5 := HP0.out.get 5 (v := .slice s p.prec.length m) rfl
  obtain ⟨y0, y1⟩ := HY0.out.two
  have yf := HY0.out.free
  unfold pvA at HW2 ⊢
  have HM := Lib.hid (show Hp.precM p res = if res < 0 ∨ p.lev < res then Hp.zP else if p.prec.length = 0 then ⟨12, 12⟩ else if (p.prec.length : Int) ≤ res then Hp.zP else p.prec.getD res.toNat Hp.zP from rfl)
  by_cases g0 : res < 0
  · rw [show Hp.precM p res = ⟨0, 0⟩ by rw [HM.out, if_pos (.inl g0)]; rfl]
    clear HM
    go_enter Try.func14, Try.ntmps14
    go_upto_region 1 with fail
    rw [← HW2]
    clear HW2
    go_wp2_with fail
    refine bodyPost_ret (results_p1 rfl _ rfl (HY0.out.set2 _ _)) rfl ?_
    exact ⟨rfl, below2 B0.out (by omega) _ _⟩
  · by_cases g1 : p.lev < res
    · rw [show Hp.precM p res = ⟨0, 0⟩ by rw [HM.out, if_pos (.inr g1)]; rfl]
      clear HM
      go_enter Try.func14, Try.ntmps14
      go_upto_region 1 with fail
      rw [← HW2]
      clear HW2
      go_wp2_with fail
      refine bodyPost_ret (results_p1 rfl _ rfl (HY0.out.set2 _ _)) rfl ?_
      exact ⟨rfl, below2 B0.out (by omega) _ _⟩
    · have gg : ¬ (res < 0 ∨ p.lev < res) := by omega
      by_cases h2 : p.prec.length = 0
      · rw [show Hp.precM p res = ⟨12, 12⟩ by rw [HM.out, if_neg gg, if_pos h2]]
        have t1 : ((p.prec.length : Int) == 0) = true := by simp [h2]
        have t2 : (p.prec.length == 0) = true := by simp [h2]
        clear HM gg h2
        go_enter Try.func14, Try.ntmps14
        go_upto_region 1 with fail
        rw [← HW2]
        clear HW2
        go_wp2_with fail
        refine bodyPost_ret (results_p1 rfl _ rfl (HY0.out.set2 _ _)) rfl ?_
        exact ⟨rfl, below2 B0.out (by omega) _ _⟩
      · have t1 : ((p.prec.length : Int) == 0) = false := by simp [h2]
        have t2 : (p.prec.length == 0) = false := by simp [h2]
        by_cases h3 : (p.prec.length : Int) ≤ res
        · rw [show Hp.precM p res = ⟨0, 0⟩ by rw [HM.out, if_neg gg, if_neg h2, if_pos h3]; rfl]
          clear HM gg h2
          go_enter Try.func14, Try.ntmps14
          go_upto_region 1 with fail
          rw [← HW2]
          clear HW2
          go_wp2_with fail
          refine bodyPost_ret (results_p1 rfl _ rfl (HY0.out.set2 _ _)) rfl ?_
          exact ⟨rfl, below2 B0.out (by omega) _ _⟩
        · obtain ⟨k, rfl⟩ : ∃ k : Nat, res = k := ⟨res.toNat, by omega⟩
          have hk : k < p.prec.length := by omega
          have hki : (k : Int) < (p.prec.length : Int) := by omega
          have HE := Lib.hid (show Hp.precM p k = p.prec[k] by rw [HM.out, if_neg gg, if_neg h2, if_neg h3]; simp [List.getD_eq_getElem?_getD, hk])
          rw [HE.out]
          rcases hP with q | ⟨b, o, rfl, hr⟩
          · rw [q] at hk; simp at hk
          obtain ⟨c0, c1⟩ := (hr k hk).below B0.out (Nat.le_refl _)
          generalize p.prec[k] = V at *
          clear HM HE hr gg h2
          go_enter Try.func14, Try.ntmps14
          go_upto_region 1 with fail
          rw [← HW2]
          clear HW2
          go_wp2_with fail
          refine bodyPost_ret (results_p1 rfl _ rfl (HY0.out.set2 _ _)) rfl ?_
          exact ⟨rfl, below2 B0.out (by omega) _ _⟩
theorem drewN_below_of {B : Nat} {W w : World} (h : Below B W w) (n : Nat) : Below B W (w.drewN n) := below_drewN h n
set_option maxHeartbeats 8000000 in
theorem rplanes_c (p : Hp.Ps) (s s2 : Option Addr) (m m2 : Nat) (band : Int) (W : World) (_ : p.steps.length ≤ 4398046511104) (hS : HoldsI W s2 p.steps) : Calls Try.prog 16 #[.agg (pvA p s m s2 m2), .int .i64 band] W fun e w' => e = .returned (.int .i64 (planeM p band)) ∧ Below W.heap.size W w' := by
  obtain ⟨WB, hWB⟩ : ∃ ww, ww = (W.alloc (.cells (pvA p s m s2 m2) 35)) := ⟨_, rfl⟩
  have hb0 : Below W.heap.size W WB := by rw [hWB]; exact (below_alloc (Below.refl _ W) (Nat.le_refl _) _)
  have B0 := Lib.hid hb0
  have hPb : Blk WB (W.heap.size) 35 (pvA p s m s2 m2) := by
    have := Blk.new (W) 35 (pvA p s m s2 m2)
    rw [hWB]
    exact (show Blk _ (W.heap.size) _ _ by simpa using this)
  have HP0 := Lib.hid hPb
  have HW2 := hWB
  clear hb0 hWB hPb
  have p16 := HP0.out.get 16 (v := .slice s2 p.steps.length m2) rfl
  have p17 := HP0.out.get 17 (v := .int .i64 p.dead) rfl
  have p18 := HP0.out.get 18 (v := .int .i64 p.sh) rfl
  have kin := fun w : World => in_r p.sh 0 30 w
  have HM := Lib.hid (show planeM p band = if Hp.inB 0 ((p.steps.length : Int) - 1) band = false then 0 else if Qu.vB (p.steps.getD band.toNat 0) p.dead = false then 0 else if Hp.inB 0 30 p.sh = false then 0 else plN 268435455 (p.steps.getD band.toNat 0) p.dead + p.sh from rfl)
  unfold pvA at HW2 ⊢
  by_cases g0 : band < 0
  · rw [show planeM p band = 0 by rw [HM.out, if_pos (Hp.in_not.2 (.inl g0))]]
    clear HM kin
    go_enter Try.func16, Try.ntmps16
    go_upto_region 1 with fail
    rw [← HW2]
    clear HW2
    go_wp2_with fail
    go_ret
    exact ⟨rfl, B0.out⟩
  · by_cases g1 : (p.steps.length : Int) ≤ band
    · rw [show planeM p band = 0 by rw [HM.out, if_pos (Hp.in_not.2 (.inr (by omega)))]]
      clear HM kin
      go_enter Try.func16, Try.ntmps16
      go_upto_region 1 with fail
      rw [← HW2]
      clear HW2
      go_wp2_with fail
      go_ret
      exact ⟨rfl, B0.out⟩
    · obtain ⟨k, rfl⟩ : ∃ k : Nat, band = k := ⟨band.toNat, by omega⟩
      have hk : k < p.steps.length := by omega
      have hki : (k : Int) < (p.steps.length : Int) := by omega
      have hin : Hp.inB 0 ((p.steps.length : Int) - 1) (k : Int) = true := Hp.in_iff.2 (by omega)
      rw [hin] at HM
      cases h3 : Hp.inB 0 30 p.sh with
      | false =>
        rw [show planeM p k = 0 by rw [HM.out, h3]; simp]
        rw [h3] at kin
        clear HM h3 hin
        go_enter Try.func16, Try.ntmps16
        go_upto_region 1 with fail
        rw [← HW2]
        clear HW2
        go_wp2_with (first | (go_at_call 44; (with_reducible refine (kin _).mono ?_); rintro e wn ⟨rfl, rfl⟩) | (go_at_call 45; (with_reducible refine (kv _).mono ?_); rintro e wn ⟨rfl, rfl⟩) | (go_at_call 46; (with_reducible refine (kp _).mono ?_); rintro e wn ⟨rfl, rfl⟩) | fail)
        go_ret
        exact ⟨rfl, B0.out⟩
      | true =>
        rw [h3] at kin HM
        rcases hS with q | ⟨b, o, rfl, hr⟩
        · rw [q] at hk; simp at hk
        have y0 := (B0.out.cell (p := ⟨b, _, none⟩) (cell_lt (hr k hk))).trans (hr k hk)
        have he : p.steps.getD ((k : Int)).toNat 0 = p.steps[k] := by rw [List.getD_eq_getElem?_getD]; simp [hk]
        rw [he] at HM
        generalize p.steps[k] = V at *
        have kv := fun w : World => vd_r V p.dead w
        have kp := fun w : World => pl_r 268435455 V p.dead w
        clear he hr hin
        have sb := Hp.in_iff.1 h3
        have HB := Lib.hid (plN_bd 268435455 V p.dead)
        cases h2 : Qu.vB V p.dead with
        | false =>
          rw [show planeM p k = 0 by rw [HM.out, h2]; rfl]
          rw [h2] at kv
          clear HM h2 h3 HB sb
          go_enter Try.func16, Try.ntmps16
          go_upto_region 1 with fail
          rw [← HW2]
          clear HW2
          have KS := Lib.hid (And.intro p16 (And.intro p17 (And.intro p18 y0)))
          go_upto_region 3 with (first | (go_at_call 44; (with_reducible refine (kin _).mono ?_); rintro e wn ⟨rfl, rfl⟩) | (go_at_call 45; (with_reducible refine (kv _).mono ?_); rintro e wn ⟨rfl, rfl⟩) | (go_at_call 46; (with_reducible refine (kp _).mono ?_); rintro e wn ⟨rfl, rfl⟩) | fail)
          go_quiet ((first | (go_at_call 45; with_reducible exact Calls.quiet_of_same (kv _)) | (go_at_call 46; with_reducible exact Calls.quiet_of_same (kp _))))
          go_wp2_with fail
          go_ret
          exact ⟨rfl, drewN_below_of B0.out _⟩
        | true =>
          rw [show planeM p k = plN 268435455 V p.dead + p.sh by rw [HM.out, h2]; rfl]
          rw [h2] at kv
          clear HM h2 h3
          obtain ⟨PN, hPN⟩ : ∃ x, plN 268435455 V p.dead = x := ⟨_, rfl⟩
          rw [hPN] at kp HB ⊢
          have ws : IntKind.i64.wrap (PN + p.sh) = PN + p.sh := IntWalk.i64_in _ (by have := HB.out; omega)
          have ws' : wrap64 (PN + p.sh) = PN + p.sh := (IntWalk.i64_left _).symm.trans ws
          clear hPN HB
          go_enter Try.func16, Try.ntmps16
          go_upto_region 1 with fail
          rw [← HW2]
          clear HW2
          go_upto_region 3 with (first | (go_at_call 44; (with_reducible refine (kin _).mono ?_); rintro e wn ⟨rfl, rfl⟩) | (go_at_call 45; (with_reducible refine (kv _).mono ?_); rintro e wn ⟨rfl, rfl⟩) | (go_at_call 46; (with_reducible refine (kp _).mono ?_); rintro e wn ⟨rfl, rfl⟩) | fail)
          go_quiet ((first | (go_at_call 45; with_reducible exact Calls.quiet_of_same (kv _)) | (go_at_call 46; with_reducible exact Calls.quiet_of_same (kp _))))
          go_upto_region 5 with fail
          obtain ⟨X, hX⟩ : ∃ X, X = wn.drewN nq := ⟨_, rfl⟩
          have q16 : X.cell? ⟨W.heap.size, 16, none⟩ = some (.slice (some ⟨b, o, none⟩) p.steps.length m2) := by rw [hX]; exact p16
          have q17 : X.cell? ⟨W.heap.size, 17, none⟩ = some (.int .i64 p.dead) := by rw [hX]; exact p17
          have q18 : X.cell? ⟨W.heap.size, 18, none⟩ = some (.int .i64 p.sh) := by rw [hX]; exact p18
          have y1 : X.cell? ⟨b, o + k, none⟩ = some (.int .i64 V) := by rw [hX]; exact y0
          have BX := Lib.hid (show Below W.heap.size W X by rw [hX]; exact below_drewN B0.out _)
          rw [← hX]
          clear hX p16 p17 p18 y0
          go_quiet ((first | (go_at_call 45; with_reducible exact Calls.quiet_of_same (kv _)) | (go_at_call 46; with_reducible exact Calls.quiet_of_same (kp _))))
          go_wp2_with fail
          go_ret
          exact ⟨rfl, below_drewN BX.out _⟩
set_option maxHeartbeats 4000000 in
theorem rlossless_c (p : Hp.Ps) (s s2 : Option Addr) (m m2 : Nat) (W : World) (hl : p.steps.length ≤ 4398046511104) (hS : HoldsI W s2 p.steps) : Calls Try.prog 18 #[.agg (pvA p s m s2 m2)] W fun e w' => e = .returned (.bool (losM p)) ∧ Below W.heap.size W w' := by
  obtain ⟨WB, hWB⟩ : ∃ ww, ww = (W.alloc (.cells (pvA p s m s2 m2) 35)) := ⟨_, rfl⟩
  have hb0 : Below W.heap.size W WB := by rw [hWB]; exact (below_alloc (Below.refl _ W) (Nat.le_refl _) _)
  have B0 := Lib.hid hb0
  have hPb : Blk WB (W.heap.size) 35 (pvA p s m s2 m2) := by
    have := Blk.new (W) 35 (pvA p s m s2 m2)
    rw [hWB]
    exact (show Blk _ (W.heap.size) _ _ by simpa using this)
  have HP0 := Lib.hid hPb
  have HW2 := hWB
  clear hb0 hWB hPb
  have k1 := fun w : World => thr_r 1 p.dead w
  have p16 := HP0.out.get 16 (v := .slice s2 p.steps.length m2) rfl
  have p17 := HP0.out.get 17 (v := .int .i64 p.dead) rfl
  have HM := Lib.hid (show losM p = (decide (0 < p.steps.length) && (Hp.allB 1 1 p.steps && decide (Qu.thr 1 p.dead = 1))) from rfl)
  unfold pvA at HW2 ⊢
  go_enter Try.func18, Try.ntmps18
  go_upto_region 1 with fail
  rw [← HW2]
  clear HW2
  go_upto_region 2 with fail
  go_loopw [3] (fun i wr => ∃ k : Nat, k ≤ p.steps.length ∧ i = .int .i64 k ∧ Hid (∀ j (hj : j < p.steps.length), j < k → p.steps[j] = 1) ∧ wr = WB) (fun i _ => p.steps.length - (intOf i).toNat)
  case atStart => exact ⟨0, Nat.zero_le _, rfl, Lib.hid (fun j _ h => absurd h (Nat.not_lt_zero _)), by first | rfl | trivial⟩
  case round =>
    obtain ⟨k, hk, rfl, HA, rfl⟩ := hrel
    by_cases hlt : k < p.steps.length
    · rcases hS with q | ⟨b, o, rfl, hr⟩
      · rw [q] at hlt; simp at hlt
      have y0 := (B0.out.cell (p := ⟨b, _, none⟩) (cell_lt (hr k hlt))).trans (hr k hlt)
      have hki : (k : Int) < (p.steps.length : Int) := by omega
      have w2 : IntKind.i64.wrap ((k : Int) + 1) = (k : Int) + 1 := IntWalk.i64_in _ (by omega)
      have HF := Lib.hid (show p.steps[k] ≠ 1 → losM p = false from fun q => by
        rw [HM.out, show Hp.allB 1 1 p.steps = false from List.all_eq_false.2 ⟨_, List.getElem_mem hlt, by simp [Hp.inB]; omega⟩]; simp)
      have HV := Lib.hid (show p.steps[k] = 1 → ∀ j (hj : j < p.steps.length), j < k + 1 → p.steps[j] = 1 from fun a j hj hjk => if e : j = k then by subst e; exact a else HA.out j hj (by omega))
      generalize p.steps[k] = V at *
      by_cases he : V = 1
      · have hn := HV.out he
        have HN := Lib.hid hn
        have t1 : (V != 1) = false := by simp [he]
        have t2 : decide (V = 1) = true := by simp [he]
        subst he
        clear HF HV HA hn hr
        go_wp2_with fail
        go_roundw
        case rel => exact ⟨k + 1, by omega, by go_num, HN, by first | rfl | trivial⟩
        case measure => simp [intOf]; omega
      · have t1 : (V != 1) = true := by simp [he]
        have HZ := Lib.hid (HF.out he)
        clear HF HV HA hr
        go_wp2_with fail
        go_ret
        exact ⟨by rw [HZ.out]; rfl, B0.out⟩
    · obtain rfl : k = p.steps.length := by omega
      have hall : Hp.allB 1 1 p.steps = true := List.all_eq_true.2 fun x hx => by
        obtain ⟨j, hj, rfl⟩ := List.getElem_of_mem hx
        rw [HA.out j hj hj]; rfl
      by_cases h0 : 0 < p.steps.length
      · have h0i : (0 : Int) < (p.steps.length : Int) := by omega
        have HZ := Lib.hid (show losM p = (Qu.thr 1 p.dead == 1) from Bool.eq_iff_iff.2 (by rw [HM.out, hall]; simp [h0]))
        generalize Qu.thr 1 p.dead = TH at *
        clear HM HA hall
        go_wp2_with (first | (go_at_call 48; (with_reducible refine (k1 _).mono ?_); rintro e wn ⟨rfl, rfl⟩) | fail)
        go_ret
        exact ⟨by rw [HZ.out]; rfl, B0.out⟩
      · have h0i : ¬ (0 : Int) < (p.steps.length : Int) := by omega
        have HZ := Lib.hid (show losM p = false by rw [HM.out]; simp; omega)
        clear HM HA hall
        go_wp2_with fail
        go_ret
        exact ⟨by rw [HZ.out]; rfl, B0.out⟩
def fewB (h : Hp.Hd) (p : Hp.Ps) : Bool := decide (h.cs.length ≤ 10 ∧ p.steps.length ≤ 40 ∧ p.prec.length ≤ 40)
set_option maxHeartbeats 4000000 in
theorem few_c (h : Hp.Hd) (p : Hp.Ps) (sh s s2 : Option Addr) (mh m m2 : Nat) (W : World) : Calls Try.prog 9 #[.agg (hvA h sh mh), .agg (pvA p s m s2 m2)] W fun e w' => e = .returned (.bool (fewB h p)) ∧ Below W.heap.size W w' := by
  obtain ⟨WB, hWB⟩ : ∃ ww, ww = ((W.alloc (.cells (hvA h sh mh) 26)).alloc (.cells (pvA p s m s2 m2) 35)) := ⟨_, rfl⟩
  have hb0 : Below W.heap.size W WB := by rw [hWB]; exact (below_alloc (below_alloc (Below.refl _ W) (Nat.le_refl _) _) (by simp <;> omega) _)
  have B0 := Lib.hid hb0
  have hH : Blk WB (W.heap.size) 26 (hvA h sh mh) := by
    have := Blk.new (W) 26 (hvA h sh mh)
    rw [hWB]
    exact ((show Blk _ (W.heap.size) _ _ by simpa using this)).alloc _
  have hP : Blk WB (W.heap.size + 1) 35 (pvA p s m s2 m2) := by
    have := Blk.new ((W.alloc (.cells (hvA h sh mh) 26))) 35 (pvA p s m s2 m2)
    rw [hWB]
    exact (show Blk _ (W.heap.size + 1) _ _ by simpa using this)
  have y6 := hH.get 6 (v := .slice sh h.cs.length mh) rfl
  have p5 := hP.get 5 (v := .slice s p.prec.length m) rfl
  have p16 := hP.get 16 (v := .slice s2 p.steps.length m2) rfl
  have HW2 := hWB
  clear hb0 hWB hH hP
  have HF := Lib.hid (show fewB h p = decide (h.cs.length ≤ 10 ∧ p.steps.length ≤ 40 ∧ p.prec.length ≤ 40) from rfl)
  unfold hvA pvA at HW2 ⊢
  by_cases c1 : (h.cs.length : Int) ≤ 10
  · have c1' : decide ((h.cs.length : Int) ≤ 10) = true := by simpa using c1
    by_cases c2 : (p.steps.length : Int) ≤ 40
    · have c2' : decide ((p.steps.length : Int) ≤ 40) = true := by simpa using c2
      rw [show fewB h p = decide ((p.prec.length : Int) ≤ 40) by rw [HF.out]; exact decide_eq_decide.2 (by omega)]
      clear HF
      go_enter Try.func9, Try.ntmps9
      go_upto_region 1 with fail
      rw [← HW2]
      clear HW2
      go_wp2_with fail
      go_ret
      exact ⟨by simp, B0.out⟩
    · have c2' : decide ((p.steps.length : Int) ≤ 40) = false := by simpa using c2
      rw [show fewB h p = false by rw [HF.out]; simp; omega]
      clear HF
      go_enter Try.func9, Try.ntmps9
      go_upto_region 1 with fail
      rw [← HW2]
      clear HW2
      go_wp2_with fail
      go_ret
      exact ⟨rfl, B0.out⟩
  · have c1' : decide ((h.cs.length : Int) ≤ 10) = false := by simpa using c1
    rw [show fewB h p = false by rw [HF.out]; simp; omega]
    clear HF
    go_enter Try.func9, Try.ntmps9
    go_upto_region 1 with fail
    rw [← HW2]
    clear HW2
    go_wp2_with fail
    go_ret
    exact ⟨rfl, B0.out⟩
end Go.Proofs.Ytkcjbehfhcmiaaa
