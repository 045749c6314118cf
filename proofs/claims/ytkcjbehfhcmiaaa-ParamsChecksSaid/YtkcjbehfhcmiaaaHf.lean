/-
  Layer 23: contracts of blockExponents and precinctsFit.
-/
import Derived.Test.YtkcjbehfhcmiaaaHe
import Derived.Deep.MidRow
set_option maxRecDepth 100000
namespace Go.Proofs.Ytkcjbehfhcmiaaa
open Go.RowKit

theorem Blk.range {w : World} {B : Nat} {T : TypeId} {cs : Array Value} (h : Blk w B T cs) : w.rangeAt B 0 cs.toList := fun j v hv => by
  rw [Nat.zero_add]
  exact h.get j (by simpa using hv)
theorem info19 : (Try.prog.info? 35).map (·.size) = some 19 := by kernel_rfl
theorem info7 : (Try.prog.info? 26).map (·.size) = some 7 := by kernel_rfl
set_option maxHeartbeats 4000000 in
theorem blockExp_c (p : Hp.Ps) (s s2 : Option Addr) (m m2 : Nat) (res : Int) (W : World) (hP : HoldsP W s p.prec) (hb : -1000000 ≤ (Hp.precM p res).x ∧ (Hp.precM p res).x ≤ 1000000 ∧ -1000000 ≤ (Hp.precM p res).y ∧ (Hp.precM p res).y ≤ 1000000) : Calls Try.prog 72 #[.agg (pvA p s m s2 m2), .int .i64 res] W fun e w' => e = .returned (.agg #[.int .i64 (Hp.bexM p res).x, .int .i64 (Hp.bexM p res).y]) ∧ Below W.heap.size W w' := by
  obtain ⟨WB, hWB⟩ : ∃ ww, ww = ((W.alloc (.cells (pvA p s m s2 m2) 35)).alloc (.cells #[.int .i64 0, .int .i64 0] 41)) := ⟨_, rfl⟩
  have hb0 : Below W.heap.size W WB := by rw [hWB]; exact (below_alloc (below_alloc (Below.refl _ W) (Nat.le_refl _) _) (by simp <;> omega) _)
  have B0 := Lib.hid hb0
  have hP : Blk WB (W.heap.size) 35 (pvA p s m s2 m2) := by
    have := Blk.new (W) 35 (pvA p s m s2 m2)
    rw [hWB]
    exact ((show Blk _ (W.heap.size) _ _ by simpa using this)).alloc _
  have HP0 := Lib.hid hP
  have hY : Blk WB (W.heap.size + 1) 41 #[.int .i64 0, .int .i64 0] := by
    have := Blk.new ((W.alloc (.cells (pvA p s m s2 m2) 35))) 41 #[.int .i64 0, .int .i64 0]
    rw [hWB]
    exact (show Blk _ (W.heap.size + 1) _ _ by simpa using this)
  have HY0 := Lib.hid hY
  have HWB := Lib.hid hWB
  clear hb0 hWB hP hY
  have kp0 := precinct_p p s s2 m m2 res WB (hP.below B0.out (Nat.le_refl _))
  have kp := kp0.mono (R' := fun e w' => e = .returned (.agg #[.int .i64 (Hp.precM p res).x, .int .i64 (Hp.precM p res).y]) ∧ Below W.heap.size W w' ∧ Blk w' (W.heap.size + 1) 41 #[.int .i64 0, .int .i64 0] ∧ Blk w' W.heap.size 35 (pvA p s m s2 m2)) (by rintro e w' ⟨rfl, h⟩; exact ⟨rfl, B0.out.trans (h.mono B0.out.size), HY0.out.below h, HP0.out.below h⟩)
  clear kp0
  have HW2 := HWB.out
  unfold pvA at HW2
  clear B0 HY0 HWB
  have hmn := hmn
  have HM := Lib.hid (show Hp.bexM p res = if 0 < res then ⟨min p.bx ((Hp.precM p res).x - 1), min p.yb ((Hp.precM p res).y - 1)⟩ else ⟨min p.bx (Hp.precM p res).x, min p.yb (Hp.precM p res).y⟩ from rfl)
  unfold pvA at ⊢
  obtain ⟨V, hV⟩ : ∃ v, Hp.precM p res = v := ⟨_, rfl⟩
  rw [hV] at hb HM kp
  clear hV
  by_cases h1 : 0 < res
  · rw [show Hp.bexM p res = ⟨min p.bx (V.x - 1), min p.yb (V.y - 1)⟩ by rw [HM.out, if_pos h1]]
    have w1 : IntKind.i64.wrap (V.x - 1) = V.x - 1 := IntWalk.i64_in _ (by omega)
    have w2 : IntKind.i64.wrap (V.y - 1) = V.y - 1 := IntWalk.i64_in _ (by omega)
    clear HM hb
    go_enter Try.func72, Try.ntmps72
    go_upto_region 1 with fail
    rw [← HW2]
    clear HW2
    go_wp2_with (first | (refine wpList_load_mid rfl 35 (.tmp 2) rfl W.heap.size 0 rfl (pvA p s m s2 m2).toList _ HP0.out.range Try.underlying35 rfl info19 ?_) | (go_at_call 13; (with_reducible refine kp.mono ?_); rintro e wn ⟨rfl, hBn, hYn, hPn⟩; have p3 := fun o : Obj => (hPn.alloc o).get 3 (v := .int .i64 p.bx) rfl; have p4 := fun o : Obj => (hPn.alloc o).get 4 (v := .int .i64 p.yb) rfl; have y0 := fun o : Obj => (hYn.alloc o).two.1; have y1 := fun o : Obj => (hYn.alloc o).two.2; have yf := fun (o : Obj) => (hYn.alloc o).free; have HYn := Lib.hid hYn; have BN := Lib.hid hBn; clear hYn hBn hPn) | fail)
    refine bodyPost_ret (results_p1 rfl _ rfl ((HYn.out.alloc (.cells #[.int .i64 (V.x - 1), .int .i64 (V.y - 1)] 41)).set2 _ _)) rfl ?_
    exact ⟨rfl, below2 (below_alloc BN.out BN.out.size (.cells #[.int .i64 (V.x - 1), .int .i64 (V.y - 1)] 41)) (by omega) _ _⟩
  · rw [show Hp.bexM p res = ⟨min p.bx V.x, min p.yb V.y⟩ by rw [HM.out, if_neg h1]]
    clear HM hb
    go_enter Try.func72, Try.ntmps72
    go_upto_region 1 with fail
    rw [← HW2]
    clear HW2
    go_wp2_with (first | (refine wpList_load_mid rfl 35 (.tmp 2) rfl W.heap.size 0 rfl (pvA p s m s2 m2).toList _ HP0.out.range Try.underlying35 rfl info19 ?_) | (go_at_call 13; (with_reducible refine kp.mono ?_); rintro e wn ⟨rfl, hBn, hYn, hPn⟩; have p3 := fun o : Obj => (hPn.alloc o).get 3 (v := .int .i64 p.bx) rfl; have p4 := fun o : Obj => (hPn.alloc o).get 4 (v := .int .i64 p.yb) rfl; have y0 := fun o : Obj => (hYn.alloc o).two.1; have y1 := fun o : Obj => (hYn.alloc o).two.2; have yf := fun (o : Obj) => (hYn.alloc o).free; have HYn := Lib.hid hYn; have BN := Lib.hid hBn; clear hYn hBn hPn) | fail)
    refine bodyPost_ret (results_p1 rfl _ rfl ((HYn.out.alloc (.cells #[.int .i64 V.x, .int .i64 V.y] 41)).set2 _ _)) rfl ?_
    exact ⟨rfl, below2 (below_alloc BN.out BN.out.size (.cells #[.int .i64 V.x, .int .i64 V.y] 41)) (by omega) _ _⟩
theorem fit_no {p : Hp.Ps} (h0 : p.prec.length ≠ 0) {k : Nat} (hk : k < p.prec.length) (h : Hp.ptB k p.prec[k] = false) : Hp.fitB p = false := by
  have : ¬ ∀ k, k < p.prec.length → Hp.ptB k (p.prec.getD k Hp.zP) = true := fun q => by
    have := q k hk
    rw [List.getD_eq_getElem?_getD] at this
    simp [hk, h] at this
  unfold Hp.fitB
  rw [decide_eq_false this, decide_eq_false h0, Bool.and_false]
  rfl
set_option maxHeartbeats 4000000 in
theorem fits_c (p : Hp.Ps) (s s2 : Option Addr) (m m2 : Nat) (W : World) (hl : p.prec.length ≤ 4398046511104) (hv : 0 ≤ p.lev ∧ p.lev ≤ 5) (hP : HoldsP W s p.prec) : Calls Try.prog 32 #[.agg (pvA p s m s2 m2)] W fun e w' => e = .returned (.bool (Hp.fitB p)) ∧ Below W.heap.size W w' := by
  obtain ⟨WB, hWB⟩ : ∃ ww, ww = (W.alloc (.cells (pvA p s m s2 m2) 35)) := ⟨_, rfl⟩
  have hb0 : Below W.heap.size W WB := by rw [hWB]; exact (below_alloc (Below.refl _ W) (Nat.le_refl _) _)
  have B0 := Lib.hid hb0
  have hP : Blk WB (W.heap.size) 35 (pvA p s m s2 m2) := by
    have := Blk.new (W) 35 (pvA p s m s2 m2)
    rw [hWB]
    exact (show Blk _ (W.heap.size) _ _ by simpa using this)
  have HP0 := Lib.hid hP
  have HWB := Lib.hid hWB
  clear hb0 hWB hP
  have w1 : IntKind.i64.wrap (p.lev + 1) = p.lev + 1 := IntWalk.i64_in _ (by omega)
  have B1 := B0.out
  rw [HWB.out] at B1
  unfold pvA at B1 ⊢
  have BL := Lib.hid B1
  clear B0 HP0 HWB B1
  by_cases h0 : p.prec.length = 0
  · rw [show Hp.fitB p = true by simp [Hp.fitB, h0]]
    have t1 : ((p.prec.length : Int) == 0) = true := by simp [h0]
    have t2 : (p.prec.length == 0) = true := by simp [h0]
    clear h0
    go_enter Try.func32, Try.ntmps32
    go_wp2_with fail
    go_ret
    exact ⟨rfl, BL.out⟩
  · have t1 : ((p.prec.length : Int) == 0) = false := by simp [h0]
    have t2 : (p.prec.length == 0) = false := by simp [h0]
    have H0 := Lib.hid h0
    by_cases h1 : (p.prec.length : Int) = p.lev + 1
    · have t3 : ((p.prec.length : Int) != p.lev + 1) = false := by simp [h1]
      have HL := Lib.hid h1
      clear h0 h1
      go_enter Try.func32, Try.ntmps32
      go_wp2_with fail
      go_loopw [19] (fun i wr => ∃ k : Nat, k ≤ p.prec.length ∧ i = .int .i64 k ∧ (∀ j (hj : j < p.prec.length), j < k → Hp.ptB j p.prec[j] = true) ∧ Below W.heap.size W wr) (fun i _ => p.prec.length - (intOf i).toNat)
      case atStart => exact ⟨0, Nat.zero_le _, rfl, fun j _ h => absurd h (Nat.not_lt_zero _), BL.out⟩
      case round =>
        obtain ⟨k, hk, rfl, hall, hbe⟩ := hrel
        have HA : Hid _ := hall
        have HBe := Lib.hid hbe
        clear hall BL
        by_cases hlt : k < p.prec.length
        · rcases hP with hC | ⟨bb, off, rfl, hr⟩
          · rw [hC] at hlt; simp at hlt
          obtain ⟨c0, c1⟩ := (hr k hlt).below hbe (Nat.le_refl _)
          clear hbe
          have hki : (k : Int) < (p.prec.length : Int) := by omega
          have w2 : IntKind.i64.wrap ((k : Int) + 1) = (k : Int) + 1 := IntWalk.i64_in _ (by omega)
          have HF : Hid (Hp.ptB k p.prec[k] = false → Hp.fitB p = false) := fit_no H0.out hlt
          have HV : Hid (Hp.ptB k p.prec[k] = true → ∀ j (hj : j < p.prec.length), j < k + 1 → Hp.ptB j p.prec[j] = true) := fun a j hj hjk => if e : j = k then by subst e; exact a else HA.out j hj (by omega)
          generalize p.prec[k] = V at *
          have kw := within_twoB (min (k : Int) 1) 12 V.x V.y (wr.alloc (.cells #[.int .i64 V.x, .int .i64 V.y] 41)) (wr.heap.size + 1) (by simp)
          have B2 := Lib.hid (below_alloc (below_alloc HBe.out HBe.out.size (.cells #[.int .i64 V.x, .int .i64 V.y] 41)) (by simp; have := HBe.out.size; omega) (.cells #[.int .i64 V.x, .int .i64 V.y] 3))
          have hmn := hmn
          have HPT := Lib.hid (show Hp.ptB k V = (Hp.inB (min (k : Int) 1) 12 V.x && Hp.inB (min (k : Int) 1) 12 V.y) from rfl)
          cases hpb : (Hp.inB (min (k : Int) 1) 12 V.x && Hp.inB (min (k : Int) 1) 12 V.y) with
          | false =>
            have hf := Lib.hid (HF.out (by rw [HPT.out, hpb]))
            rw [hpb] at kw
            clear HF HV HA hpb HPT
            go_wp2_with (first | (go_at_call 41; (with_reducible refine kw.mono ?_); rintro e wn ⟨rfl, rfl⟩) | fail)
            go_ret
            exact ⟨congrArg (fun b => Ending.returned (.bool b)) hf.out.symm, B2.out⟩
          | true =>
            have HN : Hid _ := HV.out (by rw [HPT.out, hpb])
            rw [hpb] at kw
            clear HF HV HA hpb HPT
            go_wp2_with (first | (go_at_call 41; (with_reducible refine kw.mono ?_); rintro e wn ⟨rfl, rfl⟩) | fail)
            go_roundw
            case rel => exact ⟨k + 1, by omega, by go_num, HN.out, B2.out⟩
            case measure => simp [intOf]; omega
        · obtain rfl : k = p.prec.length := by omega
          have hf := Lib.hid (show Hp.fitB p = true by
            have h2 : ∀ k, k < p.prec.length → Hp.ptB k (p.prec.getD k Hp.zP) = true := fun k hk => by
              rw [List.getD_eq_getElem?_getD]
              simp [hk, HA.out k hk hk]
            unfold Hp.fitB
            rw [decide_eq_true h2, decide_eq_true HL.out]
            simp)
          clear HA
          go_wp2
          go_ret
          exact ⟨congrArg (fun b => Ending.returned (.bool b)) hf.out.symm, HBe.out⟩
    · have t3 : ((p.prec.length : Int) != p.lev + 1) = true := by simp [h1]
      rw [show Hp.fitB p = false by simp [Hp.fitB, h0, h1]]
      clear h0 h1
      go_enter Try.func32, Try.ntmps32
      go_wp2_with fail
      go_ret
      exact ⟨rfl, BL.out⟩
end Go.Proofs.Ytkcjbehfhcmiaaa
