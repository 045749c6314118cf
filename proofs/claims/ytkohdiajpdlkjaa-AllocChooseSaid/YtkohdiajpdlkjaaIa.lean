/-
  Layer 20: contracts of next: the code's closure, the code's and the reference's.
-/
import Derived.Test.YtkohdiajpdlkjaaHx
import Derived.Test.YtkohdiajpdlkjaaHz
set_option maxRecDepth 100000
namespace Go.Proofs.Ytkohdiajpdlkjaa
open Go.RowKit

theorem sub_wrap {a b : Int} (ha : okD a) (hb : okD b) : IntKind.i64.wrap (a - b) = a - b := by unfold okD at *; rw [IntWalk.i64_left]; unfold wrap64; omega
theorem subr_wrap {a b : Int} (ha : okR a) (hb : okR b) : IntKind.i64.wrap (a - b) = a - b := by unfold okR at *; rw [IntWalk.i64_left]; unfold wrap64; omega
set_option maxHeartbeats 4000000 in
theorem cmpc_c (R D : List Int) (hv : VP R D) (n mr md i j k gc gi : Nat) (sr sd : Option Addr) (W : World) (hn : n = D.length) (hR : HoldsI W sr R) (hD : HoldsI W sd D) (hC : Blk W gc 37 #[.slice sr n mr, .slice sd n md]) (hI : W.cell? ⟨gi, 0, none⟩ = some (.int .i64 (i : Int))) (hi : i < n) (hj : j < n) (hk : k < n) :
    Calls Try.prog 42 #[.int .i64 (j : Int), .int .i64 (k : Int), .pointer (some ⟨gc, 0, none⟩), .pointer (some ⟨gi, 0, none⟩)] W fun e w' => e = .returned (.int .i64 (slp R D i j k)) ∧ Below W.heap.size W w' := by
  have hlen := hv.1
  obtain ⟨b, off, rfl, ri⟩ := hR.at (show i < R.length by omega)
  have rj := hR.of (show j < R.length by omega)
  have rk := hR.of (show k < R.length by omega)
  obtain ⟨b2, off2, rfl, di⟩ := hD.at (show i < D.length by omega)
  have dj := hD.of (show j < D.length by omega)
  have dk := hD.of (show k < D.length by omega)
  obtain ⟨q0, q1⟩ := cv2 hC
  have e1 := sub_wrap (hv.d (show i < D.length by omega)) (hv.d (show j < D.length by omega))
  have e2 := sub_wrap (hv.d (show i < D.length by omega)) (hv.d (show k < D.length by omega))
  have e3 := subr_wrap (hv.r (show j < D.length by omega)) (hv.r (show i < D.length by omega))
  have e4 := subr_wrap (hv.r (show k < D.length by omega)) (hv.r (show i < D.length by omega))
  have ks := fun W => hsteeper_c (D.getD i 0 - D.getD j 0) (R.getD j 0 - R.getD i 0) (D.getD i 0 - D.getD k 0) (R.getD k 0 - R.getD i 0) W
  rw [show steep (D.getD i 0 - D.getD j 0) (R.getD j 0 - R.getD i 0) (D.getD i 0 - D.getD k 0) (R.getD k 0 - R.getD i 0) = slp R D i j k from rfl] at ks
  have i1 : (0 : Int) ≤ (i : Int) := by omega
  have i2 : (i : Int) < (n : Int) := by omega
  have j1 : (0 : Int) ≤ (j : Int) := by omega
  have j2 : (j : Int) < (n : Int) := by omega
  have k1 : (0 : Int) ≤ (k : Int) := by omega
  have k2 : (k : Int) < (n : Int) := by omega
  clear hlen hv hn hR hD hC hi hj hk
  generalize slp R D i j k = s at *
  generalize R.getD i 0 = xi at *
  generalize R.getD j 0 = xj at *
  generalize R.getD k 0 = xk at *
  generalize D.getD i 0 = yi at *
  generalize D.getD j 0 = yj at *
  generalize D.getD k 0 = yk at *
  go_enter Try.func42, Try.ntmps42
  go_wp2_with fail
  go_quiet ((go_at_call 31; exact Calls.quiet_of_same (ks _)))
  go_wp2_with fail
  go_ret
  exact ⟨rfl, drewN_below _ _⟩
set_option maxHeartbeats 8000000 in
theorem hnext_c (R D : List Int) (hv : VP R D) (n mr md i : Nat) (sr sd : Option Addr) (W : World) (hn : n = D.length) (hR : HoldsI W sr R) (hD : HoldsI W sd D) (hi : i < n) :
    Calls Try.prog 36 #[.agg #[.slice sr n mr, .slice sd n md], .int .i64 (i : Int)] W fun e w' => e = .returned (.int .i64 (nxt R D i : Int)) ∧ Below W.heap.size W w' := by
  obtain ⟨b2, off2, rfl, -⟩ := hD.at (show i < D.length by omega)
  obtain ⟨b3, off3, rfl, -⟩ := hR.at (show i < R.length by have := hv.1; omega)
  obtain ⟨WA, hWA⟩ : ∃ x, x = (W.alloc (.cells #[.slice (some ⟨b3, off3, none⟩) n mr, .slice (some ⟨b2, off2, none⟩) n md] 37)).alloc (.cells #[.int .i64 (i : Int)] 3) := ⟨_, rfl⟩
  have hB : Below W.heap.size W WA := by rw [hWA]; exact below_alloc (below_alloc (Below.refl _ W) _) _
  have hX : Blk WA W.heap.size 37 #[.slice (some ⟨b3, off3, none⟩) n mr, .slice (some ⟨b2, off2, none⟩) n md] := by rw [hWA]; exact (Blk.new W _ _).alloc _
  have hY : Blk WA (W.heap.size + 1) 3 #[.int .i64 (i : Int)] := by
    have := Blk.new (W.alloc (.cells #[.slice (some ⟨b3, off3, none⟩) n mr, .slice (some ⟨b2, off2, none⟩) n md] 37)) 3 #[.int .i64 (i : Int)]
    rw [hWA]; simpa using this
  have H179 := Lib.hid (show n ≤ 179 by have := hv.1; have := hv.2.2.1; omega)
  have HB := Lib.hid hB
  have HX := Lib.hid hX
  have HY := Lib.hid hY
  have HR := Lib.hid (hR.below hB (Nat.le_refl _))
  have HD := Lib.hid (hD.below hB (Nat.le_refl _))
  have HWA := Lib.hid hWA
  have HN := Lib.hid hn
  have HV := Lib.hid hv
  have HI := Lib.hid hi
  have e1 : IntKind.i64.wrap ((n : Int) - (i : Int)) = ((n - i : Nat) : Int) := by have := H179.out; rw [IntWalk.i64_left]; unfold wrap64; omega
  obtain ⟨N, hN⟩ : ∃ N, N = n - i := ⟨_, rfl⟩
  rw [← hN] at e1
  have hret : nxt R D i = nxF R D i N := by unfold nxt; rw [← hn, ← hN]
  have HRET := Lib.hid hret
  have HNN := Lib.hid hN
  clear hB hX hY hR hD hWA hn hv hN hret hi
  go_enter Try.func36, Try.ntmps36
  go_wp2_with fail
  clear e1
  rw [← HWA.out]
  go_loopw [6, 17] (fun v u wr => ∃ k : Nat, k ≤ N ∧ u = .int .i64 (k : Int) ∧ v = .int .i64 (nxF R D i k : Int) ∧ Hid (Below WA.heap.size WA wr)) (fun _ u _ => N - (intOf u).toNat)
  case atStart => exact ⟨0, Nat.zero_le _, rfl, rfl, Below.refl _ _⟩
  case round =>
    obtain ⟨k, hk, rfl, rfl, hW⟩ := hrel
    by_cases hlt : k < N
    · obtain ⟨b, hb⟩ : ∃ b, b = nxF R D i k := ⟨_, rfl⟩
      have hbn : b < n := by
        have := HI.out; have := HNN.out
        rcases nxF_in R D i k with h | h <;> omega
      have hjn : i + k < n := by have := HNN.out; omega
      have hcj := HD.out.call hW.out
      have hc := hcj.of (show i < D.length by have := HN.out; have := HI.out; omega)
      have dj := hcj.of (show i + k < D.length by have := HN.out; omega)
      have db := hcj.of (show b < D.length by have := HN.out; omega)
      obtain ⟨q0, q1⟩ := cv2 (HX.out.below hW.out)
      have q2 : wr.cell? ⟨W.heap.size + 1, 0, none⟩ = some (.int .i64 (i : Int)) := (HY.out.below hW.out).cell 0
      have kc := cmpc_c R D HV.out n mr md i (i + k) b W.heap.size (W.heap.size + 1) (some ⟨b3, off3, none⟩) (some ⟨b2, off2, none⟩)
      have KC := Lib.hid kc
      have wk : IntKind.i64.wrap ((k : Int) + 1) = ((k + 1 : Nat) : Int) := by have := H179.out; have := HNN.out; rw [IntWalk.i64_left]; unfold wrap64; omega
      have wj : IntKind.i64.wrap ((i : Int) + (k : Int)) = ((i + k : Nat) : Int) := by have := H179.out; have := HNN.out; have := HI.out; rw [IntWalk.i64_left]; unfold wrap64; omega
      have hstep : nxF R D i (k + 1) = nxS R D i b (i + k) := by rw [hb]; rfl
      rw [← hb]
      have HSTEP := Lib.hid hstep
      have HLT := Lib.hid hlt
      have HBN := Lib.hid hbn
      have HJN := Lib.hid hjn
      have HBB := Lib.hid hb
      have i1 : (0 : Int) ≤ (i : Int) := by omega
      have i2 : (i : Int) < (n : Int) := by have := HI.out; omega
      have j1 : (0 : Int) ≤ ((i + k : Nat) : Int) := by omega
      have j2 : ((i + k : Nat) : Int) < (n : Int) := by omega
      have b1 : (0 : Int) ≤ (b : Int) := by omega
      have b3 : (b : Int) < (n : Int) := by omega
      by_cases h1 : D.getD i 0 ≤ D.getD (i + k) 0
      · have hz : nxS R D i b (i + k) = b := by unfold nxS; rw [if_pos h1]
        have HZ := Lib.hid hz
        clear kc hstep hbn hjn hb hcj hz
        generalize D.getD i 0 = yi at *
        generalize D.getD (i + k) 0 = yj at *
        generalize D.getD b 0 = yb at *
        generalize i + k = j at *
        go_wp2_with fail
        go_quiet (fail)
        go_wp2_with fail
        go_roundw
        case rel => exact ⟨k + 1, HLT.out, by go_num, by rw [HSTEP.out, HZ.out], below_call hW.out (drewN_below _ _)⟩
        case measure => have := HLT.out; simp [intOf]; omega
      · have hwin : nxS R D i b (i + k) = if win R D i (i + k) b then i + k else b := by unfold nxS; rw [if_neg h1]
        unfold win at hwin
        have kc9 := fun (W1 : World) (hb1 : Below WA.heap.size WA W1) => KC.out W1 HN.out (HR.out.call hb1) (HD.out.call hb1) (HX.out.below hb1) ((HY.out.below hb1).cell 0) HI.out HJN.out HBN.out
        have KC9 := Lib.hid kc9
        have H1 := Lib.hid h1
        obtain ⟨o, ho⟩ : ∃ o, o = slp R D i (i + k) b := ⟨_, rfl⟩
        rw [← ho] at hwin KC9
        have HO := Lib.hid ho
        have fd := fun (W1 : World) (hb1 : Below WA.heap.size WA W1) => And.intro ((HD.out.call hb1).of (show i + k < D.length by have := HN.out; omega)) ((HD.out.call hb1).of (show b < D.length by have := HN.out; omega))
        have FD := Lib.hid fd
        clear kc kc9 hstep hbn hjn hb hcj KC ho fd db
        generalize hyi : D.getD i 0 = yi at *
        generalize hyj : D.getD (i + k) 0 = yj at *
        generalize hyb : D.getD b 0 = yb at *
        clear hyi hyj hyb
        generalize i + k = j at *
        by_cases o1 : 0 < o
        · rw [decide_eq_true o1] at hwin
          have HZ := Lib.hid (show nxS R D i b j = j by rw [hwin]; rfl)
          have t1 : decide (0 < o) = true := decide_eq_true o1
          clear hwin
          go_wp2_with fail
          go_quiet (fail)
          go_wp2_with (first | (go_at_call 42; (with_reducible refine (KC9.out _ (below_call hW.out (drewN_below _ _))).mono ?_); rintro e w2 ⟨rfl, hb2⟩; have B2 := Lib.hid (below_call (below_call hW.out (drewN_below _ _)) hb2); obtain ⟨q0, q1⟩ := cv2 (HX.out.below B2.out); obtain ⟨dj, db⟩ := FD.out _ B2.out; clear hb2))
          go_quiet (fail)
          go_wp2_with fail
          go_roundw
          case rel => exact ⟨k + 1, HLT.out, by go_num, by rw [HSTEP.out, HZ.out], below_call B2.out (drewN_below _ _)⟩
          case measure => have := HLT.out; simp [intOf]; omega
        · by_cases o2 : o = 0
          · have t2 : (o == 0) = true := by simpa using o2
            by_cases o3 : yj < yb
            · have HZ := Lib.hid (show nxS R D i b j = j by rw [hwin, decide_eq_false o1, decide_eq_true o2, decide_eq_true o3]; rfl)
              have t3 : decide (yj < yb) = true := decide_eq_true o3
              subst o2
              clear t2
              clear hwin
              go_wp2_with fail
              go_quiet (fail)
              go_wp2_with (first | (go_at_call 42; (with_reducible refine (KC9.out _ (below_call hW.out (drewN_below _ _))).mono ?_); rintro e w2 ⟨rfl, hb2⟩; have B2 := Lib.hid (below_call (below_call hW.out (drewN_below _ _)) hb2); obtain ⟨q0, q1⟩ := cv2 (HX.out.below B2.out); obtain ⟨dj, db⟩ := FD.out _ B2.out; clear hb2))
              go_quiet (fail)
              go_wp2_with fail
              go_roundw
              case rel => exact ⟨k + 1, HLT.out, by go_num, by rw [HSTEP.out, HZ.out], below_call B2.out (drewN_below _ _)⟩
              case measure => have := HLT.out; simp [intOf]; omega
            · have HZ := Lib.hid (show nxS R D i b j = b by rw [hwin, decide_eq_false o1, decide_eq_true o2, decide_eq_false o3]; rfl)
              have t3 : decide (yj < yb) = false := decide_eq_false o3
              subst o2
              clear t2
              clear hwin
              go_wp2_with fail
              go_quiet (fail)
              go_wp2_with (first | (go_at_call 42; (with_reducible refine (KC9.out _ (below_call hW.out (drewN_below _ _))).mono ?_); rintro e w2 ⟨rfl, hb2⟩; have B2 := Lib.hid (below_call (below_call hW.out (drewN_below _ _)) hb2); obtain ⟨q0, q1⟩ := cv2 (HX.out.below B2.out); obtain ⟨dj, db⟩ := FD.out _ B2.out; clear hb2))
              go_quiet (fail)
              go_wp2_with fail
              go_roundw
              case rel => exact ⟨k + 1, HLT.out, by go_num, by rw [HSTEP.out, HZ.out], below_call B2.out (drewN_below _ _)⟩
              case measure => have := HLT.out; simp [intOf]; omega
          · have HZ := Lib.hid (show nxS R D i b j = b by rw [hwin, decide_eq_false o1, decide_eq_false o2]; rfl)
            have t1 : decide (0 < o) = false := decide_eq_false o1
            have t2 : (o == 0) = false := by simpa using o2
            clear o2
            clear hwin
            go_wp2_with fail
            go_quiet (fail)
            go_wp2_with (first | (go_at_call 42; (with_reducible refine (KC9.out _ (below_call hW.out (drewN_below _ _))).mono ?_); rintro e w2 ⟨rfl, hb2⟩; have B2 := Lib.hid (below_call (below_call hW.out (drewN_below _ _)) hb2); obtain ⟨q0, q1⟩ := cv2 (HX.out.below B2.out); obtain ⟨dj, db⟩ := FD.out _ B2.out; clear hb2))
            go_quiet (fail)
            go_wp2_with fail
            go_roundw
            case rel => exact ⟨k + 1, HLT.out, by go_num, by rw [HSTEP.out, HZ.out], below_call B2.out (drewN_below _ _)⟩
            case measure => have := HLT.out; simp [intOf]; omega
    · obtain rfl : k = N := by omega
      go_wp2_with fail
      go_ret
      exact ⟨by first | (show Ending.returned (.int .i64 (nxF R D i k : Int)) = _; rw [HRET.out]) | (show Ending.returned (.int .i64 (outI i (nxF R D i k))) = _; rw [HRET.out]), below_call HB.out hW.out⟩
/-- What the reference's loop holds: -1 for none. -/
def outI (i b : Nat) : Int := if b = i then -1 else (b : Int)
set_option maxHeartbeats 8000000 in
theorem znext_c (R D : List Int) (hv : VP R D) (n mr md i : Nat) (sr sd : Option Addr) (W : World) (hn : n = D.length) (hR : HoldsI W sr R) (hD : HoldsI W sd D) (hi : i < n) :
    Calls Try.prog 32 #[.agg #[.slice sr n mr, .slice sd n md], .int .i64 (i : Int)] W fun e w' => e = .returned (.int .i64 (outI i (nxt R D i))) ∧ Below W.heap.size W w' := by
  obtain ⟨b2, off2, rfl, -⟩ := hD.at (show i < D.length by omega)
  obtain ⟨b3, off3, rfl, -⟩ := hR.at (show i < R.length by have := hv.1; omega)
  obtain ⟨WA, hWA⟩ : ∃ x, x = W.alloc (.cells #[.slice (some ⟨b3, off3, none⟩) n mr, .slice (some ⟨b2, off2, none⟩) n md] 37) := ⟨_, rfl⟩
  have hB : Below W.heap.size W WA := by rw [hWA]; exact below_alloc (Below.refl _ W) _
  have hX : Blk WA W.heap.size 37 #[.slice (some ⟨b3, off3, none⟩) n mr, .slice (some ⟨b2, off2, none⟩) n md] := by rw [hWA]; exact Blk.new W _ _
  have H179 := Lib.hid (show n ≤ 179 by have := hv.1; have := hv.2.2.1; omega)
  have HB := Lib.hid hB
  have HX := Lib.hid hX
  have HR := Lib.hid (hR.below hB (Nat.le_refl _))
  have HD := Lib.hid (hD.below hB (Nat.le_refl _))
  have HWA := Lib.hid hWA
  have HN := Lib.hid hn
  have HV := Lib.hid hv
  have HI := Lib.hid hi
  have e1 : IntKind.i64.wrap ((i : Int) + 1) = ((i + 1 : Nat) : Int) := by have := H179.out; rw [IntWalk.i64_left]; unfold wrap64; omega
  obtain ⟨i1, hi1⟩ : ∃ i1, i1 = i + 1 := ⟨_, rfl⟩
  rw [← hi1] at e1
  have HI1 := Lib.hid hi1
  clear hB hX hR hD hWA hn hv hi hi1
  go_enter Try.func32, Try.ntmps32
  go_wp2_with fail
  clear e1
  rw [← HWA.out]
  go_loopw [5, 6] (fun v u wr => ∃ j k : Nat, Hid (j = i + k) ∧ 1 ≤ k ∧ j ≤ n ∧ u = .int .i64 (j : Int) ∧ v = .int .i64 (outI i (nxF R D i k)) ∧ Hid (Below WA.heap.size WA wr)) (fun _ u _ => n - (intOf u).toNat)
  case atStart => exact ⟨i1, 1, HI1.out, Nat.le_refl _, by have := HI1.out; have := HI.out; omega, rfl, by
    have : nxF R D i 1 = i := by
      rcases nxF_in R D i 1 with h | h
      · exact h
      · omega
    rw [this]; unfold outI; rw [if_pos rfl], Below.refl _ _⟩
  case round =>
    obtain ⟨j, k, hJ, hk, hj, rfl, rfl, hW⟩ := hrel
    obtain ⟨q0, q1⟩ := cv2 (HX.out.below hW.out)
    by_cases hlt : j < n
    · obtain ⟨b, hb⟩ : ∃ b, b = nxF R D i k := ⟨_, rfl⟩
      have hbi := nxF_in R D i k
      rw [← hb] at hbi ⊢
      have hbn : b < n := by have := HI.out; have := hJ.out; rcases hbi with h | h <;> omega
      have hcj := HD.out.call hW.out
      have hcr := HR.out.call hW.out
      have hc := hcj.of (show i < D.length by have := HN.out; have := HI.out; omega)
      have ci := hcr.of (show i < R.length by have := HN.out; have := HI.out; have := HV.out.1; omega)
      have dj := hcj.of (show j < D.length by have := HN.out; omega)
      have db := hcj.of (show b < D.length by have := HN.out; omega)
      have rj := hcr.of (show j < R.length by have := HN.out; have := HV.out.1; omega)
      have rb := hcr.of (show b < R.length by have := HN.out; have := HV.out.1; omega)
      have wk : IntKind.i64.wrap ((j : Int) + 1) = ((j + 1 : Nat) : Int) := by have := H179.out; rw [IntWalk.i64_left]; unfold wrap64; omega
      have hstep : nxF R D i (k + 1) = nxS R D i b j := by rw [hb, hJ.out]; rfl
      have HSTEP := Lib.hid hstep
      have HLT := Lib.hid hlt
      have HBI := Lib.hid hbi
      have i1 : (0 : Int) ≤ (i : Int) := by omega
      have i2 : (i : Int) < (n : Int) := by have := HI.out; omega
      have j1 : (0 : Int) ≤ (j : Int) := by omega
      have j2 : (j : Int) < (n : Int) := by omega
      by_cases h1 : D.getD i 0 ≤ D.getD j 0
      · have HZ := Lib.hid (show nxS R D i b j = b by unfold nxS; rw [if_pos h1])
        generalize hob : outI i b = ob at *
        have HOB := Lib.hid hob
        clear hb hstep hbi hbn hcj hcr hob
        generalize D.getD i 0 = yi at *
        generalize D.getD j 0 = yj at *
        go_wp2_with fail
        go_quiet (fail)
        go_wp2_with fail
        go_roundw
        case rel => exact ⟨j + 1, k + 1, show j + 1 = i + (k + 1) by have := hJ.out; omega, by omega, HLT.out, by go_num, by rw [HSTEP.out, HZ.out, HOB.out], below_call hW.out (drewN_below _ _)⟩
        case measure => have := HLT.out; simp [intOf]; omega
      · have hji : j ≠ i := by have := hJ.out; omega
        have hwin : nxS R D i b j = if win R D i j b then j else b := by unfold nxS; rw [if_neg h1]
        by_cases hbe : b = i
        · have HZ := Lib.hid (show outI i (nxS R D i b j) = (j : Int) by
            have hw : win R D i j b = true := by
              unfold win
              rw [hbe, slp_self HV.out (by have := HN.out; have := HI.out; omega) (by have := hJ.out; omega) (by have := HN.out; omega) (by omega)]
              rfl
            rw [hwin, hw]; unfold outI; simp [hji])
          have ho : outI i b = -1 := by unfold outI; rw [if_pos hbe]
          rw [ho]
          have H1 := Lib.hid h1
          clear hb hstep hbi hbn hcj hcr hwin hbe ho db rb hji
          generalize D.getD i 0 = yi at *
          generalize D.getD j 0 = yj at *
          generalize R.getD i 0 = xi at *
          generalize R.getD j 0 = xj at *
          go_wp2_with fail
          go_quiet (fail)
          go_wp2_with fail
          go_roundw
          case rel => exact ⟨j + 1, k + 1, show j + 1 = i + (k + 1) by have := hJ.out; omega, by omega, HLT.out, by go_num, by rw [HSTEP.out, HZ.out], below_call hW.out (drewN_below _ _)⟩
          case measure => have := HLT.out; simp [intOf]; omega
        · have ho : outI i b = (b : Int) := by unfold outI; rw [if_neg hbe]
          rw [ho]
          have hb3 := hbi.resolve_left hbe
          have tb : ¬ (b : Int) < 0 := by omega
          have bb1 : (0 : Int) ≤ (b : Int) := by omega
          have bb2 : (b : Int) < (n : Int) := by omega
          have hl := HN.out
          have hii := HI.out
          have e1 := sub_wrap (HV.out.d (show i < D.length by omega)) (HV.out.d (show j < D.length by omega))
          have e2 := sub_wrap (HV.out.d (show i < D.length by omega)) (HV.out.d (show b < D.length by omega))
          have e3 := subr_wrap (HV.out.r (show j < D.length by omega)) (HV.out.r (show i < D.length by omega))
          have e4 := subr_wrap (HV.out.r (show b < D.length by omega)) (HV.out.r (show i < D.length by omega))
          have ks := fun W => zsteeper_c (D.getD i 0 - D.getD j 0) (R.getD j 0 - R.getD i 0) (D.getD i 0 - D.getD b 0) (R.getD b 0 - R.getD i 0) W
          rw [show steep (D.getD i 0 - D.getD j 0) (R.getD j 0 - R.getD i 0) (D.getD i 0 - D.getD b 0) (R.getD b 0 - R.getD i 0) = slp R D i j b from rfl] at ks
          unfold win at hwin
          have hoj : outI i j = (j : Int) := by unfold outI; rw [if_neg hji]
          have HOJ := Lib.hid hoj
          have HOB := Lib.hid ho
          have H1 := Lib.hid h1
          have fd : ∀ W1 : World, Below wr.heap.size wr W1 → W1.cell? ⟨W.heap.size, 0, none⟩ = some (.slice (some ⟨b3, off3, none⟩) n mr) ∧ W1.cell? ⟨W.heap.size, 1, none⟩ = some (.slice (some ⟨b2, off2, none⟩) n md) ∧ W1.cell? ⟨b3, off3 + i, none⟩ = some (.int .i64 (R.getD i 0)) ∧ W1.cell? ⟨b3, off3 + j, none⟩ = some (.int .i64 (R.getD j 0)) ∧ W1.cell? ⟨b3, off3 + b, none⟩ = some (.int .i64 (R.getD b 0)) ∧ W1.cell? ⟨b2, off2 + i, none⟩ = some (.int .i64 (D.getD i 0)) ∧ W1.cell? ⟨b2, off2 + j, none⟩ = some (.int .i64 (D.getD j 0)) ∧ W1.cell? ⟨b2, off2 + b, none⟩ = some (.int .i64 (D.getD b 0)) := fun W1 hb1 => by
            have hl2 := HV.out.1
            obtain ⟨u0, u1⟩ := cv2 (HX.out.below (below_call hW.out hb1))
            exact ⟨u0, u1, (hcr.call hb1).of (by omega), (hcr.call hb1).of (by omega), (hcr.call hb1).of (by omega), (hcj.call hb1).of (by omega), (hcj.call hb1).of (by omega), (hcj.call hb1).of (by omega)⟩
          have FD := Lib.hid fd
          generalize slp R D i j b = o at *
          clear hb hstep hbi hbn hcj hcr hbe ho hji hb3 hl hii hoj fd
          generalize D.getD i 0 = yi at *
          generalize D.getD j 0 = yj at *
          generalize D.getD b 0 = yb at *
          generalize R.getD i 0 = xi at *
          generalize R.getD j 0 = xj at *
          generalize R.getD b 0 = xb at *
          by_cases o1 : 0 < o
          · rw [decide_eq_true o1] at hwin
            have HZ := Lib.hid (show outI i (nxS R D i b j) = (j : Int) by rw [hwin]; exact HOJ.out)
            have t1 : decide (0 < o) = true := decide_eq_true o1
            clear hwin
            go_wp2_with fail
            go_quiet (fail)
            have BZ := Lib.hid (drewN_below wr nq)
            generalize wr.drewN nq = wz at *
            obtain ⟨q0, q1, ci, rj, rb, hc, dj, db⟩ := FD.out _ BZ.out
            go_wp2_with fail
            go_quiet ((go_at_call 25; exact Calls.quiet_of_same (ks _)))
            have BY := Lib.hid (below_call BZ.out (drewN_below wz nq))
            generalize wz.drewN nq = wy at *
            obtain ⟨q0, q1, ci, rj, rb, hc, dj, db⟩ := FD.out _ BY.out
            go_wp2_with fail
            go_quiet (fail)
            go_wp2_with fail
            go_roundw
            case rel => exact ⟨j + 1, k + 1, show j + 1 = i + (k + 1) by have := hJ.out; omega, by omega, HLT.out, by go_num, by rw [HSTEP.out, HZ.out], below_call hW.out (below_call BY.out (drewN_below _ _))⟩
            case measure => have := HLT.out; simp [intOf]; omega
          · by_cases o2 : o = 0
            · by_cases o3 : yj < yb
              · have HZ := Lib.hid (show outI i (nxS R D i b j) = (j : Int) by rw [hwin, decide_eq_false o1, decide_eq_true o2, decide_eq_true o3]; exact HOJ.out)
                have t3 : decide (yj < yb) = true := decide_eq_true o3
                subst o2
                clear hwin
                go_wp2_with fail
                go_quiet (fail)
                have BZ := Lib.hid (drewN_below wr nq)
                generalize wr.drewN nq = wz at *
                obtain ⟨q0, q1, ci, rj, rb, hc, dj, db⟩ := FD.out _ BZ.out
                go_wp2_with fail
                go_quiet ((go_at_call 25; exact Calls.quiet_of_same (ks _)))
                have BY := Lib.hid (below_call BZ.out (drewN_below wz nq))
                generalize wz.drewN nq = wy at *
                obtain ⟨q0, q1, ci, rj, rb, hc, dj, db⟩ := FD.out _ BY.out
                go_wp2_with fail
                go_quiet (fail)
                go_wp2_with fail
                go_roundw
                case rel => exact ⟨j + 1, k + 1, show j + 1 = i + (k + 1) by have := hJ.out; omega, by omega, HLT.out, by go_num, by rw [HSTEP.out, HZ.out], below_call hW.out (below_call BY.out (drewN_below _ _))⟩
                case measure => have := HLT.out; simp [intOf]; omega
              · have HZ := Lib.hid (show outI i (nxS R D i b j) = (b : Int) by rw [hwin, decide_eq_false o1, decide_eq_true o2, decide_eq_false o3]; exact HOB.out)
                have t3 : decide (yj < yb) = false := decide_eq_false o3
                subst o2
                clear hwin
                go_wp2_with fail
                go_quiet (fail)
                have BZ := Lib.hid (drewN_below wr nq)
                generalize wr.drewN nq = wz at *
                obtain ⟨q0, q1, ci, rj, rb, hc, dj, db⟩ := FD.out _ BZ.out
                go_wp2_with fail
                go_quiet ((go_at_call 25; exact Calls.quiet_of_same (ks _)))
                have BY := Lib.hid (below_call BZ.out (drewN_below wz nq))
                generalize wz.drewN nq = wy at *
                obtain ⟨q0, q1, ci, rj, rb, hc, dj, db⟩ := FD.out _ BY.out
                go_wp2_with fail
                go_quiet (fail)
                go_wp2_with fail
                go_roundw
                case rel => exact ⟨j + 1, k + 1, show j + 1 = i + (k + 1) by have := hJ.out; omega, by omega, HLT.out, by go_num, by rw [HSTEP.out, HZ.out], below_call hW.out (below_call BY.out (drewN_below _ _))⟩
                case measure => have := HLT.out; simp [intOf]; omega
            · have HZ := Lib.hid (show outI i (nxS R D i b j) = (b : Int) by rw [hwin, decide_eq_false o1, decide_eq_false o2]; exact HOB.out)
              have t1 : decide (0 < o) = false := decide_eq_false o1
              have t2 : (o == 0) = false := by simpa using o2
              clear o2
              clear hwin
              go_wp2_with fail
              go_quiet (fail)
              have BZ := Lib.hid (drewN_below wr nq)
              generalize wr.drewN nq = wz at *
              obtain ⟨q0, q1, ci, rj, rb, hc, dj, db⟩ := FD.out _ BZ.out
              go_wp2_with fail
              go_quiet ((go_at_call 25; exact Calls.quiet_of_same (ks _)))
              have BY := Lib.hid (below_call BZ.out (drewN_below wz nq))
              generalize wz.drewN nq = wy at *
              obtain ⟨q0, q1, ci, rj, rb, hc, dj, db⟩ := FD.out _ BY.out
              go_wp2_with fail
              go_quiet (fail)
              go_wp2_with fail
              go_roundw
              case rel => exact ⟨j + 1, k + 1, show j + 1 = i + (k + 1) by have := hJ.out; omega, by omega, HLT.out, by go_num, by rw [HSTEP.out, HZ.out], below_call hW.out (below_call BY.out (drewN_below _ _))⟩
              case measure => have := HLT.out; simp [intOf]; omega
    · obtain rfl : j = n := by omega
      have hret : nxt R D i = nxF R D i k := by unfold nxt; rw [← HN.out, show j - i = k by have := hJ.out; omega]
      have HRET := Lib.hid hret
      clear hret
      go_wp2_with fail
      go_ret
      exact ⟨by first | (show Ending.returned (.int .i64 (nxF R D i k : Int)) = _; rw [HRET.out]) | (show Ending.returned (.int .i64 (outI i (nxF R D i k))) = _; rw [HRET.out]), below_call HB.out hW.out⟩
end Go.Proofs.Ytkohdiajpdlkjaa
