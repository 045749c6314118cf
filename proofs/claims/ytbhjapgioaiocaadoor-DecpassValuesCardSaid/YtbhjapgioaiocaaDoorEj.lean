/-
  Layer 15: the cleanup pass.
-/
import Derived.Test.YtbhjapgioaiocaaDoorEi
set_option maxRecDepth 100000
namespace Go.Proofs.YtbhjapgioaiocaaDoor
open Go.RowKit

def chkK (p : Pp) (e : Es) (k : Nat) : Es := (([1, 0, 1, 0] : List Int).take k).foldl (fun e b => putS p e 18 b) e
theorem idx40 (W : World) : (Instr.index 116 (.agg #[.int .i64 1, .int .i64 0, .int .i64 1, .int .i64 0]) (.int .i64 0)).run Tryd.prog W = .ok (.int .i64 1) W := by kernel_rfl
theorem idx41 (W : World) : (Instr.index 116 (.agg #[.int .i64 1, .int .i64 0, .int .i64 1, .int .i64 0]) (.int .i64 1)).run Tryd.prog W = .ok (.int .i64 0) W := by kernel_rfl
theorem idx42 (W : World) : (Instr.index 116 (.agg #[.int .i64 1, .int .i64 0, .int .i64 1, .int .i64 0]) (.int .i64 2)).run Tryd.prog W = .ok (.int .i64 1) W := by kernel_rfl
theorem idx43 (W : World) : (Instr.index 116 (.agg #[.int .i64 1, .int .i64 0, .int .i64 1, .int .i64 0]) (.int .i64 3)).run Tryd.prog W = .ok (.int .i64 0) W := by kernel_rfl
theorem chk_all (p : Pp) (e : Es) : chkK p e 4 = chkS p e := rfl
set_option maxHeartbeats 8000000 in
theorem cleanup_c {W0 W : World} {a : Adr} {p : Pp} {e : Es} (H : Ec W0 W a p e) (y : Bool) (hl : e.2.length ≤ 900000) : Calls Tryd.prog 56 #[.pointer (some ⟨a.P, 0, none⟩), .bool y] W (EG W0 W a p (cleanS p y e)) := by
  obtain ⟨hw, hh⟩ := H.len
  obtain ⟨c0, -, -, -, -, -⟩ := ec_cells H.pc
  have ks := size_c H.cb
  have kc := fun W => scan_yes p.w p.h H.cb.fit W
  have hmn := hmn
  have HSL := Lib.hid (scan_l p.w p.h hw hh)
  have HL := Lib.hid hl
  have HH := Lib.hid H
  have HW := Lib.hid hw
  have HHH := Lib.hid hh
  clear H hw hh hl
  go_enter Tryd.func56, Tryd.ntmps56
  go_wp2_with (first | (go_at_call 77; (with_reducible refine ks.mono ?_); rintro e wa ⟨rfl, hBa⟩; have HB := Lib.hid hBa; clear hBa))
  clear ks c0
  go_loopw [6] (fun i wr => ∃ s : Nat, s ≤ (p.h + 3) / 4 ∧ i = .int .i64 ((4 * s : Nat) : Int) ∧ Hid (Ec W0 wr a p (clS p e s)) ∧ Hid (Kt W wr)) (fun i _ => (p.h + 4 - (intOf i).toNat))
  case atStart => exact ⟨0, by omega, rfl, HH.out.below HB.out, kt_below HB.out⟩
  case round =>
    obtain ⟨s, hs, rfl, hE, hK⟩ := hrel
    by_cases hlt : ((4 * s : Nat) : Int) < (p.h : Int)
    · obtain ⟨n, hn⟩ : ∃ n, n = min 4 (p.h - 4 * s) := ⟨_, rfl⟩
      have hnext : clS p e (s + 1) = strS p (clS p e s) (4 * s) n p.w := by unfold clS; rw [foldl_rng, hn]
      have hlen := clS_len p e s
      obtain ⟨e1, he1⟩ : ∃ e1, e1 = clS p e s := ⟨_, rfl⟩
      rw [← he1] at hE hnext hlen
      have hlen1 : e1.2.length ≤ 930000 := by
        have h1 : 12 * p.w * s ≤ 12 * 64 * 16 := Nat.mul_le_mul (Nat.mul_le_mul_left _ HW.out) (by have := HHH.out; omega)
        have := HL.out
        omega
      have hmin : min (((4 * s : Nat) : Int) + 4) (p.h : Int) = ((4 * s + n : Nat) : Int) := by omega
      have w4 : IntKind.i64.wrap (((4 * s : Nat) : Int) + 4) = ((4 * s : Nat) : Int) + 4 := by have := HHH.out; rw [IntWalk.i64_left]; unfold wrap64; omega
      have hnh : 4 * s + n ≤ p.h := by omega
      have hn4 : n ≤ 4 := by omega
      have HNX := Lib.hid hnext
      have HNH := Lib.hid hnh
      have HN4 := Lib.hid hn4
      have HS := Lib.hid (show s < (p.h + 3) / 4 by omega)
      have HLN := Lib.hid hlen1
      clear hnext hlen hlen1 hnh hn4 hn he1 hs
      obtain ⟨tp, htp⟩ : ∃ t : Nat, t = 4 * s := ⟨_, rfl⟩
      rw [← htp] at hmin w4 hlt
      have HTP := Lib.hid htp
      have HNX2 := Lib.hid (show clS p e (s + 1) = strS p e1 tp n p.w by rw [HNX.out, htp])
      have HNH2 := Lib.hid (show tp + n ≤ p.h by rw [htp]; exact HNH.out)
      rw [← htp]
      clear htp HNX HNH
      go_wp2_with fail
      obtain ⟨Wo, rfl⟩ : ∃ Wo, Wo = wr := ⟨_, rfl⟩
      go_loopw [26] (fun i wr => ∃ k : Nat, k ≤ p.w ∧ i = .int .i64 (k : Int) ∧ Hid (Ec W0 wr a p (strS p e1 tp n k)) ∧ Hid (Kt W wr)) (fun i _ => (p.w - (intOf i).toNat))
      case atStart => exact ⟨0, Nat.zero_le _, rfl, hE.out, hK⟩
      case round =>
        obtain ⟨k, hk, rfl, hE2, hK2⟩ := hrel
        by_cases hkw : k < p.w
        · have hnx : strS p e1 tp n (k + 1) = colS p (strS p e1 tp n k) k tp n := by unfold strS; rw [foldl_rng]
          have hlen := strS_len p e1 tp n k HN4.out
          obtain ⟨e2, he2⟩ : ∃ e2, e2 = strS p e1 tp n k := ⟨_, rfl⟩
          rw [← he2] at hE2 hnx hlen
          have kcol := column_c hE2.out k tp n hkw HNH2.out HN4.out (by have := HLN.out; have := HW.out; omega)
          rw [← hnx] at kcol
          have wk : IntKind.i64.wrap ((k : Int) + 1) = ((k + 1 : Nat) : Int) := by have := HW.out; rw [IntWalk.i64_left]; unfold wrap64; omega
          have HKW := Lib.hid hkw
          clear hnx hlen he2
          obtain ⟨e3, he3⟩ : ∃ e3, e3 = strS p e1 tp n (k + 1) := ⟨_, rfl⟩
          rw [← he3] at kcol
          have HE3 := Lib.hid he3
          clear he3
          obtain ⟨bt, hbt⟩ : ∃ t : Int, t = ((tp + n : Nat) : Int) := ⟨_, rfl⟩
          rw [← hbt] at hmin kcol
          clear hbt
          go_wp2_with (first | (go_at_call 92; (with_reducible refine kcol.mono ?_); rintro e w3 ⟨rfl, H3, K3⟩; have H3 := Lib.hid H3; have K3 := Lib.hid (hK2.out.trans K3)))
          go_roundw
          case rel => exact ⟨k + 1, HKW.out, by go_num, by rw [← HE3.out]; exact H3, K3⟩
          case measure => have := HKW.out; simp [intOf]; omega
        · obtain rfl : k = p.w := by omega
          rw [← HNX2.out] at hE2
          have e4 : ((tp : Int) + 4) = ((4 * (s + 1) : Nat) : Int) := by have := HTP.out; omega
          have HE4 := Lib.hid e4
          clear e4
          go_wp2_with fail
          go_roundw
          case rel => exact ⟨s + 1, HS.out, by rw [← HE4.out], hE2, hK2⟩
          case measure => have := HS.out; have := HTP.out; simp [intOf]; omega
    · have hsq : s = (p.h + 3) / 4 := by omega
      subst hsq
      have hlen := clS_len p e ((p.h + 3) / 4)
      obtain ⟨e1, he1⟩ : ∃ e1, e1 = clS p e ((p.h + 3) / 4) := ⟨_, rfl⟩
      have hC : cleanS p y e = endS p y (offS p e1 (scan p.w p.h)) := by unfold cleanS; rw [he1]
      rw [← he1] at hE hlen
      have hlen1 : e1.2.length ≤ 930000 := by
        have h1 : 12 * p.w * ((p.h + 3) / 4) ≤ 12 * 64 * 16 := Nat.mul_le_mul (Nat.mul_le_mul_left _ HW.out) (by have := HHH.out; omega)
        have := HL.out
        omega
      have HC := Lib.hid hC
      have HLN := Lib.hid hlen1
      have HIN := Lib.hid (fun z (hz : z ∈ scan p.w p.h) => scan_in hz)
      generalize scan p.w p.h = L at *
      clear hC hlen hlen1 he1 hs
      go_wp2_with (first | (go_at_call 87; (with_reducible refine (kc _).mono ?_); rintro e w1 ⟨s1, m1, rfl, hP, hB⟩; have HP := Lib.hid hP; have HB1 := Lib.hid hB; clear hP hB))
      clear kc
      obtain ⟨Wo, rfl⟩ : ∃ Wo, Wo = wr := ⟨_, rfl⟩
      go_loopw [42] (fun i wr => ∃ k : Nat, k ≤ L.length ∧ i = .int .i64 (k : Int) ∧ Hid (Ec W0 wr a p (offS p e1 (L.take k))) ∧ Hid (HoldsP wr s1 L) ∧ Hid (Kt W wr)) (fun i _ => (L.length - (intOf i).toNat))
      case atStart => exact ⟨0, by omega, rfl, hE.out.below HB1.out, HP.out, hK.out.trans (kt_below HB1.out)⟩
      case round =>
        obtain ⟨k, hk, rfl, hE, hH, hK⟩ := hrel
        by_cases hlt : k < L.length
        · obtain ⟨b, rfl, p0, p1⟩ := hH.out.at hlt
          have hnext : offS p e1 (L.take (k + 1)) = touchS p (offS p e1 (L.take k)) L[k].1 L[k].2 false := foldl_take (fun (e : Es) (z : Int × Int) => touchS p e z.1 z.2 false) e1 L k hlt
          obtain ⟨e2, he2⟩ : ∃ e2, e2 = offS p e1 (L.take k) := ⟨_, rfl⟩
          rw [← he2] at hE hnext
          obtain ⟨z, hz0⟩ : ∃ z, z = L[k] := ⟨_, rfl⟩
          rw [← hz0] at hnext p0 p1
          obtain ⟨x, yy⟩ := z
          simp only at p0 p1 hnext
          have wk : IntKind.i64.wrap ((k : Int) + 1) = ((k + 1 : Nat) : Int) := by have := HSL.out; rw [IntWalk.i64_left]; unfold wrap64; omega
          have HLT := Lib.hid hlt
          have HNX := Lib.hid hnext
          clear hz0 he2 hnext
          go_wp2_with fail
          have R1 := Lib.hid (Rd.begin x yy hE.out hH.out hK.out)
          clear p0 p1 hE hH hK
          generalize wr.alloc (.cells #[.int .i64 x, .int .i64 yy] 113) = W1 at *
          generalize wr.heap.size = g at *
          have R4 := Lib.hid R1.out.drew
          obtain ⟨d0, b0, b1, -⟩ := R4.out.cell
          have kt4 := touch_ce R4.out.ec x yy false
          generalize touchS p e2 x yy false = e3 at *
          go_region_held3 (fun w' => w'.cell? ⟨a.P, 0, none⟩ = some (.pointer (some ⟨a.A, 0, none⟩)) ∧ w'.cell? ⟨g, 0, none⟩ = some (.int .i64 x) ∧ w'.cell? ⟨g, 1, none⟩ = some (.int .i64 yy))
            (first | (with_reducible exact ⟨d0, b0, b1⟩) | (with_reducible exact ⟨f0, f1, f2⟩) | fail)
            (first | (go_simp; go_at_call 46; (with_reducible refine kt4.mono ?_); rintro e w5 ⟨rfl, H5, K5⟩; have R5 := Lib.hid (R4.out.step H5 K5); clear H5 K5; obtain ⟨f0, f1, f2, -⟩ := R5.out.cell) | fail)
          all_goals
            go_wp2_with fail
            go_roundw
            case rel =>
              refine ⟨k + 1, HLT.out, by go_num, ?_, R5.out.hp, R5.out.kt⟩
              rw [HNX.out]
              exact R5.out.ec
            case measure => have := HLT.out; simp [intOf]; omega
        · have hkl : k = L.length := by omega
          subst hkl
          rw [List.take_length] at hE
          have hlen2 := offS_len p e1 L
          obtain ⟨e2, he2⟩ : ∃ e2, e2 = offS p e1 L := ⟨_, rfl⟩
          rw [← he2] at hE hlen2
          have HC2 := Lib.hid (show cleanS p y e = endS p y e2 by rw [HC.out, he2])
          have HL2 := Lib.hid (show e2.2.length ≤ 930000 by have := HLN.out; omega)
          clear hlen2 he2
          cases y with
          | false =>
            go_wp2_with fail
            go_end0
            exact ⟨rfl, by rw [HC2.out]; exact hE.out, hK.out⟩
          | true =>
            go_wp2_with fail
            obtain ⟨Wp, rfl⟩ : ∃ Wo, Wo = wr := ⟨_, rfl⟩
            go_loopw [58] (fun i wr => ∃ k : Nat, k ≤ 4 ∧ i = .int .i64 (k : Int) ∧ Hid (Ec W0 wr a p (chkK p e2 k)) ∧ Hid (Kt W wr)) (fun i _ => (4 - (intOf i).toNat))
            case atStart => exact ⟨0, by omega, rfl, hE.out, hK⟩
            case round =>
              obtain ⟨k, hk, hi, hE3, hK3⟩ := hrel
              have c5 : wr.cell? ⟨a.P, 5, none⟩ = some (.func (.func 53) #[] #[.pointer (some ⟨a.G, 0, none⟩), .pointer (some ⟨a.L, 0, none⟩)]) := hE3.out.pc.cell 5
              have hlen3 : (chkK p e2 k).2.length ≤ 1000000 := by
                have h1 := foldl_len (fun e b => putS p e 18 b) 1 (fun e z => by unfold putS; simp) (([1, 0, 1, 0] : List Int).take k) e2
                rw [List.length_take] at h1
                have := HL2.out
                unfold chkK
                simp only [List.length_cons, List.length_nil] at h1
                omega
              obtain rfl | rfl | rfl | rfl | rfl : k = 0 ∨ k = 1 ∨ k = 2 ∨ k = 3 ∨ k = 4 := by omega
              · replace hi : _ = Value.int .i64 0 := hi
                subst hi
                have kp := put_c hE3.out 18 1 hlen3
                have hidx := idx40
                go_wp2_with (first | (go_at_call 53; (with_reducible refine kp.mono ?_); rintro e w6 ⟨rfl, H6, K6⟩; have H6 := Lib.hid H6; have K6 := Lib.hid (hK3.out.trans K6)))
                go_roundw
                case rel => exact ⟨1, by omega, by go_num, H6, K6⟩
                case measure => simp [intOf]
              · replace hi : _ = Value.int .i64 1 := hi
                subst hi
                have kp := put_c hE3.out 18 0 hlen3
                have hidx := idx41
                go_wp2_with (first | (go_at_call 53; (with_reducible refine kp.mono ?_); rintro e w6 ⟨rfl, H6, K6⟩; have H6 := Lib.hid H6; have K6 := Lib.hid (hK3.out.trans K6)))
                go_roundw
                case rel => exact ⟨2, by omega, by go_num, H6, K6⟩
                case measure => simp [intOf]
              · replace hi : _ = Value.int .i64 2 := hi
                subst hi
                have kp := put_c hE3.out 18 1 hlen3
                have hidx := idx42
                go_wp2_with (first | (go_at_call 53; (with_reducible refine kp.mono ?_); rintro e w6 ⟨rfl, H6, K6⟩; have H6 := Lib.hid H6; have K6 := Lib.hid (hK3.out.trans K6)))
                go_roundw
                case rel => exact ⟨3, by omega, by go_num, H6, K6⟩
                case measure => simp [intOf]
              · replace hi : _ = Value.int .i64 3 := hi
                subst hi
                have kp := put_c hE3.out 18 0 hlen3
                have hidx := idx43
                go_wp2_with (first | (go_at_call 53; (with_reducible refine kp.mono ?_); rintro e w6 ⟨rfl, H6, K6⟩; have H6 := Lib.hid H6; have K6 := Lib.hid (hK3.out.trans K6)))
                go_roundw
                case rel => exact ⟨4, by omega, by go_num, H6, K6⟩
                case measure => simp [intOf]
              · replace hi : _ = Value.int .i64 4 := hi
                subst hi
                go_wp2_with fail
                go_end0
                exact ⟨rfl, by rw [HC2.out]; exact hE3.out, hK3.out⟩
end Go.Proofs.YtbhjapgioaiocaaDoor
