/-
  Layer 15: the reference: the run length.
-/
import Derived.Test.YtbhjapgioaiocaaDoorMf
set_option maxRecDepth 100000
namespace Go.Proofs.YtbhjapgioaiocaaDoor
open Go.RowKit

set_option maxHeartbeats 4000000 in
theorem xrunl_c {W0 W : World} {a : Adx} {p : Pp} {m : Mo} {e : Es} (H : Xc W0 W a p m e) (x top : Nat) (hx : x < p.w) (hn : top + 4 ≤ p.h) (hl : e.2.length ≤ 999990) : Calls Tryd.prog 100 #[.pointer (some ⟨a.P, 0, none⟩), .int .i64 (x : Int), .int .i64 (top : Int)] W fun E W' => E = .returned (.int .i64 ((runN p e.1 x top : Nat) : Int)) ∧ Xc W0 W' a p m (runS p e x top) ∧ Kt W W' := by
  obtain ⟨-, hh⟩ := H.len
  have HH := Lib.hid H
  obtain ⟨Z, hZ⟩ : ∃ Z, Z = zerQ p e.1 x top := ⟨_, rfl⟩
  have E4 : Z = 4 → runS p e x top = putS p e 17 0 ∧ runN p e.1 x top = 4 := fun h => by
    unfold runS runN; rw [← hZ, if_pos h, if_pos h]; exact ⟨rfl, rfl⟩
  have E3 : Z ≠ 4 → runS p e x top = signS p (putS p (putS p (putS p e 17 1) 18 ((Z / 2 : Nat) : Int)) 18 ((Z % 2 : Nat) : Int)) (x : Int) ((top + Z : Nat) : Int) ∧ runN p e.1 x top = Z + 1 := fun h => by
    unfold runS runN; rw [← hZ, if_neg h, if_neg h]; exact ⟨rfl, rfl⟩
  generalize runS p e x top = RS at *
  generalize runN p e.1 x top = RN at *
  have HE4 := Lib.hid E4
  have HE3 := Lib.hid E3
  have HZ := Lib.hid hZ
  have HX := Lib.hid hx
  have HN := Lib.hid hn
  have HL := Lib.hid hl
  have htop : top ≤ 60 := by omega
  clear H E4 E3 hZ hx hn hl hh
  go_enter Tryd.func100, Tryd.ntmps100
  go_wp2_with fail
  go_loopw [7] (fun i wr => ∃ k : Nat, k ≤ 4 ∧ i = .int .i64 (k : Int) ∧ Hid (∀ j, j < k → oneQ p e.1 x top j = false) ∧ Hid (Xc W0 wr a p m e) ∧ Hid (Kt W wr)) (fun i _ => (4 - (intOf i).toNat))
  case atStart => exact ⟨0, by omega, rfl, fun j h => by omega, HH.out, Kt.refl _⟩
  case round =>
    obtain ⟨k, hk, rfl, h0, H1, K1⟩ := hrel
    by_cases h4 : (k : Int) < 4
    · obtain ⟨y, hy⟩ : ∃ y : Int, y = ((top + k : Nat) : Int) := ⟨_, rfl⟩
      obtain ⟨bt, hbt⟩ : ∃ b, b = bitM (e.1.v (x : Int) y) p.s := ⟨_, rfl⟩
      have hb01 : bt = 0 ∨ bt = 1 := by rw [hbt]; exact bitM_in _ _
      have hone : oneQ p e.1 x top k = (bt == 1) := by unfold oneQ; rw [hbt, hy]
      have kb : Calls Tryd.prog 98 #[.pointer (some ⟨a.P, 0, none⟩), .int .i64 (x : Int), .int .i64 y] wr fun e w' => e = .returned (.int .i64 bt) ∧ Below wr.heap.size wr w' := by rw [hbt]; exact xbit_c H1.out _ _
      have wk : IntKind.i64.wrap ((k : Int) + 1) = ((k + 1 : Nat) : Int) := by rw [IntWalk.i64_left]; unfold wrap64; omega
      have wy : IntKind.i64.wrap ((top : Int) + (k : Int)) = y := by rw [IntWalk.i64_left]; unfold wrap64; omega
      have HO := Lib.hid hone
      have HK4 := Lib.hid h4
      have HY := Lib.hid hy
      clear hbt hone hy
      rcases hb01 with rfl | rfl
      · go_wp2_with (first | (go_at_call 98; (with_reducible refine kb.mono ?_); rintro e wn ⟨rfl, hb⟩; have H2 := Lib.hid (H1.out.below hb); have K2 := Lib.hid (K1.out.trans (kt_below hb)); clear hb))
        go_roundw
        case rel =>
          refine ⟨k + 1, by have := HK4.out; omega, by go_num, fun j hj => ?_, H2, K2⟩
          rcases Nat.lt_or_ge j k with h | h
          · exact h0.out j h
          · obtain rfl : j = k := by omega
            rw [HO.out]; rfl
        case measure => have := HK4.out; simp [intOf]; omega
      · have hz : Z = k := by rw [HZ.out]; exact zer_is _ k hk h0.out (.inr (by rw [HO.out]; rfl))
        obtain ⟨hE, hR⟩ := HE3.out (by omega)
        rw [hz] at hE hR
        have hin : inB p.w p.h (x : Int) y := by have := HX.out; have := HN.out; have := HY.out; unfold inB; omega
        obtain ⟨d, hd⟩ : ∃ d : Int, (k : Int) / 2 = d := ⟨_, rfl⟩
        obtain ⟨m2, hm⟩ : ∃ d : Int, (k : Int) % 2 = d := ⟨_, rfl⟩
        have ed : ((k / 2 : Nat) : Int) = d := by omega
        have em : ((k % 2 : Nat) : Int) = m2 := by omega
        rw [ed, em, ← HY.out] at hE
        clear ed em
        have hk4 : ((k : Int) == 4) = false := by simp; omega
        have k1 := fun W (K : Xc W0 W a p m e) => xput_c K 17 1 (by have := HL.out; omega)
        have k2 := fun W (K : Xc W0 W a p m (putS p e 17 1)) => xput_c K 18 d (by have := HL.out; unfold putS; simp; omega)
        have k3 := fun W (K : Xc W0 W a p m (putS p (putS p e 17 1) 18 d)) => xput_c K 18 m2 (by have := HL.out; unfold putS; simp; omega)
        have k4 := fun W (K : Xc W0 W a p m (putS p (putS p (putS p e 17 1) 18 d) 18 m2)) => xsign_c K (x : Int) y hin (by have := HL.out; unfold putS; simp; omega)
        have HR := Lib.hid (show ((RN : Nat) : Int) = (k : Int) + 1 by rw [hR]; omega)
        clear hR hz hin
        generalize signS p (putS p (putS p (putS p e 17 1) 18 d) 18 m2) (x : Int) y = e4 at *
        generalize putS p (putS p (putS p e 17 1) 18 d) 18 m2 = e3 at *
        generalize putS p (putS p e 17 1) 18 d = e2 at *
        generalize putS p e 17 1 = e1 at *
        have HE := Lib.hid hE
        clear hE
        go_wp2_with (first | (go_at_call 98; (with_reducible refine kb.mono ?_); rintro e wn ⟨rfl, hb⟩; have H2 := Lib.hid (H1.out.below hb); have K2 := Lib.hid (K1.out.trans (kt_below hb)); have k1 := k1 _ H2.out; clear hb) | (go_at_call 96; first | ((with_reducible refine k1.mono ?_); rintro e w2 ⟨rfl, H3, K3⟩; have H3 := Lib.hid H3; have K3 := Lib.hid (K2.out.trans K3); have k2 := k2 _ H3.out) | ((with_reducible refine k2.mono ?_); rintro e w3 ⟨rfl, H4, K4⟩; have H4 := Lib.hid H4; have K4 := Lib.hid (K3.out.trans K4); have k3 := k3 _ H4.out) | ((with_reducible refine k3.mono ?_); rintro e w4 ⟨rfl, H5, K5⟩; have H5 := Lib.hid H5; have K5 := Lib.hid (K4.out.trans K5); have k4 := k4 _ H5.out)) | (go_at_call 119; (with_reducible refine k4.mono ?_); rintro e w5 ⟨rfl, H6, K6⟩; have H6 := Lib.hid H6; have K6 := Lib.hid (K5.out.trans K6)))
        go_ret
        exact ⟨by rw [HR.out]; rfl, by rw [HE.out]; exact H6.out, K6.out⟩
    · obtain rfl : k = 4 := by omega
      have hz : Z = 4 := by rw [HZ.out]; exact zer_is _ 4 hk h0.out (.inl rfl)
      obtain ⟨hE, hR⟩ := HE4.out hz
      have k1 := xput_c H1.out 17 0 (by have := HL.out; omega)
      have HR := Lib.hid (show ((RN : Nat) : Int) = 4 by rw [hR]; rfl)
      have HE := Lib.hid hE
      clear hE hR hz
      go_wp2_with (first | (go_at_call 96; (with_reducible refine k1.mono ?_); rintro e w2 ⟨rfl, H2, K2⟩))
      go_ret
      exact ⟨by rw [HR.out]; rfl, by rw [HE.out]; exact H2, K1.out.trans K2⟩
end Go.Proofs.YtbhjapgioaiocaaDoor
