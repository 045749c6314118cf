/-
  Layer 15: run lengths; a column of a stripe.
-/
import Derived.Test.YtbhjapgioaiocaaDoorEe
set_option maxRecDepth 100000
namespace Go.Proofs.YtbhjapgioaiocaaDoor
open Go.RowKit

theorem Ec.len {W0 W : World} {a : Adr} {p : Pp} {e : Es} (H : Ec W0 W a p e) : p.w ≤ 64 ∧ p.h ≤ 64 := by have := H.cb.fit; unfold fits at this; omega
set_option maxHeartbeats 4000000 in
theorem run_c {W0 W : World} {a : Adr} {p : Pp} {e : Es} (H : Ec W0 W a p e) (x top : Nat) (hx : x < p.w) (hn : top + 4 ≤ p.h) (hl : e.2.length ≤ 999990) : Calls Tryd.prog 116 #[.pointer (some ⟨a.P, 0, none⟩), .int .i64 (x : Int), .int .i64 (top : Int)] W fun E W' => E = .returned (.int .i64 ((top + runN p e.1 x top : Nat) : Int)) ∧ Ec W0 W' a p (runS p e x top) ∧ Kt W W' := by
  obtain ⟨-, hh⟩ := H.len
  have HH := Lib.hid H
  obtain ⟨Z, hZ⟩ : ∃ Z, Z = zerQ p e.1 x top := ⟨_, rfl⟩
  have E4 : Z = 4 → runS p e x top = putS p e 17 0 ∧ runN p e.1 x top = 4 := fun h => by
    unfold runS runN; rw [← hZ, if_pos h, if_pos h]; exact ⟨rfl, rfl⟩
  have E3 : Z ≠ 4 → runS p e x top = signS p (putS p (putS p (putS p e 17 1) 18 ((Z / 2 : Nat) : Int)) 18 ((Z % 2 : Nat) : Int)) (x : Int) ((top + Z : Nat) : Int) ∧ runN p e.1 x top = Z + 1 := fun h => by
    unfold runS runN; rw [← hZ, if_neg h, if_neg h]; exact ⟨rfl, rfl⟩
  generalize runS p e x top = RS at *
  generalize runN p e.1 x top = RN at *
  have HE4 := Lib.hid E4
  have HE3 := Lib.hid E3
  have HZ := Lib.hid hZ
  have HX := Lib.hid hx
  have HN := Lib.hid hn
  have HL := Lib.hid hl
  have wt : IntKind.i64.wrap ((top : Int) + 4) = (top : Int) + 4 := by rw [IntWalk.i64_left]; unfold wrap64; omega
  have htop : top ≤ 60 := by omega
  have and1 := and1
  clear H E4 E3 hZ hx hn hl hh
  go_enter Tryd.func116, Tryd.ntmps116
  go_wp2_with fail
  go_loopw [7] (fun i wr => ∃ k : Nat, k ≤ 4 ∧ i = .int .i64 ((top + k : Nat) : Int) ∧ Hid (∀ j, j < k → oneQ p e.1 x top j = false) ∧ Hid (Ec W0 wr a p e) ∧ Hid (Kt W wr)) (fun i _ => (top + 4 - (intOf i).toNat))
  case atStart => exact ⟨0, by omega, by simp, fun j h => by omega, HH.out, Kt.refl _⟩
  case round =>
    obtain ⟨k, hk, rfl, h0, H1, K1⟩ := hrel
    by_cases h4 : k < 4
    · obtain ⟨bt, hbt⟩ : ∃ b, b = bitM (e.1.v (x : Int) ((top + k : Nat) : Int)) p.s := ⟨_, rfl⟩
      have hb01 : bt = 0 ∨ bt = 1 := by rw [hbt]; exact bitM_in _ _
      have hone : oneQ p e.1 x top k = (bt == 1) := by unfold oneQ; rw [hbt]
      have kb : Calls Tryd.prog 91 #[.pointer (some ⟨a.P, 0, none⟩), .int .i64 (x : Int), .int .i64 ((top + k : Nat) : Int)] wr fun e w' => e = .returned (.int .i64 bt) ∧ wr = w' := by rw [hbt]; exact (bit_c H1.out.cb H1.out.pc H1.out.hs _ _ (H1.out.ok _ _)).mono fun _ _ z => ⟨z.1, z.2.symm⟩
      have hlt : ((top + k : Nat) : Int) < (top : Int) + 4 := by omega
      have hne : (((top + k : Nat) : Int) == (top : Int) + 4) = false := by simp; omega
      have wk : IntKind.i64.wrap (((top + k : Nat) : Int) + 1) = ((top + (k + 1) : Nat) : Int) := by rw [IntWalk.i64_left]; unfold wrap64; omega
      have HO := Lib.hid hone
      clear hbt hone
      rcases hb01 with rfl | rfl
      · generalize hy : ((top + k : Nat) : Int) = y at *
        have HY := Lib.hid hy
        clear hy
        go_wp2_with (first | (go_at_call 91; (with_reducible refine kb.mono ?_); rintro e wn ⟨rfl, rfl⟩))
        go_roundw
        case rel =>
          refine ⟨k + 1, by omega, by go_num, fun j hj => ?_, H1, K1⟩
          rcases Nat.lt_or_ge j k with h | h
          · exact h0.out j h
          · obtain rfl : j = k := by omega
            rw [HO.out]; rfl
        case measure => have := HY.out; simp [intOf]; omega
      · have hz : Z = k := by rw [HZ.out]; exact zer_is _ k hk h0.out (.inr (by rw [HO.out]; rfl))
        obtain ⟨hE, hR⟩ := HE3.out (by omega)
        rw [hz] at hE hR
        have hin : inB p.w p.h (x : Int) ((top + k : Nat) : Int) := by have := HX.out; have := HN.out; unfold inB; omega
        have wd : IntKind.i64.wrap (((top + k : Nat) : Int) - (top : Int)) = (k : Int) := by rw [IntWalk.i64_left]; unfold wrap64; omega
        obtain ⟨d, hd⟩ : ∃ d : Int, (k : Int) / 2 = d := ⟨_, rfl⟩
        obtain ⟨m, hm⟩ : ∃ d : Int, (k : Int) % 2 = d := ⟨_, rfl⟩
        have ed : ((k / 2 : Nat) : Int) = d := by omega
        have em : ((k % 2 : Nat) : Int) = m := by omega
        rw [ed, em] at hE
        clear ed em
        have k1 := fun W (K : Ec W0 W a p e) => put_c K 17 1 (by have := HL.out; omega)
        have k2 := fun W (K : Ec W0 W a p (putS p e 17 1)) => put_c K 18 d (by have := HL.out; unfold putS; simp; omega)
        have k3 := fun W (K : Ec W0 W a p (putS p (putS p e 17 1) 18 d)) => put_c K 18 m (by have := HL.out; unfold putS; simp; omega)
        have k4 := fun W (K : Ec W0 W a p (putS p (putS p (putS p e 17 1) 18 d) 18 m)) => sign_ce K (x : Int) ((top + k : Nat) : Int) hin (by have := HL.out; unfold putS; simp; omega)
        have HR := Lib.hid (show ((top + RN : Nat) : Int) = ((top + (k + 1) : Nat) : Int) by rw [hR])
        clear hR hz
        generalize hy : ((top + k : Nat) : Int) = y at *
        have hy2 : ((top + (k + 1) : Nat) : Int) = y + 1 := by omega
        rw [hy2] at wk HR
        clear hy2 hy
        generalize signS p (putS p (putS p (putS p e 17 1) 18 d) 18 m) (x : Int) y = e4 at *
        generalize putS p (putS p (putS p e 17 1) 18 d) 18 m = e3 at *
        generalize putS p (putS p e 17 1) 18 d = e2 at *
        generalize putS p e 17 1 = e1 at *
        have HE := Lib.hid hE
        clear hE
        obtain ⟨c5a, c5b⟩ : (∀ W e, Ec W0 W a p e → W.cell? ⟨a.P, 5, none⟩ = some (.func (.func 53) #[] #[.pointer (some ⟨a.G, 0, none⟩), .pointer (some ⟨a.L, 0, none⟩)])) ∧ True := ⟨fun W e K => K.pc.cell 5, trivial⟩
        have c1 := c5a _ _ H1.out
        have k1 := k1 _ H1.out
        go_wp2_with (first | (go_at_call 91; (with_reducible refine kb.mono ?_); rintro e wn ⟨rfl, rfl⟩) | (go_at_call 53; first | ((with_reducible refine k1.mono ?_); rintro e w2 ⟨rfl, H2, K2⟩; have H2 := Lib.hid H2; have K2 := Lib.hid (K1.out.trans K2); have c2 := c5a _ _ H2.out; have k2 := k2 _ H2.out) | ((with_reducible refine k2.mono ?_); rintro e w3 ⟨rfl, H3, K3⟩; have H3 := Lib.hid H3; have K3 := Lib.hid (K2.out.trans K3); have c3 := c5a _ _ H3.out; have k3 := k3 _ H3.out) | ((with_reducible refine k3.mono ?_); rintro e w4 ⟨rfl, H4, K4⟩; have H4 := Lib.hid H4; have K4 := Lib.hid (K3.out.trans K4); have k4 := k4 _ H4.out)) | (go_at_call 114; (with_reducible refine k4.mono ?_); rintro e w5 ⟨rfl, H5, K5⟩))
        go_ret
        exact ⟨by rw [HR.out]; rfl, by rw [HE.out]; exact H5, K4.out.trans K5⟩
    · obtain rfl : k = 4 := by omega
      have hz : Z = 4 := by rw [HZ.out]; exact zer_is _ 4 hk h0.out (.inl rfl)
      obtain ⟨hE, hR⟩ := HE4.out hz
      have k1 := put_c H1.out 17 0 (by have := HL.out; omega)
      have c5 : wr.cell? ⟨a.P, 5, none⟩ = some (.func (.func 53) #[] #[.pointer (some ⟨a.G, 0, none⟩), .pointer (some ⟨a.L, 0, none⟩)]) := H1.out.pc.cell 5
      have e4 : ((top + 4 : Nat) : Int) = (top : Int) + 4 := by omega
      have HR := Lib.hid (show ((top + RN : Nat) : Int) = (top : Int) + 4 by rw [hR]; omega)
      rw [e4]
      have HE := Lib.hid hE
      clear hE hR hz e4
      go_wp2_with (first | (go_at_call 53; (with_reducible refine k1.mono ?_); rintro e w2 ⟨rfl, H2, K2⟩))
      go_ret
      exact ⟨by rw [HR.out]; rfl, by rw [HE.out]; exact H2, K1.out.trans K2⟩
end Go.Proofs.YtbhjapgioaiocaaDoor
