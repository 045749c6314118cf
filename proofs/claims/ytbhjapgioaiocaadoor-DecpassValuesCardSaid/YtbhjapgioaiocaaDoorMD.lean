/-
  Layer 16: quiet columns; a stripe.
  Layer 16: the significance pass.
-/
import Derived.Test.YtbhjapgioaiocaaDoorMC
import Derived.WalkMore
set_option maxRecDepth 100000
namespace Go.Proofs.YtbhjapgioaiocaaDoor
open Go.RowKit

section
variable {σ : Type} {O : Ora σ}
set_option maxHeartbeats 2000000 in
theorem dquiet_c {W0 W : World} {a : Adr} {p : Pp} {e : St × σ} (H : Dc O W0 W a p e) (x top n : Nat) (hx : x < p.w) (hn : top + n ≤ p.h) (hn4 : n ≤ 4) : Calls Tryd.prog 124 #[.pointer (some ⟨a.P, 0, none⟩), .int .i64 (x : Int), .int .i64 (top : Int), .int .i64 ((top + n : Nat) : Int)] W fun E W' => E = .returned (.bool (quietQ p e.1 x top n)) ∧ Dn W W' := by
  have hh : p.h ≤ 64 := by have := H.cb.fit; unfold fits at this; omega
  have HH := Lib.hid H
  have HX := Lib.hid hx
  have HNN := Lib.hid hn
  obtain ⟨b, hb⟩ : ∃ b, b = top + n := ⟨_, rfl⟩
  rw [← hb]
  have hb64 : b ≤ 64 := by omega
  have HB := Lib.hid hb
  obtain ⟨Q, hQ⟩ : ∃ Q, Q = quietQ p e.1 x top n := ⟨_, rfl⟩
  rw [← hQ]
  have HQ := Lib.hid hQ
  have wt : IntKind.i64.wrap ((top : Int) + 4) = (top : Int) + 4 := by rw [IntWalk.i64_left]; unfold wrap64; omega
  clear H hx hn hb hQ
  go_enter Tryd.func124, Tryd.ntmps124
  go_wp2_with fail
  go_loopw [9] (fun i wr => ∃ j : Nat, i = .int .i64 (j : Int) ∧ Hid (top ≤ j ∧ j ≤ b ∧ ∀ r : Nat, top ≤ r → r < j → busyQ p e.1 x r = false) ∧ Hid (Dn W wr)) (fun i _ => (b - (intOf i).toNat))
  case atStart => exact ⟨top, rfl, ⟨Nat.le_refl _, by have := HB.out; omega, fun r h1 h2 => by omega⟩, dn_refl _⟩
  case round =>
    obtain ⟨j, rfl, hj, hD⟩ := hrel
    have H1 := Lib.hid (HH.out.dn hD.out)
    obtain ⟨c0, -, -, -, -, -⟩ := dc_cells H1.out.pc
    by_cases hlt : (j : Int) < (b : Int)
    · have hin : inB p.w p.h (x : Int) (j : Int) := by have := HX.out; have := HNN.out; have := HB.out; unfold inB; omega
      obtain ⟨s, hs⟩ : ∃ s, s = e.1.s (x : Int) (j : Int) := ⟨_, rfl⟩
      obtain ⟨t, ht⟩ : ∃ t, t = e.1.t (x : Int) (j : Int) := ⟨_, rfl⟩
      obtain ⟨nr, hnr⟩ : ∃ t, t = nearQ p e.1 (x : Int) (j : Int) := ⟨_, rfl⟩
      have k1 := significant_c H1.out.cb (x : Int) (j : Int)
      have k2 := touched_c H1.out.cb (x : Int) (j : Int)
      have k3 := dnear_c H1.out.cb H1.out.pc (x : Int) (j : Int) hin
      rw [← hs] at k1
      rw [← ht] at k2
      rw [← hnr] at k3
      have HBU := Lib.hid (show busyQ p e.1 x j = (s || t || nr) by unfold busyQ; rw [hs, ht, hnr])
      have wj : IntKind.i64.wrap ((j : Int) + 1) = ((j + 1 : Nat) : Int) := by have := hj.out; rw [IntWalk.i64_left]; unfold wrap64; omega
      have hbusy : (s || t || nr) = true → Q = false := fun h => by
        have hj := hj.out
        rw [HQ.out]
        exact quiet_no _ _ _ _ _ j hj.1 (by have := HB.out; omega) (by rw [HBU.out, h])
      have HBQ := Lib.hid hbusy
      clear hs ht hnr hin hbusy
      cases s with
      | true =>
        have e1 := HBQ.out (by simp)
        go_wp2_with (first | (go_at_call 64; (with_reducible refine k1.mono ?_); rintro e wn ⟨rfl, rfl⟩))
        go_ret
        exact ⟨by rw [e1]; rfl, hD.out⟩
      | false =>
        cases t with
        | true =>
          have e1 := HBQ.out (by simp)
          go_wp2_with (first | (go_at_call 64; (with_reducible refine k1.mono ?_); rintro e wn ⟨rfl, rfl⟩) | (go_at_call 66; (with_reducible refine k2.mono ?_); rintro e wn ⟨rfl, rfl⟩))
          go_ret
          exact ⟨by rw [e1]; rfl, hD.out⟩
        | false =>
          cases nr with
          | true =>
            have e1 := HBQ.out (by simp)
            go_wp2_with (first | (go_at_call 64; (with_reducible refine k1.mono ?_); rintro e wn ⟨rfl, rfl⟩) | (go_at_call 66; (with_reducible refine k2.mono ?_); rintro e wn ⟨rfl, rfl⟩) | (go_at_call 106; (with_reducible refine k3.mono ?_); rintro e wn ⟨rfl, hd⟩))
            go_ret
            exact ⟨by rw [e1]; rfl, dn_trans hD.out hd⟩
          | false =>
            clear HBQ
            go_wp2_with (first | (go_at_call 64; (with_reducible refine k1.mono ?_); rintro e wn ⟨rfl, rfl⟩) | (go_at_call 66; (with_reducible refine k2.mono ?_); rintro e wn ⟨rfl, rfl⟩) | (go_at_call 106; (with_reducible refine k3.mono ?_); rintro e wn ⟨rfl, hd⟩; have HD2 := Lib.hid (dn_trans hD.out hd); clear hd))
            go_roundw
            case rel =>
              refine ⟨j + 1, by go_num, ⟨by have := hj.out; omega, by omega, fun r h1 h2 => ?_⟩, HD2⟩
              rcases Nat.lt_or_ge r j with h | h
              · exact hj.out.2.2 r h1 h
              · obtain rfl : r = j := by omega
                rw [HBU.out]; rfl
            case measure => simp [intOf]; omega
    · have e1 : Q = decide (n = 4) := by
        rw [HQ.out]
        exact quiet_is _ _ _ _ _ fun r h1 h2 => hj.out.2.2 r h1 (by have := HB.out; omega)
      have e2 : ((b : Int) == (top : Int) + 4) = decide (n = 4) := by
        have := HB.out
        by_cases h : n = 4
        · simp [h]; omega
        · simp [h]; omega
      go_wp2_with fail
      go_ret
      exact ⟨by first | rfl | (rw [e1, ← e2]; rfl), hD.out⟩
set_option maxHeartbeats 8000000 in
theorem dstripe_c {W0 W : World} {a : Adr} {p : Pp} {e : St × σ} (H : Dc O W0 W a p e) (top n : Nat) (hn : top + n ≤ p.h) (hn4 : n ≤ 4) (hl : O.cnt e.2 ≤ 990000) : Calls Tryd.prog 109 #[.pointer (some ⟨a.P, 0, none⟩), .int .i64 (p.w : Int), .int .i64 (top : Int), .int .i64 ((top + n : Nat) : Int)] W (DG O W0 W a p (dstrS p O.A e top n p.w)) := by
  obtain ⟨hw, hh⟩ := H.len
  have HH := Lib.hid H
  have HW := Lib.hid hw
  have HL := Lib.hid hl
  have HN4 := Lib.hid hn4
  obtain ⟨b, hb⟩ : ∃ b, b = top + n := ⟨_, rfl⟩
  have HB := Lib.hid hb
  rw [← hb]
  have HB64 := Lib.hid (show b ≤ 64 by omega)
  have HN := Lib.hid (show b ≤ p.h by omega)
  have HTN := Lib.hid hn
  clear H hb hn hn4 hw hh hl
  go_enter Tryd.func109, Tryd.ntmps109
  go_step3
  go_wp2_with fail
  go_step3
  go_wp2_with fail
  go_loopw [11] (fun i wr => ∃ k : Nat, k ≤ p.w ∧ i = .int .i64 (k : Int) ∧ Hid (Dc O W0 wr a p (dstrS p O.A e top n k)) ∧ Hid (Kt W wr)) (fun i _ => (p.w - (intOf i).toNat))
  case atStart => exact ⟨0, Nat.zero_le _, rfl, HH.out, Kt.refl _⟩
  case round =>
    obtain ⟨k, hk, rfl, hE, hK⟩ := hrel
    by_cases hkw : k < p.w
    · have hnx : dstrS p O.A e top n (k + 1) = dcolS p O.A (dstrS p O.A e top n k) k top n := by unfold dstrS; rw [foldl_rng]
      have hlen := (rch_str (p := p) (A := O.A) e top n k HN4.out).cnt O.hcnt
      obtain ⟨ek, hek⟩ : ∃ e1, e1 = dstrS p O.A e top n k := ⟨_, rfl⟩
      rw [← hek] at hE hnx hlen
      have kq := dquiet_c hE.out k top n hkw HTN.out HN4.out
      rw [← HB.out] at kq
      have hcnt : O.cnt ek.2 ≤ 991000 := by have := HW.out; have := HL.out; omega
      have HCN := Lib.hid hcnt
      have HKW := Lib.hid hkw
      have wk : IntKind.i64.wrap ((k : Int) + 1) = ((k + 1 : Nat) : Int) := by have := HW.out; rw [IntWalk.i64_left]; unfold wrap64; omega
      rw [dcol_is] at hnx
      have HQ4 : quietQ p ek.1 k top n = true → n = 4 := fun h => by unfold quietQ at h; simp at h; exact h.2
      clear hlen hek hcnt
      generalize quietQ p ek.1 k top n = Q at *
      cases Q with
      | true =>
        have h4 := HQ4 rfl
        rw [if_pos rfl] at hnx
        have hcn := HCN.out
        have k17 := fun W (K : Dc O W0 W a p ek) => dask_c K 17 (by omega)
        have h17 := askB_in p O.A ek 17
        have hc17 : O.cnt (askE p O.A ek 17).2 ≤ O.cnt ek.2 + 1 := O.hcnt _ _
        obtain ⟨b17, hb17⟩ : ∃ b, b = askB p O.A ek 17 := ⟨_, rfl⟩
        rw [← hb17] at k17 h17 hnx
        obtain ⟨e17, he17⟩ : ∃ b, b = askE p O.A ek 17 := ⟨_, rfl⟩
        rw [← he17] at k17 hnx hc17
        clear hb17 he17 HQ4
        rcases h17 with rfl | rfl
        · rw [if_pos rfl] at hnx
          have HNX := Lib.hid hnx
          clear hnx h4 hcn hc17
          go_wp2_with (first | (go_at_call 124; (with_reducible refine kq.mono ?_); rintro e w1 ⟨rfl, hd⟩; have H1 := Lib.hid (hE.out.dn hd); have k17 := k17 _ H1.out; have K1 := Lib.hid (hK.out.trans (kt_below hd.below)); obtain ⟨-, -, -, -, -, c5⟩ := dc_cells H1.out.pc; clear hd) | (go_at_call 78; (with_reducible refine k17.mono ?_); rintro e w2 ⟨rfl, H2, K2⟩; have H2 := Lib.hid H2; have K2 := Lib.hid (K1.out.trans K2)))
          go_roundw
          case rel => exact ⟨k + 1, HKW.out, by go_num, by rw [HNX.out]; exact H2.out, K2⟩
          case measure => have := HKW.out; simp [intOf]; omega
        · rw [if_neg (by decide)] at hnx
          have k18 := fun W (K : Dc O W0 W a p e17) => dask_c K 18 (by omega)
          have h18 := askB_in p O.A e17 18
          have hc18 : O.cnt (askE p O.A e17 18).2 ≤ O.cnt e17.2 + 1 := O.hcnt _ _
          have k19 := fun W (K : Dc O W0 W a p (askE p O.A e17 18)) => dask_c K 18 (by omega)
          have h19 := askB_in p O.A (askE p O.A e17 18) 18
          have hc19 : O.cnt (askE p O.A (askE p O.A e17 18) 18).2 ≤ O.cnt (askE p O.A e17 18).2 + 1 := O.hcnt _ _
          have hrow : drowN p O.A e17 = (2 * askB p O.A e17 18 + askB p O.A (askE p O.A e17 18) 18).toNat := rfl
          have hrun : drunS p O.A e17 k top = dsignS p O.A (askE p O.A (askE p O.A e17 18) 18) (k : Int) ((top + drowN p O.A e17 : Nat) : Int) := rfl
          obtain ⟨r, hr⟩ : ∃ r, r = drowN p O.A e17 := ⟨_, rfl⟩
          obtain ⟨b2, hb2⟩ : ∃ b, b = askB p O.A e17 18 := ⟨_, rfl⟩
          obtain ⟨b3, hb3⟩ : ∃ b, b = askB p O.A (askE p O.A e17 18) 18 := ⟨_, rfl⟩
          rw [← hr] at hrow hrun
          rw [← hb2] at k18 h18 hrow
          rw [← hb3] at k19 h19 hrow
          have hr4 : r < 4 := by omega
          have hbt : b = top + 4 := by rw [HB.out, h4]
          have hin : inB p.w p.h (k : Int) ((top + r : Nat) : Int) := by have := HKW.out; have := HN.out; unfold inB; omega
          have k20 := fun W (K : Dc O W0 W a p (askE p O.A (askE p O.A e17 18) 18)) => dsign_c K (k : Int) ((top + r : Nat) : Int) hin (by omega)
          rw [← hrun] at k20
          have hcr : O.cnt (drunS p O.A e17 k top).2 ≤ O.cnt e17.2 + 3 := (rch_run (p := p) (A := O.A) e17 k top).cnt O.hcnt
          have htl : dtailS p O.A e17 k top n = (colP k (top + r + 1) (b - (top + r + 1))).foldl (dclnS p O.A) (drunS p O.A e17 k top) := by
            unfold dtailS
            rw [← hr, h4, show top + (r + 1) = top + r + 1 by omega, show 4 - (r + 1) = b - (top + r + 1) by omega]
          rw [htl] at hnx
          have m1 : IntKind.i64.wrap (2 * b2) = 2 * b2 := by rw [IntWalk.i64_left]; unfold wrap64; omega
          have m2 : IntKind.i64.wrap ((top : Int) + 2 * b2) = (top : Int) + 2 * b2 := by have := HB64.out; rw [IntWalk.i64_left]; unfold wrap64; omega
          have m3 : IntKind.i64.wrap ((top : Int) + 2 * b2 + b3) = ((top + r : Nat) : Int) := by have := HB64.out; rw [IntWalk.i64_left]; unfold wrap64; omega
          have m4 : IntKind.i64.wrap (((top + r : Nat) : Int) + 1) = ((top + r + 1 : Nat) : Int) := by have := HB64.out; rw [IntWalk.i64_left]; unfold wrap64; omega
          obtain ⟨e0, he0⟩ : ∃ e0, e0 = drunS p O.A e17 k top := ⟨_, rfl⟩
          rw [← he0] at k20 hnx hcr
          obtain ⟨j0, hj0⟩ : ∃ j, j = top + r + 1 := ⟨_, rfl⟩
          rw [← hj0] at m4 hnx
          have HC := Lib.hid hnx
          have HJ := Lib.hid (show j0 ≤ b by omega)
          have HL0 := Lib.hid (show O.cnt e0.2 ≤ 999010 by omega)
          generalize askE p O.A (askE p O.A e17 18) 18 = e19 at *
          generalize askE p O.A e17 18 = e18 at *
          generalize hrr : ((top + r : Nat) : Int) = rr at *
          clear hnx h4 hcn hc17 hc18 hc19 hrow hrun hr hb2 hb3 hr4 hbt hin hcr htl he0 hj0 h18 h19 hrr
          go_wp2_with (first | (go_at_call 124; (with_reducible refine kq.mono ?_); rintro e w1 ⟨rfl, hd⟩; have H1 := Lib.hid (hE.out.dn hd); have k17 := k17 _ H1.out; have K1 := Lib.hid (hK.out.trans (kt_below hd.below)); obtain ⟨-, -, -, -, -, c5⟩ := dc_cells H1.out.pc; clear hd) | (go_at_call 78; first | ((with_reducible refine k17.mono ?_); rintro e w2 ⟨rfl, H2, K2⟩; have H2 := Lib.hid H2; have K2 := Lib.hid (K1.out.trans K2); have k18 := k18 _ H2.out; obtain ⟨-, -, -, -, -, d5⟩ := dc_cells H2.out.pc) | ((with_reducible refine k18.mono ?_); rintro e w3 ⟨rfl, H3, K3⟩; have H3 := Lib.hid H3; have K3 := Lib.hid (K2.out.trans K3); have k19 := k19 _ H3.out; obtain ⟨-, -, -, -, -, f5⟩ := dc_cells H3.out.pc) | ((with_reducible refine k19.mono ?_); rintro e w4 ⟨rfl, H4, K4⟩; have H4 := Lib.hid H4; have K4 := Lib.hid (K3.out.trans K4); have k20 := k20 _ H4.out)) | (go_at_call 123; (with_reducible refine k20.mono ?_); rintro e w5 ⟨rfl, HE0, KE0⟩; have HE0 := Lib.hid HE0; have KE0 := Lib.hid (K4.out.trans KE0)))
          clear k17 k18 k19 k20 kq
          obtain ⟨Wi, rfl⟩ : ∃ Wo, Wo = w5 := ⟨_, rfl⟩
          go_loopw [9] (fun i wr => ∃ j : Nat, i = .int .i64 (j : Int) ∧ Hid (j0 ≤ j ∧ j ≤ b) ∧ Hid (Dc O W0 wr a p ((colP k j0 (j - j0)).foldl (dclnS p O.A) e0)) ∧ Hid (Kt W wr)) (fun i _ => (b - (intOf i).toNat))
          case atStart => exact ⟨j0, rfl, ⟨Nat.le_refl _, HJ.out⟩, by rw [Nat.sub_self]; exact HE0.out, KE0.out⟩
          case round =>
            obtain ⟨j, rfl, hj, hE, hK⟩ := hrel
            obtain ⟨e1, he1⟩ : ∃ e1, e1 = (colP k j0 (j - j0)).foldl (dclnS p O.A) e0 := ⟨_, rfl⟩
            rw [← he1] at hE
            obtain ⟨c0, -, -, -, -, -⟩ := dc_cells hE.out.pc
            by_cases hlt : (j : Int) < (b : Int)
            · have hjn : j < b := by omega
              have hnext : (colP k j0 (j + 1 - j0)).foldl (dclnS p O.A) e0 = dclnS p O.A e1 ((k : Int), (j : Int)) := by
                have := hj.out
                rw [show j + 1 - j0 = (j - j0) + 1 by omega, colP_succ, List.foldl_append, ← he1, show j0 + (j - j0) = j by omega]
                rfl
              have hlen : O.cnt e1.2 ≤ 999990 := by
                have h1 := (rch_fold (fun e : St × σ => e.2) (dclnS p O.A) 2 (rch_cln (p := p)) (colP k j0 (j - j0)) e0).cnt O.hcnt
                rw [← he1, colP_len] at h1
                have := HL0.out
                have := HB64.out
                omega
              have hin : inB p.w p.h (k : Int) (j : Int) := by have := HKW.out; have := HN.out; unfold inB; omega
              obtain ⟨s, hs⟩ : ∃ s, s = e1.1.s (k : Int) (j : Int) := ⟨_, rfl⟩
              obtain ⟨t, ht⟩ : ∃ t, t = e1.1.t (k : Int) (j : Int) := ⟨_, rfl⟩
              have k1 := significant_c hE.out.cb (k : Int) (j : Int)
              have k2 := touched_c hE.out.cb (k : Int) (j : Int)
              have k3 := drest_c hE.out (k : Int) (j : Int) hin (by omega)
              rw [← hs] at k1
              rw [← ht] at k2
              have wj : IntKind.i64.wrap ((j : Int) + 1) = ((j + 1 : Nat) : Int) := by have := HB64.out; rw [IntWalk.i64_left]; unfold wrap64; omega
              have hcl : dclnS p O.A e1 ((k : Int), (j : Int)) = if (s || t) = true then e1 else drestS p O.A e1 (k : Int) (j : Int) := by rw [hs, ht]; rfl
              rw [hcl] at hnext
              have HNX := Lib.hid hnext
              have HJN := Lib.hid hjn
              clear hs ht hin hcl hnext hlen he1 hjn
              cases s with
              | true =>
                go_wp2_with (first | (go_at_call 64; (with_reducible refine k1.mono ?_); rintro e wn ⟨rfl, rfl⟩))
                go_roundw
                case rel =>
                  refine ⟨j + 1, by go_num, ⟨by have := hj.out; omega, HJN.out⟩, ?_, hK⟩
                  rw [HNX.out]
                  exact hE.out
                case measure => have := HJN.out; simp [intOf]; omega
              | false =>
                cases t with
                | true =>
                  go_wp2_with (first | (go_at_call 64; (with_reducible refine k1.mono ?_); rintro e wn ⟨rfl, rfl⟩) | (go_at_call 66; (with_reducible refine k2.mono ?_); rintro e wn ⟨rfl, rfl⟩))
                  go_roundw
                  case rel =>
                    refine ⟨j + 1, by go_num, ⟨by have := hj.out; omega, HJN.out⟩, ?_, hK⟩
                    rw [HNX.out]
                    exact hE.out
                  case measure => have := HJN.out; simp [intOf]; omega
                | false =>
                  generalize drestS p O.A e1 (k : Int) (j : Int) = e2 at *
                  go_wp2_with (first | (go_at_call 64; (with_reducible refine k1.mono ?_); rintro e wn ⟨rfl, rfl⟩) | (go_at_call 66; (with_reducible refine k2.mono ?_); rintro e wn ⟨rfl, rfl⟩) | (go_at_call 107; (with_reducible refine k3.mono ?_); rintro e wn ⟨rfl, H2, K2⟩; have H2 := Lib.hid H2; have K2 := Lib.hid (hK.out.trans K2)))
                  go_roundw
                  case rel =>
                    refine ⟨j + 1, by go_num, ⟨by have := hj.out; omega, HJN.out⟩, ?_, K2⟩
                    rw [HNX.out]
                    exact H2.out
                  case measure => have := HJN.out; simp [intOf]; omega
            · have hjb : j = b := by have := hj.out; omega
              have HF := Lib.hid (HC.out.trans (show _ = e1 by rw [he1, hjb]))
              clear he1 hjb
              go_wp2_with fail
              go_roundw
              case rel => exact ⟨k + 1, HKW.out, by go_num, by rw [HF.out]; exact hE.out, hK⟩
              case measure => have := HKW.out; simp [intOf]; omega
      | false =>
        rw [if_neg (by decide)] at hnx
        obtain ⟨e0, he0⟩ : ∃ e0, e0 = ek := ⟨_, rfl⟩
        obtain ⟨j0, hj0⟩ : ∃ j0, j0 = top := ⟨_, rfl⟩
        have HC := Lib.hid (show dstrS p O.A e top n (k + 1) = (colP k j0 (b - j0)).foldl (dclnS p O.A) e0 by rw [he0, hj0, hnx, HB.out, show top + n - top = n by omega])
        have HJ := Lib.hid (show j0 ≤ b by rw [hj0, HB.out]; omega)
        have HL0 := Lib.hid (show O.cnt e0.2 ≤ 999010 by rw [he0]; have := HCN.out; omega)
        have HHJ := Lib.hid hj0
        have HHE := Lib.hid he0
        clear hnx HQ4 he0 hj0
        go_wp2_with (first | (go_at_call 124; (with_reducible refine kq.mono ?_); rintro e w1 ⟨rfl, hd⟩; have HE0 := Lib.hid (show Dc O W0 w1 a p e0 by rw [HHE.out]; exact hE.out.dn hd); have KE0 := Lib.hid (hK.out.trans (kt_below hd.below)); clear hd))
        clear kq
        obtain ⟨Wi, rfl⟩ : ∃ Wo, Wo = w1 := ⟨_, rfl⟩
        go_loopw [9] (fun i wr => ∃ j : Nat, i = .int .i64 (j : Int) ∧ Hid (j0 ≤ j ∧ j ≤ b) ∧ Hid (Dc O W0 wr a p ((colP k j0 (j - j0)).foldl (dclnS p O.A) e0)) ∧ Hid (Kt W wr)) (fun i _ => (b - (intOf i).toNat))
        case atStart => exact ⟨j0, by rw [HHJ.out], ⟨Nat.le_refl _, HJ.out⟩, by rw [Nat.sub_self]; exact HE0.out, KE0.out⟩
        case round =>
          obtain ⟨j, rfl, hj, hE, hK⟩ := hrel
          obtain ⟨e1, he1⟩ : ∃ e1, e1 = (colP k j0 (j - j0)).foldl (dclnS p O.A) e0 := ⟨_, rfl⟩
          rw [← he1] at hE
          obtain ⟨c0, -, -, -, -, -⟩ := dc_cells hE.out.pc
          by_cases hlt : (j : Int) < (b : Int)
          · have hjn : j < b := by omega
            have hnext : (colP k j0 (j + 1 - j0)).foldl (dclnS p O.A) e0 = dclnS p O.A e1 ((k : Int), (j : Int)) := by
              have := hj.out
              rw [show j + 1 - j0 = (j - j0) + 1 by omega, colP_succ, List.foldl_append, ← he1, show j0 + (j - j0) = j by omega]
              rfl
            have hlen : O.cnt e1.2 ≤ 999990 := by
              have h1 := (rch_fold (fun e : St × σ => e.2) (dclnS p O.A) 2 (rch_cln (p := p)) (colP k j0 (j - j0)) e0).cnt O.hcnt
              rw [← he1, colP_len] at h1
              have := HL0.out
              have := HB64.out
              omega
            have hin : inB p.w p.h (k : Int) (j : Int) := by have := HKW.out; have := HN.out; unfold inB; omega
            obtain ⟨s, hs⟩ : ∃ s, s = e1.1.s (k : Int) (j : Int) := ⟨_, rfl⟩
            obtain ⟨t, ht⟩ : ∃ t, t = e1.1.t (k : Int) (j : Int) := ⟨_, rfl⟩
            have k1 := significant_c hE.out.cb (k : Int) (j : Int)
            have k2 := touched_c hE.out.cb (k : Int) (j : Int)
            have k3 := drest_c hE.out (k : Int) (j : Int) hin (by omega)
            rw [← hs] at k1
            rw [← ht] at k2
            have wj : IntKind.i64.wrap ((j : Int) + 1) = ((j + 1 : Nat) : Int) := by have := HB64.out; rw [IntWalk.i64_left]; unfold wrap64; omega
            have hcl : dclnS p O.A e1 ((k : Int), (j : Int)) = if (s || t) = true then e1 else drestS p O.A e1 (k : Int) (j : Int) := by rw [hs, ht]; rfl
            rw [hcl] at hnext
            have HNX := Lib.hid hnext
            have HJN := Lib.hid hjn
            clear hs ht hin hcl hnext hlen he1 hjn
            cases s with
            | true =>
              go_wp2_with (first | (go_at_call 64; (with_reducible refine k1.mono ?_); rintro e wn ⟨rfl, rfl⟩))
              go_roundw
              case rel =>
                refine ⟨j + 1, by go_num, ⟨by have := hj.out; omega, HJN.out⟩, ?_, hK⟩
                rw [HNX.out]
                exact hE.out
              case measure => have := HJN.out; simp [intOf]; omega
            | false =>
              cases t with
              | true =>
                go_wp2_with (first | (go_at_call 64; (with_reducible refine k1.mono ?_); rintro e wn ⟨rfl, rfl⟩) | (go_at_call 66; (with_reducible refine k2.mono ?_); rintro e wn ⟨rfl, rfl⟩))
                go_roundw
                case rel =>
                  refine ⟨j + 1, by go_num, ⟨by have := hj.out; omega, HJN.out⟩, ?_, hK⟩
                  rw [HNX.out]
                  exact hE.out
                case measure => have := HJN.out; simp [intOf]; omega
              | false =>
                generalize drestS p O.A e1 (k : Int) (j : Int) = e2 at *
                go_wp2_with (first | (go_at_call 64; (with_reducible refine k1.mono ?_); rintro e wn ⟨rfl, rfl⟩) | (go_at_call 66; (with_reducible refine k2.mono ?_); rintro e wn ⟨rfl, rfl⟩) | (go_at_call 107; (with_reducible refine k3.mono ?_); rintro e wn ⟨rfl, H2, K2⟩; have H2 := Lib.hid H2; have K2 := Lib.hid (hK.out.trans K2)))
                go_roundw
                case rel =>
                  refine ⟨j + 1, by go_num, ⟨by have := hj.out; omega, HJN.out⟩, ?_, K2⟩
                  rw [HNX.out]
                  exact H2.out
                case measure => have := HJN.out; simp [intOf]; omega
          · have hjb : j = b := by have := hj.out; omega
            have HF := Lib.hid (HC.out.trans (show _ = e1 by rw [he1, hjb]))
            clear he1 hjb
            go_wp2_with fail
            go_roundw
            case rel => exact ⟨k + 1, HKW.out, by go_num, by rw [HF.out]; exact hE.out, hK⟩
            case measure => have := HKW.out; simp [intOf]; omega
    · obtain rfl : k = p.w := by omega
      go_wp2_with fail
      go_end0
      exact ⟨rfl, hE.out, hK.out⟩
end
end Go.Proofs.YtbhjapgioaiocaaDoor
set_option maxRecDepth 100000
namespace Go.Proofs.YtbhjapgioaiocaaDoor
open Go.RowKit

section
variable {σ : Type} {O : Ora σ}
/-- What a round of a loop over a scan knows: the coder, the list, the variable. -/
structure Rx (O : Ora σ) (W0 W w1 : World) (a : Adr) (p : Pp) (e : St × σ) (s : Option Addr) (L : List (Int × Int)) (g : Nat) (x y : Int) : Prop where
  ec : Dc O W0 w1 a p e
  hp : HoldsP w1 s L
  kt : Kt W w1
  bx : Blk w1 g 113 #[.int .i64 x, .int .i64 y]
theorem Rx.cell {W0 W w1 : World} {a : Adr} {p : Pp} {e : St × σ} {s : Option Addr} {L : List (Int × Int)} {g : Nat} {x y : Int} (h : Rx O W0 W w1 a p e s L g x y) : w1.cell? ⟨a.P, 0, none⟩ = some (.pointer (some ⟨a.A, 0, none⟩)) ∧ w1.cell? ⟨g, 0, none⟩ = some (.int .i64 x) ∧ w1.cell? ⟨g, 1, none⟩ = some (.int .i64 y) ∧ w1.cell? ⟨a.P, 5, none⟩ = some (.func (.func 78) #[] #[.pointer (some ⟨a.G, 0, none⟩), .pointer (some ⟨a.L, 0, none⟩)]) := ⟨h.ec.pc.cell 0, h.bx.cell 0, h.bx.cell 1, h.ec.pc.cell 5⟩
theorem Rx.dn {W0 W w1 : World} {a : Adr} {p : Pp} {e : St × σ} {s : Option Addr} {L : List (Int × Int)} {g : Nat} {x y : Int} (h : Rx O W0 W w1 a p e s L g x y) (n : Nat) : Rx O W0 W (w1.drewN n) a p e s L g x y := ⟨h.ec.dn (dn_mk _ n), h.hp.call (drewN_below _ _), h.kt.trans (kt_below (drewN_below _ _)), h.bx.below (drewN_below _ _)⟩
theorem Rx.drew {W0 W w1 : World} {a : Adr} {p : Pp} {e : St × σ} {s : Option Addr} {L : List (Int × Int)} {g : Nat} {x y : Int} (h : Rx O W0 W w1 a p e s L g x y) : Rx O W0 W w1.drew a p e s L g x y := ⟨h.ec.below (Below.refl _ _).drew, h.hp.call (Below.refl _ _).drew, h.kt.trans (kt_below (Below.refl _ _).drew), h.bx.below (Below.refl _ _).drew⟩
theorem Rx.step {W0 W w1 w2 : World} {a : Adr} {p : Pp} {e e2 : St × σ} {s : Option Addr} {L : List (Int × Int)} {g : Nat} {x y : Int} (h : Rx O W0 W w1 a p e s L g x y) (h2 : Dc O W0 w2 a p e2) (k : Kt w1 w2) : Rx O W0 W w2 a p e2 s L g x y := ⟨h2, h.hp.kt k, h.kt.trans k, k _ _ h.bx⟩
theorem Rx.begin {W0 W w1 : World} {a : Adr} {p : Pp} {e : St × σ} {s : Option Addr} {L : List (Int × Int)} (x y : Int) (h1 : Dc O W0 w1 a p e) (h2 : HoldsP w1 s L) (h3 : Kt W w1) : Rx O W0 W (w1.alloc (.cells #[.int .i64 x, .int .i64 y] 113)) a p e s L w1.heap.size x y :=
  have hb := below_alloc (Below.refl _ w1) (.cells #[.int .i64 x, .int .i64 y] 113)
  ⟨h1.below hb, h2.call hb, h3.trans (kt_below hb), Blk.new _ _ _⟩
set_option maxHeartbeats 8000000 in
theorem dsigp_c {W0 W : World} {a : Adr} {p : Pp} {e : St × σ} (H : Dc O W0 W a p e) (hl : O.cnt e.2 ≤ 900000) : Calls Tryd.prog 79 #[.pointer (some ⟨a.P, 0, none⟩)] W (DG O W0 W a p ((scan p.w p.h).foldl (dsigS p O.A) e)) := by
  obtain ⟨hw, hh⟩ := H.len
  obtain ⟨c0, -, -, -, -, -⟩ := dc_cells H.pc
  have ks := size_c H.cb
  have kc := fun W => scan_yes p.w p.h H.cb.fit W
  have HSL := Lib.hid (scan_l p.w p.h hw hh)
  have HIN := Lib.hid (fun z (hz : z ∈ scan p.w p.h) => scan_in hz)
  have HL := Lib.hid hl
  have HH := Lib.hid H
  generalize scan p.w p.h = L at *
  clear H hw hh hl
  go_enter Tryd.func79, Tryd.ntmps79
  go_wp2_with (first | (go_at_call 77; (with_reducible refine ks.mono ?_); rintro e wa ⟨rfl, hBa⟩) | (go_at_call 87; (with_reducible refine (kc _).mono ?_); rintro e w1 ⟨s1, m1, rfl, hP, hB⟩; have HP := Lib.hid hP; have HB := Lib.hid (below_call hBa hB); clear hP hB))
  clear ks kc c0
  go_loopw [13] (fun i wr => ∃ k : Nat, k ≤ L.length ∧ i = .int .i64 (k : Int) ∧ Hid (Dc O W0 wr a p ((L.take k).foldl (dsigS p O.A) e)) ∧ Hid (HoldsP wr s1 L) ∧ Hid (Kt W wr)) (fun i _ => (L.length - (intOf i).toNat))
  case atStart => exact ⟨0, by omega, rfl, HH.out.below HB.out, HP.out, kt_below HB.out⟩
  case round =>
    obtain ⟨k, hk, rfl, hE, hH, hK⟩ := hrel
    by_cases hlt : k < L.length
    · obtain ⟨b, rfl, p0, p1⟩ := hH.out.at hlt
      have hz := HIN.out _ (List.getElem_mem hlt)
      have hnext := foldl_take (dsigS p O.A) e L k hlt
      obtain ⟨e1, he1⟩ : ∃ e1, e1 = (L.take k).foldl (dsigS p O.A) e := ⟨_, rfl⟩
      have hlen : O.cnt e1.2 ≤ 999990 := by
        have h1 := (rch_fold (fun e : St × σ => e.2) (dsigS p O.A) 2 (rch_sig (p := p)) (L.take k) e).cnt O.hcnt
        rw [← he1, List.length_take] at h1
        have := HL.out
        have := HSL.out
        omega
      rw [← he1] at hE hnext
      obtain ⟨z, hz0⟩ : ∃ z, z = L[k] := ⟨_, rfl⟩
      rw [← hz0] at hz hnext p0 p1
      obtain ⟨x, y⟩ := z
      simp only at p0 p1 hz hnext
      have wk : IntKind.i64.wrap ((k : Int) + 1) = ((k + 1 : Nat) : Int) := by have := HSL.out; rw [IntWalk.i64_left]; unfold wrap64; omega
      have HLT := Lib.hid hlt
      clear hz0 he1
      go_wp2_with fail
      have R1 := Lib.hid (Rx.begin x y hE.out hH.out hK.out)
      clear p0 p1
      obtain ⟨c0, b0, b1, c5⟩ := R1.out.cell
      generalize wr.alloc (.cells #[.int .i64 x, .int .i64 y] 113) = W1 at *
      generalize wr.heap.size = g at *
      obtain ⟨s, hs⟩ : ∃ s, s = e1.1.s x y := ⟨_, rfl⟩
      obtain ⟨nr, hnr⟩ : ∃ t, t = nearQ p e1.1 x y := ⟨_, rfl⟩
      have hstep : dsigS p O.A e1 (x, y) = if (!s && nr) = true then dtouchS p (drestS p O.A e1 x y) x y true else e1 := by rw [hs, hnr]; rfl
      rw [hstep] at hnext
      have HNX := Lib.hid hnext
      have kg : ∀ n, Calls Tryd.prog 64 #[.pointer (some ⟨a.A, 0, none⟩), .int .i64 x, .int .i64 y] (W1.drewN n) fun e w' => e = .returned (.bool s) ∧ w' = W1.drewN n := fun n => by rw [hs]; exact (significant_c (R1.out.dn n).ec.cb x y).mono fun _ _ z => ⟨z.1, z.2.symm⟩
      have kn : ∀ n, Calls Tryd.prog 106 #[.pointer (some ⟨a.P, 0, none⟩), .int .i64 x, .int .i64 y] (W1.drewN n) fun e w' => e = .returned (.bool nr) ∧ ∃ m, w' = (W1.drewN n).drewN m := fun n => by rw [hnr]; exact dnear_c (R1.out.dn n).ec.cb (R1.out.dn n).ec.pc x y hz
      have kc := fun W (K : Dc O W0 W a p e1) => drest_c K x y hz (by omega)
      clear hs hnr hstep hnext hz hlen hE hH hK
      cases s with
      | true =>
        go_quiet ((go_at_call 64; exact Calls.quiet_of_same (kg _)))
        have R2 := Lib.hid (R1.out.dn nq)
        generalize W1.drewN nq = W2 at *
        go_wp2_with fail
        go_roundw
        case rel =>
          refine ⟨k + 1, HLT.out, by go_num, ?_, R2.out.hp, R2.out.kt⟩
          rw [HNX.out]; simp only [Bool.not_true, Bool.false_and]; rw [if_neg (by decide)]
          exact R2.out.ec
        case measure => have := HLT.out; simp [intOf]; omega
      | false =>
        cases nr with
        | false =>
          go_quiet ((first | (go_at_call 64; exact Calls.quiet_of_same (kg _)) | (go_at_call 106; exact Calls.quiet_of (kn _))))
          have R2 := Lib.hid (R1.out.dn nq)
          generalize W1.drewN nq = W2 at *
          go_wp2_with fail
          go_roundw
          case rel =>
            refine ⟨k + 1, HLT.out, by go_num, ?_, R2.out.hp, R2.out.kt⟩
            rw [HNX.out]; rw [if_neg (by decide)]
            exact R2.out.ec
          case measure => have := HLT.out; simp [intOf]; omega
        | true =>
          go_quiet ((first | (go_at_call 64; exact Calls.quiet_of_same (kg _)) | (go_at_call 106; exact Calls.quiet_of (kn _))))
          have R2 := Lib.hid (R1.out.dn nq)
          clear c0 b0 b1 c5 R1 kg kn
          generalize W1.drewN nq = W2 at *
          obtain ⟨c0, b0, b1, -⟩ := R2.out.cell
          have kc2 := kc _ R2.out.ec
          generalize drestS p O.A e1 x y = e2 at *
          go_wp2_with (first | (go_at_call 107; (with_reducible refine kc2.mono ?_); rintro e w3 ⟨rfl, H3, K3⟩; have R3 := Lib.hid (R2.out.step H3 K3); clear H3 K3))
          have R4 := Lib.hid R3.out.drew
          clear c0 b0 b1
          obtain ⟨d0, b0, b1, -⟩ := R4.out.cell
          have kt4 := dtouch_ce R4.out.ec x y true
          generalize dtouchS p e2 x y true = e3 at *
          go_region_held3 (fun w' => w'.cell? ⟨a.P, 0, none⟩ = some (.pointer (some ⟨a.A, 0, none⟩)) ∧ w'.cell? ⟨g, 0, none⟩ = some (.int .i64 x) ∧ w'.cell? ⟨g, 1, none⟩ = some (.int .i64 y))
            (first | (with_reducible exact ⟨d0, b0, b1⟩) | (with_reducible exact ⟨f0, f1, f2⟩) | fail)
            (first | (go_simp; go_at_call 46; (with_reducible refine kt4.mono ?_); rintro e w5 ⟨rfl, H5, K5⟩; have R5 := Lib.hid (R4.out.step H5 K5); clear H5 K5; obtain ⟨f0, f1, f2, -⟩ := R5.out.cell) | fail)
          all_goals
            go_wp2_with fail
            go_roundw
            case rel =>
              refine ⟨k + 1, HLT.out, by go_num, ?_, R5.out.hp, R5.out.kt⟩
              rw [HNX.out]; rw [if_pos (by decide)]
              exact R5.out.ec
            case measure => have := HLT.out; simp [intOf]; omega
    · have hkl : k = L.length := by omega
      subst hkl
      rw [List.take_length] at hE
      go_wp2_with fail
      go_end0
      exact ⟨rfl, hE.out, hK.out⟩
end
end Go.Proofs.YtbhjapgioaiocaaDoor
