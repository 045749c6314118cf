/-
  Layer 15: a bit with its sign; quiet columns.
-/
import Derived.Test.YtbhjapgioaiocaaDoorEd
set_option maxRecDepth 100000
namespace Go.Proofs.YtbhjapgioaiocaaDoor
open Go.RowKit

set_option maxHeartbeats 2000000 in
theorem code_c {W0 W : World} {a : Adr} {p : Pp} {e : Es} (H : Ec W0 W a p e) (x y : Int) (hin : inB p.w p.h x y) (hl : e.2.length ≤ 999999) : Calls Tryd.prog 89 #[.pointer (some ⟨a.P, 0, none⟩), .int .i64 x, .int .i64 y] W (EG W0 W a p (codeS p e x y)) := by
  obtain ⟨c0, -, -, c3, -, -⟩ := ec_cells H.pc
  have kn := fun n => nb_y (H.cb.below (drewN_below W n)) x y p.c hin
  have HN := fun n => Lib.hid (H.dn (dn_mk W n))
  have EQ0 : codeS p e x y = if bitM (e.1.v x y) p.s = 1 then signS p (putS p e (sigC p e.1 x y) (bitM (e.1.v x y) p.s)) x y else putS p e (sigC p e.1 x y) (bitM (e.1.v x y) p.s) := rfl
  obtain ⟨bt, hbt⟩ : ∃ b, b = bitM (e.1.v x y) p.s := ⟨_, rfl⟩
  obtain ⟨C, hC⟩ : ∃ c, c = sigC p e.1 x y := ⟨_, rfl⟩
  rw [← hbt, ← hC] at EQ0
  have hb01 : bt = 0 ∨ bt = 1 := by rw [hbt]; exact bitM_in _ _
  have kb : ∀ W, Ec W0 W a p e → Calls Tryd.prog 91 #[.pointer (some ⟨a.P, 0, none⟩), .int .i64 x, .int .i64 y] W fun e w' => e = .returned (.int .i64 bt) ∧ W = w' := fun W K => by rw [hbt]; exact (bit_c K.cb K.pc K.hs x y (K.ok x y)).mono fun _ _ z => ⟨z.1, z.2.symm⟩
  have kg : ∀ W, Ec W0 W a p e → Calls Tryd.prog 113 #[.int .i64 p.o, .int .i64 (nbH e.1 x y), .int .i64 (nbV e.1 x y p.c), .int .i64 (nbD e.1 x y p.c)] W fun e w' => e = .returned (.int .i64 C) ∧ W = w' := fun W K => by rw [hC]; exact Cx.sig_c _ _ _ _ W K.tabs
  have kp := fun W (K : Ec W0 W a p e) => put_c K C bt (by omega)
  have ks := fun W (K : Ec W0 W a p (putS p e C bt)) => sign_ce K x y hin (by unfold putS; simp; omega)
  rw [EQ0]
  clear hC hbt EQ0 hin hl H
  generalize nbH e.1 x y = n1 at *
  generalize nbV e.1 x y p.c = n2 at *
  generalize nbD e.1 x y p.c = n3 at *
  rcases hb01 with rfl | rfl
  · rw [if_neg (by decide)]
    generalize putS p e C 0 = e1 at *
    go_enter Tryd.func89, Tryd.ntmps89
    go_wp2_with fail
    go_quiet ((go_at_call 112; exact Calls.quiet_of (kn _)))
    have H1 := HN nq
    clear kn HN c0 c3
    have K0 := Lib.hid (kt_below (drewN_below W nq))
    generalize W.drewN nq = W1 at *
    have kb1 := kb _ H1.out
    go_wp2_with (first | (go_at_call 91; (with_reducible refine kb1.mono ?_); rintro e wn ⟨rfl, rfl⟩))
    have HD := Lib.hid (H1.out.below (Below.refl W1.heap.size W1).drew)
    obtain ⟨-, -, c2, -, -, c5⟩ := ec_cells HD.out.pc
    have kg1 := kg _ HD.out
    have kp1 := kp _ HD.out
    go_region_held3 (fun w' => w'.cell? ⟨a.P, 2, none⟩ = some (.int .i64 p.o) ∧ w'.cell? ⟨a.P, 5, none⟩ = some (.func (.func 53) #[] #[.pointer (some ⟨a.G, 0, none⟩), .pointer (some ⟨a.L, 0, none⟩)]))
      (first | (with_reducible exact ⟨c2, c5⟩) | (with_reducible exact ⟨d2, d5⟩) | fail)
      (first | (go_simp; go_at_call 113; (with_reducible refine kg1.mono ?_); rintro e wn ⟨rfl, rfl⟩) | (go_simp; go_at_call 53; (with_reducible refine kp1.mono ?_); rintro e w2 ⟨rfl, H2, K2⟩; have HH2 := Lib.hid H2; have KK2 := Lib.hid (K0.out.trans ((kt_below (Below.refl W1.heap.size W1).drew).trans K2)); clear K2; obtain ⟨-, -, d2, -, -, d5⟩ := ec_cells H2.pc; clear H2) | fail)
    all_goals
      go_wp2_with fail
      go_end0
      exact ⟨rfl, HH2.out, KK2.out⟩
  · rw [if_pos rfl]
    generalize putS p e C 1 = e1 at *
    generalize signS p e1 x y = e2 at *
    go_enter Tryd.func89, Tryd.ntmps89
    go_wp2_with fail
    go_quiet ((go_at_call 112; exact Calls.quiet_of (kn _)))
    have H1 := HN nq
    clear kn HN c0 c3
    have K0 := Lib.hid (kt_below (drewN_below W nq))
    generalize W.drewN nq = W1 at *
    have kb1 := kb _ H1.out
    go_wp2_with (first | (go_at_call 91; (with_reducible refine kb1.mono ?_); rintro e wn ⟨rfl, rfl⟩))
    have HD := Lib.hid (H1.out.below (Below.refl W1.heap.size W1).drew)
    obtain ⟨-, -, c2, -, -, c5⟩ := ec_cells HD.out.pc
    have kg1 := kg _ HD.out
    have kp1 := kp _ HD.out
    go_region_held3 (fun w' => w'.cell? ⟨a.P, 2, none⟩ = some (.int .i64 p.o) ∧ w'.cell? ⟨a.P, 5, none⟩ = some (.func (.func 53) #[] #[.pointer (some ⟨a.G, 0, none⟩), .pointer (some ⟨a.L, 0, none⟩)]))
      (first | (with_reducible exact ⟨c2, c5⟩) | (with_reducible exact ⟨d2, d5⟩) | fail)
      (first | (go_simp; go_at_call 113; (with_reducible refine kg1.mono ?_); rintro e wn ⟨rfl, rfl⟩) | (go_simp; go_at_call 53; (with_reducible refine kp1.mono ?_); rintro e w2 ⟨rfl, H2, K2⟩; have HH2 := Lib.hid H2; have KK2 := Lib.hid (K0.out.trans ((kt_below (Below.refl W1.heap.size W1).drew).trans K2)); clear K2; obtain ⟨-, -, d2, -, -, d5⟩ := ec_cells H2.pc; clear H2) | fail)
    all_goals
      have ks2 := ks _ HH2.out
      go_wp2_with (first | (go_at_call 114; (with_reducible refine ks2.mono ?_); rintro e w3 ⟨rfl, H3, K3⟩))
      go_end0
      exact ⟨rfl, H3, KK2.out.trans K3⟩
theorem mem_col {x top n : Nat} {z : Int × Int} (h : z ∈ colP x top n) : ∃ r, top ≤ r ∧ r < top + n ∧ z = ((x : Int), ((r : Nat) : Int)) := by
  unfold colP at h
  obtain ⟨i, hi, rfl⟩ := List.mem_map.1 h
  have := List.mem_range.1 hi
  exact ⟨top + i, by omega, by omega, rfl⟩
theorem quiet_is (p : Pp) (q : St) (x top n : Nat) (h : ∀ r : Nat, top ≤ r → r < top + n → busyQ p q x r = false) : quietQ p q x top n = decide (n = 4) := by
  unfold quietQ
  have : ((colP x top n).all fun z => !busyQ p q z.1 z.2) = true := List.all_eq_true.2 fun z hz => by
    obtain ⟨r, h1, h2, rfl⟩ := mem_col hz
    simp [h r h1 h2]
  rw [this, Bool.true_and]
theorem quiet_no (p : Pp) (q : St) (x top n r : Nat) (h1 : top ≤ r) (h2 : r < top + n) (h : busyQ p q x r = true) : quietQ p q x top n = false := by
  unfold quietQ
  have : ((colP x top n).all fun z => !busyQ p q z.1 z.2) = false := List.all_eq_false.2 ⟨((x : Int), (r : Int)), by
    unfold colP
    exact List.mem_map.2 ⟨r - top, List.mem_range.2 (by omega), by rw [show top + (r - top) = r by omega]⟩, by simp [h]⟩
  rw [this, Bool.false_and]
set_option maxHeartbeats 2000000 in
theorem quiet_c {W0 W : World} {a : Adr} {p : Pp} {e : Es} (H : Ec W0 W a p e) (x top n : Nat) (hx : x < p.w) (hn : top + n ≤ p.h) (hn4 : n ≤ 4) : Calls Tryd.prog 115 #[.pointer (some ⟨a.P, 0, none⟩), .int .i64 (x : Int), .int .i64 (top : Int), .int .i64 ((top + n : Nat) : Int)] W fun E W' => E = .returned (.bool (quietQ p e.1 x top n)) ∧ Dn W W' := by
  have hh : p.h ≤ 64 := by have := H.cb.fit; unfold fits at this; omega
  have HH := Lib.hid H
  have HX := Lib.hid hx
  have HNN := Lib.hid hn
  obtain ⟨b, hb⟩ : ∃ b, b = top + n := ⟨_, rfl⟩
  rw [← hb]
  have hb64 : b ≤ 64 := by omega
  have HB := Lib.hid hb
  obtain ⟨Q, hQ⟩ : ∃ Q, Q = quietQ p e.1 x top n := ⟨_, rfl⟩
  rw [← hQ]
  have HQ := Lib.hid hQ
  have wt : IntKind.i64.wrap ((top : Int) + 4) = (top : Int) + 4 := by rw [IntWalk.i64_left]; unfold wrap64; omega
  clear H hx hn hb hQ
  go_enter Tryd.func115, Tryd.ntmps115
  go_wp2_with fail
  go_loopw [9] (fun i wr => ∃ j : Nat, i = .int .i64 (j : Int) ∧ Hid (top ≤ j ∧ j ≤ b ∧ ∀ r : Nat, top ≤ r → r < j → busyQ p e.1 x r = false) ∧ Hid (Dn W wr)) (fun i _ => (b - (intOf i).toNat))
  case atStart => exact ⟨top, rfl, ⟨Nat.le_refl _, by have := HB.out; omega, fun r h1 h2 => by omega⟩, dn_refl _⟩
  case round =>
    obtain ⟨j, rfl, hj, hD⟩ := hrel
    have H1 := Lib.hid (HH.out.dn hD.out)
    obtain ⟨c0, -, -, -, -, -⟩ := ec_cells H1.out.pc
    by_cases hlt : (j : Int) < (b : Int)
    · have hin : inB p.w p.h (x : Int) (j : Int) := by have := HX.out; have := HNN.out; have := HB.out; unfold inB; omega
      obtain ⟨s, hs⟩ : ∃ s, s = e.1.s (x : Int) (j : Int) := ⟨_, rfl⟩
      obtain ⟨t, ht⟩ : ∃ t, t = e.1.t (x : Int) (j : Int) := ⟨_, rfl⟩
      obtain ⟨nr, hnr⟩ : ∃ t, t = nearQ p e.1 (x : Int) (j : Int) := ⟨_, rfl⟩
      have k1 := significant_c H1.out.cb (x : Int) (j : Int)
      have k2 := touched_c H1.out.cb (x : Int) (j : Int)
      have k3 := near_c H1.out.cb H1.out.pc (x : Int) (j : Int) hin
      rw [← hs] at k1
      rw [← ht] at k2
      rw [← hnr] at k3
      have HBU := Lib.hid (show busyQ p e.1 x j = (s || t || nr) by unfold busyQ; rw [hs, ht, hnr])
      have wj : IntKind.i64.wrap ((j : Int) + 1) = ((j + 1 : Nat) : Int) := by have := hj.out; rw [IntWalk.i64_left]; unfold wrap64; omega
      have hbusy : (s || t || nr) = true → Q = false := fun h => by
        have hj := hj.out
        rw [HQ.out]
        exact quiet_no _ _ _ _ _ j hj.1 (by have := HB.out; omega) (by rw [HBU.out, h])
      have HBQ := Lib.hid hbusy
      clear hs ht hnr hin hbusy
      cases s with
      | true =>
        have e1 := HBQ.out (by simp)
        go_wp2_with (first | (go_at_call 64; (with_reducible refine k1.mono ?_); rintro e wn ⟨rfl, rfl⟩))
        go_ret
        exact ⟨by rw [e1]; rfl, hD.out⟩
      | false =>
        cases t with
        | true =>
          have e1 := HBQ.out (by simp)
          go_wp2_with (first | (go_at_call 64; (with_reducible refine k1.mono ?_); rintro e wn ⟨rfl, rfl⟩) | (go_at_call 66; (with_reducible refine k2.mono ?_); rintro e wn ⟨rfl, rfl⟩))
          go_ret
          exact ⟨by rw [e1]; rfl, hD.out⟩
        | false =>
          cases nr with
          | true =>
            have e1 := HBQ.out (by simp)
            go_wp2_with (first | (go_at_call 64; (with_reducible refine k1.mono ?_); rintro e wn ⟨rfl, rfl⟩) | (go_at_call 66; (with_reducible refine k2.mono ?_); rintro e wn ⟨rfl, rfl⟩) | (go_at_call 88; (with_reducible refine k3.mono ?_); rintro e wn ⟨rfl, hd⟩))
            go_ret
            exact ⟨by rw [e1]; rfl, dn_trans hD.out hd⟩
          | false =>
            clear HBQ
            go_wp2_with (first | (go_at_call 64; (with_reducible refine k1.mono ?_); rintro e wn ⟨rfl, rfl⟩) | (go_at_call 66; (with_reducible refine k2.mono ?_); rintro e wn ⟨rfl, rfl⟩) | (go_at_call 88; (with_reducible refine k3.mono ?_); rintro e wn ⟨rfl, hd⟩; have HD2 := Lib.hid (dn_trans hD.out hd); clear hd))
            go_roundw
            case rel =>
              refine ⟨j + 1, by go_num, ⟨by have := hj.out; omega, by omega, fun r h1 h2 => ?_⟩, HD2⟩
              rcases Nat.lt_or_ge r j with h | h
              · exact hj.out.2.2 r h1 h
              · obtain rfl : r = j := by omega
                rw [HBU.out]; rfl
            case measure => simp [intOf]; omega
    · have e1 : Q = decide (n = 4) := by
        rw [HQ.out]
        exact quiet_is _ _ _ _ _ fun r h1 h2 => hj.out.2.2 r h1 (by have := HB.out; omega)
      have e2 : ((b : Int) == (top : Int) + 4) = decide (n = 4) := by
        have := HB.out
        by_cases h : n = 4
        · simp [h]; omega
        · simp [h]; omega
      go_wp2_with fail
      go_ret
      exact ⟨by first | rfl | (rw [e1, ← e2]; rfl), hD.out⟩
end Go.Proofs.YtbhjapgioaiocaaDoor
