/-
  Layer 15: the reference: a run length's column, the run length.
-/
import Derived.Test.YtbhjapgioaiocaaDoorXe
set_option maxRecDepth 100000
namespace Go.Proofs.YtbhjapgioaiocaaDoor
open Go.RowKit

def xrunQ (p : Pp) (q : St) (x y : Nat) : Bool := decide (y % 4 = 0) && quietQ p q x y (min 4 (p.h - y))
theorem xrunQ_no (p : Pp) (q : St) (x y : Nat) (h : ((y : Int) % 4 ≠ 0 ∨ (y : Int) + 4 > (p.h : Int))) (hy : y < p.h) : xrunQ p q x y = false := by
  unfold xrunQ quietQ
  rcases h with h | h
  · rw [decide_eq_false (show ¬ y % 4 = 0 by omega)]; rfl
  · rw [decide_eq_false (show ¬ min 4 (p.h - y) = 4 by omega)]; simp
theorem xrunQ_is (p : Pp) (q : St) (x y : Nat) (h : (y : Int) % 4 = 0) (h2 : (y : Int) + 4 ≤ (p.h : Int)) : xrunQ p q x y = quietQ p q x y 4 := by
  unfold xrunQ
  rw [show min 4 (p.h - y) = 4 by omega, decide_eq_true (show y % 4 = 0 by omega)]; rfl
set_option maxHeartbeats 4000000 in
theorem xrun_c {W0 W : World} {a : Adx} {p : Pp} {m : Mo} {e : Es} (H : Xc W0 W a p m e) (x y : Nat) (hx : x < p.w) (hy : y < p.h) : Calls Tryd.prog 99 #[.pointer (some ⟨a.P, 0, none⟩), .int .i64 (x : Int), .int .i64 (y : Int), .int .i64 (p.h : Int)] W fun E W' => E = .returned (.bool (xrunQ p e.1 x y)) ∧ Below W.heap.size W W' := by
  have hh : p.h ≤ 64 := H.len.2
  have wt : IntKind.i64.wrap ((y : Int) + 4) = (y : Int) + 4 := by rw [IntWalk.i64_left]; unfold wrap64; omega
  have HH := Lib.hid H
  have HX := Lib.hid hx
  have B0 := Lib.hid (Below.refl W.heap.size W)
  by_cases h1 : (y : Int) % 4 = 0
  · by_cases h2 : (y : Int) + 4 > (p.h : Int)
    · rw [xrunQ_no p e.1 x y (.inr h2) hy]
      clear H
      go_enter Tryd.func99, Tryd.ntmps99
      go_wp2_with fail
      go_ret
      exact ⟨rfl, B0.out⟩
    · rw [xrunQ_is p e.1 x y h1 (by omega)]
      have HNN := Lib.hid (show y + 4 ≤ p.h by omega)
      obtain ⟨Q, hQ⟩ : ∃ Q, Q = quietQ p e.1 x y 4 := ⟨_, rfl⟩
      rw [← hQ]
      have HQ := Lib.hid hQ
      clear H hx hQ
      go_enter Tryd.func99, Tryd.ntmps99
      go_wp2_with fail
      go_loopw [9] (fun i wr => ∃ k : Nat, k ≤ 4 ∧ i = .int .i64 (k : Int) ∧ Hid (∀ r : Nat, y ≤ r → r < y + k → busyQ p e.1 x r = false) ∧ Hid (Below W.heap.size W wr)) (fun i _ => (4 - (intOf i).toNat))
      case atStart => exact ⟨0, by omega, rfl, fun r h1 h2 => by omega, B0.out⟩
      case round =>
        obtain ⟨k, hk, rfl, hj, hD⟩ := hrel
        have H1 := Lib.hid (HH.out.below hD.out)
        obtain ⟨c0, -, -, -, -, -⟩ := H1.out.cells
        by_cases hlt : (k : Int) < 4
        · obtain ⟨v, hv⟩ : ∃ v : Nat, v = y + k := ⟨_, rfl⟩
          have hin : inB p.w p.h (x : Int) (v : Int) := by have := HX.out; have := HNN.out; unfold inB; omega
          obtain ⟨s, hs⟩ : ∃ s, s = e.1.s (x : Int) (v : Int) := ⟨_, rfl⟩
          obtain ⟨t, ht⟩ : ∃ t, t = e.1.t (x : Int) (v : Int) := ⟨_, rfl⟩
          obtain ⟨nn, hnn⟩ : ∃ t, t = nbH e.1 (x : Int) (v : Int) + nbV e.1 (x : Int) (v : Int) p.c + nbD e.1 (x : Int) (v : Int) p.c := ⟨_, rfl⟩
          have k1 := rsignificant_c H1.out.rb (x : Int) (v : Int)
          have k2 := fun W (K : Xc W0 W a p m e) => rtouched_c K.rb (x : Int) (v : Int)
          have k3 := fun W (K : Xc W0 W a p m e) => xnear_c K (x : Int) (v : Int) hin
          rw [← hs] at k1
          rw [← ht] at k2
          rw [← hnn] at k3
          have HBU := Lib.hid (show busyQ p e.1 x v = (s || t || decide (0 < nn)) by unfold busyQ nearQ; rw [hs, ht, hnn])
          have wj : IntKind.i64.wrap ((k : Int) + 1) = ((k + 1 : Nat) : Int) := by rw [IntWalk.i64_left]; unfold wrap64; omega
          have wy : IntKind.i64.wrap ((y : Int) + (k : Int)) = (v : Int) := by rw [IntWalk.i64_left]; unfold wrap64; omega
          have hbusy : (s || t || decide (0 < nn)) = true → Q = false := fun h => by
            rw [HQ.out]
            exact quiet_no _ _ _ _ _ v (by omega) (by omega) (by rw [HBU.out, h])
          have HBQ := Lib.hid hbusy
          have HV := Lib.hid hv
          clear hs ht hnn hin hbusy hv
          cases s with
          | true =>
            have e1 := HBQ.out (by simp)
            go_wp2_with (first | (go_at_call 65; (with_reducible refine k1.mono ?_); rintro e wn ⟨rfl, hb⟩; have D2 := Lib.hid (below_call hD.out hb); clear hb))
            go_ret
            exact ⟨by rw [e1]; rfl, D2.out⟩
          | false =>
            cases t with
            | true =>
              have e1 := HBQ.out (by simp)
              go_wp2_with (first | (go_at_call 65; (with_reducible refine k1.mono ?_); rintro e wn ⟨rfl, hb⟩; have D2 := Lib.hid (below_call hD.out hb); have H2 := Lib.hid (H1.out.below hb); clear hb; obtain ⟨d0, -, -, -, -, -⟩ := H2.out.cells; have k2 := k2 _ H2.out) | (go_at_call 67; (with_reducible refine k2.mono ?_); rintro e wn ⟨rfl, hb⟩; have D3 := Lib.hid (below_call D2.out hb); clear hb))
              go_ret
              exact ⟨by rw [e1]; rfl, D3.out⟩
            | false =>
              by_cases hn0 : 0 < nn
              · have e1 := HBQ.out (by simp; omega)
                go_wp2_with (first | (go_at_call 65; (with_reducible refine k1.mono ?_); rintro e wn ⟨rfl, hb⟩; have D2 := Lib.hid (below_call hD.out hb); have H2 := Lib.hid (H1.out.below hb); clear hb; obtain ⟨d0, -, -, -, -, -⟩ := H2.out.cells; have k2 := k2 _ H2.out) | (go_at_call 67; (with_reducible refine k2.mono ?_); rintro e wn ⟨rfl, hb⟩; have D3 := Lib.hid (below_call D2.out hb); have H3 := Lib.hid (H2.out.below hb); have k3 := k3 _ H3.out; clear hb) | (go_at_call 94; (with_reducible refine k3.mono ?_); rintro e wn ⟨rfl, hb⟩; have D4 := Lib.hid (below_call D3.out hb); clear hb))
                go_ret
                exact ⟨by rw [e1]; rfl, D4.out⟩
              · clear HBQ
                have HN0 := Lib.hid hn0
                go_wp2_with (first | (go_at_call 65; (with_reducible refine k1.mono ?_); rintro e wn ⟨rfl, hb⟩; have D2 := Lib.hid (below_call hD.out hb); have H2 := Lib.hid (H1.out.below hb); clear hb; obtain ⟨d0, -, -, -, -, -⟩ := H2.out.cells; have k2 := k2 _ H2.out) | (go_at_call 67; (with_reducible refine k2.mono ?_); rintro e wn ⟨rfl, hb⟩; have D3 := Lib.hid (below_call D2.out hb); have H3 := Lib.hid (H2.out.below hb); have k3 := k3 _ H3.out; clear hb) | (go_at_call 94; (with_reducible refine k3.mono ?_); rintro e wn ⟨rfl, hb⟩; have D4 := Lib.hid (below_call D3.out hb); clear hb))
                go_roundw
                case rel =>
                  refine ⟨k + 1, by omega, by go_num, fun r h1 h2 => ?_, D4⟩
                  rcases Nat.lt_or_ge r (y + k) with h | h
                  · exact hj.out r h1 h
                  · obtain rfl : r = v := by have := HV.out; omega
                    rw [HBU.out, decide_eq_false (show ¬ 0 < nn by have := HN0.out; omega)]; rfl
                case measure => simp [intOf]; omega
        · obtain rfl : k = 4 := by omega
          have e1 : Q = true := by
            rw [HQ.out, quiet_is _ _ _ _ _ hj.out]
            rfl
          go_wp2_with fail
          go_ret
          exact ⟨by first | rfl | (rw [e1]; rfl), hD.out⟩
  · rw [xrunQ_no p e.1 x y (.inl h1) hy]
    clear H
    go_enter Tryd.func99, Tryd.ntmps99
    go_wp2_with fail
    go_ret
    exact ⟨rfl, B0.out⟩
end Go.Proofs.YtbhjapgioaiocaaDoor
