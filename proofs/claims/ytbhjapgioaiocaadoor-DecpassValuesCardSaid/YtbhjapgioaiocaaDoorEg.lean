/-
  Layer 15: a column of a stripe.
-/
import Derived.Test.YtbhjapgioaiocaaDoorEf
import Derived.WalkMore
set_option maxRecDepth 100000
namespace Go.Proofs.YtbhjapgioaiocaaDoor
open Go.RowKit

set_option maxHeartbeats 4000000 in
theorem column_c {W0 W : World} {a : Adr} {p : Pp} {e : Es} (H : Ec W0 W a p e) (x top n : Nat) (hx : x < p.w) (hn : top + n ≤ p.h) (hn4 : n ≤ 4) (hl : e.2.length ≤ 999000) : Calls Tryd.prog 92 #[.pointer (some ⟨a.P, 0, none⟩), .int .i64 (x : Int), .int .i64 (top : Int), .int .i64 ((top + n : Nat) : Int)] W (EG W0 W a p (colS p e x top n)) := by
  obtain ⟨-, hh⟩ := H.len
  have kq := quiet_c H x top n hx hn hn4
  have HH := Lib.hid H
  have HX := Lib.hid hx
  have HQ4 : quietQ p e.1 x top n = true → n = 4 := fun h => by unfold quietQ at h; simp at h; exact h.2
  have hC : colS p e x top n = if quietQ p e.1 x top n then (colP x (top + runN p e.1 x top) (n - runN p e.1 x top)).foldl (clnS p) (runS p e x top) else (colP x top n).foldl (clnS p) e := rfl
  have hrn : runN p e.1 x top ≤ 4 := by have := zer_le (oneQ p e.1 x top); unfold runN zerQ at *; split <;> omega
  have hrl := runS_len p e x top
  obtain ⟨b, hb⟩ : ∃ b, b = top + n := ⟨_, rfl⟩
  rw [← hb] at kq ⊢
  have HB64 := Lib.hid (show b ≤ 64 by omega)
  have HN := Lib.hid (show b ≤ p.h by omega)
  generalize quietQ p e.1 x top n = Q at *
  cases Q with
  | true =>
    have h4 := HQ4 rfl
    subst h4
    have kr := fun W (K : Ec W0 W a p e) => run_c K x top hx (by omega) (by omega)
    rw [if_pos rfl] at hC
    obtain ⟨j0, hj0⟩ : ∃ j, j = top + runN p e.1 x top := ⟨_, rfl⟩
    rw [← hj0] at kr hC
    rw [show 4 - runN p e.1 x top = b - j0 by omega] at hC
    obtain ⟨e0, he0⟩ : ∃ e0, e0 = runS p e x top := ⟨_, rfl⟩
    rw [← he0] at kr hC hrl
    have HC := Lib.hid hC
    have HJ := Lib.hid (show j0 ≤ b by omega)
    have HL0 := Lib.hid (show e0.2.length ≤ 999010 by omega)
    clear hb hC hj0 he0 hrn hrl H hx hn hl hh HQ4 hn4
    go_enter Tryd.func92, Tryd.ntmps92
    go_step3
    go_wp2_with (first | (go_at_call 115; (with_reducible refine kq.mono ?_); rintro e w1 ⟨rfl, hd⟩; have H1 := Lib.hid (HH.out.dn hd); have kr1 := kr _ H1.out; have K1 := Lib.hid (kt_below hd.below); clear hd) | (go_at_call 116; (with_reducible refine kr1.mono ?_); rintro e w2 ⟨rfl, H2, K2⟩; have HE0 := Lib.hid H2; have KE0 := Lib.hid (K1.out.trans K2); clear H2 K2))
    go_step3
    go_wp2_with fail
    go_loopw [8] (fun i wr => ∃ j : Nat, i = .int .i64 (j : Int) ∧ Hid (j0 ≤ j ∧ j ≤ b) ∧ Hid (Ec W0 wr a p ((colP x j0 (j - j0)).foldl (clnS p) e0)) ∧ Hid (Kt W wr)) (fun i _ => (b - (intOf i).toNat))
    case atStart => exact ⟨j0, rfl, ⟨Nat.le_refl _, HJ.out⟩, by rw [Nat.sub_self]; exact HE0.out, KE0.out⟩
    case round =>
      obtain ⟨j, rfl, hj, hE, hK⟩ := hrel
      obtain ⟨e1, he1⟩ : ∃ e1, e1 = (colP x j0 (j - j0)).foldl (clnS p) e0 := ⟨_, rfl⟩
      rw [← he1] at hE
      obtain ⟨c0, -, -, -, -, -⟩ := ec_cells hE.out.pc
      by_cases hlt : (j : Int) < (b : Int)
      · have hjn : j < b := by omega
        have hnext : (colP x j0 (j + 1 - j0)).foldl (clnS p) e0 = clnS p e1 ((x : Int), (j : Int)) := by
          have := hj.out
          rw [show j + 1 - j0 = (j - j0) + 1 by omega, colP_succ, List.foldl_append, ← he1, show j0 + (j - j0) = j by omega]
          rfl
        have hlen : e1.2.length ≤ 999990 := by
          have h1 := foldl_len (clnS p) 2 (clnS_len p) (colP x j0 (j - j0)) e0
          rw [← he1, colP_len] at h1
          have := HL0.out
          have := HB64.out
          omega
        have hin : inB p.w p.h (x : Int) (j : Int) := by have := HX.out; have := HN.out; unfold inB; omega
        obtain ⟨s, hs⟩ : ∃ s, s = e1.1.s (x : Int) (j : Int) := ⟨_, rfl⟩
        obtain ⟨t, ht⟩ : ∃ t, t = e1.1.t (x : Int) (j : Int) := ⟨_, rfl⟩
        have k1 := significant_c hE.out.cb (x : Int) (j : Int)
        have k2 := touched_c hE.out.cb (x : Int) (j : Int)
        have k3 := code_c hE.out (x : Int) (j : Int) hin (by omega)
        rw [← hs] at k1
        rw [← ht] at k2
        have wj : IntKind.i64.wrap ((j : Int) + 1) = ((j + 1 : Nat) : Int) := by have := HB64.out; rw [IntWalk.i64_left]; unfold wrap64; omega
        have hcl : clnS p e1 ((x : Int), (j : Int)) = if (s || t) = true then e1 else codeS p e1 (x : Int) (j : Int) := by rw [hs, ht]; rfl
        rw [hcl] at hnext
        have HNX := Lib.hid hnext
        have HJN := Lib.hid hjn
        clear hs ht hin hcl hnext hlen he1 hjn
        cases s with
        | true =>
          go_wp2_with (first | (go_at_call 64; (with_reducible refine k1.mono ?_); rintro e wn ⟨rfl, rfl⟩))
          go_roundw
          case rel =>
            refine ⟨j + 1, by go_num, ⟨by have := hj.out; omega, HJN.out⟩, ?_, hK⟩
            rw [HNX.out]
            exact hE.out
          case measure => have := HJN.out; simp [intOf]; omega
        | false =>
          cases t with
          | true =>
            go_wp2_with (first | (go_at_call 64; (with_reducible refine k1.mono ?_); rintro e wn ⟨rfl, rfl⟩) | (go_at_call 66; (with_reducible refine k2.mono ?_); rintro e wn ⟨rfl, rfl⟩))
            go_roundw
            case rel =>
              refine ⟨j + 1, by go_num, ⟨by have := hj.out; omega, HJN.out⟩, ?_, hK⟩
              rw [HNX.out]
              exact hE.out
            case measure => have := HJN.out; simp [intOf]; omega
          | false =>
            generalize codeS p e1 (x : Int) (j : Int) = e2 at *
            go_wp2_with (first | (go_at_call 64; (with_reducible refine k1.mono ?_); rintro e wn ⟨rfl, rfl⟩) | (go_at_call 66; (with_reducible refine k2.mono ?_); rintro e wn ⟨rfl, rfl⟩) | (go_at_call 89; (with_reducible refine k3.mono ?_); rintro e wn ⟨rfl, H2, K2⟩; have H2 := Lib.hid H2; have K2 := Lib.hid (hK.out.trans K2)))
            go_roundw
            case rel =>
              refine ⟨j + 1, by go_num, ⟨by have := hj.out; omega, HJN.out⟩, ?_, K2⟩
              rw [HNX.out]
              exact H2.out
            case measure => have := HJN.out; simp [intOf]; omega
      · have hjb : j = b := by have := hj.out; omega
        have HF := Lib.hid (HC.out.trans (show _ = e1 by rw [he1, hjb]))
        clear he1 hjb
        go_wp2_with fail
        go_end0
        exact ⟨rfl, by rw [HF.out]; exact hE.out, hK.out⟩
  | false =>
    rw [if_neg (by decide)] at hC
    obtain ⟨e0, he0⟩ : ∃ e0, e0 = e := ⟨_, rfl⟩
    obtain ⟨j0, hj0⟩ : ∃ j0, j0 = top := ⟨_, rfl⟩
    rw [show n = b - top by omega] at hC
    have hC2 : colS p e x top n = (colP x j0 (b - j0)).foldl (clnS p) e0 := by rw [he0, hj0, show n = b - top by omega]; exact hC
    have HC := Lib.hid hC2
    have HJ := Lib.hid (show j0 ≤ b by omega)
    have HL0 := Lib.hid (show e0.2.length ≤ 999010 by rw [he0]; omega)
    have HHJ := Lib.hid hj0
    have HHE := Lib.hid he0
    clear hb hC hC2 hj0 he0 hrn hrl H hx hn hl hh HQ4 hn4
    go_enter Tryd.func92, Tryd.ntmps92
    go_step3
    go_wp2_with (first | (go_at_call 115; (with_reducible refine kq.mono ?_); rintro e w1 ⟨rfl, hd⟩; have HE0 := Lib.hid (show Ec W0 w1 a p e0 by rw [HHE.out]; exact HH.out.dn hd); have KE0 := Lib.hid (kt_below hd.below); clear hd))
    go_step3
    go_wp2_with fail
    go_loopw [8] (fun i wr => ∃ j : Nat, i = .int .i64 (j : Int) ∧ Hid (j0 ≤ j ∧ j ≤ b) ∧ Hid (Ec W0 wr a p ((colP x j0 (j - j0)).foldl (clnS p) e0)) ∧ Hid (Kt W wr)) (fun i _ => (b - (intOf i).toNat))
    case atStart => exact ⟨j0, by rw [HHJ.out], ⟨Nat.le_refl _, HJ.out⟩, by rw [Nat.sub_self]; exact HE0.out, KE0.out⟩
    case round =>
      obtain ⟨j, rfl, hj, hE, hK⟩ := hrel
      obtain ⟨e1, he1⟩ : ∃ e1, e1 = (colP x j0 (j - j0)).foldl (clnS p) e0 := ⟨_, rfl⟩
      rw [← he1] at hE
      obtain ⟨c0, -, -, -, -, -⟩ := ec_cells hE.out.pc
      by_cases hlt : (j : Int) < (b : Int)
      · have hjn : j < b := by omega
        have hnext : (colP x j0 (j + 1 - j0)).foldl (clnS p) e0 = clnS p e1 ((x : Int), (j : Int)) := by
          have := hj.out
          rw [show j + 1 - j0 = (j - j0) + 1 by omega, colP_succ, List.foldl_append, ← he1, show j0 + (j - j0) = j by omega]
          rfl
        have hlen : e1.2.length ≤ 999990 := by
          have h1 := foldl_len (clnS p) 2 (clnS_len p) (colP x j0 (j - j0)) e0
          rw [← he1, colP_len] at h1
          have := HL0.out
          have := HB64.out
          omega
        have hin : inB p.w p.h (x : Int) (j : Int) := by have := HX.out; have := HN.out; unfold inB; omega
        obtain ⟨s, hs⟩ : ∃ s, s = e1.1.s (x : Int) (j : Int) := ⟨_, rfl⟩
        obtain ⟨t, ht⟩ : ∃ t, t = e1.1.t (x : Int) (j : Int) := ⟨_, rfl⟩
        have k1 := significant_c hE.out.cb (x : Int) (j : Int)
        have k2 := touched_c hE.out.cb (x : Int) (j : Int)
        have k3 := code_c hE.out (x : Int) (j : Int) hin (by omega)
        rw [← hs] at k1
        rw [← ht] at k2
        have wj : IntKind.i64.wrap ((j : Int) + 1) = ((j + 1 : Nat) : Int) := by have := HB64.out; rw [IntWalk.i64_left]; unfold wrap64; omega
        have hcl : clnS p e1 ((x : Int), (j : Int)) = if (s || t) = true then e1 else codeS p e1 (x : Int) (j : Int) := by rw [hs, ht]; rfl
        rw [hcl] at hnext
        have HNX := Lib.hid hnext
        have HJN := Lib.hid hjn
        clear hs ht hin hcl hnext hlen he1 hjn
        cases s with
        | true =>
          go_wp2_with (first | (go_at_call 64; (with_reducible refine k1.mono ?_); rintro e wn ⟨rfl, rfl⟩))
          go_roundw
          case rel =>
            refine ⟨j + 1, by go_num, ⟨by have := hj.out; omega, HJN.out⟩, ?_, hK⟩
            rw [HNX.out]
            exact hE.out
          case measure => have := HJN.out; simp [intOf]; omega
        | false =>
          cases t with
          | true =>
            go_wp2_with (first | (go_at_call 64; (with_reducible refine k1.mono ?_); rintro e wn ⟨rfl, rfl⟩) | (go_at_call 66; (with_reducible refine k2.mono ?_); rintro e wn ⟨rfl, rfl⟩))
            go_roundw
            case rel =>
              refine ⟨j + 1, by go_num, ⟨by have := hj.out; omega, HJN.out⟩, ?_, hK⟩
              rw [HNX.out]
              exact hE.out
            case measure => have := HJN.out; simp [intOf]; omega
          | false =>
            generalize codeS p e1 (x : Int) (j : Int) = e2 at *
            go_wp2_with (first | (go_at_call 64; (with_reducible refine k1.mono ?_); rintro e wn ⟨rfl, rfl⟩) | (go_at_call 66; (with_reducible refine k2.mono ?_); rintro e wn ⟨rfl, rfl⟩) | (go_at_call 89; (with_reducible refine k3.mono ?_); rintro e wn ⟨rfl, H2, K2⟩; have H2 := Lib.hid H2; have K2 := Lib.hid (hK.out.trans K2)))
            go_roundw
            case rel =>
              refine ⟨j + 1, by go_num, ⟨by have := hj.out; omega, HJN.out⟩, ?_, K2⟩
              rw [HNX.out]
              exact H2.out
            case measure => have := HJN.out; simp [intOf]; omega
      · have hjb : j = b := by have := hj.out; omega
        have HF := Lib.hid (HC.out.trans (show _ = e1 by rw [he1, hjb]))
        clear he1 hjb
        go_wp2_with fail
        go_end0
        exact ⟨rfl, by rw [HF.out]; exact hE.out, hK.out⟩
end Go.Proofs.YtbhjapgioaiocaaDoor
