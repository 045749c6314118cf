/-
  Layer 15: a column of a stripe.
  Layer 15: the significance and the refinement pass.
  Layer 15: the refinement pass.
  Layer 15: the cleanup pass.
-/
import Derived.Test.YtklchodbnjebnaaDoorNJ
import Derived.WalkMore
set_option maxRecDepth 100000
namespace Go.Proofs.YtklchodbnjebnaaDoor
open Go.RowKit

set_option maxHeartbeats 4000000 in
theorem column_c {W0 W : World} {a : Adr} {p : Pp} {e : Es} (H : Ec W0 W a p e) (x top n : Nat) (hx : x < p.w) (hn : top + n ≤ p.h) (hn4 : n ≤ 4) (hl : e.2.length ≤ 999000) : Calls Tryd.prog 73 #[.pointer (some ⟨a.P, 0, none⟩), .int .i64 (x : Int), .int .i64 (top : Int), .int .i64 ((top + n : Nat) : Int)] W (EG W0 W a p (colS p e x top n)) := by
  obtain ⟨-, hh⟩ := H.len
  have kq := quiet_c H x top n hx hn hn4
  have HH := Lib.hid H
  have HX := Lib.hid hx
  have HQ4 : quietQ p e.1 x top n = true → n = 4 := fun h => by unfold quietQ at h; simp at h; exact h.2
  have hC : colS p e x top n = if quietQ p e.1 x top n then (colP x (top + runN p e.1 x top) (n - runN p e.1 x top)).foldl (clnS p) (runS p e x top) else (colP x top n).foldl (clnS p) e := rfl
  have hrn : runN p e.1 x top ≤ 4 := by have := zer_le (oneQ p e.1 x top); unfold runN zerQ at *; split <;> omega
  have hrl := runS_len p e x top
  obtain ⟨b, hb⟩ : ∃ b, b = top + n := ⟨_, rfl⟩
  rw [← hb] at kq ⊢
  have HB64 := Lib.hid (show b ≤ 64 by omega)
  have HN := Lib.hid (show b ≤ p.h by omega)
  generalize quietQ p e.1 x top n = Q at *
  cases Q with
  | true =>
    have h4 := HQ4 rfl
    subst h4
    have kr := fun W (K : Ec W0 W a p e) => run_c K x top hx (by omega) (by omega)
    rw [if_pos rfl] at hC
    obtain ⟨j0, hj0⟩ : ∃ j, j = top + runN p e.1 x top := ⟨_, rfl⟩
    rw [← hj0] at kr hC
    rw [show 4 - runN p e.1 x top = b - j0 by omega] at hC
    obtain ⟨e0, he0⟩ : ∃ e0, e0 = runS p e x top := ⟨_, rfl⟩
    rw [← he0] at kr hC hrl
    have HC := Lib.hid hC
    have HJ := Lib.hid (show j0 ≤ b by omega)
    have HL0 := Lib.hid (show e0.2.length ≤ 999010 by omega)
    clear hb hC hj0 he0 hrn hrl H hx hn hl hh HQ4 hn4
    go_enter Tryd.func73, Tryd.ntmps73
    go_step3
    go_wp2_with (first | (go_at_call 84; (with_reducible refine kq.mono ?_); rintro e w1 ⟨rfl, hd⟩; have H1 := Lib.hid (HH.out.dn hd); have kr1 := kr _ H1.out; have K1 := Lib.hid (kt_below hd.below); clear hd) | (go_at_call 85; (with_reducible refine kr1.mono ?_); rintro e w2 ⟨rfl, H2, K2⟩; have HE0 := Lib.hid H2; have KE0 := Lib.hid (K1.out.trans K2); clear H2 K2))
    go_step3
    go_wp2_with fail
    go_loopw [8] (fun i wr => ∃ j : Nat, i = .int .i64 (j : Int) ∧ Hid (j0 ≤ j ∧ j ≤ b) ∧ Hid (Ec W0 wr a p ((colP x j0 (j - j0)).foldl (clnS p) e0)) ∧ Hid (Kt W wr)) (fun i _ => (b - (intOf i).toNat))
    case atStart => exact ⟨j0, rfl, ⟨Nat.le_refl _, HJ.out⟩, by rw [Nat.sub_self]; exact HE0.out, KE0.out⟩
    case round =>
      obtain ⟨j, rfl, hj, hE, hK⟩ := hrel
      obtain ⟨e1, he1⟩ : ∃ e1, e1 = (colP x j0 (j - j0)).foldl (clnS p) e0 := ⟨_, rfl⟩
      rw [← he1] at hE
      obtain ⟨c0, -, -, -, -, -⟩ := ec_cells hE.out.pc
      by_cases hlt : (j : Int) < (b : Int)
      · have hjn : j < b := by omega
        have hnext : (colP x j0 (j + 1 - j0)).foldl (clnS p) e0 = clnS p e1 ((x : Int), (j : Int)) := by
          have := hj.out
          rw [show j + 1 - j0 = (j - j0) + 1 by omega, colP_succ, List.foldl_append, ← he1, show j0 + (j - j0) = j by omega]
          rfl
        have hlen : e1.2.length ≤ 999990 := by
          have h1 := foldl_len (clnS p) 2 (clnS_len p) (colP x j0 (j - j0)) e0
          rw [← he1, colP_len] at h1
          have := HL0.out
          have := HB64.out
          omega
        have hin : inB p.w p.h (x : Int) (j : Int) := by have := HX.out; have := HN.out; unfold inB; omega
        obtain ⟨s, hs⟩ : ∃ s, s = e1.1.s (x : Int) (j : Int) := ⟨_, rfl⟩
        obtain ⟨t, ht⟩ : ∃ t, t = e1.1.t (x : Int) (j : Int) := ⟨_, rfl⟩
        have k1 := significant_c hE.out.cb (x : Int) (j : Int)
        have k2 := touched_c hE.out.cb (x : Int) (j : Int)
        have k3 := code_c hE.out (x : Int) (j : Int) hin (by omega)
        rw [← hs] at k1
        rw [← ht] at k2
        have wj : IntKind.i64.wrap ((j : Int) + 1) = ((j + 1 : Nat) : Int) := by have := HB64.out; rw [IntWalk.i64_left]; unfold wrap64; omega
        have hcl : clnS p e1 ((x : Int), (j : Int)) = if (s || t) = true then e1 else codeS p e1 (x : Int) (j : Int) := by rw [hs, ht]; rfl
        rw [hcl] at hnext
        have HNX := Lib.hid hnext
        have HJN := Lib.hid hjn
        clear hs ht hin hcl hnext hlen he1 hjn
        cases s with
        | true =>
          go_wp2_with (first | (go_at_call 65; (with_reducible refine k1.mono ?_); rintro e wn ⟨rfl, rfl⟩))
          go_roundw
          case rel =>
            refine ⟨j + 1, by go_num, ⟨by have := hj.out; omega, HJN.out⟩, ?_, hK⟩
            rw [HNX.out]
            exact hE.out
          case measure => have := HJN.out; simp [intOf]; omega
        | false =>
          cases t with
          | true =>
            go_wp2_with (first | (go_at_call 65; (with_reducible refine k1.mono ?_); rintro e wn ⟨rfl, rfl⟩) | (go_at_call 29; (with_reducible refine k2.mono ?_); rintro e wn ⟨rfl, rfl⟩))
            go_roundw
            case rel =>
              refine ⟨j + 1, by go_num, ⟨by have := hj.out; omega, HJN.out⟩, ?_, hK⟩
              rw [HNX.out]
              exact hE.out
            case measure => have := HJN.out; simp [intOf]; omega
          | false =>
            generalize codeS p e1 (x : Int) (j : Int) = e2 at *
            go_wp2_with (first | (go_at_call 65; (with_reducible refine k1.mono ?_); rintro e wn ⟨rfl, rfl⟩) | (go_at_call 29; (with_reducible refine k2.mono ?_); rintro e wn ⟨rfl, rfl⟩) | (go_at_call 67; (with_reducible refine k3.mono ?_); rintro e wn ⟨rfl, H2, K2⟩; have H2 := Lib.hid H2; have K2 := Lib.hid (hK.out.trans K2)))
            go_roundw
            case rel =>
              refine ⟨j + 1, by go_num, ⟨by have := hj.out; omega, HJN.out⟩, ?_, K2⟩
              rw [HNX.out]
              exact H2.out
            case measure => have := HJN.out; simp [intOf]; omega
      · have hjb : j = b := by have := hj.out; omega
        have HF := Lib.hid (HC.out.trans (show _ = e1 by rw [he1, hjb]))
        clear he1 hjb
        go_wp2_with fail
        go_end0
        exact ⟨rfl, by rw [HF.out]; exact hE.out, hK.out⟩
  | false =>
    rw [if_neg (by decide)] at hC
    obtain ⟨e0, he0⟩ : ∃ e0, e0 = e := ⟨_, rfl⟩
    obtain ⟨j0, hj0⟩ : ∃ j0, j0 = top := ⟨_, rfl⟩
    rw [show n = b - top by omega] at hC
    have hC2 : colS p e x top n = (colP x j0 (b - j0)).foldl (clnS p) e0 := by rw [he0, hj0, show n = b - top by omega]; exact hC
    have HC := Lib.hid hC2
    have HJ := Lib.hid (show j0 ≤ b by omega)
    have HL0 := Lib.hid (show e0.2.length ≤ 999010 by rw [he0]; omega)
    have HHJ := Lib.hid hj0
    have HHE := Lib.hid he0
    clear hb hC hC2 hj0 he0 hrn hrl H hx hn hl hh HQ4 hn4
    go_enter Tryd.func73, Tryd.ntmps73
    go_step3
    go_wp2_with (first | (go_at_call 84; (with_reducible refine kq.mono ?_); rintro e w1 ⟨rfl, hd⟩; have HE0 := Lib.hid (show Ec W0 w1 a p e0 by rw [HHE.out]; exact HH.out.dn hd); have KE0 := Lib.hid (kt_below hd.below); clear hd))
    go_step3
    go_wp2_with fail
    go_loopw [8] (fun i wr => ∃ j : Nat, i = .int .i64 (j : Int) ∧ Hid (j0 ≤ j ∧ j ≤ b) ∧ Hid (Ec W0 wr a p ((colP x j0 (j - j0)).foldl (clnS p) e0)) ∧ Hid (Kt W wr)) (fun i _ => (b - (intOf i).toNat))
    case atStart => exact ⟨j0, by rw [HHJ.out], ⟨Nat.le_refl _, HJ.out⟩, by rw [Nat.sub_self]; exact HE0.out, KE0.out⟩
    case round =>
      obtain ⟨j, rfl, hj, hE, hK⟩ := hrel
      obtain ⟨e1, he1⟩ : ∃ e1, e1 = (colP x j0 (j - j0)).foldl (clnS p) e0 := ⟨_, rfl⟩
      rw [← he1] at hE
      obtain ⟨c0, -, -, -, -, -⟩ := ec_cells hE.out.pc
      by_cases hlt : (j : Int) < (b : Int)
      · have hjn : j < b := by omega
        have hnext : (colP x j0 (j + 1 - j0)).foldl (clnS p) e0 = clnS p e1 ((x : Int), (j : Int)) := by
          have := hj.out
          rw [show j + 1 - j0 = (j - j0) + 1 by omega, colP_succ, List.foldl_append, ← he1, show j0 + (j - j0) = j by omega]
          rfl
        have hlen : e1.2.length ≤ 999990 := by
          have h1 := foldl_len (clnS p) 2 (clnS_len p) (colP x j0 (j - j0)) e0
          rw [← he1, colP_len] at h1
          have := HL0.out
          have := HB64.out
          omega
        have hin : inB p.w p.h (x : Int) (j : Int) := by have := HX.out; have := HN.out; unfold inB; omega
        obtain ⟨s, hs⟩ : ∃ s, s = e1.1.s (x : Int) (j : Int) := ⟨_, rfl⟩
        obtain ⟨t, ht⟩ : ∃ t, t = e1.1.t (x : Int) (j : Int) := ⟨_, rfl⟩
        have k1 := significant_c hE.out.cb (x : Int) (j : Int)
        have k2 := touched_c hE.out.cb (x : Int) (j : Int)
        have k3 := code_c hE.out (x : Int) (j : Int) hin (by omega)
        rw [← hs] at k1
        rw [← ht] at k2
        have wj : IntKind.i64.wrap ((j : Int) + 1) = ((j + 1 : Nat) : Int) := by have := HB64.out; rw [IntWalk.i64_left]; unfold wrap64; omega
        have hcl : clnS p e1 ((x : Int), (j : Int)) = if (s || t) = true then e1 else codeS p e1 (x : Int) (j : Int) := by rw [hs, ht]; rfl
        rw [hcl] at hnext
        have HNX := Lib.hid hnext
        have HJN := Lib.hid hjn
        clear hs ht hin hcl hnext hlen he1 hjn
        cases s with
        | true =>
          go_wp2_with (first | (go_at_call 65; (with_reducible refine k1.mono ?_); rintro e wn ⟨rfl, rfl⟩))
          go_roundw
          case rel =>
            refine ⟨j + 1, by go_num, ⟨by have := hj.out; omega, HJN.out⟩, ?_, hK⟩
            rw [HNX.out]
            exact hE.out
          case measure => have := HJN.out; simp [intOf]; omega
        | false =>
          cases t with
          | true =>
            go_wp2_with (first | (go_at_call 65; (with_reducible refine k1.mono ?_); rintro e wn ⟨rfl, rfl⟩) | (go_at_call 29; (with_reducible refine k2.mono ?_); rintro e wn ⟨rfl, rfl⟩))
            go_roundw
            case rel =>
              refine ⟨j + 1, by go_num, ⟨by have := hj.out; omega, HJN.out⟩, ?_, hK⟩
              rw [HNX.out]
              exact hE.out
            case measure => have := HJN.out; simp [intOf]; omega
          | false =>
            generalize codeS p e1 (x : Int) (j : Int) = e2 at *
            go_wp2_with (first | (go_at_call 65; (with_reducible refine k1.mono ?_); rintro e wn ⟨rfl, rfl⟩) | (go_at_call 29; (with_reducible refine k2.mono ?_); rintro e wn ⟨rfl, rfl⟩) | (go_at_call 67; (with_reducible refine k3.mono ?_); rintro e wn ⟨rfl, H2, K2⟩; have H2 := Lib.hid H2; have K2 := Lib.hid (hK.out.trans K2)))
            go_roundw
            case rel =>
              refine ⟨j + 1, by go_num, ⟨by have := hj.out; omega, HJN.out⟩, ?_, K2⟩
              rw [HNX.out]
              exact H2.out
            case measure => have := HJN.out; simp [intOf]; omega
      · have hjb : j = b := by have := hj.out; omega
        have HF := Lib.hid (HC.out.trans (show _ = e1 by rw [he1, hjb]))
        clear he1 hjb
        go_wp2_with fail
        go_end0
        exact ⟨rfl, by rw [HF.out]; exact hE.out, hK.out⟩
end Go.Proofs.YtklchodbnjebnaaDoor
set_option maxRecDepth 100000
namespace Go.Proofs.YtklchodbnjebnaaDoor
open Go.RowKit

theorem scan_in {w h : Nat} {z : Int × Int} (hz : z ∈ scan w h) : inB w h z.1 z.2 := by
  unfold scan scnP at hz
  obtain ⟨s, hs, hz⟩ := List.mem_flatMap.1 hz
  unfold strP at hz
  obtain ⟨x, hx, hz⟩ := List.mem_flatMap.1 hz
  obtain ⟨r, h1, h2, rfl⟩ := mem_col hz
  have := List.mem_range.1 hx
  have := List.mem_range.1 hs
  unfold inB
  simp only
  omega
theorem scan_l (w h : Nat) (hw : w ≤ 64) (hh : h ≤ 64) : (scan w h).length ≤ 8192 := by
  have := scnP_len w h ((h + 3) / 4) hw
  have : (h + 3) / 4 ≤ 16 := by omega
  unfold scan
  omega
/-- What a round of a loop over a scan knows: the coder, the list, the variable. -/
structure Rd (W0 W w1 : World) (a : Adr) (p : Pp) (e : Es) (s : Option Addr) (L : List (Int × Int)) (g : Nat) (x y : Int) : Prop where
  ec : Ec W0 w1 a p e
  hp : HoldsP w1 s L
  kt : Kt W w1
  bx : Blk w1 g 139 #[.int .i64 x, .int .i64 y]
theorem Rd.cell {W0 W w1 : World} {a : Adr} {p : Pp} {e : Es} {s : Option Addr} {L : List (Int × Int)} {g : Nat} {x y : Int} (h : Rd W0 W w1 a p e s L g x y) : w1.cell? ⟨a.P, 0, none⟩ = some (.pointer (some ⟨a.A, 0, none⟩)) ∧ w1.cell? ⟨g, 0, none⟩ = some (.int .i64 x) ∧ w1.cell? ⟨g, 1, none⟩ = some (.int .i64 y) ∧ w1.cell? ⟨a.P, 5, none⟩ = some (.func (.func 47) #[] #[.pointer (some ⟨a.G, 0, none⟩), .pointer (some ⟨a.L, 0, none⟩)]) := ⟨h.ec.pc.cell 0, h.bx.cell 0, h.bx.cell 1, h.ec.pc.cell 5⟩
theorem Rd.dn {W0 W w1 : World} {a : Adr} {p : Pp} {e : Es} {s : Option Addr} {L : List (Int × Int)} {g : Nat} {x y : Int} (h : Rd W0 W w1 a p e s L g x y) (n : Nat) : Rd W0 W (w1.drewN n) a p e s L g x y := ⟨h.ec.dn (dn_mk _ n), h.hp.call (drewN_below _ _), h.kt.trans (kt_below (drewN_below _ _)), h.bx.below (drewN_below _ _)⟩
theorem Rd.drew {W0 W w1 : World} {a : Adr} {p : Pp} {e : Es} {s : Option Addr} {L : List (Int × Int)} {g : Nat} {x y : Int} (h : Rd W0 W w1 a p e s L g x y) : Rd W0 W w1.drew a p e s L g x y := ⟨h.ec.below (Below.refl _ _).drew, h.hp.call (Below.refl _ _).drew, h.kt.trans (kt_below (Below.refl _ _).drew), h.bx.below (Below.refl _ _).drew⟩
theorem Rd.step {W0 W w1 w2 : World} {a : Adr} {p : Pp} {e e2 : Es} {s : Option Addr} {L : List (Int × Int)} {g : Nat} {x y : Int} (h : Rd W0 W w1 a p e s L g x y) (h2 : Ec W0 w2 a p e2) (k : Kt w1 w2) : Rd W0 W w2 a p e2 s L g x y := ⟨h2, h.hp.kt k, h.kt.trans k, k _ _ h.bx⟩
theorem Rd.begin {W0 W w1 : World} {a : Adr} {p : Pp} {e : Es} {s : Option Addr} {L : List (Int × Int)} (x y : Int) (h1 : Ec W0 w1 a p e) (h2 : HoldsP w1 s L) (h3 : Kt W w1) : Rd W0 W (w1.alloc (.cells #[.int .i64 x, .int .i64 y] 139)) a p e s L w1.heap.size x y :=
  have hb := below_alloc (Below.refl _ w1) (.cells #[.int .i64 x, .int .i64 y] 139)
  ⟨h1.below hb, h2.call hb, h3.trans (kt_below hb), Blk.new _ _ _⟩
theorem touch_ce {W0 W : World} {a : Adr} {p : Pp} {e : Es} (K : Ec W0 W a p e) (x y : Int) (b : Bool) : Calls Tryd.prog 68 #[.pointer (some ⟨a.A, 0, none⟩), .int .i64 x, .int .i64 y, .bool b] W fun E W' => E = .returned (.int .i64 (atE p.w p.h x y)) ∧ Ec W0 W' a p (touchS p e x y b) ∧ Kt W W' :=
  (touch_c K.cb x y b).mono fun _ _ G => K.chg G (by rw [touchQ_v]; exact K.ok)
theorem refine_ce {W0 W : World} {a : Adr} {p : Pp} {e : Es} (K : Ec W0 W a p e) (x y : Int) : Calls Tryd.prog 72 #[.pointer (some ⟨a.A, 0, none⟩), .int .i64 x, .int .i64 y] W fun E W' => E = .returned (.int .i64 (atE p.w p.h x y)) ∧ Ec W0 W' a p (refnS p e x y) ∧ Kt W W' :=
  (refine_c K.cb x y).mono fun _ _ G => K.chg G (by rw [refineQ_v]; exact K.ok)
set_option maxHeartbeats 8000000 in
theorem sigp_c {W0 W : World} {a : Adr} {p : Pp} {e : Es} (H : Ec W0 W a p e) (hl : e.2.length ≤ 900000) : Calls Tryd.prog 48 #[.pointer (some ⟨a.P, 0, none⟩)] W (EG W0 W a p ((scan p.w p.h).foldl (sigS p) e)) := by
  obtain ⟨hw, hh⟩ := H.len
  obtain ⟨c0, -, -, -, -, -⟩ := ec_cells H.pc
  have ks := size_c H.cb
  have kc := fun W => scan_yes p.w p.h H.cb.fit W
  have HSL := Lib.hid (scan_l p.w p.h hw hh)
  have HIN := Lib.hid (fun z (hz : z ∈ scan p.w p.h) => scan_in hz)
  have HL := Lib.hid hl
  have HH := Lib.hid H
  generalize scan p.w p.h = L at *
  clear H hw hh hl
  go_enter Tryd.func48, Tryd.ntmps48
  go_wp2_with (first | (go_at_call 55; (with_reducible refine ks.mono ?_); rintro e wa ⟨rfl, hBa⟩) | (go_at_call 64; (with_reducible refine (kc _).mono ?_); rintro e w1 ⟨s1, m1, rfl, hP, hB⟩; have HP := Lib.hid hP; have HB := Lib.hid (below_call hBa hB); clear hP hB))
  clear ks kc c0
  go_loopw [13] (fun i wr => ∃ k : Nat, k ≤ L.length ∧ i = .int .i64 (k : Int) ∧ Hid (Ec W0 wr a p ((L.take k).foldl (sigS p) e)) ∧ Hid (HoldsP wr s1 L) ∧ Hid (Kt W wr)) (fun i _ => (L.length - (intOf i).toNat))
  case atStart => exact ⟨0, by omega, rfl, HH.out.below HB.out, HP.out, kt_below HB.out⟩
  case round =>
    obtain ⟨k, hk, rfl, hE, hH, hK⟩ := hrel
    by_cases hlt : k < L.length
    · obtain ⟨b, rfl, p0, p1⟩ := hH.out.at hlt
      have hz := HIN.out _ (List.getElem_mem hlt)
      have hnext := foldl_take (sigS p) e L k hlt
      obtain ⟨e1, he1⟩ : ∃ e1, e1 = (L.take k).foldl (sigS p) e := ⟨_, rfl⟩
      have hlen : e1.2.length ≤ 999990 := by
        have h1 := foldl_len (sigS p) 2 (sigS_len p) (L.take k) e
        rw [← he1, List.length_take] at h1
        have := HL.out
        have := HSL.out
        omega
      rw [← he1] at hE hnext
      obtain ⟨z, hz0⟩ : ∃ z, z = L[k] := ⟨_, rfl⟩
      rw [← hz0] at hz hnext p0 p1
      obtain ⟨x, y⟩ := z
      simp only at p0 p1 hz hnext
      have wk : IntKind.i64.wrap ((k : Int) + 1) = ((k + 1 : Nat) : Int) := by have := HSL.out; rw [IntWalk.i64_left]; unfold wrap64; omega
      have HLT := Lib.hid hlt
      clear hz0 he1
      go_wp2_with fail
      have R1 := Lib.hid (Rd.begin x y hE.out hH.out hK.out)
      clear p0 p1
      obtain ⟨c0, b0, b1, c5⟩ := R1.out.cell
      generalize wr.alloc (.cells #[.int .i64 x, .int .i64 y] 139) = W1 at *
      generalize wr.heap.size = g at *
      obtain ⟨s, hs⟩ : ∃ s, s = e1.1.s x y := ⟨_, rfl⟩
      obtain ⟨nr, hnr⟩ : ∃ t, t = nearQ p e1.1 x y := ⟨_, rfl⟩
      have hstep : sigS p e1 (x, y) = if (!s && nr) = true then touchS p (codeS p e1 x y) x y true else e1 := by rw [hs, hnr]; rfl
      rw [hstep] at hnext
      have HNX := Lib.hid hnext
      have kg : ∀ n, Calls Tryd.prog 65 #[.pointer (some ⟨a.A, 0, none⟩), .int .i64 x, .int .i64 y] (W1.drewN n) fun e w' => e = .returned (.bool s) ∧ w' = W1.drewN n := fun n => by rw [hs]; exact (significant_c (R1.out.dn n).ec.cb x y).mono fun _ _ z => ⟨z.1, z.2.symm⟩
      have kn : ∀ n, Calls Tryd.prog 66 #[.pointer (some ⟨a.P, 0, none⟩), .int .i64 x, .int .i64 y] (W1.drewN n) fun e w' => e = .returned (.bool nr) ∧ ∃ m, w' = (W1.drewN n).drewN m := fun n => by rw [hnr]; exact near_c (R1.out.dn n).ec.cb (R1.out.dn n).ec.pc x y hz
      have kc := fun W (K : Ec W0 W a p e1) => code_c K x y hz (by omega)
      clear hs hnr hstep hnext hz hlen hE hH hK
      cases s with
      | true =>
        go_quiet ((go_at_call 65; exact Calls.quiet_of_same (kg _)))
        have R2 := Lib.hid (R1.out.dn nq)
        generalize W1.drewN nq = W2 at *
        go_wp2_with fail
        go_roundw
        case rel =>
          refine ⟨k + 1, HLT.out, by go_num, ?_, R2.out.hp, R2.out.kt⟩
          rw [HNX.out]; simp only [Bool.not_true, Bool.false_and]; rw [if_neg (by decide)]
          exact R2.out.ec
        case measure => have := HLT.out; simp [intOf]; omega
      | false =>
        cases nr with
        | false =>
          go_quiet ((first | (go_at_call 65; exact Calls.quiet_of_same (kg _)) | (go_at_call 66; exact Calls.quiet_of (kn _))))
          have R2 := Lib.hid (R1.out.dn nq)
          generalize W1.drewN nq = W2 at *
          go_wp2_with fail
          go_roundw
          case rel =>
            refine ⟨k + 1, HLT.out, by go_num, ?_, R2.out.hp, R2.out.kt⟩
            rw [HNX.out]; rw [if_neg (by decide)]
            exact R2.out.ec
          case measure => have := HLT.out; simp [intOf]; omega
        | true =>
          go_quiet ((first | (go_at_call 65; exact Calls.quiet_of_same (kg _)) | (go_at_call 66; exact Calls.quiet_of (kn _))))
          have R2 := Lib.hid (R1.out.dn nq)
          clear c0 b0 b1 c5 R1 kg kn
          generalize W1.drewN nq = W2 at *
          obtain ⟨c0, b0, b1, -⟩ := R2.out.cell
          have kc2 := kc _ R2.out.ec
          generalize codeS p e1 x y = e2 at *
          go_wp2_with (first | (go_at_call 67; (with_reducible refine kc2.mono ?_); rintro e w3 ⟨rfl, H3, K3⟩; have R3 := Lib.hid (R2.out.step H3 K3); clear H3 K3))
          have R4 := Lib.hid R3.out.drew
          clear c0 b0 b1
          obtain ⟨d0, b0, b1, -⟩ := R4.out.cell
          have kt4 := touch_ce R4.out.ec x y true
          generalize touchS p e2 x y true = e3 at *
          go_region_held3 (fun w' => w'.cell? ⟨a.P, 0, none⟩ = some (.pointer (some ⟨a.A, 0, none⟩)) ∧ w'.cell? ⟨g, 0, none⟩ = some (.int .i64 x) ∧ w'.cell? ⟨g, 1, none⟩ = some (.int .i64 y))
            (first | (with_reducible exact ⟨d0, b0, b1⟩) | (with_reducible exact ⟨f0, f1, f2⟩) | fail)
            (first | (go_simp; go_at_call 68; (with_reducible refine kt4.mono ?_); rintro e w5 ⟨rfl, H5, K5⟩; have R5 := Lib.hid (R4.out.step H5 K5); clear H5 K5; obtain ⟨f0, f1, f2, -⟩ := R5.out.cell) | fail)
          all_goals
            go_wp2_with fail
            go_roundw
            case rel =>
              refine ⟨k + 1, HLT.out, by go_num, ?_, R5.out.hp, R5.out.kt⟩
              rw [HNX.out]; rw [if_pos (by decide)]
              exact R5.out.ec
            case measure => have := HLT.out; simp [intOf]; omega
    · have hkl : k = L.length := by omega
      subst hkl
      rw [List.take_length] at hE
      go_wp2_with fail
      go_end0
      exact ⟨rfl, hE.out, hK.out⟩
end Go.Proofs.YtklchodbnjebnaaDoor
set_option maxRecDepth 100000
namespace Go.Proofs.YtklchodbnjebnaaDoor
open Go.RowKit

set_option maxHeartbeats 8000000 in
theorem refp_c {W0 W : World} {a : Adr} {p : Pp} {e : Es} (H : Ec W0 W a p e) (hl : e.2.length ≤ 900000) : Calls Tryd.prog 49 #[.pointer (some ⟨a.P, 0, none⟩)] W (EG W0 W a p ((scan p.w p.h).foldl (refS p) e)) := by
  obtain ⟨hw, hh⟩ := H.len
  obtain ⟨c0, -, -, -, -, -⟩ := ec_cells H.pc
  have ks := size_c H.cb
  have kc := fun W => scan_yes p.w p.h H.cb.fit W
  have HSL := Lib.hid (scan_l p.w p.h hw hh)
  have HIN := Lib.hid (fun z (hz : z ∈ scan p.w p.h) => scan_in hz)
  have HL := Lib.hid hl
  have HH := Lib.hid H
  generalize scan p.w p.h = L at *
  clear H hw hh hl
  go_enter Tryd.func49, Tryd.ntmps49
  go_wp2_with (first | (go_at_call 55; (with_reducible refine ks.mono ?_); rintro e wa ⟨rfl, hBa⟩) | (go_at_call 64; (with_reducible refine (kc _).mono ?_); rintro e w1 ⟨s1, m1, rfl, hP, hB⟩; have HP := Lib.hid hP; have HB := Lib.hid (below_call hBa hB); clear hP hB))
  clear ks kc c0
  go_loopw [13] (fun i wr => ∃ k : Nat, k ≤ L.length ∧ i = .int .i64 (k : Int) ∧ Hid (Ec W0 wr a p ((L.take k).foldl (refS p) e)) ∧ Hid (HoldsP wr s1 L) ∧ Hid (Kt W wr)) (fun i _ => (L.length - (intOf i).toNat))
  case atStart => exact ⟨0, by omega, rfl, HH.out.below HB.out, HP.out, kt_below HB.out⟩
  case round =>
    obtain ⟨k, hk, rfl, hE, hH, hK⟩ := hrel
    by_cases hlt : k < L.length
    · obtain ⟨b, rfl, p0, p1⟩ := hH.out.at hlt
      have hz := HIN.out _ (List.getElem_mem hlt)
      have hnext := foldl_take (refS p) e L k hlt
      obtain ⟨e1, he1⟩ : ∃ e1, e1 = (L.take k).foldl (refS p) e := ⟨_, rfl⟩
      have hlen : e1.2.length ≤ 999990 := by
        have h1 := foldl_len (refS p) 2 (refS_len p) (L.take k) e
        rw [← he1, List.length_take] at h1
        have := HL.out
        have := HSL.out
        omega
      rw [← he1] at hE hnext
      obtain ⟨z, hz0⟩ : ∃ z, z = L[k] := ⟨_, rfl⟩
      rw [← hz0] at hz hnext p0 p1
      obtain ⟨x, y⟩ := z
      simp only at p0 p1 hz hnext
      have wk : IntKind.i64.wrap ((k : Int) + 1) = ((k + 1 : Nat) : Int) := by have := HSL.out; rw [IntWalk.i64_left]; unfold wrap64; omega
      have HLT := Lib.hid hlt
      clear hz0 he1
      go_wp2_with fail
      have R1 := Lib.hid (Rd.begin x y hE.out hH.out hK.out)
      clear p0 p1
      obtain ⟨c0, b0, b1, c5⟩ := R1.out.cell
      generalize wr.alloc (.cells #[.int .i64 x, .int .i64 y] 139) = W1 at *
      generalize wr.heap.size = g at *
      obtain ⟨s, hs⟩ : ∃ s, s = e1.1.s x y := ⟨_, rfl⟩
      obtain ⟨t, ht⟩ : ∃ t, t = e1.1.t x y := ⟨_, rfl⟩
      have hstep : refS p e1 (x, y) = if (s && !t) = true then touchS p (refnS p (putS p e1 (refC p e1.1 x y) (bitM (e1.1.v x y) p.s)) x y) x y true else e1 := by rw [hs, ht]; rfl
      rw [hstep] at hnext
      have HNX := Lib.hid hnext
      have kg : ∀ n, Calls Tryd.prog 65 #[.pointer (some ⟨a.A, 0, none⟩), .int .i64 x, .int .i64 y] (W1.drewN n) fun e w' => e = .returned (.bool s) ∧ w' = W1.drewN n := fun n => by rw [hs]; exact (significant_c (R1.out.dn n).ec.cb x y).mono fun _ _ z => ⟨z.1, z.2.symm⟩
      have kt : ∀ n, Calls Tryd.prog 29 #[.pointer (some ⟨a.A, 0, none⟩), .int .i64 x, .int .i64 y] (W1.drewN n) fun e w' => e = .returned (.bool t) ∧ w' = W1.drewN n := fun n => by rw [ht]; exact (touched_c (R1.out.dn n).ec.cb x y).mono fun _ _ z => ⟨z.1, z.2.symm⟩
      clear hs ht hstep hnext hE hH hK
      cases s with
      | false =>
        go_quiet ((go_at_call 65; exact Calls.quiet_of_same (kg _)))
        have R2 := Lib.hid (R1.out.dn nq)
        generalize W1.drewN nq = W2 at *
        go_wp2_with fail
        go_roundw
        case rel =>
          refine ⟨k + 1, HLT.out, by go_num, ?_, R2.out.hp, R2.out.kt⟩
          rw [HNX.out]; rw [if_neg (by simp)]
          exact R2.out.ec
        case measure => have := HLT.out; simp [intOf]; omega
      | true =>
        cases t with
        | true =>
          go_quiet ((first | (go_at_call 65; exact Calls.quiet_of_same (kg _)) | (go_at_call 29; exact Calls.quiet_of_same (kt _))))
          have R2 := Lib.hid (R1.out.dn nq)
          generalize W1.drewN nq = W2 at *
          go_wp2_with fail
          go_roundw
          case rel =>
            refine ⟨k + 1, HLT.out, by go_num, ?_, R2.out.hp, R2.out.kt⟩
            rw [HNX.out]; rw [if_neg (by decide)]
            exact R2.out.ec
          case measure => have := HLT.out; simp [intOf]; omega
        | false =>
          go_quiet ((first | (go_at_call 65; exact Calls.quiet_of_same (kg _)) | (go_at_call 29; exact Calls.quiet_of_same (kt _))))
          have R2 := Lib.hid (R1.out.dn nq)
          clear c0 b0 b1 c5 R1 kg kt
          generalize W1.drewN nq = W2 at *
          go_wp2_with fail
          have R4 := Lib.hid R2.out.drew
          obtain ⟨d0, b0, b1, d5⟩ := R4.out.cell
          obtain ⟨r, hr⟩ : ∃ t, t = e1.1.r x y := ⟨_, rfl⟩
          obtain ⟨nr, hnr⟩ : ∃ t, t = nearQ p e1.1 x y := ⟨_, rfl⟩
          obtain ⟨bt, hbt⟩ : ∃ t, t = bitM (e1.1.v x y) p.s := ⟨_, rfl⟩
          have eC : refC p e1.1 x y = Cx.refM (!r) nr := by unfold refC; rw [hr, hnr]
          rw [eC, ← hbt] at HNX
          have kr := refined_c R4.out.ec.cb x y
          have kn := near_c R4.out.ec.cb R4.out.ec.pc x y hz
          have kx := fun W => Cx.ref_c (!r) nr W
          have kb : ∀ W, Ec W0 W a p e1 → Calls Tryd.prog 71 #[.pointer (some ⟨a.P, 0, none⟩), .int .i64 x, .int .i64 y] W fun e w' => e = .returned (.int .i64 bt) ∧ W = w' := fun W K => by rw [hbt]; exact (bit_c K.cb K.pc K.hs x y (K.ok x y)).mono fun _ _ z => ⟨z.1, z.2.symm⟩
          have kp := fun W (K : Ec W0 W a p e1) => put_c K (Cx.refM (!r) nr) bt (by omega)
          rw [← hr] at kr
          rw [← hnr] at kn
          clear hr hnr hbt eC hz hlen
          generalize Cx.refM (!r) nr = C at *
          have kf := fun W (K : Ec W0 W a p (putS p e1 C bt)) => refine_ce K x y
          have kh := fun W (K : Ec W0 W a p (refnS p (putS p e1 C bt) x y)) => touch_ce K x y true
          generalize touchS p (refnS p (putS p e1 C bt) x y) x y true = e4 at *
          generalize refnS p (putS p e1 C bt) x y = e3 at *
          generalize putS p e1 C bt = e2 at *
          have h5 : W2.drew.cell? ⟨a.P, 5, none⟩ = some (.func (.func 47) #[] #[.pointer (some ⟨a.G, 0, none⟩), .pointer (some ⟨a.L, 0, none⟩)]) := d5
          go_region_held3 (fun w' => w'.cell? ⟨a.P, 0, none⟩ = some (.pointer (some ⟨a.A, 0, none⟩)) ∧ w'.cell? ⟨g, 0, none⟩ = some (.int .i64 x) ∧ w'.cell? ⟨g, 1, none⟩ = some (.int .i64 y) ∧ w'.cell? ⟨a.P, 5, none⟩ = some (.func (.func 47) #[] #[.pointer (some ⟨a.G, 0, none⟩), .pointer (some ⟨a.L, 0, none⟩)]))
            (first | (with_reducible exact ⟨d0, b0, b1, d5⟩) | (with_reducible exact ⟨f0, f1, f2, f5⟩) | (with_reducible exact ⟨j0, j1, j2, j5⟩) | fail)
            (first | (go_simp; go_at_call 70; (with_reducible refine kr.mono ?_); rintro e wn ⟨rfl, rfl⟩) | (go_simp; go_at_call 66; (with_reducible refine kn.mono ?_); rintro e w5 ⟨rfl, m5, hm5⟩; have R5 := Lib.hid (show Rd W0 W w5 a p e1 (some ⟨b, 0, none⟩) L g x y by rw [hm5]; exact R4.out.dn m5); clear hm5; obtain ⟨f0, f1, f2, f5⟩ := R5.out.cell; have kb5 := kb _ R5.out.ec; have kp5 := kp _ R5.out.ec) | (go_simp; go_at_call 69; (with_reducible refine (kx _).mono ?_); rintro e wn ⟨rfl, rfl⟩) | (go_simp; go_at_call 71; (with_reducible refine kb5.mono ?_); rintro e wn ⟨rfl, rfl⟩) | (go_simp; go_at_call 47; (with_reducible refine kp5.mono ?_); rintro e w6 ⟨rfl, H6, K6⟩; have R6 := Lib.hid (R5.out.step H6 K6); clear H6 K6; obtain ⟨j0, j1, j2, j5⟩ := R6.out.cell) | fail)
          all_goals
            go_wp2_with fail
            clear d0 b0 b1 d5 h5 f0 f1 f2 f5 j0 j1 j2 j5
            have R7 := Lib.hid R6.out.drew
            obtain ⟨d0, b0, b1, -⟩ := R7.out.cell
            have kf7 := kf _ R7.out.ec
            go_region_held3 (fun w' => w'.cell? ⟨a.P, 0, none⟩ = some (.pointer (some ⟨a.A, 0, none⟩)) ∧ w'.cell? ⟨g, 0, none⟩ = some (.int .i64 x) ∧ w'.cell? ⟨g, 1, none⟩ = some (.int .i64 y))
              (first | (with_reducible exact ⟨d0, b0, b1⟩) | (with_reducible exact ⟨f0, f1, f2⟩) | fail)
              (first | (go_simp; go_at_call 72; (with_reducible refine kf7.mono ?_); rintro e w8 ⟨rfl, H8, K8⟩; have R8 := Lib.hid (R7.out.step H8 K8); clear H8 K8; obtain ⟨f0, f1, f2, -⟩ := R8.out.cell) | fail)
          all_goals
            go_wp2_with fail
            clear d0 b0 b1 f0 f1 f2
            have R9 := Lib.hid R8.out.drew
            obtain ⟨d0, b0, b1, -⟩ := R9.out.cell
            have kh9 := kh _ R9.out.ec
            go_region_held3 (fun w' => w'.cell? ⟨a.P, 0, none⟩ = some (.pointer (some ⟨a.A, 0, none⟩)) ∧ w'.cell? ⟨g, 0, none⟩ = some (.int .i64 x) ∧ w'.cell? ⟨g, 1, none⟩ = some (.int .i64 y))
              (first | (with_reducible exact ⟨d0, b0, b1⟩) | (with_reducible exact ⟨f0, f1, f2⟩) | fail)
              (first | (go_simp; go_at_call 68; (with_reducible refine kh9.mono ?_); rintro e w10 ⟨rfl, H10, K10⟩; have R10 := Lib.hid (R9.out.step H10 K10); clear H10 K10; obtain ⟨f0, f1, f2, -⟩ := R10.out.cell) | fail)
          all_goals
            go_wp2_with fail
            go_roundw
            case rel =>
              refine ⟨k + 1, HLT.out, by go_num, ?_, R10.out.hp, R10.out.kt⟩
              rw [HNX.out]; rw [if_pos (by decide)]
              exact R10.out.ec
            case measure => have := HLT.out; simp [intOf]; omega
    · have hkl : k = L.length := by omega
      subst hkl
      rw [List.take_length] at hE
      go_wp2_with fail
      go_end0
      exact ⟨rfl, hE.out, hK.out⟩
end Go.Proofs.YtklchodbnjebnaaDoor
set_option maxRecDepth 100000
namespace Go.Proofs.YtklchodbnjebnaaDoor
open Go.RowKit

def chkK (p : Pp) (e : Es) (k : Nat) : Es := (([1, 0, 1, 0] : List Int).take k).foldl (fun e b => putS p e 18 b) e
theorem idx40 (W : World) : (Instr.index 144 (.agg #[.int .i64 1, .int .i64 0, .int .i64 1, .int .i64 0]) (.int .i64 0)).run Tryd.prog W = .ok (.int .i64 1) W := by kernel_rfl
theorem idx41 (W : World) : (Instr.index 144 (.agg #[.int .i64 1, .int .i64 0, .int .i64 1, .int .i64 0]) (.int .i64 1)).run Tryd.prog W = .ok (.int .i64 0) W := by kernel_rfl
theorem idx42 (W : World) : (Instr.index 144 (.agg #[.int .i64 1, .int .i64 0, .int .i64 1, .int .i64 0]) (.int .i64 2)).run Tryd.prog W = .ok (.int .i64 1) W := by kernel_rfl
theorem idx43 (W : World) : (Instr.index 144 (.agg #[.int .i64 1, .int .i64 0, .int .i64 1, .int .i64 0]) (.int .i64 3)).run Tryd.prog W = .ok (.int .i64 0) W := by kernel_rfl
theorem chk_all (p : Pp) (e : Es) : chkK p e 4 = chkS p e := rfl
set_option maxHeartbeats 8000000 in
theorem cleanup_c {W0 W : World} {a : Adr} {p : Pp} {e : Es} (H : Ec W0 W a p e) (y : Bool) (hl : e.2.length ≤ 900000) : Calls Tryd.prog 50 #[.pointer (some ⟨a.P, 0, none⟩), .bool y] W (EG W0 W a p (cleanS p y e)) := by
  obtain ⟨hw, hh⟩ := H.len
  obtain ⟨c0, -, -, -, -, -⟩ := ec_cells H.pc
  have ks := size_c H.cb
  have kc := fun W => scan_yes p.w p.h H.cb.fit W
  have hmn := hmn
  have HSL := Lib.hid (scan_l p.w p.h hw hh)
  have HL := Lib.hid hl
  have HH := Lib.hid H
  have HW := Lib.hid hw
  have HHH := Lib.hid hh
  clear H hw hh hl
  go_enter Tryd.func50, Tryd.ntmps50
  go_wp2_with (first | (go_at_call 55; (with_reducible refine ks.mono ?_); rintro e wa ⟨rfl, hBa⟩; have HB := Lib.hid hBa; clear hBa))
  clear ks c0
  go_loopw [6] (fun i wr => ∃ s : Nat, s ≤ (p.h + 3) / 4 ∧ i = .int .i64 ((4 * s : Nat) : Int) ∧ Hid (Ec W0 wr a p (clS p e s)) ∧ Hid (Kt W wr)) (fun i _ => (p.h + 4 - (intOf i).toNat))
  case atStart => exact ⟨0, by omega, rfl, HH.out.below HB.out, kt_below HB.out⟩
  case round =>
    obtain ⟨s, hs, rfl, hE, hK⟩ := hrel
    by_cases hlt : ((4 * s : Nat) : Int) < (p.h : Int)
    · obtain ⟨n, hn⟩ : ∃ n, n = min 4 (p.h - 4 * s) := ⟨_, rfl⟩
      have hnext : clS p e (s + 1) = strS p (clS p e s) (4 * s) n p.w := by unfold clS; rw [foldl_rng, hn]
      have hlen := clS_len p e s
      obtain ⟨e1, he1⟩ : ∃ e1, e1 = clS p e s := ⟨_, rfl⟩
      rw [← he1] at hE hnext hlen
      have hlen1 : e1.2.length ≤ 930000 := by
        have h1 : 12 * p.w * s ≤ 12 * 64 * 16 := Nat.mul_le_mul (Nat.mul_le_mul_left _ HW.out) (by have := HHH.out; omega)
        have := HL.out
        omega
      have hmin : min (((4 * s : Nat) : Int) + 4) (p.h : Int) = ((4 * s + n : Nat) : Int) := by omega
      have w4 : IntKind.i64.wrap (((4 * s : Nat) : Int) + 4) = ((4 * s : Nat) : Int) + 4 := by have := HHH.out; rw [IntWalk.i64_left]; unfold wrap64; omega
      have hnh : 4 * s + n ≤ p.h := by omega
      have hn4 : n ≤ 4 := by omega
      have HNX := Lib.hid hnext
      have HNH := Lib.hid hnh
      have HN4 := Lib.hid hn4
      have HS := Lib.hid (show s < (p.h + 3) / 4 by omega)
      have HLN := Lib.hid hlen1
      clear hnext hlen hlen1 hnh hn4 hn he1 hs
      obtain ⟨tp, htp⟩ : ∃ t : Nat, t = 4 * s := ⟨_, rfl⟩
      rw [← htp] at hmin w4 hlt
      have HTP := Lib.hid htp
      have HNX2 := Lib.hid (show clS p e (s + 1) = strS p e1 tp n p.w by rw [HNX.out, htp])
      have HNH2 := Lib.hid (show tp + n ≤ p.h by rw [htp]; exact HNH.out)
      rw [← htp]
      clear htp HNX HNH
      go_wp2_with fail
      obtain ⟨Wo, rfl⟩ : ∃ Wo, Wo = wr := ⟨_, rfl⟩
      go_loopw [26] (fun i wr => ∃ k : Nat, k ≤ p.w ∧ i = .int .i64 (k : Int) ∧ Hid (Ec W0 wr a p (strS p e1 tp n k)) ∧ Hid (Kt W wr)) (fun i _ => (p.w - (intOf i).toNat))
      case atStart => exact ⟨0, Nat.zero_le _, rfl, hE.out, hK⟩
      case round =>
        obtain ⟨k, hk, rfl, hE2, hK2⟩ := hrel
        by_cases hkw : k < p.w
        · have hnx : strS p e1 tp n (k + 1) = colS p (strS p e1 tp n k) k tp n := by unfold strS; rw [foldl_rng]
          have hlen := strS_len p e1 tp n k HN4.out
          obtain ⟨e2, he2⟩ : ∃ e2, e2 = strS p e1 tp n k := ⟨_, rfl⟩
          rw [← he2] at hE2 hnx hlen
          have kcol := column_c hE2.out k tp n hkw HNH2.out HN4.out (by have := HLN.out; have := HW.out; omega)
          rw [← hnx] at kcol
          have wk : IntKind.i64.wrap ((k : Int) + 1) = ((k + 1 : Nat) : Int) := by have := HW.out; rw [IntWalk.i64_left]; unfold wrap64; omega
          have HKW := Lib.hid hkw
          clear hnx hlen he2
          obtain ⟨e3, he3⟩ : ∃ e3, e3 = strS p e1 tp n (k + 1) := ⟨_, rfl⟩
          rw [← he3] at kcol
          have HE3 := Lib.hid he3
          clear he3
          obtain ⟨bt, hbt⟩ : ∃ t : Int, t = ((tp + n : Nat) : Int) := ⟨_, rfl⟩
          rw [← hbt] at hmin kcol
          clear hbt
          go_wp2_with (first | (go_at_call 73; (with_reducible refine kcol.mono ?_); rintro e w3 ⟨rfl, H3, K3⟩; have H3 := Lib.hid H3; have K3 := Lib.hid (hK2.out.trans K3)))
          go_roundw
          case rel => exact ⟨k + 1, HKW.out, by go_num, by rw [← HE3.out]; exact H3, K3⟩
          case measure => have := HKW.out; simp [intOf]; omega
        · obtain rfl : k = p.w := by omega
          rw [← HNX2.out] at hE2
          have e4 : ((tp : Int) + 4) = ((4 * (s + 1) : Nat) : Int) := by have := HTP.out; omega
          have HE4 := Lib.hid e4
          clear e4
          go_wp2_with fail
          go_roundw
          case rel => exact ⟨s + 1, HS.out, by rw [← HE4.out], hE2, hK2⟩
          case measure => have := HS.out; have := HTP.out; simp [intOf]; omega
    · have hsq : s = (p.h + 3) / 4 := by omega
      subst hsq
      have hlen := clS_len p e ((p.h + 3) / 4)
      obtain ⟨e1, he1⟩ : ∃ e1, e1 = clS p e ((p.h + 3) / 4) := ⟨_, rfl⟩
      have hC : cleanS p y e = endS p y (offS p e1 (scan p.w p.h)) := by unfold cleanS; rw [he1]
      rw [← he1] at hE hlen
      have hlen1 : e1.2.length ≤ 930000 := by
        have h1 : 12 * p.w * ((p.h + 3) / 4) ≤ 12 * 64 * 16 := Nat.mul_le_mul (Nat.mul_le_mul_left _ HW.out) (by have := HHH.out; omega)
        have := HL.out
        omega
      have HC := Lib.hid hC
      have HLN := Lib.hid hlen1
      have HIN := Lib.hid (fun z (hz : z ∈ scan p.w p.h) => scan_in hz)
      generalize scan p.w p.h = L at *
      clear hC hlen hlen1 he1 hs
      go_wp2_with (first | (go_at_call 64; (with_reducible refine (kc _).mono ?_); rintro e w1 ⟨s1, m1, rfl, hP, hB⟩; have HP := Lib.hid hP; have HB1 := Lib.hid hB; clear hP hB))
      clear kc
      obtain ⟨Wo, rfl⟩ : ∃ Wo, Wo = wr := ⟨_, rfl⟩
      go_loopw [42] (fun i wr => ∃ k : Nat, k ≤ L.length ∧ i = .int .i64 (k : Int) ∧ Hid (Ec W0 wr a p (offS p e1 (L.take k))) ∧ Hid (HoldsP wr s1 L) ∧ Hid (Kt W wr)) (fun i _ => (L.length - (intOf i).toNat))
      case atStart => exact ⟨0, by omega, rfl, hE.out.below HB1.out, HP.out, hK.out.trans (kt_below HB1.out)⟩
      case round =>
        obtain ⟨k, hk, rfl, hE, hH, hK⟩ := hrel
        by_cases hlt : k < L.length
        · obtain ⟨b, rfl, p0, p1⟩ := hH.out.at hlt
          have hnext : offS p e1 (L.take (k + 1)) = touchS p (offS p e1 (L.take k)) L[k].1 L[k].2 false := foldl_take (fun (e : Es) (z : Int × Int) => touchS p e z.1 z.2 false) e1 L k hlt
          obtain ⟨e2, he2⟩ : ∃ e2, e2 = offS p e1 (L.take k) := ⟨_, rfl⟩
          rw [← he2] at hE hnext
          obtain ⟨z, hz0⟩ : ∃ z, z = L[k] := ⟨_, rfl⟩
          rw [← hz0] at hnext p0 p1
          obtain ⟨x, yy⟩ := z
          simp only at p0 p1 hnext
          have wk : IntKind.i64.wrap ((k : Int) + 1) = ((k + 1 : Nat) : Int) := by have := HSL.out; rw [IntWalk.i64_left]; unfold wrap64; omega
          have HLT := Lib.hid hlt
          have HNX := Lib.hid hnext
          clear hz0 he2 hnext
          go_wp2_with fail
          have R1 := Lib.hid (Rd.begin x yy hE.out hH.out hK.out)
          clear p0 p1 hE hH hK
          generalize wr.alloc (.cells #[.int .i64 x, .int .i64 yy] 139) = W1 at *
          generalize wr.heap.size = g at *
          have R4 := Lib.hid R1.out.drew
          obtain ⟨d0, b0, b1, -⟩ := R4.out.cell
          have kt4 := touch_ce R4.out.ec x yy false
          generalize touchS p e2 x yy false = e3 at *
          go_region_held3 (fun w' => w'.cell? ⟨a.P, 0, none⟩ = some (.pointer (some ⟨a.A, 0, none⟩)) ∧ w'.cell? ⟨g, 0, none⟩ = some (.int .i64 x) ∧ w'.cell? ⟨g, 1, none⟩ = some (.int .i64 yy))
            (first | (with_reducible exact ⟨d0, b0, b1⟩) | (with_reducible exact ⟨f0, f1, f2⟩) | fail)
            (first | (go_simp; go_at_call 68; (with_reducible refine kt4.mono ?_); rintro e w5 ⟨rfl, H5, K5⟩; have R5 := Lib.hid (R4.out.step H5 K5); clear H5 K5; obtain ⟨f0, f1, f2, -⟩ := R5.out.cell) | fail)
          all_goals
            go_wp2_with fail
            go_roundw
            case rel =>
              refine ⟨k + 1, HLT.out, by go_num, ?_, R5.out.hp, R5.out.kt⟩
              rw [HNX.out]
              exact R5.out.ec
            case measure => have := HLT.out; simp [intOf]; omega
        · have hkl : k = L.length := by omega
          subst hkl
          rw [List.take_length] at hE
          have hlen2 := offS_len p e1 L
          obtain ⟨e2, he2⟩ : ∃ e2, e2 = offS p e1 L := ⟨_, rfl⟩
          rw [← he2] at hE hlen2
          have HC2 := Lib.hid (show cleanS p y e = endS p y e2 by rw [HC.out, he2])
          have HL2 := Lib.hid (show e2.2.length ≤ 930000 by have := HLN.out; omega)
          clear hlen2 he2
          cases y with
          | false =>
            go_wp2_with fail
            go_end0
            exact ⟨rfl, by rw [HC2.out]; exact hE.out, hK.out⟩
          | true =>
            go_wp2_with fail
            obtain ⟨Wp, rfl⟩ : ∃ Wo, Wo = wr := ⟨_, rfl⟩
            go_loopw [58] (fun i wr => ∃ k : Nat, k ≤ 4 ∧ i = .int .i64 (k : Int) ∧ Hid (Ec W0 wr a p (chkK p e2 k)) ∧ Hid (Kt W wr)) (fun i _ => (4 - (intOf i).toNat))
            case atStart => exact ⟨0, by omega, rfl, hE.out, hK⟩
            case round =>
              obtain ⟨k, hk, hi, hE3, hK3⟩ := hrel
              have c5 : wr.cell? ⟨a.P, 5, none⟩ = some (.func (.func 47) #[] #[.pointer (some ⟨a.G, 0, none⟩), .pointer (some ⟨a.L, 0, none⟩)]) := hE3.out.pc.cell 5
              have hlen3 : (chkK p e2 k).2.length ≤ 1000000 := by
                have h1 := foldl_len (fun e b => putS p e 18 b) 1 (fun e z => by unfold putS; simp) (([1, 0, 1, 0] : List Int).take k) e2
                rw [List.length_take] at h1
                have := HL2.out
                unfold chkK
                simp only [List.length_cons, List.length_nil] at h1
                omega
              obtain rfl | rfl | rfl | rfl | rfl : k = 0 ∨ k = 1 ∨ k = 2 ∨ k = 3 ∨ k = 4 := by omega
              · replace hi : _ = Value.int .i64 0 := hi
                subst hi
                have kp := put_c hE3.out 18 1 hlen3
                have hidx := idx40
                go_wp2_with (first | (go_at_call 47; (with_reducible refine kp.mono ?_); rintro e w6 ⟨rfl, H6, K6⟩; have H6 := Lib.hid H6; have K6 := Lib.hid (hK3.out.trans K6)))
                go_roundw
                case rel => exact ⟨1, by omega, by go_num, H6, K6⟩
                case measure => simp [intOf]
              · replace hi : _ = Value.int .i64 1 := hi
                subst hi
                have kp := put_c hE3.out 18 0 hlen3
                have hidx := idx41
                go_wp2_with (first | (go_at_call 47; (with_reducible refine kp.mono ?_); rintro e w6 ⟨rfl, H6, K6⟩; have H6 := Lib.hid H6; have K6 := Lib.hid (hK3.out.trans K6)))
                go_roundw
                case rel => exact ⟨2, by omega, by go_num, H6, K6⟩
                case measure => simp [intOf]
              · replace hi : _ = Value.int .i64 2 := hi
                subst hi
                have kp := put_c hE3.out 18 1 hlen3
                have hidx := idx42
                go_wp2_with (first | (go_at_call 47; (with_reducible refine kp.mono ?_); rintro e w6 ⟨rfl, H6, K6⟩; have H6 := Lib.hid H6; have K6 := Lib.hid (hK3.out.trans K6)))
                go_roundw
                case rel => exact ⟨3, by omega, by go_num, H6, K6⟩
                case measure => simp [intOf]
              · replace hi : _ = Value.int .i64 3 := hi
                subst hi
                have kp := put_c hE3.out 18 0 hlen3
                have hidx := idx43
                go_wp2_with (first | (go_at_call 47; (with_reducible refine kp.mono ?_); rintro e w6 ⟨rfl, H6, K6⟩; have H6 := Lib.hid H6; have K6 := Lib.hid (hK3.out.trans K6)))
                go_roundw
                case rel => exact ⟨4, by omega, by go_num, H6, K6⟩
                case measure => simp [intOf]
              · replace hi : _ = Value.int .i64 4 := hi
                subst hi
                go_wp2_with fail
                go_end0
                exact ⟨rfl, by rw [HC2.out]; exact hE3.out, hK3.out⟩
end Go.Proofs.YtklchodbnjebnaaDoor
