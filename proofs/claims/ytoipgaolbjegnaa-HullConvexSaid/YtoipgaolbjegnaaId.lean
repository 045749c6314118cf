/-
  Layer 20: contracts of the code's Best and its closure.
-/
import Derived.Test.YtoipgaolbjegnaaIa
set_option maxRecDepth 100000
namespace Go.Proofs.Ytoipgaolbjegnaa
open Go.RowKit

theorem cost_wrap {R D : List Int} (h : VP R D) {d r : Int} (hd : okD d) (hr : okR r) {i : Nat} (hi : i < D.length) :
    IntKind.i64.wrap (r * D.getD i 0) = r * D.getD i 0 ∧ IntKind.i64.wrap (d * R.getD i 0) = d * R.getD i 0 ∧ IntKind.i64.wrap (r * D.getD i 0 + d * R.getD i 0) = cost R D d r i := by
  have h1 := h.d hi
  have h2 := h.r hi
  unfold okD okR at *
  have a1 : 0 ≤ r * D.getD i 0 := Int.mul_nonneg hr.1 h1.1
  have a2 : r * D.getD i 0 ≤ 65535 * 70368744177664 := Int.mul_le_mul hr.2 h1.2 h1.1 (by decide)
  have b1 : 0 ≤ d * R.getD i 0 := Int.mul_nonneg hd.1 h2.1
  have b2 : d * R.getD i 0 ≤ 70368744177664 * 65535 := Int.mul_le_mul hd.2 h2.2 h2.1 (by decide)
  refine ⟨?_, ?_, ?_⟩ <;> (rw [IntWalk.i64_left]; unfold wrap64; (try unfold cost); omega)
set_option maxHeartbeats 4000000 in
theorem costc_c (R D : List Int) (hv : VP R D) (d r : Int) (hd : okD d) (hr : okR r) (n mr md i gr gc gd : Nat) (sr sd : Option Addr) (W : World) (hn : n = D.length) (hR : HoldsI W sr R) (hD : HoldsI W sd D) (hC : Blk W gc 24 #[.slice sr n mr, .slice sd n md])
    (hI : W.cell? ⟨gr, 0, none⟩ = some (.int .i64 r)) (hJ : W.cell? ⟨gd, 0, none⟩ = some (.int .i64 d)) (hi : i < n) :
    Calls Try.prog 29 #[.int .i64 (i : Int), .pointer (some ⟨gr, 0, none⟩), .pointer (some ⟨gc, 0, none⟩), .pointer (some ⟨gd, 0, none⟩)] W fun e w' => e = .returned (.int .i64 (cost R D d r i)) ∧ Below W.heap.size W w' := by
  have hlen := hv.1
  obtain ⟨b, off, rfl, ri⟩ := hR.at (show i < R.length by omega)
  obtain ⟨b2, off2, rfl, di⟩ := hD.at (show i < D.length by omega)
  obtain ⟨q0, q1⟩ := cv2 hC
  obtain ⟨e1, e2, e3⟩ := cost_wrap hv hd hr (show i < D.length by omega)
  have i1 : (0 : Int) ≤ (i : Int) := by omega
  have i2 : (i : Int) < (n : Int) := by omega
  clear hlen hv hn hR hD hC hi hd hr
  generalize cost R D d r i = c at *
  generalize R.getD i 0 = xi at *
  generalize D.getD i 0 = yi at *
  go_enter Try.func29, Try.ntmps29
  go_wp2_with fail
  go_quiet (fail)
  go_wp2_with fail
  go_ret
  exact ⟨rfl, drewN_below _ _⟩
/-- What Best gives. -/
def bestI (R D : List Int) (d r : Int) : Int := if VP R D ∧ okD d ∧ okR r ∧ r ≠ 0 then (bst R D d r : Int) else -1
set_option maxHeartbeats 8000000 in
theorem hbest_c (R D : List Int) (n l mr md : Nat) (d r : Int) (sr sd : Option Addr) (W : World) (hR : HoldsI W sr R) (hD : HoldsI W sd D) (hn : n = R.length) (hl : l = D.length) :
    Calls Try.prog 19 #[.agg #[.slice sr n mr, .slice sd l md], .int .i64 d, .int .i64 r] W fun e w' => e = .returned (.int .i64 (bestI R D d r)) ∧ Below W.heap.size W w' := by
  obtain ⟨WA, hWA⟩ : ∃ x, x = ((W.alloc (.cells #[.slice sr n mr, .slice sd l md] 24)).alloc (.cells #[.int .i64 d] 3)).alloc (.cells #[.int .i64 r] 3) := ⟨_, rfl⟩
  have hB : Below W.heap.size W WA := by rw [hWA]; exact below_alloc (below_alloc (below_alloc (Below.refl _ W) _) _) _
  have hX : Blk WA W.heap.size 24 #[.slice sr n mr, .slice sd l md] := by rw [hWA]; exact ((Blk.new W _ _).alloc _).alloc _
  have hY : Blk WA (W.heap.size + 1) 3 #[.int .i64 d] := by
    have := Blk.new (W.alloc (.cells #[.slice sr n mr, .slice sd l md] 24)) 3 #[.int .i64 d]
    rw [hWA]; exact Blk.alloc (by simpa using this) _
  have hZ : Blk WA (W.heap.size + 1 + 1) 3 #[.int .i64 r] := by
    have := Blk.new ((W.alloc (.cells #[.slice sr n mr, .slice sd l md] 24)).alloc (.cells #[.int .i64 d] 3)) 3 #[.int .i64 r]
    rw [hWA]; simpa using this
  have HB := Lib.hid hB
  have HX := Lib.hid hX
  have HY := Lib.hid hY
  have HZ := Lib.hid hZ
  have HR := Lib.hid (hR.below hB (Nat.le_refl _))
  have HD := Lib.hid (hD.below hB (Nat.le_refl _))
  have HWA := Lib.hid hWA
  have kv := hvalid_c R D n l mr md sr sd WA HR.out HD.out hn hl
  obtain ⟨q0, q1⟩ := cv2 hX
  have q2 : WA.cell? ⟨W.heap.size + 1, 0, none⟩ = some (.int .i64 d) := hY.cell 0
  have q3 : WA.cell? ⟨W.heap.size + 1 + 1, 0, none⟩ = some (.int .i64 r) := hZ.cell 0
  have k1 := isdist_c d
  have k2 := israte_c r
  have HN := Lib.hid hn
  have HLN := Lib.hid hl
  unfold bestI
  clear hB hX hY hZ hR hD hn hl
  rw [hWA] at kv q0 q1 q2 q3
  clear hWA
  by_cases hv : VP R D
  · rw [decide_eq_true hv] at kv
    by_cases hd : okD d
    · rw [decide_eq_true hd] at k1
      by_cases hr : okR r
      · rw [decide_eq_true hr] at k2
        by_cases h0 : r = 0
        · rw [if_neg (fun h => h.2.2.2 h0)]
          have t0 : (r == 0) = true := by simpa using h0
          clear h0 hv hd hr
          go_enter Try.func19, Try.ntmps19
          go_wp2_with (first | (go_at_call 12; (with_reducible refine kv.mono ?_); rintro e w1 ⟨rfl, hb⟩; have B1 := Lib.hid (show Below WA.heap.size WA w1 by rw [HWA.out]; exact hb); obtain ⟨q0, q1⟩ := cv2 (HX.out.below B1.out); have q2 : w1.cell? ⟨W.heap.size + 1, 0, none⟩ = some (.int .i64 d) := (HY.out.below B1.out).cell 0; have q3 : w1.cell? ⟨W.heap.size + 1 + 1, 0, none⟩ = some (.int .i64 r) := (HZ.out.below B1.out).cell 0; clear hb) | (go_at_call 23; (with_reducible refine (k1 _).mono ?_); rintro e wn ⟨rfl, rfl⟩) | (go_at_call 24; (with_reducible refine (k2 _).mono ?_); rintro e wn ⟨rfl, rfl⟩))
          go_ret
          exact ⟨rfl, below_call HB.out B1.out⟩
        · rw [if_pos ⟨hv, hd, hr, h0⟩]
          have t0 : (r == 0) = false := by simpa using h0
          have hnl : l = n := by rw [HN.out, HLN.out]; exact hv.1
          have H179 := Lib.hid (show 1 ≤ n ∧ n ≤ 179 by have := hv.2.1; have := hv.2.2.1; have := HN.out; omega)
          subst hnl
          have kc := fun (k : Nat) (hk : k < l) (W1 : World) (hb : Below WA.heap.size WA W1) => costc_c R D hv d r hd hr l mr md k (W.heap.size + 1 + 1) W.heap.size (W.heap.size + 1) sr sd W1 HLN.out (HR.out.call hb) (HD.out.call hb) (HX.out.below hb) ((HZ.out.below hb).cell 0) ((HY.out.below hb).cell 0) hk
          have KC := Lib.hid kc
          have hst : bst R D d r = bsF R D d r l := by rw [HLN.out]; rfl
          have HST := Lib.hid hst
          have hbl : ∀ k, k ≤ l → bsF R D d r k < l := fun k hk => by have := (bsF_first R D d r k).1; have := H179.out; omega
          have HBL := Lib.hid hbl
          have hsuc : ∀ k, bsF R D d r (k + 1) = if cost R D d r k < cost R D d r (bsF R D d r k) then k else bsF R D d r k := fun k => rfl
          have HSUC := Lib.hid hsuc
          clear h0 hv hd hr kc hst hbl hsuc
          go_enter Try.func19, Try.ntmps19
          go_wp2_with (first | (go_at_call 12; (with_reducible refine kv.mono ?_); rintro e w1 ⟨rfl, hb⟩; have B1 := Lib.hid (show Below WA.heap.size WA w1 by rw [HWA.out]; exact hb); obtain ⟨q0, q1⟩ := cv2 (HX.out.below B1.out); have q2 : w1.cell? ⟨W.heap.size + 1, 0, none⟩ = some (.int .i64 d) := (HY.out.below B1.out).cell 0; have q3 : w1.cell? ⟨W.heap.size + 1 + 1, 0, none⟩ = some (.int .i64 r) := (HZ.out.below B1.out).cell 0; clear hb) | (go_at_call 23; (with_reducible refine (k1 _).mono ?_); rintro e wn ⟨rfl, rfl⟩) | (go_at_call 24; (with_reducible refine (k2 _).mono ?_); rintro e wn ⟨rfl, rfl⟩))
          clear q0 q1 q2 q3 t0 kv k1 k2
          go_loopw [8, 31] (fun v u wr => ∃ k : Nat, k ≤ l ∧ u = .int .i64 (k : Int) ∧ v = .int .i64 (bsF R D d r k : Int) ∧ Hid (Below WA.heap.size WA wr)) (fun _ u _ => l - (intOf u).toNat)
          case atStart => exact ⟨0, Nat.zero_le _, rfl, rfl, B1.out⟩
          case round =>
            obtain ⟨k, hk, rfl, rfl, hW⟩ := hrel
            by_cases hlt : k < l
            · have HLT := Lib.hid hlt
              have wk : IntKind.i64.wrap ((k : Int) + 1) = ((k + 1 : Nat) : Int) := by have := H179.out; rw [IntWalk.i64_left]; unfold wrap64; omega
              have hsuc := HSUC.out k
              have kc1 := KC.out k hlt wr hW.out
              have hbl := HBL.out k hk
              obtain ⟨b, hb⟩ : ∃ b, b = bsF R D d r k := ⟨_, rfl⟩
              rw [← hb] at hsuc hbl ⊢
              have kc2 := fun (W1 : World) (hb : Below wr.heap.size wr W1) => KC.out b hbl W1 (below_call hW.out hb)
              have KC2 := Lib.hid kc2
              clear hb hbl kc2
              by_cases hc : cost R D d r k < cost R D d r b
              · rw [if_pos hc] at hsuc
                have HS := Lib.hid hsuc
                clear hsuc
                generalize cost R D d r k = x at *
                generalize cost R D d r b = y at *
                go_wp2_with (first | (go_at_call 29; (with_reducible refine kc1.mono ?_); rintro e w2 ⟨rfl, hb2⟩; have B2 := Lib.hid hb2; have kc3 := KC2.out w2 hb2; clear hb2) | (go_at_call 29; (with_reducible refine kc3.mono ?_); rintro e w3 ⟨rfl, hb3⟩; have B3 := Lib.hid (below_call B2.out hb3); clear hb3))
                go_roundw
                case rel => exact ⟨k + 1, HLT.out, by go_num, by rw [HS.out], below_call hW.out B3.out⟩
                case measure => have := HLT.out; simp [intOf]; omega
              · rw [if_neg hc] at hsuc
                have HS := Lib.hid hsuc
                clear hsuc
                generalize cost R D d r k = x at *
                generalize cost R D d r b = y at *
                go_wp2_with (first | (go_at_call 29; (with_reducible refine kc1.mono ?_); rintro e w2 ⟨rfl, hb2⟩; have B2 := Lib.hid hb2; have kc3 := KC2.out w2 hb2; clear hb2) | (go_at_call 29; (with_reducible refine kc3.mono ?_); rintro e w3 ⟨rfl, hb3⟩; have B3 := Lib.hid (below_call B2.out hb3); clear hb3))
                go_roundw
                case rel => exact ⟨k + 1, HLT.out, by go_num, by rw [HS.out], below_call hW.out B3.out⟩
                case measure => have := HLT.out; simp [intOf]; omega
            · obtain rfl : k = l := by omega
              go_wp2_with fail
              go_ret
              exact ⟨by show Ending.returned (.int .i64 (bsF R D d r k : Int)) = _; rw [HST.out], below_call HB.out hW.out⟩
      · rw [if_neg (fun h => hr h.2.2.1)]
        rw [decide_eq_false hr] at k2
        clear hv hd hr
        go_enter Try.func19, Try.ntmps19
        go_wp2_with (first | (go_at_call 12; (with_reducible refine kv.mono ?_); rintro e w1 ⟨rfl, hb⟩; have B1 := Lib.hid (show Below WA.heap.size WA w1 by rw [HWA.out]; exact hb); obtain ⟨q0, q1⟩ := cv2 (HX.out.below B1.out); have q2 : w1.cell? ⟨W.heap.size + 1, 0, none⟩ = some (.int .i64 d) := (HY.out.below B1.out).cell 0; have q3 : w1.cell? ⟨W.heap.size + 1 + 1, 0, none⟩ = some (.int .i64 r) := (HZ.out.below B1.out).cell 0; clear hb) | (go_at_call 23; (with_reducible refine (k1 _).mono ?_); rintro e wn ⟨rfl, rfl⟩) | (go_at_call 24; (with_reducible refine (k2 _).mono ?_); rintro e wn ⟨rfl, rfl⟩))
        go_ret
        exact ⟨rfl, below_call HB.out B1.out⟩
    · rw [if_neg (fun h => hd h.2.1)]
      rw [decide_eq_false hd] at k1
      clear hv hd
      go_enter Try.func19, Try.ntmps19
      go_wp2_with (first | (go_at_call 12; (with_reducible refine kv.mono ?_); rintro e w1 ⟨rfl, hb⟩; have B1 := Lib.hid (show Below WA.heap.size WA w1 by rw [HWA.out]; exact hb); obtain ⟨q0, q1⟩ := cv2 (HX.out.below B1.out); have q2 : w1.cell? ⟨W.heap.size + 1, 0, none⟩ = some (.int .i64 d) := (HY.out.below B1.out).cell 0; clear hb) | (go_at_call 23; (with_reducible refine (k1 _).mono ?_); rintro e wn ⟨rfl, rfl⟩))
      go_ret
      exact ⟨rfl, below_call HB.out B1.out⟩
  · rw [if_neg (fun h => hv h.1)]
    rw [decide_eq_false hv] at kv
    clear hv
    go_enter Try.func19, Try.ntmps19
    go_wp2_with (first | (go_at_call 12; (with_reducible refine kv.mono ?_); rintro e w1 ⟨rfl, hb⟩; have B1 := Lib.hid (show Below WA.heap.size WA w1 by rw [HWA.out]; exact hb); clear hb))
    go_ret
    exact ⟨rfl, below_call HB.out B1.out⟩
end Go.Proofs.Ytoipgaolbjegnaa
