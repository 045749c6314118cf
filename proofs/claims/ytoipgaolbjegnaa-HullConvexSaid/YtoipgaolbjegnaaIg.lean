/-
  Layer 20: contract of the reference's Best; of the statements' list search.
-/
import Derived.Test.YtoipgaolbjegnaaId
set_option maxRecDepth 100000
namespace Go.Proofs.Ytoipgaolbjegnaa
open Go.RowKit

set_option maxHeartbeats 8000000 in
theorem zbest_c (R D : List Int) (n l mr md : Nat) (d r : Int) (sr sd : Option Addr) (W : World) (hR : HoldsI W sr R) (hD : HoldsI W sd D) (hn : n = R.length) (hl : l = D.length) :
    Calls Try.prog 20 #[.agg #[.slice sr n mr, .slice sd l md], .int .i64 d, .int .i64 r] W fun e w' => e = .returned (.int .i64 (bestI R D d r)) ∧ Below W.heap.size W w' := by
  obtain ⟨WA, hWA⟩ : ∃ x, x = W.alloc (.cells #[.slice sr n mr, .slice sd l md] 24) := ⟨_, rfl⟩
  have hB : Below W.heap.size W WA := by rw [hWA]; exact below_alloc (Below.refl _ W) _
  have hX : Blk WA W.heap.size 24 #[.slice sr n mr, .slice sd l md] := by rw [hWA]; exact Blk.new W _ _
  have HB := Lib.hid hB
  have HX := Lib.hid hX
  have HR := Lib.hid (hR.below hB (Nat.le_refl _))
  have HD := Lib.hid (hD.below hB (Nat.le_refl _))
  have HWA := Lib.hid hWA
  have kv := zvalid_c R D n l mr md sr sd WA HR.out HD.out hn hl
  obtain ⟨q0, q1⟩ := cv2 hX
  have HN := Lib.hid hn
  have HLN := Lib.hid hl
  obtain ⟨z, hz⟩ : ∃ z, z = bestI R D d r := ⟨_, rfl⟩
  rw [← hz]
  unfold bestI at hz
  clear hB hX hR hD hn hl
  rw [hWA] at kv q0 q1
  clear hWA
  by_cases hv : VP R D
  · rw [decide_eq_true hv] at kv
    by_cases h1 : d < 0
    · rw [if_neg (fun h => by have := h.2.1.1; omega)] at hz
      clear hv
      subst hz
      go_enter Try.func20, Try.ntmps20
      go_wp2_with (first | (go_at_call 13; (with_reducible refine kv.mono ?_); rintro e w1 ⟨rfl, hb⟩; have B1 := Lib.hid (show Below WA.heap.size WA w1 by rw [HWA.out]; exact hb); clear hb))
      go_ret
      exact ⟨rfl, below_call HB.out B1.out⟩
    · by_cases h2 : 70368744177664 < d
      · rw [if_neg (fun h => by have := h.2.1.2; omega)] at hz
        clear hv
        subst hz
        go_enter Try.func20, Try.ntmps20
        go_wp2_with (first | (go_at_call 13; (with_reducible refine kv.mono ?_); rintro e w1 ⟨rfl, hb⟩; have B1 := Lib.hid (show Below WA.heap.size WA w1 by rw [HWA.out]; exact hb); clear hb))
        go_ret
        exact ⟨rfl, below_call HB.out B1.out⟩
      · by_cases h3 : r < 1
        · rw [if_neg (fun h => by have := h.2.2.1.1; have := h.2.2.2; omega)] at hz
          clear hv
          subst hz
          go_enter Try.func20, Try.ntmps20
          go_wp2_with (first | (go_at_call 13; (with_reducible refine kv.mono ?_); rintro e w1 ⟨rfl, hb⟩; have B1 := Lib.hid (show Below WA.heap.size WA w1 by rw [HWA.out]; exact hb); clear hb))
          go_ret
          exact ⟨rfl, below_call HB.out B1.out⟩
        · by_cases h4 : 65535 < r
          · rw [if_neg (fun h => by have := h.2.2.1.2; omega)] at hz
            clear hv
            subst hz
            go_enter Try.func20, Try.ntmps20
            go_wp2_with (first | (go_at_call 13; (with_reducible refine kv.mono ?_); rintro e w1 ⟨rfl, hb⟩; have B1 := Lib.hid (show Below WA.heap.size WA w1 by rw [HWA.out]; exact hb); clear hb))
            go_ret
            exact ⟨rfl, below_call HB.out B1.out⟩
          · have hd : okD d := ⟨by omega, by omega⟩
            have hr : okR r := ⟨by omega, by omega⟩
            rw [if_pos ⟨hv, hd, hr, by omega⟩] at hz
            have hnl : l = n := by rw [HN.out, HLN.out]; exact hv.1
            have H179 := Lib.hid (show 1 ≤ n ∧ n ≤ 179 by have := hv.2.1; have := hv.2.2.1; have := HN.out; omega)
            subst hnl
            have hst : z = (bsF R D d r l : Int) := by rw [hz, HLN.out]; rfl
            have HST := Lib.hid hst
            have hbl : ∀ k, k ≤ l → bsF R D d r k < l := fun k hk => by have := (bsF_first R D d r k).1; have := H179.out; omega
            have HBL := Lib.hid hbl
            have hsuc : ∀ k, bsF R D d r (k + 1) = if cost R D d r k < cost R D d r (bsF R D d r k) then k else bsF R D d r k := fun k => rfl
            have HSUC := Lib.hid hsuc
            have hcw := fun (i : Nat) (hi : i < l) => cost_wrap hv hd hr (show i < D.length by have := HLN.out; omega)
            have HCW := Lib.hid hcw
            obtain ⟨b3, off3, rfl, -⟩ := HR.out.at (show 0 < R.length by have := H179.out; have := HN.out; omega)
            obtain ⟨b2, off2, rfl, -⟩ := HD.out.at (show 0 < D.length by have := H179.out; have := HLN.out; omega)
            clear hz hst hbl hsuc hcw hv hd hr
            go_enter Try.func20, Try.ntmps20
            go_wp2_with (first | (go_at_call 13; (with_reducible refine kv.mono ?_); rintro e w1 ⟨rfl, hb⟩; have B1 := Lib.hid (show Below WA.heap.size WA w1 by rw [HWA.out]; exact hb); clear hb))
            clear q0 q1 kv h1 h2 h3 h4
            go_loopw [7, 8] (fun v u wr => ∃ k : Nat, k ≤ l ∧ u = .int .i64 (k : Int) ∧ v = .int .i64 (bsF R D d r k : Int) ∧ Hid (Below WA.heap.size WA wr)) (fun _ u _ => l - (intOf u).toNat)
            case atStart => exact ⟨0, Nat.zero_le _, rfl, rfl, B1.out⟩
            case round =>
              obtain ⟨k, hk, rfl, rfl, hW⟩ := hrel
              obtain ⟨q0, q1⟩ := cv2 (HX.out.below hW.out)
              by_cases hlt : k < l
              · have HLT := Lib.hid hlt
                have wk : IntKind.i64.wrap ((k : Int) + 1) = ((k + 1 : Nat) : Int) := by have := H179.out; rw [IntWalk.i64_left]; unfold wrap64; omega
                have hsuc := HSUC.out k
                have hbl := HBL.out k hk
                obtain ⟨b, hb⟩ : ∃ b, b = bsF R D d r k := ⟨_, rfl⟩
                rw [← hb] at hsuc hbl ⊢
                have rk := (HR.out.call hW.out).of (show k < R.length by have := HN.out; omega)
                have rb := (HR.out.call hW.out).of (show b < R.length by have := HN.out; omega)
                have dk := (HD.out.call hW.out).of (show k < D.length by have := HLN.out; omega)
                have db := (HD.out.call hW.out).of (show b < D.length by have := HLN.out; omega)
                obtain ⟨e1, e2, e3⟩ := HCW.out k hlt
                obtain ⟨f1, f2, f3⟩ := HCW.out b hbl
                have k1 : (0 : Int) ≤ (k : Int) := by omega
                have k2 : (k : Int) < (l : Int) := by omega
                have b1 : (0 : Int) ≤ (b : Int) := by omega
                have b4 : (b : Int) < (l : Int) := by omega
                clear hb hbl
                by_cases hc : cost R D d r k < cost R D d r b
                · rw [if_pos hc] at hsuc
                  have HS := Lib.hid hsuc
                  have tc : decide (cost R D d r k < cost R D d r b) = true := decide_eq_true hc
                  clear hsuc
                  generalize cost R D d r k = x at *
                  generalize cost R D d r b = y at *
                  generalize R.getD k 0 = xk at *
                  generalize R.getD b 0 = xb at *
                  generalize D.getD k 0 = yk at *
                  generalize D.getD b 0 = yb at *
                  go_wp2_with fail
                  go_quiet (fail)
                  go_wp2_with fail
                  go_roundw
                  case rel => exact ⟨k + 1, HLT.out, by go_num, by rw [HS.out], below_call hW.out (drewN_below _ _)⟩
                  case measure => have := HLT.out; simp [intOf]; omega
                · rw [if_neg hc] at hsuc
                  have HS := Lib.hid hsuc
                  have tc : decide (cost R D d r k < cost R D d r b) = false := decide_eq_false hc
                  clear hsuc
                  generalize cost R D d r k = x at *
                  generalize cost R D d r b = y at *
                  generalize R.getD k 0 = xk at *
                  generalize R.getD b 0 = xb at *
                  generalize D.getD k 0 = yk at *
                  generalize D.getD b 0 = yb at *
                  go_wp2_with fail
                  go_quiet (fail)
                  go_wp2_with fail
                  go_roundw
                  case rel => exact ⟨k + 1, HLT.out, by go_num, by rw [HS.out], below_call hW.out (drewN_below _ _)⟩
                  case measure => have := HLT.out; simp [intOf]; omega
              · obtain rfl : k = l := by omega
                go_wp2_with fail
                go_ret
                exact ⟨by show Ending.returned (.int .i64 (bsF R D d r k : Int)) = _; rw [HST.out], below_call HB.out hW.out⟩
  · rw [if_neg (fun h => hv h.1)] at hz
    rw [decide_eq_false hv] at kv
    clear hv
    subst hz
    go_enter Try.func20, Try.ntmps20
    go_wp2_with (first | (go_at_call 13; (with_reducible refine kv.mono ?_); rintro e w1 ⟨rfl, hb⟩; have B1 := Lib.hid (show Below WA.heap.size WA w1 by rw [HWA.out]; exact hb); clear hb))
    go_ret
    exact ⟨rfl, below_call HB.out B1.out⟩
/-- A number that a list has is found. -/
theorem in_c (l : List Int) (s : Option Addr) (m : Nat) (x : Int) (W : World) (hH : HoldsI W s l) (hl : l.length ≤ 1000000000) (hx : ∃ i, i < l.length ∧ l.getD i 0 = x) : Calls Try.prog 21 #[.slice s l.length m, .int .i64 x] W fun e w' => e = .returned (.bool true) ∧ Below W.heap.size W w' := by
  have HH := Lib.hid hH
  have HL := Lib.hid hl
  have HXX := Lib.hid hx
  clear hH hl hx
  go_enter Try.func21, Try.ntmps21
  go_wp2_with fail
  go_loopw [5] (fun i wr => ∃ k : Nat, k ≤ l.length ∧ i = .int .i64 (k : Int) ∧ Hid (Below W.heap.size W wr) ∧ Hid (∀ j, j < k → l.getD j 0 ≠ x)) (fun i _ => l.length - (intOf i).toNat)
  case atStart => exact ⟨0, Nat.zero_le _, rfl, Below.refl _ _, fun j hj => by omega⟩
  case round =>
    obtain ⟨k, hk, rfl, hW, hA⟩ := hrel
    by_cases hlt : k < l.length
    · obtain ⟨g, off, rfl, hc⟩ := (HH.out.call hW.out).at hlt
      have HLT := Lib.hid hlt
      have wk : IntKind.i64.wrap ((k : Int) + 1) = ((k + 1 : Nat) : Int) := by have := HL.out; rw [IntWalk.i64_left]; unfold wrap64; omega
      by_cases he : l.getD k 0 = x
      · rw [he] at hc
        have te : (x == x) = true := by simp
        go_wp2_with fail
        go_ret
        exact ⟨rfl, hW.out⟩
      · have te : (l.getD k 0 == x) = false := by simpa using he
        have HE := Lib.hid he
        clear he
        generalize hy : l.getD k 0 = y at *
        have HY := Lib.hid hy
        clear hy
        go_wp2_with fail
        go_roundw
        case rel => exact ⟨k + 1, HLT.out, by go_num, hW, fun j hj => by
          rcases Nat.lt_or_ge j k with h | h
          · exact hA.out j h
          · obtain rfl : j = k := by omega
            rw [HY.out]; exact HE.out⟩
        case measure => have := HLT.out; simp [intOf]; omega
    · exfalso
      obtain ⟨i, h1, h2⟩ := HXX.out
      exact hA.out i (by omega) h2
end Go.Proofs.Ytoipgaolbjegnaa
