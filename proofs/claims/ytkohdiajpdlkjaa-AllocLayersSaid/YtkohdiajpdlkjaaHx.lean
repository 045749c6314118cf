/-
  Layer 20: contracts of both Valids.
-/
import Derived.Test.YtkohdiajpdlkjaaHw
set_option maxRecDepth 100000
namespace Go.Proofs.Ytkohdiajpdlkjaa
open Go.RowKit

/-- The walk's facts on a curve in memory. -/
theorem cv2 {w : World} {g n d mr md : Nat} {sr sd : Option Addr} (h : Blk w g 37 #[.slice sr n mr, .slice sd d md]) : w.cell? ⟨g, 0, none⟩ = some (.slice sr n mr) ∧ w.cell? ⟨g, 1, none⟩ = some (.slice sd d md) := ⟨h.cell 0, h.cell 1⟩
set_option maxHeartbeats 4000000 in
theorem hvalid_c (R D : List Int) (n d mr md : Nat) (sr sd : Option Addr) (W : World) (hR : HoldsI W sr R) (hD : HoldsI W sd D) (hn : n = R.length) (hd : d = D.length) :
    Calls Try.prog 26 #[.agg #[.slice sr n mr, .slice sd d md]] W fun e w' => e = .returned (.bool (decide (VP R D))) ∧ Below W.heap.size W w' := by
  obtain ⟨z, hz⟩ : ∃ z, z = decide (VP R D) := ⟨_, rfl⟩
  rw [← hz]
  obtain ⟨WA, hWA⟩ : ∃ x, x = W.alloc (.cells #[.slice sr n mr, .slice sd d md] 37) := ⟨_, rfl⟩
  have hB : Below W.heap.size W WA := by rw [hWA]; exact below_alloc (Below.refl _ W) _
  have hX : Blk WA W.heap.size 37 #[.slice sr n mr, .slice sd d md] := by rw [hWA]; exact Blk.new W _ _
  have HB := Lib.hid hB
  have HX := Lib.hid hX
  have HR := Lib.hid (hR.below hB (Nat.le_refl _))
  have HD := Lib.hid (hD.below hB (Nat.le_refl _))
  have HWA := Lib.hid hWA
  have HZ := Lib.hid hz
  have HN := Lib.hid hn
  have HDN := Lib.hid hd
  have hno : (¬ VP R D) → z = false := fun h => by rw [HZ.out, decide_eq_false h]
  have hyes : VP R D → z = true := fun h => by rw [HZ.out, decide_eq_true h]
  have HNO := Lib.hid hno
  have HYES := Lib.hid hyes
  clear hz hB hX hR hD hn hd hWA hno hyes
  by_cases h1 : d = n
  · by_cases h2 : n < 1
    · have hz := HNO.out (fun h => by have := h.2.1; have := HN.out; omega)
      subst hz
      have t1 : ((d : Int) != (n : Int)) = false := by subst h1; simp
      have t2 : (n : Int) < 1 := by omega
      clear h1
      go_enter Try.func26, Try.ntmps26
      go_wp2_with fail
      go_ret
      exact ⟨rfl, by rw [← HWA.out]; exact HB.out⟩
    · by_cases h3 : 179 < n
      · have hz := HNO.out (fun h => by have := h.2.2.1; have := HN.out; omega)
        subst hz
        have t1 : ((d : Int) != (n : Int)) = false := by subst h1; simp
        have t2 : ¬ (n : Int) < 1 := by omega
        have t3 : (179 : Int) < (n : Int) := by omega
        clear h1
        go_enter Try.func26, Try.ntmps26
        go_wp2_with fail
        go_ret
        exact ⟨rfl, by rw [← HWA.out]; exact HB.out⟩
      · obtain rfl := h1
        obtain ⟨b, off, hsr, hc0⟩ := HR.out.at (show 0 < R.length by have := HN.out; omega)
        subst hsr
        have hcl := HR.out.of (show d - 1 < R.length by have := HN.out; omega)
        have c0 : WA.cell? ⟨b, off, none⟩ = some (.int .i64 (R.getD 0 0)) := hc0
        obtain ⟨x0, hx0⟩ : ∃ x, x = R.getD 0 0 := ⟨_, rfl⟩
        obtain ⟨xl, hxl⟩ : ∃ x, x = R.getD (d - 1) 0 := ⟨_, rfl⟩
        rw [← hx0] at c0
        rw [← hxl] at hcl
        have HX0 := Lib.hid hx0
        have HXL := Lib.hid hxl
        have H23 := Lib.hid (show 1 ≤ d ∧ d ≤ 179 by omega)
        have ks := sorted_c R (some ⟨b, off, none⟩) mr WA HR.out (by have := HN.out; omega)
        rw [← HN.out] at ks
        have e1 : IntKind.i64.wrap ((d : Int) - 1) = ((d - 1 : Nat) : Int) := by rw [IntWalk.i64_left]; unfold wrap64; omega
        have b1 : (0 : Int) ≤ ((d - 1 : Nat) : Int) := by omega
        have b2 : ((d - 1 : Nat) : Int) < (d : Int) := by omega
        have b3 : (0 : Int) < (d : Int) := by omega
        have t0 : ((d : Int) != (d : Int)) = false := by simp
        have t2 : ¬ (d : Int) < 1 := by omega
        have t3 : ¬ (179 : Int) < (d : Int) := by omega
        obtain ⟨q0, q1⟩ := cv2 HX.out
        clear hc0 hx0 hxl h2 h3
        generalize hdl : d - 1 = dl at *
        have HDL := Lib.hid hdl
        clear hdl
        rw [HWA.out] at ks q0 q1 hcl c0
        by_cases h4 : x0 = 0
        · have t4 : (x0 != 0) = false := by rw [h4]; rfl
          have H4 := Lib.hid h4
          clear h4
          by_cases h5 : Asc R
          · rw [decide_eq_true h5] at ks
            have H5 := Lib.hid h5
            clear h5
            by_cases h6 : 65535 < xl
            · have hz := HNO.out (fun h => by have := h.2.2.2.2.2.1; rw [← HN.out, HDL.out, ← HXL.out] at this; omega)
              subst hz
              go_enter Try.func26, Try.ntmps26
              go_wp2_with (first | (go_at_call 34; (with_reducible refine ks.mono ?_); rintro e w1 ⟨rfl, hb⟩; have B1 := Lib.hid (below_call HB.out (by rw [HWA.out]; exact hb)); obtain ⟨q0, q1⟩ := cv2 (HX.out.below (by rw [HWA.out]; exact hb)); have hcl := (HR.out.call (by rw [HWA.out]; exact hb)).of (show dl < R.length by have := HN.out; have := HDL.out; have := H23.out; omega); rw [← HXL.out] at hcl; clear hb))
              go_ret
              exact ⟨rfl, B1.out⟩
            · have H6 := Lib.hid h6
              go_enter Try.func26, Try.ntmps26
              go_wp2_with (first | (go_at_call 34; (with_reducible refine ks.mono ?_); rintro e w1 ⟨rfl, hb⟩; have B1 := Lib.hid (below_call HB.out (by rw [HWA.out]; exact hb)); have X1 := Lib.hid (HX.out.below (by rw [HWA.out]; exact hb)); have D1 := Lib.hid (HD.out.call (by rw [HWA.out]; exact hb)); obtain ⟨q0, q1⟩ := cv2 X1.out; have hcl := (HR.out.call (by rw [HWA.out]; exact hb)).of (show dl < R.length by have := HN.out; have := HDL.out; have := H23.out; omega); rw [← HXL.out] at hcl; clear hb))
              clear q0 q1 hcl c0 ks t0 t2 t3 t4 h6 b1 b2 b3 e1
              go_loopw [42] (fun i wr => ∃ k : Nat, k ≤ d ∧ i = .int .i64 (k : Int) ∧ wr = w1 ∧ Hid (∀ j, j < k → okD (D.getD j 0))) (fun i _ => d - (intOf i).toNat)
              case atStart => exact ⟨0, Nat.zero_le _, rfl, rfl, fun j hj => by omega⟩
              case round =>
                obtain ⟨k, hk, rfl, rfl, hA⟩ := hrel
                obtain ⟨q0, q1⟩ := cv2 X1.out
                by_cases hlt : k < d
                · obtain ⟨b2, off2, rfl, hc⟩ := D1.out.at (show k < D.length by have := HDN.out; omega)
                  have kd := isdist_c (D.getD k 0)
                  have HLT := Lib.hid hlt
                  have wk : IntKind.i64.wrap ((k : Int) + 1) = ((k + 1 : Nat) : Int) := by have := H23.out; rw [IntWalk.i64_left]; unfold wrap64; omega
                  by_cases hok : okD (D.getD k 0)
                  · have HOK := Lib.hid hok
                    rw [decide_eq_true hok] at kd
                    clear hok
                    generalize hy : D.getD k 0 = y at *
                    have HY := Lib.hid hy
                    clear hy
                    go_wp2_with (first | (go_at_call 35; (with_reducible refine (kd _).mono ?_); rintro e wn ⟨rfl, rfl⟩))
                    go_roundw
                    case rel => exact ⟨k + 1, HLT.out, by go_num, (by first | trivial | rfl), fun j hj => by
                      rcases Nat.lt_or_ge j k with h | h
                      · exact hA.out j h
                      · obtain rfl : j = k := by omega
                        rw [HY.out]; exact HOK.out⟩
                    case measure => have := HLT.out; simp [intOf]; omega
                  · have hz := HNO.out (fun h => hok (h.d (show k < D.length by have := HDN.out; omega)))
                    rw [decide_eq_false hok] at kd
                    clear hok HNO HYES HZ
                    subst hz
                    generalize hy : D.getD k 0 = y at *
                    go_wp2_with (first | (go_at_call 35; (with_reducible refine (kd _).mono ?_); rintro e wn ⟨rfl, rfl⟩))
                    go_ret
                    exact ⟨rfl, B1.out⟩
                · obtain rfl : k = d := by omega
                  have hz := HYES.out ⟨by rw [← HN.out, ← HDN.out], by rw [← HN.out]; exact H23.out.1, by rw [← HN.out]; exact H23.out.2, by rw [← HX0.out]; exact H4.out, H5.out, by rw [← HN.out, HDL.out, ← HXL.out]; have := H6.out; omega, fun i hi => hA.out i (by rw [HDN.out]; exact hi)⟩
                  subst hz
                  go_wp2_with fail
                  go_ret
                  exact ⟨rfl, B1.out⟩
          · have hz := HNO.out (fun h => h5 h.2.2.2.2.1)
            rw [decide_eq_false h5] at ks
            subst hz
            clear h5
            go_enter Try.func26, Try.ntmps26
            go_wp2_with (first | (go_at_call 34; (with_reducible refine ks.mono ?_); rintro e w1 ⟨rfl, hb⟩; have B1 := Lib.hid (below_call HB.out (by rw [HWA.out]; exact hb)); clear hb))
            go_ret
            exact ⟨rfl, B1.out⟩
        · have hz := HNO.out (fun h => h4 (by rw [HX0.out]; exact h.2.2.2.1))
          have t4 : (x0 != 0) = true := by simpa using h4
          subst hz
          clear h4
          go_enter Try.func26, Try.ntmps26
          go_wp2_with fail
          go_ret
          exact ⟨rfl, by rw [← HWA.out]; exact HB.out⟩
  · have hz := HNO.out (fun h => h1 (by rw [HDN.out, HN.out]; exact h.1))
    have t1 : ((d : Int) != (n : Int)) = true := by simp; omega
    subst hz
    clear h1
    go_enter Try.func26, Try.ntmps26
    go_wp2_with fail
    go_ret
    exact ⟨rfl, by rw [← HWA.out]; exact HB.out⟩
/-- What the reference's loop has seen. -/
def SeenV (R D : List Int) (k : Nat) : Prop := ∀ i, i < k → (0 ≤ R.getD i 0 ∧ R.getD i 0 ≤ 65535) ∧ (0 ≤ D.getD i 0 ∧ D.getD i 0 ≤ 70368744177664) ∧ (0 < i → R.getD (i - 1) 0 ≤ R.getD i 0)
set_option maxHeartbeats 4000000 in
theorem zvalid_c (R D : List Int) (n d mr md : Nat) (sr sd : Option Addr) (W : World) (hR : HoldsI W sr R) (hD : HoldsI W sd D) (hn : n = R.length) (hd : d = D.length) :
    Calls Try.prog 14 #[.agg #[.slice sr n mr, .slice sd d md]] W fun e w' => e = .returned (.bool (decide (VP R D))) ∧ Below W.heap.size W w' := by
  obtain ⟨z, hz⟩ : ∃ z, z = decide (VP R D) := ⟨_, rfl⟩
  rw [← hz]
  obtain ⟨WA, hWA⟩ : ∃ x, x = W.alloc (.cells #[.slice sr n mr, .slice sd d md] 37) := ⟨_, rfl⟩
  have hB : Below W.heap.size W WA := by rw [hWA]; exact below_alloc (Below.refl _ W) _
  have hX : Blk WA W.heap.size 37 #[.slice sr n mr, .slice sd d md] := by rw [hWA]; exact Blk.new W _ _
  have HB := Lib.hid hB
  have HX := Lib.hid hX
  have HR := Lib.hid (hR.below hB (Nat.le_refl _))
  have HD := Lib.hid (hD.below hB (Nat.le_refl _))
  have HWA := Lib.hid hWA
  have HZ := Lib.hid hz
  have HN := Lib.hid hn
  have HDN := Lib.hid hd
  have hno : (¬ VP R D) → z = false := fun h => by rw [HZ.out, decide_eq_false h]
  have hyes : VP R D → z = true := fun h => by rw [HZ.out, decide_eq_true h]
  have HNO := Lib.hid hno
  have HYES := Lib.hid hyes
  clear hz hB hX hR hD hn hd hWA hno hyes
  by_cases h2 : n < 1
  · have hz := HNO.out (fun h => by have := h.2.1; have := HN.out; omega)
    subst hz
    have t2 : (n : Int) < 1 := by omega
    go_enter Try.func14, Try.ntmps14
    go_wp2_with fail
    go_ret
    exact ⟨rfl, by rw [← HWA.out]; exact HB.out⟩
  · by_cases h3 : 179 < n
    · have hz := HNO.out (fun h => by have := h.2.2.1; have := HN.out; omega)
      subst hz
      have t2 : ¬ (n : Int) < 1 := by omega
      have t3 : (179 : Int) < (n : Int) := by omega
      go_enter Try.func14, Try.ntmps14
      go_wp2_with fail
      go_ret
      exact ⟨rfl, by rw [← HWA.out]; exact HB.out⟩
    · have t2 : ¬ (n : Int) < 1 := by omega
      have t3 : ¬ (179 : Int) < (n : Int) := by omega
      by_cases h1 : d = n
      · obtain rfl := h1
        have t1 : ((d : Int) != (d : Int)) = false := by simp
        obtain ⟨b, off, hsr, hc0⟩ := HR.out.at (show 0 < R.length by have := HN.out; omega)
        subst hsr
        have c0 : WA.cell? ⟨b, off, none⟩ = some (.int .i64 (R.getD 0 0)) := hc0
        obtain ⟨x0, hx0⟩ : ∃ x, x = R.getD 0 0 := ⟨_, rfl⟩
        rw [← hx0] at c0
        have HX0 := Lib.hid hx0
        have H23 := Lib.hid (show 1 ≤ d ∧ d ≤ 179 by omega)
        have b3 : (0 : Int) < (d : Int) := by omega
        obtain ⟨q0, q1⟩ := cv2 HX.out
        clear hc0 hx0 h2 h3
        rw [HWA.out] at q0 q1 c0
        by_cases h4 : x0 = 0
        · have t4 : (x0 != 0) = false := by rw [h4]; rfl
          have H4 := Lib.hid h4
          clear h4
          go_enter Try.func14, Try.ntmps14
          go_wp2_with fail
          clear q0 q1 c0 t1 t2 t3 t4 b3
          rw [← HWA.out]
          go_loopw [4] (fun i wr => ∃ k : Nat, k ≤ d ∧ i = .int .i64 (k : Int) ∧ Hid (Below WA.heap.size WA wr) ∧ Hid (SeenV R D k)) (fun i _ => d - (intOf i).toNat)
          case atStart => exact ⟨0, Nat.zero_le _, rfl, Below.refl _ _, fun j hj => by omega⟩
          case round =>
            obtain ⟨k, hk, rfl, hW, hA⟩ := hrel
            obtain ⟨q0, q1⟩ := cv2 (HX.out.below hW.out)
            by_cases hlt : k < d
            · have hc := (HR.out.call hW.out).of (show k < R.length by have := HN.out; omega)
              obtain ⟨b2, off2, rfl, hc2⟩ := (HD.out.call hW.out).at (show k < D.length by have := HDN.out; omega)
              have HLT := Lib.hid hlt
              have wk : IntKind.i64.wrap ((k : Int) + 1) = ((k + 1 : Nat) : Int) := by have := H23.out; rw [IntWalk.i64_left]; unfold wrap64; omega
              by_cases g1 : R.getD k 0 < 0
              · have hz := HNO.out (fun h => by have := (h.r (show k < D.length by have := HDN.out; omega)).1; omega)
                clear HNO HYES HZ
                subst hz
                generalize R.getD k 0 = x at *
                generalize D.getD k 0 = y at *
                go_wp2_with fail
                go_ret
                exact ⟨rfl, below_call HB.out hW.out⟩
              · by_cases g2 : 65535 < R.getD k 0
                · have hz := HNO.out (fun h => by have := (h.r (show k < D.length by have := HDN.out; omega)).2; omega)
                  clear HNO HYES HZ
                  subst hz
                  generalize R.getD k 0 = x at *
                  generalize D.getD k 0 = y at *
                  go_wp2_with fail
                  go_ret
                  exact ⟨rfl, below_call HB.out hW.out⟩
                · by_cases g3 : D.getD k 0 < 0
                  · have hz := HNO.out (fun h => by have := (h.d (show k < D.length by have := HDN.out; omega)).1; omega)
                    clear HNO HYES HZ
                    subst hz
                    generalize R.getD k 0 = x at *
                    generalize D.getD k 0 = y at *
                    go_wp2_with fail
                    go_ret
                    exact ⟨rfl, below_call HB.out hW.out⟩
                  · by_cases g4 : 70368744177664 < D.getD k 0
                    · have hz := HNO.out (fun h => by have := (h.d (show k < D.length by have := HDN.out; omega)).2; omega)
                      clear HNO HYES HZ
                      subst hz
                      generalize R.getD k 0 = x at *
                      generalize D.getD k 0 = y at *
                      go_wp2_with fail
                      go_ret
                      exact ⟨rfl, below_call HB.out hW.out⟩
                    · have G := Lib.hid (show (0 ≤ R.getD k 0 ∧ R.getD k 0 ≤ 65535) ∧ (0 ≤ D.getD k 0 ∧ D.getD k 0 ≤ 70368744177664) by omega)
                      by_cases hk0 : k = 0
                      · have tk : decide ((0 : Int) < (k : Int)) = false := by simp; omega
                        have tk2 : decide (0 < k) = false := by simp; omega
                        have HK0 := Lib.hid hk0
                        generalize hx : R.getD k 0 = x at *
                        generalize hy : D.getD k 0 = y at *
                        have HX9 := Lib.hid hx
                        have HY9 := Lib.hid hy
                        clear hk0 hx hy
                        go_wp2_with fail
                        go_quiet (fail)
                        go_wp2_with fail
                        go_roundw
                        case rel => exact ⟨k + 1, HLT.out, by go_num, below_call hW.out (drewN_below _ _), fun j hj => by
                          obtain rfl : j = k := by have := HK0.out; omega
                          rw [HX9.out, HY9.out]
                          exact ⟨G.out.1, G.out.2, fun h0 => by have := HK0.out; omega⟩⟩
                        case measure => have := HLT.out; simp [intOf]; omega
                      · have tk : decide ((0 : Int) < (k : Int)) = true := by simp; omega
                        have tk2 : decide (0 < k) = true := by simp; omega
                        have HK0 := Lib.hid hk0
                        have hcp := (HR.out.call hW.out).of (show k - 1 < R.length by have := HN.out; omega)
                        have wp : IntKind.i64.wrap ((k : Int) - 1) = ((k - 1 : Nat) : Int) := by have := H23.out; rw [IntWalk.i64_left]; unfold wrap64; omega
                        have p1 : (0 : Int) ≤ ((k - 1 : Nat) : Int) := by omega
                        have p2 : ((k - 1 : Nat) : Int) < (d : Int) := by omega
                        have p3 : (0 : Int) ≤ (k : Int) := by omega
                        have p4 : (k : Int) < (d : Int) := by omega
                        by_cases g5 : R.getD k 0 < R.getD (k - 1) 0
                        · have hz := HNO.out (fun h => by have := h.mono (show k - 1 ≤ k by omega) (show k < D.length by have := HDN.out; omega); omega)
                          clear HNO HYES HZ
                          subst hz
                          generalize R.getD k 0 = x at *
                          generalize D.getD k 0 = y at *
                          generalize R.getD (k - 1) 0 = xp at *
                          generalize k - 1 = kp at *
                          go_wp2_with fail
                          go_quiet (fail)
                          go_wp2_with fail
                          go_ret
                          exact ⟨rfl, below_call HB.out (below_call hW.out (drewN_below _ _))⟩
                        · have G5 := Lib.hid (show R.getD (k - 1) 0 ≤ R.getD k 0 by omega)
                          generalize hx : R.getD k 0 = x at *
                          generalize hy : D.getD k 0 = y at *
                          generalize hxp : R.getD (k - 1) 0 = xp at *
                          have HX9 := Lib.hid hx
                          have HY9 := Lib.hid hy
                          have HXP := Lib.hid hxp
                          clear hx hy hxp
                          generalize hkp : k - 1 = kp at *
                          have HKP := Lib.hid hkp
                          clear hkp hk0
                          go_wp2_with fail
                          go_quiet (fail)
                          go_wp2_with fail
                          go_roundw
                          case rel => exact ⟨k + 1, HLT.out, by go_num, below_call hW.out (drewN_below _ _), fun j hj => by
                            rcases Nat.lt_or_ge j k with h | h
                            · exact hA.out j h
                            · obtain rfl : j = k := by omega
                              rw [HX9.out, HY9.out, HKP.out, HXP.out]
                              exact ⟨G.out.1, G.out.2, fun _ => G5.out⟩⟩
                          case measure => have := HLT.out; simp [intOf]; omega
            · obtain rfl : k = d := by omega
              have hs := hA.out
              have hz := HYES.out ⟨by rw [← HN.out, ← HDN.out], by rw [← HN.out]; exact H23.out.1, by rw [← HN.out]; exact H23.out.2, by rw [← HX0.out]; exact H4.out, fun i hi => by
                have := (hs (i + 1) (by have := HN.out; omega)).2.2 (by omega)
                simpa using this, (hs (R.length - 1) (by have := HN.out; have := H23.out; omega)).1.2, fun i hi => (hs i (by have := HDN.out; omega)).2.1⟩
              clear hs hA
              subst hz
              go_wp2_with fail
              go_ret
              exact ⟨rfl, below_call HB.out hW.out⟩
        · have hz := HNO.out (fun h => h4 (by rw [HX0.out]; exact h.2.2.2.1))
          have t4 : (x0 != 0) = true := by simpa using h4
          subst hz
          clear h4
          go_enter Try.func14, Try.ntmps14
          go_wp2_with fail
          go_ret
          exact ⟨rfl, by rw [← HWA.out]; exact HB.out⟩
      · have hz := HNO.out (fun h => h1 (by rw [HDN.out, HN.out]; exact h.1))
        have t1 : ((d : Int) != (n : Int)) = true := by simp; omega
        obtain ⟨q0, q1⟩ := cv2 HX.out
        rw [HWA.out] at q0 q1
        subst hz
        clear h1
        go_enter Try.func14, Try.ntmps14
        go_wp2_with fail
        go_ret
        exact ⟨rfl, by rw [← HWA.out]; exact HB.out⟩
end Go.Proofs.Ytkohdiajpdlkjaa
