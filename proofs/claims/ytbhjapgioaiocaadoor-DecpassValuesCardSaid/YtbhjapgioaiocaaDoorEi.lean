/-
  Layer 15: the refinement pass.
-/
import Derived.Test.YtbhjapgioaiocaaDoorEh
set_option maxRecDepth 100000
namespace Go.Proofs.YtbhjapgioaiocaaDoor
open Go.RowKit

set_option maxHeartbeats 8000000 in
theorem refp_c {W0 W : World} {a : Adr} {p : Pp} {e : Es} (H : Ec W0 W a p e) (hl : e.2.length ≤ 900000) : Calls Tryd.prog 55 #[.pointer (some ⟨a.P, 0, none⟩)] W (EG W0 W a p ((scan p.w p.h).foldl (refS p) e)) := by
  obtain ⟨hw, hh⟩ := H.len
  obtain ⟨c0, -, -, -, -, -⟩ := ec_cells H.pc
  have ks := size_c H.cb
  have kc := fun W => scan_yes p.w p.h H.cb.fit W
  have HSL := Lib.hid (scan_l p.w p.h hw hh)
  have HIN := Lib.hid (fun z (hz : z ∈ scan p.w p.h) => scan_in hz)
  have HL := Lib.hid hl
  have HH := Lib.hid H
  generalize scan p.w p.h = L at *
  clear H hw hh hl
  go_enter Tryd.func55, Tryd.ntmps55
  go_wp2_with (first | (go_at_call 77; (with_reducible refine ks.mono ?_); rintro e wa ⟨rfl, hBa⟩) | (go_at_call 87; (with_reducible refine (kc _).mono ?_); rintro e w1 ⟨s1, m1, rfl, hP, hB⟩; have HP := Lib.hid hP; have HB := Lib.hid (below_call hBa hB); clear hP hB))
  clear ks kc c0
  go_loopw [13] (fun i wr => ∃ k : Nat, k ≤ L.length ∧ i = .int .i64 (k : Int) ∧ Hid (Ec W0 wr a p ((L.take k).foldl (refS p) e)) ∧ Hid (HoldsP wr s1 L) ∧ Hid (Kt W wr)) (fun i _ => (L.length - (intOf i).toNat))
  case atStart => exact ⟨0, by omega, rfl, HH.out.below HB.out, HP.out, kt_below HB.out⟩
  case round =>
    obtain ⟨k, hk, rfl, hE, hH, hK⟩ := hrel
    by_cases hlt : k < L.length
    · obtain ⟨b, rfl, p0, p1⟩ := hH.out.at hlt
      have hz := HIN.out _ (List.getElem_mem hlt)
      have hnext := foldl_take (refS p) e L k hlt
      obtain ⟨e1, he1⟩ : ∃ e1, e1 = (L.take k).foldl (refS p) e := ⟨_, rfl⟩
      have hlen : e1.2.length ≤ 999990 := by
        have h1 := foldl_len (refS p) 2 (refS_len p) (L.take k) e
        rw [← he1, List.length_take] at h1
        have := HL.out
        have := HSL.out
        omega
      rw [← he1] at hE hnext
      obtain ⟨z, hz0⟩ : ∃ z, z = L[k] := ⟨_, rfl⟩
      rw [← hz0] at hz hnext p0 p1
      obtain ⟨x, y⟩ := z
      simp only at p0 p1 hz hnext
      have wk : IntKind.i64.wrap ((k : Int) + 1) = ((k + 1 : Nat) : Int) := by have := HSL.out; rw [IntWalk.i64_left]; unfold wrap64; omega
      have HLT := Lib.hid hlt
      clear hz0 he1
      go_wp2_with fail
      have R1 := Lib.hid (Rd.begin x y hE.out hH.out hK.out)
      clear p0 p1
      obtain ⟨c0, b0, b1, c5⟩ := R1.out.cell
      generalize wr.alloc (.cells #[.int .i64 x, .int .i64 y] 113) = W1 at *
      generalize wr.heap.size = g at *
      obtain ⟨s, hs⟩ : ∃ s, s = e1.1.s x y := ⟨_, rfl⟩
      obtain ⟨t, ht⟩ : ∃ t, t = e1.1.t x y := ⟨_, rfl⟩
      have hstep : refS p e1 (x, y) = if (s && !t) = true then touchS p (refnS p (putS p e1 (refC p e1.1 x y) (bitM (e1.1.v x y) p.s)) x y) x y true else e1 := by rw [hs, ht]; rfl
      rw [hstep] at hnext
      have HNX := Lib.hid hnext
      have kg : ∀ n, Calls Tryd.prog 64 #[.pointer (some ⟨a.A, 0, none⟩), .int .i64 x, .int .i64 y] (W1.drewN n) fun e w' => e = .returned (.bool s) ∧ w' = W1.drewN n := fun n => by rw [hs]; exact (significant_c (R1.out.dn n).ec.cb x y).mono fun _ _ z => ⟨z.1, z.2.symm⟩
      have kt : ∀ n, Calls Tryd.prog 66 #[.pointer (some ⟨a.A, 0, none⟩), .int .i64 x, .int .i64 y] (W1.drewN n) fun e w' => e = .returned (.bool t) ∧ w' = W1.drewN n := fun n => by rw [ht]; exact (touched_c (R1.out.dn n).ec.cb x y).mono fun _ _ z => ⟨z.1, z.2.symm⟩
      clear hs ht hstep hnext hE hH hK
      cases s with
      | false =>
        go_quiet ((go_at_call 64; exact Calls.quiet_of_same (kg _)))
        have R2 := Lib.hid (R1.out.dn nq)
        generalize W1.drewN nq = W2 at *
        go_wp2_with fail
        go_roundw
        case rel =>
          refine ⟨k + 1, HLT.out, by go_num, ?_, R2.out.hp, R2.out.kt⟩
          rw [HNX.out]; rw [if_neg (by simp)]
          exact R2.out.ec
        case measure => have := HLT.out; simp [intOf]; omega
      | true =>
        cases t with
        | true =>
          go_quiet ((first | (go_at_call 64; exact Calls.quiet_of_same (kg _)) | (go_at_call 66; exact Calls.quiet_of_same (kt _))))
          have R2 := Lib.hid (R1.out.dn nq)
          generalize W1.drewN nq = W2 at *
          go_wp2_with fail
          go_roundw
          case rel =>
            refine ⟨k + 1, HLT.out, by go_num, ?_, R2.out.hp, R2.out.kt⟩
            rw [HNX.out]; rw [if_neg (by decide)]
            exact R2.out.ec
          case measure => have := HLT.out; simp [intOf]; omega
        | false =>
          go_quiet ((first | (go_at_call 64; exact Calls.quiet_of_same (kg _)) | (go_at_call 66; exact Calls.quiet_of_same (kt _))))
          have R2 := Lib.hid (R1.out.dn nq)
          clear c0 b0 b1 c5 R1 kg kt
          generalize W1.drewN nq = W2 at *
          go_wp2_with fail
          have R4 := Lib.hid R2.out.drew
          obtain ⟨d0, b0, b1, d5⟩ := R4.out.cell
          obtain ⟨r, hr⟩ : ∃ t, t = e1.1.r x y := ⟨_, rfl⟩
          obtain ⟨nr, hnr⟩ : ∃ t, t = nearQ p e1.1 x y := ⟨_, rfl⟩
          obtain ⟨bt, hbt⟩ : ∃ t, t = bitM (e1.1.v x y) p.s := ⟨_, rfl⟩
          have eC : refC p e1.1 x y = Cx.refM (!r) nr := by unfold refC; rw [hr, hnr]
          rw [eC, ← hbt] at HNX
          have kr := refined_c R4.out.ec.cb x y
          have kn := near_c R4.out.ec.cb R4.out.ec.pc x y hz
          have kx := fun W => Cx.ref_c (!r) nr W
          have kb : ∀ W, Ec W0 W a p e1 → Calls Tryd.prog 91 #[.pointer (some ⟨a.P, 0, none⟩), .int .i64 x, .int .i64 y] W fun e w' => e = .returned (.int .i64 bt) ∧ W = w' := fun W K => by rw [hbt]; exact (bit_c K.cb K.pc K.hs x y (K.ok x y)).mono fun _ _ z => ⟨z.1, z.2.symm⟩
          have kp := fun W (K : Ec W0 W a p e1) => put_c K (Cx.refM (!r) nr) bt (by omega)
          rw [← hr] at kr
          rw [← hnr] at kn
          clear hr hnr hbt eC hz hlen
          generalize Cx.refM (!r) nr = C at *
          have kf := fun W (K : Ec W0 W a p (putS p e1 C bt)) => refine_ce K x y
          have kh := fun W (K : Ec W0 W a p (refnS p (putS p e1 C bt) x y)) => touch_ce K x y true
          generalize touchS p (refnS p (putS p e1 C bt) x y) x y true = e4 at *
          generalize refnS p (putS p e1 C bt) x y = e3 at *
          generalize putS p e1 C bt = e2 at *
          have h5 : W2.drew.cell? ⟨a.P, 5, none⟩ = some (.func (.func 53) #[] #[.pointer (some ⟨a.G, 0, none⟩), .pointer (some ⟨a.L, 0, none⟩)]) := d5
          go_region_held3 (fun w' => w'.cell? ⟨a.P, 0, none⟩ = some (.pointer (some ⟨a.A, 0, none⟩)) ∧ w'.cell? ⟨g, 0, none⟩ = some (.int .i64 x) ∧ w'.cell? ⟨g, 1, none⟩ = some (.int .i64 y) ∧ w'.cell? ⟨a.P, 5, none⟩ = some (.func (.func 53) #[] #[.pointer (some ⟨a.G, 0, none⟩), .pointer (some ⟨a.L, 0, none⟩)]))
            (first | (with_reducible exact ⟨d0, b0, b1, d5⟩) | (with_reducible exact ⟨f0, f1, f2, f5⟩) | (with_reducible exact ⟨j0, j1, j2, j5⟩) | fail)
            (first | (go_simp; go_at_call 68; (with_reducible refine kr.mono ?_); rintro e wn ⟨rfl, rfl⟩) | (go_simp; go_at_call 88; (with_reducible refine kn.mono ?_); rintro e w5 ⟨rfl, m5, hm5⟩; have R5 := Lib.hid (show Rd W0 W w5 a p e1 (some ⟨b, 0, none⟩) L g x y by rw [hm5]; exact R4.out.dn m5); clear hm5; obtain ⟨f0, f1, f2, f5⟩ := R5.out.cell; have kb5 := kb _ R5.out.ec; have kp5 := kp _ R5.out.ec) | (go_simp; go_at_call 90; (with_reducible refine (kx _).mono ?_); rintro e wn ⟨rfl, rfl⟩) | (go_simp; go_at_call 91; (with_reducible refine kb5.mono ?_); rintro e wn ⟨rfl, rfl⟩) | (go_simp; go_at_call 53; (with_reducible refine kp5.mono ?_); rintro e w6 ⟨rfl, H6, K6⟩; have R6 := Lib.hid (R5.out.step H6 K6); clear H6 K6; obtain ⟨j0, j1, j2, j5⟩ := R6.out.cell) | fail)
          all_goals
            go_wp2_with fail
            clear d0 b0 b1 d5 h5 f0 f1 f2 f5 j0 j1 j2 j5
            have R7 := Lib.hid R6.out.drew
            obtain ⟨d0, b0, b1, -⟩ := R7.out.cell
            have kf7 := kf _ R7.out.ec
            go_region_held3 (fun w' => w'.cell? ⟨a.P, 0, none⟩ = some (.pointer (some ⟨a.A, 0, none⟩)) ∧ w'.cell? ⟨g, 0, none⟩ = some (.int .i64 x) ∧ w'.cell? ⟨g, 1, none⟩ = some (.int .i64 y))
              (first | (with_reducible exact ⟨d0, b0, b1⟩) | (with_reducible exact ⟨f0, f1, f2⟩) | fail)
              (first | (go_simp; go_at_call 48; (with_reducible refine kf7.mono ?_); rintro e w8 ⟨rfl, H8, K8⟩; have R8 := Lib.hid (R7.out.step H8 K8); clear H8 K8; obtain ⟨f0, f1, f2, -⟩ := R8.out.cell) | fail)
          all_goals
            go_wp2_with fail
            clear d0 b0 b1 f0 f1 f2
            have R9 := Lib.hid R8.out.drew
            obtain ⟨d0, b0, b1, -⟩ := R9.out.cell
            have kh9 := kh _ R9.out.ec
            go_region_held3 (fun w' => w'.cell? ⟨a.P, 0, none⟩ = some (.pointer (some ⟨a.A, 0, none⟩)) ∧ w'.cell? ⟨g, 0, none⟩ = some (.int .i64 x) ∧ w'.cell? ⟨g, 1, none⟩ = some (.int .i64 y))
              (first | (with_reducible exact ⟨d0, b0, b1⟩) | (with_reducible exact ⟨f0, f1, f2⟩) | fail)
              (first | (go_simp; go_at_call 46; (with_reducible refine kh9.mono ?_); rintro e w10 ⟨rfl, H10, K10⟩; have R10 := Lib.hid (R9.out.step H10 K10); clear H10 K10; obtain ⟨f0, f1, f2, -⟩ := R10.out.cell) | fail)
          all_goals
            go_wp2_with fail
            go_roundw
            case rel =>
              refine ⟨k + 1, HLT.out, by go_num, ?_, R10.out.hp, R10.out.kt⟩
              rw [HNX.out]; rw [if_pos (by decide)]
              exact R10.out.ec
            case measure => have := HLT.out; simp [intOf]; omega
    · have hkl : k = L.length := by omega
      subst hkl
      rw [List.take_length] at hE
      go_wp2_with fail
      go_end0
      exact ⟨rfl, hE.out, hK.out⟩
end Go.Proofs.YtbhjapgioaiocaaDoor
