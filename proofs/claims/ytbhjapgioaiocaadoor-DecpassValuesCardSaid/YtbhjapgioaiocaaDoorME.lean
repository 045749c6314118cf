/-
  Layer 16: the refinement pass.
  Layer 16: the cleanup pass; the check symbols.
-/
import Derived.Test.YtbhjapgioaiocaaDoorMD
import Derived.Test.YtbhjapgioaiocaaDoorEj
set_option maxRecDepth 100000
namespace Go.Proofs.YtbhjapgioaiocaaDoor
open Go.RowKit

section
variable {σ : Type} {O : Ora σ}
set_option maxHeartbeats 8000000 in
theorem drefp_c {W0 W : World} {a : Adr} {p : Pp} {e : St × σ} (H : Dc O W0 W a p e) (hl : O.cnt e.2 ≤ 900000) : Calls Tryd.prog 80 #[.pointer (some ⟨a.P, 0, none⟩)] W (DG O W0 W a p ((scan p.w p.h).foldl (drefS p O.A) e)) := by
  obtain ⟨hw, hh⟩ := H.len
  obtain ⟨c0, -, -, -, -, -⟩ := dc_cells H.pc
  have ks := size_c H.cb
  have kc := fun W => scan_yes p.w p.h H.cb.fit W
  have HSL := Lib.hid (scan_l p.w p.h hw hh)
  have HIN := Lib.hid (fun z (hz : z ∈ scan p.w p.h) => scan_in hz)
  have HL := Lib.hid hl
  have HH := Lib.hid H
  generalize scan p.w p.h = L at *
  clear H hw hh hl
  go_enter Tryd.func80, Tryd.ntmps80
  go_wp2_with (first | (go_at_call 77; (with_reducible refine ks.mono ?_); rintro e wa ⟨rfl, hBa⟩) | (go_at_call 87; (with_reducible refine (kc _).mono ?_); rintro e w1 ⟨s1, m1, rfl, hP, hB⟩; have HP := Lib.hid hP; have HB := Lib.hid (below_call hBa hB); clear hP hB))
  clear ks kc c0
  go_loopw [13] (fun i wr => ∃ k : Nat, k ≤ L.length ∧ i = .int .i64 (k : Int) ∧ Hid (Dc O W0 wr a p ((L.take k).foldl (drefS p O.A) e)) ∧ Hid (HoldsP wr s1 L) ∧ Hid (Kt W wr)) (fun i _ => (L.length - (intOf i).toNat))
  case atStart => exact ⟨0, by omega, rfl, HH.out.below HB.out, HP.out, kt_below HB.out⟩
  case round =>
    obtain ⟨k, hk, rfl, hE, hH, hK⟩ := hrel
    by_cases hlt : k < L.length
    · obtain ⟨b, rfl, p0, p1⟩ := hH.out.at hlt
      have hz := HIN.out _ (List.getElem_mem hlt)
      have hnext := foldl_take (drefS p O.A) e L k hlt
      obtain ⟨e1, he1⟩ : ∃ e1, e1 = (L.take k).foldl (drefS p O.A) e := ⟨_, rfl⟩
      have hlen : O.cnt e1.2 ≤ 999990 := by
        have h1 := (rch_fold (fun e : St × σ => e.2) (drefS p O.A) 2 (rch_ref (p := p)) (L.take k) e).cnt O.hcnt
        rw [← he1, List.length_take] at h1
        have := HL.out
        have := HSL.out
        omega
      rw [← he1] at hE hnext
      obtain ⟨z, hz0⟩ : ∃ z, z = L[k] := ⟨_, rfl⟩
      rw [← hz0] at hz hnext p0 p1
      obtain ⟨x, y⟩ := z
      simp only at p0 p1 hz hnext
      have wk : IntKind.i64.wrap ((k : Int) + 1) = ((k + 1 : Nat) : Int) := by have := HSL.out; rw [IntWalk.i64_left]; unfold wrap64; omega
      have HLT := Lib.hid hlt
      clear hz0 he1
      go_wp2_with fail
      have R1 := Lib.hid (Rx.begin x y hE.out hH.out hK.out)
      clear p0 p1
      obtain ⟨c0, b0, b1, c5⟩ := R1.out.cell
      generalize wr.alloc (.cells #[.int .i64 x, .int .i64 y] 113) = W1 at *
      generalize wr.heap.size = g at *
      obtain ⟨s, hs⟩ : ∃ s, s = e1.1.s x y := ⟨_, rfl⟩
      obtain ⟨t, ht⟩ : ∃ t, t = e1.1.t x y := ⟨_, rfl⟩
      have hstep : drefS p O.A e1 (x, y) = if (s && !t) = true then (touchQ p.w p.h (refineQ p.w p.h (if askB p O.A e1 (refC p e1.1 x y) = 1 then dincQ p e1.1 x y else e1.1) x y) x y true, (askE p O.A e1 (refC p e1.1 x y)).2) else e1 := by rw [hs, ht]; rfl
      rw [hstep] at hnext
      have HNX := Lib.hid hnext
      have kg : ∀ n, Calls Tryd.prog 64 #[.pointer (some ⟨a.A, 0, none⟩), .int .i64 x, .int .i64 y] (W1.drewN n) fun e w' => e = .returned (.bool s) ∧ w' = W1.drewN n := fun n => by rw [hs]; exact (significant_c (R1.out.dn n).ec.cb x y).mono fun _ _ z => ⟨z.1, z.2.symm⟩
      have kt : ∀ n, Calls Tryd.prog 66 #[.pointer (some ⟨a.A, 0, none⟩), .int .i64 x, .int .i64 y] (W1.drewN n) fun e w' => e = .returned (.bool t) ∧ w' = W1.drewN n := fun n => by rw [ht]; exact (touched_c (R1.out.dn n).ec.cb x y).mono fun _ _ z => ⟨z.1, z.2.symm⟩
      clear hs ht hstep hnext hE hH hK
      cases s with
      | false =>
        go_quiet ((go_at_call 64; exact Calls.quiet_of_same (kg _)))
        have R2 := Lib.hid (R1.out.dn nq)
        generalize W1.drewN nq = W2 at *
        go_wp2_with fail
        go_roundw
        case rel =>
          refine ⟨k + 1, HLT.out, by go_num, ?_, R2.out.hp, R2.out.kt⟩
          rw [HNX.out]; rw [if_neg (by simp)]
          exact R2.out.ec
        case measure => have := HLT.out; simp [intOf]; omega
      | true =>
        cases t with
        | true =>
          go_quiet ((first | (go_at_call 64; exact Calls.quiet_of_same (kg _)) | (go_at_call 66; exact Calls.quiet_of_same (kt _))))
          have R2 := Lib.hid (R1.out.dn nq)
          generalize W1.drewN nq = W2 at *
          go_wp2_with fail
          go_roundw
          case rel =>
            refine ⟨k + 1, HLT.out, by go_num, ?_, R2.out.hp, R2.out.kt⟩
            rw [HNX.out]; rw [if_neg (by decide)]
            exact R2.out.ec
          case measure => have := HLT.out; simp [intOf]; omega
        | false =>
          go_quiet ((first | (go_at_call 64; exact Calls.quiet_of_same (kg _)) | (go_at_call 66; exact Calls.quiet_of_same (kt _))))
          have R2 := Lib.hid (R1.out.dn nq)
          clear c0 b0 b1 c5 R1 kg kt
          generalize W1.drewN nq = W2 at *
          go_wp2_with fail
          have R4 := Lib.hid R2.out.drew
          obtain ⟨d0, b0, b1, d5⟩ := R4.out.cell
          obtain ⟨r, hr⟩ : ∃ t, t = e1.1.r x y := ⟨_, rfl⟩
          obtain ⟨nr, hnr⟩ : ∃ t, t = nearQ p e1.1 x y := ⟨_, rfl⟩
          have eC : refC p e1.1 x y = Cx.refM (!r) nr := by unfold refC; rw [hr, hnr]
          rw [eC] at HNX
          have kr := refined_c R4.out.ec.cb x y
          have kn := dnear_c R4.out.ec.cb R4.out.ec.pc x y hz
          have kx := fun W => Cx.ref_c (!r) nr W
          have kp := fun W (K : Dc O W0 W a p e1) => dask_c K (Cx.refM (!r) nr) (by omega)
          rw [← hr] at kr
          rw [← hnr] at kn
          obtain ⟨bt, hbt⟩ : ∃ t, t = askB p O.A e1 (Cx.refM (!r) nr) := ⟨_, rfl⟩
          have hb01 : bt = 0 ∨ bt = 1 := by rw [hbt]; exact askB_in _ _ _ _
          rw [← hbt] at kp HNX
          have q2 : (askE p O.A e1 (Cx.refM (!r) nr)).1 = e1.1 := rfl
          obtain ⟨e2, he2⟩ : ∃ t, t = askE p O.A e1 (Cx.refM (!r) nr) := ⟨_, rfl⟩
          rw [← he2] at kp q2 HNX
          clear hr hnr hbt eC hz hlen he2
          generalize Cx.refM (!r) nr = C at *
          have ki := fun W (K : Dc O W0 W a p e2) => dinc_c K x y
          rw [q2] at ki
          have h5 : W2.drew.cell? ⟨a.P, 5, none⟩ = some (.func (.func 78) #[] #[.pointer (some ⟨a.G, 0, none⟩), .pointer (some ⟨a.L, 0, none⟩)]) := d5
          rcases hb01 with rfl | rfl
          · clear ki
            go_region_held3 (fun w' => w'.cell? ⟨a.P, 0, none⟩ = some (.pointer (some ⟨a.A, 0, none⟩)) ∧ w'.cell? ⟨g, 0, none⟩ = some (.int .i64 x) ∧ w'.cell? ⟨g, 1, none⟩ = some (.int .i64 y) ∧ w'.cell? ⟨a.P, 5, none⟩ = some (.func (.func 78) #[] #[.pointer (some ⟨a.G, 0, none⟩), .pointer (some ⟨a.L, 0, none⟩)]))
              (first | (with_reducible exact ⟨d0, b0, b1, d5⟩) | (with_reducible exact ⟨f0, f1, f2, f5⟩) | (with_reducible exact ⟨j0, j1, j2, j5⟩) | fail)
              (first | (go_simp; go_at_call 68; (with_reducible refine kr.mono ?_); rintro e wn ⟨rfl, rfl⟩) | (go_simp; go_at_call 106; (with_reducible refine kn.mono ?_); rintro e w5 ⟨rfl, m5, hm5⟩; have R5 := Lib.hid (show Rx O W0 W w5 a p e1 (some ⟨b, 0, none⟩) L g x y by rw [hm5]; exact R4.out.dn m5); clear hm5; obtain ⟨f0, f1, f2, f5⟩ := R5.out.cell; have kp5 := kp _ R5.out.ec) | (go_simp; go_at_call 90; (with_reducible refine (kx _).mono ?_); rintro e wn ⟨rfl, rfl⟩) | (go_simp; go_at_call 78; (with_reducible refine kp5.mono ?_); rintro e w6 ⟨rfl, H6, K6⟩; have R6 := Lib.hid (R5.out.step H6 K6); clear H6 K6; obtain ⟨j0, j1, j2, j5⟩ := R6.out.cell) | fail)
            all_goals
              go_wp2_with fail
              have R6b := Lib.hid (show Rx O W0 W w6 a p (e1.1, e2.2) (some ⟨b, 0, none⟩) L g x y by have := R6.out; rw [show e2 = (e1.1, e2.2) from Prod.ext q2 rfl] at this; exact this)
              clear d0 b0 b1 d5 h5 f0 f1 f2 f5 j0 j1 j2 j5
              have R7 := Lib.hid R6b.out.drew
              obtain ⟨d0, b0, b1, -⟩ := R7.out.cell
              have kf7 := drefine_ce R7.out.ec x y
              go_region_held3 (fun w' => w'.cell? ⟨a.P, 0, none⟩ = some (.pointer (some ⟨a.A, 0, none⟩)) ∧ w'.cell? ⟨g, 0, none⟩ = some (.int .i64 x) ∧ w'.cell? ⟨g, 1, none⟩ = some (.int .i64 y))
                (first | (with_reducible exact ⟨d0, b0, b1⟩) | (with_reducible exact ⟨f0, f1, f2⟩) | fail)
                (first | (go_simp; go_at_call 48; (with_reducible refine kf7.mono ?_); rintro e w8 ⟨rfl, H8, K8⟩; have R8 := Lib.hid (R7.out.step H8 K8); clear H8 K8; obtain ⟨f0, f1, f2, -⟩ := R8.out.cell) | fail)
            all_goals
              go_wp2_with fail
              clear d0 b0 b1 f0 f1 f2
              have R9 := Lib.hid R8.out.drew
              obtain ⟨d0, b0, b1, -⟩ := R9.out.cell
              have kh9 := dtouch_ce R9.out.ec x y true
              go_region_held3 (fun w' => w'.cell? ⟨a.P, 0, none⟩ = some (.pointer (some ⟨a.A, 0, none⟩)) ∧ w'.cell? ⟨g, 0, none⟩ = some (.int .i64 x) ∧ w'.cell? ⟨g, 1, none⟩ = some (.int .i64 y))
                (first | (with_reducible exact ⟨d0, b0, b1⟩) | (with_reducible exact ⟨f0, f1, f2⟩) | fail)
                (first | (go_simp; go_at_call 46; (with_reducible refine kh9.mono ?_); rintro e w10 ⟨rfl, H10, K10⟩; have R10 := Lib.hid (R9.out.step H10 K10); clear H10 K10; obtain ⟨f0, f1, f2, -⟩ := R10.out.cell) | fail)
            all_goals
              go_wp2_with fail
              go_roundw
              case rel =>
                refine ⟨k + 1, HLT.out, by go_num, ?_, R10.out.hp, R10.out.kt⟩
                rw [HNX.out, if_pos (show (true && !false) = true from rfl), if_neg (show ¬ (0 : Int) = 1 by decide)]
                exact R10.out.ec
              case measure => have := HLT.out; simp [intOf]; omega
          · skip
            go_region_held3 (fun w' => w'.cell? ⟨a.P, 0, none⟩ = some (.pointer (some ⟨a.A, 0, none⟩)) ∧ w'.cell? ⟨g, 0, none⟩ = some (.int .i64 x) ∧ w'.cell? ⟨g, 1, none⟩ = some (.int .i64 y) ∧ w'.cell? ⟨a.P, 5, none⟩ = some (.func (.func 78) #[] #[.pointer (some ⟨a.G, 0, none⟩), .pointer (some ⟨a.L, 0, none⟩)]))
              (first | (with_reducible exact ⟨d0, b0, b1, d5⟩) | (with_reducible exact ⟨f0, f1, f2, f5⟩) | (with_reducible exact ⟨j0, j1, j2, j5⟩) | fail)
              (first | (go_simp; go_at_call 68; (with_reducible refine kr.mono ?_); rintro e wn ⟨rfl, rfl⟩) | (go_simp; go_at_call 106; (with_reducible refine kn.mono ?_); rintro e w5 ⟨rfl, m5, hm5⟩; have R5 := Lib.hid (show Rx O W0 W w5 a p e1 (some ⟨b, 0, none⟩) L g x y by rw [hm5]; exact R4.out.dn m5); clear hm5; obtain ⟨f0, f1, f2, f5⟩ := R5.out.cell; have kp5 := kp _ R5.out.ec) | (go_simp; go_at_call 90; (with_reducible refine (kx _).mono ?_); rintro e wn ⟨rfl, rfl⟩) | (go_simp; go_at_call 78; (with_reducible refine kp5.mono ?_); rintro e w6 ⟨rfl, H6, K6⟩; have R6 := Lib.hid (R5.out.step H6 K6); clear H6 K6; obtain ⟨j0, j1, j2, j5⟩ := R6.out.cell) | fail)
            all_goals
              have ki6 := ki _ R6.out.ec
              go_wp2_with (first | (go_at_call 108; (with_reducible refine ki6.mono ?_); rintro e w7 ⟨rfl, H7, K7⟩; have R6b := Lib.hid (R6.out.step H7 K7); clear H7 K7))
              clear d0 b0 b1 d5 h5 f0 f1 f2 f5 j0 j1 j2 j5
              have R7 := Lib.hid R6b.out.drew
              obtain ⟨d0, b0, b1, -⟩ := R7.out.cell
              have kf7 := drefine_ce R7.out.ec x y
              go_region_held3 (fun w' => w'.cell? ⟨a.P, 0, none⟩ = some (.pointer (some ⟨a.A, 0, none⟩)) ∧ w'.cell? ⟨g, 0, none⟩ = some (.int .i64 x) ∧ w'.cell? ⟨g, 1, none⟩ = some (.int .i64 y))
                (first | (with_reducible exact ⟨d0, b0, b1⟩) | (with_reducible exact ⟨f0, f1, f2⟩) | fail)
                (first | (go_simp; go_at_call 48; (with_reducible refine kf7.mono ?_); rintro e w8 ⟨rfl, H8, K8⟩; have R8 := Lib.hid (R7.out.step H8 K8); clear H8 K8; obtain ⟨f0, f1, f2, -⟩ := R8.out.cell) | fail)
            all_goals
              go_wp2_with fail
              clear d0 b0 b1 f0 f1 f2
              have R9 := Lib.hid R8.out.drew
              obtain ⟨d0, b0, b1, -⟩ := R9.out.cell
              have kh9 := dtouch_ce R9.out.ec x y true
              go_region_held3 (fun w' => w'.cell? ⟨a.P, 0, none⟩ = some (.pointer (some ⟨a.A, 0, none⟩)) ∧ w'.cell? ⟨g, 0, none⟩ = some (.int .i64 x) ∧ w'.cell? ⟨g, 1, none⟩ = some (.int .i64 y))
                (first | (with_reducible exact ⟨d0, b0, b1⟩) | (with_reducible exact ⟨f0, f1, f2⟩) | fail)
                (first | (go_simp; go_at_call 46; (with_reducible refine kh9.mono ?_); rintro e w10 ⟨rfl, H10, K10⟩; have R10 := Lib.hid (R9.out.step H10 K10); clear H10 K10; obtain ⟨f0, f1, f2, -⟩ := R10.out.cell) | fail)
            all_goals
              go_wp2_with fail
              go_roundw
              case rel =>
                refine ⟨k + 1, HLT.out, by go_num, ?_, R10.out.hp, R10.out.kt⟩
                rw [HNX.out, if_pos (show (true && !false) = true from rfl), if_pos trivial]
                exact R10.out.ec
              case measure => have := HLT.out; simp [intOf]; omega
    · have hkl : k = L.length := by omega
      subst hkl
      rw [List.take_length] at hE
      go_wp2_with fail
      go_end0
      exact ⟨rfl, hE.out, hK.out⟩
end
end Go.Proofs.YtbhjapgioaiocaaDoor
set_option maxRecDepth 100000
namespace Go.Proofs.YtbhjapgioaiocaaDoor
open Go.RowKit

section
variable {σ : Type} {O : Ora σ}
set_option maxHeartbeats 8000000 in
theorem dcleanup_c {W0 W : World} {a : Adr} {p : Pp} {e : St × σ} (H : Dc O W0 W a p e) (hl : O.cnt e.2 ≤ 900000) : Calls Tryd.prog 81 #[.pointer (some ⟨a.P, 0, none⟩)] W (DG O W0 W a p (doffS p (dclS p O.A e ((p.h + 3) / 4)) (scan p.w p.h))) := by
  obtain ⟨hw, hh⟩ := H.len
  obtain ⟨c0, -, -, -, -, -⟩ := dc_cells H.pc
  have ks := size_c H.cb
  have kc := fun W => scan_yes p.w p.h H.cb.fit W
  have hmn := hmn
  have HSL := Lib.hid (scan_l p.w p.h hw hh)
  have HL := Lib.hid hl
  have HH := Lib.hid H
  have HW := Lib.hid hw
  have HHH := Lib.hid hh
  clear H hw hh hl
  go_enter Tryd.func81, Tryd.ntmps81
  go_wp2_with (first | (go_at_call 77; (with_reducible refine ks.mono ?_); rintro e wa ⟨rfl, hBa⟩; have HB := Lib.hid hBa; clear hBa))
  clear ks c0
  go_loopw [4] (fun i wr => ∃ s : Nat, s ≤ (p.h + 3) / 4 ∧ i = .int .i64 ((4 * s : Nat) : Int) ∧ Hid (Dc O W0 wr a p (dclS p O.A e s)) ∧ Hid (Kt W wr)) (fun i _ => (p.h + 4 - (intOf i).toNat))
  case atStart => exact ⟨0, by omega, rfl, HH.out.below HB.out, kt_below HB.out⟩
  case round =>
    obtain ⟨s, hs, rfl, hE, hK⟩ := hrel
    by_cases hlt : ((4 * s : Nat) : Int) < (p.h : Int)
    · obtain ⟨n, hn⟩ : ∃ n, n = min 4 (p.h - 4 * s) := ⟨_, rfl⟩
      have hnext : dclS p O.A e (s + 1) = dstrS p O.A (dclS p O.A e s) (4 * s) n p.w := by unfold dclS; rw [foldl_rng, hn]
      have hlen := (rch_cl (p := p) (A := O.A) e s).cnt O.hcnt
      obtain ⟨e1, he1⟩ : ∃ e1, e1 = dclS p O.A e s := ⟨_, rfl⟩
      rw [← he1] at hE hnext hlen
      have hlen1 : O.cnt e1.2 ≤ 930000 := by
        have h1 : 12 * p.w * s ≤ 12 * 64 * 16 := Nat.mul_le_mul (Nat.mul_le_mul_left _ HW.out) (by have := HHH.out; omega)
        have := HL.out
        omega
      have hmin : min (((4 * s : Nat) : Int) + 4) (p.h : Int) = ((4 * s + n : Nat) : Int) := by omega
      have w4 : IntKind.i64.wrap (((4 * s : Nat) : Int) + 4) = ((4 * s : Nat) : Int) + 4 := by have := HHH.out; rw [IntWalk.i64_left]; unfold wrap64; omega
      have hnh : 4 * s + n ≤ p.h := by omega
      have hn4 : n ≤ 4 := by omega
      have HNX := Lib.hid hnext
      have HNH := Lib.hid hnh
      have HN4 := Lib.hid hn4
      have HS := Lib.hid (show s < (p.h + 3) / 4 by omega)
      have HLN := Lib.hid hlen1
      clear hnext hlen hlen1 hnh hn4 hn he1 hs
      obtain ⟨tp, htp⟩ : ∃ t : Nat, t = 4 * s := ⟨_, rfl⟩
      rw [← htp] at hmin w4 hlt
      have HTP := Lib.hid htp
      have HNX2 := Lib.hid (show dclS p O.A e (s + 1) = dstrS p O.A e1 tp n p.w by rw [HNX.out, htp])
      have HNH2 := Lib.hid (show tp + n ≤ p.h by rw [htp]; exact HNH.out)
      rw [← htp]
      clear htp HNX HNH
      have kst := dstripe_c hE.out tp n HNH2.out HN4.out (by have := HLN.out; omega)
      rw [← HNX2.out] at kst
      have e4 : ((tp : Int) + 4) = ((4 * (s + 1) : Nat) : Int) := by have := HTP.out; omega
      have HE4 := Lib.hid e4
      clear e4
      obtain ⟨e3, he3⟩ : ∃ e3, e3 = dclS p O.A e (s + 1) := ⟨_, rfl⟩
      rw [← he3] at kst
      have HE3 := Lib.hid he3
      clear he3
      obtain ⟨bt, hbt⟩ : ∃ t : Int, t = ((tp + n : Nat) : Int) := ⟨_, rfl⟩
      rw [← hbt] at hmin kst
      clear hbt
      go_wp2_with (first | (go_at_call 109; (with_reducible refine kst.mono ?_); rintro e w3 ⟨rfl, H3, K3⟩; have H3 := Lib.hid H3; have K3 := Lib.hid (hK.out.trans K3)))
      go_roundw
      case rel => exact ⟨s + 1, HS.out, by rw [← HE4.out], by rw [← HE3.out]; exact H3, K3⟩
      case measure => have := HS.out; have := HTP.out; simp [intOf]; omega
    · have hsq : s = (p.h + 3) / 4 := by omega
      subst hsq
      have hlen := (rch_cl (p := p) (A := O.A) e ((p.h + 3) / 4)).cnt O.hcnt
      obtain ⟨e1, he1⟩ : ∃ e1, e1 = dclS p O.A e ((p.h + 3) / 4) := ⟨_, rfl⟩
      have hC : doffS p (dclS p O.A e ((p.h + 3) / 4)) (scan p.w p.h) = doffS p e1 (scan p.w p.h) := by rw [he1]
      rw [← he1] at hE hlen
      have hlen1 : O.cnt e1.2 ≤ 930000 := by
        have h1 : 12 * p.w * ((p.h + 3) / 4) ≤ 12 * 64 * 16 := Nat.mul_le_mul (Nat.mul_le_mul_left _ HW.out) (by have := HHH.out; omega)
        have := HL.out
        omega
      have HC := Lib.hid hC
      have HLN := Lib.hid hlen1
      have HIN := Lib.hid (fun z (hz : z ∈ scan p.w p.h) => scan_in hz)
      generalize scan p.w p.h = L at *
      clear hC hlen hlen1 he1 hs
      go_wp2_with (first | (go_at_call 87; (with_reducible refine (kc _).mono ?_); rintro e w1 ⟨s1, m1, rfl, hP, hB⟩; have HP := Lib.hid hP; have HB1 := Lib.hid hB; clear hP hB))
      clear kc
      obtain ⟨Wo, rfl⟩ : ∃ Wo, Wo = wr := ⟨_, rfl⟩
      go_loopw [32] (fun i wr => ∃ k : Nat, k ≤ L.length ∧ i = .int .i64 (k : Int) ∧ Hid (Dc O W0 wr a p (doffS p e1 (L.take k))) ∧ Hid (HoldsP wr s1 L) ∧ Hid (Kt W wr)) (fun i _ => (L.length - (intOf i).toNat))
      case atStart => exact ⟨0, by omega, rfl, hE.out.below HB1.out, HP.out, hK.out.trans (kt_below HB1.out)⟩
      case round =>
        obtain ⟨k, hk, rfl, hE, hH, hK⟩ := hrel
        by_cases hlt : k < L.length
        · obtain ⟨b, rfl, p0, p1⟩ := hH.out.at hlt
          have hnext : doffS p e1 (L.take (k + 1)) = dtouchS p (doffS p e1 (L.take k)) L[k].1 L[k].2 false := foldl_take (fun (e : St × σ) (z : Int × Int) => dtouchS p e z.1 z.2 false) e1 L k hlt
          obtain ⟨e2, he2⟩ : ∃ e2, e2 = doffS p e1 (L.take k) := ⟨_, rfl⟩
          rw [← he2] at hE hnext
          obtain ⟨z, hz0⟩ : ∃ z, z = L[k] := ⟨_, rfl⟩
          rw [← hz0] at hnext p0 p1
          obtain ⟨x, yy⟩ := z
          simp only at p0 p1 hnext
          have wk : IntKind.i64.wrap ((k : Int) + 1) = ((k + 1 : Nat) : Int) := by have := HSL.out; rw [IntWalk.i64_left]; unfold wrap64; omega
          have HLT := Lib.hid hlt
          have HNX := Lib.hid hnext
          clear hz0 he2 hnext
          go_wp2_with fail
          have R1 := Lib.hid (Rx.begin x yy hE.out hH.out hK.out)
          clear p0 p1 hE hH hK
          generalize wr.alloc (.cells #[.int .i64 x, .int .i64 yy] 113) = W1 at *
          generalize wr.heap.size = g at *
          have R4 := Lib.hid R1.out.drew
          obtain ⟨d0, b0, b1, -⟩ := R4.out.cell
          have kt4 := dtouch_ce R4.out.ec x yy false
          generalize dtouchS p e2 x yy false = e3 at *
          go_region_held3 (fun w' => w'.cell? ⟨a.P, 0, none⟩ = some (.pointer (some ⟨a.A, 0, none⟩)) ∧ w'.cell? ⟨g, 0, none⟩ = some (.int .i64 x) ∧ w'.cell? ⟨g, 1, none⟩ = some (.int .i64 yy))
            (first | (with_reducible exact ⟨d0, b0, b1⟩) | (with_reducible exact ⟨f0, f1, f2⟩) | fail)
            (first | (go_simp; go_at_call 46; (with_reducible refine kt4.mono ?_); rintro e w5 ⟨rfl, H5, K5⟩; have R5 := Lib.hid (R4.out.step H5 K5); clear H5 K5; obtain ⟨f0, f1, f2, -⟩ := R5.out.cell) | fail)
          all_goals
            go_wp2_with fail
            go_roundw
            case rel =>
              refine ⟨k + 1, HLT.out, by go_num, ?_, R5.out.hp, R5.out.kt⟩
              rw [HNX.out]
              exact R5.out.ec
            case measure => have := HLT.out; simp [intOf]; omega
        · have hkl : k = L.length := by omega
          subst hkl
          rw [List.take_length] at hE
          go_wp2_with fail
          go_end0
          exact ⟨rfl, by rw [HC.out]; exact hE.out, hK.out⟩
/-- The check symbols after so many. -/
def dchkK (p : Pp) (A : Orc σ) (e : St × σ) (k : Nat) : (St × σ) × Bool := (([1, 0, 1, 0] : List Int).take k).foldl (dchkS p A) (e, true)
set_option maxHeartbeats 8000000 in
theorem dchecked_c {W0 W : World} {a : Adr} {p : Pp} {e : St × σ} (H : Dc O W0 W a p e) (hl : O.cnt e.2 ≤ 999000) : Calls Tryd.prog 82 #[.pointer (some ⟨a.P, 0, none⟩)] W fun E W' => E = .returned (.bool (dendS p O.A true e).2) ∧ Dc O W0 W' a p (dendS p O.A true e).1 ∧ Kt W W' := by
  have HH := Lib.hid H
  have HL := Lib.hid hl
  have h4 : dendS p O.A true e = dchkK p O.A e 4 := rfl
  rw [h4]
  clear H hl h4
  go_enter Tryd.func82, Tryd.ntmps82
  go_wp2_with fail
  go_loopw [3, 7] (fun z i wr => ∃ k : Nat, k ≤ 4 ∧ i = .int .i64 (k : Int) ∧ z = .bool (dchkK p O.A e k).2 ∧ Hid (Dc O W0 wr a p (dchkK p O.A e k).1) ∧ Hid (Kt W wr)) (fun _ i _ => (4 - (intOf i).toNat))
  case atStart => exact ⟨0, by omega, rfl, rfl, HH.out, Kt.refl _⟩
  case round =>
    obtain ⟨k, hk, hi, hz, hE3, hK3⟩ := hrel
    have c5 : wr.cell? ⟨a.P, 5, none⟩ = some (.func (.func 78) #[] #[.pointer (some ⟨a.G, 0, none⟩), .pointer (some ⟨a.L, 0, none⟩)]) := hE3.out.pc.cell 5
    have hcn : O.cnt (dchkK p O.A e k).1.2 ≤ 1000000 := by
      have h1 := (rch_fold (fun z : (St × σ) × Bool => z.1.2) (dchkS p O.A) 1 (fun z b => rch_ask z.1 18) (([1, 0, 1, 0] : List Int).take k) (e, true)).cnt O.hcnt
      rw [List.length_take] at h1
      have := HL.out
      unfold dchkK
      simp only [List.length_cons, List.length_nil] at h1
      omega
    have kp := dask_c hE3.out 18 hcn
    have hb := askB_in p O.A (dchkK p O.A e k).1 18
    obtain rfl | rfl | rfl | rfl | rfl : k = 0 ∨ k = 1 ∨ k = 2 ∨ k = 3 ∨ k = 4 := by omega
    · replace hi : _ = Value.int .i64 0 := hi
      subst hi
      have hidx := idx40
      have hn : dchkK p O.A e 1 = (askE p O.A (dchkK p O.A e 0).1 18, (dchkK p O.A e 0).2 && decide (askB p O.A (dchkK p O.A e 0).1 18 = 1)) := rfl
      obtain ⟨bt, hbt⟩ : ∃ b, b = askB p O.A (dchkK p O.A e 0).1 18 := ⟨_, rfl⟩
      rw [← hbt] at kp hb hn
      have HN := Lib.hid hn
      generalize dchkK p O.A e 0 = z1 at *
      subst hz
      obtain ⟨e1, y1⟩ := z1
      simp only at kp hE3 HN ⊢
      clear hbt hcn hn
      rcases hb with rfl | rfl
      all_goals
        go_wp2_with (first | (go_at_call 78; (with_reducible refine kp.mono ?_); rintro e w6 ⟨rfl, H6, K6⟩; have H6 := Lib.hid H6; have K6 := Lib.hid (hK3.out.trans K6)))
        go_roundw
        case rel => exact ⟨1, by omega, by go_num, by rw [HN.out]; simp, by rw [HN.out]; exact H6, K6⟩
        case measure => simp [intOf]
    · replace hi : _ = Value.int .i64 1 := hi
      subst hi
      have hidx := idx41
      have hn : dchkK p O.A e 2 = (askE p O.A (dchkK p O.A e 1).1 18, (dchkK p O.A e 1).2 && decide (askB p O.A (dchkK p O.A e 1).1 18 = 0)) := rfl
      obtain ⟨bt, hbt⟩ : ∃ b, b = askB p O.A (dchkK p O.A e 1).1 18 := ⟨_, rfl⟩
      rw [← hbt] at kp hb hn
      have HN := Lib.hid hn
      generalize dchkK p O.A e 1 = z1 at *
      subst hz
      obtain ⟨e1, y1⟩ := z1
      simp only at kp hE3 HN ⊢
      clear hbt hcn hn
      rcases hb with rfl | rfl
      all_goals
        go_wp2_with (first | (go_at_call 78; (with_reducible refine kp.mono ?_); rintro e w6 ⟨rfl, H6, K6⟩; have H6 := Lib.hid H6; have K6 := Lib.hid (hK3.out.trans K6)))
        go_roundw
        case rel => exact ⟨2, by omega, by go_num, by rw [HN.out]; simp, by rw [HN.out]; exact H6, K6⟩
        case measure => simp [intOf]
    · replace hi : _ = Value.int .i64 2 := hi
      subst hi
      have hidx := idx42
      have hn : dchkK p O.A e 3 = (askE p O.A (dchkK p O.A e 2).1 18, (dchkK p O.A e 2).2 && decide (askB p O.A (dchkK p O.A e 2).1 18 = 1)) := rfl
      obtain ⟨bt, hbt⟩ : ∃ b, b = askB p O.A (dchkK p O.A e 2).1 18 := ⟨_, rfl⟩
      rw [← hbt] at kp hb hn
      have HN := Lib.hid hn
      generalize dchkK p O.A e 2 = z1 at *
      subst hz
      obtain ⟨e1, y1⟩ := z1
      simp only at kp hE3 HN ⊢
      clear hbt hcn hn
      rcases hb with rfl | rfl
      all_goals
        go_wp2_with (first | (go_at_call 78; (with_reducible refine kp.mono ?_); rintro e w6 ⟨rfl, H6, K6⟩; have H6 := Lib.hid H6; have K6 := Lib.hid (hK3.out.trans K6)))
        go_roundw
        case rel => exact ⟨3, by omega, by go_num, by rw [HN.out]; simp, by rw [HN.out]; exact H6, K6⟩
        case measure => simp [intOf]
    · replace hi : _ = Value.int .i64 3 := hi
      subst hi
      have hidx := idx43
      have hn : dchkK p O.A e 4 = (askE p O.A (dchkK p O.A e 3).1 18, (dchkK p O.A e 3).2 && decide (askB p O.A (dchkK p O.A e 3).1 18 = 0)) := rfl
      obtain ⟨bt, hbt⟩ : ∃ b, b = askB p O.A (dchkK p O.A e 3).1 18 := ⟨_, rfl⟩
      rw [← hbt] at kp hb hn
      have HN := Lib.hid hn
      generalize dchkK p O.A e 3 = z1 at *
      subst hz
      obtain ⟨e1, y1⟩ := z1
      simp only at kp hE3 HN ⊢
      clear hbt hcn hn
      rcases hb with rfl | rfl
      all_goals
        go_wp2_with (first | (go_at_call 78; (with_reducible refine kp.mono ?_); rintro e w6 ⟨rfl, H6, K6⟩; have H6 := Lib.hid H6; have K6 := Lib.hid (hK3.out.trans K6)))
        go_roundw
        case rel => exact ⟨4, by omega, by go_num, by rw [HN.out]; simp, by rw [HN.out]; exact H6, K6⟩
        case measure => simp [intOf]
    · replace hi : _ = Value.int .i64 4 := hi
      subst hi
      subst hz
      clear kp hb hcn
      go_wp2_with fail
      go_ret
      exact ⟨rfl, hE3.out, hK3.out⟩
end
end Go.Proofs.YtbhjapgioaiocaaDoor
