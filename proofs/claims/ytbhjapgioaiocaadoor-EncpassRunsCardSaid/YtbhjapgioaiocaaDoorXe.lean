/-
  Layer 15: the reference's refinement pass.
-/
import Derived.Test.YtbhjapgioaiocaaDoorXd
set_option maxRecDepth 100000
namespace Go.Proofs.YtbhjapgioaiocaaDoor
open Go.RowKit

set_option maxHeartbeats 8000000 in
theorem xrefp_c {W0 W : World} {a : Adx} {p : Pp} {m : Mo} {e : Es} (H : Xc W0 W a p m e) (hl : e.2.length ≤ 900000) (sc : Option Addr) (cap : Nat) (hP : HoldsP W sc (scan p.w p.h)) : Calls Tryd.prog 60 #[.pointer (some ⟨a.P, 0, none⟩), .slice sc (scan p.w p.h).length cap] W (XG W0 W a p m ((scan p.w p.h).foldl (refS p) e)) := by
  obtain ⟨hw, hh⟩ := H.len
  have HSL := Lib.hid (scan_l p.w p.h hw hh)
  have HIN := Lib.hid (fun z (hz : z ∈ scan p.w p.h) => scan_in hz)
  have HL := Lib.hid hl
  have HH := Lib.hid H
  have HP := Lib.hid hP
  generalize scan p.w p.h = L at *
  clear H hw hh hl hP
  go_enter Tryd.func60, Tryd.ntmps60
  go_wp2_with fail
  go_loopw [8] (fun i wr => ∃ k : Nat, k ≤ L.length ∧ i = .int .i64 (k : Int) ∧ Hid (Xc W0 wr a p m ((L.take k).foldl (refS p) e)) ∧ Hid (HoldsP wr sc L) ∧ Hid (Kt W wr)) (fun i _ => (L.length - (intOf i).toNat))
  case atStart => exact ⟨0, by omega, rfl, HH.out, HP.out, Kt.refl _⟩
  case round =>
    obtain ⟨k, hk, rfl, hE, hH, hK⟩ := hrel
    by_cases hlt : k < L.length
    · obtain ⟨b, rfl, p0, p1⟩ := hH.out.at hlt
      have hz := HIN.out _ (List.getElem_mem hlt)
      have hnext := foldl_take (refS p) e L k hlt
      obtain ⟨e1, he1⟩ : ∃ e1, e1 = (L.take k).foldl (refS p) e := ⟨_, rfl⟩
      have hlen : e1.2.length ≤ 999990 := by
        have h1 := foldl_len (refS p) 2 (refS_len p) (L.take k) e
        rw [← he1, List.length_take] at h1
        have := HL.out
        have := HSL.out
        omega
      rw [← he1] at hE hnext
      obtain ⟨z, hz0⟩ : ∃ z, z = L[k] := ⟨_, rfl⟩
      rw [← hz0] at hz hnext p0 p1
      obtain ⟨x, y⟩ := z
      simp only at p0 p1 hz hnext
      have wk : IntKind.i64.wrap ((k : Int) + 1) = ((k + 1 : Nat) : Int) := by have := HSL.out; rw [IntWalk.i64_left]; unfold wrap64; omega
      have HLT := Lib.hid hlt
      clear hz0 he1
      go_wp2_with fail
      have R1 := Lib.hid (Rx.begin x y hE.out hH.out hK.out)
      clear p0 p1
      generalize wr.alloc (.cells #[.int .i64 x, .int .i64 y] 113) = W1 at *
      generalize wr.heap.size = g at *
      obtain ⟨s, hs⟩ : ∃ s, s = e1.1.s x y := ⟨_, rfl⟩
      obtain ⟨t, ht⟩ : ∃ t, t = e1.1.t x y := ⟨_, rfl⟩
      have hstep : refS p e1 (x, y) = if (s && !t) = true then touchS p (refnS p (putS p e1 (refC p e1.1 x y) (bitM (e1.1.v x y) p.s)) x y) x y true else e1 := by rw [hs, ht]; rfl
      rw [hstep] at hnext
      have HNX := Lib.hid hnext
      have kg : ∀ X : RxF W0 W a p m e1 (some ⟨b, 0, none⟩) L g x y, Calls Tryd.prog 65 #[.pointer (some ⟨a.A, 0, none⟩), .int .i64 x, .int .i64 y] X.w fun e w' => e = .returned (.bool s) ∧ Below X.w.heap.size X.w w' := fun X => by rw [hs]; exact rsignificant_c X.ok.ec.rb x y
      have kt : ∀ X : RxF W0 W a p m e1 (some ⟨b, 0, none⟩) L g x y, Calls Tryd.prog 67 #[.pointer (some ⟨a.A, 0, none⟩), .int .i64 x, .int .i64 y] X.w fun e w' => e = .returned (.bool t) ∧ Below X.w.heap.size X.w w' := fun X => by rw [ht]; exact rtouched_c X.ok.ec.rb x y
      clear hs ht hstep hnext hE hH hK
      cases s with
      | false =>
        have hx0 := fun X : RxF W0 W a p m e1 (some ⟨b, 0, none⟩) L g x y => X.ok.cell.1
        have hx1 := fun X : RxF W0 W a p m e1 (some ⟨b, 0, none⟩) L g x y => X.ok.cell.2.1
        have hx2 := fun X : RxF W0 W a p m e1 (some ⟨b, 0, none⟩) L g x y => X.ok.cell.2.2
        have hst : ∀ (X : RxF W0 W a p m e1 (some ⟨b, 0, none⟩) L g x y) (w' : World), Below X.w.heap.size X.w w' → ∃ Y : RxF W0 W a p m e1 (some ⟨b, 0, none⟩) L g x y, w' = Y.w := fun X w' hb => ⟨⟨w', X.ok.step hb⟩, rfl⟩
        have hne : Nonempty (RxF W0 W a p m e1 (some ⟨b, 0, none⟩) L g x y) := ⟨⟨_, R1.out⟩⟩
        refine wp_region_in (fun X : RxF W0 W a p m e1 (some ⟨b, 0, none⟩) L g x y => X.w) (by kernel_rfl) (by kernel_rfl) ⟨⟨_, R1.out.step (Below.refl _ _).drew⟩, rfl⟩ ?_
        repeat (first | go_big_quiet_step ((first | (go_at_call 65; exact call_in (kg _) (hst _)))) | quiet_step ((first | (go_at_call 65; exact call_in (kg _) (hst _)))))
        refine wpQuiet_nil ?_
        intro _ hw'
        obtain ⟨⟨W2, R20⟩, hw''⟩ := hw'
        subst hw''
        have R2 := Lib.hid R20
        clear R20 hx0 hx1 hx2 hst hne
        go_wp2_with fail
        go_roundw
        case rel =>
          refine ⟨k + 1, HLT.out, by go_num, ?_, R2.out.hp, R2.out.kt⟩
          rw [HNX.out]; rw [if_neg (by simp)]
          exact R2.out.ec
        case measure => have := HLT.out; simp [intOf]; omega
      | true =>
        cases t with
        | true =>
          have hx0 := fun X : RxF W0 W a p m e1 (some ⟨b, 0, none⟩) L g x y => X.ok.cell.1
          have hx1 := fun X : RxF W0 W a p m e1 (some ⟨b, 0, none⟩) L g x y => X.ok.cell.2.1
          have hx2 := fun X : RxF W0 W a p m e1 (some ⟨b, 0, none⟩) L g x y => X.ok.cell.2.2
          have hst : ∀ (X : RxF W0 W a p m e1 (some ⟨b, 0, none⟩) L g x y) (w' : World), Below X.w.heap.size X.w w' → ∃ Y : RxF W0 W a p m e1 (some ⟨b, 0, none⟩) L g x y, w' = Y.w := fun X w' hb => ⟨⟨w', X.ok.step hb⟩, rfl⟩
          have hne : Nonempty (RxF W0 W a p m e1 (some ⟨b, 0, none⟩) L g x y) := ⟨⟨_, R1.out⟩⟩
          refine wp_region_in (fun X : RxF W0 W a p m e1 (some ⟨b, 0, none⟩) L g x y => X.w) (by kernel_rfl) (by kernel_rfl) ⟨⟨_, R1.out.step (Below.refl _ _).drew⟩, rfl⟩ ?_
          repeat (first | go_big_quiet_step ((first | (go_at_call 65; exact call_in (kg _) (hst _)) | (go_at_call 67; exact call_in (kt _) (hst _)))) | quiet_step ((first | (go_at_call 65; exact call_in (kg _) (hst _)) | (go_at_call 67; exact call_in (kt _) (hst _)))))
          refine wpQuiet_nil ?_
          intro _ hw'
          obtain ⟨⟨W2, R20⟩, hw''⟩ := hw'
          subst hw''
          have R2 := Lib.hid R20
          clear R20 hx0 hx1 hx2 hst hne
          go_wp2_with fail
          go_roundw
          case rel =>
            refine ⟨k + 1, HLT.out, by go_num, ?_, R2.out.hp, R2.out.kt⟩
            rw [HNX.out]; rw [if_neg (by decide)]
            exact R2.out.ec
          case measure => have := HLT.out; simp [intOf]; omega
        | false =>
          have hx0 := fun X : RxF W0 W a p m e1 (some ⟨b, 0, none⟩) L g x y => X.ok.cell.1
          have hx1 := fun X : RxF W0 W a p m e1 (some ⟨b, 0, none⟩) L g x y => X.ok.cell.2.1
          have hx2 := fun X : RxF W0 W a p m e1 (some ⟨b, 0, none⟩) L g x y => X.ok.cell.2.2
          have hst : ∀ (X : RxF W0 W a p m e1 (some ⟨b, 0, none⟩) L g x y) (w' : World), Below X.w.heap.size X.w w' → ∃ Y : RxF W0 W a p m e1 (some ⟨b, 0, none⟩) L g x y, w' = Y.w := fun X w' hb => ⟨⟨w', X.ok.step hb⟩, rfl⟩
          have hne : Nonempty (RxF W0 W a p m e1 (some ⟨b, 0, none⟩) L g x y) := ⟨⟨_, R1.out⟩⟩
          refine wp_region_in (fun X : RxF W0 W a p m e1 (some ⟨b, 0, none⟩) L g x y => X.w) (by kernel_rfl) (by kernel_rfl) ⟨⟨_, R1.out.step (Below.refl _ _).drew⟩, rfl⟩ ?_
          repeat (first | go_big_quiet_step ((first | (go_at_call 65; exact call_in (kg _) (hst _)) | (go_at_call 67; exact call_in (kt _) (hst _)))) | quiet_step ((first | (go_at_call 65; exact call_in (kg _) (hst _)) | (go_at_call 67; exact call_in (kt _) (hst _)))))
          refine wpQuiet_nil ?_
          intro _ hw'
          obtain ⟨⟨W2, R20⟩, hw''⟩ := hw'
          subst hw''
          have R2 := Lib.hid R20
          clear R20 hx0 hx1 hx2 hst hne
          clear R1 kg kt
          go_wp2_with fail
          have R4 := Lib.hid (R2.out.step (Below.refl _ _).drew)
          obtain ⟨d0, b0, b1⟩ := R4.out.cell
          obtain ⟨r, hr⟩ : ∃ t, t = e1.1.r x y := ⟨_, rfl⟩
          obtain ⟨nn, hnn⟩ : ∃ t, t = nbH e1.1 x y + nbV e1.1 x y p.c + nbD e1.1 x y p.c := ⟨_, rfl⟩
          obtain ⟨bt, hbt⟩ : ∃ t, t = bitM (e1.1.v x y) p.s := ⟨_, rfl⟩
          obtain ⟨nr, hnr⟩ : ∃ t, t = decide (0 < nn) := ⟨_, rfl⟩
          have eC : refC p e1.1 x y = Cx.refM (!r) nr := by unfold refC nearQ; rw [hr, hnr, hnn]
          rw [eC, ← hbt] at HNX
          have kr := rrefined_c R4.out.ec.rb x y
          have kn := fun W (K : Xc W0 W a p m e1) => xnear_c K x y hz
          have kx := fun W => Cx.refR_c (!r) nr W
          have kb : ∀ W, Xc W0 W a p m e1 → Calls Tryd.prog 98 #[.pointer (some ⟨a.P, 0, none⟩), .int .i64 x, .int .i64 y] W fun e w' => e = .returned (.int .i64 bt) ∧ Below W.heap.size W w' := fun W K => by rw [hbt]; exact xbit_c K x y
          have kp := fun W (K : Xc W0 W a p m e1) => xput_c K (Cx.refM (!r) nr) bt (by omega)
          rw [← hr] at kr
          rw [← hnn] at kn
          have hnr2 : decide (0 < nn) = nr := hnr.symm
          clear hr hnn hbt hnr eC hz hlen
          generalize Cx.refM (!r) nr = C at *
          have kf := fun W (K : Xc W0 W a p m (putS p e1 C bt)) => xrefine_ce K x y
          have kh := fun W (K : Xc W0 W a p m (refnS p (putS p e1 C bt) x y)) => xtouch_ce K x y true
          generalize touchS p (refnS p (putS p e1 C bt) x y) x y true = e4 at *
          generalize refnS p (putS p e1 C bt) x y = e3 at *
          generalize putS p e1 C bt = e2 at *
          go_region_held3 (fun w' => w'.cell? ⟨a.P, 0, none⟩ = some (.pointer (some ⟨a.A, 0, none⟩)) ∧ w'.cell? ⟨g, 0, none⟩ = some (.int .i64 x) ∧ w'.cell? ⟨g, 1, none⟩ = some (.int .i64 y))
            (first | (with_reducible exact ⟨d0, b0, b1⟩) | (with_reducible exact ⟨f0, f1, f2⟩) | (with_reducible exact ⟨g0, g1, g2⟩) | (with_reducible exact ⟨i0, i1, i2⟩) | (with_reducible exact ⟨j0, j1, j2⟩) | fail)
            (first | (go_simp; go_at_call 69; (with_reducible refine kr.mono ?_); rintro e w5 ⟨rfl, hb⟩; have R5 := Lib.hid (R4.out.step hb); clear hb; obtain ⟨f0, f1, f2⟩ := R5.out.cell; have kn5 := kn _ R5.out.ec) | (go_simp; go_at_call 94; (with_reducible refine kn5.mono ?_); rintro e w6 ⟨rfl, hb⟩; have R6 := Lib.hid (R5.out.step hb); clear hb; obtain ⟨g0, g1, g2⟩ := R6.out.cell; have kb6 := kb _ R6.out.ec) | (go_simp; go_at_call 97; (with_reducible refine (kx _).mono ?_); rintro e wn ⟨rfl, rfl⟩) | (go_simp; go_at_call 98; (with_reducible refine kb6.mono ?_); rintro e w7 ⟨rfl, hb⟩; have R7 := Lib.hid (R6.out.step hb); clear hb; obtain ⟨i0, i1, i2⟩ := R7.out.cell; have kp7 := kp _ R7.out.ec) | (go_simp; go_at_call 96; (with_reducible refine kp7.mono ?_); rintro e w8 ⟨rfl, H8, K8⟩; have R8 := Lib.hid (R7.out.next H8 K8); clear H8 K8; obtain ⟨j0, j1, j2⟩ := R8.out.cell) | fail)
          all_goals
            go_wp2_with fail
            clear d0 b0 b1 f0 f1 f2 g0 g1 g2 i0 i1 i2 j0 j1 j2
            have S1 := Lib.hid (R8.out.step (Below.refl _ _).drew)
            obtain ⟨d0, b0, b1⟩ := S1.out.cell
            have kf7 := kf _ S1.out.ec
            go_region_held3 (fun w' => w'.cell? ⟨a.P, 0, none⟩ = some (.pointer (some ⟨a.A, 0, none⟩)) ∧ w'.cell? ⟨g, 0, none⟩ = some (.int .i64 x) ∧ w'.cell? ⟨g, 1, none⟩ = some (.int .i64 y))
              (first | (with_reducible exact ⟨d0, b0, b1⟩) | (with_reducible exact ⟨f0, f1, f2⟩) | fail)
              (first | (go_simp; go_at_call 49; (with_reducible refine kf7.mono ?_); rintro e w9 ⟨rfl, H8, K8⟩; have S2 := Lib.hid (S1.out.next H8 K8); clear H8 K8; obtain ⟨f0, f1, f2⟩ := S2.out.cell) | fail)
          all_goals
            go_wp2_with fail
            clear d0 b0 b1 f0 f1 f2
            have S3 := Lib.hid (S2.out.step (Below.refl _ _).drew)
            obtain ⟨d0, b0, b1⟩ := S3.out.cell
            have kh9 := kh _ S3.out.ec
            go_region_held3 (fun w' => w'.cell? ⟨a.P, 0, none⟩ = some (.pointer (some ⟨a.A, 0, none⟩)) ∧ w'.cell? ⟨g, 0, none⟩ = some (.int .i64 x) ∧ w'.cell? ⟨g, 1, none⟩ = some (.int .i64 y))
              (first | (with_reducible exact ⟨d0, b0, b1⟩) | (with_reducible exact ⟨f0, f1, f2⟩) | fail)
              (first | (go_simp; go_at_call 47; (with_reducible refine kh9.mono ?_); rintro e w10 ⟨rfl, H10, K10⟩; have S4 := Lib.hid (S3.out.next H10 K10); clear H10 K10; obtain ⟨f0, f1, f2⟩ := S4.out.cell) | fail)
          all_goals
            go_wp2_with fail
            go_roundw
            case rel =>
              refine ⟨k + 1, HLT.out, by go_num, ?_, S4.out.hp, S4.out.kt⟩
              rw [HNX.out]; rw [if_pos (by decide)]
              exact S4.out.ec
            case measure => have := HLT.out; simp [intOf]; omega
    · have hkl : k = L.length := by omega
      subst hkl
      rw [List.take_length] at hE
      go_wp2_with fail
      go_end0
      exact ⟨rfl, hE.out, hK.out⟩
end Go.Proofs.YtbhjapgioaiocaaDoor
