/-
  Layer 15: the reference's cleanup pass.
-/
import Derived.Test.YtbhjapgioaiocaaDoorXg
set_option maxRecDepth 100000
namespace Go.Proofs.YtbhjapgioaiocaaDoor
open Go.RowKit

set_option maxHeartbeats 8000000 in
theorem xcleanp_c {W0 W : World} {a : Adx} {p : Pp} {m : Mo} {e : Es} (H : Xc W0 W a p m e) (hl : e.2.length ≤ 900000) (sc : Option Addr) (cap : Nat) (hP : HoldsP W sc (scan p.w p.h)) : Calls Tryd.prog 61 #[.pointer (some ⟨a.P, 0, none⟩), .slice sc (scan p.w p.h).length cap, .int .i64 (p.h : Int)] W (XG W0 W a p m (cleanS p m.y e)) := by
  obtain ⟨hw, hh⟩ := H.len
  have HSL := Lib.hid (scan_l p.w p.h hw hh)
  have HIN := Lib.hid (fun z (hz : z ∈ scan p.w p.h) => scan_in hz)
  have HSC := Lib.hid (stK_scan p e)
  have HCL := Lib.hid (show cleanS p m.y e = endS p m.y (offS p (clS p e ((p.h + 3) / 4)) (scan p.w p.h)) from rfl)
  have HL := Lib.hid hl
  have HH := Lib.hid H
  have HP := Lib.hid hP
  generalize scan p.w p.h = L at *
  generalize clS p e ((p.h + 3) / 4) = eC at *
  generalize cleanS p m.y e = eF at *
  clear H hw hh hl hP
  go_enter Tryd.func61, Tryd.ntmps61
  go_wp2_with fail
  go_loopw [6, 13] (fun t i wr => ∃ (k v : Nat), k ≤ L.length ∧ i = .int .i64 (k : Int) ∧ t = .int .i64 (v : Int) ∧ Hid (((L.take k).foldl (stK p) (0, e)).1 = v) ∧ Hid (Xc W0 wr a p m ((L.take k).foldl (stK p) (0, e)).2) ∧ Hid (HoldsP wr sc L) ∧ Hid (Kt W wr)) (fun _ i _ => (L.length - (intOf i).toNat))
  case atStart => exact ⟨0, 0, by omega, rfl, rfl, rfl, HH.out, HP.out, Kt.refl _⟩
  case round =>
    obtain ⟨k, v, hk, rfl, rfl, hV, hE, hH, hK⟩ := hrel
    by_cases hlt : k < L.length
    · obtain ⟨b, rfl, p0, p1⟩ := hH.out.at hlt
      have hz := HIN.out _ (List.getElem_mem hlt)
      have hnext := foldl_take (stK p) (0, e) L k hlt
      have hlen := stK_all p (L.take k) (0, e) (by show 0 ≤ 3; omega)
      obtain ⟨z1, hz1⟩ : ∃ z1, z1 = (L.take k).foldl (stK p) (0, e) := ⟨_, rfl⟩
      rw [← hz1] at hE hV hnext hlen
      obtain ⟨v1, e1⟩ := z1
      have hV1 := hV.out
      simp only at hV1
      subst hV1
      simp only at hE hlen
      have hv3 : v1 ≤ 3 := hlen.1
      have hle : e1.2.length ≤ 999980 := by
        have h1 := hlen.2
        rw [List.length_take] at h1
        have := HL.out
        have := HSL.out
        omega
      obtain ⟨z, hz0⟩ : ∃ z, z = L[k] := ⟨_, rfl⟩
      rw [← hz0] at hz hnext p0 p1
      obtain ⟨x, y⟩ := z
      simp only at p0 p1 hz
      have wk : IntKind.i64.wrap ((k : Int) + 1) = ((k + 1 : Nat) : Int) := by have := HSL.out; rw [IntWalk.i64_left]; unfold wrap64; omega
      have HLT := Lib.hid hlt
      clear hz0 hz1 hlen hV
      obtain ⟨X, hX⟩ : ∃ X, X = x.toNat := ⟨_, rfl⟩
      obtain ⟨Y, hY⟩ : ∃ Y, Y = y.toNat := ⟨_, rfl⟩
      have hst0 : stK p (v1, e1) (x, y) = if 0 < v1 then (v1 - 1, e1) else if xrunQ p e1.1 X Y = true then (runN p e1.1 X Y - 1, runS p e1 X Y) else (0, clnS p e1 (x, y)) := by rw [hX, hY]; rfl
      rw [hst0] at hnext
      have hxX : (x : Int) = (X : Int) := by unfold inB at hz; omega
      have hyY : (y : Int) = (Y : Int) := by unfold inB at hz; omega
      clear hst0 hX hY
      by_cases hv0 : 0 < v1
      · rw [if_pos hv0] at hnext
        have HNX := Lib.hid hnext
        have wv : IntKind.i64.wrap ((v1 : Int) - 1) = ((v1 - 1 : Nat) : Int) := by rw [IntWalk.i64_left]; unfold wrap64; omega
        clear hnext hxX hyY hz
        have hv0' : (0 : Int) < (v1 : Int) := by omega
        go_wp2_with fail
        have R1 := Lib.hid (Rx.begin x y hE.out hH.out hK.out)
        clear p0 p1
        generalize wr.alloc (.cells #[.int .i64 x, .int .i64 y] 113) = W1 at *
        generalize wr.heap.size = g at *
        go_roundw
        case rel =>
          refine ⟨k + 1, v1 - 1, HLT.out, by go_num, rfl, by rw [HNX.out]; exact rfl, ?_, R1.out.hp, R1.out.kt⟩
          rw [HNX.out]
          exact R1.out.ec
        case measure => have := HLT.out; simp [intOf]; omega
      · obtain rfl : v1 = 0 := by omega
        rw [if_neg hv0] at hnext
        obtain ⟨Q, hQ⟩ : ∃ Q, Q = xrunQ p e1.1 X Y := ⟨_, rfl⟩
        obtain ⟨RN, hRN⟩ : ∃ Q, Q = runN p e1.1 X Y := ⟨_, rfl⟩
        obtain ⟨RS, hRS⟩ : ∃ Q, Q = runS p e1 X Y := ⟨_, rfl⟩
        have kr : ∀ W, Xc W0 W a p m e1 → Calls Tryd.prog 99 #[.pointer (some ⟨a.P, 0, none⟩), .int .i64 x, .int .i64 y, .int .i64 (p.h : Int)] W fun E W' => E = .returned (.bool Q) ∧ Below W.heap.size W W' := fun W K => by
          rw [hQ, hxX, hyY]
          exact xrun_c K X Y (by unfold inB at hz; omega) (by unfold inB at hz; omega)
        have kl : Q = true → ∀ W, Xc W0 W a p m e1 → Calls Tryd.prog 100 #[.pointer (some ⟨a.P, 0, none⟩), .int .i64 x, .int .i64 y] W fun E W' => E = .returned (.int .i64 (RN : Int)) ∧ Xc W0 W' a p m RS ∧ Kt W W' := fun hq W K => by
          have h4 : Y + 4 ≤ p.h := by
            rw [hQ] at hq
            unfold xrunQ quietQ at hq
            simp at hq
            omega
          rw [hRN, hRS, hxX, hyY]
          exact xrunl_c K X Y (by unfold inB at hz; omega) h4 (by omega)
        have hrn : 1 ≤ RN ∧ RN ≤ 4 := by rw [hRN]; exact runN_in _ _ _ _
        rw [← hQ, ← hRN, ← hRS] at hnext
        have hcl : clnS p e1 (x, y) = if (e1.1.s x y || e1.1.t x y) = true then e1 else codeS p e1 x y := rfl
        clear hQ hRN hRS hxX hyY
        cases Q with
        | true =>
          rw [if_pos rfl] at hnext
          have HNX := Lib.hid hnext
          have kq := kl rfl
          clear kl
          have wv : IntKind.i64.wrap ((RN : Int) - 1) = ((RN - 1 : Nat) : Int) := by rw [IntWalk.i64_left]; unfold wrap64; omega
          clear hnext hcl hz hrn
          go_wp2_with fail
          have R1 := Lib.hid (Rx.begin x y hE.out hH.out hK.out)
          clear p0 p1
          generalize wr.alloc (.cells #[.int .i64 x, .int .i64 y] 113) = W1 at *
          generalize wr.heap.size = g at *
          obtain ⟨d0, b0, b1⟩ := R1.out.cell
          have kr1 := kr _ R1.out.ec
          go_wp2_with (first | (go_at_call 99; (with_reducible refine kr1.mono ?_); rintro e wn ⟨rfl, hb⟩; have R2 := Lib.hid (R1.out.step hb); clear hb; obtain ⟨f0, f1, f2⟩ := R2.out.cell; have kl2 := kq _ R2.out.ec) | (go_at_call 100; (with_reducible refine kl2.mono ?_); rintro e wn ⟨rfl, H3, K3⟩; have R3 := Lib.hid (R2.out.next H3 K3); clear H3 K3))
          go_roundw
          case rel =>
            refine ⟨k + 1, RN - 1, HLT.out, by go_num, rfl, by rw [HNX.out]; exact rfl, ?_, R3.out.hp, R3.out.kt⟩
            rw [HNX.out]
            exact R3.out.ec
          case measure => have := HLT.out; simp [intOf]; omega
        | false =>
          rw [if_neg (by decide), hcl] at hnext
          clear kl hcl hrn
          go_wp2_with fail
          have R0 := Lib.hid (Rx.begin x y hE.out hH.out hK.out)
          clear p0 p1
          generalize wr.alloc (.cells #[.int .i64 x, .int .i64 y] 113) = W1 at *
          generalize wr.heap.size = g at *
          obtain ⟨d0, b0, b1⟩ := R0.out.cell
          have kr1 := kr _ R0.out.ec
          clear kr
          go_wp2_with (first | (go_at_call 99; (with_reducible refine kr1.mono ?_); rintro e wn ⟨rfl, hb⟩; have R1 := Lib.hid (R0.out.step hb); clear hb))
          clear d0 b0 b1 kr1
          obtain ⟨s, hs⟩ : ∃ s, s = e1.1.s x y := ⟨_, rfl⟩
          obtain ⟨t, ht⟩ : ∃ t, t = e1.1.t x y := ⟨_, rfl⟩
          rw [← hs, ← ht] at hnext
          have HNX := Lib.hid hnext
          have kg : ∀ X : RxF W0 W a p m e1 (some ⟨b, 0, none⟩) L g x y, Calls Tryd.prog 65 #[.pointer (some ⟨a.A, 0, none⟩), .int .i64 x, .int .i64 y] X.w fun e w' => e = .returned (.bool s) ∧ Below X.w.heap.size X.w w' := fun X => by rw [hs]; exact rsignificant_c X.ok.ec.rb x y
          have kt : ∀ X : RxF W0 W a p m e1 (some ⟨b, 0, none⟩) L g x y, Calls Tryd.prog 67 #[.pointer (some ⟨a.A, 0, none⟩), .int .i64 x, .int .i64 y] X.w fun e w' => e = .returned (.bool t) ∧ Below X.w.heap.size X.w w' := fun X => by rw [ht]; exact rtouched_c X.ok.ec.rb x y
          have kc := fun W (K : Xc W0 W a p m e1) => xcode_c K x y hz (by omega)
          clear hs ht hnext hz
          cases s with
          | true =>
            have hx0 := fun X : RxF W0 W a p m e1 (some ⟨b, 0, none⟩) L g x y => X.ok.cell.1
            have hx1 := fun X : RxF W0 W a p m e1 (some ⟨b, 0, none⟩) L g x y => X.ok.cell.2.1
            have hx2 := fun X : RxF W0 W a p m e1 (some ⟨b, 0, none⟩) L g x y => X.ok.cell.2.2
            have hst : ∀ (X : RxF W0 W a p m e1 (some ⟨b, 0, none⟩) L g x y) (w' : World), Below X.w.heap.size X.w w' → ∃ Y : RxF W0 W a p m e1 (some ⟨b, 0, none⟩) L g x y, w' = Y.w := fun X w' hb => ⟨⟨w', X.ok.step hb⟩, rfl⟩
            have hne : Nonempty (RxF W0 W a p m e1 (some ⟨b, 0, none⟩) L g x y) := ⟨⟨_, R1.out⟩⟩
            refine wp_region_in (fun X : RxF W0 W a p m e1 (some ⟨b, 0, none⟩) L g x y => X.w) (by kernel_rfl) (by kernel_rfl) ⟨⟨_, R1.out.step (Below.refl _ _).drew⟩, rfl⟩ ?_
            repeat (first | go_big_quiet_step ((first | (go_at_call 65; exact call_in (kg _) (hst _)))) | quiet_step ((first | (go_at_call 65; exact call_in (kg _) (hst _)))))
            refine wpQuiet_nil ?_
            intro _ hw'
            obtain ⟨⟨W2, R20⟩, hw''⟩ := hw'
            subst hw''
            have R2 := Lib.hid R20
            clear R20 hx0 hx1 hx2 hst hne
            go_wp2_with fail
            go_roundw
            case rel =>
              refine ⟨k + 1, 0, HLT.out, by go_num, rfl, by rw [HNX.out]; rfl, ?_, R2.out.hp, R2.out.kt⟩
              rw [HNX.out]; rw [if_pos (by simp)]
              exact R2.out.ec
            case measure => have := HLT.out; simp [intOf]; omega
          | false =>
            cases t with
            | true =>
              have hx0 := fun X : RxF W0 W a p m e1 (some ⟨b, 0, none⟩) L g x y => X.ok.cell.1
              have hx1 := fun X : RxF W0 W a p m e1 (some ⟨b, 0, none⟩) L g x y => X.ok.cell.2.1
              have hx2 := fun X : RxF W0 W a p m e1 (some ⟨b, 0, none⟩) L g x y => X.ok.cell.2.2
              have hst : ∀ (X : RxF W0 W a p m e1 (some ⟨b, 0, none⟩) L g x y) (w' : World), Below X.w.heap.size X.w w' → ∃ Y : RxF W0 W a p m e1 (some ⟨b, 0, none⟩) L g x y, w' = Y.w := fun X w' hb => ⟨⟨w', X.ok.step hb⟩, rfl⟩
              have hne : Nonempty (RxF W0 W a p m e1 (some ⟨b, 0, none⟩) L g x y) := ⟨⟨_, R1.out⟩⟩
              refine wp_region_in (fun X : RxF W0 W a p m e1 (some ⟨b, 0, none⟩) L g x y => X.w) (by kernel_rfl) (by kernel_rfl) ⟨⟨_, R1.out.step (Below.refl _ _).drew⟩, rfl⟩ ?_
              repeat (first | go_big_quiet_step ((first | (go_at_call 65; exact call_in (kg _) (hst _)) | (go_at_call 67; exact call_in (kt _) (hst _)))) | quiet_step ((first | (go_at_call 65; exact call_in (kg _) (hst _)) | (go_at_call 67; exact call_in (kt _) (hst _)))))
              refine wpQuiet_nil ?_
              intro _ hw'
              obtain ⟨⟨W2, R20⟩, hw''⟩ := hw'
              subst hw''
              have R2 := Lib.hid R20
              clear R20 hx0 hx1 hx2 hst hne
              go_wp2_with fail
              go_roundw
              case rel =>
                refine ⟨k + 1, 0, HLT.out, by go_num, rfl, by rw [HNX.out]; rfl, ?_, R2.out.hp, R2.out.kt⟩
                rw [HNX.out]; rw [if_pos (by simp)]
                exact R2.out.ec
              case measure => have := HLT.out; simp [intOf]; omega
            | false =>
              have hx0 := fun X : RxF W0 W a p m e1 (some ⟨b, 0, none⟩) L g x y => X.ok.cell.1
              have hx1 := fun X : RxF W0 W a p m e1 (some ⟨b, 0, none⟩) L g x y => X.ok.cell.2.1
              have hx2 := fun X : RxF W0 W a p m e1 (some ⟨b, 0, none⟩) L g x y => X.ok.cell.2.2
              have hst : ∀ (X : RxF W0 W a p m e1 (some ⟨b, 0, none⟩) L g x y) (w' : World), Below X.w.heap.size X.w w' → ∃ Y : RxF W0 W a p m e1 (some ⟨b, 0, none⟩) L g x y, w' = Y.w := fun X w' hb => ⟨⟨w', X.ok.step hb⟩, rfl⟩
              have hne : Nonempty (RxF W0 W a p m e1 (some ⟨b, 0, none⟩) L g x y) := ⟨⟨_, R1.out⟩⟩
              refine wp_region_in (fun X : RxF W0 W a p m e1 (some ⟨b, 0, none⟩) L g x y => X.w) (by kernel_rfl) (by kernel_rfl) ⟨⟨_, R1.out.step (Below.refl _ _).drew⟩, rfl⟩ ?_
              repeat (first | go_big_quiet_step ((first | (go_at_call 65; exact call_in (kg _) (hst _)) | (go_at_call 67; exact call_in (kt _) (hst _)))) | quiet_step ((first | (go_at_call 65; exact call_in (kg _) (hst _)) | (go_at_call 67; exact call_in (kt _) (hst _)))))
              refine wpQuiet_nil ?_
              intro _ hw'
              obtain ⟨⟨W2, R20⟩, hw''⟩ := hw'
              subst hw''
              have R2 := Lib.hid R20
              clear R20 hx0 hx1 hx2 hst hne
              clear R1 kg kt
              obtain ⟨c0, b0, b1⟩ := R2.out.cell
              have kc2 := kc _ R2.out.ec
              generalize codeS p e1 x y = e2 at *
              go_wp2_with (first | (go_at_call 95; (with_reducible refine kc2.mono ?_); rintro e w3 ⟨rfl, H3, K3⟩; have R3 := Lib.hid (R2.out.next H3 K3); clear H3 K3))
              go_roundw
              case rel =>
                refine ⟨k + 1, 0, HLT.out, by go_num, rfl, by rw [HNX.out]; rfl, ?_, R3.out.hp, R3.out.kt⟩
                rw [HNX.out]; rw [if_neg (by decide)]
                exact R3.out.ec
              case measure => have := HLT.out; simp [intOf]; omega
    · have hkl : k = L.length := by omega
      subst hkl
      rw [List.take_length, HSC.out] at hE
      have hlen : eC.2.length ≤ 940000 := by
        have h1 := (stK_all p L (0, e) (by show 0 ≤ 3; omega)).2
        rw [HSC.out] at h1
        have h2 := HL.out
        have h3 := HSL.out
        simp only at h1
        omega
      have HLN := Lib.hid hlen
      clear hlen hV hk
      simp only at hE
      go_wp2_with fail
      obtain ⟨Wo, rfl⟩ : ∃ Wo, Wo = wr := ⟨_, rfl⟩
      go_loopw [66] (fun i wr => ∃ k : Nat, k ≤ L.length ∧ i = .int .i64 (k : Int) ∧ Hid (Xc W0 wr a p m (offS p eC (L.take k))) ∧ Hid (HoldsP wr sc L) ∧ Hid (Kt W wr)) (fun i _ => (L.length - (intOf i).toNat))
      case atStart => exact ⟨0, by omega, rfl, hE.out, hH.out, hK.out⟩
      case round =>
        obtain ⟨k, hk, rfl, hE, hH, hK⟩ := hrel
        by_cases hlt : k < L.length
        · obtain ⟨b, rfl, p0, p1⟩ := hH.out.at hlt
          have hnext : offS p eC (L.take (k + 1)) = touchS p (offS p eC (L.take k)) L[k].1 L[k].2 false := foldl_take (fun (e : Es) (z : Int × Int) => touchS p e z.1 z.2 false) eC L k hlt
          obtain ⟨e2, he2⟩ : ∃ e2, e2 = offS p eC (L.take k) := ⟨_, rfl⟩
          rw [← he2] at hE hnext
          obtain ⟨z, hz0⟩ : ∃ z, z = L[k] := ⟨_, rfl⟩
          rw [← hz0] at hnext p0 p1
          obtain ⟨x, y⟩ := z
          simp only at p0 p1 hnext
          have wk : IntKind.i64.wrap ((k : Int) + 1) = ((k + 1 : Nat) : Int) := by have := HSL.out; rw [IntWalk.i64_left]; unfold wrap64; omega
          have HLT := Lib.hid hlt
          have HNX := Lib.hid hnext
          clear hz0 he2 hnext
          go_wp2_with fail
          have R1 := Lib.hid (Rx.begin x y hE.out hH.out hK.out)
          clear p0 p1 hE hH hK
          generalize wr.alloc (.cells #[.int .i64 x, .int .i64 y] 113) = W1 at *
          generalize wr.heap.size = g at *
          have R4 := Lib.hid (R1.out.step (Below.refl _ _).drew)
          obtain ⟨d0, b0, b1⟩ := R4.out.cell
          have kt4 := xtouch_ce R4.out.ec x y false
          generalize touchS p e2 x y false = e3 at *
          go_region_held3 (fun w' => w'.cell? ⟨a.P, 0, none⟩ = some (.pointer (some ⟨a.A, 0, none⟩)) ∧ w'.cell? ⟨g, 0, none⟩ = some (.int .i64 x) ∧ w'.cell? ⟨g, 1, none⟩ = some (.int .i64 y))
            (first | (with_reducible exact ⟨d0, b0, b1⟩) | (with_reducible exact ⟨f0, f1, f2⟩) | fail)
            (first | (go_simp; go_at_call 47; (with_reducible refine kt4.mono ?_); rintro e w5 ⟨rfl, H5, K5⟩; have R5 := Lib.hid (R4.out.next H5 K5); clear H5 K5; obtain ⟨f0, f1, f2⟩ := R5.out.cell) | fail)
          all_goals
            go_wp2_with fail
            go_roundw
            case rel =>
              refine ⟨k + 1, HLT.out, by go_num, ?_, R5.out.hp, R5.out.kt⟩
              rw [HNX.out]
              exact R5.out.ec
            case measure => have := HLT.out; simp [intOf]; omega
        · have hkl : k = L.length := by omega
          subst hkl
          rw [List.take_length] at hE
          have hlen2 := offS_len p eC L
          obtain ⟨e2, he2⟩ : ∃ e2, e2 = offS p eC L := ⟨_, rfl⟩
          rw [← he2] at hE hlen2
          have HC2 := Lib.hid (show eF = endS p m.y e2 by rw [HCL.out, he2])
          have HL2 := Lib.hid (show e2.2.length ≤ 940000 by have := HLN.out; omega)
          clear hlen2 he2
          obtain ⟨-, -, -, -, c7, -⟩ := hE.out.cells
          obtain ⟨y, hy⟩ : ∃ y, y = m.y := ⟨_, rfl⟩
          rw [← hy] at c7 HC2
          clear hy
          cases y with
          | false =>
            go_wp2_with fail
            go_end0
            exact ⟨rfl, by rw [HC2.out]; exact hE.out, hK.out⟩
          | true =>
            have k1 := xput_c hE.out 18 1 (by have := HL2.out; omega)
            have k2 := fun W (K : Xc W0 W a p m (putS p e2 18 1)) => xput_c K 18 0 (by have := HL2.out; unfold putS; simp; omega)
            have k3 := fun W (K : Xc W0 W a p m (putS p (putS p e2 18 1) 18 0)) => xput_c K 18 1 (by have := HL2.out; unfold putS; simp; omega)
            have k4 := fun W (K : Xc W0 W a p m (putS p (putS p (putS p e2 18 1) 18 0) 18 1)) => xput_c K 18 0 (by have := HL2.out; unfold putS; simp; omega)
            have HE := Lib.hid (show eF = putS p (putS p (putS p (putS p e2 18 1) 18 0) 18 1) 18 0 from HC2.out)
            generalize putS p (putS p (putS p (putS p e2 18 1) 18 0) 18 1) 18 0 = e6 at *
            generalize putS p (putS p (putS p e2 18 1) 18 0) 18 1 = e5 at *
            generalize putS p (putS p e2 18 1) 18 0 = e4 at *
            generalize putS p e2 18 1 = e3 at *
            go_wp2_with (first | (go_at_call 96; first | ((with_reducible refine k1.mono ?_); rintro e w2 ⟨rfl, H3, K3⟩; have H3 := Lib.hid H3; have K3 := Lib.hid (hK.out.trans K3); have k2 := k2 _ H3.out) | ((with_reducible refine k2.mono ?_); rintro e w3 ⟨rfl, H4, K4⟩; have H4 := Lib.hid H4; have K4 := Lib.hid (K3.out.trans K4); have k3 := k3 _ H4.out) | ((with_reducible refine k3.mono ?_); rintro e w4 ⟨rfl, H5, K5⟩; have H5 := Lib.hid H5; have K5 := Lib.hid (K4.out.trans K5); have k4 := k4 _ H5.out) | ((with_reducible refine k4.mono ?_); rintro e w5 ⟨rfl, H6, K6⟩; have H6 := Lib.hid H6; have K6 := Lib.hid (K5.out.trans K6))))
            go_end0
            exact ⟨rfl, by rw [HE.out]; exact H6.out, K6.out⟩
end Go.Proofs.YtbhjapgioaiocaaDoor
