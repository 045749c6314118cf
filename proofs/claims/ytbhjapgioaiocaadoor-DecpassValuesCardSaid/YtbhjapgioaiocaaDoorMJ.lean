/-
  Layer 16: the reference's significance pass.
  Layer 16: the reference's refinement pass.
-/
import Derived.Test.YtbhjapgioaiocaaDoorMI
import Derived.Test.YtbhjapgioaiocaaDoorEh
import Derived.Test.YtbhjapgioaiocaaDoorME
set_option maxRecDepth 100000
namespace Go.Proofs.YtbhjapgioaiocaaDoor
open Go.RowKit

/-- What a round of the reference's loop over a scan knows. -/
structure Ry (W0 W w1 : World) (a : Ady) (bits : List Int) (p : Pp) (m : Mo) (e : St × List Sy) (s : Option Addr) (L : List (Int × Int)) (g : Nat) (x y : Int) : Prop where
  ec : Yc W0 w1 a bits p m e
  hp : HoldsP w1 s L
  kt : Kt W w1
  bx : Blk w1 g 113 #[.int .i64 x, .int .i64 y]
structure RyF (W0 W : World) (a : Ady) (bits : List Int) (p : Pp) (m : Mo) (e : St × List Sy) (s : Option Addr) (L : List (Int × Int)) (g : Nat) (x y : Int) where
  w : World
  ok : Ry W0 W w a bits p m e s L g x y
section
variable {W0 W w1 w2 : World} {a : Ady} {bits : List Int} {p : Pp} {m : Mo} {e e2 : St × List Sy} {s : Option Addr} {L : List (Int × Int)} {g : Nat} {x y : Int}
theorem Ry.cell (h : Ry W0 W w1 a bits p m e s L g x y) : w1.cell? ⟨a.P, 0, none⟩ = some (.pointer (some ⟨a.A, 0, none⟩)) ∧ w1.cell? ⟨g, 0, none⟩ = some (.int .i64 x) ∧ w1.cell? ⟨g, 1, none⟩ = some (.int .i64 y) := ⟨h.ec.cells.1, h.bx.cell 0, h.bx.cell 1⟩
theorem Ry.step (h : Ry W0 W w1 a bits p m e s L g x y) (hb : Below w1.heap.size w1 w2) : Ry W0 W w2 a bits p m e s L g x y := ⟨h.ec.below hb, h.hp.call hb, h.kt.trans (kt_below hb), h.bx.below hb⟩
theorem Ry.next (h : Ry W0 W w1 a bits p m e s L g x y) (h2 : Yc W0 w2 a bits p m e2) (k : Kt w1 w2) : Ry W0 W w2 a bits p m e2 s L g x y := ⟨h2, h.hp.kt k, h.kt.trans k, k _ _ h.bx⟩
theorem Ry.begin (x y : Int) (h1 : Yc W0 w1 a bits p m e) (h2 : HoldsP w1 s L) (h3 : Kt W w1) : Ry W0 W (w1.alloc (.cells #[.int .i64 x, .int .i64 y] 113)) a bits p m e s L w1.heap.size x y :=
  have hb := below_alloc (Below.refl _ w1) (.cells #[.int .i64 x, .int .i64 y] 113)
  ⟨h1.below hb, h2.call hb, h3.trans (kt_below hb), Blk.new _ _ _⟩
end
theorem bitO_one (bits : List Int) (t : List Sy) (c : Int) : (bitO bits t c).2.length ≤ t.length + 1 := by rw [bitO_len]; exact Nat.le_refl _
set_option maxHeartbeats 8000000 in
theorem ysigp_c {W0 W : World} {a : Ady} {bits : List Int} {p : Pp} {m : Mo} {e : St × List Sy} (H : Yc W0 W a bits p m e) (hl : e.2.length ≤ 900000) (sc : Option Addr) (cap : Nat) (hP : HoldsP W sc (scan p.w p.h)) : Calls Tryd.prog 120 #[.pointer (some ⟨a.P, 0, none⟩), .slice sc (scan p.w p.h).length cap] W (YG W0 W a bits p m ((scan p.w p.h).foldl (dsigS p (bitO bits)) e)) := by
  obtain ⟨hw, hh⟩ := H.len
  have HSL := Lib.hid (scan_l p.w p.h hw hh)
  have HIN := Lib.hid (fun z (hz : z ∈ scan p.w p.h) => scan_in hz)
  have HL := Lib.hid hl
  have HH := Lib.hid H
  have HP := Lib.hid hP
  generalize scan p.w p.h = L at *
  clear H hw hh hl hP
  go_enter Tryd.func120, Tryd.ntmps120
  go_wp2_with fail
  go_loopw [8] (fun i wr => ∃ k : Nat, k ≤ L.length ∧ i = .int .i64 (k : Int) ∧ Hid (Yc W0 wr a bits p m ((L.take k).foldl (dsigS p (bitO bits)) e)) ∧ Hid (HoldsP wr sc L) ∧ Hid (Kt W wr)) (fun i _ => (L.length - (intOf i).toNat))
  case atStart => exact ⟨0, by omega, rfl, HH.out, HP.out, Kt.refl _⟩
  case round =>
    obtain ⟨k, hk, rfl, hE, hH, hK⟩ := hrel
    by_cases hlt : k < L.length
    · obtain ⟨b, rfl, p0, p1⟩ := hH.out.at hlt
      have hz := HIN.out _ (List.getElem_mem hlt)
      have hnext := foldl_take (dsigS p (bitO bits)) e L k hlt
      obtain ⟨e1, he1⟩ : ∃ e1, e1 = (L.take k).foldl (dsigS p (bitO bits)) e := ⟨_, rfl⟩
      have hlen : e1.2.length ≤ 999990 := by
        have h1 := (rch_fold (fun e : St × List Sy => e.2) (dsigS p (bitO bits)) 2 (rch_sig (p := p)) (L.take k) e).cnt (f := List.length) (bitO_one bits)
        rw [← he1, List.length_take] at h1
        have := HL.out
        have := HSL.out
        omega
      rw [← he1] at hE hnext
      obtain ⟨z, hz0⟩ : ∃ z, z = L[k] := ⟨_, rfl⟩
      rw [← hz0] at hz hnext p0 p1
      obtain ⟨x, y⟩ := z
      simp only at p0 p1 hz hnext
      have wk : IntKind.i64.wrap ((k : Int) + 1) = ((k + 1 : Nat) : Int) := by have := HSL.out; rw [IntWalk.i64_left]; unfold wrap64; omega
      have HLT := Lib.hid hlt
      clear hz0 he1
      go_wp2_with fail
      have R1 := Lib.hid (Ry.begin x y hE.out hH.out hK.out)
      clear p0 p1
      generalize wr.alloc (.cells #[.int .i64 x, .int .i64 y] 113) = W1 at *
      generalize wr.heap.size = g at *
      obtain ⟨s, hs⟩ : ∃ s, s = e1.1.s x y := ⟨_, rfl⟩
      obtain ⟨nn, hnn⟩ : ∃ t, t = nbH e1.1 x y + nbV e1.1 x y p.c + nbD e1.1 x y p.c := ⟨_, rfl⟩
      have hstep : dsigS p (bitO bits) e1 (x, y) = if (!s && decide (0 < nn)) = true then dtouchS p (drestS p (bitO bits) e1 x y) x y true else e1 := by rw [hs, hnn]; rfl
      rw [hstep] at hnext
      have HNX := Lib.hid hnext
      have kg : ∀ X : RyF W0 W a bits p m e1 (some ⟨b, 0, none⟩) L g x y, Calls Tryd.prog 65 #[.pointer (some ⟨a.A, 0, none⟩), .int .i64 x, .int .i64 y] X.w fun e w' => e = .returned (.bool s) ∧ Below X.w.heap.size X.w w' := fun X => by rw [hs]; exact rsignificant_c X.ok.ec.rb x y
      have kn : ∀ X : RyF W0 W a bits p m e1 (some ⟨b, 0, none⟩) L g x y, Calls Tryd.prog 135 #[.pointer (some ⟨a.P, 0, none⟩), .int .i64 x, .int .i64 y] X.w fun e w' => e = .returned (.int .i64 nn) ∧ Below X.w.heap.size X.w w' := fun X => by rw [hnn]; exact ynear_c X.ok.ec x y hz
      have kc := fun W (K : Yc W0 W a bits p m e1) => ycode_c K x y hz (by omega)
      clear hs hnn hstep hnext hz hlen hE hH hK
      cases s with
      | true =>
        have hx0 := fun X : RyF W0 W a bits p m e1 (some ⟨b, 0, none⟩) L g x y => X.ok.cell.1
        have hx1 := fun X : RyF W0 W a bits p m e1 (some ⟨b, 0, none⟩) L g x y => X.ok.cell.2.1
        have hx2 := fun X : RyF W0 W a bits p m e1 (some ⟨b, 0, none⟩) L g x y => X.ok.cell.2.2
        have hst : ∀ (X : RyF W0 W a bits p m e1 (some ⟨b, 0, none⟩) L g x y) (w' : World), Below X.w.heap.size X.w w' → ∃ Y : RyF W0 W a bits p m e1 (some ⟨b, 0, none⟩) L g x y, w' = Y.w := fun X w' hb => ⟨⟨w', X.ok.step hb⟩, rfl⟩
        have hne : Nonempty (RyF W0 W a bits p m e1 (some ⟨b, 0, none⟩) L g x y) := ⟨⟨_, R1.out⟩⟩
        refine wp_region_in (fun X : RyF W0 W a bits p m e1 (some ⟨b, 0, none⟩) L g x y => X.w) (by kernel_rfl) (by kernel_rfl) ⟨⟨_, R1.out.step (Below.refl _ _).drew⟩, rfl⟩ ?_
        repeat (first | go_big_quiet_step ((first | (go_at_call 65; exact call_in (kg _) (hst _)))) | quiet_step ((first | (go_at_call 65; exact call_in (kg _) (hst _)))))
        refine wpQuiet_nil ?_
        intro _ hw'
        obtain ⟨⟨W2, R20⟩, hw''⟩ := hw'
        subst hw''
        have R2 := Lib.hid R20
        clear R20 hx0 hx1 hx2 hst hne
        go_wp2_with fail
        go_roundw
        case rel =>
          refine ⟨k + 1, HLT.out, by go_num, ?_, R2.out.hp, R2.out.kt⟩
          rw [HNX.out]; simp only [Bool.not_true, Bool.false_and]; rw [if_neg (by decide)]
          exact R2.out.ec
        case measure => have := HLT.out; simp [intOf]; omega
      | false =>
        by_cases hn0 : 0 < nn
        · have HN0 := Lib.hid hn0
          have hx0 := fun X : RyF W0 W a bits p m e1 (some ⟨b, 0, none⟩) L g x y => X.ok.cell.1
          have hx1 := fun X : RyF W0 W a bits p m e1 (some ⟨b, 0, none⟩) L g x y => X.ok.cell.2.1
          have hx2 := fun X : RyF W0 W a bits p m e1 (some ⟨b, 0, none⟩) L g x y => X.ok.cell.2.2
          have hst : ∀ (X : RyF W0 W a bits p m e1 (some ⟨b, 0, none⟩) L g x y) (w' : World), Below X.w.heap.size X.w w' → ∃ Y : RyF W0 W a bits p m e1 (some ⟨b, 0, none⟩) L g x y, w' = Y.w := fun X w' hb => ⟨⟨w', X.ok.step hb⟩, rfl⟩
          have hne : Nonempty (RyF W0 W a bits p m e1 (some ⟨b, 0, none⟩) L g x y) := ⟨⟨_, R1.out⟩⟩
          refine wp_region_in (fun X : RyF W0 W a bits p m e1 (some ⟨b, 0, none⟩) L g x y => X.w) (by kernel_rfl) (by kernel_rfl) ⟨⟨_, R1.out.step (Below.refl _ _).drew⟩, rfl⟩ ?_
          repeat (first | go_big_quiet_step ((first | (go_at_call 65; exact call_in (kg _) (hst _)) | (go_at_call 135; exact call_in (kn _) (hst _)))) | quiet_step ((first | (go_at_call 65; exact call_in (kg _) (hst _)) | (go_at_call 135; exact call_in (kn _) (hst _)))))
          refine wpQuiet_nil ?_
          intro _ hw'
          obtain ⟨⟨W2, R20⟩, hw''⟩ := hw'
          subst hw''
          have R2 := Lib.hid R20
          clear R20 hx0 hx1 hx2 hst hne
          clear R1 kg kn
          obtain ⟨c0, b0, b1⟩ := R2.out.cell
          have kc2 := kc _ R2.out.ec
          generalize drestS p (bitO bits) e1 x y = e2 at *
          go_wp2_with (first | (go_at_call 136; (with_reducible refine kc2.mono ?_); rintro e w3 ⟨rfl, H3, K3⟩; have R3 := Lib.hid (R2.out.next H3 K3); clear H3 K3))
          have R4 := Lib.hid (R3.out.step (Below.refl _ _).drew)
          clear c0 b0 b1
          obtain ⟨d0, b0, b1⟩ := R4.out.cell
          have kt4 := ytouch_ce R4.out.ec x y true
          generalize dtouchS p e2 x y true = e3 at *
          go_region_held3 (fun w' => w'.cell? ⟨a.P, 0, none⟩ = some (.pointer (some ⟨a.A, 0, none⟩)) ∧ w'.cell? ⟨g, 0, none⟩ = some (.int .i64 x) ∧ w'.cell? ⟨g, 1, none⟩ = some (.int .i64 y))
            (first | (with_reducible exact ⟨d0, b0, b1⟩) | (with_reducible exact ⟨f0, f1, f2⟩) | fail)
            (first | (go_simp; go_at_call 47; (with_reducible refine kt4.mono ?_); rintro e w5 ⟨rfl, H5, K5⟩; have R5 := Lib.hid (R4.out.next H5 K5); clear H5 K5; obtain ⟨f0, f1, f2⟩ := R5.out.cell) | fail)
          all_goals
            go_wp2_with fail
            go_roundw
            case rel =>
              refine ⟨k + 1, HLT.out, by go_num, ?_, R5.out.hp, R5.out.kt⟩
              rw [HNX.out, decide_eq_true HN0.out]; rw [if_pos (by decide)]
              exact R5.out.ec
            case measure => have := HLT.out; simp [intOf]; omega
        · have HN0 := Lib.hid hn0
          have hx0 := fun X : RyF W0 W a bits p m e1 (some ⟨b, 0, none⟩) L g x y => X.ok.cell.1
          have hx1 := fun X : RyF W0 W a bits p m e1 (some ⟨b, 0, none⟩) L g x y => X.ok.cell.2.1
          have hx2 := fun X : RyF W0 W a bits p m e1 (some ⟨b, 0, none⟩) L g x y => X.ok.cell.2.2
          have hst : ∀ (X : RyF W0 W a bits p m e1 (some ⟨b, 0, none⟩) L g x y) (w' : World), Below X.w.heap.size X.w w' → ∃ Y : RyF W0 W a bits p m e1 (some ⟨b, 0, none⟩) L g x y, w' = Y.w := fun X w' hb => ⟨⟨w', X.ok.step hb⟩, rfl⟩
          have hne : Nonempty (RyF W0 W a bits p m e1 (some ⟨b, 0, none⟩) L g x y) := ⟨⟨_, R1.out⟩⟩
          refine wp_region_in (fun X : RyF W0 W a bits p m e1 (some ⟨b, 0, none⟩) L g x y => X.w) (by kernel_rfl) (by kernel_rfl) ⟨⟨_, R1.out.step (Below.refl _ _).drew⟩, rfl⟩ ?_
          repeat (first | go_big_quiet_step ((first | (go_at_call 65; exact call_in (kg _) (hst _)) | (go_at_call 135; exact call_in (kn _) (hst _)))) | quiet_step ((first | (go_at_call 65; exact call_in (kg _) (hst _)) | (go_at_call 135; exact call_in (kn _) (hst _)))))
          refine wpQuiet_nil ?_
          intro _ hw'
          obtain ⟨⟨W2, R20⟩, hw''⟩ := hw'
          subst hw''
          have R2 := Lib.hid R20
          clear R20 hx0 hx1 hx2 hst hne
          go_wp2_with fail
          go_roundw
          case rel =>
            refine ⟨k + 1, HLT.out, by go_num, ?_, R2.out.hp, R2.out.kt⟩
            rw [HNX.out, decide_eq_false HN0.out]; rw [if_neg (by decide)]
            exact R2.out.ec
          case measure => have := HLT.out; simp [intOf]; omega
    · have hkl : k = L.length := by omega
      subst hkl
      rw [List.take_length] at hE
      go_wp2_with fail
      go_end0
      exact ⟨rfl, hE.out, hK.out⟩
end Go.Proofs.YtbhjapgioaiocaaDoor
set_option maxRecDepth 100000
namespace Go.Proofs.YtbhjapgioaiocaaDoor
open Go.RowKit

set_option maxHeartbeats 8000000 in
theorem yrefp_c {W0 W : World} {a : Ady} {bits : List Int} {p : Pp} {m : Mo} {e : St × List Sy} (H : Yc W0 W a bits p m e) (hl : e.2.length ≤ 900000) (sc : Option Addr) (cap : Nat) (hP : HoldsP W sc (scan p.w p.h)) : Calls Tryd.prog 121 #[.pointer (some ⟨a.P, 0, none⟩), .slice sc (scan p.w p.h).length cap] W (YG W0 W a bits p m ((scan p.w p.h).foldl (drefS p (bitO bits)) e)) := by
  obtain ⟨hw, hh⟩ := H.len
  have HSL := Lib.hid (scan_l p.w p.h hw hh)
  have HIN := Lib.hid (fun z (hz : z ∈ scan p.w p.h) => scan_in hz)
  have HL := Lib.hid hl
  have HH := Lib.hid H
  have HP := Lib.hid hP
  generalize scan p.w p.h = L at *
  clear H hw hh hl hP
  go_enter Tryd.func121, Tryd.ntmps121
  go_wp2_with fail
  go_loopw [9] (fun i wr => ∃ k : Nat, k ≤ L.length ∧ i = .int .i64 (k : Int) ∧ Hid (Yc W0 wr a bits p m ((L.take k).foldl (drefS p (bitO bits)) e)) ∧ Hid (HoldsP wr sc L) ∧ Hid (Kt W wr)) (fun i _ => (L.length - (intOf i).toNat))
  case atStart => exact ⟨0, by omega, rfl, HH.out, HP.out, Kt.refl _⟩
  case round =>
    obtain ⟨k, hk, rfl, hE, hH, hK⟩ := hrel
    by_cases hlt : k < L.length
    · obtain ⟨b, rfl, p0, p1⟩ := hH.out.at hlt
      have hz := HIN.out _ (List.getElem_mem hlt)
      have hnext := foldl_take (drefS p (bitO bits)) e L k hlt
      obtain ⟨e1, he1⟩ : ∃ e1, e1 = (L.take k).foldl (drefS p (bitO bits)) e := ⟨_, rfl⟩
      have hlen : e1.2.length ≤ 999990 := by
        have h1 := (rch_fold (fun e : St × List Sy => e.2) (drefS p (bitO bits)) 2 (rch_ref (p := p)) (L.take k) e).cnt (f := List.length) (bitO_one bits)
        rw [← he1, List.length_take] at h1
        have := HL.out
        have := HSL.out
        omega
      rw [← he1] at hE hnext
      obtain ⟨z, hz0⟩ : ∃ z, z = L[k] := ⟨_, rfl⟩
      rw [← hz0] at hz hnext p0 p1
      obtain ⟨x, y⟩ := z
      simp only at p0 p1 hz hnext
      have wk : IntKind.i64.wrap ((k : Int) + 1) = ((k + 1 : Nat) : Int) := by have := HSL.out; rw [IntWalk.i64_left]; unfold wrap64; omega
      have HLT := Lib.hid hlt
      clear hz0 he1
      go_wp2_with fail
      have R1 := Lib.hid (Ry.begin x y hE.out hH.out hK.out)
      clear p0 p1
      generalize wr.alloc (.cells #[.int .i64 x, .int .i64 y] 113) = W1 at *
      generalize wr.heap.size = g at *
      obtain ⟨s, hs⟩ : ∃ s, s = e1.1.s x y := ⟨_, rfl⟩
      obtain ⟨t, ht⟩ : ∃ t, t = e1.1.t x y := ⟨_, rfl⟩
      have hstep : drefS p (bitO bits) e1 (x, y) = if (s && !t) = true then (touchQ p.w p.h (refineQ p.w p.h (if askB p (bitO bits) e1 (refC p e1.1 x y) = 1 then dincQ p e1.1 x y else e1.1) x y) x y true, (askE p (bitO bits) e1 (refC p e1.1 x y)).2) else e1 := by rw [hs, ht]; rfl
      rw [hstep] at hnext
      have HNX := Lib.hid hnext
      have kg : ∀ X : RyF W0 W a bits p m e1 (some ⟨b, 0, none⟩) L g x y, Calls Tryd.prog 65 #[.pointer (some ⟨a.A, 0, none⟩), .int .i64 x, .int .i64 y] X.w fun e w' => e = .returned (.bool s) ∧ Below X.w.heap.size X.w w' := fun X => by rw [hs]; exact rsignificant_c X.ok.ec.rb x y
      have kt : ∀ X : RyF W0 W a bits p m e1 (some ⟨b, 0, none⟩) L g x y, Calls Tryd.prog 67 #[.pointer (some ⟨a.A, 0, none⟩), .int .i64 x, .int .i64 y] X.w fun e w' => e = .returned (.bool t) ∧ Below X.w.heap.size X.w w' := fun X => by rw [ht]; exact rtouched_c X.ok.ec.rb x y
      clear hs ht hstep hnext hE hH hK
      cases s with
      | false =>
        have hx0 := fun X : RyF W0 W a bits p m e1 (some ⟨b, 0, none⟩) L g x y => X.ok.cell.1
        have hx1 := fun X : RyF W0 W a bits p m e1 (some ⟨b, 0, none⟩) L g x y => X.ok.cell.2.1
        have hx2 := fun X : RyF W0 W a bits p m e1 (some ⟨b, 0, none⟩) L g x y => X.ok.cell.2.2
        have hst : ∀ (X : RyF W0 W a bits p m e1 (some ⟨b, 0, none⟩) L g x y) (w' : World), Below X.w.heap.size X.w w' → ∃ Y : RyF W0 W a bits p m e1 (some ⟨b, 0, none⟩) L g x y, w' = Y.w := fun X w' hb => ⟨⟨w', X.ok.step hb⟩, rfl⟩
        have hne : Nonempty (RyF W0 W a bits p m e1 (some ⟨b, 0, none⟩) L g x y) := ⟨⟨_, R1.out⟩⟩
        refine wp_region_in (fun X : RyF W0 W a bits p m e1 (some ⟨b, 0, none⟩) L g x y => X.w) (by kernel_rfl) (by kernel_rfl) ⟨⟨_, R1.out.step (Below.refl _ _).drew⟩, rfl⟩ ?_
        repeat (first | go_big_quiet_step ((first | (go_at_call 65; exact call_in (kg _) (hst _)))) | quiet_step ((first | (go_at_call 65; exact call_in (kg _) (hst _)))))
        refine wpQuiet_nil ?_
        intro _ hw'
        obtain ⟨⟨W2, R20⟩, hw''⟩ := hw'
        subst hw''
        have R2 := Lib.hid R20
        clear R20 hx0 hx1 hx2 hst hne
        go_wp2_with fail
        go_roundw
        case rel =>
          refine ⟨k + 1, HLT.out, by go_num, ?_, R2.out.hp, R2.out.kt⟩
          rw [HNX.out]; rw [if_neg (by simp)]
          exact R2.out.ec
        case measure => have := HLT.out; simp [intOf]; omega
      | true =>
        cases t with
        | true =>
          have hx0 := fun X : RyF W0 W a bits p m e1 (some ⟨b, 0, none⟩) L g x y => X.ok.cell.1
          have hx1 := fun X : RyF W0 W a bits p m e1 (some ⟨b, 0, none⟩) L g x y => X.ok.cell.2.1
          have hx2 := fun X : RyF W0 W a bits p m e1 (some ⟨b, 0, none⟩) L g x y => X.ok.cell.2.2
          have hst : ∀ (X : RyF W0 W a bits p m e1 (some ⟨b, 0, none⟩) L g x y) (w' : World), Below X.w.heap.size X.w w' → ∃ Y : RyF W0 W a bits p m e1 (some ⟨b, 0, none⟩) L g x y, w' = Y.w := fun X w' hb => ⟨⟨w', X.ok.step hb⟩, rfl⟩
          have hne : Nonempty (RyF W0 W a bits p m e1 (some ⟨b, 0, none⟩) L g x y) := ⟨⟨_, R1.out⟩⟩
          refine wp_region_in (fun X : RyF W0 W a bits p m e1 (some ⟨b, 0, none⟩) L g x y => X.w) (by kernel_rfl) (by kernel_rfl) ⟨⟨_, R1.out.step (Below.refl _ _).drew⟩, rfl⟩ ?_
          repeat (first | go_big_quiet_step ((first | (go_at_call 65; exact call_in (kg _) (hst _)) | (go_at_call 67; exact call_in (kt _) (hst _)))) | quiet_step ((first | (go_at_call 65; exact call_in (kg _) (hst _)) | (go_at_call 67; exact call_in (kt _) (hst _)))))
          refine wpQuiet_nil ?_
          intro _ hw'
          obtain ⟨⟨W2, R20⟩, hw''⟩ := hw'
          subst hw''
          have R2 := Lib.hid R20
          clear R20 hx0 hx1 hx2 hst hne
          go_wp2_with fail
          go_roundw
          case rel =>
            refine ⟨k + 1, HLT.out, by go_num, ?_, R2.out.hp, R2.out.kt⟩
            rw [HNX.out]; rw [if_neg (by decide)]
            exact R2.out.ec
          case measure => have := HLT.out; simp [intOf]; omega
        | false =>
          have hx0 := fun X : RyF W0 W a bits p m e1 (some ⟨b, 0, none⟩) L g x y => X.ok.cell.1
          have hx1 := fun X : RyF W0 W a bits p m e1 (some ⟨b, 0, none⟩) L g x y => X.ok.cell.2.1
          have hx2 := fun X : RyF W0 W a bits p m e1 (some ⟨b, 0, none⟩) L g x y => X.ok.cell.2.2
          have hst : ∀ (X : RyF W0 W a bits p m e1 (some ⟨b, 0, none⟩) L g x y) (w' : World), Below X.w.heap.size X.w w' → ∃ Y : RyF W0 W a bits p m e1 (some ⟨b, 0, none⟩) L g x y, w' = Y.w := fun X w' hb => ⟨⟨w', X.ok.step hb⟩, rfl⟩
          have hne : Nonempty (RyF W0 W a bits p m e1 (some ⟨b, 0, none⟩) L g x y) := ⟨⟨_, R1.out⟩⟩
          refine wp_region_in (fun X : RyF W0 W a bits p m e1 (some ⟨b, 0, none⟩) L g x y => X.w) (by kernel_rfl) (by kernel_rfl) ⟨⟨_, R1.out.step (Below.refl _ _).drew⟩, rfl⟩ ?_
          repeat (first | go_big_quiet_step ((first | (go_at_call 65; exact call_in (kg _) (hst _)) | (go_at_call 67; exact call_in (kt _) (hst _)))) | quiet_step ((first | (go_at_call 65; exact call_in (kg _) (hst _)) | (go_at_call 67; exact call_in (kt _) (hst _)))))
          refine wpQuiet_nil ?_
          intro _ hw'
          obtain ⟨⟨W2, R20⟩, hw''⟩ := hw'
          subst hw''
          have R2 := Lib.hid R20
          clear R20 hx0 hx1 hx2 hst hne
          clear R1 kg kt
          go_wp2_with fail
          have R4 := Lib.hid (R2.out.step (Below.refl _ _).drew)
          obtain ⟨d0, b0, b1⟩ := R4.out.cell
          obtain ⟨r, hr⟩ : ∃ t, t = e1.1.r x y := ⟨_, rfl⟩
          obtain ⟨nn, hnn⟩ : ∃ t, t = nbH e1.1 x y + nbV e1.1 x y p.c + nbD e1.1 x y p.c := ⟨_, rfl⟩
          obtain ⟨nr, hnr⟩ : ∃ t, t = decide (0 < nn) := ⟨_, rfl⟩
          have eC : refC p e1.1 x y = Cx.refM (!r) nr := by unfold refC nearQ; rw [hr, hnr, hnn]
          rw [eC] at HNX
          have kr := rrefined_c R4.out.ec.rb x y
          have kn := fun W (K : Yc W0 W a bits p m e1) => ynear_c K x y hz
          have kx := fun W => Cx.refR_c (!r) nr W
          have kp := fun W (K : Yc W0 W a bits p m e1) => yask_c K (Cx.refM (!r) nr) (by omega)
          rw [← hr] at kr
          rw [← hnn] at kn
          have hnr2 : decide (0 < nn) = nr := hnr.symm
          obtain ⟨bt, hbt⟩ : ∃ t, t = askB p (bitO bits) e1 (Cx.refM (!r) nr) := ⟨_, rfl⟩
          have hb01 : bt = 0 ∨ bt = 1 := by rw [hbt]; exact askB_in _ _ _ _
          rw [← hbt] at kp HNX
          have q2 : (askE p (bitO bits) e1 (Cx.refM (!r) nr)).1 = e1.1 := rfl
          obtain ⟨e2, he2⟩ : ∃ t, t = askE p (bitO bits) e1 (Cx.refM (!r) nr) := ⟨_, rfl⟩
          rw [← he2] at kp q2 HNX
          clear hr hnn hnr eC hz hlen hbt he2
          generalize Cx.refM (!r) nr = C at *
          rcases hb01 with rfl | rfl
          · have kf := fun W (K : Yc W0 W a bits p m e2) => yrefine_ce K x y
            have kh := fun W (K : Yc W0 W a bits p m (refineQ p.w p.h e2.1 x y, e2.2)) => ytouch_ce K x y true
            go_region_held3 (fun w' => w'.cell? ⟨a.P, 0, none⟩ = some (.pointer (some ⟨a.A, 0, none⟩)) ∧ w'.cell? ⟨g, 0, none⟩ = some (.int .i64 x) ∧ w'.cell? ⟨g, 1, none⟩ = some (.int .i64 y))
              (first | (with_reducible exact ⟨d0, b0, b1⟩) | (with_reducible exact ⟨f0, f1, f2⟩) | (with_reducible exact ⟨g0, g1, g2⟩) | (with_reducible exact ⟨j0, j1, j2⟩) | fail)
              (first | (go_simp; go_at_call 69; (with_reducible refine kr.mono ?_); rintro e w5 ⟨rfl, hb⟩; have R5 := Lib.hid (R4.out.step hb); clear hb; obtain ⟨f0, f1, f2⟩ := R5.out.cell; have kn5 := kn _ R5.out.ec) | (go_simp; go_at_call 135; (with_reducible refine kn5.mono ?_); rintro e w6 ⟨rfl, hb⟩; have R6 := Lib.hid (R5.out.step hb); clear hb; obtain ⟨g0, g1, g2⟩ := R6.out.cell; have kp6 := kp _ R6.out.ec) | (go_simp; go_at_call 97; (with_reducible refine (kx _).mono ?_); rintro e wn ⟨rfl, rfl⟩) | (go_simp; go_at_call 137; (with_reducible refine kp6.mono ?_); rintro e w8 ⟨rfl, H8, K8⟩; have R8 := Lib.hid (R6.out.next H8 K8); clear H8 K8; obtain ⟨j0, j1, j2⟩ := R8.out.cell) | fail)
            all_goals
              go_wp2_with fail
              clear d0 b0 b1 f0 f1 f2 g0 g1 g2 j0 j1 j2
              have S1 := Lib.hid (R8.out.step (Below.refl _ _).drew)
              obtain ⟨d0, b0, b1⟩ := S1.out.cell
              have kf7 := kf _ S1.out.ec
              go_region_held3 (fun w' => w'.cell? ⟨a.P, 0, none⟩ = some (.pointer (some ⟨a.A, 0, none⟩)) ∧ w'.cell? ⟨g, 0, none⟩ = some (.int .i64 x) ∧ w'.cell? ⟨g, 1, none⟩ = some (.int .i64 y))
                (first | (with_reducible exact ⟨d0, b0, b1⟩) | (with_reducible exact ⟨f0, f1, f2⟩) | fail)
                (first | (go_simp; go_at_call 49; (with_reducible refine kf7.mono ?_); rintro e w9 ⟨rfl, H8, K8⟩; have S2 := Lib.hid (S1.out.next H8 K8); clear H8 K8; obtain ⟨f0, f1, f2⟩ := S2.out.cell) | fail)
            all_goals
              go_wp2_with fail
              clear d0 b0 b1 f0 f1 f2
              have S3 := Lib.hid (S2.out.step (Below.refl _ _).drew)
              obtain ⟨d0, b0, b1⟩ := S3.out.cell
              have kh9 := kh _ S3.out.ec
              go_region_held3 (fun w' => w'.cell? ⟨a.P, 0, none⟩ = some (.pointer (some ⟨a.A, 0, none⟩)) ∧ w'.cell? ⟨g, 0, none⟩ = some (.int .i64 x) ∧ w'.cell? ⟨g, 1, none⟩ = some (.int .i64 y))
                (first | (with_reducible exact ⟨d0, b0, b1⟩) | (with_reducible exact ⟨f0, f1, f2⟩) | fail)
                (first | (go_simp; go_at_call 47; (with_reducible refine kh9.mono ?_); rintro e w10 ⟨rfl, H10, K10⟩; have S4 := Lib.hid (S3.out.next H10 K10); clear H10 K10; obtain ⟨f0, f1, f2⟩ := S4.out.cell) | fail)
            all_goals
              go_wp2_with fail
              go_roundw
              case rel =>
                refine ⟨k + 1, HLT.out, by go_num, ?_, S4.out.hp, S4.out.kt⟩
                rw [HNX.out, if_pos (by decide), if_neg (by decide), ← q2]
                exact S4.out.ec
              case measure => have := HLT.out; simp [intOf]; omega
          · obtain ⟨v, hv⟩ : ∃ v, v = e2.1.v x y := ⟨_, rfl⟩
            obtain ⟨vv, hvv⟩ : ∃ vv, vv = v + if v < 0 then -(wgt p) else wgt p := ⟨_, rfl⟩
            have eD : dincQ p e2.1 x y = setQ p.w p.h e2.1 x y vv := by rw [hvv, hv]; rfl
            have kf := fun W (K : Yc W0 W a bits p m (dincQ p e2.1 x y, e2.2)) => yrefine_ce K x y
            have kh := fun W (K : Yc W0 W a bits p m (refineQ p.w p.h (dincQ p e2.1 x y) x y, e2.2)) => ytouch_ce K x y true
            have kv := fun W (K : Yc W0 W a bits p m e2) => rvalue_c K.rb x y
            have ki := fun W (K : Yc W0 W a bits p m e2) => yset_ce K x y vv
            rw [← hv] at kv
            rw [← eD] at ki
            have hok := R4.out.ec.ok x y
            have hs := R4.out.ec.hs
            rw [← q2, ← hv] at hok
            obtain ⟨z1, z2⟩ := wgt_in p.s hs
            have ew : wgt p = 2 ^ p.s := rfl
            rw [ew] at hvv
            unfold okV at hok
            have ws : IntKind.i64.wrap (2 ^ p.s) = 2 ^ p.s := by rw [IntWalk.i64_left]; unfold wrap64; omega
            have wu : IntKind.u64.wrap (p.s : Int) = (p.s : Int) := by unfold IntKind.wrap; simp [IntKind.bits, IntKind.signed]; omega
            have hmin : min p.s 64 = p.s := by omega
            have wn : v < 0 → IntKind.i64.wrap (v - 2 ^ p.s) = vv := fun h => by rw [if_pos h] at hvv; rw [IntWalk.i64_left]; unfold wrap64; omega
            have wp : ¬ v < 0 → IntKind.i64.wrap (v + 2 ^ p.s) = vv := fun h => by rw [if_neg h] at hvv; rw [IntWalk.i64_left]; unfold wrap64; omega
            rw [← q2] at HNX
            clear hv hvv hok eD ew
            generalize dincQ p e2.1 x y = q3 at *
            clear q2
            by_cases hv0 : v < 0
            all_goals
              first | have wv := wn hv0 | have wv := wp hv0
              clear wn wp
              go_region_held3 (fun w' => w'.cell? ⟨a.P, 0, none⟩ = some (.pointer (some ⟨a.A, 0, none⟩)) ∧ w'.cell? ⟨g, 0, none⟩ = some (.int .i64 x) ∧ w'.cell? ⟨g, 1, none⟩ = some (.int .i64 y))
                (first | (with_reducible exact ⟨d0, b0, b1⟩) | (with_reducible exact ⟨f0, f1, f2⟩) | (with_reducible exact ⟨g0, g1, g2⟩) | (with_reducible exact ⟨j0, j1, j2⟩) | fail)
                (first | (go_simp; go_at_call 69; (with_reducible refine kr.mono ?_); rintro e w5 ⟨rfl, hb⟩; have R5 := Lib.hid (R4.out.step hb); clear hb; obtain ⟨f0, f1, f2⟩ := R5.out.cell; have kn5 := kn _ R5.out.ec) | (go_simp; go_at_call 135; (with_reducible refine kn5.mono ?_); rintro e w6 ⟨rfl, hb⟩; have R6 := Lib.hid (R5.out.step hb); clear hb; obtain ⟨g0, g1, g2⟩ := R6.out.cell; have kp6 := kp _ R6.out.ec) | (go_simp; go_at_call 97; (with_reducible refine (kx _).mono ?_); rintro e wn ⟨rfl, rfl⟩) | (go_simp; go_at_call 137; (with_reducible refine kp6.mono ?_); rintro e w8 ⟨rfl, H8, K8⟩; have R8 := Lib.hid (R6.out.next H8 K8); clear H8 K8; obtain ⟨j0, j1, j2⟩ := R8.out.cell) | fail)
            all_goals
              go_wp2_with fail
              clear d0 b0 b1 f0 f1 f2 g0 g1 g2 j0 j1 j2
              have S0 := Lib.hid (R8.out.step (Below.refl _ _).drew)
              obtain ⟨d0, b0, b1⟩ := S0.out.cell
              have kv0 := kv _ S0.out.ec
              go_region_held3 (fun w' => w'.cell? ⟨a.P, 0, none⟩ = some (.pointer (some ⟨a.A, 0, none⟩)) ∧ w'.cell? ⟨g, 0, none⟩ = some (.int .i64 x) ∧ w'.cell? ⟨g, 1, none⟩ = some (.int .i64 y))
                (first | (with_reducible exact ⟨d0, b0, b1⟩) | (with_reducible exact ⟨f0, f1, f2⟩) | fail)
                (first | (go_simp; go_at_call 63; (with_reducible refine kv0.mono ?_); rintro e w9 ⟨rfl, hb⟩; have T1 := Lib.hid (S0.out.step hb); clear hb; obtain ⟨f0, f1, f2⟩ := T1.out.cell) | fail)
            all_goals
              go_wp2_with fail
              clear d0 b0 b1 f0 f1 f2
              have T2 := Lib.hid (T1.out.step (Below.refl _ _).drew)
              obtain ⟨d0, b0, b1⟩ := T2.out.cell
              obtain ⟨-, d3, -, -, -, -⟩ := T2.out.ec.cells
              have ki2 := ki _ T2.out.ec
              go_region_held3 (fun w' => w'.cell? ⟨a.P, 0, none⟩ = some (.pointer (some ⟨a.A, 0, none⟩)) ∧ w'.cell? ⟨g, 0, none⟩ = some (.int .i64 x) ∧ w'.cell? ⟨g, 1, none⟩ = some (.int .i64 y) ∧ w'.cell? ⟨a.P, 1, none⟩ = some (.int .i64 (p.s : Int)))
                (first | (with_reducible exact ⟨d0, b0, b1, d3⟩) | (with_reducible exact ⟨f0, f1, f2, f3⟩) | fail)
                (first | (go_simp; go_at_call 43; (with_reducible refine ki2.mono ?_); rintro e w10 ⟨rfl, H10, K10⟩; have T3 := Lib.hid (T2.out.next H10 K10); clear H10 K10; obtain ⟨f0, f1, f2⟩ := T3.out.cell; obtain ⟨-, f3, -, -, -, -⟩ := T3.out.ec.cells) | fail)
            all_goals
              go_wp2_with fail
              clear d0 b0 b1 f0 f1 f2 d3 f3
              have S1 := Lib.hid (T3.out.step (Below.refl _ _).drew)
              obtain ⟨d0, b0, b1⟩ := S1.out.cell
              have kf7 := kf _ S1.out.ec
              go_region_held3 (fun w' => w'.cell? ⟨a.P, 0, none⟩ = some (.pointer (some ⟨a.A, 0, none⟩)) ∧ w'.cell? ⟨g, 0, none⟩ = some (.int .i64 x) ∧ w'.cell? ⟨g, 1, none⟩ = some (.int .i64 y))
                (first | (with_reducible exact ⟨d0, b0, b1⟩) | (with_reducible exact ⟨f0, f1, f2⟩) | fail)
                (first | (go_simp; go_at_call 49; (with_reducible refine kf7.mono ?_); rintro e w9 ⟨rfl, H8, K8⟩; have S2 := Lib.hid (S1.out.next H8 K8); clear H8 K8; obtain ⟨f0, f1, f2⟩ := S2.out.cell) | fail)
            all_goals
              go_wp2_with fail
              clear d0 b0 b1 f0 f1 f2
              have S3 := Lib.hid (S2.out.step (Below.refl _ _).drew)
              obtain ⟨d0, b0, b1⟩ := S3.out.cell
              have kh9 := kh _ S3.out.ec
              go_region_held3 (fun w' => w'.cell? ⟨a.P, 0, none⟩ = some (.pointer (some ⟨a.A, 0, none⟩)) ∧ w'.cell? ⟨g, 0, none⟩ = some (.int .i64 x) ∧ w'.cell? ⟨g, 1, none⟩ = some (.int .i64 y))
                (first | (with_reducible exact ⟨d0, b0, b1⟩) | (with_reducible exact ⟨f0, f1, f2⟩) | fail)
                (first | (go_simp; go_at_call 47; (with_reducible refine kh9.mono ?_); rintro e w10 ⟨rfl, H10, K10⟩; have S4 := Lib.hid (S3.out.next H10 K10); clear H10 K10; obtain ⟨f0, f1, f2⟩ := S4.out.cell) | fail)
            all_goals
              go_wp2_with fail
              go_roundw
              case rel =>
                refine ⟨k + 1, HLT.out, by go_num, ?_, S4.out.hp, S4.out.kt⟩
                rw [HNX.out, if_pos (by decide), if_pos trivial]
                exact S4.out.ec
              case measure => have := HLT.out; simp [intOf]; omega
    · have hkl : k = L.length := by omega
      subst hkl
      rw [List.take_length] at hE
      go_wp2_with fail
      go_end0
      exact ⟨rfl, hE.out, hK.out⟩
end Go.Proofs.YtbhjapgioaiocaaDoor
