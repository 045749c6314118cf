/-
  Layer 15: the reference's significance pass.
-/
import Derived.Test.YtbhjapgioaiocaaDoorXb
import Derived.Test.YtbhjapgioaiocaaDoorEh
set_option maxRecDepth 100000
namespace Go.Proofs.YtbhjapgioaiocaaDoor
open Go.RowKit

/-- What a round of the reference's loop over a scan knows. -/
structure Rx (W0 W w1 : World) (a : Adx) (p : Pp) (m : Mo) (e : Es) (s : Option Addr) (L : List (Int × Int)) (g : Nat) (x y : Int) : Prop where
  ec : Xc W0 w1 a p m e
  hp : HoldsP w1 s L
  kt : Kt W w1
  bx : Blk w1 g 113 #[.int .i64 x, .int .i64 y]
structure RxF (W0 W : World) (a : Adx) (p : Pp) (m : Mo) (e : Es) (s : Option Addr) (L : List (Int × Int)) (g : Nat) (x y : Int) where
  w : World
  ok : Rx W0 W w a p m e s L g x y
section
variable {W0 W w1 w2 : World} {a : Adx} {p : Pp} {m : Mo} {e e2 : Es} {s : Option Addr} {L : List (Int × Int)} {g : Nat} {x y : Int}
theorem Rx.cell (h : Rx W0 W w1 a p m e s L g x y) : w1.cell? ⟨a.P, 0, none⟩ = some (.pointer (some ⟨a.A, 0, none⟩)) ∧ w1.cell? ⟨g, 0, none⟩ = some (.int .i64 x) ∧ w1.cell? ⟨g, 1, none⟩ = some (.int .i64 y) := ⟨h.ec.cells.1, h.bx.cell 0, h.bx.cell 1⟩
theorem Rx.step (h : Rx W0 W w1 a p m e s L g x y) (hb : Below w1.heap.size w1 w2) : Rx W0 W w2 a p m e s L g x y := ⟨h.ec.below hb, h.hp.call hb, h.kt.trans (kt_below hb), h.bx.below hb⟩
theorem Rx.next (h : Rx W0 W w1 a p m e s L g x y) (h2 : Xc W0 w2 a p m e2) (k : Kt w1 w2) : Rx W0 W w2 a p m e2 s L g x y := ⟨h2, h.hp.kt k, h.kt.trans k, k _ _ h.bx⟩
theorem Rx.begin (x y : Int) (h1 : Xc W0 w1 a p m e) (h2 : HoldsP w1 s L) (h3 : Kt W w1) : Rx W0 W (w1.alloc (.cells #[.int .i64 x, .int .i64 y] 113)) a p m e s L w1.heap.size x y :=
  have hb := below_alloc (Below.refl _ w1) (.cells #[.int .i64 x, .int .i64 y] 113)
  ⟨h1.below hb, h2.call hb, h3.trans (kt_below hb), Blk.new _ _ _⟩
end
theorem xtouch_ce {W0 W : World} {a : Adx} {p : Pp} {m : Mo} {e : Es} (K : Xc W0 W a p m e) (x y : Int) (b : Bool) : Calls Tryd.prog 47 #[.pointer (some ⟨a.A, 0, none⟩), .int .i64 x, .int .i64 y, .bool b] W fun E W' => E = .returned (.int .i64 (atE p.w p.h x y)) ∧ Xc W0 W' a p m (touchS p e x y b) ∧ Kt W W' :=
  (rtouch_c K.rb x y b).mono fun _ _ G => K.chg G (by rw [touchQ_v]; exact K.ok)
theorem xrefine_ce {W0 W : World} {a : Adx} {p : Pp} {m : Mo} {e : Es} (K : Xc W0 W a p m e) (x y : Int) : Calls Tryd.prog 49 #[.pointer (some ⟨a.A, 0, none⟩), .int .i64 x, .int .i64 y] W fun E W' => E = .returned (.int .i64 (atE p.w p.h x y)) ∧ Xc W0 W' a p m (refnS p e x y) ∧ Kt W W' :=
  (rrefine_c K.rb x y).mono fun _ _ G => K.chg G (by rw [refineQ_v]; exact K.ok)
theorem Xc.len {W0 W : World} {a : Adx} {p : Pp} {m : Mo} {e : Es} (H : Xc W0 W a p m e) : p.w ≤ 64 ∧ p.h ≤ 64 := by have := H.rb.fit; unfold fits at this; omega
set_option maxHeartbeats 8000000 in
theorem xsigp_c {W0 W : World} {a : Adx} {p : Pp} {m : Mo} {e : Es} (H : Xc W0 W a p m e) (hl : e.2.length ≤ 900000) (sc : Option Addr) (cap : Nat) (hP : HoldsP W sc (scan p.w p.h)) : Calls Tryd.prog 59 #[.pointer (some ⟨a.P, 0, none⟩), .slice sc (scan p.w p.h).length cap] W (XG W0 W a p m ((scan p.w p.h).foldl (sigS p) e)) := by
  obtain ⟨hw, hh⟩ := H.len
  have HSL := Lib.hid (scan_l p.w p.h hw hh)
  have HIN := Lib.hid (fun z (hz : z ∈ scan p.w p.h) => scan_in hz)
  have HL := Lib.hid hl
  have HH := Lib.hid H
  have HP := Lib.hid hP
  generalize scan p.w p.h = L at *
  clear H hw hh hl hP
  go_enter Tryd.func59, Tryd.ntmps59
  go_wp2_with fail
  go_loopw [8] (fun i wr => ∃ k : Nat, k ≤ L.length ∧ i = .int .i64 (k : Int) ∧ Hid (Xc W0 wr a p m ((L.take k).foldl (sigS p) e)) ∧ Hid (HoldsP wr sc L) ∧ Hid (Kt W wr)) (fun i _ => (L.length - (intOf i).toNat))
  case atStart => exact ⟨0, by omega, rfl, HH.out, HP.out, Kt.refl _⟩
  case round =>
    obtain ⟨k, hk, rfl, hE, hH, hK⟩ := hrel
    by_cases hlt : k < L.length
    · obtain ⟨b, rfl, p0, p1⟩ := hH.out.at hlt
      have hz := HIN.out _ (List.getElem_mem hlt)
      have hnext := foldl_take (sigS p) e L k hlt
      obtain ⟨e1, he1⟩ : ∃ e1, e1 = (L.take k).foldl (sigS p) e := ⟨_, rfl⟩
      have hlen : e1.2.length ≤ 999990 := by
        have h1 := foldl_len (sigS p) 2 (sigS_len p) (L.take k) e
        rw [← he1, List.length_take] at h1
        have := HL.out
        have := HSL.out
        omega
      rw [← he1] at hE hnext
      obtain ⟨z, hz0⟩ : ∃ z, z = L[k] := ⟨_, rfl⟩
      rw [← hz0] at hz hnext p0 p1
      obtain ⟨x, y⟩ := z
      simp only at p0 p1 hz hnext
      have wk : IntKind.i64.wrap ((k : Int) + 1) = ((k + 1 : Nat) : Int) := by have := HSL.out; rw [IntWalk.i64_left]; unfold wrap64; omega
      have HLT := Lib.hid hlt
      clear hz0 he1
      go_wp2_with fail
      have R1 := Lib.hid (Rx.begin x y hE.out hH.out hK.out)
      clear p0 p1
      generalize wr.alloc (.cells #[.int .i64 x, .int .i64 y] 113) = W1 at *
      generalize wr.heap.size = g at *
      obtain ⟨s, hs⟩ : ∃ s, s = e1.1.s x y := ⟨_, rfl⟩
      obtain ⟨nn, hnn⟩ : ∃ t, t = nbH e1.1 x y + nbV e1.1 x y p.c + nbD e1.1 x y p.c := ⟨_, rfl⟩
      have hstep : sigS p e1 (x, y) = if (!s && decide (0 < nn)) = true then touchS p (codeS p e1 x y) x y true else e1 := by rw [hs, hnn]; rfl
      rw [hstep] at hnext
      have HNX := Lib.hid hnext
      have kg : ∀ X : RxF W0 W a p m e1 (some ⟨b, 0, none⟩) L g x y, Calls Tryd.prog 65 #[.pointer (some ⟨a.A, 0, none⟩), .int .i64 x, .int .i64 y] X.w fun e w' => e = .returned (.bool s) ∧ Below X.w.heap.size X.w w' := fun X => by rw [hs]; exact rsignificant_c X.ok.ec.rb x y
      have kn : ∀ X : RxF W0 W a p m e1 (some ⟨b, 0, none⟩) L g x y, Calls Tryd.prog 94 #[.pointer (some ⟨a.P, 0, none⟩), .int .i64 x, .int .i64 y] X.w fun e w' => e = .returned (.int .i64 nn) ∧ Below X.w.heap.size X.w w' := fun X => by rw [hnn]; exact xnear_c X.ok.ec x y hz
      have kc := fun W (K : Xc W0 W a p m e1) => xcode_c K x y hz (by omega)
      clear hs hnn hstep hnext hz hlen hE hH hK
      cases s with
      | true =>
        have hx0 := fun X : RxF W0 W a p m e1 (some ⟨b, 0, none⟩) L g x y => X.ok.cell.1
        have hx1 := fun X : RxF W0 W a p m e1 (some ⟨b, 0, none⟩) L g x y => X.ok.cell.2.1
        have hx2 := fun X : RxF W0 W a p m e1 (some ⟨b, 0, none⟩) L g x y => X.ok.cell.2.2
        have hst : ∀ (X : RxF W0 W a p m e1 (some ⟨b, 0, none⟩) L g x y) (w' : World), Below X.w.heap.size X.w w' → ∃ Y : RxF W0 W a p m e1 (some ⟨b, 0, none⟩) L g x y, w' = Y.w := fun X w' hb => ⟨⟨w', X.ok.step hb⟩, rfl⟩
        have hne : Nonempty (RxF W0 W a p m e1 (some ⟨b, 0, none⟩) L g x y) := ⟨⟨_, R1.out⟩⟩
        refine wp_region_in (fun X : RxF W0 W a p m e1 (some ⟨b, 0, none⟩) L g x y => X.w) (by kernel_rfl) (by kernel_rfl) ⟨⟨_, R1.out.step (Below.refl _ _).drew⟩, rfl⟩ ?_
        repeat (first | go_big_quiet_step ((first | (go_at_call 65; exact call_in (kg _) (hst _)))) | quiet_step ((first | (go_at_call 65; exact call_in (kg _) (hst _)))))
        refine wpQuiet_nil ?_
        intro _ hw'
        obtain ⟨⟨W2, R20⟩, hw''⟩ := hw'
        subst hw''
        have R2 := Lib.hid R20
        clear R20 hx0 hx1 hx2 hst hne
        go_wp2_with fail
        go_roundw
        case rel =>
          refine ⟨k + 1, HLT.out, by go_num, ?_, R2.out.hp, R2.out.kt⟩
          rw [HNX.out]; simp only [Bool.not_true, Bool.false_and]; rw [if_neg (by decide)]
          exact R2.out.ec
        case measure => have := HLT.out; simp [intOf]; omega
      | false =>
        by_cases hn0 : 0 < nn
        · have HN0 := Lib.hid hn0
          have hx0 := fun X : RxF W0 W a p m e1 (some ⟨b, 0, none⟩) L g x y => X.ok.cell.1
          have hx1 := fun X : RxF W0 W a p m e1 (some ⟨b, 0, none⟩) L g x y => X.ok.cell.2.1
          have hx2 := fun X : RxF W0 W a p m e1 (some ⟨b, 0, none⟩) L g x y => X.ok.cell.2.2
          have hst : ∀ (X : RxF W0 W a p m e1 (some ⟨b, 0, none⟩) L g x y) (w' : World), Below X.w.heap.size X.w w' → ∃ Y : RxF W0 W a p m e1 (some ⟨b, 0, none⟩) L g x y, w' = Y.w := fun X w' hb => ⟨⟨w', X.ok.step hb⟩, rfl⟩
          have hne : Nonempty (RxF W0 W a p m e1 (some ⟨b, 0, none⟩) L g x y) := ⟨⟨_, R1.out⟩⟩
          refine wp_region_in (fun X : RxF W0 W a p m e1 (some ⟨b, 0, none⟩) L g x y => X.w) (by kernel_rfl) (by kernel_rfl) ⟨⟨_, R1.out.step (Below.refl _ _).drew⟩, rfl⟩ ?_
          repeat (first | go_big_quiet_step ((first | (go_at_call 65; exact call_in (kg _) (hst _)) | (go_at_call 94; exact call_in (kn _) (hst _)))) | quiet_step ((first | (go_at_call 65; exact call_in (kg _) (hst _)) | (go_at_call 94; exact call_in (kn _) (hst _)))))
          refine wpQuiet_nil ?_
          intro _ hw'
          obtain ⟨⟨W2, R20⟩, hw''⟩ := hw'
          subst hw''
          have R2 := Lib.hid R20
          clear R20 hx0 hx1 hx2 hst hne
          clear R1 kg kn
          obtain ⟨c0, b0, b1⟩ := R2.out.cell
          have kc2 := kc _ R2.out.ec
          generalize codeS p e1 x y = e2 at *
          go_wp2_with (first | (go_at_call 95; (with_reducible refine kc2.mono ?_); rintro e w3 ⟨rfl, H3, K3⟩; have R3 := Lib.hid (R2.out.next H3 K3); clear H3 K3))
          have R4 := Lib.hid (R3.out.step (Below.refl _ _).drew)
          clear c0 b0 b1
          obtain ⟨d0, b0, b1⟩ := R4.out.cell
          have kt4 := xtouch_ce R4.out.ec x y true
          generalize touchS p e2 x y true = e3 at *
          go_region_held3 (fun w' => w'.cell? ⟨a.P, 0, none⟩ = some (.pointer (some ⟨a.A, 0, none⟩)) ∧ w'.cell? ⟨g, 0, none⟩ = some (.int .i64 x) ∧ w'.cell? ⟨g, 1, none⟩ = some (.int .i64 y))
            (first | (with_reducible exact ⟨d0, b0, b1⟩) | (with_reducible exact ⟨f0, f1, f2⟩) | fail)
            (first | (go_simp; go_at_call 47; (with_reducible refine kt4.mono ?_); rintro e w5 ⟨rfl, H5, K5⟩; have R5 := Lib.hid (R4.out.next H5 K5); clear H5 K5; obtain ⟨f0, f1, f2⟩ := R5.out.cell) | fail)
          all_goals
            go_wp2_with fail
            go_roundw
            case rel =>
              refine ⟨k + 1, HLT.out, by go_num, ?_, R5.out.hp, R5.out.kt⟩
              rw [HNX.out, decide_eq_true HN0.out]; rw [if_pos (by decide)]
              exact R5.out.ec
            case measure => have := HLT.out; simp [intOf]; omega
        · have HN0 := Lib.hid hn0
          have hx0 := fun X : RxF W0 W a p m e1 (some ⟨b, 0, none⟩) L g x y => X.ok.cell.1
          have hx1 := fun X : RxF W0 W a p m e1 (some ⟨b, 0, none⟩) L g x y => X.ok.cell.2.1
          have hx2 := fun X : RxF W0 W a p m e1 (some ⟨b, 0, none⟩) L g x y => X.ok.cell.2.2
          have hst : ∀ (X : RxF W0 W a p m e1 (some ⟨b, 0, none⟩) L g x y) (w' : World), Below X.w.heap.size X.w w' → ∃ Y : RxF W0 W a p m e1 (some ⟨b, 0, none⟩) L g x y, w' = Y.w := fun X w' hb => ⟨⟨w', X.ok.step hb⟩, rfl⟩
          have hne : Nonempty (RxF W0 W a p m e1 (some ⟨b, 0, none⟩) L g x y) := ⟨⟨_, R1.out⟩⟩
          refine wp_region_in (fun X : RxF W0 W a p m e1 (some ⟨b, 0, none⟩) L g x y => X.w) (by kernel_rfl) (by kernel_rfl) ⟨⟨_, R1.out.step (Below.refl _ _).drew⟩, rfl⟩ ?_
          repeat (first | go_big_quiet_step ((first | (go_at_call 65; exact call_in (kg _) (hst _)) | (go_at_call 94; exact call_in (kn _) (hst _)))) | quiet_step ((first | (go_at_call 65; exact call_in (kg _) (hst _)) | (go_at_call 94; exact call_in (kn _) (hst _)))))
          refine wpQuiet_nil ?_
          intro _ hw'
          obtain ⟨⟨W2, R20⟩, hw''⟩ := hw'
          subst hw''
          have R2 := Lib.hid R20
          clear R20 hx0 hx1 hx2 hst hne
          go_wp2_with fail
          go_roundw
          case rel =>
            refine ⟨k + 1, HLT.out, by go_num, ?_, R2.out.hp, R2.out.kt⟩
            rw [HNX.out, decide_eq_false HN0.out]; rw [if_neg (by decide)]
            exact R2.out.ec
          case measure => have := HLT.out; simp [intOf]; omega
    · have hkl : k = L.length := by omega
      subst hkl
      rw [List.take_length] at hE
      go_wp2_with fail
      go_end0
      exact ⟨rfl, hE.out, hK.out⟩
end Go.Proofs.YtbhjapgioaiocaaDoor
