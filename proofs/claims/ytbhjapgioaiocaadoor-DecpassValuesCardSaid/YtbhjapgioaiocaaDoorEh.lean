/-
  Layer 15: the significance and the refinement pass.
-/
import Derived.Test.YtbhjapgioaiocaaDoorEg
set_option maxRecDepth 100000
namespace Go.Proofs.YtbhjapgioaiocaaDoor
open Go.RowKit

theorem scan_in {w h : Nat} {z : Int × Int} (hz : z ∈ scan w h) : inB w h z.1 z.2 := by
  unfold scan scnP at hz
  obtain ⟨s, hs, hz⟩ := List.mem_flatMap.1 hz
  unfold strP at hz
  obtain ⟨x, hx, hz⟩ := List.mem_flatMap.1 hz
  obtain ⟨r, h1, h2, rfl⟩ := mem_col hz
  have := List.mem_range.1 hx
  have := List.mem_range.1 hs
  unfold inB
  simp only
  omega
theorem scan_l (w h : Nat) (hw : w ≤ 64) (hh : h ≤ 64) : (scan w h).length ≤ 8192 := by
  have := scnP_len w h ((h + 3) / 4) hw
  have : (h + 3) / 4 ≤ 16 := by omega
  unfold scan
  omega
/-- What a round of a loop over a scan knows: the coder, the list, the variable. -/
structure Rd (W0 W w1 : World) (a : Adr) (p : Pp) (e : Es) (s : Option Addr) (L : List (Int × Int)) (g : Nat) (x y : Int) : Prop where
  ec : Ec W0 w1 a p e
  hp : HoldsP w1 s L
  kt : Kt W w1
  bx : Blk w1 g 113 #[.int .i64 x, .int .i64 y]
theorem Rd.cell {W0 W w1 : World} {a : Adr} {p : Pp} {e : Es} {s : Option Addr} {L : List (Int × Int)} {g : Nat} {x y : Int} (h : Rd W0 W w1 a p e s L g x y) : w1.cell? ⟨a.P, 0, none⟩ = some (.pointer (some ⟨a.A, 0, none⟩)) ∧ w1.cell? ⟨g, 0, none⟩ = some (.int .i64 x) ∧ w1.cell? ⟨g, 1, none⟩ = some (.int .i64 y) ∧ w1.cell? ⟨a.P, 5, none⟩ = some (.func (.func 53) #[] #[.pointer (some ⟨a.G, 0, none⟩), .pointer (some ⟨a.L, 0, none⟩)]) := ⟨h.ec.pc.cell 0, h.bx.cell 0, h.bx.cell 1, h.ec.pc.cell 5⟩
theorem Rd.dn {W0 W w1 : World} {a : Adr} {p : Pp} {e : Es} {s : Option Addr} {L : List (Int × Int)} {g : Nat} {x y : Int} (h : Rd W0 W w1 a p e s L g x y) (n : Nat) : Rd W0 W (w1.drewN n) a p e s L g x y := ⟨h.ec.dn (dn_mk _ n), h.hp.call (drewN_below _ _), h.kt.trans (kt_below (drewN_below _ _)), h.bx.below (drewN_below _ _)⟩
theorem Rd.drew {W0 W w1 : World} {a : Adr} {p : Pp} {e : Es} {s : Option Addr} {L : List (Int × Int)} {g : Nat} {x y : Int} (h : Rd W0 W w1 a p e s L g x y) : Rd W0 W w1.drew a p e s L g x y := ⟨h.ec.below (Below.refl _ _).drew, h.hp.call (Below.refl _ _).drew, h.kt.trans (kt_below (Below.refl _ _).drew), h.bx.below (Below.refl _ _).drew⟩
theorem Rd.step {W0 W w1 w2 : World} {a : Adr} {p : Pp} {e e2 : Es} {s : Option Addr} {L : List (Int × Int)} {g : Nat} {x y : Int} (h : Rd W0 W w1 a p e s L g x y) (h2 : Ec W0 w2 a p e2) (k : Kt w1 w2) : Rd W0 W w2 a p e2 s L g x y := ⟨h2, h.hp.kt k, h.kt.trans k, k _ _ h.bx⟩
theorem Rd.begin {W0 W w1 : World} {a : Adr} {p : Pp} {e : Es} {s : Option Addr} {L : List (Int × Int)} (x y : Int) (h1 : Ec W0 w1 a p e) (h2 : HoldsP w1 s L) (h3 : Kt W w1) : Rd W0 W (w1.alloc (.cells #[.int .i64 x, .int .i64 y] 113)) a p e s L w1.heap.size x y :=
  have hb := below_alloc (Below.refl _ w1) (.cells #[.int .i64 x, .int .i64 y] 113)
  ⟨h1.below hb, h2.call hb, h3.trans (kt_below hb), Blk.new _ _ _⟩
theorem touch_ce {W0 W : World} {a : Adr} {p : Pp} {e : Es} (K : Ec W0 W a p e) (x y : Int) (b : Bool) : Calls Tryd.prog 46 #[.pointer (some ⟨a.A, 0, none⟩), .int .i64 x, .int .i64 y, .bool b] W fun E W' => E = .returned (.int .i64 (atE p.w p.h x y)) ∧ Ec W0 W' a p (touchS p e x y b) ∧ Kt W W' :=
  (touch_c K.cb x y b).mono fun _ _ G => K.chg G (by rw [touchQ_v]; exact K.ok)
theorem refine_ce {W0 W : World} {a : Adr} {p : Pp} {e : Es} (K : Ec W0 W a p e) (x y : Int) : Calls Tryd.prog 48 #[.pointer (some ⟨a.A, 0, none⟩), .int .i64 x, .int .i64 y] W fun E W' => E = .returned (.int .i64 (atE p.w p.h x y)) ∧ Ec W0 W' a p (refnS p e x y) ∧ Kt W W' :=
  (refine_c K.cb x y).mono fun _ _ G => K.chg G (by rw [refineQ_v]; exact K.ok)
set_option maxHeartbeats 8000000 in
theorem sigp_c {W0 W : World} {a : Adr} {p : Pp} {e : Es} (H : Ec W0 W a p e) (hl : e.2.length ≤ 900000) : Calls Tryd.prog 54 #[.pointer (some ⟨a.P, 0, none⟩)] W (EG W0 W a p ((scan p.w p.h).foldl (sigS p) e)) := by
  obtain ⟨hw, hh⟩ := H.len
  obtain ⟨c0, -, -, -, -, -⟩ := ec_cells H.pc
  have ks := size_c H.cb
  have kc := fun W => scan_yes p.w p.h H.cb.fit W
  have HSL := Lib.hid (scan_l p.w p.h hw hh)
  have HIN := Lib.hid (fun z (hz : z ∈ scan p.w p.h) => scan_in hz)
  have HL := Lib.hid hl
  have HH := Lib.hid H
  generalize scan p.w p.h = L at *
  clear H hw hh hl
  go_enter Tryd.func54, Tryd.ntmps54
  go_wp2_with (first | (go_at_call 77; (with_reducible refine ks.mono ?_); rintro e wa ⟨rfl, hBa⟩) | (go_at_call 87; (with_reducible refine (kc _).mono ?_); rintro e w1 ⟨s1, m1, rfl, hP, hB⟩; have HP := Lib.hid hP; have HB := Lib.hid (below_call hBa hB); clear hP hB))
  clear ks kc c0
  go_loopw [13] (fun i wr => ∃ k : Nat, k ≤ L.length ∧ i = .int .i64 (k : Int) ∧ Hid (Ec W0 wr a p ((L.take k).foldl (sigS p) e)) ∧ Hid (HoldsP wr s1 L) ∧ Hid (Kt W wr)) (fun i _ => (L.length - (intOf i).toNat))
  case atStart => exact ⟨0, by omega, rfl, HH.out.below HB.out, HP.out, kt_below HB.out⟩
  case round =>
    obtain ⟨k, hk, rfl, hE, hH, hK⟩ := hrel
    by_cases hlt : k < L.length
    · obtain ⟨b, rfl, p0, p1⟩ := hH.out.at hlt
      have hz := HIN.out _ (List.getElem_mem hlt)
      have hnext := foldl_take (sigS p) e L k hlt
      obtain ⟨e1, he1⟩ : ∃ e1, e1 = (L.take k).foldl (sigS p) e := ⟨_, rfl⟩
      have hlen : e1.2.length ≤ 999990 := by
        have h1 := foldl_len (sigS p) 2 (sigS_len p) (L.take k) e
        rw [← he1, List.length_take] at h1
        have := HL.out
        have := HSL.out
        omega
      rw [← he1] at hE hnext
      obtain ⟨z, hz0⟩ : ∃ z, z = L[k] := ⟨_, rfl⟩
      rw [← hz0] at hz hnext p0 p1
      obtain ⟨x, y⟩ := z
      simp only at p0 p1 hz hnext
      have wk : IntKind.i64.wrap ((k : Int) + 1) = ((k + 1 : Nat) : Int) := by have := HSL.out; rw [IntWalk.i64_left]; unfold wrap64; omega
      have HLT := Lib.hid hlt
      clear hz0 he1
      go_wp2_with fail
      have R1 := Lib.hid (Rd.begin x y hE.out hH.out hK.out)
      clear p0 p1
      obtain ⟨c0, b0, b1, c5⟩ := R1.out.cell
      generalize wr.alloc (.cells #[.int .i64 x, .int .i64 y] 113) = W1 at *
      generalize wr.heap.size = g at *
      obtain ⟨s, hs⟩ : ∃ s, s = e1.1.s x y := ⟨_, rfl⟩
      obtain ⟨nr, hnr⟩ : ∃ t, t = nearQ p e1.1 x y := ⟨_, rfl⟩
      have hstep : sigS p e1 (x, y) = if (!s && nr) = true then touchS p (codeS p e1 x y) x y true else e1 := by rw [hs, hnr]; rfl
      rw [hstep] at hnext
      have HNX := Lib.hid hnext
      have kg : ∀ n, Calls Tryd.prog 64 #[.pointer (some ⟨a.A, 0, none⟩), .int .i64 x, .int .i64 y] (W1.drewN n) fun e w' => e = .returned (.bool s) ∧ w' = W1.drewN n := fun n => by rw [hs]; exact (significant_c (R1.out.dn n).ec.cb x y).mono fun _ _ z => ⟨z.1, z.2.symm⟩
      have kn : ∀ n, Calls Tryd.prog 88 #[.pointer (some ⟨a.P, 0, none⟩), .int .i64 x, .int .i64 y] (W1.drewN n) fun e w' => e = .returned (.bool nr) ∧ ∃ m, w' = (W1.drewN n).drewN m := fun n => by rw [hnr]; exact near_c (R1.out.dn n).ec.cb (R1.out.dn n).ec.pc x y hz
      have kc := fun W (K : Ec W0 W a p e1) => code_c K x y hz (by omega)
      clear hs hnr hstep hnext hz hlen hE hH hK
      cases s with
      | true =>
        go_quiet ((go_at_call 64; exact Calls.quiet_of_same (kg _)))
        have R2 := Lib.hid (R1.out.dn nq)
        generalize W1.drewN nq = W2 at *
        go_wp2_with fail
        go_roundw
        case rel =>
          refine ⟨k + 1, HLT.out, by go_num, ?_, R2.out.hp, R2.out.kt⟩
          rw [HNX.out]; simp only [Bool.not_true, Bool.false_and]; rw [if_neg (by decide)]
          exact R2.out.ec
        case measure => have := HLT.out; simp [intOf]; omega
      | false =>
        cases nr with
        | false =>
          go_quiet ((first | (go_at_call 64; exact Calls.quiet_of_same (kg _)) | (go_at_call 88; exact Calls.quiet_of (kn _))))
          have R2 := Lib.hid (R1.out.dn nq)
          generalize W1.drewN nq = W2 at *
          go_wp2_with fail
          go_roundw
          case rel =>
            refine ⟨k + 1, HLT.out, by go_num, ?_, R2.out.hp, R2.out.kt⟩
            rw [HNX.out]; rw [if_neg (by decide)]
            exact R2.out.ec
          case measure => have := HLT.out; simp [intOf]; omega
        | true =>
          go_quiet ((first | (go_at_call 64; exact Calls.quiet_of_same (kg _)) | (go_at_call 88; exact Calls.quiet_of (kn _))))
          have R2 := Lib.hid (R1.out.dn nq)
          clear c0 b0 b1 c5 R1 kg kn
          generalize W1.drewN nq = W2 at *
          obtain ⟨c0, b0, b1, -⟩ := R2.out.cell
          have kc2 := kc _ R2.out.ec
          generalize codeS p e1 x y = e2 at *
          go_wp2_with (first | (go_at_call 89; (with_reducible refine kc2.mono ?_); rintro e w3 ⟨rfl, H3, K3⟩; have R3 := Lib.hid (R2.out.step H3 K3); clear H3 K3))
          have R4 := Lib.hid R3.out.drew
          clear c0 b0 b1
          obtain ⟨d0, b0, b1, -⟩ := R4.out.cell
          have kt4 := touch_ce R4.out.ec x y true
          generalize touchS p e2 x y true = e3 at *
          go_region_held3 (fun w' => w'.cell? ⟨a.P, 0, none⟩ = some (.pointer (some ⟨a.A, 0, none⟩)) ∧ w'.cell? ⟨g, 0, none⟩ = some (.int .i64 x) ∧ w'.cell? ⟨g, 1, none⟩ = some (.int .i64 y))
            (first | (with_reducible exact ⟨d0, b0, b1⟩) | (with_reducible exact ⟨f0, f1, f2⟩) | fail)
            (first | (go_simp; go_at_call 46; (with_reducible refine kt4.mono ?_); rintro e w5 ⟨rfl, H5, K5⟩; have R5 := Lib.hid (R4.out.step H5 K5); clear H5 K5; obtain ⟨f0, f1, f2, -⟩ := R5.out.cell) | fail)
          all_goals
            go_wp2_with fail
            go_roundw
            case rel =>
              refine ⟨k + 1, HLT.out, by go_num, ?_, R5.out.hp, R5.out.kt⟩
              rw [HNX.out]; rw [if_pos (by decide)]
              exact R5.out.ec
            case measure => have := HLT.out; simp [intOf]; omega
    · have hkl : k = L.length := by omega
      subst hkl
      rw [List.take_length] at hE
      go_wp2_with fail
      go_end0
      exact ⟨rfl, hE.out, hK.out⟩
end Go.Proofs.YtbhjapgioaiocaaDoor
