/-
  For every slice of bytes and every segment the statement MarkerAppends returns true; both read afterwards as before.
  Conditions: none beyond those of the given statement.
-/
import Derived.Test.YtagfmmkhgggfmaaMy
set_option maxRecDepth 100000
namespace Go.Proofs.Ytagfmmkhgggfmaa.markerAppends
open Go.ChangeShapes Go.WideShapes Go.ChangeAt Go.RowKit Go.Joins Go.Deep

set_option maxRecDepth 100000 in
set_option maxHeartbeats 2000000 in
theorem walk (bs : List Int) (s : Option Addr) (m : Nat) (c : Int) (p : List Int) (sp : Option Addr) (mp : Nat) (w : World) (hH : HoldsB w s bs) (hs : s = none → bs = [] ∧ m = 0) (hP : HoldsB w sp p) (hsp : sp = none → p = [] ∧ mp = 0) :
    Calls Try.prog 4 #[.slice s bs.length m, .agg #[.int .i64 c, .slice sp p.length mp]] w fun e w' => e = .returned (.bool true) ∧ Below w.heap.size w w' := by
  obtain ⟨W0, hW0⟩ : ∃ W0, W0 = w.alloc (.cells #[.int .i64 c, .slice sp p.length mp] 26) := ⟨_, rfl⟩
  have HB := Lib.hid (show Below w.heap.size w W0 by rw [hW0]; exact (Below.refl _ _).alloc (Nat.le_refl _) _)
  have HK := Lib.hid (show Blk W0 w.heap.size 26 #[.int .i64 c, .slice sp p.length mp] by rw [hW0]; exact Blk.new _ _ _)
  have HW0 := Lib.hid hW0
  clear hW0
  have HH := Lib.hid (hH.call HB.out)
  have HP := Lib.hid (hP.call HB.out)
  obtain ⟨k0, k1⟩ := HK.out.two
  clear hH hP
  by_cases h1 : 1000 < bs.length
  · have d1 : decide ((1000 : Int) < bs.length) = true := decide_eq_true (by omega)
    go_enter Try.func4, Try.ntmps4
    go_upto_region 1 with fail
    rw [← HW0.out]
    go_wp2_with (first | (go_at_call 14; (with_reducible refine (ex28_c _).mono ?_); rintro e wx ⟨rfl, hbx⟩; have HBX := Lib.hid (HB.out.trans (hbx.mono HB.out.size)); clear hbx) | fail)
    go_ret
    exact ⟨rfl, HBX.out⟩
  · have d1 : decide ((1000 : Int) < bs.length) = false := decide_eq_false (by omega)
    have d1' : decide (1000 < bs.length) = false := decide_eq_false (by omega)
    by_cases h2 : 70000 < p.length
    · have d2 : decide ((70000 : Int) < p.length) = true := decide_eq_true (by omega)
      have d2' : decide (70000 < p.length) = true := decide_eq_true (by omega)
      go_enter Try.func4, Try.ntmps4
      go_upto_region 1 with fail
      rw [← HW0.out]
      go_wp2_with (first | (go_at_call 14; (with_reducible refine (ex28_c _).mono ?_); rintro e wx ⟨rfl, hbx⟩; have HBX := Lib.hid (HB.out.trans (hbx.mono HB.out.size)); clear hbx) | fail)
      go_ret
      exact ⟨rfl, HBX.out⟩
    · have d2 : decide ((70000 : Int) < p.length) = false := decide_eq_false (by omega)
      have d2' : decide (70000 < p.length) = false := decide_eq_false (by omega)
      have KA := Lib.hid (fun (W : World) (h : HoldsB W s bs) (h2 : HoldsB W sp p) => append_c bs s m c p sp mp W h hs (by omega) h2 hsp (by omega))
      have KR := Lib.hid (fun (W : World) (h : HoldsB W s bs) (h2 : HoldsB W sp p) => rappend_c bs s m c p sp mp W h hs (by omega) h2 hsp (by omega))
      have cv0 := conv_b W0 bs s m HH.out
      obtain ⟨X, hX⟩ : ∃ X, X = Mk.ap bs c p := ⟨_, rfl⟩
      obtain ⟨E, hE⟩ : ∃ E, E = Mk.apE c p := ⟨_, rfl⟩
      rw [← hX, ← hE] at KA KR
      have eE : (E == E) = true := by simp
      clear hX hE hs hsp
      go_enter Try.func4, Try.ntmps4
      go_upto_region 1 with fail
      rw [← HW0.out]
      go_wp2_with (first | (go_at_call 15; (with_reducible refine (KA.out _ HH.out HP.out).mono ?_); rintro e w1 ⟨v1, rfl, ho, hb⟩; obtain ⟨_, s1, m1, rfl, hh, _, _⟩ := HoldsB.of_own ho; have HB1 := Lib.hid (HB.out.trans (hb.mono HB.out.size)); have H1 := Lib.hid hh; have HK1 := Lib.hid (HK.out.below hb); have HH1 := Lib.hid (HH.out.call hb); have HP1 := Lib.hid (HP.out.call hb); obtain ⟨c0, c1⟩ := HK1.out.two; clear ho hb hh) | (go_at_call 16; (with_reducible refine (KR.out _ HH1.out HP1.out).mono ?_); rintro e w2 ⟨v2, rfl, ho, hb⟩; obtain ⟨_, s2, m2, rfl, hh, _, _⟩ := HoldsB.of_own ho; have HB2 := Lib.hid (HB1.out.trans (hb.mono HB1.out.size)); have cv1 := conv_b _ _ s1 m1 (H1.out.call hb); have cv2 := conv_b _ _ s2 m2 hh; have cv3 := conv_b _ _ s m (HH1.out.call hb); clear ho hb hh) | (go_at_call 14; (with_reducible refine (ex28_c _).mono ?_); rintro e wx ⟨rfl, hbx⟩; have HBX := Lib.hid (HB2.out.trans (hbx.mono HB2.out.size)); clear hbx) | fail)
      go_ret
      exact ⟨rfl, HBX.out⟩

set_option maxRecDepth 100000 in
theorem lifted (os : Os) (started : os.Started) (H : Type) (enc : TypeId × Value → H) :
    ReturnsInHanded {} Try.checked os 4 .any (Rows.markerAppendsSpec.pre6 enc Try.prog Try.f4 Rows.markerAppendsRow.domain false) (Rows.markerAppendsSpec.post enc Try.prog Try.f4 false true false false) := by
  refine returnsInHanded_of_change (C := Try.checked) own started (by kernel_rfl) Try.func4
    (ChangeSpec.witness6 (enc := enc) (C := Try.checked) false ⟨#[], #[.slice none 0 0, .agg #[.int .i64 0, .slice none 0 0]], []⟩ 8 (by kernel_rfl) (by kernel_rfl) (by kernel_rfl) (by kernel_rfl)) ?_
  intro W base args ds gs before hval0 hW _ _
  have hval : ∀ (j : Nat) t v, Try.f4.params[j]? = some t → args[j]? = some v → Value.okWide Try.prog W .any base t v := hval0
  have hW' := hW
  obtain ⟨p, q, hA0, hV, rfl, _, _⟩ := hW
  have hA : DataW.TrodAll enc Try.prog W 0 (fun _ => true) true Try.f4.params.toList args.toList ds p := hA0
  rw [Try.params4] at hA hval
  obtain ⟨v0, vs0, d0, ds0, p0, q0, hargs, rfl, rfl, h0, r0⟩ := trodAll_cons hA
  obtain ⟨v1, vs1, d1, ds1, p1, q1, rfl, rfl, rfl, h1, r1⟩ := trodAll_cons r0
  obtain ⟨rfl, rfl, rfl⟩ := trodAll_nil r1
  obtain rfl : args = #[v0, v1] := by cases args; simp_all
  obtain ⟨rfl, rfl⟩ := trodVars_none hV
  clear hA0 hval0
  simp only [List.append_nil] at hW'
  have l0 : ∀ x ∈ p0, x.block < W.heap.size := fun x hx => hW'.lt x (by simp [hx])
  have l1 : ∀ x ∈ p1, x.block < W.heap.size := fun x hx => hW'.lt x (by simp [hx])
  obtain ⟨s0, b0, m0, rfl, hB0, hY0, hm0, hM0, hn0⟩ := open_bytes (hval 0 24 v0 rfl rfl) h0
  obtain ⟨c1, s1, b1, m1, rfl, hB1, hY1, hm1, hM1, hn1⟩ := open_seg (hval 1 26 v1 rfl rfl) h1
  refine (walk b0 s0 m0 c1 b1 s1 m1 W hB0 hn0 hB1 hn1).mono fun e W' ⟨he, hb⟩ => ?_
  subst he
  exact ⟨_, rfl, post_low (pa := p0 ++ (p1 ++ ([]))) (pv := []) hW' (fun _ _ _ => (trodAll_cons_mk (shut_bool Try.underlying4 _) trodAll_mk0)) (fun sp hsp => (trodAll_cons_mk (trod_low laidOut (by kernel_rfl) (of_decide_eq_true (by kernel_rfl)) h0 hb l0 (fun x hx => hsp x (by simp [hx]))) (trodAll_cons_mk (trod_low laidOut (by kernel_rfl) (of_decide_eq_true (by kernel_rfl)) h1 hb l1 (fun x hx => hsp x (by simp [hx]))) trodAll_mk0))) (fun _ _ => rfl) (by simp) hb (ok_one (by kernel_rfl) rfl (okWide_bool_mk Try.underlying4 _))⟩

theorem over : Rows.markerAppendsRow.holds Try.pinned (OpenSpec.ofChange Rows.markerAppendsSpec) :=
  OpenClaim.holds_of_wide 4 Try.f4 rfl rfl rfl rfl rfl rfl rfl ⟨rfl, rfl, rfl, rfl, rfl⟩ rfl rfl rfl rfl rfl (by kernel_rfl) Try.func4 (by kernel_rfl)
    (of_decide_eq_true (by kernel_rfl)) (by unfold Func.isWrapper; first | (rw [if_pos (by decide +kernel)]; kernel_rfl) | (rw [if_neg (by decide +kernel)]; exact ⟨rfl, rfl⟩))
    (fun os started H enc _ => lifted os started H enc)

theorem proved : Rows.MarkerAppendsSaid :=
  over
#print axioms proved
end Go.Proofs.Ytagfmmkhgggfmaa.markerAppends
