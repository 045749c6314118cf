/-
  For every slice of bytes, every packet, both choices of the markers and every number the statement PacketAppends returns true; the slices read afterwards as before.
  Conditions: none beyond those of the given statement.
-/
import Derived.Test.YtpnnmibdboelpaaCx
set_option maxRecDepth 100000
namespace Go.Proofs.Ytpnnmibdboelpaa.packetAppends
open Go.ChangeShapes Go.WideShapes Go.ChangeAt Go.RowKit Go.Joins Go.Deep

set_option maxRecDepth 100000 in
set_option maxHeartbeats 2000000 in
theorem walk (bs : List Int) (s : Option Addr) (m : Nat) (pi pj pk pl : Int) (hd bd : List Int) (sh sb : Option Addr) (mh mb : Nat) (sy fe : Bool) (q : Int) (w : World) (hH : HoldsB w s bs) (hs : s = none → bs = [] ∧ m = 0) (hB : Mk.bytes bs) (hP : HoldsB w sh hd ∧ Mk.bytes hd ∧ hd.length ≤ mh ∧ mh ≤ maxLen ∧ (sh = none → hd = [] ∧ mh = 0)) (hD : HoldsB w sb bd ∧ Mk.bytes bd ∧ bd.length ≤ mb ∧ mb ≤ maxLen ∧ (sb = none → bd = [] ∧ mb = 0)) (hZ : hd.length + bd.length ≤ 300000000000000) :
    Calls Try.prog 4 #[.slice s bs.length m, .agg #[.int .i64 pi, .int .i64 pj, .int .i64 pk, .int .i64 pl, .slice sh hd.length mh, .slice sb bd.length mb], .bool sy, .bool fe, .int .i64 q] w fun e w' => e = .returned (.bool true) ∧ Below w.heap.size w w' := by
  obtain ⟨W0, hW0⟩ : ∃ W0, W0 = w.alloc (.cells #[.int .i64 pi, .int .i64 pj, .int .i64 pk, .int .i64 pl, .slice sh hd.length mh, .slice sb bd.length mb] 29) := ⟨_, rfl⟩
  have HB := Lib.hid (show Below w.heap.size w W0 by rw [hW0]; exact (Below.refl _ _).alloc (Nat.le_refl _) _)
  have HK := Lib.hid (show Blk W0 w.heap.size 29 #[.int .i64 pi, .int .i64 pj, .int .i64 pk, .int .i64 pl, .slice sh hd.length mh, .slice sb bd.length mb] by rw [hW0]; exact Blk.new _ _ _)
  have HW0 := Lib.hid hW0
  clear hW0
  obtain ⟨c0, c1, c2, c3, c4, c5⟩ := load_pkt HK.out
  by_cases h1 : 1000 < bs.length
  · have d1 : decide ((1000 : Int) < bs.length) = true := decide_eq_true (by omega)
    have d1' : decide (1000 < bs.length) = true := decide_eq_true (by omega)
    clear hH hB hP hD
    go_enter Try.func4, Try.ntmps4
    go_upto_region 1 with fail
    rw [← HW0.out]
    go_wp2_with (first | (go_at_call 8; (with_reducible refine (ex27_c _).mono ?_); rintro e wx ⟨rfl, hbx⟩; have HBX := Lib.hid (HB.out.trans (hbx.mono HB.out.size)); clear hbx) | fail)
    go_ret
    exact ⟨rfl, HBX.out⟩
  have d1 : decide ((1000 : Int) < bs.length) = false := decide_eq_false (by omega)
  have d1' : decide (1000 < bs.length) = false := decide_eq_false (by omega)
  have w1 : IntKind.i64.wrap ((hd.length : Int) + (bd.length : Int)) = (hd.length : Int) + bd.length := IntWalk.i64_in _ (by omega)
  by_cases h2 : 2000 < hd.length + bd.length
  · have d2 : decide ((2000 : Int) < (hd.length : Int) + (bd.length : Int)) = true := decide_eq_true (by omega)
    clear hH hB hP hD
    go_enter Try.func4, Try.ntmps4
    go_upto_region 1 with fail
    rw [← HW0.out]
    go_wp2_with (first | (go_at_call 8; (with_reducible refine (ex27_c _).mono ?_); rintro e wx ⟨rfl, hbx⟩; have HBX := Lib.hid (HB.out.trans (hbx.mono HB.out.size)); clear hbx) | fail)
    go_ret
    exact ⟨rfl, HBX.out⟩
  have d2 : decide ((2000 : Int) < (hd.length : Int) + (bd.length : Int)) = false := decide_eq_false (by omega)
  have KA := Lib.hid (fun (W : World) (s' : Option Addr) (m' : Nat) (hb : Below w.heap.size w W) (h : HoldsB W s' bs) (hn : s' = none → bs = [] ∧ m' = 0) => append_c pi pj pk pl bs hd bd s' sh sb m' mh mb sy fe q W ⟨h, hP.1.call hb, hD.1.call hb, hn, hP.2.2.2.2, hD.2.2.2.2, hB, hP.2.1, hD.2.1, by omega, by omega⟩)
  have KR := Lib.hid (fun (W : World) (s' : Option Addr) (m' : Nat) (hb : Below w.heap.size w W) (h : HoldsB W s' bs) (hn : s' = none → bs = [] ∧ m' = 0) => rappend_c pi pj pk pl bs hd bd s' sh sb m' mh mb sy fe q W ⟨h, hP.1.call hb, hD.1.call hb, hn, hP.2.2.2.2, hD.2.2.2.2, hB, hP.2.1, hD.2.1, by omega, by omega⟩)
  unfold pkV at KA KR
  have HH := Lib.hid (hH.call HB.out)
  have HHw := Lib.hid hH
  have HN := Lib.hid hs
  have HLB := Lib.hid (show bs.length ≤ 1000 by omega)
  generalize pka bs hd bd sy fe q = X at *
  generalize pkE q = E at *
  have eE : (E == E) = true := by simp
  clear hH hB hP hD hs h1 h2
  go_enter Try.func4, Try.ntmps4
  go_upto_region 1 with fail
  rw [← HW0.out]
  go_upto_region 4 with (first | (at_builtin; refine wpApp rfl _ _ rfl W0.heap.size [] bs _ _ rfl (Rw.new W0 _ (Nat.le_refl _)) s m rfl (HH.out.call ((Below.refl _ _).alloc (Nat.le_refl _) _)) HN.out (by have := HLB.out; simp only [List.length_nil]; omega) ?_; intro L1 s1 m1 w1 HL1 R1; obtain rfl : L1 = bs := HL1.out.trans (List.nil_append _); have hh := HoldsB.of_own R1.out.own; have HN1 := Lib.hid (show s1 = none → L1 = [] ∧ m1 = 0 by obtain ⟨_, s3, m3, e3, _, _, h3⟩ := hh; injection e3 with a b c; subst a c; exact h3); clear hh) | fail)
  have B1 := Lib.hid (HB.out.trans (R1.out.below.mono HB.out.size))
  have HK1 := Lib.hid (HK.out.below R1.out.below)
  have HH1 := Lib.hid (HH.out.call R1.out.below)
  have HX1 := Lib.hid R1.out.holds
  clear c0 c1 c2 c3 c4 c5
  obtain ⟨c0, c1, c2, c3, c4, c5⟩ := load_pkt HK1.out
  go_upto_region 5 with (first | (go_at_call 11; (with_reducible refine (KA.out w1 s m B1.out HH1.out HN.out).mono ?_); rintro e w2 ⟨v2, rfl, ho, hb⟩; obtain ⟨_, s2, m2, rfl, hh, _, _⟩ := HoldsB.of_own ho; have HB2 := Lib.hid hb; have H2 := Lib.hid hh; clear ho hb hh) | fail)
  have B2 := Lib.hid (B1.out.trans (HB2.out.mono B1.out.size))
  have HK2 := Lib.hid (HK1.out.below HB2.out)
  have HH2 := Lib.hid (HH1.out.call HB2.out)
  have HX2 := Lib.hid (HX1.out.call HB2.out)
  clear c0 c1 c2 c3 c4 c5
  obtain ⟨c0, c1, c2, c3, c4, c5⟩ := load_pkt HK2.out
  go_upto_region 6 with (first | (go_at_call 12; (with_reducible refine (KR.out w2 s1 m1 B2.out HX2.out HN1.out).mono ?_); rintro e w3 ⟨v3, rfl, ho, hb⟩; obtain ⟨_, s3, m3, rfl, hh, _, _⟩ := HoldsB.of_own ho; have HB3 := Lib.hid hb; have H3 := Lib.hid hh; clear ho hb hh) | fail)
  have B3 := Lib.hid (B2.out.trans (HB3.out.mono B2.out.size))
  have k1 := same_c X s2 s3 m2 m3 w3 (H2.out.call HB3.out) H3.out
  have k2 := same_c L1 s s1 m m1 w3 (HH2.out.call HB3.out) (HX2.out.call HB3.out)
  clear c0 c1 c2 c3 c4 c5
  go_wp2_with (first | (go_at_call 13; first | ((with_reducible refine k1.mono ?_); rintro e wn ⟨rfl, rfl⟩) | ((with_reducible refine k2.mono ?_); rintro e wn ⟨rfl, rfl⟩)) | (go_at_call 8; (with_reducible refine (ex27_c _).mono ?_); rintro e wx ⟨rfl, hbx⟩; have HBX := Lib.hid (B3.out.trans (hbx.mono B3.out.size)); clear hbx) | fail)
  go_ret
  exact ⟨rfl, HBX.out⟩

set_option maxRecDepth 100000 in
theorem lifted (os : Os) (started : os.Started) (H : Type) (enc : TypeId × Value → H) :
    ReturnsInHanded {} Try.checked os 4 .any (Rows.packetAppendsSpec.pre6 enc Try.prog Try.f4 Rows.packetAppendsRow.domain false) (Rows.packetAppendsSpec.post enc Try.prog Try.f4 false true false false) := by
  refine returnsInHanded_of_change_sized (C := Try.checked) own started (by kernel_rfl) Try.func4
    (ChangeSpec.witness6 (enc := enc) (C := Try.checked) false ⟨#[], #[.slice none 0 0, .agg #[.int .i64 0, .int .i64 0, .int .i64 0, .int .i64 0, .slice none 0 0, .slice none 0 0], .bool false, .bool false, .int .i64 0], []⟩ 8 (by kernel_rfl) (by kernel_rfl) (by kernel_rfl) (by kernel_rfl)) ?_
  intro W base args ds gs before hval0 hW _ hsz0 _
  have hval : ∀ (j : Nat) t v, Try.f4.params[j]? = some t → args[j]? = some v → Value.okWide Try.prog W .any base t v := hval0
  have hW' := hW
  obtain ⟨p, q, hA0, hV, rfl, _, _⟩ := hW
  have hA : DataW.TrodAll enc Try.prog W 0 (fun _ => true) true Try.f4.params.toList args.toList ds p := hA0
  rw [Try.params4] at hA hval
  obtain ⟨v0, vs0, d0, ds0, p0, q0, hargs, rfl, rfl, h0, r0⟩ := trodAll_cons hA
  obtain ⟨v1, vs1, d1, ds1, p1, q1, rfl, rfl, rfl, h1, r1⟩ := trodAll_cons r0
  obtain ⟨v2, vs2, d2, ds2, p2, q2, rfl, rfl, rfl, h2, r2⟩ := trodAll_cons r1
  obtain ⟨v3, vs3, d3, ds3, p3, q3, rfl, rfl, rfl, h3, r3⟩ := trodAll_cons r2
  obtain ⟨v4, vs4, d4, ds4, p4, q4, rfl, rfl, rfl, h4, r4⟩ := trodAll_cons r3
  obtain ⟨rfl, rfl, rfl⟩ := trodAll_nil r4
  obtain rfl : args = #[v0, v1, v2, v3, v4] := by cases args; simp_all
  obtain ⟨rfl, rfl⟩ := trodVars_none hV
  have hz0 : ∀ n ∈ d1.weights Try.prog 29, n ≤ reachBytes := fun n hn => by
    have hsz' : (DataW.weightsEach Try.prog [22, 29, 4, 4, 3] [d0, d1, d2, d3, d4]).all (· ≤ reachBytes) = true := hsz0
    have := List.all_eq_true.1 hsz' n (DataW.weights_mem_each (j := 1) rfl rfl n hn)
    simpa using this
  clear hA0 hval0
  simp only [List.append_nil] at hW'
  have l0 : ∀ x ∈ p0, x.block < W.heap.size := fun x hx => hW'.lt x (by simp [hx])
  have l1 : ∀ x ∈ p1, x.block < W.heap.size := fun x hx => hW'.lt x (by simp [hx])
  have l2 : ∀ x ∈ p2, x.block < W.heap.size := fun x hx => hW'.lt x (by simp [hx])
  have l3 : ∀ x ∈ p3, x.block < W.heap.size := fun x hx => hW'.lt x (by simp [hx])
  have l4 : ∀ x ∈ p4, x.block < W.heap.size := fun x hx => hW'.lt x (by simp [hx])
  obtain ⟨s0, b0, m0, rfl, hB0, hY0, hm0, hM0, hn0⟩ := open_bytes (hval 0 22 v0 rfl rfl) h0
  obtain ⟨pi1, pj1, pk1, pl1, sh1, sb1, hd1, bd1, mh1, mb1, rfl, hH1, hB1, hZ1⟩ := open_pktZ (hval 1 29 v1 rfl rfl) h1 hz0
  obtain ⟨z2, rfl, _⟩ := open_bool Try.underlying4 (hval 2 4 v2 rfl rfl) h2
  obtain ⟨z3, rfl, _⟩ := open_bool Try.underlying4 (hval 3 4 v3 rfl rfl) h3
  obtain ⟨i4, rfl, _, _, wi4⟩ := open_int Try.underlying3 (hval 4 3 v4 rfl rfl) h4
  refine (walk b0 s0 m0 pi1 pj1 pk1 pl1 hd1 bd1 sh1 sb1 mh1 mb1 z2 z3 i4 W hB0 hn0 hY0 hH1 hB1 hZ1).mono fun e W' ⟨he, hb⟩ => ?_
  subst he
  exact ⟨_, rfl, post_low (pa := p0 ++ (p1 ++ (p2 ++ (p3 ++ (p4 ++ ([])))))) (pv := []) hW' (fun _ _ _ => (trodAll_cons_mk (shut_bool Try.underlying4 _) trodAll_mk0)) (fun sp hsp => (trodAll_cons_mk (trod_low laidOut (by kernel_rfl) (of_decide_eq_true (by kernel_rfl)) h0 hb l0 (fun x hx => hsp x (by simp [hx]))) (trodAll_cons_mk (trod_low laidOut (by kernel_rfl) (of_decide_eq_true (by kernel_rfl)) h1 hb l1 (fun x hx => hsp x (by simp [hx]))) (trodAll_cons_mk (trod_low laidOut (by kernel_rfl) (of_decide_eq_true (by kernel_rfl)) h2 hb l2 (fun x hx => hsp x (by simp [hx]))) (trodAll_cons_mk (trod_low laidOut (by kernel_rfl) (of_decide_eq_true (by kernel_rfl)) h3 hb l3 (fun x hx => hsp x (by simp [hx]))) (trodAll_cons_mk (trod_low laidOut (by kernel_rfl) (of_decide_eq_true (by kernel_rfl)) h4 hb l4 (fun x hx => hsp x (by simp [hx]))) trodAll_mk0)))))) (fun _ _ => rfl) (by simp) hb (ok_one (by kernel_rfl) rfl (okWide_bool_mk Try.underlying4 _))⟩

theorem over : Rows.packetAppendsRow.holds Try.pinned (OpenSpec.ofChange Rows.packetAppendsSpec) :=
  OpenClaim.holds_of_wide 4 Try.f4 rfl rfl rfl rfl rfl rfl rfl ⟨rfl, rfl, rfl, rfl, rfl⟩ rfl rfl rfl rfl rfl (by kernel_rfl) Try.func4 (by kernel_rfl)
    (of_decide_eq_true (by kernel_rfl)) (by unfold Func.isWrapper; first | (rw [if_pos (by decide +kernel)]; kernel_rfl) | (rw [if_neg (by decide +kernel)]; exact ⟨rfl, rfl⟩))
    (fun os started H enc _ => lifted os started H enc)

theorem proved : Rows.PacketAppendsSaid :=
  over
#print axioms proved
end Go.Proofs.Ytpnnmibdboelpaa.packetAppends
