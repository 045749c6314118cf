/-
  For every packet, both choices of the fence, every number, place and byte the statement PacketDetects returns true; the slices read afterwards as before.
  Conditions: none beyond those of the given statement.
-/
import Derived.Test.YtpnnmibdboelpaaDa
set_option maxRecDepth 100000
namespace Go.Proofs.Ytpnnmibdboelpaa.packetDetects
open Go.ChangeShapes Go.WideShapes Go.ChangeAt Go.RowKit Go.Joins Go.Deep

set_option maxRecDepth 100000 in
set_option maxHeartbeats 2000000 in
theorem walk (pi pj pk pl : Int) (hd bd : List Int) (sh sb : Option Addr) (mh mb : Nat) (fe : Bool) (q i y : Int) (w : World) (hP : HoldsB w sh hd ∧ Mk.bytes hd ∧ hd.length ≤ mh ∧ mh ≤ maxLen ∧ (sh = none → hd = [] ∧ mh = 0)) (hD : HoldsB w sb bd ∧ Mk.bytes bd ∧ bd.length ≤ mb ∧ mb ≤ maxLen ∧ (sb = none → bd = [] ∧ mb = 0)) (hZ : hd.length + bd.length ≤ 300000000000000) (hy : 0 ≤ y ∧ y ≤ 255) :
    Calls Try.prog 6 #[.agg #[.int .i64 pi, .int .i64 pj, .int .i64 pk, .int .i64 pl, .slice sh hd.length mh, .slice sb bd.length mb], .bool fe, .int .i64 q, .int .i64 i, .int .u8 y] w fun e w' => e = .returned (.bool true) ∧ Below w.heap.size w w' := by
  obtain ⟨W0, hW0⟩ : ∃ W0, W0 = w.alloc (.cells #[.int .i64 pi, .int .i64 pj, .int .i64 pk, .int .i64 pl, .slice sh hd.length mh, .slice sb bd.length mb] 29) := ⟨_, rfl⟩
  have HB := Lib.hid (show Below w.heap.size w W0 by rw [hW0]; exact (Below.refl _ _).alloc (Nat.le_refl _) _)
  have HK := Lib.hid (show Blk W0 w.heap.size 29 #[.int .i64 pi, .int .i64 pj, .int .i64 pk, .int .i64 pl, .slice sh hd.length mh, .slice sb bd.length mb] by rw [hW0]; exact Blk.new _ _ _)
  have HW0 := Lib.hid hW0
  clear hW0
  obtain ⟨c0, c1, c2, c3, c4, c5⟩ := load_pkt HK.out
  have wz : IntKind.i64.wrap ((hd.length : Int) + (bd.length : Int)) = (hd.length : Int) + bd.length := IntWalk.i64_in _ (by omega)
  by_cases h2 : 1000 < hd.length + bd.length
  · have d2 : decide ((1000 : Int) < (hd.length : Int) + (bd.length : Int)) = true := decide_eq_true (by omega)
    clear hP hD
    go_enter Try.func6, Try.ntmps6
    go_upto_region 1 with fail
    rw [← HW0.out]
    go_wp2_with (first | (go_at_call 8; (with_reducible refine (ex27_c _).mono ?_); rintro e wx ⟨rfl, hbx⟩; have HBX := Lib.hid (HB.out.trans (hbx.mono HB.out.size)); clear hbx) | fail)
    go_ret
    exact ⟨rfl, HBX.out⟩
  have d2 : decide ((1000 : Int) < (hd.length : Int) + (bd.length : Int)) = false := decide_eq_false (by omega)
  by_cases h3 : q < 0
  · have d3 : decide (q < 0) = true := decide_eq_true h3
    clear hP hD
    go_enter Try.func6, Try.ntmps6
    go_upto_region 1 with fail
    rw [← HW0.out]
    go_wp2_with (first | (go_at_call 8; (with_reducible refine (ex27_c _).mono ?_); rintro e wx ⟨rfl, hbx⟩; have HBX := Lib.hid (HB.out.trans (hbx.mono HB.out.size)); clear hbx) | fail)
    go_ret
    exact ⟨rfl, HBX.out⟩
  have d3 : decide (q < 0) = false := decide_eq_false h3
  by_cases h4 : 65535 < q
  · have d4 : decide (65535 < q) = true := decide_eq_true h4
    clear hP hD
    go_enter Try.func6, Try.ntmps6
    go_upto_region 1 with fail
    rw [← HW0.out]
    go_wp2_with (first | (go_at_call 8; (with_reducible refine (ex27_c _).mono ?_); rintro e wx ⟨rfl, hbx⟩; have HBX := Lib.hid (HB.out.trans (hbx.mono HB.out.size)); clear hbx) | fail)
    go_ret
    exact ⟨rfl, HBX.out⟩
  have d4 : decide (65535 < q) = false := decide_eq_false h4
  have hRL : (rst hd bd fe).length < 1000000 := by
    unfold rst
    split <;> simp [Mk.dg_len] <;> omega
  have hRB := rst_bytes hP.2.1 hD.2.1 fe
  have hX : pka [] hd bd true fe q = px q (rst hd bd fe) := by
    unfold pka px
    rw [if_pos (by simp [seqB]; omega)]
    simp
  have KA := append_c pi pj pk pl [] hd bd none sh sb 0 mh mb true fe q W0 ⟨.inl rfl, hP.1.call HB.out, hD.1.call HB.out, fun _ => ⟨rfl, rfl⟩, hP.2.2.2.2, hD.2.2.2.2, fun x hx => by simp at hx, hP.2.1, hD.2.1, by simp, by omega⟩
  rw [hX, show pkE q = 0 by rw [pkE, if_pos (by simp [seqB]; omega)]] at KA
  unfold pkV at KA
  replace KA : Calls Try.prog 11 #[.slice none 0 0, .agg #[.int .i64 pi, .int .i64 pj, .int .i64 pk, .int .i64 pl, .slice sh hd.length mh, .slice sb bd.length mb], .bool true, .bool fe, .int .i64 q] W0 (GivesBE (px q (rst hd bd fe)) 0 W0) := KA
  have HF := Lib.hid (fr_px q (rst hd bd fe) ⟨by omega, by omega⟩ hRL)
  have HG := Lib.hid (fun (i : Nat) (y : Int) (hi : i < (px q (rst hd bd fe)).length) => fr_bad_set q (rst hd bd fe) ⟨by omega, by omega⟩ hRL hRB (i := i) (y := y) hi)
  have HXL := Lib.hid (show 11 ≤ (px q (rst hd bd fe)).length ∧ (px q (rst hd bd fe)).length ≤ 1000000 by
    have : (rst hd bd fe).length ≤ 2000 := by
      unfold rst
      split <;> simp [Mk.dg_len] <;> omega
    rw [px_len]; omega)
  have HXB := Lib.hid (show Mk.bytes (px q (rst hd bd fe)) from Mk.bytes_app (mkB_bytes _ _ _) hRB)
  clear hRL hRB hX hP hD h2 h3 h4
  generalize px q (rst hd bd fe) = X at *
  have HY := Lib.hid hy
  have en : (q != q) = false := by simp
  have el : ((X.length : Int) != (X.length : Int)) = false := by simp
  clear hy
  go_enter Try.func6, Try.ntmps6
  go_upto_region 1 with fail
  rw [← HW0.out]
  go_upto_region 4 with (first | (go_at_call 11; (with_reducible refine KA.mono ?_); rintro e w1 ⟨v1, rfl, ho, hb⟩; obtain ⟨g, cap, cur, rfl, hg, hk, hc, hv⟩ := own_blk ho (by have := HXL.out; omega); have HB1 := Lib.hid (HB.out.trans (hb.mono HB.out.size)); have K1 := Lib.hid hk; have HC := Lib.hid hv; have HCC := Lib.hid hc; have HGB := Lib.hid (Nat.le_trans HB.out.size hg); clear ho hb hk hv hc hg KA) | fail)
  have kf := frame_c X (some ⟨g, 0, none⟩) cap 0 w1 (holds_cur K1.out HC.out) HXB.out HCC.out HXL.out.2
  rw [HF.out] at kf
  clear c0 c1 c2 c3 c4 c5 d2 d3 d4 wz
  go_upto_region 5 with (first | (go_at_call 14; (with_reducible refine kf.mono ?_); rintro e w2 ⟨rfl, hb⟩; have HB2 := Lib.hid (HB1.out.trans (hb.mono HB1.out.size)); have K2 := Lib.hid (K1.out.below hb); clear hb kf) | fail)
  have ha : Below w2.heap.size w2 (w2.alloc (.cells #[.int .i64 11, .int .i64 (X.length : Int)] 36)) := (Below.refl _ _).alloc (Nat.le_refl _) _
  have HB3 := Lib.hid (HB2.out.trans (ha.mono HB2.out.size))
  have K3 := Lib.hid (K2.out.below ha)
  have S3 := Lib.hid (show Blk (w2.alloc (.cells #[.int .i64 11, .int .i64 (X.length : Int)] 36)) w2.heap.size 36 #[.int .i64 11, .int .i64 (X.length : Int)] from Blk.new _ _ _)
  have HPL := Lib.hid (show w.heap.size ≤ w2.heap.size from HB2.out.size)
  clear ha
  generalize (w2.alloc (.cells #[.int .i64 11, .int .i64 (X.length : Int)] 36)) = W3 at *
  generalize w2.heap.size = p at *
  have c0 := S3.out.two.1
  have c1 := S3.out.two.2
  go_upto_region 7 with fail
  clear c0 c1 en el
  by_cases h5 : i < 0
  · have d5 : decide (i < 0) = true := decide_eq_true h5
    go_wp2_with (first | (go_at_call 8; (with_reducible refine (ex27_c _).mono ?_); rintro e wx ⟨rfl, hbx⟩; have HBX := Lib.hid (HB3.out.trans (hbx.mono HB3.out.size)); clear hbx) | fail)
    go_ret
    exact ⟨rfl, HBX.out⟩
  have d5 : decide (i < 0) = false := decide_eq_false h5
  by_cases h6 : (X.length : Int) ≤ i
  · have d6 : decide ((X.length : Int) ≤ i) = true := decide_eq_true h6
    go_wp2_with (first | (go_at_call 8; (with_reducible refine (ex27_c _).mono ?_); rintro e wx ⟨rfl, hbx⟩; have HBX := Lib.hid (HB3.out.trans (hbx.mono HB3.out.size)); clear hbx) | fail)
    go_ret
    exact ⟨rfl, HBX.out⟩
  have d6 : decide ((X.length : Int) ≤ i) = false := decide_eq_false h6
  obtain ⟨I, rfl⟩ : ∃ I : Nat, i = I := ⟨i.toNat, by omega⟩
  have hI : I < X.length := by omega
  have cI : W3.cell? ⟨g, I, none⟩ = some (.int .u8 X[I]) := by rw [K3.out.cell I, HC.out I hI]
  have fI := K3.out.free I
  by_cases h7 : X[I] = y
  · rw [h7] at cI
    have b7 : (y == y) = true := by simp
    go_wp2_with (first | (go_at_call 8; (with_reducible refine (ex27_c _).mono ?_); rintro e wx ⟨rfl, hbx⟩; have HBX := Lib.hid (HB3.out.trans (hbx.mono HB3.out.size)); clear hbx) | fail)
    go_ret
    exact ⟨rfl, HBX.out⟩
  have HE := Lib.hid (HG.out I y hI HY.out h7)
  have HZ := Lib.hid (fr_zero HE.out)
  have b7 : (X[I] == y) = false := by simpa using h7
  have HN := Lib.hid (show p ≠ g from fun z => by
    have := S3.out
    have k := K3.out
    rw [z] at this
    have e := this.symm.trans k
    simp at e)
  have HB4 := Lib.hid (show Below w.heap.size w (W3.setCell ⟨g, I, none⟩ (.int .u8 y)) from HB3.out.setCell HGB.out _)
  have S4 := Lib.hid (show Blk (W3.setCell ⟨g, I, none⟩ (.int .u8 y)) p 36 #[.int .i64 11, .int .i64 (X.length : Int)] from S3.out.far HN.out _)
  have kf := frame_c (X.set I y) (some ⟨g, 0, none⟩) cap 0 (W3.setCell ⟨g, I, none⟩ (.int .u8 y)) (holds_cur_set K3.out HC.out I y) (fun x hx => by rcases List.mem_or_eq_of_mem_set hx with h | rfl; exact HXB.out x h; exact HY.out) (by rw [List.length_set]; exact HCC.out) (by rw [List.length_set]; exact HXL.out.2)
  rw [List.length_set] at kf
  generalize fr (X.set I y) 0 = R at *
  obtain ⟨Rq, Rf, Rt, Re⟩ := R
  obtain ⟨rfl, rfl, rfl⟩ : Rq = 0 ∧ Rf = 0 ∧ Rt = 0 := HZ.out
  have bE : (Re != 0) = true := by have := HE.out; simpa using this
  clear h7
  go_upto_region 10 with fail
  clear cI fI b7
  generalize W3.setCell ⟨g, I, none⟩ (.int .u8 y) = W4 at *
  go_upto_region 11 with (first | (go_at_call 14; (with_reducible refine kf.mono ?_); rintro e w5 ⟨rfl, hb⟩; have HB5 := Lib.hid (HB4.out.trans (hb.mono HB4.out.size)); have S5 := Lib.hid (S4.out.below hb); have s0 := S5.out.two.1; have s1 := S5.out.two.2; have f0 := S5.out.free 0; have f1 := S5.out.free 1; clear hb kf) | fail)
  have HPB := Lib.hid (show w.heap.size ≤ p from HPL.out)
  have HB6 := Lib.hid (show Below w.heap.size w ((w5.setCell ⟨p, 0, none⟩ (.int .i64 0)).setCell ⟨p, 1, none⟩ (.int .i64 0)) from (HB5.out.setCell HPB.out _).setCell HPB.out _)
  have S6 := Lib.hid (S5.out.set2 (.int .i64 0) (.int .i64 0))
  clear s0 s1 f0 f1
  generalize (w5.setCell ⟨p, 0, none⟩ (.int .i64 0)).setCell ⟨p, 1, none⟩ (.int .i64 0) = W6 at *
  have c0 := S6.out.two.1
  have c1 := S6.out.two.2
  go_wp2_with (first | (go_at_call 8; (with_reducible refine (ex27_c _).mono ?_); rintro e wx ⟨rfl, hbx⟩; have HBX := Lib.hid (HB6.out.trans (hbx.mono HB6.out.size)); clear hbx) | fail)
  go_ret
  exact ⟨rfl, HBX.out⟩

set_option maxRecDepth 100000 in
theorem lifted (os : Os) (started : os.Started) (H : Type) (enc : TypeId × Value → H) :
    ReturnsInHanded {} Try.checked os 6 .any (Rows.packetDetectsSpec.pre6 enc Try.prog Try.f6 Rows.packetDetectsRow.domain false) (Rows.packetDetectsSpec.post enc Try.prog Try.f6 false true false false) := by
  refine returnsInHanded_of_change_sized (C := Try.checked) own started (by kernel_rfl) Try.func6
    (ChangeSpec.witness6 (enc := enc) (C := Try.checked) false ⟨#[], #[.agg #[.int .i64 0, .int .i64 0, .int .i64 0, .int .i64 0, .slice none 0 0, .slice none 0 0], .bool false, .int .i64 0, .int .i64 0, .int .u8 0], []⟩ 8 (by kernel_rfl) (by kernel_rfl) (by kernel_rfl) (by kernel_rfl)) ?_
  intro W base args ds gs before hval0 hW _ hsz0 _
  have hval : ∀ (j : Nat) t v, Try.f6.params[j]? = some t → args[j]? = some v → Value.okWide Try.prog W .any base t v := hval0
  have hW' := hW
  obtain ⟨p, q, hA0, hV, rfl, _, _⟩ := hW
  have hA : DataW.TrodAll enc Try.prog W 0 (fun _ => true) true Try.f6.params.toList args.toList ds p := hA0
  rw [Try.params6] at hA hval
  obtain ⟨v0, vs0, d0, ds0, p0, q0, hargs, rfl, rfl, h0, r0⟩ := trodAll_cons hA
  obtain ⟨v1, vs1, d1, ds1, p1, q1, rfl, rfl, rfl, h1, r1⟩ := trodAll_cons r0
  obtain ⟨v2, vs2, d2, ds2, p2, q2, rfl, rfl, rfl, h2, r2⟩ := trodAll_cons r1
  obtain ⟨v3, vs3, d3, ds3, p3, q3, rfl, rfl, rfl, h3, r3⟩ := trodAll_cons r2
  obtain ⟨v4, vs4, d4, ds4, p4, q4, rfl, rfl, rfl, h4, r4⟩ := trodAll_cons r3
  obtain ⟨rfl, rfl, rfl⟩ := trodAll_nil r4
  obtain rfl : args = #[v0, v1, v2, v3, v4] := by cases args; simp_all
  obtain ⟨rfl, rfl⟩ := trodVars_none hV
  have hz0 : ∀ n ∈ d0.weights Try.prog 29, n ≤ reachBytes := fun n hn => by
    have hsz' : (DataW.weightsEach Try.prog [29, 4, 3, 3, 5] [d0, d1, d2, d3, d4]).all (· ≤ reachBytes) = true := hsz0
    have := List.all_eq_true.1 hsz' n (DataW.weights_mem_each (j := 0) rfl rfl n hn)
    simpa using this
  clear hA0 hval0
  simp only [List.append_nil] at hW'
  have l0 : ∀ x ∈ p0, x.block < W.heap.size := fun x hx => hW'.lt x (by simp [hx])
  have l1 : ∀ x ∈ p1, x.block < W.heap.size := fun x hx => hW'.lt x (by simp [hx])
  have l2 : ∀ x ∈ p2, x.block < W.heap.size := fun x hx => hW'.lt x (by simp [hx])
  have l3 : ∀ x ∈ p3, x.block < W.heap.size := fun x hx => hW'.lt x (by simp [hx])
  have l4 : ∀ x ∈ p4, x.block < W.heap.size := fun x hx => hW'.lt x (by simp [hx])
  obtain ⟨pi0, pj0, pk0, pl0, sh0, sb0, hd0, bd0, mh0, mb0, rfl, hH0, hB0, hZ0⟩ := open_pktZ (hval 0 29 v0 rfl rfl) h0 hz0
  obtain ⟨z1, rfl, _⟩ := open_bool Try.underlying4 (hval 1 4 v1 rfl rfl) h1
  obtain ⟨i2, rfl, _, _, wi2⟩ := open_int Try.underlying3 (hval 2 3 v2 rfl rfl) h2
  obtain ⟨i3, rfl, _, _, wi3⟩ := open_int Try.underlying3 (hval 3 3 v3 rfl rfl) h3
  obtain ⟨i4, rfl, _, _, wi4⟩ := open_int Try.underlying5 (hval 4 5 v4 rfl rfl) h4
  refine (walk pi0 pj0 pk0 pl0 hd0 bd0 sh0 sb0 mh0 mb0 z1 i2 i3 i4 W hH0 hB0 hZ0 (by have h3 := wi4; simp [Lit.wf] at h3; rw [show IntKind.u8.min = 0 by decide, show IntKind.u8.max = 255 by decide] at h3; exact h3)).mono fun e W' ⟨he, hb⟩ => ?_
  subst he
  exact ⟨_, rfl, post_low (pa := p0 ++ (p1 ++ (p2 ++ (p3 ++ (p4 ++ ([])))))) (pv := []) hW' (fun _ _ _ => (trodAll_cons_mk (shut_bool Try.underlying4 _) trodAll_mk0)) (fun sp hsp => (trodAll_cons_mk (trod_low laidOut (by kernel_rfl) (of_decide_eq_true (by kernel_rfl)) h0 hb l0 (fun x hx => hsp x (by simp [hx]))) (trodAll_cons_mk (trod_low laidOut (by kernel_rfl) (of_decide_eq_true (by kernel_rfl)) h1 hb l1 (fun x hx => hsp x (by simp [hx]))) (trodAll_cons_mk (trod_low laidOut (by kernel_rfl) (of_decide_eq_true (by kernel_rfl)) h2 hb l2 (fun x hx => hsp x (by simp [hx]))) (trodAll_cons_mk (trod_low laidOut (by kernel_rfl) (of_decide_eq_true (by kernel_rfl)) h3 hb l3 (fun x hx => hsp x (by simp [hx]))) (trodAll_cons_mk (trod_low laidOut (by kernel_rfl) (of_decide_eq_true (by kernel_rfl)) h4 hb l4 (fun x hx => hsp x (by simp [hx]))) trodAll_mk0)))))) (fun _ _ => rfl) (by simp) hb (ok_one (by kernel_rfl) rfl (okWide_bool_mk Try.underlying4 _))⟩

theorem over : Rows.packetDetectsRow.holds Try.pinned (OpenSpec.ofChange Rows.packetDetectsSpec) :=
  OpenClaim.holds_of_wide 6 Try.f6 rfl rfl rfl rfl rfl rfl rfl ⟨rfl, rfl, rfl, rfl, rfl⟩ rfl rfl rfl rfl rfl (by kernel_rfl) Try.func6 (by kernel_rfl)
    (of_decide_eq_true (by kernel_rfl)) (by unfold Func.isWrapper; first | (rw [if_pos (by decide +kernel)]; kernel_rfl) | (rw [if_neg (by decide +kernel)]; exact ⟨rfl, rfl⟩))
    (fun os started H enc _ => lifted os started H enc)

theorem proved : Rows.PacketDetectsSaid :=
  over
#print axioms proved
end Go.Proofs.Ytpnnmibdboelpaa.packetDetects
