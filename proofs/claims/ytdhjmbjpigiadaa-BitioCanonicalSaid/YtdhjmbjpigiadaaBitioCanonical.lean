/-
  For all bytes and all integers the statement BitioCanonical returns true; the arguments read afterwards as before.
  Conditions: none beyond those of the given statement.
-/
import Derived.Test.YtdhjmbjpigiadaaLawB
set_option maxRecDepth 100000
namespace Go.Proofs.Ytdhjmbjpigiadaa.bitioCanonical
open Go.ChangeShapes Go.WideShapes Go.ChangeAt Go.RowKit Go.Joins Go.Deep

set_option maxRecDepth 100000 in
set_option maxHeartbeats 4000000 in
theorem walk (bs : List Int) (s : Option Addr) (m : Nat) (n : Int) (w : World) (hB : HoldsB w s bs) (hY : Bi.bytes bs) (hn0 : s = none → bs = [] ∧ m = 0) (hm : bs.length ≤ m) :
    Calls Try.prog 7 #[.slice s bs.length m, .int .i64 n] w fun e w' => e = .returned (.bool true) ∧ Below w.heap.size w w' := by
  by_cases h5 : 500 < bs.length
  · have h6 : (500 : Int) < (bs.length : Int) := by omega
    go_enter Try.func7, Try.ntmps7
    go_wp2_with fail
    refine (example09_c _).mono ?_
    rintro e w2 ⟨rfl, hb2⟩
    go_wp2_with fail
    go_ret
    exact ⟨rfl, hb2⟩
  by_cases h7 : n < 0
  · have h6 : ¬ (500 : Int) < (bs.length : Int) := by omega
    go_enter Try.func7, Try.ntmps7
    go_wp2_with fail
    refine (example09_c _).mono ?_
    rintro e w2 ⟨rfl, hb2⟩
    go_wp2_with fail
    go_ret
    exact ⟨rfl, hb2⟩
  by_cases h8 : 4000 < n
  · have h6 : ¬ (500 : Int) < (bs.length : Int) := by omega
    go_enter Try.func7, Try.ntmps7
    go_wp2_with fail
    refine (example09_c _).mono ?_
    rintro e w2 ⟨rfl, hb2⟩
    go_wp2_with fail
    go_ret
    exact ⟨rfl, hb2⟩
  obtain ⟨N, rfl⟩ : ∃ N : Nat, n = N := ⟨n.toNat, by omega⟩
  have hN : N ≤ 4000 := by omega
  have hl5 : bs.length ≤ 500 := by omega
  have hl8 : bs.length ≤ 100000000 := by omega
  have HB := Lib.hid hB
  have hY := Lib.hid hY
  have hn0 := Lib.hid hn0
  clear h5 h7 h8
  go_enter Try.func7, Try.ntmps7
  go_wp2_with fail
  refine (rnew_c _ bs s m HB.out hn0.out (by omega)).mono ?_
  rintro e w1 ⟨a, rfl, hR1, hb1⟩
  go_wp2_with fail
  refine (new_c _).mono ?_
  rintro e w2 ⟨b, rfl, hW2, hb2⟩
  have C0 : Hid (Cn w a b bs 0 [] w2) := ⟨hR1.below hb2, hW2.lower hb1.size, Dj.new hb2 hR1.fl (fun k hk => (hW2.foot k hk).1), below_call hb1 hb2, Bi.bits_nil, Nat.zero_le _, Bi.cut_nil _⟩
  clear hR1 hW2 hb1 hb2
  go_wp2_with fail
  go_loopw [7] (fun i wr => ∃ (k t : Nat) (L : List Int), k ≤ N ∧ i = .int .i64 (k : Int) ∧ Hid (Cn w a b bs t L wr) ∧ L.length = k) (fun i _ => N - (intOf i).toNat)
  case atStart => exact ⟨0, 0, [], Nat.zero_le _, rfl, C0, rfl⟩
  case round =>
    obtain ⟨k, t, L, hk, rfl, HC, hlk⟩ := hrel
    have HLK := Lib.hid hlk
    have hlL : L.length ≤ 4000 := by omega
    clear hlk
    by_cases hlt : k < N
    · have hg := get_c _ _ a bs t HC.out.rd HC.out.le hY.out hl8
      rcases Bi.gE_cases bs t with hE | hE | hE
      · rw [hE] at hg
        have HE := Lib.hid hE
        clear hE
        have hbit := Bi.gR_bit bs t
        have hpu := bit_put hbit
        go_wp2_with (first | (go_at_call 34; (with_reducible refine hg.mono ?_); rintro e x1 ⟨rfl, hR1, hK1⟩))
        obtain ⟨hW1, hD1, hB1⟩ := HC.out.r hR1 hK1
        have hp := putW _ _ b L (Bi.gR bs t) hW1 HC.out.bits (by omega)
        rw [hpu.1, hpu.2] at hp
        clear hpu hbit hg
        refine hp.mono ?_
        rintro e x2 ⟨rfl, hW2, hK2⟩
        have HC2 := Lib.hid (HC.out.step hY.out HE.out hR1 hW1 hD1 hB1 hW2 hK2)
        clear hR1 hK1 hW1 hD1 hB1 hp hW2 hK2
        go_wp2_with fail
        go_roundw
        case rel => exact ⟨k + 1, Bi.gN bs t, L ++ [Bi.gR bs t], by omega, by go_num, HC2, by have := HLK.out; simp; omega⟩
        case measure => simp [intOf]; omega
      · rw [hE] at hg
        have hn1 : Bi.gN bs t = t := by simp [Bi.gN, hE]
        rw [hn1] at hg
        clear hE hn1
        go_wp2_with (first | (go_at_call 34; (with_reducible refine hg.mono ?_); rintro e x0 ⟨rfl, hR0, hK0⟩))
        have HC0 := Lib.hid (HC.out.same hR0 hK0)
        clear hg hR0 hK0
        have ha := align_c _ _ a bs t HC0.out.rd HC0.out.le hY.out hl8
        rcases alR_err bs t with hE | ⟨hV, hE | hE⟩
        · obtain ⟨n', e1, hn', hfin⟩ := Bi.cut_align HC0.out.cut (Bi.st_ok HC0.out.bits).fr7 hE
          have e1' : (alR bs t).1 = (n' : Int) := e1
          rw [hE, e1'] at ha
          have HFIN : Hid (Bi.enc L = bs.take n') := hfin
          clear hE e1 e1' hfin
          refine ha.mono ?_
          rintro e x1 ⟨rfl, hR1, hK1⟩
          obtain ⟨hW1, _, hB1⟩ := HC0.out.r hR1 hK1
          have HW1 := Lib.hid hW1
          have HB1 := Lib.hid hB1
          have hz0 : decide ((0 : Int) ≤ (n' : Int)) = true := decide_eq_true (by omega)
          have hz1 : decide ((n' : Int) ≤ (bs.length : Int)) = true := decide_eq_true (by omega)
          clear ha hR1 hK1 hW1 hB1
          go_upto_region 14 with fail
          have HWd := HW1.out.below (Below.refl _ _).drew
          have HBx := Lib.hid (((HB.out.below HB1.out (Nat.le_refl _)).call (Below.refl _ x1).drew).take n')
          have hby : Calls Try.prog 27 #[.pointer (some ⟨b, 0, none⟩)] x1.drew fun e w' => ∃ g, e = .returned (.slice (some ⟨g, 0, none⟩) n' n') ∧ HoldsB w' (some ⟨g, 0, none⟩) (bs.take n') ∧ Below x1.drew.heap.size x1.drew w' := by
            refine (bytes_c _ _ b L HWd (by omega)).mono ?_
            rintro e w' ⟨g, pad, he, hR, _, hb⟩
            rw [HFIN.out] at he hR
            have e3 : (bs.take n').length = n' := by simp; omega
            rw [e3] at he
            exact ⟨g, he, hR.holds, hb⟩
          have K0 := HWd.made
          have hblt := HWd.lt
          have hnl : n' = (bs.take n').length := by simp; omega
          have HNL := Lib.hid hnl
          have hnm : n' ≤ m := by omega
          have hnm2 : (n' : Int) ≤ (m : Int) := by omega
          clear hnl
          clear HWd
          go_region_held3 (fun w' => w'.cell? ⟨b, 0, none⟩ = some (.pointer (some ⟨b, 0, none⟩))) (first | (with_reducible exact K0) | (with_reducible exact K2) | (with_reducible exact K5) | fail) (first | (go_at_call 27; (with_reducible refine hby.mono ?_); rintro e x2 ⟨g, rfl, hh2, hb2⟩; have K2 := (hb2.cell (p := ⟨b, 0, none⟩) hblt).trans K0) | (go_at_call 26; (with_reducible refine (same_t _ (bs.take n') _ _ n' _ _ HNL.out hh2 (HBx.out.call hb2)).mono ?_); rintro e wn ⟨rfl, rfl⟩) | (go_at_call 19; (with_reducible refine (example09_c _).mono ?_); rintro e x5 ⟨rfl, hb5⟩; have K5 := (hb5.cell (p := ⟨b, 0, none⟩) (cell_lt K2)).trans K2) | fail)
          all_goals
            go_wp2_with fail
            go_ret
            exact ⟨rfl, below_call (below_call HB1.out.drew hb2) hb5⟩
        · rw [hE, hV] at ha
          clear hE hV
          refine ha.mono ?_
          rintro e x1 ⟨rfl, hR1, hK1⟩
          have hB1 := (HC0.out.r hR1 hK1).2.2
          clear ha hR1 hK1
          go_wp2_with fail
          refine (example09_c _).mono ?_
          rintro e x5 ⟨rfl, hb5⟩
          go_wp2_with fail
          go_ret
          exact ⟨rfl, hB1.trans (hb5.mono hB1.size)⟩
        · rw [hE, hV] at ha
          clear hE hV
          refine ha.mono ?_
          rintro e x1 ⟨rfl, hR1, hK1⟩
          have hB1 := (HC0.out.r hR1 hK1).2.2
          clear ha hR1 hK1
          go_wp2_with fail
          refine (example09_c _).mono ?_
          rintro e x5 ⟨rfl, hb5⟩
          go_wp2_with fail
          go_ret
          exact ⟨rfl, hB1.trans (hb5.mono hB1.size)⟩
      · rw [hE] at hg
        have hn1 : Bi.gN bs t = t := by simp [Bi.gN, hE]
        rw [hn1] at hg
        clear hE hn1
        go_wp2_with (first | (go_at_call 34; (with_reducible refine hg.mono ?_); rintro e x0 ⟨rfl, hR0, hK0⟩))
        have HC0 := Lib.hid (HC.out.same hR0 hK0)
        clear hg hR0 hK0
        have ha := align_c _ _ a bs t HC0.out.rd HC0.out.le hY.out hl8
        rcases alR_err bs t with hE | ⟨hV, hE | hE⟩
        · obtain ⟨n', e1, hn', hfin⟩ := Bi.cut_align HC0.out.cut (Bi.st_ok HC0.out.bits).fr7 hE
          have e1' : (alR bs t).1 = (n' : Int) := e1
          rw [hE, e1'] at ha
          have HFIN : Hid (Bi.enc L = bs.take n') := hfin
          clear hE e1 e1' hfin
          refine ha.mono ?_
          rintro e x1 ⟨rfl, hR1, hK1⟩
          obtain ⟨hW1, _, hB1⟩ := HC0.out.r hR1 hK1
          have HW1 := Lib.hid hW1
          have HB1 := Lib.hid hB1
          have hz0 : decide ((0 : Int) ≤ (n' : Int)) = true := decide_eq_true (by omega)
          have hz1 : decide ((n' : Int) ≤ (bs.length : Int)) = true := decide_eq_true (by omega)
          clear ha hR1 hK1 hW1 hB1
          go_upto_region 14 with fail
          have HWd := HW1.out.below (Below.refl _ _).drew
          have HBx := Lib.hid (((HB.out.below HB1.out (Nat.le_refl _)).call (Below.refl _ x1).drew).take n')
          have hby : Calls Try.prog 27 #[.pointer (some ⟨b, 0, none⟩)] x1.drew fun e w' => ∃ g, e = .returned (.slice (some ⟨g, 0, none⟩) n' n') ∧ HoldsB w' (some ⟨g, 0, none⟩) (bs.take n') ∧ Below x1.drew.heap.size x1.drew w' := by
            refine (bytes_c _ _ b L HWd (by omega)).mono ?_
            rintro e w' ⟨g, pad, he, hR, _, hb⟩
            rw [HFIN.out] at he hR
            have e3 : (bs.take n').length = n' := by simp; omega
            rw [e3] at he
            exact ⟨g, he, hR.holds, hb⟩
          have K0 := HWd.made
          have hblt := HWd.lt
          have hnl : n' = (bs.take n').length := by simp; omega
          have HNL := Lib.hid hnl
          have hnm : n' ≤ m := by omega
          have hnm2 : (n' : Int) ≤ (m : Int) := by omega
          clear hnl
          clear HWd
          go_region_held3 (fun w' => w'.cell? ⟨b, 0, none⟩ = some (.pointer (some ⟨b, 0, none⟩))) (first | (with_reducible exact K0) | (with_reducible exact K2) | (with_reducible exact K5) | fail) (first | (go_at_call 27; (with_reducible refine hby.mono ?_); rintro e x2 ⟨g, rfl, hh2, hb2⟩; have K2 := (hb2.cell (p := ⟨b, 0, none⟩) hblt).trans K0) | (go_at_call 26; (with_reducible refine (same_t _ (bs.take n') _ _ n' _ _ HNL.out hh2 (HBx.out.call hb2)).mono ?_); rintro e wn ⟨rfl, rfl⟩) | (go_at_call 19; (with_reducible refine (example09_c _).mono ?_); rintro e x5 ⟨rfl, hb5⟩; have K5 := (hb5.cell (p := ⟨b, 0, none⟩) (cell_lt K2)).trans K2) | fail)
          all_goals
            go_wp2_with fail
            go_ret
            exact ⟨rfl, below_call (below_call HB1.out.drew hb2) hb5⟩
        · rw [hE, hV] at ha
          clear hE hV
          refine ha.mono ?_
          rintro e x1 ⟨rfl, hR1, hK1⟩
          have hB1 := (HC0.out.r hR1 hK1).2.2
          clear ha hR1 hK1
          go_wp2_with fail
          refine (example09_c _).mono ?_
          rintro e x5 ⟨rfl, hb5⟩
          go_wp2_with fail
          go_ret
          exact ⟨rfl, hB1.trans (hb5.mono hB1.size)⟩
        · rw [hE, hV] at ha
          clear hE hV
          refine ha.mono ?_
          rintro e x1 ⟨rfl, hR1, hK1⟩
          have hB1 := (HC0.out.r hR1 hK1).2.2
          clear ha hR1 hK1
          go_wp2_with fail
          refine (example09_c _).mono ?_
          rintro e x5 ⟨rfl, hb5⟩
          go_wp2_with fail
          go_ret
          exact ⟨rfl, hB1.trans (hb5.mono hB1.size)⟩
    · go_wp2_with fail
      have ha := align_c _ _ a bs t HC.out.rd HC.out.le hY.out hl8
      rcases alR_err bs t with hE | ⟨hV, hE | hE⟩
      · obtain ⟨n', e1, hn', hfin⟩ := Bi.cut_align HC.out.cut (Bi.st_ok HC.out.bits).fr7 hE
        have e1' : (alR bs t).1 = (n' : Int) := e1
        rw [hE, e1'] at ha
        have HFIN : Hid (Bi.enc L = bs.take n') := hfin
        clear hE e1 e1' hfin
        refine ha.mono ?_
        rintro e x1 ⟨rfl, hR1, hK1⟩
        obtain ⟨hW1, _, hB1⟩ := HC.out.r hR1 hK1
        have HW1 := Lib.hid hW1
        have HB1 := Lib.hid hB1
        have hz0 : decide ((0 : Int) ≤ (n' : Int)) = true := decide_eq_true (by omega)
        have hz1 : decide ((n' : Int) ≤ (bs.length : Int)) = true := decide_eq_true (by omega)
        clear ha hR1 hK1 hW1 hB1
        go_upto_region 14 with fail
        have HWd := HW1.out.below (Below.refl _ _).drew
        have HBx := Lib.hid (((HB.out.below HB1.out (Nat.le_refl _)).call (Below.refl _ x1).drew).take n')
        have hby : Calls Try.prog 27 #[.pointer (some ⟨b, 0, none⟩)] x1.drew fun e w' => ∃ g, e = .returned (.slice (some ⟨g, 0, none⟩) n' n') ∧ HoldsB w' (some ⟨g, 0, none⟩) (bs.take n') ∧ Below x1.drew.heap.size x1.drew w' := by
          refine (bytes_c _ _ b L HWd (by omega)).mono ?_
          rintro e w' ⟨g, pad, he, hR, _, hb⟩
          rw [HFIN.out] at he hR
          have e3 : (bs.take n').length = n' := by simp; omega
          rw [e3] at he
          exact ⟨g, he, hR.holds, hb⟩
        have K0 := HWd.made
        have hblt := HWd.lt
        have hnl : n' = (bs.take n').length := by simp; omega
        have HNL := Lib.hid hnl
        have hnm : n' ≤ m := by omega
        have hnm2 : (n' : Int) ≤ (m : Int) := by omega
        clear hnl
        clear HWd
        go_region_held3 (fun w' => w'.cell? ⟨b, 0, none⟩ = some (.pointer (some ⟨b, 0, none⟩))) (first | (with_reducible exact K0) | (with_reducible exact K2) | (with_reducible exact K5) | fail) (first | (go_at_call 27; (with_reducible refine hby.mono ?_); rintro e x2 ⟨g, rfl, hh2, hb2⟩; have K2 := (hb2.cell (p := ⟨b, 0, none⟩) hblt).trans K0) | (go_at_call 26; (with_reducible refine (same_t _ (bs.take n') _ _ n' _ _ HNL.out hh2 (HBx.out.call hb2)).mono ?_); rintro e wn ⟨rfl, rfl⟩) | (go_at_call 19; (with_reducible refine (example09_c _).mono ?_); rintro e x5 ⟨rfl, hb5⟩; have K5 := (hb5.cell (p := ⟨b, 0, none⟩) (cell_lt K2)).trans K2) | fail)
        all_goals
          go_wp2_with fail
          go_ret
          exact ⟨rfl, below_call (below_call HB1.out.drew hb2) hb5⟩
      · rw [hE, hV] at ha
        clear hE hV
        refine ha.mono ?_
        rintro e x1 ⟨rfl, hR1, hK1⟩
        have hB1 := (HC.out.r hR1 hK1).2.2
        clear ha hR1 hK1
        go_wp2_with fail
        refine (example09_c _).mono ?_
        rintro e x5 ⟨rfl, hb5⟩
        go_wp2_with fail
        go_ret
        exact ⟨rfl, hB1.trans (hb5.mono hB1.size)⟩
      · rw [hE, hV] at ha
        clear hE hV
        refine ha.mono ?_
        rintro e x1 ⟨rfl, hR1, hK1⟩
        have hB1 := (HC.out.r hR1 hK1).2.2
        clear ha hR1 hK1
        go_wp2_with fail
        refine (example09_c _).mono ?_
        rintro e x5 ⟨rfl, hb5⟩
        go_wp2_with fail
        go_ret
        exact ⟨rfl, hB1.trans (hb5.mono hB1.size)⟩

set_option maxRecDepth 100000 in
theorem lifted (os : Os) (started : os.Started) (H : Type) (enc : TypeId × Value → H) :
    ReturnsInHanded {} Try.checked os 7 .any (Rows.bitioCanonicalSpec.pre6 enc Try.prog Try.f7 Rows.bitioCanonicalRow.domain false) (Rows.bitioCanonicalSpec.post enc Try.prog Try.f7 false true false false) := by
  refine returnsInHanded_of_change (C := Try.checked) own started (by kernel_rfl) Try.func7
    (ChangeSpec.witness6 (enc := enc) (C := Try.checked) false ⟨#[], #[.slice none 0 0, .int .i64 0], []⟩ 8 (by kernel_rfl) (by kernel_rfl) (by kernel_rfl) (by kernel_rfl)) ?_
  intro W base args ds gs before hval0 hW _ _
  have hval : ∀ (j : Nat) t v, Try.f7.params[j]? = some t → args[j]? = some v → Value.okWide Try.prog W .any base t v := hval0
  have hW' := hW
  obtain ⟨p, q, hA0, hV, rfl, _, _⟩ := hW
  have hA : DataW.TrodAll enc Try.prog W 0 (fun _ => true) true Try.f7.params.toList args.toList ds p := hA0
  rw [Try.params7] at hA hval
  obtain ⟨v0, vs0, d0, ds0, p0, q0, hargs, rfl, rfl, h0, r0⟩ := trodAll_cons hA
  obtain ⟨v1, vs1, d1, ds1, p1, q1, rfl, rfl, rfl, h1, r1⟩ := trodAll_cons r0
  obtain ⟨rfl, rfl, rfl⟩ := trodAll_nil r1
  obtain rfl : args = #[v0, v1] := by cases args; simp_all
  obtain ⟨rfl, rfl⟩ := trodVars_none hV
  clear hA0 hval0
  simp only [List.append_nil] at hW'
  have l0 : ∀ x ∈ p0, x.block < W.heap.size := fun x hx => hW'.lt x (by simp [hx])
  have l1 : ∀ x ∈ p1, x.block < W.heap.size := fun x hx => hW'.lt x (by simp [hx])
  obtain ⟨s0, b0, m0, rfl, hB0, hY0, hm0, _, hn0⟩ := open_bytes (hval 0 36 v0 rfl rfl) h0
  obtain ⟨i1, rfl, _, _, wi1⟩ := open_int Try.underlying3 (hval 1 3 v1 rfl rfl) h1
  refine (walk b0 s0 m0 i1 W hB0 hY0 hn0 hm0).mono fun e W' ⟨he, hb⟩ => ?_
  subst he
  exact ⟨_, rfl, post_low (pa := p0 ++ (p1 ++ ([]))) (pv := []) hW' (fun _ _ _ => (trodAll_cons_mk (shut_bool Try.underlying4 _) trodAll_mk0)) (fun sp hsp => (trodAll_cons_mk (trod_low laidOut (by kernel_rfl) (of_decide_eq_true (by kernel_rfl)) h0 hb l0 (fun x hx => hsp x (by simp [hx]))) (trodAll_cons_mk (trod_low laidOut (by kernel_rfl) (of_decide_eq_true (by kernel_rfl)) h1 hb l1 (fun x hx => hsp x (by simp [hx]))) trodAll_mk0))) (fun _ _ => rfl) (by simp) hb (ok_one (by kernel_rfl) rfl (okWide_bool_mk Try.underlying4 _))⟩

theorem over : Rows.bitioCanonicalRow.holds Try.pinned (OpenSpec.ofChange Rows.bitioCanonicalSpec) :=
  OpenClaim.holds_of_wide 7 Try.f7 rfl rfl rfl rfl rfl rfl rfl ⟨rfl, rfl, rfl, rfl, rfl⟩ rfl rfl rfl rfl rfl (by kernel_rfl) Try.func7 (by kernel_rfl)
    (of_decide_eq_true (by kernel_rfl)) (by unfold Func.isWrapper; first | (rw [if_pos (by decide +kernel)]; kernel_rfl) | (rw [if_neg (by decide +kernel)]; exact ⟨rfl, rfl⟩))
    (fun os started H enc _ => lifted os started H enc)

theorem proved : Rows.BitioCanonicalSaid :=
  over
#print axioms proved
end Go.Proofs.Ytdhjmbjpigiadaa.bitioCanonical
