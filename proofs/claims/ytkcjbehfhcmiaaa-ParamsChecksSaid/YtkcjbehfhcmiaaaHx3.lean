/-
  Layer 23 (reference): contract of Header.
-/
import Derived.Test.YtkcjbehfhcmiaaaHw
import Derived.Deep.MidRow
set_option maxRecDepth 100000
namespace Go.Proofs.Ytkcjbehfhcmiaaa
open Go.RowKit

set_option maxHeartbeats 8000000 in
theorem rheader_c (h : Hp.Hd) (s : Option Addr) (m : Nat) (W : World) (hl : h.cs.length ≤ 4398046511104) (hC : HoldsC W s h.cs) : Calls Try.prog 35 #[.agg (hvA h s m)] W fun e w' => e = .returned (.int .i64 (Hp.headM h)) ∧ Below W.heap.size W w' := by
  obtain ⟨WB, hWB⟩ : ∃ ww, ww = (W.alloc (.cells (hvA h s m) 26)) := ⟨_, rfl⟩
  have hb0 : Below W.heap.size W WB := by rw [hWB]; exact (below_alloc (Below.refl _ W) (Nat.le_refl _) _)
  have B0 := Lib.hid hb0
  have hH : Blk WB (W.heap.size) 26 (hvA h s m) := by
    have := Blk.new (W) 26 (hvA h s m)
    rw [hWB]
    exact (show Blk _ (W.heap.size) _ _ by simpa using this)
  have HH0 := Lib.hid hH
  have HWB := Lib.hid hWB
  clear hb0 hWB hH
  have kv := valid_r h.a h.b h.c h.d WB
  have ke := fun W1 : World => empty_r h.a h.b h.c h.d W1
  have ki1 := fun W1 : World => in_r h.tw 1 4096 W1
  have ki2 := fun W1 : World => in_r h.th 1 4096 W1
  have ki3 := fun W1 : World => in_r (h.cs.length : Int) 1 4 W1
  have HS := Lib.hid (show Hp.sndB h = (Hp.hdB h && h.cs.all (Hp.cmB (Hp.hR h))) from rfl)
  have HD := Lib.hid (show Hp.hdB h = (Pl.validB h.a h.b h.c h.d && (!Pl.emptyB h.a h.b h.c h.d && ((Hp.inB 1 4096 h.tw && Hp.inB 1 4096 h.th) && Hp.inB 1 4 (h.cs.length : Int)))) from rfl)
  have HM := Lib.hid (show Hp.headM h = if Hp.sndB h = false then 12 else if Hp.bigB h = true then 5 else 0 from rfl)
  have h12a : Hp.hdB h = false → Hp.headM h = 12 := fun q => by rw [HM.out, if_pos (by rw [HS.out, q]; rfl)]
  obtain ⟨h0, h1, h2, h3, h4, h5, h6⟩ := HH0.out.hd
  have HW2 := HWB.out
  clear HWB
  unfold hvA at HW2 ⊢
  cases hv : Pl.validB h.a h.b h.c h.d with
  | false =>
    rw [h12a (by rw [HD.out, hv]; rfl)]
    rw [hv] at kv
    clear hv h12a HS HD HM
    go_enter Try.func35, Try.ntmps35
    go_upto_region 1 with fail
    rw [← HW2]
    clear HW2
    go_wp2_with (first | (go_at_call 77; (with_reducible refine kv.mono ?_); rintro e w1 ⟨rfl, hb1⟩; have HH1 := Lib.hid (HH0.out.below hb1); have B1 := Lib.hid (B0.out.trans (hb1.mono B0.out.size)); obtain ⟨h0, h1, h2, h3, h4, h5, h6⟩ := HH1.out.hd; clear hb1) | (go_at_call 78; (with_reducible refine (ke _).mono ?_); rintro e w2 ⟨rfl, hb2⟩; have HH2 := Lib.hid (HH1.out.below hb2); have B2 := Lib.hid (B1.out.trans (hb2.mono B1.out.size)); clear h0 h1 h2 h3 h4 h5 h6; obtain ⟨h0, h1, h2, h3, h4, h5, h6⟩ := HH2.out.hd; clear hb2) | (go_at_call 44; (with_reducible refine (ki1 _).mono ?_); rintro e w2 ⟨rfl, rfl⟩) | (go_at_call 44; (with_reducible refine (ki2 _).mono ?_); rintro e w2 ⟨rfl, rfl⟩) | (go_at_call 44; (with_reducible refine (ki3 _).mono ?_); rintro e w2 ⟨rfl, rfl⟩) | fail)
    go_ret
    exact ⟨rfl, B1.out⟩
  | true =>
    rw [hv] at kv
    cases he : Pl.emptyB h.a h.b h.c h.d with
    | true =>
      rw [h12a (by rw [HD.out, hv, he]; rfl)]
      rw [he] at ke
      clear hv he h12a HS HD HM
      go_enter Try.func35, Try.ntmps35
      go_upto_region 1 with fail
      rw [← HW2]
      clear HW2
      go_wp2_with (first | (go_at_call 77; (with_reducible refine kv.mono ?_); rintro e w1 ⟨rfl, hb1⟩; have HH1 := Lib.hid (HH0.out.below hb1); have B1 := Lib.hid (B0.out.trans (hb1.mono B0.out.size)); obtain ⟨h0, h1, h2, h3, h4, h5, h6⟩ := HH1.out.hd; clear hb1) | (go_at_call 78; (with_reducible refine (ke _).mono ?_); rintro e w2 ⟨rfl, hb2⟩; have HH2 := Lib.hid (HH1.out.below hb2); have B2 := Lib.hid (B1.out.trans (hb2.mono B1.out.size)); clear h0 h1 h2 h3 h4 h5 h6; obtain ⟨h0, h1, h2, h3, h4, h5, h6⟩ := HH2.out.hd; clear hb2) | (go_at_call 44; (with_reducible refine (ki1 _).mono ?_); rintro e w2 ⟨rfl, rfl⟩) | (go_at_call 44; (with_reducible refine (ki2 _).mono ?_); rintro e w2 ⟨rfl, rfl⟩) | (go_at_call 44; (with_reducible refine (ki3 _).mono ?_); rintro e w2 ⟨rfl, rfl⟩) | fail)
      go_ret
      exact ⟨rfl, B2.out⟩
    | false =>
      rw [he] at ke
      cases ha : Hp.inB 1 4096 h.tw with
      | false =>
        rw [h12a (by rw [HD.out, hv, he, ha]; rfl)]
        rw [ha] at ki1
        clear hv he ha h12a HS HD HM
        go_enter Try.func35, Try.ntmps35
        go_upto_region 1 with fail
        rw [← HW2]
        clear HW2
        go_wp2_with (first | (go_at_call 77; (with_reducible refine kv.mono ?_); rintro e w1 ⟨rfl, hb1⟩; have HH1 := Lib.hid (HH0.out.below hb1); have B1 := Lib.hid (B0.out.trans (hb1.mono B0.out.size)); obtain ⟨h0, h1, h2, h3, h4, h5, h6⟩ := HH1.out.hd; clear hb1) | (go_at_call 78; (with_reducible refine (ke _).mono ?_); rintro e w2 ⟨rfl, hb2⟩; have HH2 := Lib.hid (HH1.out.below hb2); have B2 := Lib.hid (B1.out.trans (hb2.mono B1.out.size)); clear h0 h1 h2 h3 h4 h5 h6; obtain ⟨h0, h1, h2, h3, h4, h5, h6⟩ := HH2.out.hd; clear hb2) | (go_at_call 44; (with_reducible refine (ki1 _).mono ?_); rintro e w2 ⟨rfl, rfl⟩) | (go_at_call 44; (with_reducible refine (ki2 _).mono ?_); rintro e w2 ⟨rfl, rfl⟩) | (go_at_call 44; (with_reducible refine (ki3 _).mono ?_); rintro e w2 ⟨rfl, rfl⟩) | fail)
        go_ret
        exact ⟨rfl, B2.out⟩
      | true =>
        rw [ha] at ki1
        cases hb : Hp.inB 1 4096 h.th with
        | false =>
          rw [h12a (by rw [HD.out, hv, he, ha, hb]; rfl)]
          rw [hb] at ki2
          clear hv he ha hb h12a HS HD HM
          go_enter Try.func35, Try.ntmps35
          go_upto_region 1 with fail
          rw [← HW2]
          clear HW2
          go_wp2_with (first | (go_at_call 77; (with_reducible refine kv.mono ?_); rintro e w1 ⟨rfl, hb1⟩; have HH1 := Lib.hid (HH0.out.below hb1); have B1 := Lib.hid (B0.out.trans (hb1.mono B0.out.size)); obtain ⟨h0, h1, h2, h3, h4, h5, h6⟩ := HH1.out.hd; clear hb1) | (go_at_call 78; (with_reducible refine (ke _).mono ?_); rintro e w2 ⟨rfl, hb2⟩; have HH2 := Lib.hid (HH1.out.below hb2); have B2 := Lib.hid (B1.out.trans (hb2.mono B1.out.size)); clear h0 h1 h2 h3 h4 h5 h6; obtain ⟨h0, h1, h2, h3, h4, h5, h6⟩ := HH2.out.hd; clear hb2) | (go_at_call 44; (with_reducible refine (ki1 _).mono ?_); rintro e w2 ⟨rfl, rfl⟩) | (go_at_call 44; (with_reducible refine (ki2 _).mono ?_); rintro e w2 ⟨rfl, rfl⟩) | (go_at_call 44; (with_reducible refine (ki3 _).mono ?_); rintro e w2 ⟨rfl, rfl⟩) | fail)
          go_ret
          exact ⟨rfl, B2.out⟩
        | true =>
          rw [hb] at ki2
          cases hn : Hp.inB 1 4 (h.cs.length : Int) with
          | false =>
            rw [h12a (by rw [HD.out, hv, he, ha, hb, hn]; rfl)]
            rw [hn] at ki3
            clear hv he ha hb hn h12a HS HD HM
            go_enter Try.func35, Try.ntmps35
            go_upto_region 1 with fail
            rw [← HW2]
            clear HW2
            go_wp2_with (first | (go_at_call 77; (with_reducible refine kv.mono ?_); rintro e w1 ⟨rfl, hb1⟩; have HH1 := Lib.hid (HH0.out.below hb1); have B1 := Lib.hid (B0.out.trans (hb1.mono B0.out.size)); obtain ⟨h0, h1, h2, h3, h4, h5, h6⟩ := HH1.out.hd; clear hb1) | (go_at_call 78; (with_reducible refine (ke _).mono ?_); rintro e w2 ⟨rfl, hb2⟩; have HH2 := Lib.hid (HH1.out.below hb2); have B2 := Lib.hid (B1.out.trans (hb2.mono B1.out.size)); clear h0 h1 h2 h3 h4 h5 h6; obtain ⟨h0, h1, h2, h3, h4, h5, h6⟩ := HH2.out.hd; clear hb2) | (go_at_call 44; (with_reducible refine (ki1 _).mono ?_); rintro e w2 ⟨rfl, rfl⟩) | (go_at_call 44; (with_reducible refine (ki2 _).mono ?_); rintro e w2 ⟨rfl, rfl⟩) | (go_at_call 44; (with_reducible refine (ki3 _).mono ?_); rintro e w2 ⟨rfl, rfl⟩) | fail)
            go_ret
            exact ⟨rfl, B2.out⟩
          | true =>
            rw [hn] at ki3
            have hdt : Hp.hdB h = true := by rw [HD.out, hv, he, ha, hb, hn]; rfl
            have h12 : h.cs.all (Hp.cmB (Hp.hR h)) = false → Hp.headM h = 12 := fun q => by rw [HM.out, if_pos (by rw [HS.out, hdt, q]; rfl)]
            have h5a : h.cs.all (Hp.cmB (Hp.hR h)) = true → Hp.bigB h = true → Hp.headM h = 5 := fun q r => by rw [HM.out, if_neg (by rw [HS.out, hdt, q]; decide), if_pos r]
            have h00 : h.cs.all (Hp.cmB (Hp.hR h)) = true → Hp.bigB h = false → Hp.headM h = 0 := fun q r => by rw [HM.out, if_neg (by rw [HS.out, hdt, q]; decide), if_neg (by rw [r]; decide)]
            have HDT := Lib.hid hdt
            have H12 := Lib.hid h12
            have H5 := Lib.hid h5a
            have H0 := Lib.hid h00
            clear hv he ha hb hn h12a HS HD HM hdt h12 h5a h00
            go_enter Try.func35, Try.ntmps35
            go_upto_region 1 with fail
            rw [← HW2]
            clear HW2
            go_upto_region 4 with (first | (go_at_call 77; (with_reducible refine kv.mono ?_); rintro e w1 ⟨rfl, hb1⟩; have HH1 := Lib.hid (HH0.out.below hb1); have B1 := Lib.hid (B0.out.trans (hb1.mono B0.out.size)); obtain ⟨h0, h1, h2, h3, h4, h5, h6⟩ := HH1.out.hd; clear hb1) | (go_at_call 78; (with_reducible refine (ke _).mono ?_); rintro e w2 ⟨rfl, hb2⟩; have HH2 := Lib.hid (HH1.out.below hb2); have B2 := Lib.hid (B1.out.trans (hb2.mono B1.out.size)); clear h0 h1 h2 h3 h4 h5 h6; obtain ⟨h0, h1, h2, h3, h4, h5, h6⟩ := HH2.out.hd; clear hb2) | (go_at_call 44; (with_reducible refine (ki1 _).mono ?_); rintro e w2 ⟨rfl, rfl⟩) | (go_at_call 44; (with_reducible refine (ki2 _).mono ?_); rintro e w2 ⟨rfl, rfl⟩) | (go_at_call 44; (with_reducible refine (ki3 _).mono ?_); rintro e w2 ⟨rfl, rfl⟩) | fail)
            clear h0 h1 h2 h3 h4 h5 h6 kv ke ki1 ki2 ki3
            go_loopw [3] (fun i wr => ∃ k : Nat, k ≤ h.cs.length ∧ i = .int .i64 k ∧ Hid (∀ j (hj : j < h.cs.length), j < k → Hp.cmB (Hp.hR h) h.cs[j] = true) ∧ Hid (Below W.heap.size W wr) ∧ Hid (Blk wr W.heap.size 26 (hvA h s m))) (fun i _ => h.cs.length - (intOf i).toNat)
            case atStart => exact ⟨0, Nat.zero_le _, rfl, Lib.hid (fun j _ h => absurd h (Nat.not_lt_zero _)), B2, HH2⟩
            case round =>
              obtain ⟨k, hk, rfl, HA, HBe, HBl⟩ := hrel
              clear B0 B1 B2 HH0 HH1 HH2
              have g6 := HBl.out.get 6 (v := .slice s h.cs.length m) rfl
              by_cases hlt : k < h.cs.length
              · rcases hC with hC | ⟨bb, off, rfl, hr⟩
                · rw [hC] at hlt; simp at hlt
                obtain ⟨c0, c1, c2, c3⟩ := (hr k hlt).below HBe.out (Nat.le_refl _)
                have hki : (k : Int) < (h.cs.length : Int) := by omega
                have w2 : IntKind.i64.wrap ((k : Int) + 1) = (k : Int) + 1 := IntWalk.i64_in _ (by omega)
                have HF := Lib.hid (show Hp.cmB (Hp.hR h) h.cs[k] = false → h.cs.all (Hp.cmB (Hp.hR h)) = false from fun q => List.all_eq_false.2 ⟨_, List.getElem_mem hlt, by rw [q]; decide⟩)
                have HV := Lib.hid (show Hp.cmB (Hp.hR h) h.cs[k] = true → ∀ j (hj : j < h.cs.length), j < k + 1 → Hp.cmB (Hp.hR h) h.cs[j] = true from fun a j hj hjk => if e : j = k then by subst e; exact a else HA.out j hj (by omega))
                generalize h.cs[k] = V at *
                have HCM := Lib.hid (show Hp.cmB (Hp.hR h) V = (Hp.inB 1 16 V.depth && ((Hp.inB 1 4 V.dx && Hp.inB 1 4 V.dy) && !Hp.emR (Hp.smp (Hp.hR h) V))) from rfl)
                go_upto_region 7 with fail
                obtain ⟨X1, hX1⟩ : ∃ x, x = wr.alloc (.cells #[.int .i64 V.depth, .bool V.sg, .int .i64 V.dx, .int .i64 V.dy] 56) := ⟨_, rfl⟩
                obtain ⟨gx, hgx⟩ : ∃ x, wr.heap.size = x := ⟨_, rfl⟩
                have HCX := Lib.hid (show Blk X1 gx 56 #[.int .i64 V.depth, .bool V.sg, .int .i64 V.dx, .int .i64 V.dy] by rw [hX1, ← hgx]; exact Blk.new _ _ _)
                have HLX := Lib.hid (show Blk X1 W.heap.size 26 (hvA h (some ⟨bb, off, none⟩) m) by rw [hX1]; exact HBl.out.alloc _)
                have BX := Lib.hid (show Below W.heap.size W X1 by rw [hX1]; exact below_alloc HBe.out HBe.out.size _)
                rw [hgx, ← hX1]
                clear c0 c1 c2 c3 g6 hgx hX1 HBl HBe hr
                obtain ⟨c0, c1, c2, c3⟩ := HCX.out.four
                obtain ⟨h0, h1, h2, h3, -, -, -⟩ := HLX.out.hd
                have kd := fun W1 : World => in_r V.depth 1 16 W1
                have kx := fun W1 : World => in_r V.dx 1 4 W1
                have ky := fun W1 : World => in_r V.dy 1 4 W1
                have kr := fun W1 : World => red_r h.a h.b h.c h.d V.dx V.dy W1
                obtain ⟨Q, hQ⟩ : ∃ q, Pl.redR h.a h.b h.c h.d V.dx V.dy = q := ⟨_, rfl⟩
                have hQ2 : Hp.smp (Hp.hR h) V = Q := hQ
                rw [hQ] at kr
                have ke2 := fun W1 : World => empty_r Q.x0 Q.y0 Q.x1 Q.y1 W1
                have HEM := Lib.hid (show Hp.emR (Hp.smp (Hp.hR h) V) = Pl.emptyB Q.x0 Q.y0 Q.x1 Q.y1 by rw [hQ2]; rfl)
                have h12 := H12.out
                clear hQ hQ2
                cases hd1 : Hp.inB 1 16 V.depth with
                | false =>
                  rw [hd1] at kd
                  have hf := Lib.hid (HF.out (by rw [HCM.out, hd1]; rfl))
                  clear HF HV HA hd1 HCM HEM
                  go_wp2_with (first | (go_at_call 44; (with_reducible refine (kd _).mono ?_); rintro e X1 ⟨rfl, rfl⟩) | (go_at_call 44; (with_reducible refine (kx _).mono ?_); rintro e X1 ⟨rfl, rfl⟩) | (go_at_call 44; (with_reducible refine (ky _).mono ?_); rintro e X1 ⟨rfl, rfl⟩) | (go_at_call 79; (with_reducible refine (kr _).mono ?_); rintro e wn ⟨rfl, hbn⟩; have BBn := Lib.hid (BX.out.trans (hbn.mono BX.out.size)); have HLn := Lib.hid (HLX.out.below hbn); clear hbn) | (go_at_call 78; (with_reducible refine (ke2 _).mono ?_); rintro e wm ⟨rfl, hbm⟩; have BBm := Lib.hid (BBn.out.trans (hbm.mono BBn.out.size)); have HLm := Lib.hid (HLn.out.below hbm); clear hbm) | fail)
                  go_ret
                  exact ⟨congrArg (fun b => Ending.returned (.int .i64 b)) (h12 hf.out).symm, BX.out⟩
                | true =>
                  rw [hd1] at kd
                  cases hd2 : Hp.inB 1 4 V.dx with
                  | false =>
                    rw [hd2] at kx
                    have hf := Lib.hid (HF.out (by rw [HCM.out, hd1, hd2]; rfl))
                    clear HF HV HA hd1 hd2 HCM HEM
                    go_wp2_with (first | (go_at_call 44; (with_reducible refine (kd _).mono ?_); rintro e X1 ⟨rfl, rfl⟩) | (go_at_call 44; (with_reducible refine (kx _).mono ?_); rintro e X1 ⟨rfl, rfl⟩) | (go_at_call 44; (with_reducible refine (ky _).mono ?_); rintro e X1 ⟨rfl, rfl⟩) | (go_at_call 79; (with_reducible refine (kr _).mono ?_); rintro e wn ⟨rfl, hbn⟩; have BBn := Lib.hid (BX.out.trans (hbn.mono BX.out.size)); have HLn := Lib.hid (HLX.out.below hbn); clear hbn) | (go_at_call 78; (with_reducible refine (ke2 _).mono ?_); rintro e wm ⟨rfl, hbm⟩; have BBm := Lib.hid (BBn.out.trans (hbm.mono BBn.out.size)); have HLm := Lib.hid (HLn.out.below hbm); clear hbm) | fail)
                    go_ret
                    exact ⟨congrArg (fun b => Ending.returned (.int .i64 b)) (h12 hf.out).symm, BX.out⟩
                  | true =>
                    rw [hd2] at kx
                    cases hd3 : Hp.inB 1 4 V.dy with
                    | false =>
                      rw [hd3] at ky
                      have hf := Lib.hid (HF.out (by rw [HCM.out, hd1, hd2, hd3]; rfl))
                      clear HF HV HA hd1 hd2 hd3 HCM HEM
                      go_wp2_with (first | (go_at_call 44; (with_reducible refine (kd _).mono ?_); rintro e X1 ⟨rfl, rfl⟩) | (go_at_call 44; (with_reducible refine (kx _).mono ?_); rintro e X1 ⟨rfl, rfl⟩) | (go_at_call 44; (with_reducible refine (ky _).mono ?_); rintro e X1 ⟨rfl, rfl⟩) | (go_at_call 79; (with_reducible refine (kr _).mono ?_); rintro e wn ⟨rfl, hbn⟩; have BBn := Lib.hid (BX.out.trans (hbn.mono BX.out.size)); have HLn := Lib.hid (HLX.out.below hbn); clear hbn) | (go_at_call 78; (with_reducible refine (ke2 _).mono ?_); rintro e wm ⟨rfl, hbm⟩; have BBm := Lib.hid (BBn.out.trans (hbm.mono BBn.out.size)); have HLm := Lib.hid (HLn.out.below hbm); clear hbm) | fail)
                      go_ret
                      exact ⟨congrArg (fun b => Ending.returned (.int .i64 b)) (h12 hf.out).symm, BX.out⟩
                    | true =>
                      rw [hd3] at ky
                      cases hem : Hp.emR (Hp.smp (Hp.hR h) V) with
                      | true =>
                        rw [← HEM.out, hem] at ke2
                        have hf := Lib.hid (HF.out (by rw [HCM.out, hd1, hd2, hd3, hem]; rfl))
                        clear HF HV HA hd1 hd2 hd3 hem HCM HEM
                        go_wp2_with (first | (go_at_call 44; (with_reducible refine (kd _).mono ?_); rintro e X1 ⟨rfl, rfl⟩) | (go_at_call 44; (with_reducible refine (kx _).mono ?_); rintro e X1 ⟨rfl, rfl⟩) | (go_at_call 44; (with_reducible refine (ky _).mono ?_); rintro e X1 ⟨rfl, rfl⟩) | (go_at_call 79; (with_reducible refine (kr _).mono ?_); rintro e wn ⟨rfl, hbn⟩; have BBn := Lib.hid (BX.out.trans (hbn.mono BX.out.size)); have HLn := Lib.hid (HLX.out.below hbn); clear hbn) | (go_at_call 78; (with_reducible refine (ke2 _).mono ?_); rintro e wm ⟨rfl, hbm⟩; have BBm := Lib.hid (BBn.out.trans (hbm.mono BBn.out.size)); have HLm := Lib.hid (HLn.out.below hbm); clear hbm) | fail)
                        go_ret
                        exact ⟨congrArg (fun b => Ending.returned (.int .i64 b)) (h12 hf.out).symm, BBm.out⟩
                      | false =>
                        rw [← HEM.out, hem] at ke2
                        have HN := Lib.hid (HV.out (by rw [HCM.out, hd1, hd2, hd3, hem]; rfl))
                        clear HF HV HA hd1 hd2 hd3 hem HCM HEM
                        go_wp2_with (first | (go_at_call 44; (with_reducible refine (kd _).mono ?_); rintro e X1 ⟨rfl, rfl⟩) | (go_at_call 44; (with_reducible refine (kx _).mono ?_); rintro e X1 ⟨rfl, rfl⟩) | (go_at_call 44; (with_reducible refine (ky _).mono ?_); rintro e X1 ⟨rfl, rfl⟩) | (go_at_call 79; (with_reducible refine (kr _).mono ?_); rintro e wn ⟨rfl, hbn⟩; have BBn := Lib.hid (BX.out.trans (hbn.mono BX.out.size)); have HLn := Lib.hid (HLX.out.below hbn); clear hbn) | (go_at_call 78; (with_reducible refine (ke2 _).mono ?_); rintro e wm ⟨rfl, hbm⟩; have BBm := Lib.hid (BBn.out.trans (hbm.mono BBn.out.size)); have HLm := Lib.hid (HLn.out.below hbm); clear hbm) | fail)
                        go_roundw
                        case rel => exact ⟨k + 1, by omega, by go_num, HN, BBm, HLm⟩
                        case measure => simp [intOf]; omega
              · obtain rfl : k = h.cs.length := by omega
                have HAL := Lib.hid (show h.cs.all (Hp.cmB (Hp.hR h)) = true from List.all_eq_true.2 fun x hx => by
                  obtain ⟨j, hj, rfl⟩ := List.getElem_of_mem hx
                  exact HA.out j hj hj)
                have kt := tiles_r h s m wr HDT.out
                have HMM := Lib.hid (show Hp.manyB h = decide (1024 < Hp.cellsI h.a h.c h.tw * Hp.cellsI h.b h.d h.th) from rfl)
                have HBB := Lib.hid (show Hp.bigB h = (Hp.manyB h || h.cs.any (Hp.wideB (Hp.hR h))) from rfl)
                generalize Hp.cellsI h.a h.c h.tw * Hp.cellsI h.b h.d h.th = NT at *
                clear HA
                by_cases hnt : 1024 < NT
                · have HRS := Lib.hid (H5.out HAL.out (by rw [HBB.out, HMM.out, decide_eq_true hnt]; rfl))
                  go_wp2_with (first | (refine wpList_load_mid rfl 26 (.tmp 1) rfl W.heap.size 0 rfl (hvA h s m).toList _ HBl.out.range Try.underlying26 rfl info7 ?_) | (go_at_call 80; (with_reducible refine kt.mono ?_); rintro e w3 ⟨rfl, hb3⟩; have B3 := Lib.hid (HBe.out.trans (hb3.mono HBe.out.size)); clear hb3) | fail)
                  go_ret
                  exact ⟨congrArg (fun b => Ending.returned (.int .i64 b)) HRS.out.symm, B3.out⟩
                · have HNM := Lib.hid (show Hp.manyB h = false by rw [HMM.out]; exact decide_eq_false hnt)
                  go_upto_region 12 with (first | (refine wpList_load_mid rfl 26 (.tmp 1) rfl W.heap.size 0 rfl (hvA h s m).toList _ HBl.out.range Try.underlying26 rfl info7 ?_) | (go_at_call 80; (with_reducible refine kt.mono ?_); rintro e w3 ⟨rfl, hb3⟩; have B3 := Lib.hid (HBe.out.trans (hb3.mono HBe.out.size)); have HH3 := Lib.hid (HBl.out.below hb3); clear hb3) | fail)
                  clear kt g6
                  go_loopw [5] (fun i wr => ∃ k : Nat, k ≤ h.cs.length ∧ i = .int .i64 k ∧ Hid (∀ j (hj : j < h.cs.length), j < k → Hp.wideB (Hp.hR h) h.cs[j] = false) ∧ Hid (Below W.heap.size W wr) ∧ Hid (Blk wr W.heap.size 26 (hvA h s m))) (fun i _ => h.cs.length - (intOf i).toNat)
                  case atStart => exact ⟨0, Nat.zero_le _, rfl, Lib.hid (fun j _ h => absurd h (Nat.not_lt_zero _)), B3, HH3⟩
                  case round =>
                    obtain ⟨k, hk, rfl, HA, HBe, HBl⟩ := hrel
                    clear B3 HH3
                    have g6 := HBl.out.get 6 (v := .slice s h.cs.length m) rfl
                    by_cases hlt : k < h.cs.length
                    · rcases hC with hC | ⟨bb, off, rfl, hr⟩
                      · rw [hC] at hlt; simp at hlt
                      obtain ⟨c0, c1, c2, c3⟩ := (hr k hlt).below HBe.out (Nat.le_refl _)
                      have hki : (k : Int) < (h.cs.length : Int) := by omega
                      have w2 : IntKind.i64.wrap ((k : Int) + 1) = (k : Int) + 1 := IntWalk.i64_in _ (by omega)
                      have HF := Lib.hid (show Hp.wideB (Hp.hR h) h.cs[k] = true → h.cs.any (Hp.wideB (Hp.hR h)) = true from fun q => List.any_eq_true.2 ⟨_, List.getElem_mem hlt, q⟩)
                      have HV := Lib.hid (show Hp.wideB (Hp.hR h) h.cs[k] = false → ∀ j (hj : j < h.cs.length), j < k + 1 → Hp.wideB (Hp.hR h) h.cs[j] = false from fun a j hj hjk => if e : j = k then by subst e; exact a else HA.out j hj (by omega))
                      generalize h.cs[k] = V at *
                      go_upto_region 15 with fail
                      obtain ⟨X1, hX1⟩ : ∃ x, x = wr.alloc (.cells #[.int .i64 V.depth, .bool V.sg, .int .i64 V.dx, .int .i64 V.dy] 56) := ⟨_, rfl⟩
                      obtain ⟨gx, hgx⟩ : ∃ x, wr.heap.size = x := ⟨_, rfl⟩
                      have HCX := Lib.hid (show Blk X1 gx 56 #[.int .i64 V.depth, .bool V.sg, .int .i64 V.dx, .int .i64 V.dy] by rw [hX1, ← hgx]; exact Blk.new _ _ _)
                      have HLX := Lib.hid (show Blk X1 W.heap.size 26 (hvA h (some ⟨bb, off, none⟩) m) by rw [hX1]; exact HBl.out.alloc _)
                      have BX := Lib.hid (show Below W.heap.size W X1 by rw [hX1]; exact below_alloc HBe.out HBe.out.size _)
                      rw [hgx, ← hX1]
                      clear c0 c1 c2 c3 g6 hgx hX1 HBl HBe hr
                      obtain ⟨c0, c1, c2, c3⟩ := HCX.out.four
                      obtain ⟨h0, h1, h2, h3, -, -, -⟩ := HLX.out.hd
                      have kr := fun W1 : World => red_r h.a h.b h.c h.d V.dx V.dy W1
                      obtain ⟨Q, hQ⟩ : ∃ q, Pl.redR h.a h.b h.c h.d V.dx V.dy = q := ⟨_, rfl⟩
                      have hQ2 : Hp.smp (Hp.hR h) V = Q := hQ
                      rw [hQ] at kr
                      have ka2 := fun W1 : World => area_r Q.x0 Q.y0 Q.x1 Q.y1 W1
                      have HWI := Lib.hid (show Hp.wideB (Hp.hR h) V = decide (1048576 < Pl.areaI Q.x0 Q.y0 Q.x1 Q.y1) by unfold Hp.wideB; rw [hQ2]; rfl)
                      generalize Pl.areaI Q.x0 Q.y0 Q.x1 Q.y1 = AR at *
                      clear hQ hQ2
                      by_cases har : 1048576 < AR
                      · have HRS := Lib.hid (H5.out HAL.out (by rw [HBB.out, HNM.out, HF.out (by rw [HWI.out]; exact decide_eq_true har)]; rfl))
                        clear HF HV HA HWI
                        go_wp2_with (first | (go_at_call 79; (with_reducible refine (kr _).mono ?_); rintro e wn ⟨rfl, hbn⟩; have BBn := Lib.hid (BX.out.trans (hbn.mono BX.out.size)); have HLn := Lib.hid (HLX.out.below hbn); clear hbn) | (go_at_call 81; (with_reducible refine (ka2 _).mono ?_); rintro e wm ⟨rfl, hbm⟩; have BBm := Lib.hid (BBn.out.trans (hbm.mono BBn.out.size)); have HLm := Lib.hid (HLn.out.below hbm); clear hbm) | fail)
                        go_ret
                        exact ⟨congrArg (fun b => Ending.returned (.int .i64 b)) HRS.out.symm, BBm.out⟩
                      · have HN := Lib.hid (HV.out (by rw [HWI.out]; exact decide_eq_false har))
                        clear HF HV HA HWI
                        go_wp2_with (first | (go_at_call 79; (with_reducible refine (kr _).mono ?_); rintro e wn ⟨rfl, hbn⟩; have BBn := Lib.hid (BX.out.trans (hbn.mono BX.out.size)); have HLn := Lib.hid (HLX.out.below hbn); clear hbn) | (go_at_call 81; (with_reducible refine (ka2 _).mono ?_); rintro e wm ⟨rfl, hbm⟩; have BBm := Lib.hid (BBn.out.trans (hbm.mono BBn.out.size)); have HLm := Lib.hid (HLn.out.below hbm); clear hbm) | fail)
                        go_roundw
                        case rel => exact ⟨k + 1, by omega, by go_num, HN, BBm, HLm⟩
                        case measure => simp [intOf]; omega
                    · obtain rfl : k = h.cs.length := by omega
                      have HRS := Lib.hid (H0.out HAL.out (by
                        rw [HBB.out, HNM.out]
                        have q : h.cs.any (Hp.wideB (Hp.hR h)) = false := any_no fun j hj => HA.out j hj
                        rw [q]; rfl))
                      clear HA
                      go_wp2_with fail
                      go_ret
                      exact ⟨congrArg (fun b => Ending.returned (.int .i64 b)) HRS.out.symm, HBe.out⟩
end Go.Proofs.Ytkcjbehfhcmiaaa
