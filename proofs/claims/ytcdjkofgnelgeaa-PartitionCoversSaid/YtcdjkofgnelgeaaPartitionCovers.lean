/-
  For all rectangles and exponents the statement PartitionCovers returns true.
  Conditions: none beyond those of the given statement.
-/
import Derived.Test.YtcdjkofgnelgeaaPw
set_option maxRecDepth 100000
namespace Go.Proofs.Ytcdjkofgnelgeaa.partitionCovers
open Go.ChangeShapes Go.WideShapes Go.ChangeAt Go.RowKit Go.Joins Go.Deep

set_option maxHeartbeats 8000000 in
theorem walk (a b c d px py : Int) (W : World) : Calls Try.prog 6 #[.agg #[.int .i64 a, .int .i64 b, .int .i64 c, .int .i64 d], .int .i64 px, .int .i64 py] W fun e w' => e = .returned (.bool true) ∧ Below W.heap.size W w' := by
  obtain ⟨WB, hWB⟩ : ∃ ww, ww = (W.alloc (.cells #[.int .i64 a, .int .i64 b, .int .i64 c, .int .i64 d] 23)) := ⟨_, rfl⟩
  have hb0 : Below W.heap.size W WB := by rw [hWB]; exact (below_alloc (Below.refl _ W) (Nat.le_refl _) _)
  have B0 := Lib.hid hb0
  have hX : Blk WB (W.heap.size) 23 #[.int .i64 a, .int .i64 b, .int .i64 c, .int .i64 d] := by
    have := Blk.new (W) 23 #[.int .i64 a, .int .i64 b, .int .i64 c, .int .i64 d]
    rw [hWB]
    exact (show Blk _ (W.heap.size) _ _ by simpa using this)
  have HX0 := Lib.hid hX
  have HWB := Lib.hid hWB
  clear hb0 hWB hX
  have ke := fun W1 : World => ex22_c W1
  have ks := fun W1 : World => small_c a b c d W1
  obtain ⟨sm, hsm⟩ : ∃ sm, sm = (Pl.validB a b c d && !Pl.emptyB a b c d && decide (Pl.areaI a b c d ≤ 400)) := ⟨_, rfl⟩
  rw [← hsm] at ks
  cases sm with
  | false =>
    clear hsm
    go_enter Try.func6, Try.ntmps6
    go_wp2_with (first | (go_at_call 18; (with_reducible refine (ks _).mono ?_); rintro e w1 ⟨rfl, hb1⟩; have hb := (show Below WB.heap.size WB w1 by rw [HWB.out]; exact hb1); clear hb1; have B1 := Lib.hid (B0.out.trans (hb.mono B0.out.size)); have HX1 := Lib.hid (HX0.out.below hb); obtain ⟨x0, x1, x2, x3⟩ := HX1.out.four; clear hb) | (go_at_call 12; (with_reducible refine (ke _).mono ?_); rintro e w2 ⟨rfl, hb2⟩; have B2 := Lib.hid (B1.out.trans (hb2.mono B1.out.size)); clear hb2) | fail)
    go_ret
    exact ⟨rfl, B2.out⟩
  | true =>
    have hs2 : Pl.validB a b c d = true ∧ Pl.emptyB a b c d = false ∧ Pl.areaI a b c d ≤ 400 := by
      have := hsm.symm
      simp only [Bool.and_eq_true, decide_eq_true_eq, Bool.not_eq_true'] at this
      exact ⟨this.1.1, this.1.2, this.2⟩
    by_cases g1 : px < 0
    · clear hsm hs2
      go_enter Try.func6, Try.ntmps6
      go_wp2_with (first | (go_at_call 18; (with_reducible refine (ks _).mono ?_); rintro e w1 ⟨rfl, hb1⟩; have hb := (show Below WB.heap.size WB w1 by rw [HWB.out]; exact hb1); clear hb1; have B1 := Lib.hid (B0.out.trans (hb.mono B0.out.size)); have HX1 := Lib.hid (HX0.out.below hb); obtain ⟨x0, x1, x2, x3⟩ := HX1.out.four; clear hb) | (go_at_call 12; (with_reducible refine (ke _).mono ?_); rintro e w2 ⟨rfl, hb2⟩; have B2 := Lib.hid (B1.out.trans (hb2.mono B1.out.size)); clear hb2) | fail)
      go_ret
      exact ⟨rfl, B2.out⟩
    ·
      by_cases g2 : 12 < px
      · clear hsm hs2
        go_enter Try.func6, Try.ntmps6
        go_wp2_with (first | (go_at_call 18; (with_reducible refine (ks _).mono ?_); rintro e w1 ⟨rfl, hb1⟩; have hb := (show Below WB.heap.size WB w1 by rw [HWB.out]; exact hb1); clear hb1; have B1 := Lib.hid (B0.out.trans (hb.mono B0.out.size)); have HX1 := Lib.hid (HX0.out.below hb); obtain ⟨x0, x1, x2, x3⟩ := HX1.out.four; clear hb) | (go_at_call 12; (with_reducible refine (ke _).mono ?_); rintro e w2 ⟨rfl, hb2⟩; have B2 := Lib.hid (B1.out.trans (hb2.mono B1.out.size)); clear hb2) | fail)
        go_ret
        exact ⟨rfl, B2.out⟩
      ·
        by_cases g3 : py < 0
        · clear hsm hs2
          go_enter Try.func6, Try.ntmps6
          go_wp2_with (first | (go_at_call 18; (with_reducible refine (ks _).mono ?_); rintro e w1 ⟨rfl, hb1⟩; have hb := (show Below WB.heap.size WB w1 by rw [HWB.out]; exact hb1); clear hb1; have B1 := Lib.hid (B0.out.trans (hb.mono B0.out.size)); have HX1 := Lib.hid (HX0.out.below hb); obtain ⟨x0, x1, x2, x3⟩ := HX1.out.four; clear hb) | (go_at_call 12; (with_reducible refine (ke _).mono ?_); rintro e w2 ⟨rfl, hb2⟩; have B2 := Lib.hid (B1.out.trans (hb2.mono B1.out.size)); clear hb2) | fail)
          go_ret
          exact ⟨rfl, B2.out⟩
        ·
          by_cases g4 : 12 < py
          · clear hsm hs2
            go_enter Try.func6, Try.ntmps6
            go_wp2_with (first | (go_at_call 18; (with_reducible refine (ks _).mono ?_); rintro e w1 ⟨rfl, hb1⟩; have hb := (show Below WB.heap.size WB w1 by rw [HWB.out]; exact hb1); clear hb1; have B1 := Lib.hid (B0.out.trans (hb.mono B0.out.size)); have HX1 := Lib.hid (HX0.out.below hb); obtain ⟨x0, x1, x2, x3⟩ := HX1.out.four; clear hb) | (go_at_call 12; (with_reducible refine (ke _).mono ?_); rintro e w2 ⟨rfl, hb2⟩; have B2 := Lib.hid (B1.out.trans (hb2.mono B1.out.size)); clear hb2) | fail)
            go_ret
            exact ⟨rfl, B2.out⟩
          ·
            clear hsm
            obtain ⟨hg, n1, n2, n3⟩ := cov_facts (ea := px) (eb := py) hs2.1 hs2.2.1 hs2.2.2 (by omega) (by omega) (by omega) (by omega)
            obtain ⟨hv, _, _⟩ := hs2
            obtain ⟨v1, v2, v3, v4, v5, v6⟩ := Pl.valid_iff.1 hv
            have kq := fun W1 : World => precincts_c a b c d px py W1
            rw [show Pl.colsI a b c d px py 12 = (Pl.nX a c (Pl.pw px) : Int) from if_pos hg, show Pl.rowsI a b c d px py 12 = (Pl.nX b d (Pl.pw py) : Int) from if_pos hg] at kq
            have pex := prec_exact hg
            have psome := fun (k : Nat) hk => prec_some (k := k) hg hk
            have pok : ∀ k : Nat, k < Pl.nX a c (Pl.pw px) * Pl.nX b d (Pl.pw py) → pOk a b c d px py (k : Int) := fun k hk => ⟨hg, by omega, by omega⟩
            have kp := fun (k : Nat) (W1 : World) => precinct_c a b c d px py (k : Int) W1
            have kb := fun W1 : World => blocks_c a b c d px py W1
            have bl := fun (q1 : px ≤ 6) (q2 : py ≤ 6) => blocks_list hg q1 q2
            have bc : ∀ (q1 : px ≤ 6) (q2 : py ≤ 6), Pl.colsI a b c d px py 6 = (Pl.nX a c (Pl.pw px) : Int) ∧ Pl.rowsI a b c d px py 6 = (Pl.nX b d (Pl.pw py) : Int) := fun q1 q2 =>
              have h6 := (ok6 _ _ _ _ _ _).2 ⟨⟨hg.2.2.1, q1, hg.2.2.2.2.1, q2⟩, hg⟩
              ⟨if_pos h6, if_pos h6⟩
            obtain ⟨f4, f5, f6⟩ := fits400 n1 n2 n3
            have hf : (fun k : Nat => precR a b c d px py (k : Int)) = fun k : Nat => precR a b c d px py (k : Int) := rfl
            generalize hF : (fun k : Nat => precR a b c d px py (k : Int)) = F at *
            have hFk : ∀ k : Nat, precR a b c d px py (k : Int) = F k := fun k => by rw [← hF]
            generalize Pl.nX a c (Pl.pw px) = nx at *
            generalize Pl.nX b d (Pl.pw py) = ny at *
            obtain ⟨N, hN⟩ : ∃ N, N = nx * ny := ⟨_, rfl⟩
            rw [← hN] at pex psome pok bl n3 f6
            have hlN : (lstF F N).length = N := lstF_len F N
            have kx := fun (s : Option Addr) (m : Nat) (W1 : World) (hH : Holds W1 s (lstF F N)) => exact_c a b c d ⟨v1, v3⟩ ⟨v4, v6⟩ s m (lstF F N) W1 (by rw [hlN]; omega) hH pex.1 pex.2
            have m1 : ¬ ((nx : Int) < 1) := by omega
            have m2 : ¬ ((ny : Int) < 1) := by omega
            have m3 : ¬ ((400 : Int) < (nx : Int)) := by omega
            have m4 : ¬ ((400 : Int) < (ny : Int)) := by omega
            have m5 : ¬ ((400 : Int) < (N : Int)) := by omega
            have F6 := Lib.hid f6
            have KP := Lib.hid kp
            have KX := Lib.hid kx
            have KB := Lib.hid kb
            have BL := Lib.hid bl
            have BC := Lib.hid bc
            have POK := Lib.hid pok
            have PS := Lib.hid psome
            have HFK := Lib.hid hFk
            have N3 := Lib.hid n3
            have HLN := Lib.hid hlN
            clear hg n1 n2 n3 hv v1 v2 v3 v4 v5 v6 pex psome pok kp kb kx bl bc hf hF hFk f4 f5 hN hlN
            obtain ⟨i0, hi, hz0, hz1, hz2⟩ := info_parts infoR
            go_enter Try.func6, Try.ntmps6
            go_wp2_with (first | (go_at_call 18; (with_reducible refine (ks _).mono ?_); rintro e w1 ⟨rfl, hb1⟩; have hb := (show Below WB.heap.size WB w1 by rw [HWB.out]; exact hb1); clear hb1; have B1 := Lib.hid (B0.out.trans (hb.mono B0.out.size)); have HX1 := Lib.hid (HX0.out.below hb); obtain ⟨x0, x1, x2, x3⟩ := HX1.out.four; clear hb) | (go_at_call 8; (with_reducible refine (kq _).mono ?_); rintro e w2 ⟨rfl, hb2⟩; clear x0 x1 x2 x3; have B2 := Lib.hid (B1.out.trans (hb2.mono B1.out.size)); have HX2 := Lib.hid (HX1.out.below hb2); obtain ⟨x0, x1, x2, x3⟩ := HX2.out.four; clear hb2) | fail)
            have G0 := Lib.hid (Gw.start W w2 (W.heap.size + 1) B2.out (by omega) HX2.out.lt)
            clear x0 x1 x2 x3 m5
            clear f6
            go_loopw [9, 10] (fun v i wr => ∃ k : Nat, k ≤ N ∧ i = .int .i64 (k : Int) ∧ Hid (Gw W (W.heap.size + 1) wr v (lstF F k)) ∧ Hid (Blk wr W.heap.size 23 #[.int .i64 a, .int .i64 b, .int .i64 c, .int .i64 d])) (fun _ i _ => N - (intOf i).toNat)
            case atStart => exact ⟨0, Nat.zero_le _, rfl, G0, HX2⟩
            case round =>
              obtain ⟨k, hk, rfl, G, hX⟩ := hrel
              clear G0
              have f6 := F6.out
              obtain ⟨x0, x1, x2, x3⟩ := hX.out.four
              by_cases hlt : k < N
              · have kp := KP.out k
                rw [decide_eq_true (POK.out k hlt), HFK.out k] at kp
                have hs := lstF_succ F k
                have HS := Lib.hid hs
                have ps := PS.out k hlt
                rw [HFK.out k] at ps
                generalize F k = PP at *
                obtain ⟨p0, p1, p2, p3⟩ := PP
                dsimp only at kp ps
                obtain ⟨ps1, ps2⟩ := ps
                have ps3 : ¬ (p2 ≤ p0) := by omega
                have ps4 : ¬ (p3 ≤ p1) := by omega
                have lt2 : (k : Int) < (N : Int) := by omega
                have HLT := Lib.hid hlt
                clear hs ps1 ps2
                go_wp2_with (first | (go_at_call 10; (with_reducible refine (kp _).mono ?_); rintro e w7 ⟨rfl, hb7⟩; have G7 := Lib.hid ((G.out.call hb7).alloc (.cells #[.int .i64 p0, .int .i64 p1, .int .i64 p2, .int .i64 p3] 23)); have hX7 := Lib.hid ((hX.out.below hb7).alloc (.cells #[.int .i64 p0, .int .i64 p1, .int .i64 p2, .int .i64 p3] 23)); obtain ⟨z0, z1, z2, z3⟩ := (Blk.new w7 23 #[.int .i64 p0, .int .i64 p1, .int .i64 p2, .int .i64 p3]).four; clear hb7 x0 x1 x2 x3 f6) | (at_builtin; refine wpList_append_own _ rfl _ _ 35 rfl (W.heap.size + 1) 23 i0 (.agg #[.int .i64 0, .int .i64 0, .int .i64 0, .int .i64 0]) 4 32 Try.underlying35 hi hz0 hz1 hz2 rfl (by decide) _ _ _ rfl (G7.out.own.alloc _) ⟨w7.heap.size + 1, 0, none⟩ 1 1 [.int .i64 p0, .int .i64 p1, .int .i64 p2, .int .i64 p3] rfl rfl ?c1 ?c2 ?c3 ?c4 ?c5 ?_))
                case c1 => exact four_cells _ _ (by simp) ⟨p0, p1, p2, p3⟩
                case c2 => intro u hu; simp at hu; rcases hu with rfl | rfl | rfl | rfl <;> rfl
                case c3 => rw [lstF_len]; have := N3.out; have := HLT.out; unfold maxLen; omega
                case c4 => rw [lstF_len]; have := N3.out; have := HLT.out; omega
                case c5 => exact Nat.le_trans G7.out.hB.2 (by simp)
                intro v' w8 hown8 hgrow8 _
                have G8 := Lib.hid ((G7.out.alloc _).push hgrow8 ⟨p0, p1, p2, p3⟩ hown8)
                rw [← HS.out] at G8
                have hX8 := Lib.hid ((G7.out.alloc _).blk hgrow8 (by omega) (hX7.out.alloc _))
                clear hown8 hgrow8 G7 G
                have hcp := N3.out
                have hl2 := HLT.out
                go_wp2_with fail
                go_roundw
                case rel => exact ⟨k + 1, HLT.out, by go_num, G8, hX8⟩
                case measure => simp [intOf]; omega
              · obtain rfl : k = N := by omega
                obtain ⟨sl, ml, hv0, hH⟩ := row_holds G.out.own
                subst hv0
                have kx := KX.out sl ml wr hH
                have HG := Lib.hid G.out.below
                clear hH G
                by_cases u1 : 6 < px
                · go_wp2_with (first | (go_at_call 19; (with_reducible refine kx.mono ?_); rintro e w8 ⟨rfl, hb8⟩; have B8 := Lib.hid (HG.out.trans (hb8.mono HG.out.size)); clear hb8) | (go_at_call 12; (with_reducible refine (ke _).mono ?_); rintro e w9 ⟨rfl, hb9⟩; have B9 := Lib.hid (B8.out.trans (hb9.mono B8.out.size)); clear hb9) | fail)
                  go_ret
                  exact ⟨rfl, B9.out⟩
                · by_cases u2 : 6 < py
                  · go_wp2_with (first | (go_at_call 19; (with_reducible refine kx.mono ?_); rintro e w8 ⟨rfl, hb8⟩; have B8 := Lib.hid (HG.out.trans (hb8.mono HG.out.size)); clear hb8) | (go_at_call 12; (with_reducible refine (ke _).mono ?_); rintro e w9 ⟨rfl, hb9⟩; have B9 := Lib.hid (B8.out.trans (hb9.mono B8.out.size)); clear hb9) | fail)
                    go_ret
                    exact ⟨rfl, B9.out⟩
                  · have kb := KB.out
                    obtain ⟨bc1, bc2⟩ := BC.out (by omega) (by omega)
                    rw [bc1, bc2, BL.out (by omega) (by omega), HLN.out] at kb
                    have kx2 := KX.out
                    rw [HLN.out] at kx2
                    have KX2 := Lib.hid kx2
                    have hnn : ((k : Int) == (k : Int)) = true := by simp
                    have e1 : ((nx : Int) == (nx : Int)) = true := by simp
                    have e2 : ((ny : Int) == (ny : Int)) = true := by simp
                    clear bc1 bc2 kx2
                    go_wp2_with (first | (go_at_call 19; (with_reducible refine kx.mono ?_); rintro e w8 ⟨rfl, hb8⟩; have B8 := Lib.hid (HG.out.trans (hb8.mono HG.out.size)); obtain ⟨y0, y1, y2, y3⟩ := (hX.out.below hb8).four; have hX8 := Lib.hid (hX.out.below hb8); clear hb8 kx) | (go_at_call 15; (with_reducible refine (kb _).mono ?_); rintro e w9 ⟨s9, m9, rfl, hh9, hb9⟩; have B9 := Lib.hid (B8.out.trans (hb9.mono B8.out.size)); clear y0 y1 y2 y3; obtain ⟨y0, y1, y2, y3⟩ := (hX8.out.below hb9).four; have kz := KX2.out s9 m9 w9 hh9; clear hb9 hh9) | (go_at_call 19; (with_reducible refine kz.mono ?_); rintro e w10 ⟨rfl, hb10⟩; have B10 := Lib.hid (B9.out.trans (hb10.mono B9.out.size)); clear hb10) | (go_at_call 12; (with_reducible refine (ke _).mono ?_); rintro e w11 ⟨rfl, hb11⟩; have B11 := Lib.hid (B10.out.trans (hb11.mono B10.out.size)); clear hb11) | fail)
        
                    go_ret
                    exact ⟨rfl, B11.out⟩

set_option maxRecDepth 100000 in
theorem lifted (os : Os) (started : os.Started) (H : Type) (enc : TypeId × Value → H) :
    ReturnsInHanded {} Try.checked os 6 .any (Rows.partitionCoversSpec.pre6 enc Try.prog Try.f6 Rows.partitionCoversRow.domain false) (Rows.partitionCoversSpec.post enc Try.prog Try.f6 false true false false) := by
  refine returnsInHanded_of_change (C := Try.checked) own started (by kernel_rfl) Try.func6
    (ChangeSpec.witness6 (enc := enc) (C := Try.checked) false ⟨#[], #[.agg #[.int .i64 0, .int .i64 0, .int .i64 0, .int .i64 0], .int .i64 0, .int .i64 0], []⟩ 8 (by kernel_rfl) (by kernel_rfl) (by kernel_rfl) (by kernel_rfl)) ?_
  intro W base args ds gs before hval0 hW _ _
  have hval : ∀ (j : Nat) t v, Try.f6.params[j]? = some t → args[j]? = some v → Value.okWide Try.prog W .any base t v := hval0
  have hW' := hW
  obtain ⟨p, q, hA0, hV, rfl, _, _⟩ := hW
  have hA : DataW.TrodAll enc Try.prog W 0 (fun _ => true) true Try.f6.params.toList args.toList ds p := hA0
  rw [Try.params6] at hA hval
  obtain ⟨v0, vs0, d0, ds0, p0, q0, hargs, rfl, rfl, h0, r0⟩ := trodAll_cons hA
  obtain ⟨v1, vs1, d1, ds1, p1, q1, rfl, rfl, rfl, h1, r1⟩ := trodAll_cons r0
  obtain ⟨v2, vs2, d2, ds2, p2, q2, rfl, rfl, rfl, h2, r2⟩ := trodAll_cons r1
  obtain ⟨rfl, rfl, rfl⟩ := trodAll_nil r2
  obtain rfl : args = #[v0, v1, v2] := by cases args; simp_all
  obtain ⟨rfl, rfl⟩ := trodVars_none hV
  clear hA0 hval0
  simp only [List.append_nil] at hW'
  have l0 : ∀ x ∈ p0, x.block < W.heap.size := fun x hx => hW'.lt x (by simp [hx])
  have l1 : ∀ x ∈ p1, x.block < W.heap.size := fun x hx => hW'.lt x (by simp [hx])
  have l2 : ∀ x ∈ p2, x.block < W.heap.size := fun x hx => hW'.lt x (by simp [hx])
  obtain ⟨a0, b0, c0, e0, rfl, _, _, _, _⟩ := open_rect (hval 0 23 v0 rfl rfl) h0
  obtain ⟨i1, rfl, _, _, wi1⟩ := open_int Try.underlying3 (hval 1 3 v1 rfl rfl) h1
  obtain ⟨i2, rfl, _, _, wi2⟩ := open_int Try.underlying3 (hval 2 3 v2 rfl rfl) h2
  refine (walk a0 b0 c0 e0 i1 i2 W).mono fun e W' ⟨he, hb⟩ => ?_
  subst he
  exact ⟨_, rfl, post_low (pa := p0 ++ (p1 ++ (p2 ++ ([])))) (pv := []) hW' (fun _ _ _ => (trodAll_cons_mk (shut_bool Try.underlying4 _) trodAll_mk0)) (fun sp hsp => (trodAll_cons_mk (trod_low laidOut (by kernel_rfl) (of_decide_eq_true (by kernel_rfl)) h0 hb l0 (fun x hx => hsp x (by simp [hx]))) (trodAll_cons_mk (trod_low laidOut (by kernel_rfl) (of_decide_eq_true (by kernel_rfl)) h1 hb l1 (fun x hx => hsp x (by simp [hx]))) (trodAll_cons_mk (trod_low laidOut (by kernel_rfl) (of_decide_eq_true (by kernel_rfl)) h2 hb l2 (fun x hx => hsp x (by simp [hx]))) trodAll_mk0)))) (fun _ _ => rfl) (by simp) hb (ok_one (by kernel_rfl) rfl (okWide_bool_mk Try.underlying4 _))⟩

theorem over : Rows.partitionCoversRow.holds Try.pinned (OpenSpec.ofChange Rows.partitionCoversSpec) :=
  OpenClaim.holds_of_wide 6 Try.f6 rfl rfl rfl rfl rfl rfl rfl ⟨rfl, rfl, rfl, rfl, rfl⟩ rfl rfl rfl rfl rfl (by kernel_rfl) Try.func6 (by kernel_rfl)
    (of_decide_eq_true (by kernel_rfl)) (by unfold Func.isWrapper; first | (rw [if_pos (by decide +kernel)]; kernel_rfl) | (rw [if_neg (by decide +kernel)]; exact ⟨rfl, rfl⟩))
    (fun os started H enc _ => lifted os started H enc)

theorem proved : Rows.PartitionCoversSaid :=
  over
#print axioms proved
end Go.Proofs.Ytcdjkofgnelgeaa.partitionCovers
