/-
  For all rectangles, exponents and orientations the statement PartitionBandCovers returns true.
  Conditions: none beyond those of the given statement.
-/
import Derived.Test.YtcdjkofgnelgeaaPw
set_option maxRecDepth 100000
namespace Go.Proofs.Ytcdjkofgnelgeaa.partitionBandCovers
open Go.ChangeShapes Go.WideShapes Go.ChangeAt Go.RowKit Go.Joins Go.Deep

set_option maxHeartbeats 8000000 in
theorem main1 (a b c d px py : Int) (W : World) (hs2 : Pl.validB a b c d = true ∧ Pl.emptyB a b c d = false ∧ Pl.areaI a b c d ≤ 400) (g1 : ¬ px < 1) (g2 : ¬ 12 < px) (g3 : ¬ py < 1) (g4 : ¬ 12 < py) : Calls Try.prog 7 #[.agg #[.int .i64 a, .int .i64 b, .int .i64 c, .int .i64 d], .int .i64 px, .int .i64 py, .int .i64 1] W fun e w' => e = .returned (.bool true) ∧ Below W.heap.size W w' := by
  obtain ⟨WB, hWB⟩ : ∃ ww, ww = (W.alloc (.cells #[.int .i64 a, .int .i64 b, .int .i64 c, .int .i64 d] 23)) := ⟨_, rfl⟩
  have hb0 : Below W.heap.size W WB := by rw [hWB]; exact (below_alloc (Below.refl _ W) (Nat.le_refl _) _)
  have B0 := Lib.hid hb0
  have hX : Blk WB (W.heap.size) 23 #[.int .i64 a, .int .i64 b, .int .i64 c, .int .i64 d] := by
    have := Blk.new (W) 23 #[.int .i64 a, .int .i64 b, .int .i64 c, .int .i64 d]
    rw [hWB]
    exact (show Blk _ (W.heap.size) _ _ by simpa using this)
  have HX0 := Lib.hid hX
  have HWB := Lib.hid hWB
  clear hb0 hWB hX
  have ke := fun W1 : World => ex22_c W1
  have ks := fun W1 : World => small_c a b c d W1
  rw [hs2.1, hs2.2.1, decide_eq_true hs2.2.2] at ks
  obtain ⟨hg, n1, n2, n3⟩ := cov_facts (ea := px) (eb := py) hs2.1 hs2.2.1 hs2.2.2 (by omega) (by omega) (by omega) (by omega)
  obtain ⟨v1, v2, v3, v4, v5, v6⟩ := Pl.valid_iff.1 hs2.1
  have kq := fun W1 : World => precincts_c a b c d px py W1
  rw [show Pl.colsI a b c d px py 12 = (Pl.nX a c (Pl.pw px) : Int) from if_pos hg, show Pl.rowsI a b c d px py 12 = (Pl.nX b d (Pl.pw py) : Int) from if_pos hg] at kq
  obtain ⟨bv, pok, pex⟩ := band_exact (o := 1) (hu := true) (vu := false) hg (show 1 ≤ px by omega) (show 1 ≤ py by omega) (by decide) (by decide)
  have kh1 := fun W1 : World => half_c a c true ⟨v1, by omega⟩ ⟨by omega, v3⟩ W1
  have kh2 := fun W1 : World => half_c b d false ⟨v4, by omega⟩ ⟨by omega, v6⟩ W1
  have kp := fun (k : Nat) (W1 : World) => inband_c a b c d (Pl.halfI true a) (Pl.halfI false b) (Pl.halfI true c) (Pl.halfI false d) 1 px py (k : Int) W1
  dsimp only at bv pex
  obtain ⟨f4, f5, f6⟩ := fits400 n1 n2 n3
  obtain ⟨q1, q2, q3, q4, q5, q6⟩ := Pl.valid_iff.1 bv
  generalize hF : (fun k : Nat => bandR a b c d ⟨Pl.halfI true a, Pl.halfI false b, Pl.halfI true c, Pl.halfI false d⟩ 1 px py (k : Int)) = F at *
  have hFk : ∀ k : Nat, bandR a b c d ⟨Pl.halfI true a, Pl.halfI false b, Pl.halfI true c, Pl.halfI false d⟩ 1 px py (k : Int) = F k := fun k => by rw [← hF]
  generalize Pl.nX a c (Pl.pw px) = nx at *
  generalize Pl.nX b d (Pl.pw py) = ny at *
  obtain ⟨N, hN⟩ : ∃ N, N = nx * ny := ⟨_, rfl⟩
  rw [← hN] at pex pok n3 f6
  have hlN : (lstF F N).length = N := lstF_len F N
  have kx := fun (s : Option Addr) (m : Nat) (W1 : World) (hH : Holds W1 s (lstF F N)) => exact_c (Pl.halfI true a) (Pl.halfI false b) (Pl.halfI true c) (Pl.halfI false d) ⟨q1, q3⟩ ⟨q4, q6⟩ s m (lstF F N) W1 (by rw [hlN]; omega) hH pex.1 pex.2
  have kp2 : ∀ (k : Nat), k < N → ∀ W1 : World, Calls Try.prog 13 #[.agg #[.int .i64 a, .int .i64 b, .int .i64 c, .int .i64 d], .agg #[.int .i64 (Pl.halfI true a), .int .i64 (Pl.halfI false b), .int .i64 (Pl.halfI true c), .int .i64 (Pl.halfI false d)], .int .i64 1, .int .i64 px, .int .i64 py, .int .i64 (k : Int)] W1 fun e w' => e = .returned (.tuple #[.agg #[.int .i64 (F k).x0, .int .i64 (F k).y0, .int .i64 (F k).x1, .int .i64 (F k).y1], .bool true]) ∧ Below W1.heap.size W1 w' := fun k hk W1 => by
    have h := kp k W1
    rw [decide_eq_true (pok k hk), hFk k] at h
    exact h
  have m1 : ¬ ((nx : Int) < 1) := by omega
  have m2 : ¬ ((ny : Int) < 1) := by omega
  have m3 : ¬ ((400 : Int) < (nx : Int)) := by omega
  have m4 : ¬ ((400 : Int) < (ny : Int)) := by omega
  have m5 : ¬ ((400 : Int) < (N : Int)) := by omega
  have F6 := Lib.hid f6
  have KP := Lib.hid kp2
  have KX := Lib.hid kx
  have N3 := Lib.hid n3
  clear hg n1 n2 n3 hs2 v1 v2 v3 v4 v5 v6 pex pok kp kp2 kx hF hFk f4 f5 hN hlN bv q1 q2 q3 q4 q5 q6
  generalize Pl.halfI true a = r0 at *
  generalize Pl.halfI false b = r1 at *
  generalize Pl.halfI true c = r2 at *
  generalize Pl.halfI false d = r3 at *
  obtain ⟨i0, hi, hz0, hz1, hz2⟩ := info_parts infoR
  go_enter Try.func7, Try.ntmps7
  go_upto_region 6 with (first | (go_at_call 18; (with_reducible refine (ks _).mono ?_); rintro e w1 ⟨rfl, hb1⟩; have hb := (show Below WB.heap.size WB w1 by rw [HWB.out]; exact hb1); clear hb1; have B1 := Lib.hid (B0.out.trans (hb.mono B0.out.size)); have HX1 := Lib.hid (HX0.out.below hb); obtain ⟨x0, x1, x2, x3⟩ := HX1.out.four; clear hb; have hx0 := fun o : Obj => (HX1.out.alloc o).cell 0; have hx1 := fun o : Obj => (HX1.out.alloc o).cell 1; have hx2 := fun o : Obj => (HX1.out.alloc o).cell 2; have hx3 := fun o : Obj => (HX1.out.alloc o).cell 3) | (go_at_call 20; (with_reducible refine (kh1 _).mono ?_); rintro e wn ⟨rfl, rfl⟩) | (go_at_call 20; (with_reducible refine (kh2 _).mono ?_); rintro e wn ⟨rfl, rfl⟩) | fail)
  clear hx0 hx1 hx2 hx3 x0 x1 x2 x3
  have B2 := Lib.hid (below_alloc B1.out B1.out.size (.cells #[.int .i64 r0, .int .i64 r1, .int .i64 r2, .int .i64 r3] 23))
  have HX2 := Lib.hid (HX1.out.alloc (.cells #[.int .i64 r0, .int .i64 r1, .int .i64 r2, .int .i64 r3] 23))
  obtain ⟨gt, hgt⟩ : ∃ gt, gt = w1.heap.size := ⟨_, rfl⟩
  have HT2 := Lib.hid (show Blk (w1.alloc (.cells #[.int .i64 r0, .int .i64 r1, .int .i64 r2, .int .i64 r3] 23)) gt 23 #[.int .i64 r0, .int .i64 r1, .int .i64 r2, .int .i64 r3] by rw [hgt]; exact Blk.new w1 _ _)
  rw [← hgt]
  obtain ⟨w2, hw2⟩ : ∃ w2, w2 = w1.alloc (.cells #[.int .i64 r0, .int .i64 r1, .int .i64 r2, .int .i64 r3] 23) := ⟨_, rfl⟩
  have GT := Lib.hid (show W.heap.size + 1 ≤ gt by have := HX1.out.lt; omega)
  rw [← hw2] at B2 HX2 HT2 ⊢
  clear hgt hw2
  obtain ⟨x0, x1, x2, x3⟩ := HX2.out.four
  obtain ⟨t0, t1, t2, t3⟩ := HT2.out.four
  go_upto_region 11 with (first | (go_at_call 8; (with_reducible refine (kq _).mono ?_); rintro e w3 ⟨rfl, hb3⟩; have B3 := Lib.hid (B2.out.trans (hb3.mono B2.out.size)); have HX3 := Lib.hid (HX2.out.below hb3); have HT3 := Lib.hid (HT2.out.below hb3); clear hb3 x0 x1 x2 x3 t0 t1 t2 t3) | fail)
  have G0 := Lib.hid (Gw.start W w3 (gt + 1) B3.out (by have := GT.out; omega) HT3.out.lt)
  clear m5 f6
  go_loopw [12, 13] (fun v i wr => ∃ k : Nat, k ≤ N ∧ i = .int .i64 (k : Int) ∧ Hid (Gw W (gt + 1) wr v (lstF F k)) ∧ Hid (Blk wr W.heap.size 23 #[.int .i64 a, .int .i64 b, .int .i64 c, .int .i64 d]) ∧ Hid (Blk wr gt 23 #[.int .i64 r0, .int .i64 r1, .int .i64 r2, .int .i64 r3])) (fun _ i _ => N - (intOf i).toNat)
  case atStart => exact ⟨0, Nat.zero_le _, rfl, G0, HX3, HT3⟩
  case round =>
    obtain ⟨k, hk, rfl, G, hX, hT⟩ := hrel
    clear G0
    have f6 := F6.out
    obtain ⟨x0, x1, x2, x3⟩ := hX.out.four
    obtain ⟨t0, t1, t2, t3⟩ := hT.out.four
    by_cases hlt : k < N
    · have kp := KP.out k hlt
      have hs := lstF_succ F k
      have HS := Lib.hid hs
      generalize F k = PP at *
      obtain ⟨p0, p1, p2, p3⟩ := PP
      dsimp only at kp
      have lt2 : (k : Int) < (N : Int) := by omega
      have HLT := Lib.hid hlt
      clear hs
      go_wp2_with (first | (go_at_call 13; (with_reducible refine (kp _).mono ?_); rintro e w7 ⟨rfl, hb7⟩; have G7 := Lib.hid ((G.out.call hb7).alloc (.cells #[.int .i64 p0, .int .i64 p1, .int .i64 p2, .int .i64 p3] 23)); have hX7 := Lib.hid ((hX.out.below hb7).alloc (.cells #[.int .i64 p0, .int .i64 p1, .int .i64 p2, .int .i64 p3] 23)); have hT7 := Lib.hid ((hT.out.below hb7).alloc (.cells #[.int .i64 p0, .int .i64 p1, .int .i64 p2, .int .i64 p3] 23)); obtain ⟨z0, z1, z2, z3⟩ := (Blk.new w7 23 #[.int .i64 p0, .int .i64 p1, .int .i64 p2, .int .i64 p3]).four; clear hb7 x0 x1 x2 x3 t0 t1 t2 t3 f6) | (at_builtin; refine wpList_append_own _ rfl _ _ 35 rfl (gt + 1) 23 i0 (.agg #[.int .i64 0, .int .i64 0, .int .i64 0, .int .i64 0]) 4 32 Try.underlying35 hi hz0 hz1 hz2 rfl (by decide) _ _ _ rfl (G7.out.own.alloc _) ⟨w7.heap.size + 1, 0, none⟩ 1 1 [.int .i64 p0, .int .i64 p1, .int .i64 p2, .int .i64 p3] rfl rfl ?c1 ?c2 ?c3 ?c4 ?c5 ?_))
      case c1 => exact four_cells _ _ (by simp) ⟨p0, p1, p2, p3⟩
      case c2 => intro u hu; simp at hu; rcases hu with rfl | rfl | rfl | rfl <;> rfl
      case c3 => rw [lstF_len]; have := N3.out; have := HLT.out; unfold maxLen; omega
      case c4 => rw [lstF_len]; have := N3.out; have := HLT.out; omega
      case c5 => exact Nat.le_trans G7.out.hB.2 (by simp)
      intro v' w8 hown8 hgrow8 _
      have G8 := Lib.hid ((G7.out.alloc _).push hgrow8 ⟨p0, p1, p2, p3⟩ hown8)
      rw [← HS.out] at G8
      have hX8 := Lib.hid ((G7.out.alloc _).blk hgrow8 (by have := GT.out; omega) (hX7.out.alloc _))
      have hT8 := Lib.hid ((G7.out.alloc _).blk hgrow8 (by omega) (hT7.out.alloc _))
      clear hown8 hgrow8 G7 G
      have hcp := N3.out
      have hl2 := HLT.out
      go_wp2_with fail
      go_roundw
      case rel => exact ⟨k + 1, HLT.out, by go_num, G8, hX8, hT8⟩
      case measure => simp [intOf]; omega
    · obtain rfl : k = N := by omega
      obtain ⟨sl, ml, hv0, hH⟩ := row_holds G.out.own
      subst hv0
      have kx := KX.out sl ml wr hH
      have HG := Lib.hid G.out.below
      clear hH G
      go_wp2_with (first | (go_at_call 19; (with_reducible refine kx.mono ?_); rintro e w8 ⟨rfl, hb8⟩; have B8 := Lib.hid (HG.out.trans (hb8.mono HG.out.size)); clear hb8) | (go_at_call 12; (with_reducible refine (ke _).mono ?_); rintro e w9 ⟨rfl, hb9⟩; have B9 := Lib.hid (B8.out.trans (hb9.mono B8.out.size)); clear hb9) | fail)
      go_ret
      exact ⟨rfl, B9.out⟩
set_option maxHeartbeats 8000000 in
theorem main2 (a b c d px py : Int) (W : World) (hs2 : Pl.validB a b c d = true ∧ Pl.emptyB a b c d = false ∧ Pl.areaI a b c d ≤ 400) (g1 : ¬ px < 1) (g2 : ¬ 12 < px) (g3 : ¬ py < 1) (g4 : ¬ 12 < py) : Calls Try.prog 7 #[.agg #[.int .i64 a, .int .i64 b, .int .i64 c, .int .i64 d], .int .i64 px, .int .i64 py, .int .i64 2] W fun e w' => e = .returned (.bool true) ∧ Below W.heap.size W w' := by
  obtain ⟨WB, hWB⟩ : ∃ ww, ww = (W.alloc (.cells #[.int .i64 a, .int .i64 b, .int .i64 c, .int .i64 d] 23)) := ⟨_, rfl⟩
  have hb0 : Below W.heap.size W WB := by rw [hWB]; exact (below_alloc (Below.refl _ W) (Nat.le_refl _) _)
  have B0 := Lib.hid hb0
  have hX : Blk WB (W.heap.size) 23 #[.int .i64 a, .int .i64 b, .int .i64 c, .int .i64 d] := by
    have := Blk.new (W) 23 #[.int .i64 a, .int .i64 b, .int .i64 c, .int .i64 d]
    rw [hWB]
    exact (show Blk _ (W.heap.size) _ _ by simpa using this)
  have HX0 := Lib.hid hX
  have HWB := Lib.hid hWB
  clear hb0 hWB hX
  have ke := fun W1 : World => ex22_c W1
  have ks := fun W1 : World => small_c a b c d W1
  rw [hs2.1, hs2.2.1, decide_eq_true hs2.2.2] at ks
  obtain ⟨hg, n1, n2, n3⟩ := cov_facts (ea := px) (eb := py) hs2.1 hs2.2.1 hs2.2.2 (by omega) (by omega) (by omega) (by omega)
  obtain ⟨v1, v2, v3, v4, v5, v6⟩ := Pl.valid_iff.1 hs2.1
  have kq := fun W1 : World => precincts_c a b c d px py W1
  rw [show Pl.colsI a b c d px py 12 = (Pl.nX a c (Pl.pw px) : Int) from if_pos hg, show Pl.rowsI a b c d px py 12 = (Pl.nX b d (Pl.pw py) : Int) from if_pos hg] at kq
  obtain ⟨bv, pok, pex⟩ := band_exact (o := 2) (hu := false) (vu := true) hg (show 1 ≤ px by omega) (show 1 ≤ py by omega) (by decide) (by decide)
  have kh1 := fun W1 : World => half_c a c false ⟨v1, by omega⟩ ⟨by omega, v3⟩ W1
  have kh2 := fun W1 : World => half_c b d true ⟨v4, by omega⟩ ⟨by omega, v6⟩ W1
  have kp := fun (k : Nat) (W1 : World) => inband_c a b c d (Pl.halfI false a) (Pl.halfI true b) (Pl.halfI false c) (Pl.halfI true d) 2 px py (k : Int) W1
  dsimp only at bv pex
  obtain ⟨f4, f5, f6⟩ := fits400 n1 n2 n3
  obtain ⟨q1, q2, q3, q4, q5, q6⟩ := Pl.valid_iff.1 bv
  generalize hF : (fun k : Nat => bandR a b c d ⟨Pl.halfI false a, Pl.halfI true b, Pl.halfI false c, Pl.halfI true d⟩ 2 px py (k : Int)) = F at *
  have hFk : ∀ k : Nat, bandR a b c d ⟨Pl.halfI false a, Pl.halfI true b, Pl.halfI false c, Pl.halfI true d⟩ 2 px py (k : Int) = F k := fun k => by rw [← hF]
  generalize Pl.nX a c (Pl.pw px) = nx at *
  generalize Pl.nX b d (Pl.pw py) = ny at *
  obtain ⟨N, hN⟩ : ∃ N, N = nx * ny := ⟨_, rfl⟩
  rw [← hN] at pex pok n3 f6
  have hlN : (lstF F N).length = N := lstF_len F N
  have kx := fun (s : Option Addr) (m : Nat) (W1 : World) (hH : Holds W1 s (lstF F N)) => exact_c (Pl.halfI false a) (Pl.halfI true b) (Pl.halfI false c) (Pl.halfI true d) ⟨q1, q3⟩ ⟨q4, q6⟩ s m (lstF F N) W1 (by rw [hlN]; omega) hH pex.1 pex.2
  have kp2 : ∀ (k : Nat), k < N → ∀ W1 : World, Calls Try.prog 13 #[.agg #[.int .i64 a, .int .i64 b, .int .i64 c, .int .i64 d], .agg #[.int .i64 (Pl.halfI false a), .int .i64 (Pl.halfI true b), .int .i64 (Pl.halfI false c), .int .i64 (Pl.halfI true d)], .int .i64 2, .int .i64 px, .int .i64 py, .int .i64 (k : Int)] W1 fun e w' => e = .returned (.tuple #[.agg #[.int .i64 (F k).x0, .int .i64 (F k).y0, .int .i64 (F k).x1, .int .i64 (F k).y1], .bool true]) ∧ Below W1.heap.size W1 w' := fun k hk W1 => by
    have h := kp k W1
    rw [decide_eq_true (pok k hk), hFk k] at h
    exact h
  have m1 : ¬ ((nx : Int) < 1) := by omega
  have m2 : ¬ ((ny : Int) < 1) := by omega
  have m3 : ¬ ((400 : Int) < (nx : Int)) := by omega
  have m4 : ¬ ((400 : Int) < (ny : Int)) := by omega
  have m5 : ¬ ((400 : Int) < (N : Int)) := by omega
  have F6 := Lib.hid f6
  have KP := Lib.hid kp2
  have KX := Lib.hid kx
  have N3 := Lib.hid n3
  clear hg n1 n2 n3 hs2 v1 v2 v3 v4 v5 v6 pex pok kp kp2 kx hF hFk f4 f5 hN hlN bv q1 q2 q3 q4 q5 q6
  generalize Pl.halfI false a = r0 at *
  generalize Pl.halfI true b = r1 at *
  generalize Pl.halfI false c = r2 at *
  generalize Pl.halfI true d = r3 at *
  obtain ⟨i0, hi, hz0, hz1, hz2⟩ := info_parts infoR
  go_enter Try.func7, Try.ntmps7
  go_upto_region 6 with (first | (go_at_call 18; (with_reducible refine (ks _).mono ?_); rintro e w1 ⟨rfl, hb1⟩; have hb := (show Below WB.heap.size WB w1 by rw [HWB.out]; exact hb1); clear hb1; have B1 := Lib.hid (B0.out.trans (hb.mono B0.out.size)); have HX1 := Lib.hid (HX0.out.below hb); obtain ⟨x0, x1, x2, x3⟩ := HX1.out.four; clear hb; have hx0 := fun o : Obj => (HX1.out.alloc o).cell 0; have hx1 := fun o : Obj => (HX1.out.alloc o).cell 1; have hx2 := fun o : Obj => (HX1.out.alloc o).cell 2; have hx3 := fun o : Obj => (HX1.out.alloc o).cell 3) | (go_at_call 20; (with_reducible refine (kh1 _).mono ?_); rintro e wn ⟨rfl, rfl⟩) | (go_at_call 20; (with_reducible refine (kh2 _).mono ?_); rintro e wn ⟨rfl, rfl⟩) | fail)
  clear hx0 hx1 hx2 hx3 x0 x1 x2 x3
  have B2 := Lib.hid (below_alloc B1.out B1.out.size (.cells #[.int .i64 r0, .int .i64 r1, .int .i64 r2, .int .i64 r3] 23))
  have HX2 := Lib.hid (HX1.out.alloc (.cells #[.int .i64 r0, .int .i64 r1, .int .i64 r2, .int .i64 r3] 23))
  obtain ⟨gt, hgt⟩ : ∃ gt, gt = w1.heap.size := ⟨_, rfl⟩
  have HT2 := Lib.hid (show Blk (w1.alloc (.cells #[.int .i64 r0, .int .i64 r1, .int .i64 r2, .int .i64 r3] 23)) gt 23 #[.int .i64 r0, .int .i64 r1, .int .i64 r2, .int .i64 r3] by rw [hgt]; exact Blk.new w1 _ _)
  rw [← hgt]
  obtain ⟨w2, hw2⟩ : ∃ w2, w2 = w1.alloc (.cells #[.int .i64 r0, .int .i64 r1, .int .i64 r2, .int .i64 r3] 23) := ⟨_, rfl⟩
  have GT := Lib.hid (show W.heap.size + 1 ≤ gt by have := HX1.out.lt; omega)
  rw [← hw2] at B2 HX2 HT2 ⊢
  clear hgt hw2
  obtain ⟨x0, x1, x2, x3⟩ := HX2.out.four
  obtain ⟨t0, t1, t2, t3⟩ := HT2.out.four
  go_upto_region 11 with (first | (go_at_call 8; (with_reducible refine (kq _).mono ?_); rintro e w3 ⟨rfl, hb3⟩; have B3 := Lib.hid (B2.out.trans (hb3.mono B2.out.size)); have HX3 := Lib.hid (HX2.out.below hb3); have HT3 := Lib.hid (HT2.out.below hb3); clear hb3 x0 x1 x2 x3 t0 t1 t2 t3) | fail)
  have G0 := Lib.hid (Gw.start W w3 (gt + 1) B3.out (by have := GT.out; omega) HT3.out.lt)
  clear m5 f6
  go_loopw [12, 13] (fun v i wr => ∃ k : Nat, k ≤ N ∧ i = .int .i64 (k : Int) ∧ Hid (Gw W (gt + 1) wr v (lstF F k)) ∧ Hid (Blk wr W.heap.size 23 #[.int .i64 a, .int .i64 b, .int .i64 c, .int .i64 d]) ∧ Hid (Blk wr gt 23 #[.int .i64 r0, .int .i64 r1, .int .i64 r2, .int .i64 r3])) (fun _ i _ => N - (intOf i).toNat)
  case atStart => exact ⟨0, Nat.zero_le _, rfl, G0, HX3, HT3⟩
  case round =>
    obtain ⟨k, hk, rfl, G, hX, hT⟩ := hrel
    clear G0
    have f6 := F6.out
    obtain ⟨x0, x1, x2, x3⟩ := hX.out.four
    obtain ⟨t0, t1, t2, t3⟩ := hT.out.four
    by_cases hlt : k < N
    · have kp := KP.out k hlt
      have hs := lstF_succ F k
      have HS := Lib.hid hs
      generalize F k = PP at *
      obtain ⟨p0, p1, p2, p3⟩ := PP
      dsimp only at kp
      have lt2 : (k : Int) < (N : Int) := by omega
      have HLT := Lib.hid hlt
      clear hs
      go_wp2_with (first | (go_at_call 13; (with_reducible refine (kp _).mono ?_); rintro e w7 ⟨rfl, hb7⟩; have G7 := Lib.hid ((G.out.call hb7).alloc (.cells #[.int .i64 p0, .int .i64 p1, .int .i64 p2, .int .i64 p3] 23)); have hX7 := Lib.hid ((hX.out.below hb7).alloc (.cells #[.int .i64 p0, .int .i64 p1, .int .i64 p2, .int .i64 p3] 23)); have hT7 := Lib.hid ((hT.out.below hb7).alloc (.cells #[.int .i64 p0, .int .i64 p1, .int .i64 p2, .int .i64 p3] 23)); obtain ⟨z0, z1, z2, z3⟩ := (Blk.new w7 23 #[.int .i64 p0, .int .i64 p1, .int .i64 p2, .int .i64 p3]).four; clear hb7 x0 x1 x2 x3 t0 t1 t2 t3 f6) | (at_builtin; refine wpList_append_own _ rfl _ _ 35 rfl (gt + 1) 23 i0 (.agg #[.int .i64 0, .int .i64 0, .int .i64 0, .int .i64 0]) 4 32 Try.underlying35 hi hz0 hz1 hz2 rfl (by decide) _ _ _ rfl (G7.out.own.alloc _) ⟨w7.heap.size + 1, 0, none⟩ 1 1 [.int .i64 p0, .int .i64 p1, .int .i64 p2, .int .i64 p3] rfl rfl ?c1 ?c2 ?c3 ?c4 ?c5 ?_))
      case c1 => exact four_cells _ _ (by simp) ⟨p0, p1, p2, p3⟩
      case c2 => intro u hu; simp at hu; rcases hu with rfl | rfl | rfl | rfl <;> rfl
      case c3 => rw [lstF_len]; have := N3.out; have := HLT.out; unfold maxLen; omega
      case c4 => rw [lstF_len]; have := N3.out; have := HLT.out; omega
      case c5 => exact Nat.le_trans G7.out.hB.2 (by simp)
      intro v' w8 hown8 hgrow8 _
      have G8 := Lib.hid ((G7.out.alloc _).push hgrow8 ⟨p0, p1, p2, p3⟩ hown8)
      rw [← HS.out] at G8
      have hX8 := Lib.hid ((G7.out.alloc _).blk hgrow8 (by have := GT.out; omega) (hX7.out.alloc _))
      have hT8 := Lib.hid ((G7.out.alloc _).blk hgrow8 (by omega) (hT7.out.alloc _))
      clear hown8 hgrow8 G7 G
      have hcp := N3.out
      have hl2 := HLT.out
      go_wp2_with fail
      go_roundw
      case rel => exact ⟨k + 1, HLT.out, by go_num, G8, hX8, hT8⟩
      case measure => simp [intOf]; omega
    · obtain rfl : k = N := by omega
      obtain ⟨sl, ml, hv0, hH⟩ := row_holds G.out.own
      subst hv0
      have kx := KX.out sl ml wr hH
      have HG := Lib.hid G.out.below
      clear hH G
      go_wp2_with (first | (go_at_call 19; (with_reducible refine kx.mono ?_); rintro e w8 ⟨rfl, hb8⟩; have B8 := Lib.hid (HG.out.trans (hb8.mono HG.out.size)); clear hb8) | (go_at_call 12; (with_reducible refine (ke _).mono ?_); rintro e w9 ⟨rfl, hb9⟩; have B9 := Lib.hid (B8.out.trans (hb9.mono B8.out.size)); clear hb9) | fail)
      go_ret
      exact ⟨rfl, B9.out⟩
set_option maxHeartbeats 8000000 in
theorem main3 (a b c d px py : Int) (W : World) (hs2 : Pl.validB a b c d = true ∧ Pl.emptyB a b c d = false ∧ Pl.areaI a b c d ≤ 400) (g1 : ¬ px < 1) (g2 : ¬ 12 < px) (g3 : ¬ py < 1) (g4 : ¬ 12 < py) : Calls Try.prog 7 #[.agg #[.int .i64 a, .int .i64 b, .int .i64 c, .int .i64 d], .int .i64 px, .int .i64 py, .int .i64 3] W fun e w' => e = .returned (.bool true) ∧ Below W.heap.size W w' := by
  obtain ⟨WB, hWB⟩ : ∃ ww, ww = (W.alloc (.cells #[.int .i64 a, .int .i64 b, .int .i64 c, .int .i64 d] 23)) := ⟨_, rfl⟩
  have hb0 : Below W.heap.size W WB := by rw [hWB]; exact (below_alloc (Below.refl _ W) (Nat.le_refl _) _)
  have B0 := Lib.hid hb0
  have hX : Blk WB (W.heap.size) 23 #[.int .i64 a, .int .i64 b, .int .i64 c, .int .i64 d] := by
    have := Blk.new (W) 23 #[.int .i64 a, .int .i64 b, .int .i64 c, .int .i64 d]
    rw [hWB]
    exact (show Blk _ (W.heap.size) _ _ by simpa using this)
  have HX0 := Lib.hid hX
  have HWB := Lib.hid hWB
  clear hb0 hWB hX
  have ke := fun W1 : World => ex22_c W1
  have ks := fun W1 : World => small_c a b c d W1
  rw [hs2.1, hs2.2.1, decide_eq_true hs2.2.2] at ks
  obtain ⟨hg, n1, n2, n3⟩ := cov_facts (ea := px) (eb := py) hs2.1 hs2.2.1 hs2.2.2 (by omega) (by omega) (by omega) (by omega)
  obtain ⟨v1, v2, v3, v4, v5, v6⟩ := Pl.valid_iff.1 hs2.1
  have kq := fun W1 : World => precincts_c a b c d px py W1
  rw [show Pl.colsI a b c d px py 12 = (Pl.nX a c (Pl.pw px) : Int) from if_pos hg, show Pl.rowsI a b c d px py 12 = (Pl.nX b d (Pl.pw py) : Int) from if_pos hg] at kq
  obtain ⟨bv, pok, pex⟩ := band_exact (o := 3) (hu := true) (vu := true) hg (show 1 ≤ px by omega) (show 1 ≤ py by omega) (by decide) (by decide)
  have kh1 := fun W1 : World => half_c a c true ⟨v1, by omega⟩ ⟨by omega, v3⟩ W1
  have kh2 := fun W1 : World => half_c b d true ⟨v4, by omega⟩ ⟨by omega, v6⟩ W1
  have kp := fun (k : Nat) (W1 : World) => inband_c a b c d (Pl.halfI true a) (Pl.halfI true b) (Pl.halfI true c) (Pl.halfI true d) 3 px py (k : Int) W1
  dsimp only at bv pex
  obtain ⟨f4, f5, f6⟩ := fits400 n1 n2 n3
  obtain ⟨q1, q2, q3, q4, q5, q6⟩ := Pl.valid_iff.1 bv
  generalize hF : (fun k : Nat => bandR a b c d ⟨Pl.halfI true a, Pl.halfI true b, Pl.halfI true c, Pl.halfI true d⟩ 3 px py (k : Int)) = F at *
  have hFk : ∀ k : Nat, bandR a b c d ⟨Pl.halfI true a, Pl.halfI true b, Pl.halfI true c, Pl.halfI true d⟩ 3 px py (k : Int) = F k := fun k => by rw [← hF]
  generalize Pl.nX a c (Pl.pw px) = nx at *
  generalize Pl.nX b d (Pl.pw py) = ny at *
  obtain ⟨N, hN⟩ : ∃ N, N = nx * ny := ⟨_, rfl⟩
  rw [← hN] at pex pok n3 f6
  have hlN : (lstF F N).length = N := lstF_len F N
  have kx := fun (s : Option Addr) (m : Nat) (W1 : World) (hH : Holds W1 s (lstF F N)) => exact_c (Pl.halfI true a) (Pl.halfI true b) (Pl.halfI true c) (Pl.halfI true d) ⟨q1, q3⟩ ⟨q4, q6⟩ s m (lstF F N) W1 (by rw [hlN]; omega) hH pex.1 pex.2
  have kp2 : ∀ (k : Nat), k < N → ∀ W1 : World, Calls Try.prog 13 #[.agg #[.int .i64 a, .int .i64 b, .int .i64 c, .int .i64 d], .agg #[.int .i64 (Pl.halfI true a), .int .i64 (Pl.halfI true b), .int .i64 (Pl.halfI true c), .int .i64 (Pl.halfI true d)], .int .i64 3, .int .i64 px, .int .i64 py, .int .i64 (k : Int)] W1 fun e w' => e = .returned (.tuple #[.agg #[.int .i64 (F k).x0, .int .i64 (F k).y0, .int .i64 (F k).x1, .int .i64 (F k).y1], .bool true]) ∧ Below W1.heap.size W1 w' := fun k hk W1 => by
    have h := kp k W1
    rw [decide_eq_true (pok k hk), hFk k] at h
    exact h
  have m1 : ¬ ((nx : Int) < 1) := by omega
  have m2 : ¬ ((ny : Int) < 1) := by omega
  have m3 : ¬ ((400 : Int) < (nx : Int)) := by omega
  have m4 : ¬ ((400 : Int) < (ny : Int)) := by omega
  have m5 : ¬ ((400 : Int) < (N : Int)) := by omega
  have F6 := Lib.hid f6
  have KP := Lib.hid kp2
  have KX := Lib.hid kx
  have N3 := Lib.hid n3
  clear hg n1 n2 n3 hs2 v1 v2 v3 v4 v5 v6 pex pok kp kp2 kx hF hFk f4 f5 hN hlN bv q1 q2 q3 q4 q5 q6
  generalize Pl.halfI true a = r0 at *
  generalize Pl.halfI true b = r1 at *
  generalize Pl.halfI true c = r2 at *
  generalize Pl.halfI true d = r3 at *
  obtain ⟨i0, hi, hz0, hz1, hz2⟩ := info_parts infoR
  go_enter Try.func7, Try.ntmps7
  go_upto_region 6 with (first | (go_at_call 18; (with_reducible refine (ks _).mono ?_); rintro e w1 ⟨rfl, hb1⟩; have hb := (show Below WB.heap.size WB w1 by rw [HWB.out]; exact hb1); clear hb1; have B1 := Lib.hid (B0.out.trans (hb.mono B0.out.size)); have HX1 := Lib.hid (HX0.out.below hb); obtain ⟨x0, x1, x2, x3⟩ := HX1.out.four; clear hb; have hx0 := fun o : Obj => (HX1.out.alloc o).cell 0; have hx1 := fun o : Obj => (HX1.out.alloc o).cell 1; have hx2 := fun o : Obj => (HX1.out.alloc o).cell 2; have hx3 := fun o : Obj => (HX1.out.alloc o).cell 3) | (go_at_call 20; (with_reducible refine (kh1 _).mono ?_); rintro e wn ⟨rfl, rfl⟩) | (go_at_call 20; (with_reducible refine (kh2 _).mono ?_); rintro e wn ⟨rfl, rfl⟩) | fail)
  clear hx0 hx1 hx2 hx3 x0 x1 x2 x3
  have B2 := Lib.hid (below_alloc B1.out B1.out.size (.cells #[.int .i64 r0, .int .i64 r1, .int .i64 r2, .int .i64 r3] 23))
  have HX2 := Lib.hid (HX1.out.alloc (.cells #[.int .i64 r0, .int .i64 r1, .int .i64 r2, .int .i64 r3] 23))
  obtain ⟨gt, hgt⟩ : ∃ gt, gt = w1.heap.size := ⟨_, rfl⟩
  have HT2 := Lib.hid (show Blk (w1.alloc (.cells #[.int .i64 r0, .int .i64 r1, .int .i64 r2, .int .i64 r3] 23)) gt 23 #[.int .i64 r0, .int .i64 r1, .int .i64 r2, .int .i64 r3] by rw [hgt]; exact Blk.new w1 _ _)
  rw [← hgt]
  obtain ⟨w2, hw2⟩ : ∃ w2, w2 = w1.alloc (.cells #[.int .i64 r0, .int .i64 r1, .int .i64 r2, .int .i64 r3] 23) := ⟨_, rfl⟩
  have GT := Lib.hid (show W.heap.size + 1 ≤ gt by have := HX1.out.lt; omega)
  rw [← hw2] at B2 HX2 HT2 ⊢
  clear hgt hw2
  obtain ⟨x0, x1, x2, x3⟩ := HX2.out.four
  obtain ⟨t0, t1, t2, t3⟩ := HT2.out.four
  go_upto_region 11 with (first | (go_at_call 8; (with_reducible refine (kq _).mono ?_); rintro e w3 ⟨rfl, hb3⟩; have B3 := Lib.hid (B2.out.trans (hb3.mono B2.out.size)); have HX3 := Lib.hid (HX2.out.below hb3); have HT3 := Lib.hid (HT2.out.below hb3); clear hb3 x0 x1 x2 x3 t0 t1 t2 t3) | fail)
  have G0 := Lib.hid (Gw.start W w3 (gt + 1) B3.out (by have := GT.out; omega) HT3.out.lt)
  clear m5 f6
  go_loopw [12, 13] (fun v i wr => ∃ k : Nat, k ≤ N ∧ i = .int .i64 (k : Int) ∧ Hid (Gw W (gt + 1) wr v (lstF F k)) ∧ Hid (Blk wr W.heap.size 23 #[.int .i64 a, .int .i64 b, .int .i64 c, .int .i64 d]) ∧ Hid (Blk wr gt 23 #[.int .i64 r0, .int .i64 r1, .int .i64 r2, .int .i64 r3])) (fun _ i _ => N - (intOf i).toNat)
  case atStart => exact ⟨0, Nat.zero_le _, rfl, G0, HX3, HT3⟩
  case round =>
    obtain ⟨k, hk, rfl, G, hX, hT⟩ := hrel
    clear G0
    have f6 := F6.out
    obtain ⟨x0, x1, x2, x3⟩ := hX.out.four
    obtain ⟨t0, t1, t2, t3⟩ := hT.out.four
    by_cases hlt : k < N
    · have kp := KP.out k hlt
      have hs := lstF_succ F k
      have HS := Lib.hid hs
      generalize F k = PP at *
      obtain ⟨p0, p1, p2, p3⟩ := PP
      dsimp only at kp
      have lt2 : (k : Int) < (N : Int) := by omega
      have HLT := Lib.hid hlt
      clear hs
      go_wp2_with (first | (go_at_call 13; (with_reducible refine (kp _).mono ?_); rintro e w7 ⟨rfl, hb7⟩; have G7 := Lib.hid ((G.out.call hb7).alloc (.cells #[.int .i64 p0, .int .i64 p1, .int .i64 p2, .int .i64 p3] 23)); have hX7 := Lib.hid ((hX.out.below hb7).alloc (.cells #[.int .i64 p0, .int .i64 p1, .int .i64 p2, .int .i64 p3] 23)); have hT7 := Lib.hid ((hT.out.below hb7).alloc (.cells #[.int .i64 p0, .int .i64 p1, .int .i64 p2, .int .i64 p3] 23)); obtain ⟨z0, z1, z2, z3⟩ := (Blk.new w7 23 #[.int .i64 p0, .int .i64 p1, .int .i64 p2, .int .i64 p3]).four; clear hb7 x0 x1 x2 x3 t0 t1 t2 t3 f6) | (at_builtin; refine wpList_append_own _ rfl _ _ 35 rfl (gt + 1) 23 i0 (.agg #[.int .i64 0, .int .i64 0, .int .i64 0, .int .i64 0]) 4 32 Try.underlying35 hi hz0 hz1 hz2 rfl (by decide) _ _ _ rfl (G7.out.own.alloc _) ⟨w7.heap.size + 1, 0, none⟩ 1 1 [.int .i64 p0, .int .i64 p1, .int .i64 p2, .int .i64 p3] rfl rfl ?c1 ?c2 ?c3 ?c4 ?c5 ?_))
      case c1 => exact four_cells _ _ (by simp) ⟨p0, p1, p2, p3⟩
      case c2 => intro u hu; simp at hu; rcases hu with rfl | rfl | rfl | rfl <;> rfl
      case c3 => rw [lstF_len]; have := N3.out; have := HLT.out; unfold maxLen; omega
      case c4 => rw [lstF_len]; have := N3.out; have := HLT.out; omega
      case c5 => exact Nat.le_trans G7.out.hB.2 (by simp)
      intro v' w8 hown8 hgrow8 _
      have G8 := Lib.hid ((G7.out.alloc _).push hgrow8 ⟨p0, p1, p2, p3⟩ hown8)
      rw [← HS.out] at G8
      have hX8 := Lib.hid ((G7.out.alloc _).blk hgrow8 (by have := GT.out; omega) (hX7.out.alloc _))
      have hT8 := Lib.hid ((G7.out.alloc _).blk hgrow8 (by omega) (hT7.out.alloc _))
      clear hown8 hgrow8 G7 G
      have hcp := N3.out
      have hl2 := HLT.out
      go_wp2_with fail
      go_roundw
      case rel => exact ⟨k + 1, HLT.out, by go_num, G8, hX8, hT8⟩
      case measure => simp [intOf]; omega
    · obtain rfl : k = N := by omega
      obtain ⟨sl, ml, hv0, hH⟩ := row_holds G.out.own
      subst hv0
      have kx := KX.out sl ml wr hH
      have HG := Lib.hid G.out.below
      clear hH G
      go_wp2_with (first | (go_at_call 19; (with_reducible refine kx.mono ?_); rintro e w8 ⟨rfl, hb8⟩; have B8 := Lib.hid (HG.out.trans (hb8.mono HG.out.size)); clear hb8) | (go_at_call 12; (with_reducible refine (ke _).mono ?_); rintro e w9 ⟨rfl, hb9⟩; have B9 := Lib.hid (B8.out.trans (hb9.mono B8.out.size)); clear hb9) | fail)
      go_ret
      exact ⟨rfl, B9.out⟩
set_option maxHeartbeats 8000000 in
theorem walk (a b c d px py o : Int) (W : World) : Calls Try.prog 7 #[.agg #[.int .i64 a, .int .i64 b, .int .i64 c, .int .i64 d], .int .i64 px, .int .i64 py, .int .i64 o] W fun e w' => e = .returned (.bool true) ∧ Below W.heap.size W w' := by
  obtain ⟨WB, hWB⟩ : ∃ ww, ww = (W.alloc (.cells #[.int .i64 a, .int .i64 b, .int .i64 c, .int .i64 d] 23)) := ⟨_, rfl⟩
  have hb0 : Below W.heap.size W WB := by rw [hWB]; exact (below_alloc (Below.refl _ W) (Nat.le_refl _) _)
  have B0 := Lib.hid hb0
  have hX : Blk WB (W.heap.size) 23 #[.int .i64 a, .int .i64 b, .int .i64 c, .int .i64 d] := by
    have := Blk.new (W) 23 #[.int .i64 a, .int .i64 b, .int .i64 c, .int .i64 d]
    rw [hWB]
    exact (show Blk _ (W.heap.size) _ _ by simpa using this)
  have HX0 := Lib.hid hX
  have HWB := Lib.hid hWB
  clear hb0 hWB hX
  have ke := fun W1 : World => ex22_c W1
  have ks := fun W1 : World => small_c a b c d W1
  obtain ⟨sm, hsm⟩ : ∃ sm, sm = (Pl.validB a b c d && !Pl.emptyB a b c d && decide (Pl.areaI a b c d ≤ 400)) := ⟨_, rfl⟩
  rw [← hsm] at ks
  cases sm with
  | false =>
    clear hsm
    go_enter Try.func7, Try.ntmps7
    go_wp2_with (first | (go_at_call 18; (with_reducible refine (ks _).mono ?_); rintro e w1 ⟨rfl, hb1⟩; have hb := (show Below WB.heap.size WB w1 by rw [HWB.out]; exact hb1); clear hb1; have B1 := Lib.hid (B0.out.trans (hb.mono B0.out.size)); have HX1 := Lib.hid (HX0.out.below hb); obtain ⟨x0, x1, x2, x3⟩ := HX1.out.four; clear hb) | (go_at_call 12; (with_reducible refine (ke _).mono ?_); rintro e w2 ⟨rfl, hb2⟩; have B2 := Lib.hid (B1.out.trans (hb2.mono B1.out.size)); clear hb2) | fail)
    go_ret
    exact ⟨rfl, B2.out⟩
  | true =>
    have hs2 : Pl.validB a b c d = true ∧ Pl.emptyB a b c d = false ∧ Pl.areaI a b c d ≤ 400 := by
      have := hsm.symm
      simp only [Bool.and_eq_true, decide_eq_true_eq, Bool.not_eq_true'] at this
      exact ⟨this.1.1, this.1.2, this.2⟩
    by_cases g1 : px < 1
    · clear hsm hs2
      go_enter Try.func7, Try.ntmps7
      go_wp2_with (first | (go_at_call 18; (with_reducible refine (ks _).mono ?_); rintro e w1 ⟨rfl, hb1⟩; have hb := (show Below WB.heap.size WB w1 by rw [HWB.out]; exact hb1); clear hb1; have B1 := Lib.hid (B0.out.trans (hb.mono B0.out.size)); have HX1 := Lib.hid (HX0.out.below hb); obtain ⟨x0, x1, x2, x3⟩ := HX1.out.four; clear hb) | (go_at_call 12; (with_reducible refine (ke _).mono ?_); rintro e w2 ⟨rfl, hb2⟩; have B2 := Lib.hid (B1.out.trans (hb2.mono B1.out.size)); clear hb2) | fail)
      go_ret
      exact ⟨rfl, B2.out⟩
    ·
      by_cases g2 : 12 < px
      · clear hsm hs2
        go_enter Try.func7, Try.ntmps7
        go_wp2_with (first | (go_at_call 18; (with_reducible refine (ks _).mono ?_); rintro e w1 ⟨rfl, hb1⟩; have hb := (show Below WB.heap.size WB w1 by rw [HWB.out]; exact hb1); clear hb1; have B1 := Lib.hid (B0.out.trans (hb.mono B0.out.size)); have HX1 := Lib.hid (HX0.out.below hb); obtain ⟨x0, x1, x2, x3⟩ := HX1.out.four; clear hb) | (go_at_call 12; (with_reducible refine (ke _).mono ?_); rintro e w2 ⟨rfl, hb2⟩; have B2 := Lib.hid (B1.out.trans (hb2.mono B1.out.size)); clear hb2) | fail)
        go_ret
        exact ⟨rfl, B2.out⟩
      ·
        by_cases g3 : py < 1
        · clear hsm hs2
          go_enter Try.func7, Try.ntmps7
          go_wp2_with (first | (go_at_call 18; (with_reducible refine (ks _).mono ?_); rintro e w1 ⟨rfl, hb1⟩; have hb := (show Below WB.heap.size WB w1 by rw [HWB.out]; exact hb1); clear hb1; have B1 := Lib.hid (B0.out.trans (hb.mono B0.out.size)); have HX1 := Lib.hid (HX0.out.below hb); obtain ⟨x0, x1, x2, x3⟩ := HX1.out.four; clear hb) | (go_at_call 12; (with_reducible refine (ke _).mono ?_); rintro e w2 ⟨rfl, hb2⟩; have B2 := Lib.hid (B1.out.trans (hb2.mono B1.out.size)); clear hb2) | fail)
          go_ret
          exact ⟨rfl, B2.out⟩
        ·
          by_cases g4 : 12 < py
          · clear hsm hs2
            go_enter Try.func7, Try.ntmps7
            go_wp2_with (first | (go_at_call 18; (with_reducible refine (ks _).mono ?_); rintro e w1 ⟨rfl, hb1⟩; have hb := (show Below WB.heap.size WB w1 by rw [HWB.out]; exact hb1); clear hb1; have B1 := Lib.hid (B0.out.trans (hb.mono B0.out.size)); have HX1 := Lib.hid (HX0.out.below hb); obtain ⟨x0, x1, x2, x3⟩ := HX1.out.four; clear hb) | (go_at_call 12; (with_reducible refine (ke _).mono ?_); rintro e w2 ⟨rfl, hb2⟩; have B2 := Lib.hid (B1.out.trans (hb2.mono B1.out.size)); clear hb2) | fail)
            go_ret
            exact ⟨rfl, B2.out⟩
          ·
            by_cases g5 : o < 1
            · clear hsm hs2
              go_enter Try.func7, Try.ntmps7
              go_wp2_with (first | (go_at_call 18; (with_reducible refine (ks _).mono ?_); rintro e w1 ⟨rfl, hb1⟩; have hb := (show Below WB.heap.size WB w1 by rw [HWB.out]; exact hb1); clear hb1; have B1 := Lib.hid (B0.out.trans (hb.mono B0.out.size)); have HX1 := Lib.hid (HX0.out.below hb); obtain ⟨x0, x1, x2, x3⟩ := HX1.out.four; clear hb) | (go_at_call 12; (with_reducible refine (ke _).mono ?_); rintro e w2 ⟨rfl, hb2⟩; have B2 := Lib.hid (B1.out.trans (hb2.mono B1.out.size)); clear hb2) | fail)
              go_ret
              exact ⟨rfl, B2.out⟩
            ·
              by_cases g6 : 3 < o
              · clear hsm hs2
                go_enter Try.func7, Try.ntmps7
                go_wp2_with (first | (go_at_call 18; (with_reducible refine (ks _).mono ?_); rintro e w1 ⟨rfl, hb1⟩; have hb := (show Below WB.heap.size WB w1 by rw [HWB.out]; exact hb1); clear hb1; have B1 := Lib.hid (B0.out.trans (hb.mono B0.out.size)); have HX1 := Lib.hid (HX0.out.below hb); obtain ⟨x0, x1, x2, x3⟩ := HX1.out.four; clear hb) | (go_at_call 12; (with_reducible refine (ke _).mono ?_); rintro e w2 ⟨rfl, hb2⟩; have B2 := Lib.hid (B1.out.trans (hb2.mono B1.out.size)); clear hb2) | fail)
                go_ret
                exact ⟨rfl, B2.out⟩
              ·
                rcases (show o = 1 ∨ o = 2 ∨ o = 3 by omega) with rfl | rfl | rfl
                · exact main1 a b c d px py W hs2 g1 g2 g3 g4
                · exact main2 a b c d px py W hs2 g1 g2 g3 g4
                · exact main3 a b c d px py W hs2 g1 g2 g3 g4

set_option maxRecDepth 100000 in
theorem lifted (os : Os) (started : os.Started) (H : Type) (enc : TypeId × Value → H) :
    ReturnsInHanded {} Try.checked os 7 .any (Rows.partitionBandCoversSpec.pre6 enc Try.prog Try.f7 Rows.partitionBandCoversRow.domain false) (Rows.partitionBandCoversSpec.post enc Try.prog Try.f7 false true false false) := by
  refine returnsInHanded_of_change (C := Try.checked) own started (by kernel_rfl) Try.func7
    (ChangeSpec.witness6 (enc := enc) (C := Try.checked) false ⟨#[], #[.agg #[.int .i64 0, .int .i64 0, .int .i64 0, .int .i64 0], .int .i64 0, .int .i64 0, .int .i64 0], []⟩ 8 (by kernel_rfl) (by kernel_rfl) (by kernel_rfl) (by kernel_rfl)) ?_
  intro W base args ds gs before hval0 hW _ _
  have hval : ∀ (j : Nat) t v, Try.f7.params[j]? = some t → args[j]? = some v → Value.okWide Try.prog W .any base t v := hval0
  have hW' := hW
  obtain ⟨p, q, hA0, hV, rfl, _, _⟩ := hW
  have hA : DataW.TrodAll enc Try.prog W 0 (fun _ => true) true Try.f7.params.toList args.toList ds p := hA0
  rw [Try.params7] at hA hval
  obtain ⟨v0, vs0, d0, ds0, p0, q0, hargs, rfl, rfl, h0, r0⟩ := trodAll_cons hA
  obtain ⟨v1, vs1, d1, ds1, p1, q1, rfl, rfl, rfl, h1, r1⟩ := trodAll_cons r0
  obtain ⟨v2, vs2, d2, ds2, p2, q2, rfl, rfl, rfl, h2, r2⟩ := trodAll_cons r1
  obtain ⟨v3, vs3, d3, ds3, p3, q3, rfl, rfl, rfl, h3, r3⟩ := trodAll_cons r2
  obtain ⟨rfl, rfl, rfl⟩ := trodAll_nil r3
  obtain rfl : args = #[v0, v1, v2, v3] := by cases args; simp_all
  obtain ⟨rfl, rfl⟩ := trodVars_none hV
  clear hA0 hval0
  simp only [List.append_nil] at hW'
  have l0 : ∀ x ∈ p0, x.block < W.heap.size := fun x hx => hW'.lt x (by simp [hx])
  have l1 : ∀ x ∈ p1, x.block < W.heap.size := fun x hx => hW'.lt x (by simp [hx])
  have l2 : ∀ x ∈ p2, x.block < W.heap.size := fun x hx => hW'.lt x (by simp [hx])
  have l3 : ∀ x ∈ p3, x.block < W.heap.size := fun x hx => hW'.lt x (by simp [hx])
  obtain ⟨a0, b0, c0, e0, rfl, _, _, _, _⟩ := open_rect (hval 0 23 v0 rfl rfl) h0
  obtain ⟨i1, rfl, _, _, wi1⟩ := open_int Try.underlying3 (hval 1 3 v1 rfl rfl) h1
  obtain ⟨i2, rfl, _, _, wi2⟩ := open_int Try.underlying3 (hval 2 3 v2 rfl rfl) h2
  obtain ⟨i3, rfl, _, _, wi3⟩ := open_int Try.underlying30 (hval 3 30 v3 rfl rfl) h3
  refine (walk a0 b0 c0 e0 i1 i2 i3 W).mono fun e W' ⟨he, hb⟩ => ?_
  subst he
  exact ⟨_, rfl, post_low (pa := p0 ++ (p1 ++ (p2 ++ (p3 ++ ([]))))) (pv := []) hW' (fun _ _ _ => (trodAll_cons_mk (shut_bool Try.underlying4 _) trodAll_mk0)) (fun sp hsp => (trodAll_cons_mk (trod_low laidOut (by kernel_rfl) (of_decide_eq_true (by kernel_rfl)) h0 hb l0 (fun x hx => hsp x (by simp [hx]))) (trodAll_cons_mk (trod_low laidOut (by kernel_rfl) (of_decide_eq_true (by kernel_rfl)) h1 hb l1 (fun x hx => hsp x (by simp [hx]))) (trodAll_cons_mk (trod_low laidOut (by kernel_rfl) (of_decide_eq_true (by kernel_rfl)) h2 hb l2 (fun x hx => hsp x (by simp [hx]))) (trodAll_cons_mk (trod_low laidOut (by kernel_rfl) (of_decide_eq_true (by kernel_rfl)) h3 hb l3 (fun x hx => hsp x (by simp [hx]))) trodAll_mk0))))) (fun _ _ => rfl) (by simp) hb (ok_one (by kernel_rfl) rfl (okWide_bool_mk Try.underlying4 _))⟩

theorem over : Rows.partitionBandCoversRow.holds Try.pinned (OpenSpec.ofChange Rows.partitionBandCoversSpec) :=
  OpenClaim.holds_of_wide 7 Try.f7 rfl rfl rfl rfl rfl rfl rfl ⟨rfl, rfl, rfl, rfl, rfl⟩ rfl rfl rfl rfl rfl (by kernel_rfl) Try.func7 (by kernel_rfl)
    (of_decide_eq_true (by kernel_rfl)) (by unfold Func.isWrapper; first | (rw [if_pos (by decide +kernel)]; kernel_rfl) | (rw [if_neg (by decide +kernel)]; exact ⟨rfl, rfl⟩))
    (fun os started H enc _ => lifted os started H enc)

theorem proved : Rows.PartitionBandCoversSaid :=
  over
#print axioms proved
end Go.Proofs.Ytcdjkofgnelgeaa.partitionBandCovers
