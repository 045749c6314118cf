/-
  Layer 22: contracts of the reference's place, Precinct, InBand.
-/
import Derived.Test.YtcdjkofgnelgeaaPr
set_option maxRecDepth 100000
namespace Go.Proofs.Ytcdjkofgnelgeaa
open Go.RowKit

theorem prod_area (a b c d ea eb : Int) : IntKind.i64.wrap (Pl.colsI a b c d ea eb 12 * Pl.rowsI a b c d ea eb 12) = Pl.areaI (Pl.gridR a b c d ea eb 12).x0 (Pl.gridR a b c d ea eb 12).y0 (Pl.gridR a b c d ea eb 12).x1 (Pl.gridR a b c d ea eb 12).y1 := by
  by_cases h : Pl.gridOk a b c d ea eb 12
  · rw [h.area, show Pl.colsI a b c d ea eb 12 = (Pl.nX a c (Pl.pw ea) : Int) from if_pos h, show Pl.rowsI a b c d ea eb 12 = (Pl.nX b d (Pl.pw eb) : Int) from if_pos h]
    exact prod_wrap h.grid.pos.2.2.1 h.grid.pos.2.2.2
  · rw [Pl.gridR_area_no h, show Pl.colsI a b c d ea eb 12 = 0 from if_neg h]
    rw [Int.zero_mul, IntWalk.i64_left]; unfold wrap64; omega
set_option maxHeartbeats 2000000 in
theorem rplace_n (a b c d ea eb idx : Int) (hn : ¬ pOk a b c d ea eb idx) (W : World) : Calls Try.prog 29 #[.agg #[.int .i64 a, .int .i64 b, .int .i64 c, .int .i64 d], .int .i64 ea, .int .i64 eb, .int .i64 idx] W fun e w' => e = .returned (.tuple #[.int .i64 0, .int .i64 0, .bool false]) ∧ Below W.heap.size W w' := by
  rw [pOk_iff] at hn
  obtain ⟨WB, hWB⟩ : ∃ ww, ww = (W.alloc (.cells #[.int .i64 a, .int .i64 b, .int .i64 c, .int .i64 d] 23)) := ⟨_, rfl⟩
  have hb0 : Below W.heap.size W WB := by rw [hWB]; exact (below_alloc (Below.refl _ W) (Nat.le_refl _) _)
  have B0 := Lib.hid hb0
  have hX : Blk WB (W.heap.size) 23 #[.int .i64 a, .int .i64 b, .int .i64 c, .int .i64 d] := by
    have := Blk.new (W) 23 #[.int .i64 a, .int .i64 b, .int .i64 c, .int .i64 d]
    rw [hWB]
    exact (show Blk _ (W.heap.size) _ _ by simpa using this)
  have HX0 := Lib.hid hX
  have HWB := Lib.hid hWB
  clear hb0 hWB hX
  have kr := fun W1 : World => rprecincts_c a b c d ea eb W1
  have pa := prod_area a b c d ea eb
  generalize Pl.areaI (Pl.gridR a b c d ea eb 12).x0 (Pl.gridR a b c d ea eb 12).y0 (Pl.gridR a b c d ea eb 12).x1 (Pl.gridR a b c d ea eb 12).y1 = ar at *
  generalize Pl.colsI a b c d ea eb 12 = CI at *
  generalize Pl.rowsI a b c d ea eb 12 = RI at *
  by_cases g1 : idx < 0
  · clear hn pa
    go_enter Try.func29, Try.ntmps29
    go_wp2_with (first | (go_at_call 9; (with_reducible refine (kr _).mono ?_); rintro e w1 ⟨rfl, hb1⟩; have hb := (show Below WB.heap.size WB w1 by rw [HWB.out]; exact hb1); clear hb1; have B1 := Lib.hid (B0.out.trans (hb.mono B0.out.size)); have HX1 := Lib.hid (HX0.out.below hb); obtain ⟨x0, x1, x2, x3⟩ := HX1.out.four; clear hb) | fail)
    go_ret3
    exact ⟨rfl, B1.out⟩
  · have g2 : ar ≤ idx := by omega
    clear hn
    go_enter Try.func29, Try.ntmps29
    go_wp2_with (first | (go_at_call 9; (with_reducible refine (kr _).mono ?_); rintro e w1 ⟨rfl, hb1⟩; have hb := (show Below WB.heap.size WB w1 by rw [HWB.out]; exact hb1); clear hb1; have B1 := Lib.hid (B0.out.trans (hb.mono B0.out.size)); have HX1 := Lib.hid (HX0.out.below hb); obtain ⟨x0, x1, x2, x3⟩ := HX1.out.four; clear hb) | fail)
    go_ret3
    exact ⟨rfl, B1.out⟩
set_option maxHeartbeats 2000000 in
theorem rplace_y (a b c d ea eb : Int) (t : Nat) (hy : pOk a b c d ea eb (t : Int)) (W : World) : Calls Try.prog 29 #[.agg #[.int .i64 a, .int .i64 b, .int .i64 c, .int .i64 d], .int .i64 ea, .int .i64 eb, .int .i64 (t : Int)] W fun e w' => e = .returned (.tuple #[.int .i64 (cX a c ea t), .int .i64 (cY a c b ea eb t), .bool true]) ∧ Below W.heap.size W w' := by
  have hy2 := (pOk_iff _ _ _ _ _ _ _).1 hy
  obtain ⟨WB, hWB⟩ : ∃ ww, ww = (W.alloc (.cells #[.int .i64 a, .int .i64 b, .int .i64 c, .int .i64 d] 23)) := ⟨_, rfl⟩
  have hb0 : Below W.heap.size W WB := by rw [hWB]; exact (below_alloc (Below.refl _ W) (Nat.le_refl _) _)
  have B0 := Lib.hid hb0
  have hX : Blk WB (W.heap.size) 23 #[.int .i64 a, .int .i64 b, .int .i64 c, .int .i64 d] := by
    have := Blk.new (W) 23 #[.int .i64 a, .int .i64 b, .int .i64 c, .int .i64 d]
    rw [hWB]
    exact (show Blk _ (W.heap.size) _ _ by simpa using this)
  have HX0 := Lib.hid hX
  have HWB := Lib.hid hWB
  clear hb0 hWB hX
  have kr := fun W1 : World => rprecincts_c a b c d ea eb W1
  have pa := prod_area a b c d ea eb
  have g := hy.1.grid
  obtain ⟨v1, v2, v3, v4, v5, v6⟩ := Pl.valid_iff.1 hy.1.1
  have e0 := hy.1.2.2.1
  have e1 := hy.1.2.2.2.1
  have f0 := hy.1.2.2.2.2.1
  have f1 := hy.1.2.2.2.2.2.1
  obtain ⟨sa, wa1, wa2, wa3⟩ := pw_facts (e := ea) (m := 12) (by omega) (by omega)
  obtain ⟨sb, wb1, wb2, wb3⟩ := pw_facts (e := eb) (m := 12) (by omega) (by omega)
  have u1 := u_fact e0 e1
  have u2 := u_fact f0 f1
  have k3 := fun W1 : World => fd_rs a (Pl.pw ea) W1 (by omega) (by omega)
  have k4 := fun W1 : World => fd_rs b (Pl.pw eb) W1 (by omega) (by omega)
  have hx : Pl.fd a (Pl.pw ea) + ((t % Pl.nX a c (Pl.pw ea) : Nat) : Int) = cX a c ea t := rfl
  have hyy : Pl.fd b (Pl.pw eb) + ((t / Pl.nX a c (Pl.pw ea) : Nat) : Int) = cY a c b ea eb t := rfl
  have hc : Pl.colsI a b c d ea eb 12 = (Pl.nX a c (Pl.pw ea) : Int) := if_pos hy.1
  have n0 := (Pl.Grid.pos hy.1.grid).1
  have tl : (t : Int) < 65536 := by have := hy.2.2; have := hy.1.2.2.2.2.2.2; omega
  have cb : t % Pl.nX a c (Pl.pw ea) ≤ t ∧ t / Pl.nX a c (Pl.pw ea) ≤ t := ⟨Nat.mod_le _ _, Nat.div_le_self _ _⟩
  have xl := g.ax.lo
  have xt := g.ax.lt
  have xh := g.ax.hi
  have yl := g.ay.lo
  have yt := g.ay.lt
  have yh := g.ay.hi
  rw [hc] at kr pa
  generalize Pl.areaI (Pl.gridR a b c d ea eb 12).x0 (Pl.gridR a b c d ea eb 12).y0 (Pl.gridR a b c d ea eb 12).x1 (Pl.gridR a b c d ea eb 12).y1 = ar at *
  generalize Pl.rowsI a b c d ea eb 12 = RI at *
  generalize cX a c ea t = px at *
  generalize cY a c b ea eb t = py at *
  generalize Pl.nX a c (Pl.pw ea) = nx at *
  have nn : ¬ ((nx : Int) = 0) := by omega
  have nn2 : ¬ (nx = 0) := by omega
  have d1 : (t : Int).tmod (nx : Int) = ((t % nx : Nat) : Int) := by rw [Int.tmod_eq_emod_of_nonneg (by omega)]; simp
  have d2 : (t : Int).tdiv (nx : Int) = ((t / nx : Nat) : Int) := by rw [Int.tdiv_eq_ediv_of_nonneg (by omega)]; simp
  generalize t % nx = tm at *
  generalize t / nx = td at *
  generalize Pl.fd a (Pl.pw ea) = r0 at *
  generalize Pl.fd b (Pl.pw eb) = r1 at *
  generalize Pl.pw ea = wa at *
  generalize Pl.pw eb = wb at *
  obtain ⟨p1, _, _, _⟩ := place_wrap r0 (tm : Int) px xl (by omega) hx (by omega) (by omega)
  obtain ⟨p2, p3, p4, p5⟩ := place_wrap r1 (td : Int) py yl (by omega) hyy (by omega) (by omega)
  have g1 : ¬ ((t : Int) < 0) := by omega
  have g2 : ¬ (ar ≤ (t : Int)) := by omega
  clear hy hy2 hx hyy hc n0 tl cb g v1 v2 v3 v4 v5 v6 wa2 wa3 wb2 wb3 xl xt xh yl yt yh
  go_enter Try.func29, Try.ntmps29
  go_wp2_with (first | (go_at_call 9; (with_reducible refine (kr _).mono ?_); rintro e w1 ⟨rfl, hb1⟩; have hb := (show Below WB.heap.size WB w1 by rw [HWB.out]; exact hb1); clear hb1; have B1 := Lib.hid (B0.out.trans (hb.mono B0.out.size)); have HX1 := Lib.hid (HX0.out.below hb); obtain ⟨x0, x1, x2, x3⟩ := HX1.out.four; clear hb) | fail)
  go_quiet ((first | (go_at_call 26; with_reducible exact Calls.quiet_of_same (k3 _)) | (go_at_call 26; with_reducible exact Calls.quiet_of_same (k4 _))))
  go_wp2_with fail
  go_ret3
  exact ⟨rfl, B1.out.trans ((drewN_below w1 _).mono B1.out.size)⟩
set_option maxHeartbeats 4000000 in
theorem rprecinct_c (a b c d ea eb idx : Int) (W : World) : Calls Try.prog 11 #[.agg #[.int .i64 a, .int .i64 b, .int .i64 c, .int .i64 d], .int .i64 ea, .int .i64 eb, .int .i64 idx] W fun e w' => e = .returned (.tuple #[.agg #[.int .i64 ((precR a b c d ea eb idx)).x0, .int .i64 ((precR a b c d ea eb idx)).y0, .int .i64 ((precR a b c d ea eb idx)).x1, .int .i64 ((precR a b c d ea eb idx)).y1], .bool (decide (pOk a b c d ea eb idx))]) ∧ Below W.heap.size W w' := by
  obtain ⟨WB, hWB⟩ : ∃ ww, ww = ((W.alloc (.cells #[.int .i64 a, .int .i64 b, .int .i64 c, .int .i64 d] 23)).alloc (.cells #[.int .i64 0, .int .i64 0, .int .i64 0, .int .i64 0] 23)) := ⟨_, rfl⟩
  have hb0 : Below W.heap.size W WB := by rw [hWB]; exact (below_alloc (below_alloc (Below.refl _ W) (Nat.le_refl _) _) (by simp <;> omega) _)
  have B0 := Lib.hid hb0
  have hX : Blk WB (W.heap.size) 23 #[.int .i64 a, .int .i64 b, .int .i64 c, .int .i64 d] := by
    have := Blk.new (W) 23 #[.int .i64 a, .int .i64 b, .int .i64 c, .int .i64 d]
    rw [hWB]
    exact ((show Blk _ (W.heap.size) _ _ by simpa using this)).alloc _
  have HX0 := Lib.hid hX
  have hR : Blk WB (W.heap.size + 1) 23 #[.int .i64 0, .int .i64 0, .int .i64 0, .int .i64 0] := by
    have := Blk.new ((W.alloc (.cells #[.int .i64 a, .int .i64 b, .int .i64 c, .int .i64 d] 23))) 23 #[.int .i64 0, .int .i64 0, .int .i64 0, .int .i64 0]
    rw [hWB]
    exact (show Blk _ (W.heap.size + 1) _ _ by simpa using this)
  have HR0 := Lib.hid hR
  have HWB := Lib.hid hWB
  clear hb0 hWB hX hR
  by_cases hp : pOk a b c d ea eb idx
  · rw [decide_eq_true hp]
    obtain ⟨t, rfl⟩ : ∃ t : Nat, idx = (t : Int) := ⟨idx.toNat, by have := hp.2.1; omega⟩
    have kp := fun W1 : World => rplace_y a b c d ea eb t hp W1
    have cb := cell_bd hp
    have kq := fun W1 : World => rcell_c _ _ ea eb cb.1 cb.2 ⟨hp.1.2.2.1, hp.1.2.2.2.1⟩ ⟨hp.1.2.2.2.2.1, hp.1.2.2.2.2.2.1⟩ W1
    rw [precR_y hp]
    clear hp cb
    unfold Pl.part
    have ki := fun W1 : World => isec_r a b c d (cX a c ea t * Pl.pw ea) (cY a c b ea eb t * Pl.pw eb) (cX a c ea t * Pl.pw ea + Pl.pw ea) (cY a c b ea eb t * Pl.pw eb + Pl.pw eb) W1
    generalize Pl.isec a b c d (cX a c ea t * Pl.pw ea) (cY a c b ea eb t * Pl.pw eb) (cX a c ea t * Pl.pw ea + Pl.pw ea) (cY a c b ea eb t * Pl.pw eb + Pl.pw eb) = PP at *
    obtain ⟨i0, i1, i2, i3⟩ := PP
    dsimp only at ki ⊢
    generalize cX a c ea t * Pl.pw ea + Pl.pw ea = p2 at *
    generalize cY a c b ea eb t * Pl.pw eb + Pl.pw eb = q2 at *
    generalize cX a c ea t * Pl.pw ea = p1 at *
    generalize cY a c b ea eb t * Pl.pw eb = q1 at *
    generalize cX a c ea t = px at *
    generalize cY a c b ea eb t = py at *
    go_enter Try.func11, Try.ntmps11
    go_wp2_with (first | (go_at_call 29; (with_reducible refine (kp _).mono ?_); rintro e w1 ⟨rfl, hb1⟩; have hb := (show Below WB.heap.size WB w1 by rw [HWB.out]; exact hb1); clear hb1; have B1 := Lib.hid (B0.out.trans (hb.mono B0.out.size)); have HX1 := Lib.hid (HX0.out.below hb); have HR1 := Lib.hid (HR0.out.below hb); obtain ⟨x0, x1, x2, x3⟩ := HX1.out.four; obtain ⟨r0, r1, r2, r3⟩ := HR1.out.four; have rf := HR1.out.free; clear hb) | fail)
    have s0 := HX1.out.drew.four
    have HX1d := Lib.hid HX1.out.drew
    go_region_held3 (fun w' => w'.cell? ⟨W.heap.size, 0, none⟩ = some (.int .i64 a) ∧ w'.cell? ⟨W.heap.size, 1, none⟩ = some (.int .i64 b) ∧ w'.cell? ⟨W.heap.size, 2, none⟩ = some (.int .i64 c) ∧ w'.cell? ⟨W.heap.size, 3, none⟩ = some (.int .i64 d))
      (first | (with_reducible exact s0) | (with_reducible exact s2) | (with_reducible exact s3) | (with_reducible exact s4) | fail)
      (first | (go_simp; go_at_call 31; (with_reducible refine (kq _).mono ?_); rintro e w2 ⟨rfl, hb2⟩; have hb2 := (Below.refl w1.heap.size w1).drew.trans hb2; clear x0 x1 x2 x3 r0 r1 r2 r3 rf; have B2 := Lib.hid (B1.out.trans (hb2.mono B1.out.size)); have HX2 := Lib.hid (HX1.out.below hb2); have HR2 := Lib.hid (HR1.out.below hb2); obtain ⟨x0, x1, x2, x3⟩ := HX2.out.four; obtain ⟨r0, r1, r2, r3⟩ := HR2.out.four; have rf := HR2.out.free; clear hb2; have s2 := HX2.out.four) | (go_simp; go_at_call 30; (with_reducible refine (ki _).mono ?_); rintro e w3 ⟨rfl, hb3⟩; clear x0 x1 x2 x3 r0 r1 r2 r3 rf; have B3 := Lib.hid (B2.out.trans (hb3.mono B2.out.size)); have HX3 := Lib.hid (HX2.out.below hb3); have HR3 := Lib.hid (HR2.out.below hb3); obtain ⟨x0, x1, x2, x3⟩ := HX3.out.four; obtain ⟨r0, r1, r2, r3⟩ := HR3.out.four; have rf := HR3.out.free; clear hb3; have s3 := HX3.out.four; have s4 := ((((HX3.out.far (p := ⟨W.heap.size + 1, 0, none⟩) (by simp) (.int .i64 i0)).far (p := ⟨W.heap.size + 1, 1, none⟩) (by simp) (.int .i64 i1)).far (p := ⟨W.heap.size + 1, 2, none⟩) (by simp) (.int .i64 i2)).far (p := ⟨W.heap.size + 1, 3, none⟩) (by simp) (.int .i64 i3)).four) | fail)
    all_goals
      go_wp2_with fail
      refine bodyPost_ret (results_rb rfl _ rfl rfl (HR3.out.set4 _ _ _ _)) rfl ?_
      exact ⟨rfl, below4 B3.out (by omega) _ _ _ _⟩
  · rw [decide_eq_false hp]
    have kp := fun W1 : World => rplace_n a b c d ea eb idx hp W1
    rw [precR_n hp]
    clear hp
    go_enter Try.func11, Try.ntmps11
    go_wp2_with (first | (go_at_call 29; (with_reducible refine (kp _).mono ?_); rintro e w1 ⟨rfl, hb1⟩; have hb := (show Below WB.heap.size WB w1 by rw [HWB.out]; exact hb1); clear hb1; have B1 := Lib.hid (B0.out.trans (hb.mono B0.out.size)); have HX1 := Lib.hid (HX0.out.below hb); have HR1 := Lib.hid (HR0.out.below hb); obtain ⟨x0, x1, x2, x3⟩ := HX1.out.four; obtain ⟨r0, r1, r2, r3⟩ := HR1.out.four; have rf := HR1.out.free; clear hb) | fail)
    refine bodyPost_ret (results_rb rfl _ rfl rfl (HR1.out.set4 _ _ _ _)) rfl ?_
    exact ⟨rfl, below4 B1.out (by omega) _ _ _ _⟩
set_option maxHeartbeats 4000000 in
theorem rinband_c (a b c d a2 b2 c2 d2 o ea eb idx : Int) (W : World) : Calls Try.prog 14 #[.agg #[.int .i64 a, .int .i64 b, .int .i64 c, .int .i64 d], .agg #[.int .i64 a2, .int .i64 b2, .int .i64 c2, .int .i64 d2], .int .i64 o, .int .i64 ea, .int .i64 eb, .int .i64 idx] W fun e w' => e = .returned (.tuple #[.agg #[.int .i64 ((bandR a b c d ⟨a2, b2, c2, d2⟩ o ea eb idx)).x0, .int .i64 ((bandR a b c d ⟨a2, b2, c2, d2⟩ o ea eb idx)).y0, .int .i64 ((bandR a b c d ⟨a2, b2, c2, d2⟩ o ea eb idx)).x1, .int .i64 ((bandR a b c d ⟨a2, b2, c2, d2⟩ o ea eb idx)).y1], .bool (decide (bOk a b c d ⟨a2, b2, c2, d2⟩ o ea eb idx))]) ∧ Below W.heap.size W w' := by
  obtain ⟨WB, hWB⟩ : ∃ ww, ww = (((W.alloc (.cells #[.int .i64 a, .int .i64 b, .int .i64 c, .int .i64 d] 23)).alloc (.cells #[.int .i64 a2, .int .i64 b2, .int .i64 c2, .int .i64 d2] 23)).alloc (.cells #[.int .i64 0, .int .i64 0, .int .i64 0, .int .i64 0] 23)) := ⟨_, rfl⟩
  have hb0 : Below W.heap.size W WB := by rw [hWB]; exact (below_alloc (below_alloc (below_alloc (Below.refl _ W) (Nat.le_refl _) _) (by simp <;> omega) _) (by simp <;> omega) _)
  have B0 := Lib.hid hb0
  have hX : Blk WB (W.heap.size) 23 #[.int .i64 a, .int .i64 b, .int .i64 c, .int .i64 d] := by
    have := Blk.new (W) 23 #[.int .i64 a, .int .i64 b, .int .i64 c, .int .i64 d]
    rw [hWB]
    exact (((show Blk _ (W.heap.size) _ _ by simpa using this)).alloc _).alloc _
  have HX0 := Lib.hid hX
  have hT : Blk WB (W.heap.size + 1) 23 #[.int .i64 a2, .int .i64 b2, .int .i64 c2, .int .i64 d2] := by
    have := Blk.new ((W.alloc (.cells #[.int .i64 a, .int .i64 b, .int .i64 c, .int .i64 d] 23))) 23 #[.int .i64 a2, .int .i64 b2, .int .i64 c2, .int .i64 d2]
    rw [hWB]
    exact ((show Blk _ (W.heap.size + 1) _ _ by simpa using this)).alloc _
  have HT0 := Lib.hid hT
  have hR : Blk WB (W.heap.size + 2) 23 #[.int .i64 0, .int .i64 0, .int .i64 0, .int .i64 0] := by
    have := Blk.new (((W.alloc (.cells #[.int .i64 a, .int .i64 b, .int .i64 c, .int .i64 d] 23)).alloc (.cells #[.int .i64 a2, .int .i64 b2, .int .i64 c2, .int .i64 d2] 23))) 23 #[.int .i64 0, .int .i64 0, .int .i64 0, .int .i64 0]
    rw [hWB]
    exact (show Blk _ (W.heap.size + 2) _ _ by simpa using this)
  have HR0 := Lib.hid hR
  have HWB := Lib.hid hWB
  clear hb0 hWB hX hT hR
  have kv := fun W1 : World => valid_r a2 b2 c2 d2 W1
  by_cases hp : pOk a b c d ea eb idx
  · obtain ⟨t, rfl⟩ : ∃ t : Nat, idx = (t : Int) := ⟨idx.toNat, by have := hp.2.1; omega⟩
    have kp := fun W1 : World => rplace_y a b c d ea eb t hp W1
    have cb := cell_bd hp
    by_cases hv : Pl.validB a2 b2 c2 d2 = true
    · rw [hv] at kv
      by_cases g1 : o < 0
      · have hq : ¬ bOk a b c d ⟨a2, b2, c2, d2⟩ o ea eb (t : Int) := fun h => by have := h.2.2.1; omega
        generalize cX a c ea t = px at *
        generalize cY a c b ea eb t = py at *
        rw [decide_eq_false hq, bandR_n hq]
        clear hp cb hv
        clear hq
        go_enter Try.func14, Try.ntmps14
        go_wp2_with (first | (go_at_call 29; (with_reducible refine (kp _).mono ?_); rintro e w1 ⟨rfl, hb1⟩; have hb := (show Below WB.heap.size WB w1 by rw [HWB.out]; exact hb1); clear hb1; have B1 := Lib.hid (B0.out.trans (hb.mono B0.out.size)); have HX1 := Lib.hid (HX0.out.below hb); have HT1 := Lib.hid (HT0.out.below hb); have HR1 := Lib.hid (HR0.out.below hb); obtain ⟨x0, x1, x2, x3⟩ := HX1.out.four; obtain ⟨t0, t1, t2, t3⟩ := HT1.out.four; obtain ⟨r0, r1, r2, r3⟩ := HR1.out.four; have rf := HR1.out.free; clear hb) | (go_at_call 23; (with_reducible refine (kv _).mono ?_); rintro e w2 ⟨rfl, hb2⟩; clear x0 x1 x2 x3 t0 t1 t2 t3 r0 r1 r2 r3 rf; have B2 := Lib.hid (B1.out.trans (hb2.mono B1.out.size)); have HX2 := Lib.hid (HX1.out.below hb2); have HT2 := Lib.hid (HT1.out.below hb2); have HR2 := Lib.hid (HR1.out.below hb2); obtain ⟨x0, x1, x2, x3⟩ := HX2.out.four; obtain ⟨t0, t1, t2, t3⟩ := HT2.out.four; obtain ⟨r0, r1, r2, r3⟩ := HR2.out.four; have rf := HR2.out.free; clear hb2) | fail)
        refine bodyPost_ret (results_rb rfl _ rfl rfl (HR2.out.set4 _ _ _ _)) rfl ?_
        exact ⟨rfl, below4 B2.out (by omega) _ _ _ _⟩
      · by_cases g2 : 3 < o
        · have hq : ¬ bOk a b c d ⟨a2, b2, c2, d2⟩ o ea eb (t : Int) := fun h => by have := h.2.2.2.1; omega
          generalize cX a c ea t = px at *
          generalize cY a c b ea eb t = py at *
          rw [decide_eq_false hq, bandR_n hq]
          clear hp cb hv
          clear hq
          go_enter Try.func14, Try.ntmps14
          go_wp2_with (first | (go_at_call 29; (with_reducible refine (kp _).mono ?_); rintro e w1 ⟨rfl, hb1⟩; have hb := (show Below WB.heap.size WB w1 by rw [HWB.out]; exact hb1); clear hb1; have B1 := Lib.hid (B0.out.trans (hb.mono B0.out.size)); have HX1 := Lib.hid (HX0.out.below hb); have HT1 := Lib.hid (HT0.out.below hb); have HR1 := Lib.hid (HR0.out.below hb); obtain ⟨x0, x1, x2, x3⟩ := HX1.out.four; obtain ⟨t0, t1, t2, t3⟩ := HT1.out.four; obtain ⟨r0, r1, r2, r3⟩ := HR1.out.four; have rf := HR1.out.free; clear hb) | (go_at_call 23; (with_reducible refine (kv _).mono ?_); rintro e w2 ⟨rfl, hb2⟩; clear x0 x1 x2 x3 t0 t1 t2 t3 r0 r1 r2 r3 rf; have B2 := Lib.hid (B1.out.trans (hb2.mono B1.out.size)); have HX2 := Lib.hid (HX1.out.below hb2); have HT2 := Lib.hid (HT1.out.below hb2); have HR2 := Lib.hid (HR1.out.below hb2); obtain ⟨x0, x1, x2, x3⟩ := HX2.out.four; obtain ⟨t0, t1, t2, t3⟩ := HT2.out.four; obtain ⟨r0, r1, r2, r3⟩ := HR2.out.four; have rf := HR2.out.free; clear hb2) | fail)
          refine bodyPost_ret (results_rb rfl _ rfl rfl (HR2.out.set4 _ _ _ _)) rfl ?_
          exact ⟨rfl, below4 B2.out (by omega) _ _ _ _⟩
        · by_cases g3 : o = 0
          · have hq : bOk a b c d ⟨a2, b2, c2, d2⟩ o ea eb (t : Int) := ⟨hp, hv, by omega, by omega, .inl g3⟩
            subst g3
            have kq := fun W1 : World => rcell_c _ _ ea eb cb.1 cb.2 ⟨hp.1.2.2.1, hp.1.2.2.2.1⟩ ⟨hp.1.2.2.2.2.1, hp.1.2.2.2.2.2.1⟩ W1
            rw [decide_eq_true hq, bandR_y hq]
            rw [show oE 0 ea = ea from if_pos rfl, show oE 0 eb = eb from if_pos rfl]
            dsimp only
            clear hq hp cb hv g1 g2
            unfold Pl.part
            have ki := fun W1 : World => isec_r a2 b2 c2 d2 (cX a c ea t * Pl.pw (ea)) (cY a c b ea eb t * Pl.pw (eb)) (cX a c ea t * Pl.pw (ea) + Pl.pw (ea)) (cY a c b ea eb t * Pl.pw (eb) + Pl.pw (eb)) W1
            generalize Pl.isec a2 b2 c2 d2 (cX a c ea t * Pl.pw (ea)) (cY a c b ea eb t * Pl.pw (eb)) (cX a c ea t * Pl.pw (ea) + Pl.pw (ea)) (cY a c b ea eb t * Pl.pw (eb) + Pl.pw (eb)) = PP at *
            obtain ⟨i0, i1, i2, i3⟩ := PP
            dsimp only at ki ⊢
            generalize cX a c ea t * Pl.pw (ea) + Pl.pw (ea) = p2 at *
            generalize cY a c b ea eb t * Pl.pw (eb) + Pl.pw (eb) = q2 at *
            generalize cX a c ea t * Pl.pw (ea) = p1 at *
            generalize cY a c b ea eb t * Pl.pw (eb) = q1 at *
            generalize cX a c ea t = px at *
            generalize cY a c b ea eb t = py at *
            go_enter Try.func14, Try.ntmps14
            go_wp2_with (first | (go_at_call 29; (with_reducible refine (kp _).mono ?_); rintro e w1 ⟨rfl, hb1⟩; have hb := (show Below WB.heap.size WB w1 by rw [HWB.out]; exact hb1); clear hb1; have B1 := Lib.hid (B0.out.trans (hb.mono B0.out.size)); have HX1 := Lib.hid (HX0.out.below hb); have HT1 := Lib.hid (HT0.out.below hb); have HR1 := Lib.hid (HR0.out.below hb); obtain ⟨x0, x1, x2, x3⟩ := HX1.out.four; obtain ⟨t0, t1, t2, t3⟩ := HT1.out.four; obtain ⟨r0, r1, r2, r3⟩ := HR1.out.four; have rf := HR1.out.free; clear hb) | (go_at_call 23; (with_reducible refine (kv _).mono ?_); rintro e w2 ⟨rfl, hb2⟩; clear x0 x1 x2 x3 t0 t1 t2 t3 r0 r1 r2 r3 rf; have B2 := Lib.hid (B1.out.trans (hb2.mono B1.out.size)); have HX2 := Lib.hid (HX1.out.below hb2); have HT2 := Lib.hid (HT1.out.below hb2); have HR2 := Lib.hid (HR1.out.below hb2); obtain ⟨x0, x1, x2, x3⟩ := HX2.out.four; obtain ⟨t0, t1, t2, t3⟩ := HT2.out.four; obtain ⟨r0, r1, r2, r3⟩ := HR2.out.four; have rf := HR2.out.free; clear hb2) | fail)
            have s0 := HT2.out.drew.four
            have HX2d := Lib.hid HT2.out.drew
            go_region_held3 (fun w' => w'.cell? ⟨W.heap.size + 1, 0, none⟩ = some (.int .i64 a2) ∧ w'.cell? ⟨W.heap.size + 1, 1, none⟩ = some (.int .i64 b2) ∧ w'.cell? ⟨W.heap.size + 1, 2, none⟩ = some (.int .i64 c2) ∧ w'.cell? ⟨W.heap.size + 1, 3, none⟩ = some (.int .i64 d2))
              (first | (with_reducible exact s0) | (with_reducible exact s2) | (with_reducible exact s3) | (with_reducible exact s4) | fail)
              (first | (go_simp; go_at_call 31; (with_reducible refine (kq _).mono ?_); rintro e w3 ⟨rfl, hb3⟩; have hb3 := (Below.refl w2.heap.size w2).drew.trans hb3; clear x0 x1 x2 x3 t0 t1 t2 t3 r0 r1 r2 r3 rf; have B3 := Lib.hid (B2.out.trans (hb3.mono B2.out.size)); have HX3 := Lib.hid (HX2.out.below hb3); have HT3 := Lib.hid (HT2.out.below hb3); have HR3 := Lib.hid (HR2.out.below hb3); obtain ⟨x0, x1, x2, x3⟩ := HX3.out.four; obtain ⟨t0, t1, t2, t3⟩ := HT3.out.four; obtain ⟨r0, r1, r2, r3⟩ := HR3.out.four; have rf := HR3.out.free; clear hb3; have s2 := HT3.out.four) | (go_simp; go_at_call 30; (with_reducible refine (ki _).mono ?_); rintro e w4 ⟨rfl, hb4⟩; clear x0 x1 x2 x3 t0 t1 t2 t3 r0 r1 r2 r3 rf; have B4 := Lib.hid (B3.out.trans (hb4.mono B3.out.size)); have HX4 := Lib.hid (HX3.out.below hb4); have HT4 := Lib.hid (HT3.out.below hb4); have HR4 := Lib.hid (HR3.out.below hb4); obtain ⟨x0, x1, x2, x3⟩ := HX4.out.four; obtain ⟨t0, t1, t2, t3⟩ := HT4.out.four; obtain ⟨r0, r1, r2, r3⟩ := HR4.out.four; have rf := HR4.out.free; clear hb4; have s3 := HT4.out.four; have s4 := ((((HT4.out.far (p := ⟨W.heap.size + 1 + 1, 0, none⟩) (by simp) (.int .i64 i0)).far (p := ⟨W.heap.size + 1 + 1, 1, none⟩) (by simp) (.int .i64 i1)).far (p := ⟨W.heap.size + 1 + 1, 2, none⟩) (by simp) (.int .i64 i2)).far (p := ⟨W.heap.size + 1 + 1, 3, none⟩) (by simp) (.int .i64 i3)).four) | fail)
            all_goals
              go_wp2_with fail
              refine bodyPost_ret (results_rb rfl _ rfl rfl (HR4.out.set4 _ _ _ _)) rfl ?_
              exact ⟨rfl, below4 B4.out (by omega) _ _ _ _⟩
          · have e0 := hp.1.2.2.1
            have e1 := hp.1.2.2.2.2.1
            have e2 := hp.1.2.2.2.1
            have e3 := hp.1.2.2.2.2.2.1
            have u0 : IntKind.i64.wrap (ea - 1) = ea - 1 := by rw [IntWalk.i64_left]; unfold wrap64; omega
            have u1 : IntKind.i64.wrap (eb - 1) = eb - 1 := by rw [IntWalk.i64_left]; unfold wrap64; omega
            have t4 : (o == 0) = false := by simpa using g3
            by_cases g4 : 1 ≤ ea ∧ 1 ≤ eb
            · have hq : bOk a b c d ⟨a2, b2, c2, d2⟩ o ea eb (t : Int) := ⟨hp, hv, by omega, by omega, .inr g4⟩
              have kq := fun W1 : World => rcell_c _ _ (ea - 1) (eb - 1) cb.1 cb.2 ⟨by omega, by omega⟩ ⟨by omega, by omega⟩ W1
              rw [decide_eq_true hq, bandR_y hq]
              rw [show oE o ea = ea - 1 from if_neg g3, show oE o eb = eb - 1 from if_neg g3]
              dsimp only
              have n0 : (ea == 0) = false := by simp; omega
              have n1 : (eb == 0) = false := by simp; omega
              clear hq hp cb hv g3 e0 e1 e2 e3 g4
              unfold Pl.part
              have ki := fun W1 : World => isec_r a2 b2 c2 d2 (cX a c ea t * Pl.pw (ea - 1)) (cY a c b ea eb t * Pl.pw (eb - 1)) (cX a c ea t * Pl.pw (ea - 1) + Pl.pw (ea - 1)) (cY a c b ea eb t * Pl.pw (eb - 1) + Pl.pw (eb - 1)) W1
              generalize Pl.isec a2 b2 c2 d2 (cX a c ea t * Pl.pw (ea - 1)) (cY a c b ea eb t * Pl.pw (eb - 1)) (cX a c ea t * Pl.pw (ea - 1) + Pl.pw (ea - 1)) (cY a c b ea eb t * Pl.pw (eb - 1) + Pl.pw (eb - 1)) = PP at *
              obtain ⟨i0, i1, i2, i3⟩ := PP
              dsimp only at ki ⊢
              generalize cX a c ea t * Pl.pw (ea - 1) + Pl.pw (ea - 1) = p2 at *
              generalize cY a c b ea eb t * Pl.pw (eb - 1) + Pl.pw (eb - 1) = q2 at *
              generalize cX a c ea t * Pl.pw (ea - 1) = p1 at *
              generalize cY a c b ea eb t * Pl.pw (eb - 1) = q1 at *
              generalize cX a c ea t = px at *
              generalize cY a c b ea eb t = py at *
              generalize hE : ea - 1 = ea1 at *
              generalize hF : eb - 1 = eb1 at *
              have u2 : IntKind.i64.wrap (ea - 1) = ea1 := by rw [hE]; exact u0
              have u3 : IntKind.i64.wrap (eb - 1) = eb1 := by rw [hF]; exact u1
              clear hE hF u0 u1
              go_enter Try.func14, Try.ntmps14
              go_wp2_with (first | (go_at_call 29; (with_reducible refine (kp _).mono ?_); rintro e w1 ⟨rfl, hb1⟩; have hb := (show Below WB.heap.size WB w1 by rw [HWB.out]; exact hb1); clear hb1; have B1 := Lib.hid (B0.out.trans (hb.mono B0.out.size)); have HX1 := Lib.hid (HX0.out.below hb); have HT1 := Lib.hid (HT0.out.below hb); have HR1 := Lib.hid (HR0.out.below hb); obtain ⟨x0, x1, x2, x3⟩ := HX1.out.four; obtain ⟨t0, t1, t2, t3⟩ := HT1.out.four; obtain ⟨r0, r1, r2, r3⟩ := HR1.out.four; have rf := HR1.out.free; clear hb) | (go_at_call 23; (with_reducible refine (kv _).mono ?_); rintro e w2 ⟨rfl, hb2⟩; clear x0 x1 x2 x3 t0 t1 t2 t3 r0 r1 r2 r3 rf; have B2 := Lib.hid (B1.out.trans (hb2.mono B1.out.size)); have HX2 := Lib.hid (HX1.out.below hb2); have HT2 := Lib.hid (HT1.out.below hb2); have HR2 := Lib.hid (HR1.out.below hb2); obtain ⟨x0, x1, x2, x3⟩ := HX2.out.four; obtain ⟨t0, t1, t2, t3⟩ := HT2.out.four; obtain ⟨r0, r1, r2, r3⟩ := HR2.out.four; have rf := HR2.out.free; clear hb2) | fail)
              have s0 := HT2.out.drew.four
              have HX2d := Lib.hid HT2.out.drew
              go_region_held3 (fun w' => w'.cell? ⟨W.heap.size + 1, 0, none⟩ = some (.int .i64 a2) ∧ w'.cell? ⟨W.heap.size + 1, 1, none⟩ = some (.int .i64 b2) ∧ w'.cell? ⟨W.heap.size + 1, 2, none⟩ = some (.int .i64 c2) ∧ w'.cell? ⟨W.heap.size + 1, 3, none⟩ = some (.int .i64 d2))
                (first | (with_reducible exact s0) | (with_reducible exact s2) | (with_reducible exact s3) | (with_reducible exact s4) | fail)
                (first | (go_simp; go_at_call 31; (with_reducible refine (kq _).mono ?_); rintro e w3 ⟨rfl, hb3⟩; have hb3 := (Below.refl w2.heap.size w2).drew.trans hb3; clear x0 x1 x2 x3 t0 t1 t2 t3 r0 r1 r2 r3 rf; have B3 := Lib.hid (B2.out.trans (hb3.mono B2.out.size)); have HX3 := Lib.hid (HX2.out.below hb3); have HT3 := Lib.hid (HT2.out.below hb3); have HR3 := Lib.hid (HR2.out.below hb3); obtain ⟨x0, x1, x2, x3⟩ := HX3.out.four; obtain ⟨t0, t1, t2, t3⟩ := HT3.out.four; obtain ⟨r0, r1, r2, r3⟩ := HR3.out.four; have rf := HR3.out.free; clear hb3; have s2 := HT3.out.four) | (go_simp; go_at_call 30; (with_reducible refine (ki _).mono ?_); rintro e w4 ⟨rfl, hb4⟩; clear x0 x1 x2 x3 t0 t1 t2 t3 r0 r1 r2 r3 rf; have B4 := Lib.hid (B3.out.trans (hb4.mono B3.out.size)); have HX4 := Lib.hid (HX3.out.below hb4); have HT4 := Lib.hid (HT3.out.below hb4); have HR4 := Lib.hid (HR3.out.below hb4); obtain ⟨x0, x1, x2, x3⟩ := HX4.out.four; obtain ⟨t0, t1, t2, t3⟩ := HT4.out.four; obtain ⟨r0, r1, r2, r3⟩ := HR4.out.four; have rf := HR4.out.free; clear hb4; have s3 := HT4.out.four; have s4 := ((((HT4.out.far (p := ⟨W.heap.size + 1 + 1, 0, none⟩) (by simp) (.int .i64 i0)).far (p := ⟨W.heap.size + 1 + 1, 1, none⟩) (by simp) (.int .i64 i1)).far (p := ⟨W.heap.size + 1 + 1, 2, none⟩) (by simp) (.int .i64 i2)).far (p := ⟨W.heap.size + 1 + 1, 3, none⟩) (by simp) (.int .i64 i3)).four) | fail)
              all_goals
                go_wp2_with fail
                refine bodyPost_ret (results_rb rfl _ rfl rfl (HR4.out.set4 _ _ _ _)) rfl ?_
                exact ⟨rfl, below4 B4.out (by omega) _ _ _ _⟩
            · have hq : ¬ bOk a b c d ⟨a2, b2, c2, d2⟩ o ea eb (t : Int) := fun h => h.2.2.2.2.elim g3 g4
              generalize cX a c ea t = px at *
              generalize cY a c b ea eb t = py at *
              by_cases g5 : ea = 0
              · rw [decide_eq_false hq, bandR_n hq]
                subst g5
                clear hp cb hv g3 e0 e1 e2 e3 g4 u0 u1 hq
                go_enter Try.func14, Try.ntmps14
                go_wp2_with (first | (go_at_call 29; (with_reducible refine (kp _).mono ?_); rintro e w1 ⟨rfl, hb1⟩; have hb := (show Below WB.heap.size WB w1 by rw [HWB.out]; exact hb1); clear hb1; have B1 := Lib.hid (B0.out.trans (hb.mono B0.out.size)); have HX1 := Lib.hid (HX0.out.below hb); have HT1 := Lib.hid (HT0.out.below hb); have HR1 := Lib.hid (HR0.out.below hb); obtain ⟨x0, x1, x2, x3⟩ := HX1.out.four; obtain ⟨t0, t1, t2, t3⟩ := HT1.out.four; obtain ⟨r0, r1, r2, r3⟩ := HR1.out.four; have rf := HR1.out.free; clear hb) | (go_at_call 23; (with_reducible refine (kv _).mono ?_); rintro e w2 ⟨rfl, hb2⟩; clear x0 x1 x2 x3 t0 t1 t2 t3 r0 r1 r2 r3 rf; have B2 := Lib.hid (B1.out.trans (hb2.mono B1.out.size)); have HX2 := Lib.hid (HX1.out.below hb2); have HT2 := Lib.hid (HT1.out.below hb2); have HR2 := Lib.hid (HR1.out.below hb2); obtain ⟨x0, x1, x2, x3⟩ := HX2.out.four; obtain ⟨t0, t1, t2, t3⟩ := HT2.out.four; obtain ⟨r0, r1, r2, r3⟩ := HR2.out.four; have rf := HR2.out.free; clear hb2) | fail)
                refine bodyPost_ret (results_rb rfl _ rfl rfl (HR2.out.set4 _ _ _ _)) rfl ?_
                exact ⟨rfl, below4 B2.out (by omega) _ _ _ _⟩
              · have n0 : (ea == 0) = false := by simpa using g5
                obtain rfl : eb = 0 := by omega
                clear hp cb hv g3 e0 e1 e2 e3 g4 g5
                rw [decide_eq_false hq, bandR_n hq]
                clear hq
                go_enter Try.func14, Try.ntmps14
                go_wp2_with (first | (go_at_call 29; (with_reducible refine (kp _).mono ?_); rintro e w1 ⟨rfl, hb1⟩; have hb := (show Below WB.heap.size WB w1 by rw [HWB.out]; exact hb1); clear hb1; have B1 := Lib.hid (B0.out.trans (hb.mono B0.out.size)); have HX1 := Lib.hid (HX0.out.below hb); have HT1 := Lib.hid (HT0.out.below hb); have HR1 := Lib.hid (HR0.out.below hb); obtain ⟨x0, x1, x2, x3⟩ := HX1.out.four; obtain ⟨t0, t1, t2, t3⟩ := HT1.out.four; obtain ⟨r0, r1, r2, r3⟩ := HR1.out.four; have rf := HR1.out.free; clear hb) | (go_at_call 23; (with_reducible refine (kv _).mono ?_); rintro e w2 ⟨rfl, hb2⟩; clear x0 x1 x2 x3 t0 t1 t2 t3 r0 r1 r2 r3 rf; have B2 := Lib.hid (B1.out.trans (hb2.mono B1.out.size)); have HX2 := Lib.hid (HX1.out.below hb2); have HT2 := Lib.hid (HT1.out.below hb2); have HR2 := Lib.hid (HR1.out.below hb2); obtain ⟨x0, x1, x2, x3⟩ := HX2.out.four; obtain ⟨t0, t1, t2, t3⟩ := HT2.out.four; obtain ⟨r0, r1, r2, r3⟩ := HR2.out.four; have rf := HR2.out.free; clear hb2) | fail)
                refine bodyPost_ret (results_rb rfl _ rfl rfl (HR2.out.set4 _ _ _ _)) rfl ?_
                exact ⟨rfl, below4 B2.out (by omega) _ _ _ _⟩
    · have hv' : Pl.validB a2 b2 c2 d2 = false := by simpa using hv
      rw [hv'] at kv
      have hq : ¬ bOk a b c d ⟨a2, b2, c2, d2⟩ o ea eb (t : Int) := fun h => hv h.2.1
      generalize cX a c ea t = px at *
      generalize cY a c b ea eb t = py at *
      rw [decide_eq_false hq, bandR_n hq]
      clear hp cb hv hv'
      clear hq
      go_enter Try.func14, Try.ntmps14
      go_wp2_with (first | (go_at_call 29; (with_reducible refine (kp _).mono ?_); rintro e w1 ⟨rfl, hb1⟩; have hb := (show Below WB.heap.size WB w1 by rw [HWB.out]; exact hb1); clear hb1; have B1 := Lib.hid (B0.out.trans (hb.mono B0.out.size)); have HX1 := Lib.hid (HX0.out.below hb); have HT1 := Lib.hid (HT0.out.below hb); have HR1 := Lib.hid (HR0.out.below hb); obtain ⟨x0, x1, x2, x3⟩ := HX1.out.four; obtain ⟨t0, t1, t2, t3⟩ := HT1.out.four; obtain ⟨r0, r1, r2, r3⟩ := HR1.out.four; have rf := HR1.out.free; clear hb) | (go_at_call 23; (with_reducible refine (kv _).mono ?_); rintro e w2 ⟨rfl, hb2⟩; clear x0 x1 x2 x3 t0 t1 t2 t3 r0 r1 r2 r3 rf; have B2 := Lib.hid (B1.out.trans (hb2.mono B1.out.size)); have HX2 := Lib.hid (HX1.out.below hb2); have HT2 := Lib.hid (HT1.out.below hb2); have HR2 := Lib.hid (HR1.out.below hb2); obtain ⟨x0, x1, x2, x3⟩ := HX2.out.four; obtain ⟨t0, t1, t2, t3⟩ := HT2.out.four; obtain ⟨r0, r1, r2, r3⟩ := HR2.out.four; have rf := HR2.out.free; clear hb2) | fail)
      refine bodyPost_ret (results_rb rfl _ rfl rfl (HR2.out.set4 _ _ _ _)) rfl ?_
      exact ⟨rfl, below4 B2.out (by omega) _ _ _ _⟩
  · have hq : ¬ bOk a b c d ⟨a2, b2, c2, d2⟩ o ea eb idx := fun h => hp h.1
    have kp := fun W1 : World => rplace_n a b c d ea eb idx hp W1
    rw [decide_eq_false hq, bandR_n hq]
    clear hp
    clear hq
    go_enter Try.func14, Try.ntmps14
    go_wp2_with (first | (go_at_call 29; (with_reducible refine (kp _).mono ?_); rintro e w1 ⟨rfl, hb1⟩; have hb := (show Below WB.heap.size WB w1 by rw [HWB.out]; exact hb1); clear hb1; have B1 := Lib.hid (B0.out.trans (hb.mono B0.out.size)); have HX1 := Lib.hid (HX0.out.below hb); have HT1 := Lib.hid (HT0.out.below hb); have HR1 := Lib.hid (HR0.out.below hb); obtain ⟨x0, x1, x2, x3⟩ := HX1.out.four; obtain ⟨t0, t1, t2, t3⟩ := HT1.out.four; obtain ⟨r0, r1, r2, r3⟩ := HR1.out.four; have rf := HR1.out.free; clear hb) | fail)
    refine bodyPost_ret (results_rb rfl _ rfl rfl (HR1.out.set4 _ _ _ _)) rfl ?_
    exact ⟨rfl, below4 B1.out (by omega) _ _ _ _⟩
end Go.Proofs.Ytcdjkofgnelgeaa
