/-
  Layer 22: contracts of the code's Precinct, InBand, Blocks.
-/
import Derived.Test.YtcdjkofgnelgeaaPd
set_option maxRecDepth 100000
namespace Go.Proofs.Ytcdjkofgnelgeaa
open Go.RowKit

/-- What Precinct returns. -/
def precR (a b c d ea eb idx : Int) : Pl.R := if pOk a b c d ea eb idx then Pl.cellN ⟨a, b, c, d⟩ (Pl.fd a (Pl.pw ea)) (Pl.fd b (Pl.pw eb)) (Pl.pw ea) (Pl.pw eb) (Pl.nX a c (Pl.pw ea)) idx.toNat else ⟨0, 0, 0, 0⟩
theorem precR_y {a b c d ea eb : Int} {t : Nat} (h : pOk a b c d ea eb (t : Int)) : precR a b c d ea eb (t : Int) = Pl.part a b c d (Pl.pw ea) (Pl.pw eb) (cX a c ea t) (cY a c b ea eb t) := by
  unfold precR
  rw [if_pos h]
  rfl
theorem precR_n {a b c d ea eb idx : Int} (h : ¬ pOk a b c d ea eb idx) : precR a b c d ea eb idx = ⟨0, 0, 0, 0⟩ := if_neg h
theorem cell_bd {a b c d ea eb : Int} {t : Nat} (h : pOk a b c d ea eb (t : Int)) : (0 ≤ cX a c ea t ∧ cX a c ea t ≤ 4096) ∧ (0 ≤ cY a c b ea eb t ∧ cY a c b ea eb t ≤ 4096) := by
  have g := h.1.grid
  have ht : t < Pl.nX b d (Pl.pw eb) * Pl.nX a c (Pl.pw ea) := by have := h.2.2; rw [Nat.mul_comm]; omega
  obtain ⟨_, i0, i1, j0, j1⟩ := g.at ht
  have := g.ax.lo
  have := g.ax.hi
  have := g.ay.lo
  have := g.ay.hi
  unfold cX cY
  omega
set_option maxHeartbeats 2000000 in
theorem precinct_c (a b c d ea eb idx : Int) (W : World) : Calls Try.prog 10 #[.agg #[.int .i64 a, .int .i64 b, .int .i64 c, .int .i64 d], .int .i64 ea, .int .i64 eb, .int .i64 idx] W fun e w' => e = .returned (.tuple #[.agg #[.int .i64 ((precR a b c d ea eb idx)).x0, .int .i64 ((precR a b c d ea eb idx)).y0, .int .i64 ((precR a b c d ea eb idx)).x1, .int .i64 ((precR a b c d ea eb idx)).y1], .bool (decide (pOk a b c d ea eb idx))]) ∧ Below W.heap.size W w' := by
  obtain ⟨WB, hWB⟩ : ∃ ww, ww = ((W.alloc (.cells #[.int .i64 a, .int .i64 b, .int .i64 c, .int .i64 d] 23)).alloc (.cells #[.int .i64 0, .int .i64 0, .int .i64 0, .int .i64 0] 23)) := ⟨_, rfl⟩
  have hb0 : Below W.heap.size W WB := by rw [hWB]; exact (below_alloc (below_alloc (Below.refl _ W) (Nat.le_refl _) _) (by simp <;> omega) _)
  have B0 := Lib.hid hb0
  have hX : Blk WB (W.heap.size) 23 #[.int .i64 a, .int .i64 b, .int .i64 c, .int .i64 d] := by
    have := Blk.new (W) 23 #[.int .i64 a, .int .i64 b, .int .i64 c, .int .i64 d]
    rw [hWB]
    exact ((show Blk _ (W.heap.size) _ _ by simpa using this)).alloc _
  have HX0 := Lib.hid hX
  have hR : Blk WB (W.heap.size + 1) 23 #[.int .i64 0, .int .i64 0, .int .i64 0, .int .i64 0] := by
    have := Blk.new ((W.alloc (.cells #[.int .i64 a, .int .i64 b, .int .i64 c, .int .i64 d] 23))) 23 #[.int .i64 0, .int .i64 0, .int .i64 0, .int .i64 0]
    rw [hWB]
    exact (show Blk _ (W.heap.size + 1) _ _ by simpa using this)
  have HR0 := Lib.hid hR
  have HWB := Lib.hid hWB
  clear hb0 hWB hX hR
  by_cases hp : pOk a b c d ea eb idx
  · rw [decide_eq_true hp]
    obtain ⟨t, rfl⟩ : ∃ t : Nat, idx = (t : Int) := ⟨idx.toNat, by have := hp.2.1; omega⟩
    have kp := fun W1 : World => place_y a b c d ea eb t hp W1
    have cb := cell_bd hp
    have ki := fun W1 : World => incell_c a b c d _ _ ea eb cb.1 cb.2 ⟨hp.1.2.2.1, hp.1.2.2.2.1⟩ ⟨hp.1.2.2.2.2.1, hp.1.2.2.2.2.2.1⟩ W1
    rw [precR_y hp]
    clear hp cb
    generalize Pl.part a b c d (Pl.pw ea) (Pl.pw eb) (cX a c ea t) (cY a c b ea eb t) = PP at *
    obtain ⟨i0, i1, i2, i3⟩ := PP
    dsimp only at ki ⊢
    generalize cX a c ea t = px at *
    generalize cY a c b ea eb t = py at *
    go_enter Try.func10, Try.ntmps10
    go_wp2_with (first | (go_at_call 27; (with_reducible refine (kp _).mono ?_); rintro e w1 ⟨rfl, hb1⟩; have hb := (show Below WB.heap.size WB w1 by rw [HWB.out]; exact hb1); clear hb1; have B1 := Lib.hid (B0.out.trans (hb.mono B0.out.size)); have HX1 := Lib.hid (HX0.out.below hb); have HR1 := Lib.hid (HR0.out.below hb); obtain ⟨x0, x1, x2, x3⟩ := HX1.out.four; obtain ⟨r0, r1, r2, r3⟩ := HR1.out.four; have rf := HR1.out.free; clear hb; clear x0 x1 x2 x3 r0 r1 r2 r3 rf; have B2 := Lib.hid (below_alloc B1.out B1.out.size (.cells #[.int .i64 px, .int .i64 py] 49)); have HX2 := Lib.hid (HX1.out.alloc (.cells #[.int .i64 px, .int .i64 py] 49)); have HR2 := Lib.hid (HR1.out.alloc (.cells #[.int .i64 px, .int .i64 py] 49)); have HV2 := Lib.hid (Blk.new w1 49 #[.int .i64 px, .int .i64 py]); obtain ⟨x0, x1, x2, x3⟩ := HX2.out.four; obtain ⟨r0, r1, r2, r3⟩ := HR2.out.four; have rf := HR2.out.free; obtain ⟨v0, v1⟩ := HV2.out.two) | (go_at_call 28; (with_reducible refine (ki _).mono ?_); rintro e w3 ⟨rfl, hb3⟩; clear x0 x1 x2 x3 r0 r1 r2 r3 rf v0 v1; have B3 := Lib.hid (B2.out.trans (hb3.mono B2.out.size)); have HX3 := Lib.hid (HX2.out.below hb3); have HR3 := Lib.hid (HR2.out.below hb3); have HV3 := Lib.hid (HV2.out.below hb3); obtain ⟨x0, x1, x2, x3⟩ := HX3.out.four; obtain ⟨r0, r1, r2, r3⟩ := HR3.out.four; have rf := HR3.out.free; obtain ⟨v0, v1⟩ := HV3.out.two; clear hb3) | fail)
    refine bodyPost_ret (results_rb rfl _ rfl rfl (HR3.out.set4 _ _ _ _)) rfl ?_
    exact ⟨rfl, below4 B3.out (by omega) _ _ _ _⟩
  · rw [decide_eq_false hp]
    have kp := fun W1 : World => place_n a b c d ea eb idx hp W1
    rw [precR_n hp]
    clear hp
    go_enter Try.func10, Try.ntmps10
    go_wp2_with (first | (go_at_call 27; (with_reducible refine (kp _).mono ?_); rintro e w1 ⟨rfl, hb1⟩; have hb := (show Below WB.heap.size WB w1 by rw [HWB.out]; exact hb1); clear hb1; have B1 := Lib.hid (B0.out.trans (hb.mono B0.out.size)); have HX1 := Lib.hid (HX0.out.below hb); have HR1 := Lib.hid (HR0.out.below hb); obtain ⟨x0, x1, x2, x3⟩ := HX1.out.four; obtain ⟨r0, r1, r2, r3⟩ := HR1.out.four; have rf := HR1.out.free; clear hb; clear x0 x1 x2 x3 r0 r1 r2 r3 rf; have B2 := Lib.hid (below_alloc B1.out B1.out.size (.cells #[.int .i64 0, .int .i64 0] 49)); have HX2 := Lib.hid (HX1.out.alloc (.cells #[.int .i64 0, .int .i64 0] 49)); have HR2 := Lib.hid (HR1.out.alloc (.cells #[.int .i64 0, .int .i64 0] 49)); have HV2 := Lib.hid (Blk.new w1 49 #[.int .i64 0, .int .i64 0]); obtain ⟨x0, x1, x2, x3⟩ := HX2.out.four; obtain ⟨r0, r1, r2, r3⟩ := HR2.out.four; have rf := HR2.out.free; obtain ⟨v0, v1⟩ := HV2.out.two) | fail)
    refine bodyPost_ret (results_rb rfl _ rfl rfl (HR2.out.set4 _ _ _ _)) rfl ?_
    exact ⟨rfl, below4 B2.out (by omega) _ _ _ _⟩
/-- What InBand returns: when there is a part. -/
def bOk (a b c d : Int) (r : Pl.R) (o ea eb idx : Int) : Prop := pOk a b c d ea eb idx ∧ Pl.validB r.x0 r.y0 r.x1 r.y1 = true ∧ 0 ≤ o ∧ o ≤ 3 ∧ (o = 0 ∨ (1 ≤ ea ∧ 1 ≤ eb))
instance (a b c d : Int) (r : Pl.R) (o ea eb idx : Int) : Decidable (bOk a b c d r o ea eb idx) := by unfold bOk; infer_instance
/-- The exponent for an orientation. -/
def oE (o e : Int) : Int := if o = 0 then e else e - 1
def bandR (a b c d : Int) (r : Pl.R) (o ea eb idx : Int) : Pl.R := if bOk a b c d r o ea eb idx then Pl.cellN r (Pl.fd a (Pl.pw ea)) (Pl.fd b (Pl.pw eb)) (Pl.pw (oE o ea)) (Pl.pw (oE o eb)) (Pl.nX a c (Pl.pw ea)) idx.toNat else ⟨0, 0, 0, 0⟩
theorem bandR_y {a b c d o ea eb : Int} {r : Pl.R} {t : Nat} (h : bOk a b c d r o ea eb (t : Int)) : bandR a b c d r o ea eb (t : Int) = Pl.part r.x0 r.y0 r.x1 r.y1 (Pl.pw (oE o ea)) (Pl.pw (oE o eb)) (cX a c ea t) (cY a c b ea eb t) := by
  unfold bandR
  rw [if_pos h]
  rfl
theorem bandR_n {a b c d o ea eb idx : Int} {r : Pl.R} (h : ¬ bOk a b c d r o ea eb idx) : bandR a b c d r o ea eb idx = ⟨0, 0, 0, 0⟩ := if_neg h
set_option maxHeartbeats 4000000 in
theorem inband_c (a b c d a2 b2 c2 d2 o ea eb idx : Int) (W : World) : Calls Try.prog 13 #[.agg #[.int .i64 a, .int .i64 b, .int .i64 c, .int .i64 d], .agg #[.int .i64 a2, .int .i64 b2, .int .i64 c2, .int .i64 d2], .int .i64 o, .int .i64 ea, .int .i64 eb, .int .i64 idx] W fun e w' => e = .returned (.tuple #[.agg #[.int .i64 ((bandR a b c d ⟨a2, b2, c2, d2⟩ o ea eb idx)).x0, .int .i64 ((bandR a b c d ⟨a2, b2, c2, d2⟩ o ea eb idx)).y0, .int .i64 ((bandR a b c d ⟨a2, b2, c2, d2⟩ o ea eb idx)).x1, .int .i64 ((bandR a b c d ⟨a2, b2, c2, d2⟩ o ea eb idx)).y1], .bool (decide (bOk a b c d ⟨a2, b2, c2, d2⟩ o ea eb idx))]) ∧ Below W.heap.size W w' := by
  obtain ⟨WB, hWB⟩ : ∃ ww, ww = (((W.alloc (.cells #[.int .i64 a, .int .i64 b, .int .i64 c, .int .i64 d] 23)).alloc (.cells #[.int .i64 a2, .int .i64 b2, .int .i64 c2, .int .i64 d2] 23)).alloc (.cells #[.int .i64 0, .int .i64 0, .int .i64 0, .int .i64 0] 23)) := ⟨_, rfl⟩
  have hb0 : Below W.heap.size W WB := by rw [hWB]; exact (below_alloc (below_alloc (below_alloc (Below.refl _ W) (Nat.le_refl _) _) (by simp <;> omega) _) (by simp <;> omega) _)
  have B0 := Lib.hid hb0
  have hX : Blk WB (W.heap.size) 23 #[.int .i64 a, .int .i64 b, .int .i64 c, .int .i64 d] := by
    have := Blk.new (W) 23 #[.int .i64 a, .int .i64 b, .int .i64 c, .int .i64 d]
    rw [hWB]
    exact (((show Blk _ (W.heap.size) _ _ by simpa using this)).alloc _).alloc _
  have HX0 := Lib.hid hX
  have hS : Blk WB (W.heap.size + 1) 23 #[.int .i64 a2, .int .i64 b2, .int .i64 c2, .int .i64 d2] := by
    have := Blk.new ((W.alloc (.cells #[.int .i64 a, .int .i64 b, .int .i64 c, .int .i64 d] 23))) 23 #[.int .i64 a2, .int .i64 b2, .int .i64 c2, .int .i64 d2]
    rw [hWB]
    exact ((show Blk _ (W.heap.size + 1) _ _ by simpa using this)).alloc _
  have HS0 := Lib.hid hS
  have hR : Blk WB (W.heap.size + 2) 23 #[.int .i64 0, .int .i64 0, .int .i64 0, .int .i64 0] := by
    have := Blk.new (((W.alloc (.cells #[.int .i64 a, .int .i64 b, .int .i64 c, .int .i64 d] 23)).alloc (.cells #[.int .i64 a2, .int .i64 b2, .int .i64 c2, .int .i64 d2] 23))) 23 #[.int .i64 0, .int .i64 0, .int .i64 0, .int .i64 0]
    rw [hWB]
    exact (show Blk _ (W.heap.size + 2) _ _ by simpa using this)
  have HR0 := Lib.hid hR
  have HWB := Lib.hid hWB
  clear hb0 hWB hX hS hR
  have kv := fun W1 : World => valid_c a2 b2 c2 d2 W1
  by_cases hp : pOk a b c d ea eb idx
  · obtain ⟨t, rfl⟩ : ∃ t : Nat, idx = (t : Int) := ⟨idx.toNat, by have := hp.2.1; omega⟩
    have kp := fun W1 : World => place_y a b c d ea eb t hp W1
    have cb := cell_bd hp
    by_cases hv : Pl.validB a2 b2 c2 d2 = true
    · rw [hv] at kv
      by_cases g1 : o < 0
      · have hq : ¬ bOk a b c d ⟨a2, b2, c2, d2⟩ o ea eb (t : Int) := fun h => by have := h.2.2.1; omega
        generalize cX a c ea t = px at *
        generalize cY a c b ea eb t = py at *
        rw [decide_eq_false hq, bandR_n hq]
        clear hp cb hv
        clear hq
        go_enter Try.func13, Try.ntmps13
        go_wp2_with (first | (go_at_call 27; (with_reducible refine (kp _).mono ?_); rintro e w1 ⟨rfl, hb1⟩; have hb := (show Below WB.heap.size WB w1 by rw [HWB.out]; exact hb1); clear hb1; have B1 := Lib.hid (B0.out.trans (hb.mono B0.out.size)); have HX1 := Lib.hid (HX0.out.below hb); have HS1 := Lib.hid (HS0.out.below hb); have HR1 := Lib.hid (HR0.out.below hb); obtain ⟨x0, x1, x2, x3⟩ := HX1.out.four; obtain ⟨s0, s1, s2, s3⟩ := HS1.out.four; obtain ⟨r0, r1, r2, r3⟩ := HR1.out.four; have rf := HR1.out.free; clear hb; clear x0 x1 x2 x3 s0 s1 s2 s3 r0 r1 r2 r3 rf; have B2 := Lib.hid (below_alloc B1.out B1.out.size (.cells #[.int .i64 px, .int .i64 py] 49)); have HX2 := Lib.hid (HX1.out.alloc (.cells #[.int .i64 px, .int .i64 py] 49)); have HS2 := Lib.hid (HS1.out.alloc (.cells #[.int .i64 px, .int .i64 py] 49)); have HR2 := Lib.hid (HR1.out.alloc (.cells #[.int .i64 px, .int .i64 py] 49)); have HV2 := Lib.hid (Blk.new w1 49 #[.int .i64 px, .int .i64 py]); obtain ⟨x0, x1, x2, x3⟩ := HX2.out.four; obtain ⟨s0, s1, s2, s3⟩ := HS2.out.four; obtain ⟨r0, r1, r2, r3⟩ := HR2.out.four; have rf := HR2.out.free; obtain ⟨v0, v1⟩ := HV2.out.two) | (go_at_call 32; (with_reducible refine (kv _).mono ?_); rintro e w3 ⟨rfl, hb3⟩; clear x0 x1 x2 x3 s0 s1 s2 s3 r0 r1 r2 r3 rf v0 v1; have B3 := Lib.hid (B2.out.trans (hb3.mono B2.out.size)); have HX3 := Lib.hid (HX2.out.below hb3); have HS3 := Lib.hid (HS2.out.below hb3); have HR3 := Lib.hid (HR2.out.below hb3); have HV3 := Lib.hid (HV2.out.below hb3); obtain ⟨x0, x1, x2, x3⟩ := HX3.out.four; obtain ⟨s0, s1, s2, s3⟩ := HS3.out.four; obtain ⟨r0, r1, r2, r3⟩ := HR3.out.four; have rf := HR3.out.free; obtain ⟨v0, v1⟩ := HV3.out.two; clear hb3) | fail)
        refine bodyPost_ret (results_rb rfl _ rfl rfl (HR3.out.set4 _ _ _ _)) rfl ?_
        exact ⟨rfl, below4 B3.out (by omega) _ _ _ _⟩
      · by_cases g2 : 3 < o
        · have hq : ¬ bOk a b c d ⟨a2, b2, c2, d2⟩ o ea eb (t : Int) := fun h => by have := h.2.2.2.1; omega
          generalize cX a c ea t = px at *
          generalize cY a c b ea eb t = py at *
          rw [decide_eq_false hq, bandR_n hq]
          clear hp cb hv
          clear hq
          go_enter Try.func13, Try.ntmps13
          go_wp2_with (first | (go_at_call 27; (with_reducible refine (kp _).mono ?_); rintro e w1 ⟨rfl, hb1⟩; have hb := (show Below WB.heap.size WB w1 by rw [HWB.out]; exact hb1); clear hb1; have B1 := Lib.hid (B0.out.trans (hb.mono B0.out.size)); have HX1 := Lib.hid (HX0.out.below hb); have HS1 := Lib.hid (HS0.out.below hb); have HR1 := Lib.hid (HR0.out.below hb); obtain ⟨x0, x1, x2, x3⟩ := HX1.out.four; obtain ⟨s0, s1, s2, s3⟩ := HS1.out.four; obtain ⟨r0, r1, r2, r3⟩ := HR1.out.four; have rf := HR1.out.free; clear hb; clear x0 x1 x2 x3 s0 s1 s2 s3 r0 r1 r2 r3 rf; have B2 := Lib.hid (below_alloc B1.out B1.out.size (.cells #[.int .i64 px, .int .i64 py] 49)); have HX2 := Lib.hid (HX1.out.alloc (.cells #[.int .i64 px, .int .i64 py] 49)); have HS2 := Lib.hid (HS1.out.alloc (.cells #[.int .i64 px, .int .i64 py] 49)); have HR2 := Lib.hid (HR1.out.alloc (.cells #[.int .i64 px, .int .i64 py] 49)); have HV2 := Lib.hid (Blk.new w1 49 #[.int .i64 px, .int .i64 py]); obtain ⟨x0, x1, x2, x3⟩ := HX2.out.four; obtain ⟨s0, s1, s2, s3⟩ := HS2.out.four; obtain ⟨r0, r1, r2, r3⟩ := HR2.out.four; have rf := HR2.out.free; obtain ⟨v0, v1⟩ := HV2.out.two) | (go_at_call 32; (with_reducible refine (kv _).mono ?_); rintro e w3 ⟨rfl, hb3⟩; clear x0 x1 x2 x3 s0 s1 s2 s3 r0 r1 r2 r3 rf v0 v1; have B3 := Lib.hid (B2.out.trans (hb3.mono B2.out.size)); have HX3 := Lib.hid (HX2.out.below hb3); have HS3 := Lib.hid (HS2.out.below hb3); have HR3 := Lib.hid (HR2.out.below hb3); have HV3 := Lib.hid (HV2.out.below hb3); obtain ⟨x0, x1, x2, x3⟩ := HX3.out.four; obtain ⟨s0, s1, s2, s3⟩ := HS3.out.four; obtain ⟨r0, r1, r2, r3⟩ := HR3.out.four; have rf := HR3.out.free; obtain ⟨v0, v1⟩ := HV3.out.two; clear hb3) | fail)
          refine bodyPost_ret (results_rb rfl _ rfl rfl (HR3.out.set4 _ _ _ _)) rfl ?_
          exact ⟨rfl, below4 B3.out (by omega) _ _ _ _⟩
        · by_cases g3 : o = 0
          · have hq : bOk a b c d ⟨a2, b2, c2, d2⟩ o ea eb (t : Int) := ⟨hp, hv, by omega, by omega, .inl g3⟩
            subst g3
            have ki := fun W1 : World => incell_c a2 b2 c2 d2 _ _ ea eb cb.1 cb.2 ⟨hp.1.2.2.1, hp.1.2.2.2.1⟩ ⟨hp.1.2.2.2.2.1, hp.1.2.2.2.2.2.1⟩ W1
            have e0 := hp.1.2.2.1
            have e1 := hp.1.2.2.2.2.1
            have n0 : ¬ (ea < 0) := by omega
            have n1 : ¬ (eb < 0) := by omega
            rw [decide_eq_true hq, bandR_y hq]
            rw [show oE 0 ea = ea from if_pos rfl, show oE 0 eb = eb from if_pos rfl]
            dsimp only
            clear hq hp cb hv g1 g2 e0 e1
            generalize Pl.part a2 b2 c2 d2 (Pl.pw ea) (Pl.pw eb) (cX a c ea t) (cY a c b ea eb t) = PP at *
            obtain ⟨i0, i1, i2, i3⟩ := PP
            dsimp only at ki ⊢
            generalize cX a c ea t = px at *
            generalize cY a c b ea eb t = py at *
            go_enter Try.func13, Try.ntmps13
            go_wp2_with (first | (go_at_call 27; (with_reducible refine (kp _).mono ?_); rintro e w1 ⟨rfl, hb1⟩; have hb := (show Below WB.heap.size WB w1 by rw [HWB.out]; exact hb1); clear hb1; have B1 := Lib.hid (B0.out.trans (hb.mono B0.out.size)); have HX1 := Lib.hid (HX0.out.below hb); have HS1 := Lib.hid (HS0.out.below hb); have HR1 := Lib.hid (HR0.out.below hb); obtain ⟨x0, x1, x2, x3⟩ := HX1.out.four; obtain ⟨s0, s1, s2, s3⟩ := HS1.out.four; obtain ⟨r0, r1, r2, r3⟩ := HR1.out.four; have rf := HR1.out.free; clear hb; clear x0 x1 x2 x3 s0 s1 s2 s3 r0 r1 r2 r3 rf; have B2 := Lib.hid (below_alloc B1.out B1.out.size (.cells #[.int .i64 px, .int .i64 py] 49)); have HX2 := Lib.hid (HX1.out.alloc (.cells #[.int .i64 px, .int .i64 py] 49)); have HS2 := Lib.hid (HS1.out.alloc (.cells #[.int .i64 px, .int .i64 py] 49)); have HR2 := Lib.hid (HR1.out.alloc (.cells #[.int .i64 px, .int .i64 py] 49)); have HV2 := Lib.hid (Blk.new w1 49 #[.int .i64 px, .int .i64 py]); obtain ⟨x0, x1, x2, x3⟩ := HX2.out.four; obtain ⟨s0, s1, s2, s3⟩ := HS2.out.four; obtain ⟨r0, r1, r2, r3⟩ := HR2.out.four; have rf := HR2.out.free; obtain ⟨v0, v1⟩ := HV2.out.two) | (go_at_call 32; (with_reducible refine (kv _).mono ?_); rintro e w3 ⟨rfl, hb3⟩; clear x0 x1 x2 x3 s0 s1 s2 s3 r0 r1 r2 r3 rf v0 v1; have B3 := Lib.hid (B2.out.trans (hb3.mono B2.out.size)); have HX3 := Lib.hid (HX2.out.below hb3); have HS3 := Lib.hid (HS2.out.below hb3); have HR3 := Lib.hid (HR2.out.below hb3); have HV3 := Lib.hid (HV2.out.below hb3); obtain ⟨x0, x1, x2, x3⟩ := HX3.out.four; obtain ⟨s0, s1, s2, s3⟩ := HS3.out.four; obtain ⟨r0, r1, r2, r3⟩ := HR3.out.four; have rf := HR3.out.free; obtain ⟨v0, v1⟩ := HV3.out.two; clear hb3) | (go_at_call 28; (with_reducible refine (ki _).mono ?_); rintro e w4 ⟨rfl, hb4⟩; clear x0 x1 x2 x3 s0 s1 s2 s3 r0 r1 r2 r3 rf v0 v1; have B4 := Lib.hid (B3.out.trans (hb4.mono B3.out.size)); have HX4 := Lib.hid (HX3.out.below hb4); have HS4 := Lib.hid (HS3.out.below hb4); have HR4 := Lib.hid (HR3.out.below hb4); have HV4 := Lib.hid (HV3.out.below hb4); obtain ⟨x0, x1, x2, x3⟩ := HX4.out.four; obtain ⟨s0, s1, s2, s3⟩ := HS4.out.four; obtain ⟨r0, r1, r2, r3⟩ := HR4.out.four; have rf := HR4.out.free; obtain ⟨v0, v1⟩ := HV4.out.two; clear hb4) | fail)
            refine bodyPost_ret (results_rb rfl _ rfl rfl (HR4.out.set4 _ _ _ _)) rfl ?_
            exact ⟨rfl, below4 B4.out (by omega) _ _ _ _⟩
          · have e0 := hp.1.2.2.1
            have e1 := hp.1.2.2.2.2.1
            have e2 := hp.1.2.2.2.1
            have e3 := hp.1.2.2.2.2.2.1
            have u0 : IntKind.i64.wrap (ea - 1) = ea - 1 := by rw [IntWalk.i64_left]; unfold wrap64; omega
            have u1 : IntKind.i64.wrap (eb - 1) = eb - 1 := by rw [IntWalk.i64_left]; unfold wrap64; omega
            have t3 : (o != 0) = true := by simpa using g3
            have t4 : (o == 0) = false := by simpa using g3
            by_cases g4 : 1 ≤ ea ∧ 1 ≤ eb
            · have hq : bOk a b c d ⟨a2, b2, c2, d2⟩ o ea eb (t : Int) := ⟨hp, hv, by omega, by omega, .inr g4⟩
              have ki := fun W1 : World => incell_c a2 b2 c2 d2 _ _ (ea - 1) (eb - 1) cb.1 cb.2 ⟨by omega, by omega⟩ ⟨by omega, by omega⟩ W1
              rw [decide_eq_true hq, bandR_y hq]
              rw [show oE o ea = ea - 1 from if_neg g3, show oE o eb = eb - 1 from if_neg g3]
              dsimp only
              have n0 : ¬ (ea - 1 < 0) := by omega
              have n1 : ¬ (eb - 1 < 0) := by omega
              clear hq hp cb hv g3 e0 e1 e2 e3 g4
              generalize Pl.part a2 b2 c2 d2 (Pl.pw (ea - 1)) (Pl.pw (eb - 1)) (cX a c ea t) (cY a c b ea eb t) = PP at *
              obtain ⟨i0, i1, i2, i3⟩ := PP
              dsimp only at ki ⊢
              generalize cX a c ea t = px at *
              generalize cY a c b ea eb t = py at *
              generalize hE : ea - 1 = ea1 at *
              generalize hF : eb - 1 = eb1 at *
              have u2 : IntKind.i64.wrap (ea - 1) = ea1 := by rw [hE]; exact u0
              have u3 : IntKind.i64.wrap (eb - 1) = eb1 := by rw [hF]; exact u1
              clear hE hF u0 u1
              go_enter Try.func13, Try.ntmps13
              go_wp2_with (first | (go_at_call 27; (with_reducible refine (kp _).mono ?_); rintro e w1 ⟨rfl, hb1⟩; have hb := (show Below WB.heap.size WB w1 by rw [HWB.out]; exact hb1); clear hb1; have B1 := Lib.hid (B0.out.trans (hb.mono B0.out.size)); have HX1 := Lib.hid (HX0.out.below hb); have HS1 := Lib.hid (HS0.out.below hb); have HR1 := Lib.hid (HR0.out.below hb); obtain ⟨x0, x1, x2, x3⟩ := HX1.out.four; obtain ⟨s0, s1, s2, s3⟩ := HS1.out.four; obtain ⟨r0, r1, r2, r3⟩ := HR1.out.four; have rf := HR1.out.free; clear hb; clear x0 x1 x2 x3 s0 s1 s2 s3 r0 r1 r2 r3 rf; have B2 := Lib.hid (below_alloc B1.out B1.out.size (.cells #[.int .i64 px, .int .i64 py] 49)); have HX2 := Lib.hid (HX1.out.alloc (.cells #[.int .i64 px, .int .i64 py] 49)); have HS2 := Lib.hid (HS1.out.alloc (.cells #[.int .i64 px, .int .i64 py] 49)); have HR2 := Lib.hid (HR1.out.alloc (.cells #[.int .i64 px, .int .i64 py] 49)); have HV2 := Lib.hid (Blk.new w1 49 #[.int .i64 px, .int .i64 py]); obtain ⟨x0, x1, x2, x3⟩ := HX2.out.four; obtain ⟨s0, s1, s2, s3⟩ := HS2.out.four; obtain ⟨r0, r1, r2, r3⟩ := HR2.out.four; have rf := HR2.out.free; obtain ⟨v0, v1⟩ := HV2.out.two) | (go_at_call 32; (with_reducible refine (kv _).mono ?_); rintro e w3 ⟨rfl, hb3⟩; clear x0 x1 x2 x3 s0 s1 s2 s3 r0 r1 r2 r3 rf v0 v1; have B3 := Lib.hid (B2.out.trans (hb3.mono B2.out.size)); have HX3 := Lib.hid (HX2.out.below hb3); have HS3 := Lib.hid (HS2.out.below hb3); have HR3 := Lib.hid (HR2.out.below hb3); have HV3 := Lib.hid (HV2.out.below hb3); obtain ⟨x0, x1, x2, x3⟩ := HX3.out.four; obtain ⟨s0, s1, s2, s3⟩ := HS3.out.four; obtain ⟨r0, r1, r2, r3⟩ := HR3.out.four; have rf := HR3.out.free; obtain ⟨v0, v1⟩ := HV3.out.two; clear hb3) | (go_at_call 28; (with_reducible refine (ki _).mono ?_); rintro e w4 ⟨rfl, hb4⟩; clear x0 x1 x2 x3 s0 s1 s2 s3 r0 r1 r2 r3 rf v0 v1; have B4 := Lib.hid (B3.out.trans (hb4.mono B3.out.size)); have HX4 := Lib.hid (HX3.out.below hb4); have HS4 := Lib.hid (HS3.out.below hb4); have HR4 := Lib.hid (HR3.out.below hb4); have HV4 := Lib.hid (HV3.out.below hb4); obtain ⟨x0, x1, x2, x3⟩ := HX4.out.four; obtain ⟨s0, s1, s2, s3⟩ := HS4.out.four; obtain ⟨r0, r1, r2, r3⟩ := HR4.out.four; have rf := HR4.out.free; obtain ⟨v0, v1⟩ := HV4.out.two; clear hb4) | fail)
              refine bodyPost_ret (results_rb rfl _ rfl rfl (HR4.out.set4 _ _ _ _)) rfl ?_
              exact ⟨rfl, below4 B4.out (by omega) _ _ _ _⟩
            · have hq : ¬ bOk a b c d ⟨a2, b2, c2, d2⟩ o ea eb (t : Int) := fun h => h.2.2.2.2.elim g3 g4
              generalize cX a c ea t = px at *
              generalize cY a c b ea eb t = py at *
              by_cases g5 : ea < 1
              · have n0 : ea - 1 < 0 := by omega
                clear hp cb hv g3 e0 e1 e2 e3 g4 g5
                generalize hE : ea - 1 = ea1 at *
                generalize hF : eb - 1 = eb1 at *
                have u2 : IntKind.i64.wrap (ea - 1) = ea1 := by rw [hE]; exact u0
                have u3 : IntKind.i64.wrap (eb - 1) = eb1 := by rw [hF]; exact u1
                clear hE hF u0 u1
                rw [decide_eq_false hq, bandR_n hq]
                clear hq
                go_enter Try.func13, Try.ntmps13
                go_wp2_with (first | (go_at_call 27; (with_reducible refine (kp _).mono ?_); rintro e w1 ⟨rfl, hb1⟩; have hb := (show Below WB.heap.size WB w1 by rw [HWB.out]; exact hb1); clear hb1; have B1 := Lib.hid (B0.out.trans (hb.mono B0.out.size)); have HX1 := Lib.hid (HX0.out.below hb); have HS1 := Lib.hid (HS0.out.below hb); have HR1 := Lib.hid (HR0.out.below hb); obtain ⟨x0, x1, x2, x3⟩ := HX1.out.four; obtain ⟨s0, s1, s2, s3⟩ := HS1.out.four; obtain ⟨r0, r1, r2, r3⟩ := HR1.out.four; have rf := HR1.out.free; clear hb; clear x0 x1 x2 x3 s0 s1 s2 s3 r0 r1 r2 r3 rf; have B2 := Lib.hid (below_alloc B1.out B1.out.size (.cells #[.int .i64 px, .int .i64 py] 49)); have HX2 := Lib.hid (HX1.out.alloc (.cells #[.int .i64 px, .int .i64 py] 49)); have HS2 := Lib.hid (HS1.out.alloc (.cells #[.int .i64 px, .int .i64 py] 49)); have HR2 := Lib.hid (HR1.out.alloc (.cells #[.int .i64 px, .int .i64 py] 49)); have HV2 := Lib.hid (Blk.new w1 49 #[.int .i64 px, .int .i64 py]); obtain ⟨x0, x1, x2, x3⟩ := HX2.out.four; obtain ⟨s0, s1, s2, s3⟩ := HS2.out.four; obtain ⟨r0, r1, r2, r3⟩ := HR2.out.four; have rf := HR2.out.free; obtain ⟨v0, v1⟩ := HV2.out.two) | (go_at_call 32; (with_reducible refine (kv _).mono ?_); rintro e w3 ⟨rfl, hb3⟩; clear x0 x1 x2 x3 s0 s1 s2 s3 r0 r1 r2 r3 rf v0 v1; have B3 := Lib.hid (B2.out.trans (hb3.mono B2.out.size)); have HX3 := Lib.hid (HX2.out.below hb3); have HS3 := Lib.hid (HS2.out.below hb3); have HR3 := Lib.hid (HR2.out.below hb3); have HV3 := Lib.hid (HV2.out.below hb3); obtain ⟨x0, x1, x2, x3⟩ := HX3.out.four; obtain ⟨s0, s1, s2, s3⟩ := HS3.out.four; obtain ⟨r0, r1, r2, r3⟩ := HR3.out.four; have rf := HR3.out.free; obtain ⟨v0, v1⟩ := HV3.out.two; clear hb3) | fail)
                refine bodyPost_ret (results_rb rfl _ rfl rfl (HR3.out.set4 _ _ _ _)) rfl ?_
                exact ⟨rfl, below4 B3.out (by omega) _ _ _ _⟩
              · have n0 : ¬ (ea - 1 < 0) := by omega
                have n1 : eb - 1 < 0 := by omega
                clear hp cb hv g3 e0 e1 e2 e3 g4 g5
                generalize hE : ea - 1 = ea1 at *
                generalize hF : eb - 1 = eb1 at *
                have u2 : IntKind.i64.wrap (ea - 1) = ea1 := by rw [hE]; exact u0
                have u3 : IntKind.i64.wrap (eb - 1) = eb1 := by rw [hF]; exact u1
                clear hE hF u0 u1
                rw [decide_eq_false hq, bandR_n hq]
                clear hq
                go_enter Try.func13, Try.ntmps13
                go_wp2_with (first | (go_at_call 27; (with_reducible refine (kp _).mono ?_); rintro e w1 ⟨rfl, hb1⟩; have hb := (show Below WB.heap.size WB w1 by rw [HWB.out]; exact hb1); clear hb1; have B1 := Lib.hid (B0.out.trans (hb.mono B0.out.size)); have HX1 := Lib.hid (HX0.out.below hb); have HS1 := Lib.hid (HS0.out.below hb); have HR1 := Lib.hid (HR0.out.below hb); obtain ⟨x0, x1, x2, x3⟩ := HX1.out.four; obtain ⟨s0, s1, s2, s3⟩ := HS1.out.four; obtain ⟨r0, r1, r2, r3⟩ := HR1.out.four; have rf := HR1.out.free; clear hb; clear x0 x1 x2 x3 s0 s1 s2 s3 r0 r1 r2 r3 rf; have B2 := Lib.hid (below_alloc B1.out B1.out.size (.cells #[.int .i64 px, .int .i64 py] 49)); have HX2 := Lib.hid (HX1.out.alloc (.cells #[.int .i64 px, .int .i64 py] 49)); have HS2 := Lib.hid (HS1.out.alloc (.cells #[.int .i64 px, .int .i64 py] 49)); have HR2 := Lib.hid (HR1.out.alloc (.cells #[.int .i64 px, .int .i64 py] 49)); have HV2 := Lib.hid (Blk.new w1 49 #[.int .i64 px, .int .i64 py]); obtain ⟨x0, x1, x2, x3⟩ := HX2.out.four; obtain ⟨s0, s1, s2, s3⟩ := HS2.out.four; obtain ⟨r0, r1, r2, r3⟩ := HR2.out.four; have rf := HR2.out.free; obtain ⟨v0, v1⟩ := HV2.out.two) | (go_at_call 32; (with_reducible refine (kv _).mono ?_); rintro e w3 ⟨rfl, hb3⟩; clear x0 x1 x2 x3 s0 s1 s2 s3 r0 r1 r2 r3 rf v0 v1; have B3 := Lib.hid (B2.out.trans (hb3.mono B2.out.size)); have HX3 := Lib.hid (HX2.out.below hb3); have HS3 := Lib.hid (HS2.out.below hb3); have HR3 := Lib.hid (HR2.out.below hb3); have HV3 := Lib.hid (HV2.out.below hb3); obtain ⟨x0, x1, x2, x3⟩ := HX3.out.four; obtain ⟨s0, s1, s2, s3⟩ := HS3.out.four; obtain ⟨r0, r1, r2, r3⟩ := HR3.out.four; have rf := HR3.out.free; obtain ⟨v0, v1⟩ := HV3.out.two; clear hb3) | fail)
                refine bodyPost_ret (results_rb rfl _ rfl rfl (HR3.out.set4 _ _ _ _)) rfl ?_
                exact ⟨rfl, below4 B3.out (by omega) _ _ _ _⟩
    · have hv' : Pl.validB a2 b2 c2 d2 = false := by simpa using hv
      rw [hv'] at kv
      have hq : ¬ bOk a b c d ⟨a2, b2, c2, d2⟩ o ea eb (t : Int) := fun h => hv h.2.1
      generalize cX a c ea t = px at *
      generalize cY a c b ea eb t = py at *
      rw [decide_eq_false hq, bandR_n hq]
      clear hp cb hv hv'
      clear hq
      go_enter Try.func13, Try.ntmps13
      go_wp2_with (first | (go_at_call 27; (with_reducible refine (kp _).mono ?_); rintro e w1 ⟨rfl, hb1⟩; have hb := (show Below WB.heap.size WB w1 by rw [HWB.out]; exact hb1); clear hb1; have B1 := Lib.hid (B0.out.trans (hb.mono B0.out.size)); have HX1 := Lib.hid (HX0.out.below hb); have HS1 := Lib.hid (HS0.out.below hb); have HR1 := Lib.hid (HR0.out.below hb); obtain ⟨x0, x1, x2, x3⟩ := HX1.out.four; obtain ⟨s0, s1, s2, s3⟩ := HS1.out.four; obtain ⟨r0, r1, r2, r3⟩ := HR1.out.four; have rf := HR1.out.free; clear hb; clear x0 x1 x2 x3 s0 s1 s2 s3 r0 r1 r2 r3 rf; have B2 := Lib.hid (below_alloc B1.out B1.out.size (.cells #[.int .i64 px, .int .i64 py] 49)); have HX2 := Lib.hid (HX1.out.alloc (.cells #[.int .i64 px, .int .i64 py] 49)); have HS2 := Lib.hid (HS1.out.alloc (.cells #[.int .i64 px, .int .i64 py] 49)); have HR2 := Lib.hid (HR1.out.alloc (.cells #[.int .i64 px, .int .i64 py] 49)); have HV2 := Lib.hid (Blk.new w1 49 #[.int .i64 px, .int .i64 py]); obtain ⟨x0, x1, x2, x3⟩ := HX2.out.four; obtain ⟨s0, s1, s2, s3⟩ := HS2.out.four; obtain ⟨r0, r1, r2, r3⟩ := HR2.out.four; have rf := HR2.out.free; obtain ⟨v0, v1⟩ := HV2.out.two) | (go_at_call 32; (with_reducible refine (kv _).mono ?_); rintro e w3 ⟨rfl, hb3⟩; clear x0 x1 x2 x3 s0 s1 s2 s3 r0 r1 r2 r3 rf v0 v1; have B3 := Lib.hid (B2.out.trans (hb3.mono B2.out.size)); have HX3 := Lib.hid (HX2.out.below hb3); have HS3 := Lib.hid (HS2.out.below hb3); have HR3 := Lib.hid (HR2.out.below hb3); have HV3 := Lib.hid (HV2.out.below hb3); obtain ⟨x0, x1, x2, x3⟩ := HX3.out.four; obtain ⟨s0, s1, s2, s3⟩ := HS3.out.four; obtain ⟨r0, r1, r2, r3⟩ := HR3.out.four; have rf := HR3.out.free; obtain ⟨v0, v1⟩ := HV3.out.two; clear hb3) | fail)
      refine bodyPost_ret (results_rb rfl _ rfl rfl (HR3.out.set4 _ _ _ _)) rfl ?_
      exact ⟨rfl, below4 B3.out (by omega) _ _ _ _⟩
  · have hq : ¬ bOk a b c d ⟨a2, b2, c2, d2⟩ o ea eb idx := fun h => hp h.1
    have kp := fun W1 : World => place_n a b c d ea eb idx hp W1
    rw [decide_eq_false hq, bandR_n hq]
    clear hp
    clear hq
    go_enter Try.func13, Try.ntmps13
    go_wp2_with (first | (go_at_call 27; (with_reducible refine (kp _).mono ?_); rintro e w1 ⟨rfl, hb1⟩; have hb := (show Below WB.heap.size WB w1 by rw [HWB.out]; exact hb1); clear hb1; have B1 := Lib.hid (B0.out.trans (hb.mono B0.out.size)); have HX1 := Lib.hid (HX0.out.below hb); have HS1 := Lib.hid (HS0.out.below hb); have HR1 := Lib.hid (HR0.out.below hb); obtain ⟨x0, x1, x2, x3⟩ := HX1.out.four; obtain ⟨s0, s1, s2, s3⟩ := HS1.out.four; obtain ⟨r0, r1, r2, r3⟩ := HR1.out.four; have rf := HR1.out.free; clear hb; clear x0 x1 x2 x3 s0 s1 s2 s3 r0 r1 r2 r3 rf; have B2 := Lib.hid (below_alloc B1.out B1.out.size (.cells #[.int .i64 0, .int .i64 0] 49)); have HX2 := Lib.hid (HX1.out.alloc (.cells #[.int .i64 0, .int .i64 0] 49)); have HS2 := Lib.hid (HS1.out.alloc (.cells #[.int .i64 0, .int .i64 0] 49)); have HR2 := Lib.hid (HR1.out.alloc (.cells #[.int .i64 0, .int .i64 0] 49)); have HV2 := Lib.hid (Blk.new w1 49 #[.int .i64 0, .int .i64 0]); obtain ⟨x0, x1, x2, x3⟩ := HX2.out.four; obtain ⟨s0, s1, s2, s3⟩ := HS2.out.four; obtain ⟨r0, r1, r2, r3⟩ := HR2.out.four; have rf := HR2.out.free; obtain ⟨v0, v1⟩ := HV2.out.two) | fail)
    refine bodyPost_ret (results_rb rfl _ rfl rfl (HR2.out.set4 _ _ _ _)) rfl ?_
    exact ⟨rfl, below4 B2.out (by omega) _ _ _ _⟩
end Go.Proofs.Ytcdjkofgnelgeaa
