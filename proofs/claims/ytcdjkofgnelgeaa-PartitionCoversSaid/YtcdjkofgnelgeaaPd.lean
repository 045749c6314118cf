/-
  Layer 22: contracts of the code's Precincts, inCell, place, Precinct, InBand.
-/
import Derived.Test.YtcdjkofgnelgeaaPc
set_option maxRecDepth 100000
namespace Go.Proofs.Ytcdjkofgnelgeaa
open Go.RowKit

/-- What is known of a grid's rectangle. -/
theorem grid_bd (a b c d ea eb m : Int) : (0 ≤ (Pl.gridR a b c d ea eb m).x0 ∧ (Pl.gridR a b c d ea eb m).x0 ≤ (Pl.gridR a b c d ea eb m).x1 ∧ (Pl.gridR a b c d ea eb m).x1 ≤ 4096) ∧ (0 ≤ (Pl.gridR a b c d ea eb m).y0 ∧ (Pl.gridR a b c d ea eb m).y0 ≤ (Pl.gridR a b c d ea eb m).y1 ∧ (Pl.gridR a b c d ea eb m).y1 ≤ 4096) ∧ (Pl.gridR a b c d ea eb m).x1 - (Pl.gridR a b c d ea eb m).x0 = Pl.colsI a b c d ea eb m ∧ (Pl.gridR a b c d ea eb m).y1 - (Pl.gridR a b c d ea eb m).y0 = Pl.rowsI a b c d ea eb m := by
  unfold Pl.colsI Pl.rowsI
  by_cases h : Pl.gridOk a b c d ea eb m
  · rw [Pl.gridR_yes h, if_pos h, if_pos h]
    have g := h.grid
    have h1 := g.ax.lo
    have h2 := g.ax.lt
    have h3 := g.ax.hi
    have h4 := g.ay.lo
    have h5 := g.ay.lt
    have h6 := g.ay.hi
    have n1 := Pl.nX_eq g.ax
    have n2 := Pl.nX_eq g.ay
    dsimp only
    omega
  · rw [Pl.gridR_no h, if_neg h, if_neg h]
    dsimp only
    omega
theorem grid_e (a b c d ea eb m : Int) (hm : m ≤ 12) (W : World) : Calls Try.prog 22 #[.agg #[.int .i64 a, .int .i64 b, .int .i64 c, .int .i64 d], .int .i64 ea, .int .i64 eb, .int .i64 m] W fun e w' => e = .returned (.agg #[.int .i64 (Pl.gridR a b c d ea eb m).x0, .int .i64 (Pl.gridR a b c d ea eb m).y0, .int .i64 (Pl.gridR a b c d ea eb m).x1, .int .i64 (Pl.gridR a b c d ea eb m).y1]) ∧ Below W.heap.size W w' := grid_c a b c d ea eb m hm W
set_option maxHeartbeats 1000000 in
theorem precincts_c (a b c d ea eb : Int) (W : World) : Calls Try.prog 8 #[.agg #[.int .i64 a, .int .i64 b, .int .i64 c, .int .i64 d], .int .i64 ea, .int .i64 eb] W fun e w' => e = .returned (.tuple #[.int .i64 (Pl.colsI a b c d ea eb 12), .int .i64 (Pl.rowsI a b c d ea eb 12)]) ∧ Below W.heap.size W w' := by
  obtain ⟨WB, hWB⟩ : ∃ ww, ww = (W.alloc (.cells #[.int .i64 a, .int .i64 b, .int .i64 c, .int .i64 d] 23)) := ⟨_, rfl⟩
  have hb0 : Below W.heap.size W WB := by rw [hWB]; exact (below_alloc (Below.refl _ W) (Nat.le_refl _) _)
  have B0 := Lib.hid hb0
  have hX : Blk WB (W.heap.size) 23 #[.int .i64 a, .int .i64 b, .int .i64 c, .int .i64 d] := by
    have := Blk.new (W) 23 #[.int .i64 a, .int .i64 b, .int .i64 c, .int .i64 d]
    rw [hWB]
    exact (show Blk _ (W.heap.size) _ _ by simpa using this)
  have HX0 := Lib.hid hX
  have HWB := Lib.hid hWB
  clear hb0 hWB hX
  obtain ⟨h1, h2, h3, h4⟩ := grid_bd a b c d ea eb 12
  have kg := fun W1 : World => grid_e a b c d ea eb 12 (by omega) W1
  have ks := fun W1 : World => size_c _ _ _ _ h1 h2 W1
  have ka := fun W1 : World => area_c (Pl.gridR a b c d ea eb 12).x0 (Pl.gridR a b c d ea eb 12).y0 (Pl.gridR a b c d ea eb 12).x1 (Pl.gridR a b c d ea eb 12).y1 W1
  rw [h3, h4] at ks
  generalize (Pl.gridR a b c d ea eb 12).x0 = r0 at *
  generalize (Pl.gridR a b c d ea eb 12).y0 = r1 at *
  generalize (Pl.gridR a b c d ea eb 12).x1 = r2 at *
  generalize (Pl.gridR a b c d ea eb 12).y1 = r3 at *
  clear h1 h2 h3 h4 ka
  generalize Pl.colsI a b c d ea eb 12 = CI at *
  generalize Pl.rowsI a b c d ea eb 12 = RI at *
  go_enter Try.func8, Try.ntmps8
  go_wp2_with (first | (go_at_call 22; (with_reducible refine (kg _).mono ?_); rintro e w1 ⟨rfl, hb1⟩; have hb := (show Below WB.heap.size WB w1 by rw [HWB.out]; exact hb1); clear hb1; have B1 := Lib.hid (B0.out.trans (hb.mono B0.out.size)); have HX1 := Lib.hid (HX0.out.below hb); obtain ⟨x0, x1, x2, x3⟩ := HX1.out.four; clear hb) | (go_at_call 21; (with_reducible refine (ks _).mono ?_); rintro e w2 ⟨rfl, hb2⟩; clear x0 x1 x2 x3; have B2 := Lib.hid (B1.out.trans (hb2.mono B1.out.size)); have HX2 := Lib.hid (HX1.out.below hb2); obtain ⟨x0, x1, x2, x3⟩ := HX2.out.four; clear hb2) | fail)
  go_ret2
  exact ⟨rfl, B2.out⟩
theorem mul_small {x w : Int} (hx : 0 ≤ x ∧ x ≤ 4096) (hw : 1 ≤ w ∧ w ≤ 4096) : 0 ≤ x * w ∧ x * w ≤ 16777216 ∧ IntKind.i64.wrap (x * w) = x * w ∧ IntKind.i64.wrap (x + 1) = x + 1 ∧ IntKind.i64.wrap ((x + 1) * w) = x * w + w := by
  have h0 : 0 ≤ x * w := Int.mul_nonneg hx.1 (by omega)
  have h1 : x * w ≤ 4096 * 4096 := Int.mul_le_mul hx.2 hw.2 (by omega) (by omega)
  rw [Int.add_mul, Int.one_mul]
  refine ⟨h0, by omega, ?_, ?_, ?_⟩ <;> (rw [IntWalk.i64_left]; unfold wrap64; omega)
set_option maxHeartbeats 2000000 in
theorem incell_c (a b c d x y ea eb : Int) (hx : 0 ≤ x ∧ x ≤ 4096) (hy : 0 ≤ y ∧ y ≤ 4096) (h1 : 0 ≤ ea ∧ ea ≤ 12) (h2 : 0 ≤ eb ∧ eb ≤ 12) (W : World) : Calls Try.prog 28 #[.agg #[.int .i64 a, .int .i64 b, .int .i64 c, .int .i64 d], .agg #[.int .i64 x, .int .i64 y], .int .i64 ea, .int .i64 eb] W fun e w' => e = .returned (.agg #[.int .i64 (Pl.part a b c d (Pl.pw ea) (Pl.pw eb) x y).x0, .int .i64 (Pl.part a b c d (Pl.pw ea) (Pl.pw eb) x y).y0, .int .i64 (Pl.part a b c d (Pl.pw ea) (Pl.pw eb) x y).x1, .int .i64 (Pl.part a b c d (Pl.pw ea) (Pl.pw eb) x y).y1]) ∧ Below W.heap.size W w' := by
  obtain ⟨sa, wa1, wa2, wa3⟩ := pw_facts (e := ea) (m := 12) (by omega) (by omega)
  obtain ⟨sb, wb1, wb2, wb3⟩ := pw_facts (e := eb) (m := 12) (by omega) (by omega)
  obtain ⟨_, _, m1, m2, m3⟩ := mul_small hx ⟨wa2, wa3⟩
  obtain ⟨_, _, m4, m5, m6⟩ := mul_small hy ⟨wb2, wb3⟩
  unfold Pl.part
  generalize Pl.pw ea = wa at *
  generalize Pl.pw eb = wb at *
  have ki := fun W1 : World => isec_c a b c d (x * wa) (y * wb) (x * wa + wa) (y * wb + wb) W1
  generalize hp0 : x * wa = p0 at *
  generalize hq0 : y * wb = q0 at *
  generalize hp1 : p0 + wa = p1 at *
  generalize hq1 : q0 + wb = q1 at *
  generalize (Pl.isec a b c d p0 q0 p1 q1).x0 = i0 at *
  generalize (Pl.isec a b c d p0 q0 p1 q1).y0 = i1 at *
  generalize (Pl.isec a b c d p0 q0 p1 q1).x1 = i2 at *
  generalize (Pl.isec a b c d p0 q0 p1 q1).y1 = i3 at *
  clear hx hy wa1 wa2 wa3 wb1 wb2 wb3 hp1 hq1
  obtain ⟨a1, a2⟩ := h1
  obtain ⟨b1, b2⟩ := h2
  obtain ⟨WB, hWB⟩ : ∃ ww, ww = (((W.alloc (.cells #[.int .i64 a, .int .i64 b, .int .i64 c, .int .i64 d] 23)).alloc (.cells #[.int .i64 x, .int .i64 y] 49)).alloc (.cells #[.int .i64 0, .int .i64 0, .int .i64 0, .int .i64 0] 23)) := ⟨_, rfl⟩
  have hb0 : Below W.heap.size W WB := by rw [hWB]; exact (below_alloc (below_alloc (below_alloc (Below.refl _ W) (Nat.le_refl _) _) (by simp <;> omega) _) (by simp <;> omega) _)
  have B0 := Lib.hid hb0
  have hX : Blk WB (W.heap.size) 23 #[.int .i64 a, .int .i64 b, .int .i64 c, .int .i64 d] := by
    have := Blk.new (W) 23 #[.int .i64 a, .int .i64 b, .int .i64 c, .int .i64 d]
    rw [hWB]
    exact (((show Blk _ (W.heap.size) _ _ by simpa using this)).alloc _).alloc _
  have HX0 := Lib.hid hX
  have hV : Blk WB (W.heap.size + 1) 49 #[.int .i64 x, .int .i64 y] := by
    have := Blk.new ((W.alloc (.cells #[.int .i64 a, .int .i64 b, .int .i64 c, .int .i64 d] 23))) 49 #[.int .i64 x, .int .i64 y]
    rw [hWB]
    exact ((show Blk _ (W.heap.size + 1) _ _ by simpa using this)).alloc _
  have HV0 := Lib.hid hV
  have hR : Blk WB (W.heap.size + 2) 23 #[.int .i64 0, .int .i64 0, .int .i64 0, .int .i64 0] := by
    have := Blk.new (((W.alloc (.cells #[.int .i64 a, .int .i64 b, .int .i64 c, .int .i64 d] 23)).alloc (.cells #[.int .i64 x, .int .i64 y] 49))) 23 #[.int .i64 0, .int .i64 0, .int .i64 0, .int .i64 0]
    rw [hWB]
    exact (show Blk _ (W.heap.size + 2) _ _ by simpa using this)
  have HR0 := Lib.hid hR
  have HWB := Lib.hid hWB
  clear hb0 hWB hX hV hR
  have s0 := HV0.out.drew.two
  have s1 := (HV0.out.alloc (.cells #[.int .i64 0, .int .i64 0, .int .i64 0, .int .i64 0] 23)).drew.two
  have s2 := (HV0.out.alloc (.cells #[.int .i64 p0, .int .i64 q0, .int .i64 p1, .int .i64 q1] 23)).drew.two
  have HZ1 := Lib.hid (Blk.new WB 23 #[.int .i64 p0, .int .i64 q0, .int .i64 p1, .int .i64 q1]).drew
  have HX1 := Lib.hid (HX0.out.alloc (.cells #[.int .i64 p0, .int .i64 q0, .int .i64 p1, .int .i64 q1] 23)).drew
  have HV1 := Lib.hid (HV0.out.alloc (.cells #[.int .i64 p0, .int .i64 q0, .int .i64 p1, .int .i64 q1] 23)).drew
  have HR1 := Lib.hid (HR0.out.alloc (.cells #[.int .i64 p0, .int .i64 q0, .int .i64 p1, .int .i64 q1] 23)).drew
  have B1 := Lib.hid (below_alloc B0.out B0.out.size (.cells #[.int .i64 p0, .int .i64 q0, .int .i64 p1, .int .i64 q1] 23)).drew
  obtain ⟨w1, hw1⟩ : ∃ ww, ww = (WB.alloc (.cells #[.int .i64 p0, .int .i64 q0, .int .i64 p1, .int .i64 q1] 23)).drew := ⟨_, rfl⟩
  have ez : WB.heap.size = W.heap.size + 1 + 1 + 1 := by rw [HWB.out]; simp
  rw [← hw1] at HZ1 HX1 HV1 HR1 B1
  rw [ez] at HZ1
  clear ez
  rw [HWB.out] at s0 s1 s2 hw1
  go_enter Try.func28, Try.ntmps28
  go_upto_region 1 with fail
  go_region_held3 (fun w' => w'.cell? ⟨W.heap.size + 1, 0, none⟩ = some (.int .i64 x) ∧ w'.cell? ⟨W.heap.size + 1, 1, none⟩ = some (.int .i64 y))
    (first | (with_reducible exact s0) | (with_reducible exact s1) | (with_reducible exact s2) | fail)
    (fail)
  all_goals
    rw [← hw1]
    clear s0 s1 s2 hw1
    obtain ⟨x0, x1, x2, x3⟩ := HX1.out.four; obtain ⟨v0, v1⟩ := HV1.out.two; obtain ⟨r0, r1, r2, r3⟩ := HR1.out.four; have rf := HR1.out.free
    obtain ⟨z0, z1, z2, z3⟩ := HZ1.out.four
    go_wp2_with (first | (go_at_call 39; (with_reducible refine (ki _).mono ?_); rintro e w2 ⟨rfl, hb2⟩; clear x0 x1 x2 x3 v0 v1 r0 r1 r2 r3 rf; have B2 := Lib.hid (B1.out.trans (hb2.mono B1.out.size)); have HX2 := Lib.hid (HX1.out.below hb2); have HV2 := Lib.hid (HV1.out.below hb2); have HR2 := Lib.hid (HR1.out.below hb2); obtain ⟨x0, x1, x2, x3⟩ := HX2.out.four; obtain ⟨v0, v1⟩ := HV2.out.two; obtain ⟨r0, r1, r2, r3⟩ := HR2.out.four; have rf := HR2.out.free; clear hb2) | fail)
    refine bodyPost_ret (results_r rfl _ rfl (HR2.out.set4 _ _ _ _)) rfl ?_
    exact ⟨rfl, below4 B2.out (by omega) _ _ _ _⟩
theorem below2 {B b : Nat} {a w : World} (h : Below B a w) (hb : B ≤ b) (v0 v1 : Value) : Below B a ((w.setCell ⟨b, 0, none⟩ v0).setCell ⟨b, 1, none⟩ v1) := (h.setCell hb _).setCell hb _

/-- Is there a precinct with this number? -/
def pOk (a b c d ea eb idx : Int) : Prop := Pl.gridOk a b c d ea eb 12 ∧ 0 ≤ idx ∧ idx < ((Pl.nX a c (Pl.pw ea) * Pl.nX b d (Pl.pw eb) : Nat) : Int)
instance (a b c d ea eb idx : Int) : Decidable (pOk a b c d ea eb idx) := by unfold pOk; infer_instance
theorem pOk_iff (a b c d ea eb idx : Int) : pOk a b c d ea eb idx ↔ (0 ≤ idx ∧ idx < Pl.areaI (Pl.gridR a b c d ea eb 12).x0 (Pl.gridR a b c d ea eb 12).y0 (Pl.gridR a b c d ea eb 12).x1 (Pl.gridR a b c d ea eb 12).y1) := by
  unfold pOk
  by_cases h : Pl.gridOk a b c d ea eb 12
  · rw [h.area]; exact ⟨fun z => z.2, fun z => ⟨h, z⟩⟩
  · rw [Pl.gridR_area_no h]; exact ⟨fun z => absurd z.1 h, fun z => by omega⟩
/-- The column and the row of a precinct's cell. -/
def cX (a c ea : Int) (t : Nat) : Int := Pl.fd a (Pl.pw ea) + ((t % Pl.nX a c (Pl.pw ea) : Nat) : Int)
def cY (a c b ea eb : Int) (t : Nat) : Int := Pl.fd b (Pl.pw eb) + ((t / Pl.nX a c (Pl.pw ea) : Nat) : Int)
set_option maxHeartbeats 2000000 in
theorem place_n (a b c d ea eb idx : Int) (hn : ¬ pOk a b c d ea eb idx) (W : World) : Calls Try.prog 27 #[.agg #[.int .i64 a, .int .i64 b, .int .i64 c, .int .i64 d], .int .i64 ea, .int .i64 eb, .int .i64 idx] W fun e w' => e = .returned (.tuple #[.agg #[.int .i64 0, .int .i64 0], .bool false]) ∧ Below W.heap.size W w' := by
  rw [pOk_iff] at hn
  obtain ⟨WB, hWB⟩ : ∃ ww, ww = ((W.alloc (.cells #[.int .i64 a, .int .i64 b, .int .i64 c, .int .i64 d] 23)).alloc (.cells #[.int .i64 0, .int .i64 0] 49)) := ⟨_, rfl⟩
  have hb0 : Below W.heap.size W WB := by rw [hWB]; exact (below_alloc (below_alloc (Below.refl _ W) (Nat.le_refl _) _) (by simp <;> omega) _)
  have B0 := Lib.hid hb0
  have hX : Blk WB (W.heap.size) 23 #[.int .i64 a, .int .i64 b, .int .i64 c, .int .i64 d] := by
    have := Blk.new (W) 23 #[.int .i64 a, .int .i64 b, .int .i64 c, .int .i64 d]
    rw [hWB]
    exact ((show Blk _ (W.heap.size) _ _ by simpa using this)).alloc _
  have HX0 := Lib.hid hX
  have hP : Blk WB (W.heap.size + 1) 49 #[.int .i64 0, .int .i64 0] := by
    have := Blk.new ((W.alloc (.cells #[.int .i64 a, .int .i64 b, .int .i64 c, .int .i64 d] 23))) 49 #[.int .i64 0, .int .i64 0]
    rw [hWB]
    exact (show Blk _ (W.heap.size + 1) _ _ by simpa using this)
  have HP0 := Lib.hid hP
  have HWB := Lib.hid hWB
  clear hb0 hWB hX hP
  obtain ⟨h1, h2, h3, h4⟩ := grid_bd a b c d ea eb 12
  have kg := fun W1 : World => grid_e a b c d ea eb 12 (by omega) W1
  have ks := fun W1 : World => size_c _ _ _ _ h1 h2 W1
  have ka := fun W1 : World => area_c (Pl.gridR a b c d ea eb 12).x0 (Pl.gridR a b c d ea eb 12).y0 (Pl.gridR a b c d ea eb 12).x1 (Pl.gridR a b c d ea eb 12).y1 W1
  rw [h3, h4] at ks
  clear h1 h2 h3 h4 ks
  generalize Pl.areaI (Pl.gridR a b c d ea eb 12).x0 (Pl.gridR a b c d ea eb 12).y0 (Pl.gridR a b c d ea eb 12).x1 (Pl.gridR a b c d ea eb 12).y1 = ar at *
  generalize (Pl.gridR a b c d ea eb 12).x0 = r0 at *
  generalize (Pl.gridR a b c d ea eb 12).y0 = r1 at *
  generalize (Pl.gridR a b c d ea eb 12).x1 = r2 at *
  generalize (Pl.gridR a b c d ea eb 12).y1 = r3 at *
  by_cases g1 : idx < 0
  · clear hn ka
    go_enter Try.func27, Try.ntmps27
    go_wp2_with (first | (go_at_call 22; (with_reducible refine (kg _).mono ?_); rintro e w1 ⟨rfl, hb1⟩; have hb := (show Below WB.heap.size WB w1 by rw [HWB.out]; exact hb1); clear hb1; have B1 := Lib.hid (B0.out.trans (hb.mono B0.out.size)); have HX1 := Lib.hid (HX0.out.below hb); have HP1 := Lib.hid (HP0.out.below hb); obtain ⟨x0, x1, x2, x3⟩ := HX1.out.four; obtain ⟨p0, p1⟩ := HP1.out.two; have pf := HP1.out.free; clear hb; clear x0 x1 x2 x3 p0 p1 pf; have B2 := Lib.hid (below_alloc B1.out B1.out.size (.cells #[.int .i64 r0, .int .i64 r1, .int .i64 r2, .int .i64 r3] 23)); have HX2 := Lib.hid (HX1.out.alloc (.cells #[.int .i64 r0, .int .i64 r1, .int .i64 r2, .int .i64 r3] 23)); have HP2 := Lib.hid (HP1.out.alloc (.cells #[.int .i64 r0, .int .i64 r1, .int .i64 r2, .int .i64 r3] 23)); have HZ2 := Lib.hid (Blk.new w1 23 #[.int .i64 r0, .int .i64 r1, .int .i64 r2, .int .i64 r3]); obtain ⟨x0, x1, x2, x3⟩ := HX2.out.four; obtain ⟨p0, p1⟩ := HP2.out.two; have pf := HP2.out.free; obtain ⟨z0, z1, z2, z3⟩ := HZ2.out.four) | fail)
    refine bodyPost_ret (results_pb rfl _ rfl rfl (HP2.out.set2 _ _)) rfl ?_
    exact ⟨rfl, below2 B2.out (by omega) _ _⟩
  · have g2 : ar ≤ idx := by omega
    clear hn
    go_enter Try.func27, Try.ntmps27
    go_wp2_with (first | (go_at_call 22; (with_reducible refine (kg _).mono ?_); rintro e w1 ⟨rfl, hb1⟩; have hb := (show Below WB.heap.size WB w1 by rw [HWB.out]; exact hb1); clear hb1; have B1 := Lib.hid (B0.out.trans (hb.mono B0.out.size)); have HX1 := Lib.hid (HX0.out.below hb); have HP1 := Lib.hid (HP0.out.below hb); obtain ⟨x0, x1, x2, x3⟩ := HX1.out.four; obtain ⟨p0, p1⟩ := HP1.out.two; have pf := HP1.out.free; clear hb; clear x0 x1 x2 x3 p0 p1 pf; have B2 := Lib.hid (below_alloc B1.out B1.out.size (.cells #[.int .i64 r0, .int .i64 r1, .int .i64 r2, .int .i64 r3] 23)); have HX2 := Lib.hid (HX1.out.alloc (.cells #[.int .i64 r0, .int .i64 r1, .int .i64 r2, .int .i64 r3] 23)); have HP2 := Lib.hid (HP1.out.alloc (.cells #[.int .i64 r0, .int .i64 r1, .int .i64 r2, .int .i64 r3] 23)); have HZ2 := Lib.hid (Blk.new w1 23 #[.int .i64 r0, .int .i64 r1, .int .i64 r2, .int .i64 r3]); obtain ⟨x0, x1, x2, x3⟩ := HX2.out.four; obtain ⟨p0, p1⟩ := HP2.out.two; have pf := HP2.out.free; obtain ⟨z0, z1, z2, z3⟩ := HZ2.out.four) | (go_at_call 38; (with_reducible refine (ka _).mono ?_); rintro e w3 ⟨rfl, hb3⟩; clear x0 x1 x2 x3 p0 p1 pf z0 z1 z2 z3; have B3 := Lib.hid (B2.out.trans (hb3.mono B2.out.size)); have HX3 := Lib.hid (HX2.out.below hb3); have HP3 := Lib.hid (HP2.out.below hb3); have HZ3 := Lib.hid (HZ2.out.below hb3); obtain ⟨x0, x1, x2, x3⟩ := HX3.out.four; obtain ⟨p0, p1⟩ := HP3.out.two; have pf := HP3.out.free; obtain ⟨z0, z1, z2, z3⟩ := HZ3.out.four; clear hb3) | fail)
    refine bodyPost_ret (results_pb rfl _ rfl rfl (HP3.out.set2 _ _)) rfl ?_
    exact ⟨rfl, below2 B3.out (by omega) _ _⟩
theorem place_wrap (r t p : Int) (h0 : 0 ≤ r) (h1 : r ≤ 4096) (e : r + t = p) (h2 : 0 ≤ t) (h3 : t < 65536) : IntKind.i64.wrap (r + t) = p ∧ IntKind.i64.wrap t = t ∧ wrap64 t = t ∧ wrap64 (r + t) = p := by
  rw [IntWalk.i64_left, IntWalk.i64_left]
  unfold wrap64
  refine ⟨by omega, by omega, by omega, by omega⟩
set_option maxHeartbeats 2000000 in
theorem place_y (a b c d ea eb : Int) (t : Nat) (hy : pOk a b c d ea eb (t : Int)) (W : World) : Calls Try.prog 27 #[.agg #[.int .i64 a, .int .i64 b, .int .i64 c, .int .i64 d], .int .i64 ea, .int .i64 eb, .int .i64 (t : Int)] W fun e w' => e = .returned (.tuple #[.agg #[.int .i64 (cX a c ea t), .int .i64 (cY a c b ea eb t)], .bool true]) ∧ Below W.heap.size W w' := by
  have hy2 := (pOk_iff _ _ _ _ _ _ _).1 hy
  obtain ⟨WB, hWB⟩ : ∃ ww, ww = ((W.alloc (.cells #[.int .i64 a, .int .i64 b, .int .i64 c, .int .i64 d] 23)).alloc (.cells #[.int .i64 0, .int .i64 0] 49)) := ⟨_, rfl⟩
  have hb0 : Below W.heap.size W WB := by rw [hWB]; exact (below_alloc (below_alloc (Below.refl _ W) (Nat.le_refl _) _) (by simp <;> omega) _)
  have B0 := Lib.hid hb0
  have hX : Blk WB (W.heap.size) 23 #[.int .i64 a, .int .i64 b, .int .i64 c, .int .i64 d] := by
    have := Blk.new (W) 23 #[.int .i64 a, .int .i64 b, .int .i64 c, .int .i64 d]
    rw [hWB]
    exact ((show Blk _ (W.heap.size) _ _ by simpa using this)).alloc _
  have HX0 := Lib.hid hX
  have hP : Blk WB (W.heap.size + 1) 49 #[.int .i64 0, .int .i64 0] := by
    have := Blk.new ((W.alloc (.cells #[.int .i64 a, .int .i64 b, .int .i64 c, .int .i64 d] 23))) 49 #[.int .i64 0, .int .i64 0]
    rw [hWB]
    exact (show Blk _ (W.heap.size + 1) _ _ by simpa using this)
  have HP0 := Lib.hid hP
  have HWB := Lib.hid hWB
  clear hb0 hWB hX hP
  obtain ⟨h1, h2, h3, h4⟩ := grid_bd a b c d ea eb 12
  have kg := fun W1 : World => grid_e a b c d ea eb 12 (by omega) W1
  have ks := fun W1 : World => size_c _ _ _ _ h1 h2 W1
  have ka := fun W1 : World => area_c (Pl.gridR a b c d ea eb 12).x0 (Pl.gridR a b c d ea eb 12).y0 (Pl.gridR a b c d ea eb 12).x1 (Pl.gridR a b c d ea eb 12).y1 W1
  rw [h3, h4] at ks
  have hx : (Pl.gridR a b c d ea eb 12).x0 + ((t % Pl.nX a c (Pl.pw ea) : Nat) : Int) = cX a c ea t := by rw [Pl.gridR_yes hy.1]; rfl
  have hyy : (Pl.gridR a b c d ea eb 12).y0 + ((t / Pl.nX a c (Pl.pw ea) : Nat) : Int) = cY a c b ea eb t := by rw [Pl.gridR_yes hy.1]; rfl
  have hc : Pl.colsI a b c d ea eb 12 = (Pl.nX a c (Pl.pw ea) : Int) := if_pos hy.1
  have n0 := (Pl.Grid.pos hy.1.grid).1
  have tl : (t : Int) < 65536 := by have := hy.2.2; have := hy.1.2.2.2.2.2.2; omega
  have cb : t % Pl.nX a c (Pl.pw ea) ≤ t ∧ t / Pl.nX a c (Pl.pw ea) ≤ t := ⟨Nat.mod_le _ _, Nat.div_le_self _ _⟩
  rw [hc] at ks
  generalize Pl.areaI (Pl.gridR a b c d ea eb 12).x0 (Pl.gridR a b c d ea eb 12).y0 (Pl.gridR a b c d ea eb 12).x1 (Pl.gridR a b c d ea eb 12).y1 = ar at *
  generalize Pl.rowsI a b c d ea eb 12 = RI at *
  generalize cX a c ea t = px at *
  generalize cY a c b ea eb t = py at *
  generalize (Pl.gridR a b c d ea eb 12).x0 = r0 at *
  generalize (Pl.gridR a b c d ea eb 12).y0 = r1 at *
  generalize (Pl.gridR a b c d ea eb 12).x1 = r2 at *
  generalize (Pl.gridR a b c d ea eb 12).y1 = r3 at *
  generalize Pl.nX a c (Pl.pw ea) = nx at *
  have nn : ¬ ((nx : Int) = 0) := by omega
  have nn2 : ¬ (nx = 0) := by omega
  have e1 : (t : Int).tmod (nx : Int) = ((t % nx : Nat) : Int) := by rw [Int.tmod_eq_emod_of_nonneg (by omega)]; simp
  have e2 : (t : Int).tdiv (nx : Int) = ((t / nx : Nat) : Int) := by rw [Int.tdiv_eq_ediv_of_nonneg (by omega)]; simp
  generalize t % nx = tm at *
  generalize t / nx = td at *
  obtain ⟨f1, _, _, _⟩ := place_wrap r0 (tm : Int) px h1.1 (by omega) hx (by omega) (by omega)
  obtain ⟨f2, f3, f4, f5⟩ := place_wrap r1 (td : Int) py h2.1 (by omega) hyy (by omega) (by omega)
  have g1 : ¬ ((t : Int) < 0) := by omega
  have g2 : ¬ (ar ≤ (t : Int)) := by omega
  clear hy hy2 h1 h2 h3 h4 hx hyy hc n0 tl cb
  go_enter Try.func27, Try.ntmps27
  go_wp2_with (first | (go_at_call 22; (with_reducible refine (kg _).mono ?_); rintro e w1 ⟨rfl, hb1⟩; have hb := (show Below WB.heap.size WB w1 by rw [HWB.out]; exact hb1); clear hb1; have B1 := Lib.hid (B0.out.trans (hb.mono B0.out.size)); have HX1 := Lib.hid (HX0.out.below hb); have HP1 := Lib.hid (HP0.out.below hb); obtain ⟨x0, x1, x2, x3⟩ := HX1.out.four; obtain ⟨p0, p1⟩ := HP1.out.two; have pf := HP1.out.free; clear hb; clear x0 x1 x2 x3 p0 p1 pf; have B2 := Lib.hid (below_alloc B1.out B1.out.size (.cells #[.int .i64 r0, .int .i64 r1, .int .i64 r2, .int .i64 r3] 23)); have HX2 := Lib.hid (HX1.out.alloc (.cells #[.int .i64 r0, .int .i64 r1, .int .i64 r2, .int .i64 r3] 23)); have HP2 := Lib.hid (HP1.out.alloc (.cells #[.int .i64 r0, .int .i64 r1, .int .i64 r2, .int .i64 r3] 23)); have HZ2 := Lib.hid (Blk.new w1 23 #[.int .i64 r0, .int .i64 r1, .int .i64 r2, .int .i64 r3]); obtain ⟨x0, x1, x2, x3⟩ := HX2.out.four; obtain ⟨p0, p1⟩ := HP2.out.two; have pf := HP2.out.free; obtain ⟨z0, z1, z2, z3⟩ := HZ2.out.four) | (go_at_call 38; (with_reducible refine (ka _).mono ?_); rintro e w3 ⟨rfl, hb3⟩; clear x0 x1 x2 x3 p0 p1 pf z0 z1 z2 z3; have B3 := Lib.hid (B2.out.trans (hb3.mono B2.out.size)); have HX3 := Lib.hid (HX2.out.below hb3); have HP3 := Lib.hid (HP2.out.below hb3); have HZ3 := Lib.hid (HZ2.out.below hb3); obtain ⟨x0, x1, x2, x3⟩ := HX3.out.four; obtain ⟨p0, p1⟩ := HP3.out.two; have pf := HP3.out.free; obtain ⟨z0, z1, z2, z3⟩ := HZ3.out.four; clear hb3) | (go_at_call 21; (with_reducible refine (ks _).mono ?_); rintro e w4 ⟨rfl, hb4⟩; clear x0 x1 x2 x3 p0 p1 pf z0 z1 z2 z3; have B4 := Lib.hid (B3.out.trans (hb4.mono B3.out.size)); have HX4 := Lib.hid (HX3.out.below hb4); have HP4 := Lib.hid (HP3.out.below hb4); have HZ4 := Lib.hid (HZ3.out.below hb4); obtain ⟨x0, x1, x2, x3⟩ := HX4.out.four; obtain ⟨p0, p1⟩ := HP4.out.two; have pf := HP4.out.free; obtain ⟨z0, z1, z2, z3⟩ := HZ4.out.four; clear hb4) | fail)
  go_region
  go_wp2_with fail
  refine bodyPost_ret (results_pb rfl _ rfl rfl (HP4.out.set2 _ _)) rfl ?_
  exact ⟨rfl, below2 B4.out.drew (by omega) _ _⟩
end Go.Proofs.Ytcdjkofgnelgeaa
