/-
  For all rectangles r and integers w and h the statement RectTiling returns true (only rectangles of at most 20 columns and rows are looked into), and its arguments read afterwards as before.
  Conditions: none beyond those of the given statement.
-/
import Derived.Test.YtaaljfpkfgjhpaaFrame
import Derived.Test.YtaaljfpkfgjhpaaRectX
import Derived.Test.YtaaljfpkfgjhpaaTile
import Derived.Test.YtaaljfpkfgjhpaaIn
namespace Go.Proofs.Ytaaljfpkfgjhpaa.rectTiling
open Go.ChangeShapes Go.WideShapes Go.ChangeAt Go.RowKit Go.Joins Go.Deep

set_option maxHeartbeats 400000 in
theorem small_r (a b c d : Int) (w : World) :
    Calls Try.prog 39 #[.agg #[.int .i64 a, .int .i64 b, .int .i64 c, .int .i64 d]] w fun e w' => e = .returned (.bool (Pl.smallB a b c d)) ∧ Below w.heap.size w w' := by
  by_cases hv : Pl.validB a b c d = true
  · obtain ⟨v1, v2, v3, v4, v5, v6⟩ := Pl.valid_iff.1 hv
    go_enter Try.func39, Try.ntmps39
    go_wp2_with fail
    refine (valid_r _ _ _ _ _).mono ?_
    rintro e w1 ⟨rfl, hb⟩
    have hx := (Box.fresh w a b c d 26).below hb
    obtain ⟨c0, c1, c2, c3⟩ := hx.open
    go_wp2
    all_goals
      go_ret
      exact ⟨ret_bool (by simp [Pl.smallB, hv]; try omega), bcall ((Below.refl _ _).alloc (Nat.le_refl _) _) hb (by simp)⟩
  · have hv' : Pl.validB a b c d = false := by simpa using hv
    go_enter Try.func39, Try.ntmps39
    go_wp2_with fail
    refine (valid_r _ _ _ _ _).mono ?_
    rintro e w1 ⟨rfl, hb⟩
    go_wp2
    go_ret
    exact ⟨ret_bool (by simp [Pl.smallB, hv']), bcall ((Below.refl _ _).alloc (Nat.le_refl _) _) hb (by simp)⟩
theorem holds_at {w : World} {b off : Nat} {l : List Pl.R} (h : Holds w (some ⟨b, off, none⟩) l) {k : Nat} (hk : k < l.length) : RectAt w b (off + k * 4) l[k] := by
  rcases h with rfl | ⟨b', off', e, hr⟩
  · simp at hk
  · simp at e
    obtain ⟨rfl, rfl⟩ := e
    exact hr k hk
/-- The rectangle and its cells, in memory. -/
structure TS (a b c d : Int) (L : List Pl.R) (al : Option Addr) (w W : World) : Prop where
  below : Below w.heap.size w W
  box : Box W w.heap.size ⟨a, b, c, d⟩
  hl : Holds W al L
theorem TS.step {a b c d : Int} {L : List Pl.R} {al : Option Addr} {w W W1 : World} (h : TS a b c d L al w W) (hb : Below W.heap.size W W1) : TS a b c d L al w W1 :=
  ⟨bcall h.below hb (by have := h.box.lt; omega), h.box.below hb, h.hl.below hb (Nat.le_refl _)⟩
/-- .. and the cell of this round. -/
structure TSM (a b c d : Int) (L : List Pl.R) (al : Option Addr) (w : World) (M t : Nat) (W : World) : Prop where
  ts : TS a b c d L al w W
  bc : ∀ ht : t < L.length, Box W M L[t]
theorem TSM.step {a b c d : Int} {L : List Pl.R} {al : Option Addr} {w W W1 : World} {M t : Nat} (h : TSM a b c d L al w M t W) (hb : Below W.heap.size W W1) : TSM a b c d L al w M t W1 :=
  ⟨h.ts.step hb, fun ht => (h.bc ht).below hb⟩
structure TSMF (a b c d : Int) (L : List Pl.R) (al : Option Addr) (w : World) (M t : Nat) where
  W : World
  ok : TSM a b c d L al w M t W
def Rel1 (a b c d : Int) (L : List Pl.R) (al : Option Addr) (w : World) (s i : Value) (W : World) : Prop :=
  ∃ t : Nat, t ≤ L.length ∧ i = .int .i64 t ∧ s = .int .i64 (Pl.sumA (L.take t)) ∧ TS a b c d L al w W
def Rel2 (a b c d : Int) (L : List Pl.R) (al : Option Addr) (w : World) (M t : Nat) (kv : Value) (W : World) : Prop :=
  ∃ k : Nat, k ≤ t ∧ kv = .int .i64 k ∧ TSM a b c d L al w M t W
theorem cells_L (a b c d w h : Int) (L : List Pl.R) (hL : Pl.cellsL a b c d w h = L) (W : World) (hw' : w ≤ 9223372036854775807) (hh' : h ≤ 9223372036854775807) :
    Calls Try.prog 37 #[.agg #[.int .i64 a, .int .i64 b, .int .i64 c, .int .i64 d], .int .i64 w, .int .i64 h] W (GivesRects L W) := by subst hL; exact cells_c a b c d w h W hw' hh'
set_option maxRecDepth 100000 in
set_option maxHeartbeats 1000000 in
theorem walk_no (a b c d w h : Int) (w0 : World) (hno : Pl.smallB a b c d = false ∨ (Pl.smallB a b c d = true ∧ (w < 1 ∨ (1 ≤ w ∧ h < 1)))) :
    Calls Try.prog 12 #[.agg #[.int .i64 a, .int .i64 b, .int .i64 c, .int .i64 d], .int .i64 w, .int .i64 h] w0 fun e w' => e = .returned (.bool true) ∧ Below w0.heap.size w0 w' := by
  rcases hno with hs | ⟨hs, hn | ⟨hn, hn'⟩⟩
  all_goals
    go_enter Try.func12, Try.ntmps12
    go_wp2_with fail
    refine (small_r _ _ _ _ _).mono ?_
    rintro e w1 ⟨rfl, hb1⟩
    go_wp2_with fail
    refine (example_c _).mono ?_
    rintro e w2 ⟨rfl, hb2⟩
    go_wp2
    go_ret
    have z1 := hb1.size
    simp at z1
    exact ⟨rfl, bcall (bcall ((Below.refl _ _).alloc (Nat.le_refl _) _) hb1 (by simp)) hb2 (by omega)⟩
set_option maxRecDepth 100000 in
set_option maxHeartbeats 8000000 in
theorem walk_yes (a b c d w h : Int) (w0 : World) (hs : Pl.smallB a b c d = true) (hw : 1 ≤ w) (hh : 1 ≤ h) (hw' : w ≤ 9223372036854775807) (hh' : h ≤ 9223372036854775807) :
    Calls Try.prog 12 #[.agg #[.int .i64 a, .int .i64 b, .int .i64 c, .int .i64 d], .int .i64 w, .int .i64 h] w0 fun e w' => e = .returned (.bool true) ∧ Below w0.heap.size w0 w' := by
  obtain ⟨L, hL⟩ : ∃ L, Pl.cellsL a b c d w h = L := ⟨_, rfl⟩
  have HT := Pl.tiled hs hw hh
  rw [hL] at HT
  have HL : Hid _ := hL
  clear hL
  have hlen := HT.len
  go_enter Try.func12, Try.ntmps12
  go_wp2_with fail
  refine (small_r _ _ _ _ _).mono ?_
  rintro e w1 ⟨rfl, hb1⟩
  have x1 := (Box.fresh w0 a b c d 26).below hb1
  have B1 : Below w0.heap.size w0 w1 := bcall ((Below.refl _ _).alloc (Nat.le_refl _) _) hb1 (by simp)
  obtain ⟨c0, c1, c2, c3⟩ := x1.open
  clear hb1
  go_wp2_with fail
  refine (cells_L _ _ _ _ _ _ L HL.out _ hw' hh').mono ?_
  rintro e w2 ⟨al, cl, rfl, hH, hb2⟩
  have hS : TS a b c d L al w0 w2 := ⟨bcall B1 hb2 (by have := x1.lt; omega), x1.below hb2, hH⟩
  clear hb2 x1 B1 hH c0 c1 c2 c3
  go_wp2_with fail
  go_loopw [8, 9] (fun s i wr => Rel1 a b c d L al w0 s i wr) (fun _ i _ => L.length - (intOf i).toNat)
  case atStart => exact ⟨0, by omega, rfl, rfl, hS⟩
  case round =>
    obtain ⟨t, htl, rfl, rfl, hR⟩ := hrel
    clear hS
    by_cases ht : t < L.length
    · rcases id hR.hl with h0 | ⟨bb, off, rfl, _⟩
      · rw [h0] at ht; simp at ht
      obtain ⟨o1, o2, o3, o4, o5, o6, o7, o8⟩ := HT.one t ht
      obtain ⟨q1, q2⟩ := Pl.empty_not.1 o1
      obtain ⟨M, hM⟩ : ∃ M, M = wr.heap.size := ⟨_, rfl⟩
      obtain ⟨e0, e1, e2, e3⟩ := holds_at hR.hl ht
      have hrb := hR.box.lt
      go_wp2_with fail
      have hT : TSM a b c d L (some ⟨bb, off, none⟩) w0 M t (wr.alloc (.cells #[.int .i64 L[t].x0, .int .i64 L[t].y0, .int .i64 L[t].x1, .int .i64 L[t].y1] 26)) := ⟨hR.step ((Below.refl _ _).alloc (Nat.le_refl _) _), fun _ => Box.freshAt _ _ hM _ _ _ _ _⟩
      refine (empty_c _ _ _ _ _).mono ?_
      rintro e w3 ⟨rfl, hb3⟩
      replace hT := hT.step hb3
      clear hb3 e0 e1 e2 e3 hR hrb
      rw [← hM]
      clear hM
      obtain ⟨m0, m1, m2, m3⟩ := (hT.bc ht).open
      obtain ⟨r0, r1, r2, r3⟩ := hT.ts.box.open
      go_wp2_with fail
      refine (cont_c _ _ _ _ _ _ _ _ _).mono ?_
      rintro e w4 ⟨rfl, hb4⟩
      replace hT := hT.step hb4
      clear hb4 m0 m1 m2 m3 r0 r1 r2 r3
      obtain ⟨m0, m1, m2, m3⟩ := (hT.bc ht).open
      go_wp2_with fail
      clear m0 m1 m2 m3
      obtain ⟨wo, rfl⟩ : ∃ wo : World, wo = w4 := ⟨_, rfl⟩
      go_loopw [11] (fun kv wr => Rel2 a b c d L (some ⟨bb, off, none⟩) w0 M t kv wr) (fun kv _ => t - (intOf kv).toNat)
      case atStart => exact ⟨0, by omega, rfl, hT⟩
      case round =>
        obtain ⟨k, hk, rfl, hR2⟩ := hrel
        clear hT
        have hT := hR2
        clear hR2
        by_cases hkt : k < t
        · obtain ⟨p1, p2, p3⟩ := HT.two k t hkt ht
          have hE : Pl.emptyB (Pl.isec L[k].x0 L[k].y0 L[k].x1 L[k].y1 L[t].x0 L[t].y0 L[t].x1 L[t].y1).x0 (Pl.isec L[k].x0 L[k].y0 L[k].x1 L[k].y1 L[t].x0 L[t].y0 L[t].x1 L[t].y1).y0 (Pl.isec L[k].x0 L[k].y0 L[k].x1 L[k].y1 L[t].x0 L[t].y0 L[t].x1 L[t].y1).x1 (Pl.isec L[k].x0 L[k].y0 L[k].x1 L[k].y1 L[t].x0 L[t].y0 L[t].x1 L[t].y1).y1 = true := Pl.isec_apart p1
          have hO1 : decide (L[t].y0 < L[k].y0) = false := by simp; omega
          have hki : (k : Int) < (L.length : Int) := by omega
          go_wp2_with fail
          by_cases hq : L[k].y0 = L[t].y0
          · have hQ : Hid _ := hq
            have hq1 : (L[k].y0 == L[t].y0) = true := by simp [hq]
            have hq2 : decide (L[k].y0 = L[t].y0) = true := by simp [hq]
            have hO2 : decide (L[t].x0 < L[k].x0) = false := by have := p3 hq; simp; omega
            clear hq p3
            have hst : ∀ (X : TSMF a b c d L (some ⟨bb, off, none⟩) w0 M t) (w' : World), Below X.W.heap.size X.W w' → ∃ Y : TSMF a b c d L (some ⟨bb, off, none⟩) w0 M t, w' = Y.W := fun X w' hb => ⟨⟨w', X.ok.step hb⟩, rfl⟩
            have hne : Nonempty (TSMF a b c d L (some ⟨bb, off, none⟩) w0 M t) := ⟨⟨_, hT⟩⟩
            have hm0 : ∀ X : TSMF a b c d L (some ⟨bb, off, none⟩) w0 M t, X.W.cell? ⟨M, 0, none⟩ = some (.int .i64 L[t].x0) := fun X => (X.ok.bc ht).open.1
            have hm1 : ∀ X : TSMF a b c d L (some ⟨bb, off, none⟩) w0 M t, X.W.cell? ⟨M, 1, none⟩ = some (.int .i64 L[t].y0) := fun X => (X.ok.bc ht).open.2.1
            have hm2 : ∀ X : TSMF a b c d L (some ⟨bb, off, none⟩) w0 M t, X.W.cell? ⟨M, 2, none⟩ = some (.int .i64 L[t].x1) := fun X => (X.ok.bc ht).open.2.2.1
            have hm3 : ∀ X : TSMF a b c d L (some ⟨bb, off, none⟩) w0 M t, X.W.cell? ⟨M, 3, none⟩ = some (.int .i64 L[t].y1) := fun X => (X.ok.bc ht).open.2.2.2
            have hk0 : ∀ X : TSMF a b c d L (some ⟨bb, off, none⟩) w0 M t, X.W.cell? ⟨bb, off + k * 4, none⟩ = some (.int .i64 L[k].x0) := fun X => (holds_at (h := X.ok.ts.hl) (by omega)).1
            have hk1 : ∀ X : TSMF a b c d L (some ⟨bb, off, none⟩) w0 M t, X.W.cell? ⟨bb, off + k * 4 + 1, none⟩ = some (.int .i64 L[k].y0) := fun X => (holds_at (h := X.ok.ts.hl) (by omega)).2.1
            have hk2 : ∀ X : TSMF a b c d L (some ⟨bb, off, none⟩) w0 M t, X.W.cell? ⟨bb, off + k * 4 + 2, none⟩ = some (.int .i64 L[k].x1) := fun X => (holds_at (h := X.ok.ts.hl) (by omega)).2.2.1
            have hk3 : ∀ X : TSMF a b c d L (some ⟨bb, off, none⟩) w0 M t, X.W.cell? ⟨bb, off + k * 4 + 3, none⟩ = some (.int .i64 L[k].y1) := fun X => (holds_at (h := X.ok.ts.hl) (by omega)).2.2.2
            refine wp_region_in (fun X : TSMF a b c d L (some ⟨bb, off, none⟩) w0 M t => X.W) (by kernel_rfl) (by kernel_rfl) ⟨⟨_, hT.step (Below.refl _ _).drew⟩, rfl⟩ ?_
            repeat (first | go_big_quiet_step ((first | (go_at_call 30; exact call_in (isec_c _ _ _ _ _ _ _ _ _) (hst _)) | (go_at_call 24; exact call_in (empty_c _ _ _ _ _) (hst _)))) | quiet_step ((first | (go_at_call 30; exact call_in (isec_c _ _ _ _ _ _ _ _ _) (hst _)) | (go_at_call 24; exact call_in (empty_c _ _ _ _ _) (hst _)))))
            refine wpQuiet_nil ?_
            intro w9 hw'
            obtain ⟨⟨_, hT9⟩, hw''⟩ := hw'
            subst hw''
            clear hst hne hm0 hm1 hm2 hm3 hk0 hk1 hk2 hk3
            go_wp2
            go_roundw
            case rel => first | exact ⟨k + 1, by omega, by go_num, hT9⟩ | ((repeat apply Exists.intro); exact ⟨⟨k + 1, by omega, by go_num, hT9⟩, rfl⟩)
            case measure => simp [intOf]; omega
          · have hq1 : (L[k].y0 == L[t].y0) = false := by simp [hq]
            have hq2 : decide (L[k].y0 = L[t].y0) = false := by simp [hq]
            clear hq p3
            have hst : ∀ (X : TSMF a b c d L (some ⟨bb, off, none⟩) w0 M t) (w' : World), Below X.W.heap.size X.W w' → ∃ Y : TSMF a b c d L (some ⟨bb, off, none⟩) w0 M t, w' = Y.W := fun X w' hb => ⟨⟨w', X.ok.step hb⟩, rfl⟩
            have hne : Nonempty (TSMF a b c d L (some ⟨bb, off, none⟩) w0 M t) := ⟨⟨_, hT⟩⟩
            have hm0 : ∀ X : TSMF a b c d L (some ⟨bb, off, none⟩) w0 M t, X.W.cell? ⟨M, 0, none⟩ = some (.int .i64 L[t].x0) := fun X => (X.ok.bc ht).open.1
            have hm1 : ∀ X : TSMF a b c d L (some ⟨bb, off, none⟩) w0 M t, X.W.cell? ⟨M, 1, none⟩ = some (.int .i64 L[t].y0) := fun X => (X.ok.bc ht).open.2.1
            have hm2 : ∀ X : TSMF a b c d L (some ⟨bb, off, none⟩) w0 M t, X.W.cell? ⟨M, 2, none⟩ = some (.int .i64 L[t].x1) := fun X => (X.ok.bc ht).open.2.2.1
            have hm3 : ∀ X : TSMF a b c d L (some ⟨bb, off, none⟩) w0 M t, X.W.cell? ⟨M, 3, none⟩ = some (.int .i64 L[t].y1) := fun X => (X.ok.bc ht).open.2.2.2
            have hk0 : ∀ X : TSMF a b c d L (some ⟨bb, off, none⟩) w0 M t, X.W.cell? ⟨bb, off + k * 4, none⟩ = some (.int .i64 L[k].x0) := fun X => (holds_at (h := X.ok.ts.hl) (by omega)).1
            have hk1 : ∀ X : TSMF a b c d L (some ⟨bb, off, none⟩) w0 M t, X.W.cell? ⟨bb, off + k * 4 + 1, none⟩ = some (.int .i64 L[k].y0) := fun X => (holds_at (h := X.ok.ts.hl) (by omega)).2.1
            have hk2 : ∀ X : TSMF a b c d L (some ⟨bb, off, none⟩) w0 M t, X.W.cell? ⟨bb, off + k * 4 + 2, none⟩ = some (.int .i64 L[k].x1) := fun X => (holds_at (h := X.ok.ts.hl) (by omega)).2.2.1
            have hk3 : ∀ X : TSMF a b c d L (some ⟨bb, off, none⟩) w0 M t, X.W.cell? ⟨bb, off + k * 4 + 3, none⟩ = some (.int .i64 L[k].y1) := fun X => (holds_at (h := X.ok.ts.hl) (by omega)).2.2.2
            refine wp_region_in (fun X : TSMF a b c d L (some ⟨bb, off, none⟩) w0 M t => X.W) (by kernel_rfl) (by kernel_rfl) ⟨⟨_, hT.step (Below.refl _ _).drew⟩, rfl⟩ ?_
            repeat (first | go_big_quiet_step ((first | (go_at_call 30; exact call_in (isec_c _ _ _ _ _ _ _ _ _) (hst _)) | (go_at_call 24; exact call_in (empty_c _ _ _ _ _) (hst _)))) | quiet_step ((first | (go_at_call 30; exact call_in (isec_c _ _ _ _ _ _ _ _ _) (hst _)) | (go_at_call 24; exact call_in (empty_c _ _ _ _ _) (hst _)))))
            refine wpQuiet_nil ?_
            intro w9 hw'
            obtain ⟨⟨_, hT9⟩, hw''⟩ := hw'
            subst hw''
            clear hst hne hm0 hm1 hm2 hm3 hk0 hk1 hk2 hk3
            go_wp2
            go_roundw
            case rel => first | exact ⟨k + 1, by omega, by go_num, hT9⟩ | ((repeat apply Exists.intro); exact ⟨⟨k + 1, by omega, by go_num, hT9⟩, rfl⟩)
            case measure => simp [intOf]; omega
        · obtain rfl : k = t := by omega
          obtain ⟨m0, m1, m2, m3⟩ := (hT.bc ht).open
          have hs1 := Pl.sumA_bd (L.take k)
          have hs2 := Pl.areaR_bd L[k]
          have hs3 : ((L.take k).length : Int) ≤ 400 := by have : (L.take k).length ≤ 400 := (by simp; omega); omega
          unfold Pl.areaR at hs2
          obtain ⟨s1, s2⟩ := hs1
          obtain ⟨s3, s4⟩ := hs2
          have s5 : Pl.sumA (L.take k) ≤ 6710886400 := by omega
          clear s2
          go_wp2_with fail
          refine (area_c _ _ _ _ _).mono ?_
          rintro e w5 ⟨rfl, hb5⟩
          have hT5 := hT.step hb5
          clear hb5 m0 m1 m2 m3 hT
          go_wp2
          go_roundw
          case rel => first | exact ⟨k + 1, by omega, by go_num, by rw [Pl.sumA_take L k ht]; rfl, hT5.ts⟩ | ((repeat apply Exists.intro); exact ⟨⟨k + 1, by omega, by go_num, by rw [Pl.sumA_take L k ht]; rfl, hT5.ts⟩, rfl⟩)
          case measure => simp [intOf]; omega
    · obtain rfl : t = L.length := by omega
      have hsum := HT.sum
      obtain ⟨r0, r1, r2, r3⟩ := hR.box.open
      go_wp2_with fail
      refine (area_c _ _ _ _ _).mono ?_
      rintro e w5 ⟨rfl, hb5⟩
      have hR5 := hR.step hb5
      clear hb5 r0 r1 r2 r3 hR
      go_wp2_with fail
      refine (example_c _).mono ?_
      rintro e w6 ⟨rfl, hb6⟩
      go_wp2
      go_ret
      exact ⟨rfl, (hR5.step hb6).below⟩
theorem walk (a b c d w h : Int) (_hw : -9223372036854775808 ≤ w) (hw' : w ≤ 9223372036854775807) (_hh : -9223372036854775808 ≤ h) (hh' : h ≤ 9223372036854775807) (w0 : World) :
    Calls Try.prog 12 #[.agg #[.int .i64 a, .int .i64 b, .int .i64 c, .int .i64 d], .int .i64 w, .int .i64 h] w0 fun e w' => e = .returned (.bool true) ∧ Below w0.heap.size w0 w' := by
  by_cases hs : Pl.smallB a b c d = true
  · by_cases hw : 1 ≤ w
    · by_cases hh : 1 ≤ h
      · exact walk_yes a b c d w h w0 hs hw hh hw' hh'
      · exact walk_no a b c d w h w0 (.inr ⟨hs, .inr ⟨hw, by omega⟩⟩)
    · exact walk_no a b c d w h w0 (.inr ⟨hs, .inl (by omega)⟩)
  · exact walk_no a b c d w h w0 (.inl (by simpa using hs))

set_option maxRecDepth 100000 in
theorem lifted (os : Os) (started : os.Started) (H : Type) (enc : TypeId × Value → H) :
    ReturnsInHanded {} Try.checked os 12 .any (Rows.rectTilingSpec.pre6 enc Try.prog Try.f12 Rows.rectTilingRow.domain false) (Rows.rectTilingSpec.post enc Try.prog Try.f12 false true false false) := by
  refine returnsInHanded_of_change (C := Try.checked) own started (by kernel_rfl) Try.func12
    (ChangeSpec.witness6 (enc := enc) (C := Try.checked) false ⟨#[], #[.agg #[.int .i64 0, .int .i64 0, .int .i64 0, .int .i64 0], .int .i64 0, .int .i64 0], []⟩ 8 (by kernel_rfl) (by kernel_rfl) (by kernel_rfl) (by kernel_rfl)) ?_
  intro W base args ds gs before hval0 hW _ _
  have hval : ∀ (j : Nat) t v, Try.f12.params[j]? = some t → args[j]? = some v → Value.okWide Try.prog W .any base t v := hval0
  have hW' := hW
  obtain ⟨p, q, hA0, hV, rfl, _, _⟩ := hW
  have hA : DataW.TrodAll enc Try.prog W 0 (fun _ => true) true Try.f12.params.toList args.toList ds p := hA0
  rw [Try.params12] at hA hval
  obtain ⟨v0, vs0, d0, ds0, p0, q0, hargs, rfl, rfl, h0, r0⟩ := trodAll_cons hA
  obtain ⟨v1, vs1, d1, ds1, p1, q1, rfl, rfl, rfl, h1, r1⟩ := trodAll_cons r0
  obtain ⟨v2, vs2, d2, ds2, p2, q2, rfl, rfl, rfl, h2, r2⟩ := trodAll_cons r1
  obtain ⟨rfl, rfl, rfl⟩ := trodAll_nil r2
  obtain rfl : args = #[v0, v1, v2] := by cases args; simp_all
  obtain ⟨rfl, rfl⟩ := trodVars_none hV
  clear hA0 hval0
  simp only [List.append_nil] at hW'
  have l0 : ∀ x ∈ p0, x.block < W.heap.size := fun x hx => hW'.lt x (by simp [hx])
  have l1 : ∀ x ∈ p1, x.block < W.heap.size := fun x hx => hW'.lt x (by simp [hx])
  have l2 : ∀ x ∈ p2, x.block < W.heap.size := fun x hx => hW'.lt x (by simp [hx])
  obtain ⟨a, b, c, d, rfl, wa, wb, wc, wd⟩ := open_rect (hval 0 26 v0 rfl rfl) h0
  obtain ⟨w, rfl, _, _, ww⟩ := open_int Try.underlying3 (hval 1 3 v1 rfl rfl) h1
  obtain ⟨h, rfl, _, _, wh⟩ := open_int Try.underlying3 (hval 2 3 v2 rfl rfl) h2
  refine (walk a b c d w h (bounds_i64 ww).1 (bounds_i64 ww).2 (bounds_i64 wh).1 (bounds_i64 wh).2 W).mono fun e W' ⟨he, hb⟩ => ?_
  subst he
  exact ⟨_, rfl, post_low (pa := p0 ++ (p1 ++ (p2 ++ ([])))) (pv := []) hW' (fun _ _ _ => (trodAll_cons_mk (shut_bool Try.underlying4 _) trodAll_mk0)) (fun sp hsp => (trodAll_cons_mk (trod_low laidOut (by kernel_rfl) (of_decide_eq_true (by kernel_rfl)) h0 hb l0 (fun x hx => hsp x (by simp [hx]))) (trodAll_cons_mk (trod_low laidOut (by kernel_rfl) (of_decide_eq_true (by kernel_rfl)) h1 hb l1 (fun x hx => hsp x (by simp [hx]))) (trodAll_cons_mk (trod_low laidOut (by kernel_rfl) (of_decide_eq_true (by kernel_rfl)) h2 hb l2 (fun x hx => hsp x (by simp [hx]))) trodAll_mk0)))) (fun _ _ => rfl) (by simp) hb (ok_one (by kernel_rfl) rfl (okWide_bool_mk Try.underlying4 _))⟩

theorem over : Rows.rectTilingRow.holds Try.pinned (OpenSpec.ofChange Rows.rectTilingSpec) :=
  OpenClaim.holds_of_wide 12 Try.f12 rfl rfl rfl rfl rfl rfl rfl ⟨rfl, rfl, rfl, rfl, rfl⟩ rfl rfl rfl rfl rfl (by kernel_rfl) Try.func12 (by kernel_rfl)
    (of_decide_eq_true (by kernel_rfl)) (by unfold Func.isWrapper; first | (rw [if_pos (by decide +kernel)]; kernel_rfl) | (rw [if_neg (by decide +kernel)]; exact ⟨rfl, rfl⟩))
    (fun os started H enc _ => lifted os started H enc)

theorem proved : Rows.RectTilingSaid :=
  over
#print axioms proved
end Go.Proofs.Ytaaljfpkfgjhpaa.rectTiling
