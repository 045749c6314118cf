/-
  What each call of overlay on planes leaves, in one contract; what each call of Crop returns and leaves.
-/
import Derived.Test.YtnfnidgabgdphaaPlnH
import Derived.Deep.DeepCutAuto
set_option maxRecDepth 100000
namespace Go.Proofs.Ytnfnidgabgdphaa
open Go.RowKit

theorem paste_none {a b c d a' b' c' d' : Int} {l k : List Int} (hp : pvB a b c d l.length = true) (he : Pl.emptyB (max a a') (max b b') (min c c') (min d d') = true) : pasteL ⟨a, b, c, d⟩ l ⟨a', b', c', d'⟩ k = l := by
  rw [← tabL_self (pv_len hp)]
  refine tabL_congr fun x y hxy => ?_
  rw [tabL_self (pv_len hp), ovF, if_neg]
  intro h1
  have h2 := Pl.has_iff.1 h1
  have h3 := Pl.has_iff.1 hxy
  have h4 := Pl.empty_iff.1 he
  dsimp only at h2 h3
  omega
theorem over_c (a b c d a' b' c' d' : Int) (g : Nat) (s : Option Addr) (m m' : Nat) (l k : List Int) (pad : List Value) (w : World)
    (hp : pvB a b c d l.length = true) (hq : pvB a' b' c' d' k.length = true)
    (hm : l.length ≤ m) (hm' : k.length ≤ m') (hrow : RowP w g l pad) (hH : HoldsI w s k) (hs : 0 < k.length → ∀ p, s = some p → p.block ≠ g) :
    Calls Try.prog 106 #[.agg #[.int .i64 a, .int .i64 b, .int .i64 c, .int .i64 d, .slice (some ⟨g, 0, none⟩) l.length m], .agg #[.int .i64 a', .int .i64 b', .int .i64 c', .int .i64 d', .slice s k.length m']] w fun e w' => e = .returned (.tuple #[]) ∧ But g w w' ∧ RowP w' g (pasteL ⟨a, b, c, d⟩ l ⟨a', b', c', d'⟩ k) pad := by
  by_cases he : Pl.emptyB (max a a') (max b b') (min c c') (min d d') = true
  · refine (over_no a b c d a' b' c' d' _ _ _ _ _ _ w he).mono ?_
    rintro e w1 ⟨rfl, hb⟩
    exact ⟨rfl, But.of hb, by rw [paste_none hp he]; exact hrow.below hb⟩
  · obtain ⟨h1, h2⟩ := Pl.empty_not.1 (by simpa using he)
    have := ov_fit hq (show a' ≤ max a a' by omega) h1 (show min c c' ≤ c' by omega) (show b' ≤ max b b' by omega) (show max b b' < d' by omega)
    exact over_yes a b c d a' b' c' d' _ _ _ _ g s m m' l k pad w hp hq rfl rfl rfl rfl h1 h2 hm hm' hrow hH (hs (by omega))
theorem HoldsI.lt {w : World} {s : Option Addr} {l : List Int} (h : HoldsI w s l) (hl : 0 < l.length) : ∀ p, s = some p → p.block < w.heap.size := by
  rcases h with rfl | ⟨b, off, rfl, hr⟩
  · simp at hl
  · rintro p hp
    simp at hp
    subst hp
    exact cell_lt (hr 0 hl)
theorem QBox.far5 {w : World} {B b : Nat} {r : Pl.R} {v : Value} (h : QBox w B r v) (hn : B ≠ b) (v0 v1 v2 v3 v4 : Value) : QBox (((((w.setCell ⟨b, 0, none⟩ v0).setCell ⟨b, 1, none⟩ v1).setCell ⟨b, 2, none⟩ v2).setCell ⟨b, 3, none⟩ v3).setCell ⟨b, 4, none⟩ v4) B r v :=
  ((((h.far _ _ hn).far _ _ hn).far _ _ hn).far _ _ hn).far _ _ hn
theorem Box.far5 {w : World} {B b : Nat} {r : Pl.R} (h : Box w B r) (hn : B ≠ b) (v0 v1 v2 v3 v4 : Value) : Box (((((w.setCell ⟨b, 0, none⟩ v0).setCell ⟨b, 1, none⟩ v1).setCell ⟨b, 2, none⟩ v2).setCell ⟨b, 3, none⟩ v3).setCell ⟨b, 4, none⟩ v4) B r :=
  ((((h.far _ _ hn).far _ _ hn).far _ _ hn).far _ _ hn).far _ _ hn
theorem RowP.far {w : World} {g : Nat} {l : List Int} {pad : List Value} (h : RowP w g l pad) (a : Addr) (v : Value) (hn : g ≠ a.block) : RowP (w.setCell a v) g l pad := (Below.heap_setCell _ _ _ _ hn).trans h
theorem RowP.far5 {w : World} {B b : Nat} {l : List Int} {pad : List Value} (h : RowP w B l pad) (hn : B ≠ b) (v0 v1 v2 v3 v4 : Value) : RowP (((((w.setCell ⟨b, 0, none⟩ v0).setCell ⟨b, 1, none⟩ v1).setCell ⟨b, 2, none⟩ v2).setCell ⟨b, 3, none⟩ v3).setCell ⟨b, 4, none⟩ v4) B l pad :=
  ((((h.far _ _ hn).far _ _ hn).far _ _ hn).far _ _ hn).far _ _ hn
/-- A plane of the call's own stands in its variable. -/
structure Made (w : World) (P : Nat) (rp : Pl.R) (vp : Value) (q : Pl.R) (L : List Int) (cap : Nat) (pad : List Value) (W : World) (g B : Nat) : Prop where
  p : QBox W P rp vp
  z : QBox W (w.heap.size + 2) ⟨0, 0, 0, 0⟩ (.slice none 0 0)
  part : QBox W B q (.slice (some ⟨g, 0, none⟩) L.length cap)
  row : RowP W g L pad
  below : Below w.heap.size w W
  hg : w.heap.size + 2 < g
  hB : w.heap.size + 2 < B
  hne : g ≠ B
abbrev zeroP : Obj := .cells #[.int .i64 0, .int .i64 0, .int .i64 0, .int .i64 0, .slice none 0 0] 30
abbrev zeroRow (n : Nat) : Obj := .cells (madeCells #[.int .i64 0] n) 3
theorem made1 {w w4 : World} {P : Nat} {rp : Pl.R} {vp : Value} (p4 : QBox w4 P rp vp) (z4 : QBox w4 (w.heap.size + 2) ⟨0, 0, 0, 0⟩ (.slice none 0 0)) (B4 : Below w.heap.size w w4) (n : Nat) (a b c d : Int) :
    Made w P rp vp ⟨a, b, c, d⟩ (List.replicate n 0) n [] ((w4.alloc (zeroRow n)).alloc (.cells #[.int .i64 a, .int .i64 b, .int .i64 c, .int .i64 d, .slice (some ⟨w4.heap.size, 0, none⟩) n n] 30)) w4.heap.size (w4.heap.size + 1) := by
  have hz := z4.lt
  have e : (w4.alloc (zeroRow n)).heap.size = w4.heap.size + 1 := by simp
  refine ⟨(p4.alloc _).alloc _, (z4.alloc _).alloc _, ?_, ?_, ?_, hz, by omega, by omega⟩
  · rw [List.length_replicate]; exact QBox.freshAt (w4.alloc (zeroRow n)) (w4.heap.size + 1) e.symm a b c d (some ⟨w4.heap.size, 0, none⟩) n n 30
  · exact (RowP.of (rowAt_made w4 n)).below ((Below.refl _ _).alloc (Nat.le_refl _) _)
  · exact (B4.alloc (by omega) _).alloc (by rw [e]; omega) _
theorem made2 {w w4 : World} {P : Nat} {rp : Pl.R} {vp : Value} (p4 : QBox w4 P rp vp) (z4 : QBox w4 (w.heap.size + 2) ⟨0, 0, 0, 0⟩ (.slice none 0 0)) (B4 : Below w.heap.size w w4) (n : Nat) (a b c d : Int) :
    Made w P rp vp ⟨a, b, c, d⟩ (List.replicate n 0) n [] ((w4.alloc (.cells #[.int .i64 a, .int .i64 b, .int .i64 c, .int .i64 d, .slice (some ⟨w4.heap.size + 1, 0, none⟩) n n] 30)).alloc (zeroRow n)) (w4.heap.size + 1) w4.heap.size := by
  have hz := z4.lt
  have e : (w4.alloc (.cells #[.int .i64 a, .int .i64 b, .int .i64 c, .int .i64 d, .slice (some ⟨w4.heap.size + 1, 0, none⟩) n n] 30)).heap.size = w4.heap.size + 1 := by simp
  refine ⟨(p4.alloc _).alloc _, (z4.alloc _).alloc _, ?_, ?_, ?_, by omega, hz, by omega⟩
  · rw [List.length_replicate]; exact (QBox.fresh w4 a b c d (some ⟨w4.heap.size + 1, 0, none⟩) n n 30).alloc (zeroRow n)
  · have := RowP.of (rowAt_made (w4.alloc (.cells #[.int .i64 a, .int .i64 b, .int .i64 c, .int .i64 d, .slice (some ⟨w4.heap.size + 1, 0, none⟩) n n] 30)) n)
    rw [e] at this
    exact this
  · exact (B4.alloc (by omega) _).alloc (by rw [e]; omega) _
theorem made3 {w w4 : World} {P B : Nat} {rp : Pl.R} {vp : Value} (hP : P < w.heap.size + 2) (hB : w.heap.size + 2 < B) (p4 : QBox w4 P rp vp) (z4 : QBox w4 (w.heap.size + 2) ⟨0, 0, 0, 0⟩ (.slice none 0 0)) (q4 : QBox w4 B ⟨0, 0, 0, 0⟩ (.slice none 0 0)) (B4 : Below w.heap.size w w4) (n : Nat) (a b c d : Int) :
    Made w P rp vp ⟨a, b, c, d⟩ (List.replicate n 0) n [] ((((((w4.setCell ⟨B, 0, none⟩ (.int .i64 a)).setCell ⟨B, 1, none⟩ (.int .i64 b)).setCell ⟨B, 2, none⟩ (.int .i64 c)).setCell ⟨B, 3, none⟩ (.int .i64 d)).setCell ⟨B, 4, none⟩ (.slice (some ⟨w4.heap.size, 0, none⟩) n n)).alloc (zeroRow n)) w4.heap.size B := by
  have hz := z4.lt
  have hq := q4.lt
  refine ⟨(p4.far5 (by omega) _ _ _ _ _).alloc _, (z4.far5 (by omega) _ _ _ _ _).alloc _, ?_, ?_, ?_, hz, hB, by omega⟩
  · have := (q4.store a b c d (.slice (some ⟨w4.heap.size, 0, none⟩) n n)).alloc (zeroRow n)
    rw [List.length_replicate]; exact this
  · have := RowP.of (rowAt_made (((((w4.setCell ⟨B, 0, none⟩ (.int .i64 a)).setCell ⟨B, 1, none⟩ (.int .i64 b)).setCell ⟨B, 2, none⟩ (.int .i64 c)).setCell ⟨B, 3, none⟩ (.int .i64 d)).setCell ⟨B, 4, none⟩ (.slice (some ⟨w4.heap.size, 0, none⟩) n n)) n)
    simp only [World.size_setCell] at this
    exact this
  · exact (below5 B4 (by omega) _ _ _ _ _).alloc (by simp only [World.size_setCell]; omega) _
theorem area_mono {a b c d a' b' c' d' : Int} (hv : Pl.validB a b c d = true) (hv' : Pl.validB a' b' c' d' = true) (hc : Pl.contB a b c d a' b' c' d' = true) : Pl.areaI a' b' c' d' ≤ Pl.areaI a b c d ∧ 0 ≤ Pl.areaI a' b' c' d' := by
  have h0 := (Pl.area_bd hv).1
  have h0' := (Pl.area_bd hv').1
  obtain ⟨v1, v2, v3, v4, v5, v6⟩ := Pl.valid_iff.1 hv
  obtain ⟨u1, u2, u3, u4, u5, u6⟩ := Pl.valid_iff.1 hv'
  rw [Pl.areaI, Pl.areaI, if_pos hv, if_pos hv']
  refine ⟨?_, h0'⟩
  rcases Pl.cont_iff.1 hc with (h | h) | ⟨h1, h2, h3, h4⟩
  · rw [show c' - a' = 0 by omega, Int.zero_mul]; exact h0
  · rw [show d' - b' = 0 by omega, Int.mul_zero]; exact h0
  · exact Int.le_trans (Int.mul_le_mul_of_nonneg_right (show c' - a' ≤ c - a by omega) (by omega)) (Int.mul_le_mul_of_nonneg_left (show d' - b' ≤ d - b by omega) (by omega))
theorem crop_over {a b c d a' b' c' d' : Int} {l z : List Int} (hc : Pl.contB a b c d a' b' c' d' = true) : pasteL ⟨a', b', c', d'⟩ z ⟨a, b, c, d⟩ l = cropL ⟨a, b, c, d⟩ l ⟨a', b', c', d'⟩ := by
  refine tabL_congr fun x y hxy => ?_
  rw [ovF, if_pos]
  have h1 := Pl.has_iff.1 hxy
  have h2 := Pl.cont_iff.1 hc
  exact Pl.has_iff.2 ⟨by dsimp only; omega, by dsimp only; omega, by dsimp only; omega, by dsimp only; omega⟩
set_option maxRecDepth 100000 in
set_option maxHeartbeats 1000000 in
theorem crop_no1 (a b c d a' b' c' d' : Int) (s : Option Addr) (m : Nat) (l : List Int) (w : World) (hp : pvB a b c d l.length = false) :
    Calls Try.prog 58 #[.agg #[.int .i64 a, .int .i64 b, .int .i64 c, .int .i64 d, .slice s l.length m], .agg #[.int .i64 a', .int .i64 b', .int .i64 c', .int .i64 d']] w (GivesPlane ⟨0, 0, 0, 0⟩ [] 1 w) := by
  have p0 : QBox (((w.alloc (.cells #[.int .i64 a, .int .i64 b, .int .i64 c, .int .i64 d, .slice s l.length m] 30)).alloc (.cells #[.int .i64 a', .int .i64 b', .int .i64 c', .int .i64 d'] 23)).alloc (.cells #[.int .i64 0, .int .i64 0, .int .i64 0, .int .i64 0, .slice none 0 0] 30)) w.heap.size ⟨a, b, c, d⟩ (.slice s l.length m) := ((QBox.fresh w a b c d s l.length m 30).alloc _).alloc _
  have r0 : Box (((w.alloc (.cells #[.int .i64 a, .int .i64 b, .int .i64 c, .int .i64 d, .slice s l.length m] 30)).alloc (.cells #[.int .i64 a', .int .i64 b', .int .i64 c', .int .i64 d'] 23)).alloc (.cells #[.int .i64 0, .int .i64 0, .int .i64 0, .int .i64 0, .slice none 0 0] 30)) (w.heap.size + 1) ⟨a', b', c', d'⟩ := (Box.freshAt (w.alloc (.cells #[.int .i64 a, .int .i64 b, .int .i64 c, .int .i64 d, .slice s l.length m] 30)) (w.heap.size + 1) (by simp) a' b' c' d' 23).alloc _ _
  have z0 : QBox (((w.alloc (.cells #[.int .i64 a, .int .i64 b, .int .i64 c, .int .i64 d, .slice s l.length m] 30)).alloc (.cells #[.int .i64 a', .int .i64 b', .int .i64 c', .int .i64 d'] 23)).alloc (.cells #[.int .i64 0, .int .i64 0, .int .i64 0, .int .i64 0, .slice none 0 0] 30)) (w.heap.size + 2) ⟨0, 0, 0, 0⟩ (.slice none 0 0) := QBox.freshAt ((w.alloc (.cells #[.int .i64 a, .int .i64 b, .int .i64 c, .int .i64 d, .slice s l.length m] 30)).alloc (.cells #[.int .i64 a', .int .i64 b', .int .i64 c', .int .i64 d'] 23)) (w.heap.size + 2) (by simp) 0 0 0 0 none 0 0 30
  have B0 : Below w.heap.size w (((w.alloc (.cells #[.int .i64 a, .int .i64 b, .int .i64 c, .int .i64 d, .slice s l.length m] 30)).alloc (.cells #[.int .i64 a', .int .i64 b', .int .i64 c', .int .i64 d'] 23)).alloc (.cells #[.int .i64 0, .int .i64 0, .int .i64 0, .int .i64 0, .slice none 0 0] 30)) := (((Below.refl _ _).alloc (Nat.le_refl _) _).alloc (by simp) _).alloc (by simp; omega) _
  go_enter Try.func58, Try.ntmps58
  go_wp2_with fail
  refine (pv_c _ _ _ _ _ _ _ _).mono ?_
  rintro e w1 ⟨rfl, hb1⟩
  have p1 := p0.below hb1
  have r1 := r0.below hb1
  have z1 := z0.below hb1
  have B1 : Below w.heap.size w w1 := bcall B0 hb1 (by simp; omega)
  clear hb1 p0 r0 z0 B0
  obtain ⟨c0, c1, c2, c3, c4⟩ := p1.open
  obtain ⟨r0, r1', r2', r3'⟩ := r1.open
  obtain ⟨d0, d1, d2, d3, d4⟩ := z1.open
  have g1 := z1.free
  go_wp2
  refine bodyPost_ret (v := .tuple #[.agg #[.int .i64 0, .int .i64 0, .int .i64 0, .int .i64 0, .slice none 0 0], .int .i64 1]) ?_ rfl ?_
  · simp [results, Try.results58, go_sem, d0, d1, d2, d3, d4]
  · exact ⟨none, 0, rfl, .inl rfl, below5 B1 (by omega) _ _ _ _ _, Nat.le_refl _⟩
set_option maxRecDepth 100000 in
set_option maxHeartbeats 1000000 in
theorem crop_no2 (a b c d a' b' c' d' : Int) (s : Option Addr) (m : Nat) (l : List Int) (w : World) (hp : pvB a b c d l.length = true) (hv : Pl.validB a' b' c' d' = false) :
    Calls Try.prog 58 #[.agg #[.int .i64 a, .int .i64 b, .int .i64 c, .int .i64 d, .slice s l.length m], .agg #[.int .i64 a', .int .i64 b', .int .i64 c', .int .i64 d']] w (GivesPlane ⟨0, 0, 0, 0⟩ [] 2 w) := by
  have p0 : QBox (((w.alloc (.cells #[.int .i64 a, .int .i64 b, .int .i64 c, .int .i64 d, .slice s l.length m] 30)).alloc (.cells #[.int .i64 a', .int .i64 b', .int .i64 c', .int .i64 d'] 23)).alloc (.cells #[.int .i64 0, .int .i64 0, .int .i64 0, .int .i64 0, .slice none 0 0] 30)) w.heap.size ⟨a, b, c, d⟩ (.slice s l.length m) := ((QBox.fresh w a b c d s l.length m 30).alloc _).alloc _
  have r0 : Box (((w.alloc (.cells #[.int .i64 a, .int .i64 b, .int .i64 c, .int .i64 d, .slice s l.length m] 30)).alloc (.cells #[.int .i64 a', .int .i64 b', .int .i64 c', .int .i64 d'] 23)).alloc (.cells #[.int .i64 0, .int .i64 0, .int .i64 0, .int .i64 0, .slice none 0 0] 30)) (w.heap.size + 1) ⟨a', b', c', d'⟩ := (Box.freshAt (w.alloc (.cells #[.int .i64 a, .int .i64 b, .int .i64 c, .int .i64 d, .slice s l.length m] 30)) (w.heap.size + 1) (by simp) a' b' c' d' 23).alloc _ _
  have z0 : QBox (((w.alloc (.cells #[.int .i64 a, .int .i64 b, .int .i64 c, .int .i64 d, .slice s l.length m] 30)).alloc (.cells #[.int .i64 a', .int .i64 b', .int .i64 c', .int .i64 d'] 23)).alloc (.cells #[.int .i64 0, .int .i64 0, .int .i64 0, .int .i64 0, .slice none 0 0] 30)) (w.heap.size + 2) ⟨0, 0, 0, 0⟩ (.slice none 0 0) := QBox.freshAt ((w.alloc (.cells #[.int .i64 a, .int .i64 b, .int .i64 c, .int .i64 d, .slice s l.length m] 30)).alloc (.cells #[.int .i64 a', .int .i64 b', .int .i64 c', .int .i64 d'] 23)) (w.heap.size + 2) (by simp) 0 0 0 0 none 0 0 30
  have B0 : Below w.heap.size w (((w.alloc (.cells #[.int .i64 a, .int .i64 b, .int .i64 c, .int .i64 d, .slice s l.length m] 30)).alloc (.cells #[.int .i64 a', .int .i64 b', .int .i64 c', .int .i64 d'] 23)).alloc (.cells #[.int .i64 0, .int .i64 0, .int .i64 0, .int .i64 0, .slice none 0 0] 30)) := (((Below.refl _ _).alloc (Nat.le_refl _) _).alloc (by simp) _).alloc (by simp; omega) _
  go_enter Try.func58, Try.ntmps58
  go_wp2_with fail
  refine (pv_c _ _ _ _ _ _ _ _).mono ?_
  rintro e w1 ⟨rfl, hb1⟩
  have p1 := p0.below hb1
  have r1 := r0.below hb1
  have z1 := z0.below hb1
  have B1 : Below w.heap.size w w1 := bcall B0 hb1 (by simp; omega)
  clear hb1 p0 r0 z0 B0
  obtain ⟨c0, c1, c2, c3, c4⟩ := p1.open
  obtain ⟨r0, r1', r2', r3'⟩ := r1.open
  obtain ⟨d0, d1, d2, d3, d4⟩ := z1.open
  have g1 := z1.free
  go_wp2_with fail
  refine (valid_c _ _ _ _ _).mono ?_
  rintro e w2 ⟨rfl, hb2⟩
  have p2 := p1.below hb2
  have r2 := r1.below hb2
  have z2 := z1.below hb2
  have B2 : Below w.heap.size w w2 := bcall B1 hb2 (by have := p1.lt; omega)
  clear hb2 p1 r1 z1 B1 c0 c1 c2 c3 c4 r0 r1' r2' r3' d0 d1 d2 d3 d4 g1
  obtain ⟨c0, c1, c2, c3, c4⟩ := p2.open
  obtain ⟨r0, r1', r2', r3'⟩ := r2.open
  obtain ⟨d0, d1, d2, d3, d4⟩ := z2.open
  have g1 := z2.free
  go_wp2
  refine bodyPost_ret (v := .tuple #[.agg #[.int .i64 0, .int .i64 0, .int .i64 0, .int .i64 0, .slice none 0 0], .int .i64 2]) ?_ rfl ?_
  · simp [results, Try.results58, go_sem, d0, d1, d2, d3, d4]
  · exact ⟨none, 0, rfl, .inl rfl, below5 B2 (by omega) _ _ _ _ _, Nat.le_refl _⟩
set_option maxRecDepth 100000 in
set_option maxHeartbeats 1000000 in
theorem crop_no3 (a b c d a' b' c' d' : Int) (s : Option Addr) (m : Nat) (l : List Int) (w : World) (hp : pvB a b c d l.length = true) (hv : Pl.validB a' b' c' d' = true) (hc : Pl.contB a b c d a' b' c' d' = false) :
    Calls Try.prog 58 #[.agg #[.int .i64 a, .int .i64 b, .int .i64 c, .int .i64 d, .slice s l.length m], .agg #[.int .i64 a', .int .i64 b', .int .i64 c', .int .i64 d']] w (GivesPlane ⟨0, 0, 0, 0⟩ [] 2 w) := by
  have p0 : QBox (((w.alloc (.cells #[.int .i64 a, .int .i64 b, .int .i64 c, .int .i64 d, .slice s l.length m] 30)).alloc (.cells #[.int .i64 a', .int .i64 b', .int .i64 c', .int .i64 d'] 23)).alloc (.cells #[.int .i64 0, .int .i64 0, .int .i64 0, .int .i64 0, .slice none 0 0] 30)) w.heap.size ⟨a, b, c, d⟩ (.slice s l.length m) := ((QBox.fresh w a b c d s l.length m 30).alloc _).alloc _
  have r0 : Box (((w.alloc (.cells #[.int .i64 a, .int .i64 b, .int .i64 c, .int .i64 d, .slice s l.length m] 30)).alloc (.cells #[.int .i64 a', .int .i64 b', .int .i64 c', .int .i64 d'] 23)).alloc (.cells #[.int .i64 0, .int .i64 0, .int .i64 0, .int .i64 0, .slice none 0 0] 30)) (w.heap.size + 1) ⟨a', b', c', d'⟩ := (Box.freshAt (w.alloc (.cells #[.int .i64 a, .int .i64 b, .int .i64 c, .int .i64 d, .slice s l.length m] 30)) (w.heap.size + 1) (by simp) a' b' c' d' 23).alloc _ _
  have z0 : QBox (((w.alloc (.cells #[.int .i64 a, .int .i64 b, .int .i64 c, .int .i64 d, .slice s l.length m] 30)).alloc (.cells #[.int .i64 a', .int .i64 b', .int .i64 c', .int .i64 d'] 23)).alloc (.cells #[.int .i64 0, .int .i64 0, .int .i64 0, .int .i64 0, .slice none 0 0] 30)) (w.heap.size + 2) ⟨0, 0, 0, 0⟩ (.slice none 0 0) := QBox.freshAt ((w.alloc (.cells #[.int .i64 a, .int .i64 b, .int .i64 c, .int .i64 d, .slice s l.length m] 30)).alloc (.cells #[.int .i64 a', .int .i64 b', .int .i64 c', .int .i64 d'] 23)) (w.heap.size + 2) (by simp) 0 0 0 0 none 0 0 30
  have B0 : Below w.heap.size w (((w.alloc (.cells #[.int .i64 a, .int .i64 b, .int .i64 c, .int .i64 d, .slice s l.length m] 30)).alloc (.cells #[.int .i64 a', .int .i64 b', .int .i64 c', .int .i64 d'] 23)).alloc (.cells #[.int .i64 0, .int .i64 0, .int .i64 0, .int .i64 0, .slice none 0 0] 30)) := (((Below.refl _ _).alloc (Nat.le_refl _) _).alloc (by simp) _).alloc (by simp; omega) _
  go_enter Try.func58, Try.ntmps58
  go_wp2_with fail
  refine (pv_c _ _ _ _ _ _ _ _).mono ?_
  rintro e w1 ⟨rfl, hb1⟩
  have p1 := p0.below hb1
  have r1 := r0.below hb1
  have z1 := z0.below hb1
  have B1 : Below w.heap.size w w1 := bcall B0 hb1 (by simp; omega)
  clear hb1 p0 r0 z0 B0
  obtain ⟨c0, c1, c2, c3, c4⟩ := p1.open
  obtain ⟨r0, r1', r2', r3'⟩ := r1.open
  obtain ⟨d0, d1, d2, d3, d4⟩ := z1.open
  have g1 := z1.free
  go_wp2_with fail
  refine (valid_c _ _ _ _ _).mono ?_
  rintro e w2 ⟨rfl, hb2⟩
  have p2 := p1.below hb2
  have r2 := r1.below hb2
  have z2 := z1.below hb2
  have B2 : Below w.heap.size w w2 := bcall B1 hb2 (by have := p1.lt; omega)
  clear hb2 p1 r1 z1 B1 c0 c1 c2 c3 c4 r0 r1' r2' r3' d0 d1 d2 d3 d4 g1
  obtain ⟨c0, c1, c2, c3, c4⟩ := p2.open
  obtain ⟨r0, r1', r2', r3'⟩ := r2.open
  obtain ⟨d0, d1, d2, d3, d4⟩ := z2.open
  have g1 := z2.free
  go_wp2_with fail
  refine (cont_c _ _ _ _ _ _ _ _ _).mono ?_
  rintro e w3 ⟨rfl, hb3⟩
  have p3 := p2.below hb3
  have r3 := r2.below hb3
  have z3 := z2.below hb3
  have B3 : Below w.heap.size w w3 := bcall B2 hb3 (by have := p2.lt; omega)
  clear hb3 p2 r2 z2 B2 c0 c1 c2 c3 c4 r0 r1' r2' r3' d0 d1 d2 d3 d4 g1
  obtain ⟨c0, c1, c2, c3, c4⟩ := p3.open
  obtain ⟨r0, r1', r2', r3'⟩ := r3.open
  obtain ⟨d0, d1, d2, d3, d4⟩ := z3.open
  have g1 := z3.free
  go_wp2
  refine bodyPost_ret (v := .tuple #[.agg #[.int .i64 0, .int .i64 0, .int .i64 0, .int .i64 0, .slice none 0 0], .int .i64 2]) ?_ rfl ?_
  · simp [results, Try.results58, go_sem, d0, d1, d2, d3, d4]
  · exact ⟨none, 0, rfl, .inl rfl, below5 B3 (by omega) _ _ _ _ _, Nat.le_refl _⟩
set_option maxRecDepth 100000 in
set_option maxHeartbeats 1000000 in
theorem crop_yes (a b c d a' b' c' d' : Int) (s : Option Addr) (m : Nat) (l : List Int) (w : World) (hp : pvB a b c d l.length = true) (hv : Pl.validB a' b' c' d' = true) (hc : Pl.contB a b c d a' b' c' d' = true) (hm : l.length ≤ m) (hH : HoldsI w s l) :
    Calls Try.prog 58 #[.agg #[.int .i64 a, .int .i64 b, .int .i64 c, .int .i64 d, .slice s l.length m], .agg #[.int .i64 a', .int .i64 b', .int .i64 c', .int .i64 d']] w (GivesPlane ⟨a', b', c', d'⟩ (cropL ⟨a, b, c, d⟩ l ⟨a', b', c', d'⟩) 0 w) := by
  obtain ⟨hpv, hpa, hpn⟩ := pv_iff.1 hp
  obtain ⟨am1, am2⟩ := area_mono hpv hv hc
  obtain ⟨C, hC⟩ : ∃ C : Nat, Pl.areaI a' b' c' d' = (C : Int) := ⟨(Pl.areaI a' b' c' d').toNat, by omega⟩
  have hCle : C ≤ 1048576 := by omega
  have HQ : Hid (pvB a' b' c' d' (List.replicate C (0 : Int)).length = true) := pv_iff.2 ⟨hv, by omega, by rw [List.length_replicate]; omega⟩
  have HC : Hid _ := crop_over (l := l) (z := List.replicate C 0) hc
  have hmk := fun (W : World) => run_make_row' (P := Try.prog) 28 3 (.int .i64 0) 8 Try.underlying28 infoI rfl .i64 .i64 C (by omega) (by omega) W
  clear am1 am2 hpn
  have p0 : QBox (((w.alloc (.cells #[.int .i64 a, .int .i64 b, .int .i64 c, .int .i64 d, .slice s l.length m] 30)).alloc (.cells #[.int .i64 a', .int .i64 b', .int .i64 c', .int .i64 d'] 23)).alloc (.cells #[.int .i64 0, .int .i64 0, .int .i64 0, .int .i64 0, .slice none 0 0] 30)) w.heap.size ⟨a, b, c, d⟩ (.slice s l.length m) := ((QBox.fresh w a b c d s l.length m 30).alloc _).alloc _
  have r0 : Box (((w.alloc (.cells #[.int .i64 a, .int .i64 b, .int .i64 c, .int .i64 d, .slice s l.length m] 30)).alloc (.cells #[.int .i64 a', .int .i64 b', .int .i64 c', .int .i64 d'] 23)).alloc (.cells #[.int .i64 0, .int .i64 0, .int .i64 0, .int .i64 0, .slice none 0 0] 30)) (w.heap.size + 1) ⟨a', b', c', d'⟩ := (Box.freshAt (w.alloc (.cells #[.int .i64 a, .int .i64 b, .int .i64 c, .int .i64 d, .slice s l.length m] 30)) (w.heap.size + 1) (by simp) a' b' c' d' 23).alloc _ _
  have z0 : QBox (((w.alloc (.cells #[.int .i64 a, .int .i64 b, .int .i64 c, .int .i64 d, .slice s l.length m] 30)).alloc (.cells #[.int .i64 a', .int .i64 b', .int .i64 c', .int .i64 d'] 23)).alloc (.cells #[.int .i64 0, .int .i64 0, .int .i64 0, .int .i64 0, .slice none 0 0] 30)) (w.heap.size + 2) ⟨0, 0, 0, 0⟩ (.slice none 0 0) := QBox.freshAt ((w.alloc (.cells #[.int .i64 a, .int .i64 b, .int .i64 c, .int .i64 d, .slice s l.length m] 30)).alloc (.cells #[.int .i64 a', .int .i64 b', .int .i64 c', .int .i64 d'] 23)) (w.heap.size + 2) (by simp) 0 0 0 0 none 0 0 30
  have B0 : Below w.heap.size w (((w.alloc (.cells #[.int .i64 a, .int .i64 b, .int .i64 c, .int .i64 d, .slice s l.length m] 30)).alloc (.cells #[.int .i64 a', .int .i64 b', .int .i64 c', .int .i64 d'] 23)).alloc (.cells #[.int .i64 0, .int .i64 0, .int .i64 0, .int .i64 0, .slice none 0 0] 30)) := (((Below.refl _ _).alloc (Nat.le_refl _) _).alloc (by simp) _).alloc (by simp; omega) _
  go_enter Try.func58, Try.ntmps58
  go_wp2_with fail
  refine (pv_c _ _ _ _ _ _ _ _).mono ?_
  rintro e w1 ⟨rfl, hb1⟩
  have p1 := p0.below hb1
  have r1 := r0.below hb1
  have z1 := z0.below hb1
  have B1 : Below w.heap.size w w1 := bcall B0 hb1 (by simp; omega)
  clear hb1 p0 r0 z0 B0
  obtain ⟨c0, c1, c2, c3, c4⟩ := p1.open
  obtain ⟨r0, r1', r2', r3'⟩ := r1.open
  obtain ⟨d0, d1, d2, d3, d4⟩ := z1.open
  have g1 := z1.free
  go_wp2_with fail
  refine (valid_c _ _ _ _ _).mono ?_
  rintro e w2 ⟨rfl, hb2⟩
  have p2 := p1.below hb2
  have r2 := r1.below hb2
  have z2 := z1.below hb2
  have B2 : Below w.heap.size w w2 := bcall B1 hb2 (by have := p1.lt; omega)
  clear hb2 p1 r1 z1 B1 c0 c1 c2 c3 c4 r0 r1' r2' r3' d0 d1 d2 d3 d4 g1
  obtain ⟨c0, c1, c2, c3, c4⟩ := p2.open
  obtain ⟨r0, r1', r2', r3'⟩ := r2.open
  obtain ⟨d0, d1, d2, d3, d4⟩ := z2.open
  have g1 := z2.free
  go_wp2_with fail
  refine (cont_c _ _ _ _ _ _ _ _ _).mono ?_
  rintro e w3 ⟨rfl, hb3⟩
  have p3 := p2.below hb3
  have r3 := r2.below hb3
  have z3 := z2.below hb3
  have B3 : Below w.heap.size w w3 := bcall B2 hb3 (by have := p2.lt; omega)
  clear hb3 p2 r2 z2 B2 c0 c1 c2 c3 c4 r0 r1' r2' r3' d0 d1 d2 d3 d4 g1
  obtain ⟨c0, c1, c2, c3, c4⟩ := p3.open
  obtain ⟨r0, r1', r2', r3'⟩ := r3.open
  obtain ⟨d0, d1, d2, d3, d4⟩ := z3.open
  have g1 := z3.free
  go_upto_region 5 with fail
  clear c0 c1 c2 c3 c4 d0 d1 d2 d3 d4 g1
  go_cut [6] (fun s6 wx => ∃ g B : Nat, s6 = .pointer (some ⟨B, 0, none⟩) ∧ Made w w.heap.size ⟨a, b, c, d⟩ (.slice s l.length m) ⟨a', b', c', d'⟩ (List.replicate C 0) C [] wx g B)
  case first =>
    have rA := (r3.alloc #[.int .i64 0, .int .i64 0, .int .i64 0, .int .i64 0, .slice none 0 0] 30).drew
    have pA := (p3.alloc zeroP).drew
    have zA := (z3.alloc zeroP).drew
    have qA := (QBox.fresh w3 0 0 0 0 none 0 0 30).drew
    have BA := (B3.alloc (by have := p3.lt; omega) zeroP).drew
    have hz3 := z3.lt
    go_region_held3 (fun w' => w'.cell? ⟨w.heap.size + 1, 0, none⟩ = some (.int .i64 a') ∧ w'.cell? ⟨w.heap.size + 1, 1, none⟩ = some (.int .i64 b') ∧ w'.cell? ⟨w.heap.size + 1, 2, none⟩ = some (.int .i64 c') ∧ w'.cell? ⟨w.heap.size + 1, 3, none⟩ = some (.int .i64 d'))
      (first | (with_reducible assumption) | with_reducible exact r3.drew.open | with_reducible exact rA.open | with_reducible exact r4.open | with_reducible exact (r4.alloc _ _).open | with_reducible exact ((r4.alloc _ _).alloc _ _).open | with_reducible exact (((r4.alloc _ _).alloc _ _).far5 (by have := r4.lt; omega) _ _ _ _ _).open | with_reducible exact ((r4.alloc _ _).far5 (by omega) _ _ _ _ _).open | with_reducible exact ((r4.far5 (by omega) _ _ _ _ _).alloc _ _).open | fail)
      (first | (go_at_call 28; (with_reducible refine (area_c _ _ _ _ _).mono ?_); rintro e w4 ⟨rfl, hb4⟩; first | (have r4 := r3.drew.below hb4; have p4 := p3.drew.below hb4; have z4 := z3.drew.below hb4; have B4 : Below w.heap.size w w4 := bcall B3.drew hb4 (by have := p3.lt; simp; omega); have q4 := True.intro) | (have r4 := rA.below hb4; have p4 := pA.below hb4; have z4 := zA.below hb4; have q4 := qA.below hb4; obtain ⟨e0, e1, e2, e3, e4⟩ := q4.open; have g3 := q4.free; have l3 := q4.lt; have B4 : Below w.heap.size w w4 := bcall BA hb4 (by have := p3.lt; simp [World.size_alloc]; omega)); obtain ⟨k0, k1, k2, k3⟩ := r4.open; clear hb4))
    all_goals
      go_wp2_with fail
      go_meet
      first
      | with_reducible exact ⟨w4.heap.size, w4.heap.size + 1, rfl, made1 p4 z4 B4 C a' b' c' d'⟩
      | with_reducible exact ⟨w4.heap.size + 1, w4.heap.size, rfl, made2 p4 z4 B4 C a' b' c' d'⟩
      | with_reducible exact ⟨w4.heap.size, w3.heap.size, rfl, made3 (by omega) hz3 p4 z4 q4 B4 C a' b' c' d'⟩
      | fail
  case rest =>
    obtain ⟨g, B, rfl, M⟩ := hcut
    clear p3 r3 z3 B3 r0 r1' r2' r3' hmk
    obtain ⟨c0, c1, c2, c3, c4⟩ := M.p.open
    obtain ⟨d0, d1, d2, d3, d4⟩ := M.part.open
    have eC : (List.replicate C (0 : Int)).length = C := List.length_replicate
    rw [eC] at d4
    go_wp2_with fail
    have ho := over_c a' b' c' d' a b c d g s C m (List.replicate C 0) l [] wc HQ.out hp (Nat.le_of_eq eC) hm M.row (hH.below M.below (Nat.le_refl _)) (fun hl p hp => by have := hH.lt hl p hp; have := M.hg; omega)
    rw [eC] at ho
    refine ho.mono ?_
    rintro e w5 ⟨rfl, hbut, hrow5⟩
    rw [HC.out] at hrow5
    have hgz := M.hg
    have hBz := M.hB
    have part5 := M.part.but hbut M.hne.symm
    have z5 := M.z.but hbut (by omega)
    have B5 := But.below M.below hbut (by omega)
    have hlen : (cropL ⟨a, b, c, d⟩ l ⟨a', b', c', d'⟩).length = C := by rw [← HC.out, pasteL, tabL_len, ← pv_len HQ.out, eC]
    have HR : Hid _ := hrow5
    have HLen : Hid _ := hlen
    rw [eC] at part5
    clear c0 c1 c2 c3 c4 d0 d1 d2 d3 d4 ho hrow5 hlen hbut M
    obtain ⟨d0, d1, d2, d3, d4⟩ := part5.open
    obtain ⟨e0, e1, e2, e3, e4⟩ := z5.open
    have g5 := z5.free
    have z5l := z5.lt
    go_wp2
    refine bodyPost_ret (v := .tuple #[.agg #[.int .i64 a', .int .i64 b', .int .i64 c', .int .i64 d', .slice (some ⟨g, 0, none⟩) C C], .int .i64 0]) ?_ rfl ?_
    · obtain ⟨q0, q1, q2, q3, q4⟩ := (z5.store a' b' c' d' (.slice (some ⟨g, 0, none⟩) C C)).open
      simp [results, Try.results58, go_sem, q0, q1, q2, q3, q4]
    · have hrw : RowP w5 g (cropL ⟨a, b, c, d⟩ l ⟨a', b', c', d'⟩) [] := HR.out
      exact ⟨some ⟨g, 0, none⟩, C, by rw [HLen.out], (hrw.far5 (by omega) _ _ _ _ _).holds, below5 B5 (by omega) _ _ _ _ _, Nat.le_of_eq HLen.out⟩
end Go.Proofs.Ytnfnidgabgdphaa
