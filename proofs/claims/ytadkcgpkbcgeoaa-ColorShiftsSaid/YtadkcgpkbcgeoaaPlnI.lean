/-
  What each call of overlay on planes leaves, in one contract; what each call of Crop returns and leaves.
-/
import Derived.Test.YtadkcgpkbcgeoaaPlnH
import Derived.Deep.DeepCutAuto
set_option maxRecDepth 100000
namespace Go.Proofs.Ytadkcgpkbcgeoaa
open Go.RowKit

theorem paste_none {a b c d a' b' c' d' : Int} {l k : List Int} (hp : pvB a b c d l.length = true) (he : Pl.emptyB (max a a') (max b b') (min c c') (min d d') = true) : pasteL ⟨a, b, c, d⟩ l ⟨a', b', c', d'⟩ k = l := by
  rw [← tabL_self (pv_len hp)]
  refine tabL_congr fun x y hxy => ?_
  rw [tabL_self (pv_len hp), ovF, if_neg]
  intro h1
  have h2 := Pl.has_iff.1 h1
  have h3 := Pl.has_iff.1 hxy
  have h4 := Pl.empty_iff.1 he
  dsimp only at h2 h3
  omega
theorem HoldsI.lt {w : World} {s : Option Addr} {l : List Int} (h : HoldsI w s l) (hl : 0 < l.length) : ∀ p, s = some p → p.block < w.heap.size := by
  rcases h with rfl | ⟨b, off, rfl, hr⟩
  · simp at hl
  · rintro p hp
    simp at hp
    subst hp
    exact cell_lt (hr 0 hl)
theorem QBox.far5 {w : World} {B b : Nat} {r : Pl.R} {v : Value} (h : QBox w B r v) (hn : B ≠ b) (v0 v1 v2 v3 v4 : Value) : QBox (((((w.setCell ⟨b, 0, none⟩ v0).setCell ⟨b, 1, none⟩ v1).setCell ⟨b, 2, none⟩ v2).setCell ⟨b, 3, none⟩ v3).setCell ⟨b, 4, none⟩ v4) B r v :=
  ((((h.far _ _ hn).far _ _ hn).far _ _ hn).far _ _ hn).far _ _ hn
theorem Box.far5 {w : World} {B b : Nat} {r : Pl.R} (h : Box w B r) (hn : B ≠ b) (v0 v1 v2 v3 v4 : Value) : Box (((((w.setCell ⟨b, 0, none⟩ v0).setCell ⟨b, 1, none⟩ v1).setCell ⟨b, 2, none⟩ v2).setCell ⟨b, 3, none⟩ v3).setCell ⟨b, 4, none⟩ v4) B r :=
  ((((h.far _ _ hn).far _ _ hn).far _ _ hn).far _ _ hn).far _ _ hn
theorem RowP.far {w : World} {g : Nat} {l : List Int} {pad : List Value} (h : RowP w g l pad) (a : Addr) (v : Value) (hn : g ≠ a.block) : RowP (w.setCell a v) g l pad := (Below.heap_setCell _ _ _ _ hn).trans h
theorem RowP.far5 {w : World} {B b : Nat} {l : List Int} {pad : List Value} (h : RowP w B l pad) (hn : B ≠ b) (v0 v1 v2 v3 v4 : Value) : RowP (((((w.setCell ⟨b, 0, none⟩ v0).setCell ⟨b, 1, none⟩ v1).setCell ⟨b, 2, none⟩ v2).setCell ⟨b, 3, none⟩ v3).setCell ⟨b, 4, none⟩ v4) B l pad :=
  ((((h.far _ _ hn).far _ _ hn).far _ _ hn).far _ _ hn).far _ _ hn
/-- A plane of the call's own stands in its variable. -/
structure Made (w : World) (P : Nat) (rp : Pl.R) (vp : Value) (q : Pl.R) (L : List Int) (cap : Nat) (pad : List Value) (W : World) (g B : Nat) : Prop where
  p : QBox W P rp vp
  z : QBox W (w.heap.size + 2) ⟨0, 0, 0, 0⟩ (.slice none 0 0)
  part : QBox W B q (.slice (some ⟨g, 0, none⟩) L.length cap)
  row : RowP W g L pad
  below : Below w.heap.size w W
  hg : w.heap.size + 2 < g
  hB : w.heap.size + 2 < B
  hne : g ≠ B
abbrev zeroP : Obj := .cells #[.int .i64 0, .int .i64 0, .int .i64 0, .int .i64 0, .slice none 0 0] 40
abbrev zeroRow (n : Nat) : Obj := .cells (madeCells #[.int .i64 0] n) 3
theorem made1 {w w4 : World} {P : Nat} {rp : Pl.R} {vp : Value} (p4 : QBox w4 P rp vp) (z4 : QBox w4 (w.heap.size + 2) ⟨0, 0, 0, 0⟩ (.slice none 0 0)) (B4 : Below w.heap.size w w4) (n : Nat) (a b c d : Int) :
    Made w P rp vp ⟨a, b, c, d⟩ (List.replicate n 0) n [] ((w4.alloc (zeroRow n)).alloc (.cells #[.int .i64 a, .int .i64 b, .int .i64 c, .int .i64 d, .slice (some ⟨w4.heap.size, 0, none⟩) n n] 40)) w4.heap.size (w4.heap.size + 1) := by
  have hz := z4.lt
  have e : (w4.alloc (zeroRow n)).heap.size = w4.heap.size + 1 := by simp
  refine ⟨(p4.alloc _).alloc _, (z4.alloc _).alloc _, ?_, ?_, ?_, hz, by omega, by omega⟩
  · rw [List.length_replicate]; exact QBox.freshAt (w4.alloc (zeroRow n)) (w4.heap.size + 1) e.symm a b c d (some ⟨w4.heap.size, 0, none⟩) n n 40
  · exact (RowP.of (rowAt_made w4 n)).below ((Below.refl _ _).alloc (Nat.le_refl _) _)
  · exact (B4.alloc (by omega) _).alloc (by rw [e]; omega) _
theorem made2 {w w4 : World} {P : Nat} {rp : Pl.R} {vp : Value} (p4 : QBox w4 P rp vp) (z4 : QBox w4 (w.heap.size + 2) ⟨0, 0, 0, 0⟩ (.slice none 0 0)) (B4 : Below w.heap.size w w4) (n : Nat) (a b c d : Int) :
    Made w P rp vp ⟨a, b, c, d⟩ (List.replicate n 0) n [] ((w4.alloc (.cells #[.int .i64 a, .int .i64 b, .int .i64 c, .int .i64 d, .slice (some ⟨w4.heap.size + 1, 0, none⟩) n n] 40)).alloc (zeroRow n)) (w4.heap.size + 1) w4.heap.size := by
  have hz := z4.lt
  have e : (w4.alloc (.cells #[.int .i64 a, .int .i64 b, .int .i64 c, .int .i64 d, .slice (some ⟨w4.heap.size + 1, 0, none⟩) n n] 40)).heap.size = w4.heap.size + 1 := by simp
  refine ⟨(p4.alloc _).alloc _, (z4.alloc _).alloc _, ?_, ?_, ?_, by omega, hz, by omega⟩
  · rw [List.length_replicate]; exact (QBox.fresh w4 a b c d (some ⟨w4.heap.size + 1, 0, none⟩) n n 40).alloc (zeroRow n)
  · have := RowP.of (rowAt_made (w4.alloc (.cells #[.int .i64 a, .int .i64 b, .int .i64 c, .int .i64 d, .slice (some ⟨w4.heap.size + 1, 0, none⟩) n n] 40)) n)
    rw [e] at this
    exact this
  · exact (B4.alloc (by omega) _).alloc (by rw [e]; omega) _
theorem made3 {w w4 : World} {P B : Nat} {rp : Pl.R} {vp : Value} (hP : P < w.heap.size + 2) (hB : w.heap.size + 2 < B) (p4 : QBox w4 P rp vp) (z4 : QBox w4 (w.heap.size + 2) ⟨0, 0, 0, 0⟩ (.slice none 0 0)) (q4 : QBox w4 B ⟨0, 0, 0, 0⟩ (.slice none 0 0)) (B4 : Below w.heap.size w w4) (n : Nat) (a b c d : Int) :
    Made w P rp vp ⟨a, b, c, d⟩ (List.replicate n 0) n [] ((((((w4.setCell ⟨B, 0, none⟩ (.int .i64 a)).setCell ⟨B, 1, none⟩ (.int .i64 b)).setCell ⟨B, 2, none⟩ (.int .i64 c)).setCell ⟨B, 3, none⟩ (.int .i64 d)).setCell ⟨B, 4, none⟩ (.slice (some ⟨w4.heap.size, 0, none⟩) n n)).alloc (zeroRow n)) w4.heap.size B := by
  have hz := z4.lt
  have hq := q4.lt
  refine ⟨(p4.far5 (by omega) _ _ _ _ _).alloc _, (z4.far5 (by omega) _ _ _ _ _).alloc _, ?_, ?_, ?_, hz, hB, by omega⟩
  · have := (q4.store a b c d (.slice (some ⟨w4.heap.size, 0, none⟩) n n)).alloc (zeroRow n)
    rw [List.length_replicate]; exact this
  · have := RowP.of (rowAt_made (((((w4.setCell ⟨B, 0, none⟩ (.int .i64 a)).setCell ⟨B, 1, none⟩ (.int .i64 b)).setCell ⟨B, 2, none⟩ (.int .i64 c)).setCell ⟨B, 3, none⟩ (.int .i64 d)).setCell ⟨B, 4, none⟩ (.slice (some ⟨w4.heap.size, 0, none⟩) n n)) n)
    simp only [World.size_setCell] at this
    exact this
  · exact (below5 B4 (by omega) _ _ _ _ _).alloc (by simp only [World.size_setCell]; omega) _
theorem area_mono {a b c d a' b' c' d' : Int} (hv : Pl.validB a b c d = true) (hv' : Pl.validB a' b' c' d' = true) (hc : Pl.contB a b c d a' b' c' d' = true) : Pl.areaI a' b' c' d' ≤ Pl.areaI a b c d ∧ 0 ≤ Pl.areaI a' b' c' d' := by
  have h0 := (Pl.area_bd hv).1
  have h0' := (Pl.area_bd hv').1
  obtain ⟨v1, v2, v3, v4, v5, v6⟩ := Pl.valid_iff.1 hv
  obtain ⟨u1, u2, u3, u4, u5, u6⟩ := Pl.valid_iff.1 hv'
  rw [Pl.areaI, Pl.areaI, if_pos hv, if_pos hv']
  refine ⟨?_, h0'⟩
  rcases Pl.cont_iff.1 hc with (h | h) | ⟨h1, h2, h3, h4⟩
  · rw [show c' - a' = 0 by omega, Int.zero_mul]; exact h0
  · rw [show d' - b' = 0 by omega, Int.mul_zero]; exact h0
  · exact Int.le_trans (Int.mul_le_mul_of_nonneg_right (show c' - a' ≤ c - a by omega) (by omega)) (Int.mul_le_mul_of_nonneg_left (show d' - b' ≤ d - b by omega) (by omega))
theorem crop_over {a b c d a' b' c' d' : Int} {l z : List Int} (hc : Pl.contB a b c d a' b' c' d' = true) : pasteL ⟨a', b', c', d'⟩ z ⟨a, b, c, d⟩ l = cropL ⟨a, b, c, d⟩ l ⟨a', b', c', d'⟩ := by
  refine tabL_congr fun x y hxy => ?_
  rw [ovF, if_pos]
  have h1 := Pl.has_iff.1 hxy
  have h2 := Pl.cont_iff.1 hc
  exact Pl.has_iff.2 ⟨by dsimp only; omega, by dsimp only; omega, by dsimp only; omega, by dsimp only; omega⟩
end Go.Proofs.Ytadkcgpkbcgeoaa
