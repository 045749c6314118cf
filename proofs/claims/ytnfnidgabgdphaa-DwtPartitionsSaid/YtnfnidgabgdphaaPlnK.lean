/-
  What each call of Clip on planes returns and leaves.
-/
import Derived.Test.YtnfnidgabgdphaaPlnJ
set_option maxRecDepth 100000
namespace Go.Proofs.Ytnfnidgabgdphaa
open Go.RowKit

theorem clipL_len (lo hi : Int) (l : List Int) : (clipL lo hi l).length = l.length := by simp [clipL]
/-- A plane of the call's own stands in its variable. -/
structure Made3 (w : World) (P Z : Nat) (rp : Pl.R) (vp : Value) (q : Pl.R) (L : List Int) (W : World) (g B : Nat) : Prop where
  p : QBox W P rp vp
  z : QBox W Z ⟨0, 0, 0, 0⟩ (.slice none 0 0)
  part : QBox W B q (.slice (some ⟨g, 0, none⟩) L.length L.length)
  row : RowAt W g L
  below : Below w.heap.size w W
  hP : P < Z
  hw : w.heap.size ≤ P
  hg : Z < g
  hB : Z < B
  hne : g ≠ B
theorem made3a {w w4 : World} {P Z : Nat} {rp : Pl.R} {vp : Value} (p4 : QBox w4 P rp vp) (z4 : QBox w4 Z ⟨0, 0, 0, 0⟩ (.slice none 0 0)) (B4 : Below w.heap.size w w4) (hP : P < Z) (hw : w.heap.size ≤ P) (n : Nat) (a b c d : Int) :
    Made3 w P Z rp vp ⟨a, b, c, d⟩ (List.replicate n 0) ((w4.alloc (zeroRow n)).alloc (.cells #[.int .i64 a, .int .i64 b, .int .i64 c, .int .i64 d, .slice (some ⟨w4.heap.size, 0, none⟩) n n] 30)) w4.heap.size (w4.heap.size + 1) := by
  have hz := z4.lt
  have e : (w4.alloc (zeroRow n)).heap.size = w4.heap.size + 1 := by simp
  refine ⟨(p4.alloc _).alloc _, (z4.alloc _).alloc _, ?_, ?_, ?_, hP, hw, hz, by omega, by omega⟩
  · rw [List.length_replicate]; exact QBox.freshAt (w4.alloc (zeroRow n)) (w4.heap.size + 1) e.symm a b c d (some ⟨w4.heap.size, 0, none⟩) n n 30
  · exact (rowAt_made w4 n).below ((Below.refl _ _).alloc (Nat.le_refl _) _)
  · exact (B4.alloc (by omega) _).alloc (by rw [e]; omega) _
theorem made3b {w w4 : World} {P Z : Nat} {rp : Pl.R} {vp : Value} (p4 : QBox w4 P rp vp) (z4 : QBox w4 Z ⟨0, 0, 0, 0⟩ (.slice none 0 0)) (B4 : Below w.heap.size w w4) (hP : P < Z) (hw : w.heap.size ≤ P) (n : Nat) (a b c d : Int) :
    Made3 w P Z rp vp ⟨a, b, c, d⟩ (List.replicate n 0) ((w4.alloc (.cells #[.int .i64 a, .int .i64 b, .int .i64 c, .int .i64 d, .slice (some ⟨w4.heap.size + 1, 0, none⟩) n n] 30)).alloc (zeroRow n)) (w4.heap.size + 1) w4.heap.size := by
  have hz := z4.lt
  have e : (w4.alloc (.cells #[.int .i64 a, .int .i64 b, .int .i64 c, .int .i64 d, .slice (some ⟨w4.heap.size + 1, 0, none⟩) n n] 30)).heap.size = w4.heap.size + 1 := by simp
  refine ⟨(p4.alloc _).alloc _, (z4.alloc _).alloc _, ?_, ?_, ?_, hP, hw, by omega, hz, by omega⟩
  · rw [List.length_replicate]; exact (QBox.fresh w4 a b c d (some ⟨w4.heap.size + 1, 0, none⟩) n n 30).alloc (zeroRow n)
  · have := rowAt_made (w4.alloc (.cells #[.int .i64 a, .int .i64 b, .int .i64 c, .int .i64 d, .slice (some ⟨w4.heap.size + 1, 0, none⟩) n n] 30)) n
    rw [e] at this
    exact this
  · exact (B4.alloc (by omega) _).alloc (by rw [e]; omega) _
theorem Made3.drew {w W : World} {P Z g B : Nat} {rp q : Pl.R} {vp : Value} {L : List Int} (h : Made3 w P Z rp vp q L W g B) : Made3 w P Z rp vp q L W.drew g B :=
  ⟨h.p.drew, h.z.drew, h.part.drew, h.row, h.below.drew, h.hP, h.hw, h.hg, h.hB, h.hne⟩
theorem Made3.set {w W : World} {P Z g B : Nat} {rp q : Pl.R} {vp : Value} {L : List Int} (h : Made3 w P Z rp vp q L W g B) (k : Nat) (v : Int) : Made3 w P Z rp vp q (L.set k v) (W.setCell ⟨g, k, none⟩ (.int .i64 v)) g B := by
  have h1 := h.hP
  have h2 := h.hw
  have h3 := h.hg
  have h4 := h.hB
  have h5 := h.hne
  exact ⟨h.p.far _ _ (by show P ≠ g; omega), h.z.far _ _ (by show Z ≠ g; omega), by rw [List.length_set]; exact h.part.far _ _ h5.symm, h.row.set k v, h.below.setCell (by show w.heap.size ≤ g; omega) _, h1, h2, h3, h4, h5⟩
theorem clip_at {lo hi : Int} {l : List Int} {k : Nat} (hk : k < l.length) : (clipL lo hi l)[k]'(by rw [clipL_len]; exact hk) = min (max l[k] lo) hi := by simp [clipL, clipI]
end Go.Proofs.Ytnfnidgabgdphaa
