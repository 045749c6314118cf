/-
  moved of the statements of layer 5: a number added to each sample.
-/
import Derived.Test.YtoplgnckdmkaoaaOff
set_option maxRecDepth 100000
namespace Go.Proofs.Ytoplgnckdmkaoaa
open Go.RowKit

theorem fill_at {l : List Int} {d : Int} {k : Nat} (hk : k < l.length) : (Ex.addL d l)[k]'(by rw [Ex.addL_len]; exact hk) = l[k] + d := by simp [Ex.addL]
structure Md (w : World) (P Z : Nat) (rp : Pl.R) (vp : Value) (q : Pl.R) (L : List Int) (W : World) (g B : Nat) : Prop where
  p : QBox W P rp vp
  z : QBox W Z ⟨0, 0, 0, 0⟩ (.slice none 0 0)
  part : QBox W B q (.slice (some ⟨g, 0, none⟩) L.length L.length)
  row : RowAt W g L
  below : Below w.heap.size w W
  hP : P < Z
  hw : w.heap.size ≤ P
  hg : Z < g
  hB : Z < B
  hne : g ≠ B
theorem mdA {w w4 : World} {P Z : Nat} {rp : Pl.R} {vp : Value} (p4 : QBox w4 P rp vp) (z4 : QBox w4 Z ⟨0, 0, 0, 0⟩ (.slice none 0 0)) (B4 : Below w.heap.size w w4) (hP : P < Z) (hw : w.heap.size ≤ P) (n : Nat) (a b c d : Int) :
    Md w P Z rp vp ⟨a, b, c, d⟩ (List.replicate n 0) ((w4.alloc (zeroRow n)).alloc (.cells #[.int .i64 a, .int .i64 b, .int .i64 c, .int .i64 d, .slice (some ⟨w4.heap.size, 0, none⟩) n n] 26)) w4.heap.size (w4.heap.size + 1) := by
  have hz := z4.lt
  have e : (w4.alloc (zeroRow n)).heap.size = w4.heap.size + 1 := by simp
  refine ⟨(p4.alloc _).alloc _, (z4.alloc _).alloc _, ?_, ?_, ?_, hP, hw, hz, by omega, by omega⟩
  · rw [List.length_replicate]; exact QBox.freshAt (w4.alloc (zeroRow n)) (w4.heap.size + 1) e.symm a b c d (some ⟨w4.heap.size, 0, none⟩) n n 26
  · exact (rowAt_made w4 n).below ((Below.refl _ _).alloc (Nat.le_refl _) _)
  · exact (B4.alloc (by omega) _).alloc (by rw [e]; omega) _
theorem mdB {w w4 : World} {P Z : Nat} {rp : Pl.R} {vp : Value} (p4 : QBox w4 P rp vp) (z4 : QBox w4 Z ⟨0, 0, 0, 0⟩ (.slice none 0 0)) (B4 : Below w.heap.size w w4) (hP : P < Z) (hw : w.heap.size ≤ P) (n : Nat) (a b c d : Int) :
    Md w P Z rp vp ⟨a, b, c, d⟩ (List.replicate n 0) ((w4.alloc (.cells #[.int .i64 a, .int .i64 b, .int .i64 c, .int .i64 d, .slice (some ⟨w4.heap.size + 1, 0, none⟩) n n] 26)).alloc (zeroRow n)) (w4.heap.size + 1) w4.heap.size := by
  have hz := z4.lt
  have e : (w4.alloc (.cells #[.int .i64 a, .int .i64 b, .int .i64 c, .int .i64 d, .slice (some ⟨w4.heap.size + 1, 0, none⟩) n n] 26)).heap.size = w4.heap.size + 1 := by simp
  refine ⟨(p4.alloc _).alloc _, (z4.alloc _).alloc _, ?_, ?_, ?_, hP, hw, by omega, hz, by omega⟩
  · rw [List.length_replicate]; exact (QBox.fresh w4 a b c d (some ⟨w4.heap.size + 1, 0, none⟩) n n 26).alloc (zeroRow n)
  · have := rowAt_made (w4.alloc (.cells #[.int .i64 a, .int .i64 b, .int .i64 c, .int .i64 d, .slice (some ⟨w4.heap.size + 1, 0, none⟩) n n] 26)) n
    rw [e] at this
    exact this
  · exact (B4.alloc (by omega) _).alloc (by rw [e]; omega) _
theorem Md.drew {w W : World} {P Z g B : Nat} {rp q : Pl.R} {vp : Value} {L : List Int} (h : Md w P Z rp vp q L W g B) : Md w P Z rp vp q L W.drew g B :=
  ⟨h.p.drew, h.z.drew, h.part.drew, h.row, h.below.drew, h.hP, h.hw, h.hg, h.hB, h.hne⟩
theorem Md.set {w W : World} {P Z g B : Nat} {rp q : Pl.R} {vp : Value} {L : List Int} (h : Md w P Z rp vp q L W g B) (k : Nat) (v : Int) : Md w P Z rp vp q (L.set k v) (W.setCell ⟨g, k, none⟩ (.int .i64 v)) g B := by
  have h1 := h.hP
  have h2 := h.hw
  have h3 := h.hg
  have h4 := h.hB
  have h5 := h.hne
  exact ⟨h.p.far _ _ (by show P ≠ g; omega), h.z.far _ _ (by show Z ≠ g; omega), by rw [List.length_set]; exact h.part.far _ _ h5.symm, h.row.set k v, h.below.setCell (by show w.heap.size ≤ g; omega) _, h1, h2, h3, h4, h5⟩
set_option maxHeartbeats 4000000 in
theorem mv5_c (a b c d dd : Int) (s : Option Addr) (m : Nat) (l : List Int) (w : World) (hl1 : l.length ≤ 1048576) (hH : HoldsI w s l) (hin : ∀ v ∈ l, IntKind.i64.wrap (v + dd) = v + dd) :
    Calls Try.prog 21 #[.agg #[.int .i64 a, .int .i64 b, .int .i64 c, .int .i64 d, .slice s l.length m], .int .i64 dd] w fun e w' => ∃ g, e = .returned (.agg #[.int .i64 a, .int .i64 b, .int .i64 c, .int .i64 d, .slice (some ⟨g, 0, none⟩) (Ex.addL dd l).length (Ex.addL dd l).length]) ∧ RowAt w' g (Ex.addL dd l) ∧ Below w.heap.size w w' ∧ w.heap.size ≤ g := by
  have hmk := fun (W : World) => run_make_row' (P := Try.prog) 24 3 (.int .i64 0) 8 Try.underlying24 infoI rfl .i64 .i64 l.length (by omega) (by omega) W
  have p1 : QBox ((w.alloc (.cells #[.int .i64 a, .int .i64 b, .int .i64 c, .int .i64 d, .slice s l.length m] 26)).alloc (.cells #[.int .i64 0, .int .i64 0, .int .i64 0, .int .i64 0, .slice none 0 0] 26)) w.heap.size ⟨a, b, c, d⟩ (.slice s l.length m) := (QBox.fresh w a b c d s l.length m 26).alloc _
  have z1 : QBox ((w.alloc (.cells #[.int .i64 a, .int .i64 b, .int .i64 c, .int .i64 d, .slice s l.length m] 26)).alloc (.cells #[.int .i64 0, .int .i64 0, .int .i64 0, .int .i64 0, .slice none 0 0] 26)) (w.heap.size + 1) ⟨0, 0, 0, 0⟩ (.slice none 0 0) := QBox.freshAt (w.alloc (.cells #[.int .i64 a, .int .i64 b, .int .i64 c, .int .i64 d, .slice s l.length m] 26)) (w.heap.size + 1) (by simp) 0 0 0 0 none 0 0 26
  have B1 : Below w.heap.size w ((w.alloc (.cells #[.int .i64 a, .int .i64 b, .int .i64 c, .int .i64 d, .slice s l.length m] 26)).alloc (.cells #[.int .i64 0, .int .i64 0, .int .i64 0, .int .i64 0, .slice none 0 0] 26)) := ((Below.refl _ _).alloc (Nat.le_refl _) _).alloc (by simp) _
  go_enter Try.func21, Try.ntmps21
  go_upto_region 1 with fail
  generalize hw2 : (w.alloc (.cells #[.int .i64 a, .int .i64 b, .int .i64 c, .int .i64 d, .slice s l.length m] 26)).alloc (.cells #[.int .i64 0, .int .i64 0, .int .i64 0, .int .i64 0, .slice none 0 0] 26) = w1 at *
  clear hw2
  obtain ⟨c0, c1, c2, c3, c4⟩ := p1.open
  go_cut [5] (fun s8 wx => ∃ g B : Nat, s8 = .pointer (some ⟨B, 0, none⟩) ∧ Md w w.heap.size (w.heap.size + 1) ⟨a, b, c, d⟩ (.slice s l.length m) ⟨a, b, c, d⟩ (List.replicate l.length 0) wx g B)
  case first =>
    have pA := (p1.alloc zeroP).drew
    go_region_held3 (fun w' => w'.cell? ⟨w.heap.size, 0, none⟩ = some (.int .i64 a) ∧ w'.cell? ⟨w.heap.size, 1, none⟩ = some (.int .i64 b) ∧ w'.cell? ⟨w.heap.size, 2, none⟩ = some (.int .i64 c) ∧ w'.cell? ⟨w.heap.size, 3, none⟩ = some (.int .i64 d) ∧ w'.cell? ⟨w.heap.size, 4, none⟩ = some (.slice s l.length m))
      (first | (with_reducible assumption) | with_reducible exact p1.drew.open | with_reducible exact pA.open | with_reducible exact (p1.alloc _).drew.open | with_reducible exact ((p1.alloc _).alloc _).drew.open | fail)
      (fail)
    · go_wp2_with fail
      go_meet
      exact ⟨w1.heap.size, w1.heap.size + 1, rfl, (mdA p1 z1 B1 (by omega) (Nat.le_refl _) l.length a b c d).drew⟩
    · go_wp2_with fail
      go_meet
      exact ⟨w1.heap.size + 1, w1.heap.size, rfl, (mdB p1 z1 B1 (by omega) (Nat.le_refl _) l.length a b c d).drew⟩
  case rest =>
    obtain ⟨g, B, rfl, M⟩ := hcut
    clear p1 z1 B1 c0 c1 c2 c3 c4 hmk
    obtain ⟨c0, c1, c2, c3, c4⟩ := M.p.open
    go_wp2_with fail
    clear c0 c1 c2 c3 c4
    go_loopw [17] (fun i wr => ∃ k : Nat, k ≤ l.length ∧ i = .int .i64 k ∧ Md w w.heap.size (w.heap.size + 1) ⟨a, b, c, d⟩ (.slice s l.length m) ⟨a, b, c, d⟩ (fillL (Ex.addL dd l) k) wr g B) (fun i _ => l.length - (intOf i).toNat)
    case atStart => exact ⟨0, by omega, rfl, by rw [fillL_zero, Ex.addL_len]; exact M⟩
    case round =>
      obtain ⟨k, hk, rfl, M2⟩ := hrel
      clear M
      have hlenk : (fillL (Ex.addL dd l) k).length = l.length := by rw [fillL_len _ _ (by rw [Ex.addL_len]; exact hk), Ex.addL_len]
      have r2 := M2.part
      rw [hlenk] at r2
      obtain ⟨d0, d1, d2, d3, d4⟩ := r2.open
      obtain ⟨p0, p1, p2, p3, p4⟩ := M2.p.open
      by_cases hlt : k < l.length
      · rcases hH with rfl | ⟨bb, off, rfl, hr⟩
        · simp at hlt
        have hblt : bb < w.heap.size := cell_lt (hr k hlt)
        have hy0 : wr.cell? ⟨bb, off + k, none⟩ = some (.int .i64 l[k]) := (M2.below.cell (p := ⟨bb, _, none⟩) hblt).trans (hr k hlt)
        have hi1 : (k : Int) < (l.length : Int) := by omega
        have z0 := M2.row.at (k := k) (by rw [hlenk]; exact hlt)
        have z1 := M2.row.free k
        have M3 := M2.set k (l[k] + dd)
        rw [← fill_at (d := dd) hlt, fillL_next _ k (by rw [Ex.addL_len]; exact hlt)] at M3
        have HM : Hid _ := M3
        have HC : Hid _ := fill_at (d := dd) hlt
        have wv := hin _ (List.getElem_mem hlt)
        have w2 : IntKind.i64.wrap ((k : Int) + 1) = (k : Int) + 1 := IntWalk.i64_in _ (by omega)
        clear M3 M2 r2
        go_wp2_with fail
        go_region_law (fail)
        all_goals
          go_wp2_with fail
          go_roundw
          case rel => exact ⟨k + 1, by omega, by go_num, by have := HM.out; rw [HC.out] at this; first | exact this | exact this.drew⟩
          case measure => simp [intOf]; omega
      · obtain rfl : k = l.length := by omega
        have M4 := M2
        rw [← Ex.addL_len dd l, fillL_all, Ex.addL_len] at M4
        have z5 := M4.z
        obtain ⟨e0, e1, e2, e3, e4⟩ := z5.open
        have g5 := z5.free
        have hg5 := M4.hg
        have HM : Hid _ := M4
        clear M2 M4 r2
        go_wp2
        refine bodyPost_ret (v := .agg #[.int .i64 a, .int .i64 b, .int .i64 c, .int .i64 d, .slice (some ⟨g, 0, none⟩) l.length l.length]) ?_ rfl ?_
        · obtain ⟨q0, q1, q2, q3, q4⟩ := (z5.store a b c d (.slice (some ⟨g, 0, none⟩) l.length l.length)).open
          simp [results, Try.results21, go_sem, q0, q1, q2, q3, q4]
        · exact ⟨g, by rw [Ex.addL_len], ((RowP.of HM.out.row).far5 (by omega) _ _ _ _ _).out, below5 HM.out.below (by omega) _ _ _ _ _, by have := HM.out.hg; omega⟩
end Go.Proofs.Ytoplgnckdmkaoaa
