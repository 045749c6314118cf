/-
  What PlanePieces asks of Row and of Column, and a list of the call's own to which rows are appended.
-/
import Derived.Test.YtamkipdalegioaaPlnS
import Derived.Test.YtamkipdalegioaaPlnO
import Derived.Laws.CopyOwn
namespace Go.Proofs.Ytamkipdalegioaa
open Go.RowKit

/-- The call returns a row of its own, of n integers. -/
def RowFresh (r : Pl.R) (l : List Int) (y : Int) (n : Nat) (w : World) (e : Ending) (w' : World) : Prop :=
  ∃ g m, e = .returned (.tuple #[.slice (some ⟨g, 0, none⟩) n m, .bool true]) ∧ w.heap.size ≤ g ∧ HoldsI w' (some ⟨g, 0, none⟩) (rowL r l y) ∧ Below w.heap.size w w'
set_option maxRecDepth 100000 in
set_option maxHeartbeats 1000000 in
theorem row_fresh1 (a b c d y : Int) (s : Option Addr) (m : Nat) (l : List Int) (w : World) (hp : pvB a b c d l.length = true) (h1 : b ≤ y) (h2 : y < d) (hw : a < c) (hm : l.length ≤ m) (hH : HoldsI w s l) :
    Calls Try.prog 22 #[.agg #[.int .i64 a, .int .i64 b, .int .i64 c, .int .i64 d, .slice s l.length m], .int .i64 y] w (RowFresh ⟨a, b, c, d⟩ l y (c - a).toNat w) := by
  obtain ⟨hv, har, hn⟩ := pv_iff.1 hp
  obtain ⟨v1, v2, v3, v4, v5, v6⟩ := Pl.valid_iff.1 hv
  obtain ⟨hrl, hle⟩ := rowL_drop hp h1 h2
  obtain ⟨_, _, p2, p3⟩ := idx_bd hv (Int.le_refl a) v2 h1 (show y ≤ d by omega)
  obtain ⟨C, hC⟩ : ∃ C : Nat, c - a = (C : Int) := ⟨(c - a).toNat, by omega⟩
  have hCt : (c - a).toNat = C := by omega
  have hC4 : C ≤ 4096 := by omega
  rw [hCt] at hrl hle
  obtain ⟨k, hk⟩ : ∃ k : Nat, idx a b c a y = (k : Int) := ⟨(idx a b c a y).toNat, by omega⟩
  have hkt : (idx a b c a y).toNat = k := by omega
  rw [hkt] at hrl hle
  have hkl : k < l.length := by omega
  have hki : (k : Int) < (l.length : Int) := by omega
  have hki' : (k : Int) ≤ (l.length : Int) := by omega
  have hkm : ¬ k = m := by omega
  have hkm2 : ¬ m = k := by omega
  have hkm' : (k : Int) ≤ (m : Int) := by omega
  rcases hH with rfl | ⟨bb, off, rfl, hr⟩
  · simp at hkl
  have hH : HoldsI w (some ⟨bb, off, none⟩) l := .inr ⟨bb, off, rfl, hr⟩
  have hblt : bb < w.heap.size := cell_lt (hr k hkl)
  have hmk := fun (W : World) => run_make_row' (P := Try.prog) 24 3 (.int .i64 0) 8 Try.underlying24 infoI rfl .i64 .i64 C (by omega) (by omega) W
  have hd : ¬ y < b := by omega
  have HL : Hid _ := hrl
  have HM : Hid _ := hle
  clear hrl hle hn har p2 p3
  go_enter Try.func22, Try.ntmps22
  go_wp2_with fail
  refine (pv_c _ _ _ _ _ _ _ _).mono ?_
  rintro e w1 ⟨rfl, hb1⟩
  have hS1 := (Q1.fresh a b c d (some ⟨bb, off, none⟩) l.length m w).step hb1
  obtain ⟨c0, c1, c2, c3, c4⟩ := hS1.q.open
  go_wp2_with fail
  refine (width_c _ _ _ _ _ _ _ _ hv).mono ?_
  rintro e w2 ⟨rfl, hb2⟩
  have hS2 := hS1.step hb2
  clear c0 c1 c2 c3 c4 hb1 hb2 hS1
  obtain ⟨c0, c1, c2, c3, c4⟩ := hS2.q.open
  go_wp2_with fail
  have r0 : RowAt (w2.alloc (.cells (madeCells #[.int .i64 0] C) 3)) w2.heap.size (List.replicate C 0) := rowAt_made _ _
  have q0 := hS2.q.alloc (.cells (madeCells #[.int .i64 0] C) 3)
  have B0 : Below w.heap.size w (w2.alloc (.cells (madeCells #[.int .i64 0] C) 3)) := hS2.below.alloc (by have := hS2.q.lt; omega) _
  have hlt2 := hS2.q.lt
  have h2w := hS2.below.size
  clear hS2
  go_region_held3 (fun w' => w'.cell? ⟨w.heap.size, 0, none⟩ = some (.int .i64 a) ∧ w'.cell? ⟨w.heap.size, 1, none⟩ = some (.int .i64 b) ∧ w'.cell? ⟨w.heap.size, 2, none⟩ = some (.int .i64 c) ∧ w'.cell? ⟨w.heap.size, 3, none⟩ = some (.int .i64 d) ∧ w'.cell? ⟨w.heap.size, 4, none⟩ = some (.slice (some ⟨bb, off, none⟩) l.length m))
    (first | (with_reducible assumption) | exact q0.drew.open | exact q3.open | exact q4.open)
    (first | (go_at_call 43; (with_reducible refine (index_c _ _ _ _ _ _ _ _ _ _ hv (by omega) (by omega) (by omega) (by omega)).mono ?_); rintro e w3 ⟨rfl, hb3⟩; have q3 := q0.drew.below hb3; have r3 := r0.drew.below hb3; have B3 : Below w.heap.size w w3 := bcall B0.drew hb3 (by simp; omega); clear hb3)
            | ((refine step_copy_splice rfl (.tmp 27) (.tmp 36) 24 24 rfl 3 Try.underlying24 szI _ _ _ _ _ _ rfl rfl w2.heap.size 0 ((List.replicate C 0).map (Value.int .i64)) 3 r3 ((rowL ⟨a, b, c, d⟩ l y).map (Value.int .i64)) (by have := HM.out; rw [List.length_map, rowL_len]; show (c - a).toNat = min _ C; omega) (fun _ => ⟨rfl, ⟨bb, off + k, none⟩, rfl, by rw [HL.out]; exact holdsI_part (hH.below (B := w.heap.size) B3 (Nat.le_refl _)) k C HM.out⟩) (by rw [List.length_map, rowL_len]; simp; omega) (oneI _) w2.heap.size w3 (Below.refl _ _) (Nat.le_refl _) ?_); intro w4 hg4 hb4; have q4 := q3.belowAt hb4 hlt2; have r4 := hg4.out; have B4 : Below w.heap.size w w4 := B3.trans (hb4.mono (by omega))))
  have r5 : RowAt w4 w2.heap.size (rowL ⟨a, b, c, d⟩ l y) := by
    rw [splice_map, splice_all _ _ (by rw [rowL_len, List.length_replicate]; exact hCt)] at r4
    exact r4
  have HR : Hid (RowAt w4 w2.heap.size (rowL ⟨a, b, c, d⟩ l y)) := r5
  clear r4 hg4 r5
  go_wp2
  go_ret2
  exact ⟨w2.heap.size, C, by rw [hCt]; rfl, h2w, HR.out.holds, B4⟩
set_option maxRecDepth 100000 in
set_option maxHeartbeats 1000000 in
theorem row_fresh0 (a b c d y : Int) (s : Option Addr) (m : Nat) (l : List Int) (w : World) (hp : pvB a b c d l.length = true) (h1 : b ≤ y) (h2 : y < d) (hw : c ≤ a) (_hm : l.length ≤ m) (_hH : HoldsI w s l) :
    Calls Try.prog 22 #[.agg #[.int .i64 a, .int .i64 b, .int .i64 c, .int .i64 d, .slice s l.length m], .int .i64 y] w (RowFresh ⟨a, b, c, d⟩ l y (c - a).toNat w) := by
  obtain ⟨hv, har, hn⟩ := pv_iff.1 hp
  obtain ⟨v1, v2, v3, v4, v5, v6⟩ := Pl.valid_iff.1 hv
  obtain ⟨hrl, hle⟩ := rowL_drop hp h1 h2
  obtain ⟨_, _, p2, p3⟩ := idx_bd hv (Int.le_refl a) v2 h1 (show y ≤ d by omega)
  obtain ⟨C, hC⟩ : ∃ C : Nat, c - a = (C : Int) := ⟨(c - a).toNat, by omega⟩
  have hCt : (c - a).toNat = C := by omega
  have hC4 : C ≤ 4096 := by omega
  rw [hCt] at hrl hle
  have hi0 : idx a b c a y = 0 := by unfold idx; rw [show c - a = 0 by omega]; simp
  have hm0 : (0 : Int) ≤ (m : Int) := by omega
  have h00 : (0 : Int) ≤ (l.length : Int) := by omega
  have hmk := fun (W : World) => run_make_row' (P := Try.prog) 24 3 (.int .i64 0) 8 Try.underlying24 infoI rfl .i64 .i64 C (by omega) (by omega) W
  have hd : ¬ y < b := by omega
  have HL : Hid _ := hrl
  have HM : Hid _ := hle
  clear hrl hle hn har p2 p3
  go_enter Try.func22, Try.ntmps22
  go_wp2_with fail
  refine (pv_c _ _ _ _ _ _ _ _).mono ?_
  rintro e w1 ⟨rfl, hb1⟩
  have hS1 := (Q1.fresh a b c d s l.length m w).step hb1
  obtain ⟨c0, c1, c2, c3, c4⟩ := hS1.q.open
  go_wp2_with fail
  refine (width_c _ _ _ _ _ _ _ _ hv).mono ?_
  rintro e w2 ⟨rfl, hb2⟩
  have hS2 := hS1.step hb2
  clear c0 c1 c2 c3 c4 hb1 hb2 hS1
  obtain ⟨c0, c1, c2, c3, c4⟩ := hS2.q.open
  go_wp2_with fail
  have r0 : RowAt (w2.alloc (.cells (madeCells #[.int .i64 0] C) 3)) w2.heap.size (List.replicate C 0) := rowAt_made _ _
  have q0 := hS2.q.alloc (.cells (madeCells #[.int .i64 0] C) 3)
  have B0 : Below w.heap.size w (w2.alloc (.cells (madeCells #[.int .i64 0] C) 3)) := hS2.below.alloc (by have := hS2.q.lt; omega) _
  have hlt2 := hS2.q.lt
  have h2w := hS2.below.size
  clear hS2
  go_region_held3 (fun w' => w'.cell? ⟨w.heap.size, 0, none⟩ = some (.int .i64 a) ∧ w'.cell? ⟨w.heap.size, 1, none⟩ = some (.int .i64 b) ∧ w'.cell? ⟨w.heap.size, 2, none⟩ = some (.int .i64 c) ∧ w'.cell? ⟨w.heap.size, 3, none⟩ = some (.int .i64 d) ∧ w'.cell? ⟨w.heap.size, 4, none⟩ = some (.slice s l.length m))
    (first | (with_reducible assumption) | exact q0.drew.open | exact q3.open | exact q4.open)
    (first | (go_at_call 43; (with_reducible refine (index_c _ _ _ _ _ _ _ _ _ _ hv (by omega) (by omega) (by omega) (by omega)).mono ?_); rintro e w3 ⟨rfl, hb3⟩; have q3 := q0.drew.below hb3; have r3 := r0.drew.below hb3; have B3 : Below w.heap.size w w3 := bcall B0.drew hb3 (by simp; omega); clear hb3)
            | ((refine step_copy_splice rfl (.tmp 27) (.tmp 36) 24 24 rfl 3 Try.underlying24 szI _ _ _ _ _ _ rfl rfl w2.heap.size 0 ((List.replicate C 0).map (Value.int .i64)) 3 r3 ((rowL ⟨a, b, c, d⟩ l y).map (Value.int .i64)) (by have := HM.out; rw [List.length_map, rowL_len]; show (c - a).toNat = min _ C; omega) (fun h => by exfalso; rw [List.length_map, rowL_len] at h; simp at h; omega) (by rw [List.length_map, rowL_len]; simp; omega) (oneI _) w2.heap.size w3 (Below.refl _ _) (Nat.le_refl _) ?_); intro w4 hg4 hb4; have q4 := q3.belowAt hb4 hlt2; have r4 := hg4.out; have B4 : Below w.heap.size w w4 := B3.trans (hb4.mono (by omega))))
  have r5 : RowAt w4 w2.heap.size (rowL ⟨a, b, c, d⟩ l y) := by
    rw [splice_map, splice_all _ _ (by rw [rowL_len, List.length_replicate]; exact hCt)] at r4
    exact r4
  have HR : Hid (RowAt w4 w2.heap.size (rowL ⟨a, b, c, d⟩ l y)) := r5
  clear r4 hg4 r5
  go_wp2
  go_ret2
  exact ⟨w2.heap.size, C, by rw [hCt]; rfl, h2w, HR.out.holds, B4⟩
theorem row_a (a b c d y : Int) (s : Option Addr) (m : Nat) (l : List Int) (w : World) (N : Nat) (hN : (c - a).toNat = N) (hp : pvB a b c d l.length = true) (h1 : b ≤ y) (h2 : y < d) (hm : l.length ≤ m) (hH : HoldsI w s l) :
    Calls Try.prog 22 #[.agg #[.int .i64 a, .int .i64 b, .int .i64 c, .int .i64 d, .slice s l.length m], .int .i64 y] w (RowFresh ⟨a, b, c, d⟩ l y N w) := by
  subst hN
  by_cases hw : a < c
  · exact row_fresh1 a b c d y s m l w hp h1 h2 hw hm hH
  · refine row_fresh0 a b c d y s m l w hp h1 h2 ?_ hm hH
    have := Pl.valid_iff.1 (pv_iff.1 hp).1
    omega
theorem col_a (a b c d x : Int) (s : Option Addr) (m : Nat) (l : List Int) (w : World) (M : Nat) (hM : (d - b).toNat = M) (hp : pvB a b c d l.length = true) (h1 : a ≤ x) (h2 : x < c) (hH : HoldsI w s l) :
    Calls Try.prog 25 #[.agg #[.int .i64 a, .int .i64 b, .int .i64 c, .int .i64 d, .slice s l.length m], .int .i64 x] w fun e w' => ∃ t n, e = .returned (.tuple #[.slice t M n, .bool true]) ∧ HoldsI w' t (colL ⟨a, b, c, d⟩ l x) ∧ Below w.heap.size w w' := by
  refine (col_yes a b c d x s m l w hp h1 h2 hH).mono ?_
  rintro e w' ⟨t, n, rfl, h3, h4, _⟩
  have hlen : (colL ⟨a, b, c, d⟩ l x).length = M := by rw [colL_len]; exact hM
  exact ⟨t, n, by rw [hlen], h3, h4⟩
theorem row_get {a b c d y : Int} {l : List Int} {k : Nat} (hk : k < (rowL ⟨a, b, c, d⟩ l y).length) : (rowL ⟨a, b, c, d⟩ l y)[k] = gv ⟨a, b, c, d⟩ l (a + (k : Int)) y := by simp [rowL]
theorem col_get {a b c d x : Int} {l : List Int} {k : Nat} (hk : k < (colL ⟨a, b, c, d⟩ l x).length) : (colL ⟨a, b, c, d⟩ l x)[k] = gv ⟨a, b, c, d⟩ l x (b + (k : Int)) := by simp [colL]
theorem Gs.pushL {a b c d : Int} {s : Option Addr} {n m : Nat} {v v' : Value} {out L : List Int} {N : Nat} {w W W2 : World} (h : Gs a b c d s n m v out w W) (hN : L.length = N) (hg : W.grownBy W2 v.ownBlock)
    (hown : W2.ownsRow (w.heap.size + 1) 3 1 v' (out.length + N) (out.map (Value.int .i64) ++ L.map (Value.int .i64))) : Gs a b c d s n m v' (out ++ L) w W2 := by
  subst hN
  have hlt := h.q1.q.lt
  have hb : Below (w.heap.size + 1) W W2 := (Below.refl _ _).grown hg (by omega) (fun k hk => (h.own.lt k hk).1)
  refine ⟨⟨h.q1.below.trans (hb.mono (by omega)), h.q1.q.belowAt hb (by omega)⟩, ?_⟩
  simpa using hown
theorem Gs.holds {a b c d : Int} {s : Option Addr} {n m : Nat} {v : Value} {out : List Int} {w W : World} (h : Gs a b c d s n m v out w W) : ∃ sv mv, v = .slice sv out.length mv ∧ HoldsI W sv out := by
  obtain ⟨_, (⟨rfl, rfl⟩ | ⟨g, m', pad, rfl, hb, hr, hm⟩)⟩ := rowP_own h.own
  · exact ⟨none, 0, rfl, .inl rfl⟩
  · exact ⟨some ⟨g, 0, none⟩, m', rfl, hr.holds⟩
/-- A list in another block stays where a list of the call's own grows. -/
theorem holds_grown {W W2 : World} {row : Option Nat} {g : Nat} {l : List Int} (h : HoldsI W (some ⟨g, 0, none⟩) l) (hg : W.grownBy W2 row) (hne : row ≠ some g) : HoldsI W2 (some ⟨g, 0, none⟩) l := by
  rcases h with h | ⟨b, off, e, hr⟩
  · exact .inl h
  · simp at e
    obtain ⟨rfl, rfl⟩ := e
    refine .inr ⟨g, 0, rfl, fun k hk => ?_⟩
    have hlt := cell_lt (hr k hk)
    exact (World.cell?_of_block (w := W) (hg.block g hlt (fun h => hne h.symm))).trans (hr k hk)
theorem rows_next {a b c d Y : Int} {l out : List Int} (hp : pvB a b c d l.length = true) (h1 : b ≤ Y) (h2 : Y < d) (hO : out = l.take (idx a b c a Y).toNat) : out ++ rowL ⟨a, b, c, d⟩ l Y = l.take (idx a b c a (Y + 1)).toNat := by
  obtain ⟨h3, _⟩ := rowL_drop hp h1 h2
  obtain ⟨v1, v2, v3, v4, v5, v6⟩ := Pl.valid_iff.1 (pv_iff.1 hp).1
  have p2 := (idx_bd (pv_iff.1 hp).1 (Int.le_refl a) v2 h1 (show Y ≤ d by omega)).2.2.1
  have e : (idx a b c a (Y + 1)).toNat = (idx a b c a Y).toNat + (c - a).toNat := by
    have : idx a b c a (Y + 1) = idx a b c a Y + (c - a) := by
      unfold idx
      rw [show Y + 1 - b = (Y - b) + 1 by omega, Int.add_mul]
      omega
    have h0 : 0 ≤ idx a b c a Y := by
      unfold idx
      rw [show a - a = 0 by omega, Int.add_zero]
      exact Int.mul_nonneg (by omega) (by omega)
    omega
  rw [hO, h3, e, List.take_add]
theorem rows_end {a b c d : Int} {l : List Int} (hp : pvB a b c d l.length = true) : l.take (idx a b c a d).toNat = l := by
  obtain ⟨v1, v2, v3, v4, v5, v6⟩ := Pl.valid_iff.1 (pv_iff.1 hp).1
  refine List.take_of_length_le ?_
  have e : (((c - a).toNat * (d - b).toNat : Nat) : Int) = idx a b c a d := by
    unfold idx
    push_cast
    rw [Int.toNat_of_nonneg (by omega), Int.toNat_of_nonneg (by omega), Int.mul_comm]
    omega
  have := pv_len hp
  omega
end Go.Proofs.Ytamkipdalegioaa
