/-
  Rows that a call made, known whole; what each call of Row on planes returns and leaves: contracts.
-/
import Derived.Test.YtnfnidgabgdphaaTab
import Derived.Laws.CopyOwn
set_option maxRecDepth 100000
namespace Go.Proofs.Ytnfnidgabgdphaa
open Go.RowKit

/-- A block that is a row of integers, and nothing else. -/
def RowAt (w : World) (g : Nat) (l : List Int) : Prop := w.heap[g]? = some (.cells (l.map (Value.int .i64)).toArray 3 (0, 0))
theorem RowAt.lt {w : World} {g : Nat} {l : List Int} (h : RowAt w g l) : g < w.heap.size := by
  unfold RowAt at h
  exact (Array.getElem?_eq_some_iff.1 h).1
theorem RowAt.holds {w : World} {g : Nat} {l : List Int} (h : RowAt w g l) : HoldsI w (some ⟨g, 0, none⟩) l := by
  refine .inr ⟨g, 0, rfl, fun k hk => ?_⟩
  unfold RowAt at h
  simp [World.cell?, h, hk]
theorem RowAt.at {w : World} {g : Nat} {l : List Int} (h : RowAt w g l) {k : Nat} (hk : k < l.length) : w.cell? ⟨g, k, none⟩ = some (.int .i64 l[k]) := by
  unfold RowAt at h
  simp [World.cell?, h, hk]
theorem RowAt.free {w : World} {g : Nat} {l : List Int} (h : RowAt w g l) (j : Nat) : w.frozen? ⟨g, j, none⟩ = false := by
  unfold RowAt at h
  simp [World.frozen?, h]
theorem RowAt.belowAt {B : Nat} {w w1 : World} {g : Nat} {l : List Int} (h : RowAt w g l) (hb : Below B w w1) (hg : g < B) : RowAt w1 g l := (hb.block g hg).trans h
theorem RowAt.below {w w1 : World} {g : Nat} {l : List Int} (h : RowAt w g l) (hb : Below w.heap.size w w1) : RowAt w1 g l := h.belowAt hb h.lt
theorem RowAt.drew {w : World} {g : Nat} {l : List Int} (h : RowAt w g l) : RowAt w.drew g l := h
theorem RowAt.alloc {w : World} {g : Nat} {l : List Int} (h : RowAt w g l) (o : Obj) : RowAt (w.alloc o) g l := h.below ((Below.refl _ _).alloc (Nat.le_refl _) _)
theorem RowAt.far {w : World} {g : Nat} {l : List Int} (h : RowAt w g l) (a : Addr) (v : Value) (hn : g ≠ a.block) : RowAt (w.setCell a v) g l := (Below.heap_setCell _ _ _ _ hn).trans h
theorem rowAt_made (w : World) (n : Nat) : RowAt (w.alloc (.cells (madeCells #[.int .i64 0] n) 3)) w.heap.size (List.replicate n 0) := by
  have e : madeCells #[.int .i64 0] n = ((List.replicate n (0 : Int)).map (Value.int .i64)).toArray := by
    apply Array.ext
    · simp [madeCells]
    · intro i h1 h2
      simp [madeCells, Nat.mod_one]
  unfold RowAt
  rw [e]
  exact Array.getElem?_push_size
/-- A plane's box stays where memory below a later block does. -/
theorem QBox.belowAt {W w1 : World} {B N : Nat} {r : Pl.R} {v : Value} (h : QBox W B r v) (hb : Below N W w1) (hN : B < N) : QBox w1 B r v :=
  ⟨⟨(hb.cell (p := ⟨B, _, none⟩) hN).trans h.cells.1, (hb.cell (p := ⟨B, _, none⟩) hN).trans h.cells.2.1, (hb.cell (p := ⟨B, _, none⟩) hN).trans h.cells.2.2.1, (hb.cell (p := ⟨B, _, none⟩) hN).trans h.cells.2.2.2⟩, (hb.cell (p := ⟨B, _, none⟩) hN).trans h.data, fun j => (hb.frozen (p := ⟨B, j, none⟩) hN).trans (h.free j), by have := h.lt; have := hb.size; omega⟩
theorem szI : (Try.prog.info? 3).map (·.size) = some 1 := by kernel_rfl
theorem splice_map {α β : Type} (f : α → β) (L : List α) (off : Nat) (cs : List α) : splice (L.map f) off (cs.map f) = (splice L off cs).map f := by
  simp [splice, List.map_take, List.map_drop]
theorem splice_all {α : Type} (L cs : List α) (h : cs.length = L.length) : splice L 0 cs = cs := by
  simp [splice, h]
theorem splice_at {α : Type} (L : List α) (off : Nat) (cs : List α) (h : off + cs.length ≤ L.length) (i : Nat) :
    (splice L off cs)[i]? = if off ≤ i ∧ i < off + cs.length then cs[i - off]? else L[i]? := by
  unfold splice
  by_cases h1 : i < off
  · rw [if_neg (by omega), List.getElem?_append_left (by simp; omega), List.getElem?_take_of_lt h1]
  · rw [List.getElem?_append_right (by simp; omega)]
    have e : (L.take off).length = off := by simp; omega
    rw [e]
    by_cases h2 : i < off + cs.length
    · rw [if_pos (by omega), List.getElem?_append_left (by omega)]
    · rw [if_neg (by omega), List.getElem?_append_right (by omega), List.getElem?_drop]
      congr 1
      omega
theorem oneI (l : List Int) : ∀ v ∈ l.map (Value.int .i64), v.oneCell' = true := by
  intro v hv
  obtain ⟨x, _, rfl⟩ := List.mem_map.1 hv
  rfl
/-- A part of a list lies behind the address of its first. -/
theorem holdsI_part {w : World} {b off : Nat} {l : List Int} (h : HoldsI w (some ⟨b, off, none⟩) l) (k n : Nat) (hk : k + n ≤ l.length) :
    ∀ j v, (((l.drop k).take n).map (Value.int .i64))[j]? = some v → w.cell? ((⟨b, off + k, none⟩ : Addr).add j) = some v := by
  intro j v hv
  rw [List.getElem?_map, Option.map_eq_some_iff] at hv
  obtain ⟨x, hx, rfl⟩ := hv
  obtain ⟨hj, hx'⟩ := List.getElem?_eq_some_iff.1 hx
  have hj' : j < n := by simp at hj; omega
  have := holdsI_at h (k := k + j) (by omega)
  simp at hx'
  rw [← hx']
  have e : (⟨b, off + k, none⟩ : Addr).add j = ⟨b, off + (k + j), none⟩ := by
    simp only [Addr.add]
    split
    · subst_vars; rfl
    · rw [Nat.add_assoc]
  rw [e]
  exact this
/-- The call returns integers and a Bool; old memory is as it was. -/
def GivesInts (l : List Int) (ok : Bool) (w : World) (e : Ending) (w' : World) : Prop :=
  ∃ s m, e = .returned (.tuple #[.slice s l.length m, .bool ok]) ∧ HoldsI w' s l ∧ Below w.heap.size w w' ∧ l.length ≤ m
theorem rowL_drop {a b c d y : Int} {l : List Int} (hp : pvB a b c d l.length = true) (h1 : b ≤ y) (h2 : y < d) : rowL ⟨a, b, c, d⟩ l y = (l.drop (idx a b c a y).toNat).take (c - a).toNat ∧ (idx a b c a y).toNat + (c - a).toNat ≤ l.length := by
  obtain ⟨hv, _, hn⟩ := pv_iff.1 hp
  obtain ⟨v1, v2, v3, v4, v5, v6⟩ := Pl.valid_iff.1 hv
  have hlen := pv_len hp
  have hle : (idx a b c a y).toNat + (c - a).toNat ≤ l.length := by
    by_cases hw : a < c
    · have e := idx_lt' (a := a) (b := b) (c := c) (d := d) (x := c - 1) (y := y) (Pl.has_iff.2 ⟨by omega, by omega, h1, h2⟩)
      have e2 : idx a b c (c - 1) y = idx a b c a y + (c - a) - 1 := by unfold idx; omega
      have := (idx_bd hv (Int.le_refl a) v2 h1 (show y ≤ d by omega)).2.2.1
      omega
    · have e2 : idx a b c a y = 0 := by unfold idx; rw [show c - a = 0 by omega]; simp
      omega
  refine ⟨List.ext_getElem ?_ fun k k1 k2 => ?_, hle⟩
  · rw [rowL_len, List.length_take, List.length_drop]; dsimp only; omega
  · rw [rowL_len] at k1
    dsimp only at k1
    have hh : Pl.hasB a b c d (a + (k : Int)) y = true := Pl.has_iff.2 ⟨by omega, by omega, h1, h2⟩
    have hi := (idx_nat hh).1
    have hj := (idx_nat (a := a) (b := b) (c := c) (d := d) (x := a) (y := y) (Pl.has_iff.2 ⟨by omega, by omega, h1, h2⟩)).1
    have e3 : (idx a b c (a + (k : Int)) y).toNat = (idx a b c a y).toNat + k := by
      rw [hi, hj]; omega
    simp only [rowL, List.getElem_map, List.getElem_range, List.getElem_take, List.getElem_drop]
    rw [gv, List.getD_eq_getElem?_getD, List.getElem?_eq_getElem (by dsimp only; omega), Option.getD_some]
    simp only [e3]
set_option maxHeartbeats 1000000 in
theorem row_no (a b c d y : Int) (s : Option Addr) (n m : Nat) (w : World) (hp : pvB a b c d n = false ∨ (pvB a b c d n = true ∧ (y < b ∨ d ≤ y))) :
    Calls Try.prog 117 #[.agg #[.int .i64 a, .int .i64 b, .int .i64 c, .int .i64 d, .slice s n m], .int .i64 y] w (GivesInts [] false w) := by
  rcases hp with hp | ⟨hp, hy | hy⟩
  · go_enter Try.func117, Try.ntmps117
    go_wp2_with fail
    refine (pv_c _ _ _ _ _ _ _ _).mono ?_
    rintro e w1 ⟨rfl, hb1⟩
    have hS1 := (Q1.fresh a b c d s n m w).step hb1
    go_wp2
    go_ret2
    exact ⟨_, _, rfl, .inl rfl, hS1.below, Nat.le_refl _⟩
  · go_enter Try.func117, Try.ntmps117
    go_wp2_with fail
    refine (pv_c _ _ _ _ _ _ _ _).mono ?_
    rintro e w1 ⟨rfl, hb1⟩
    have hS1 := (Q1.fresh a b c d s n m w).step hb1
    obtain ⟨c0, c1, c2, c3, c4⟩ := hS1.q.open
    go_wp2
    go_ret2
    exact ⟨_, _, rfl, .inl rfl, hS1.below, Nat.le_refl _⟩
  · obtain ⟨hv, _, _⟩ := pv_iff.1 hp
    obtain ⟨v1, v2, v3, v4, v5, v6⟩ := Pl.valid_iff.1 hv
    have hb : ¬ y < b := by omega
    go_enter Try.func117, Try.ntmps117
    go_wp2_with fail
    refine (pv_c _ _ _ _ _ _ _ _).mono ?_
    rintro e w1 ⟨rfl, hb1⟩
    have hS1 := (Q1.fresh a b c d s n m w).step hb1
    obtain ⟨c0, c1, c2, c3, c4⟩ := hS1.q.open
    go_wp2
    go_ret2
    exact ⟨_, _, rfl, .inl rfl, hS1.below, Nat.le_refl _⟩
set_option maxRecDepth 100000 in
set_option maxHeartbeats 1000000 in
theorem row_yes1 (a b c d y : Int) (s : Option Addr) (m : Nat) (l : List Int) (w : World) (hp : pvB a b c d l.length = true) (h1 : b ≤ y) (h2 : y < d) (hw : a < c) (hm : l.length ≤ m) (hH : HoldsI w s l) :
    Calls Try.prog 117 #[.agg #[.int .i64 a, .int .i64 b, .int .i64 c, .int .i64 d, .slice s l.length m], .int .i64 y] w (GivesInts (rowL ⟨a, b, c, d⟩ l y) true w) := by
  obtain ⟨hv, har, hn⟩ := pv_iff.1 hp
  obtain ⟨v1, v2, v3, v4, v5, v6⟩ := Pl.valid_iff.1 hv
  obtain ⟨hrl, hle⟩ := rowL_drop hp h1 h2
  obtain ⟨_, _, p2, p3⟩ := idx_bd hv (Int.le_refl a) v2 h1 (show y ≤ d by omega)
  obtain ⟨C, hC⟩ : ∃ C : Nat, c - a = (C : Int) := ⟨(c - a).toNat, by omega⟩
  have hCt : (c - a).toNat = C := by omega
  have hC4 : C ≤ 4096 := by omega
  rw [hCt] at hrl hle
  obtain ⟨k, hk⟩ : ∃ k : Nat, idx a b c a y = (k : Int) := ⟨(idx a b c a y).toNat, by omega⟩
  have hkt : (idx a b c a y).toNat = k := by omega
  rw [hkt] at hrl hle
  have hkl : k < l.length := by omega
  have hki : (k : Int) < (l.length : Int) := by omega
  have hki' : (k : Int) ≤ (l.length : Int) := by omega
  have hkm : ¬ k = m := by omega
  have hkm2 : ¬ m = k := by omega
  have hkm' : (k : Int) ≤ (m : Int) := by omega
  rcases hH with rfl | ⟨bb, off, rfl, hr⟩
  · simp at hkl
  have hH : HoldsI w (some ⟨bb, off, none⟩) l := .inr ⟨bb, off, rfl, hr⟩
  have hblt : bb < w.heap.size := cell_lt (hr k hkl)
  have hmk := fun (W : World) => run_make_row' (P := Try.prog) 28 3 (.int .i64 0) 8 Try.underlying28 infoI rfl .i64 .i64 C (by omega) (by omega) W
  have hd : ¬ y < b := by omega
  have HL : Hid _ := hrl
  have HM : Hid _ := hle
  clear hrl hle hn har p2 p3
  go_enter Try.func117, Try.ntmps117
  go_wp2_with fail
  refine (pv_c _ _ _ _ _ _ _ _).mono ?_
  rintro e w1 ⟨rfl, hb1⟩
  have hS1 := (Q1.fresh a b c d (some ⟨bb, off, none⟩) l.length m w).step hb1
  obtain ⟨c0, c1, c2, c3, c4⟩ := hS1.q.open
  go_wp2_with fail
  refine (width_c _ _ _ _ _ _ _ _ hv).mono ?_
  rintro e w2 ⟨rfl, hb2⟩
  have hS2 := hS1.step hb2
  clear c0 c1 c2 c3 c4 hb1 hb2 hS1
  obtain ⟨c0, c1, c2, c3, c4⟩ := hS2.q.open
  go_wp2_with fail
  have r0 : RowAt (w2.alloc (.cells (madeCells #[.int .i64 0] C) 3)) w2.heap.size (List.replicate C 0) := rowAt_made _ _
  have q0 := hS2.q.alloc (.cells (madeCells #[.int .i64 0] C) 3)
  have B0 : Below w.heap.size w (w2.alloc (.cells (madeCells #[.int .i64 0] C) 3)) := hS2.below.alloc (by have := hS2.q.lt; omega) _
  have hlt2 := hS2.q.lt
  clear hS2
  go_region_held3 (fun w' => w'.cell? ⟨w.heap.size, 0, none⟩ = some (.int .i64 a) ∧ w'.cell? ⟨w.heap.size, 1, none⟩ = some (.int .i64 b) ∧ w'.cell? ⟨w.heap.size, 2, none⟩ = some (.int .i64 c) ∧ w'.cell? ⟨w.heap.size, 3, none⟩ = some (.int .i64 d) ∧ w'.cell? ⟨w.heap.size, 4, none⟩ = some (.slice (some ⟨bb, off, none⟩) l.length m))
    (first | (with_reducible assumption) | exact q0.drew.open | exact q3.open | exact q4.open)
    (first | (go_at_call 109; (with_reducible refine (index_c _ _ _ _ _ _ _ _ _ _ hv (by omega) (by omega) (by omega) (by omega)).mono ?_); rintro e w3 ⟨rfl, hb3⟩; have q3 := q0.drew.below hb3; have r3 := r0.drew.below hb3; have B3 : Below w.heap.size w w3 := bcall B0.drew hb3 (by simp; omega); clear hb3)
            | ((refine step_copy_splice rfl (.tmp 27) (.tmp 36) 28 28 rfl 3 Try.underlying28 szI _ _ _ _ _ _ rfl rfl w2.heap.size 0 ((List.replicate C 0).map (Value.int .i64)) 3 r3 ((rowL ⟨a, b, c, d⟩ l y).map (Value.int .i64)) (by have := HM.out; rw [List.length_map, rowL_len]; show (c - a).toNat = min _ C; omega) (fun _ => ⟨rfl, ⟨bb, off + k, none⟩, rfl, by rw [HL.out]; exact holdsI_part (hH.below (B := w.heap.size) B3 (Nat.le_refl _)) k C HM.out⟩) (by rw [List.length_map, rowL_len]; simp; omega) (oneI _) w2.heap.size w3 (Below.refl _ _) (Nat.le_refl _) ?_); intro w4 hg4 hb4; have q4 := q3.belowAt hb4 hlt2; have r4 := hg4.out; have B4 : Below w.heap.size w w4 := B3.trans (hb4.mono (by omega))))
  have r5 : RowAt w4 w2.heap.size (rowL ⟨a, b, c, d⟩ l y) := by
    rw [splice_map, splice_all _ _ (by rw [rowL_len, List.length_replicate]; exact hCt)] at r4
    exact r4
  have HR : Hid (RowAt w4 w2.heap.size (rowL ⟨a, b, c, d⟩ l y)) := r5
  clear r4 hg4 r5
  go_wp2
  go_ret2
  exact ⟨some ⟨w2.heap.size, 0, none⟩, C, by rw [rowL_len]; simp only [hCt]; rfl, HR.out.holds, B4, by rw [rowL_len]; exact Nat.le_of_eq hCt⟩
set_option maxRecDepth 100000 in
set_option maxHeartbeats 1000000 in
theorem row_yes0 (a b c d y : Int) (s : Option Addr) (m : Nat) (l : List Int) (w : World) (hp : pvB a b c d l.length = true) (h1 : b ≤ y) (h2 : y < d) (hw : c ≤ a) (_hm : l.length ≤ m) (_hH : HoldsI w s l) :
    Calls Try.prog 117 #[.agg #[.int .i64 a, .int .i64 b, .int .i64 c, .int .i64 d, .slice s l.length m], .int .i64 y] w (GivesInts (rowL ⟨a, b, c, d⟩ l y) true w) := by
  obtain ⟨hv, har, hn⟩ := pv_iff.1 hp
  obtain ⟨v1, v2, v3, v4, v5, v6⟩ := Pl.valid_iff.1 hv
  obtain ⟨hrl, hle⟩ := rowL_drop hp h1 h2
  obtain ⟨_, _, p2, p3⟩ := idx_bd hv (Int.le_refl a) v2 h1 (show y ≤ d by omega)
  obtain ⟨C, hC⟩ : ∃ C : Nat, c - a = (C : Int) := ⟨(c - a).toNat, by omega⟩
  have hCt : (c - a).toNat = C := by omega
  have hC4 : C ≤ 4096 := by omega
  rw [hCt] at hrl hle
  have hi0 : idx a b c a y = 0 := by unfold idx; rw [show c - a = 0 by omega]; simp
  have hm0 : (0 : Int) ≤ (m : Int) := by omega
  have h00 : (0 : Int) ≤ (l.length : Int) := by omega
  have hmk := fun (W : World) => run_make_row' (P := Try.prog) 28 3 (.int .i64 0) 8 Try.underlying28 infoI rfl .i64 .i64 C (by omega) (by omega) W
  have hd : ¬ y < b := by omega
  have HL : Hid _ := hrl
  have HM : Hid _ := hle
  clear hrl hle hn har p2 p3
  go_enter Try.func117, Try.ntmps117
  go_wp2_with fail
  refine (pv_c _ _ _ _ _ _ _ _).mono ?_
  rintro e w1 ⟨rfl, hb1⟩
  have hS1 := (Q1.fresh a b c d s l.length m w).step hb1
  obtain ⟨c0, c1, c2, c3, c4⟩ := hS1.q.open
  go_wp2_with fail
  refine (width_c _ _ _ _ _ _ _ _ hv).mono ?_
  rintro e w2 ⟨rfl, hb2⟩
  have hS2 := hS1.step hb2
  clear c0 c1 c2 c3 c4 hb1 hb2 hS1
  obtain ⟨c0, c1, c2, c3, c4⟩ := hS2.q.open
  go_wp2_with fail
  have r0 : RowAt (w2.alloc (.cells (madeCells #[.int .i64 0] C) 3)) w2.heap.size (List.replicate C 0) := rowAt_made _ _
  have q0 := hS2.q.alloc (.cells (madeCells #[.int .i64 0] C) 3)
  have B0 : Below w.heap.size w (w2.alloc (.cells (madeCells #[.int .i64 0] C) 3)) := hS2.below.alloc (by have := hS2.q.lt; omega) _
  have hlt2 := hS2.q.lt
  clear hS2
  go_region_held3 (fun w' => w'.cell? ⟨w.heap.size, 0, none⟩ = some (.int .i64 a) ∧ w'.cell? ⟨w.heap.size, 1, none⟩ = some (.int .i64 b) ∧ w'.cell? ⟨w.heap.size, 2, none⟩ = some (.int .i64 c) ∧ w'.cell? ⟨w.heap.size, 3, none⟩ = some (.int .i64 d) ∧ w'.cell? ⟨w.heap.size, 4, none⟩ = some (.slice s l.length m))
    (first | (with_reducible assumption) | exact q0.drew.open | exact q3.open | exact q4.open)
    (first | (go_at_call 109; (with_reducible refine (index_c _ _ _ _ _ _ _ _ _ _ hv (by omega) (by omega) (by omega) (by omega)).mono ?_); rintro e w3 ⟨rfl, hb3⟩; have q3 := q0.drew.below hb3; have r3 := r0.drew.below hb3; have B3 : Below w.heap.size w w3 := bcall B0.drew hb3 (by simp; omega); clear hb3)
            | ((refine step_copy_splice rfl (.tmp 27) (.tmp 36) 28 28 rfl 3 Try.underlying28 szI _ _ _ _ _ _ rfl rfl w2.heap.size 0 ((List.replicate C 0).map (Value.int .i64)) 3 r3 ((rowL ⟨a, b, c, d⟩ l y).map (Value.int .i64)) (by have := HM.out; rw [List.length_map, rowL_len]; show (c - a).toNat = min _ C; omega) (fun h => by exfalso; rw [List.length_map, rowL_len] at h; simp at h; omega) (by rw [List.length_map, rowL_len]; simp; omega) (oneI _) w2.heap.size w3 (Below.refl _ _) (Nat.le_refl _) ?_); intro w4 hg4 hb4; have q4 := q3.belowAt hb4 hlt2; have r4 := hg4.out; have B4 : Below w.heap.size w w4 := B3.trans (hb4.mono (by omega))))
  have r5 : RowAt w4 w2.heap.size (rowL ⟨a, b, c, d⟩ l y) := by
    rw [splice_map, splice_all _ _ (by rw [rowL_len, List.length_replicate]; exact hCt)] at r4
    exact r4
  have HR : Hid (RowAt w4 w2.heap.size (rowL ⟨a, b, c, d⟩ l y)) := r5
  clear r4 hg4 r5
  go_wp2
  go_ret2
  exact ⟨some ⟨w2.heap.size, 0, none⟩, C, by rw [rowL_len]; simp only [hCt]; rfl, HR.out.holds, B4, by rw [rowL_len]; exact Nat.le_of_eq hCt⟩
theorem row_yes (a b c d y : Int) (s : Option Addr) (m : Nat) (l : List Int) (w : World) (hp : pvB a b c d l.length = true) (h1 : b ≤ y) (h2 : y < d) (hm : l.length ≤ m) (hH : HoldsI w s l) :
    Calls Try.prog 117 #[.agg #[.int .i64 a, .int .i64 b, .int .i64 c, .int .i64 d, .slice s l.length m], .int .i64 y] w (GivesInts (rowL ⟨a, b, c, d⟩ l y) true w) := by
  by_cases hw : a < c
  · exact row_yes1 a b c d y s m l w hp h1 h2 hw hm hH
  · refine row_yes0 a b c d y s m l w hp h1 h2 ?_ hm hH
    have := Pl.valid_iff.1 (pv_iff.1 hp).1
    omega
end Go.Proofs.Ytnfnidgabgdphaa
