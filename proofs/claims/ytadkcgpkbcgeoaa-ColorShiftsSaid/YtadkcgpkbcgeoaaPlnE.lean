/-
  Rows that a call made, known whole; what each call of Row on planes returns and leaves: contracts.
-/
import Derived.Test.YtadkcgpkbcgeoaaTab
import Derived.Laws.CopyOwn
set_option maxRecDepth 100000
namespace Go.Proofs.Ytadkcgpkbcgeoaa
open Go.RowKit

/-- A block that is a row of integers, and nothing else. -/
def RowAt (w : World) (g : Nat) (l : List Int) : Prop := w.heap[g]? = some (.cells (l.map (Value.int .i64)).toArray 3 (0, 0))
theorem RowAt.lt {w : World} {g : Nat} {l : List Int} (h : RowAt w g l) : g < w.heap.size := by
  unfold RowAt at h
  exact (Array.getElem?_eq_some_iff.1 h).1
theorem RowAt.holds {w : World} {g : Nat} {l : List Int} (h : RowAt w g l) : HoldsI w (some ⟨g, 0, none⟩) l := by
  refine .inr ⟨g, 0, rfl, fun k hk => ?_⟩
  unfold RowAt at h
  simp [World.cell?, h, hk]
theorem RowAt.at {w : World} {g : Nat} {l : List Int} (h : RowAt w g l) {k : Nat} (hk : k < l.length) : w.cell? ⟨g, k, none⟩ = some (.int .i64 l[k]) := by
  unfold RowAt at h
  simp [World.cell?, h, hk]
theorem RowAt.free {w : World} {g : Nat} {l : List Int} (h : RowAt w g l) (j : Nat) : w.frozen? ⟨g, j, none⟩ = false := by
  unfold RowAt at h
  simp [World.frozen?, h]
theorem RowAt.belowAt {B : Nat} {w w1 : World} {g : Nat} {l : List Int} (h : RowAt w g l) (hb : Below B w w1) (hg : g < B) : RowAt w1 g l := (hb.block g hg).trans h
theorem RowAt.below {w w1 : World} {g : Nat} {l : List Int} (h : RowAt w g l) (hb : Below w.heap.size w w1) : RowAt w1 g l := h.belowAt hb h.lt
theorem RowAt.drew {w : World} {g : Nat} {l : List Int} (h : RowAt w g l) : RowAt w.drew g l := h
theorem RowAt.alloc {w : World} {g : Nat} {l : List Int} (h : RowAt w g l) (o : Obj) : RowAt (w.alloc o) g l := h.below ((Below.refl _ _).alloc (Nat.le_refl _) _)
theorem RowAt.far {w : World} {g : Nat} {l : List Int} (h : RowAt w g l) (a : Addr) (v : Value) (hn : g ≠ a.block) : RowAt (w.setCell a v) g l := (Below.heap_setCell _ _ _ _ hn).trans h
theorem rowAt_made (w : World) (n : Nat) : RowAt (w.alloc (.cells (madeCells #[.int .i64 0] n) 3)) w.heap.size (List.replicate n 0) := by
  have e : madeCells #[.int .i64 0] n = ((List.replicate n (0 : Int)).map (Value.int .i64)).toArray := by
    apply Array.ext
    · simp [madeCells]
    · intro i h1 h2
      simp [madeCells, Nat.mod_one]
  unfold RowAt
  rw [e]
  exact Array.getElem?_push_size
/-- A plane's box stays where memory below a later block does. -/
theorem QBox.belowAt {W w1 : World} {B N : Nat} {r : Pl.R} {v : Value} (h : QBox W B r v) (hb : Below N W w1) (hN : B < N) : QBox w1 B r v :=
  ⟨⟨(hb.cell (p := ⟨B, _, none⟩) hN).trans h.cells.1, (hb.cell (p := ⟨B, _, none⟩) hN).trans h.cells.2.1, (hb.cell (p := ⟨B, _, none⟩) hN).trans h.cells.2.2.1, (hb.cell (p := ⟨B, _, none⟩) hN).trans h.cells.2.2.2⟩, (hb.cell (p := ⟨B, _, none⟩) hN).trans h.data, fun j => (hb.frozen (p := ⟨B, j, none⟩) hN).trans (h.free j), by have := h.lt; have := hb.size; omega⟩
theorem szI : (Try.prog.info? 3).map (·.size) = some 1 := by kernel_rfl
theorem splice_map {α β : Type} (f : α → β) (L : List α) (off : Nat) (cs : List α) : splice (L.map f) off (cs.map f) = (splice L off cs).map f := by
  simp [splice, List.map_take, List.map_drop]
theorem splice_all {α : Type} (L cs : List α) (h : cs.length = L.length) : splice L 0 cs = cs := by
  simp [splice, h]
theorem splice_at {α : Type} (L : List α) (off : Nat) (cs : List α) (h : off + cs.length ≤ L.length) (i : Nat) :
    (splice L off cs)[i]? = if off ≤ i ∧ i < off + cs.length then cs[i - off]? else L[i]? := by
  unfold splice
  by_cases h1 : i < off
  · rw [if_neg (by omega), List.getElem?_append_left (by simp; omega), List.getElem?_take_of_lt h1]
  · rw [List.getElem?_append_right (by simp; omega)]
    have e : (L.take off).length = off := by simp; omega
    rw [e]
    by_cases h2 : i < off + cs.length
    · rw [if_pos (by omega), List.getElem?_append_left (by omega)]
    · rw [if_neg (by omega), List.getElem?_append_right (by omega), List.getElem?_drop]
      congr 1
      omega
theorem oneI (l : List Int) : ∀ v ∈ l.map (Value.int .i64), v.oneCell' = true := by
  intro v hv
  obtain ⟨x, _, rfl⟩ := List.mem_map.1 hv
  rfl
/-- A part of a list lies behind the address of its first. -/
theorem holdsI_part {w : World} {b off : Nat} {l : List Int} (h : HoldsI w (some ⟨b, off, none⟩) l) (k n : Nat) (hk : k + n ≤ l.length) :
    ∀ j v, (((l.drop k).take n).map (Value.int .i64))[j]? = some v → w.cell? ((⟨b, off + k, none⟩ : Addr).add j) = some v := by
  intro j v hv
  rw [List.getElem?_map, Option.map_eq_some_iff] at hv
  obtain ⟨x, hx, rfl⟩ := hv
  obtain ⟨hj, hx'⟩ := List.getElem?_eq_some_iff.1 hx
  have hj' : j < n := by simp at hj; omega
  have := holdsI_at h (k := k + j) (by omega)
  simp at hx'
  rw [← hx']
  have e : (⟨b, off + k, none⟩ : Addr).add j = ⟨b, off + (k + j), none⟩ := by
    simp only [Addr.add]
    split
    · subst_vars; rfl
    · rw [Nat.add_assoc]
  rw [e]
  exact this
/-- The call returns integers and a Bool; old memory is as it was. -/
def GivesInts (l : List Int) (ok : Bool) (w : World) (e : Ending) (w' : World) : Prop :=
  ∃ s m, e = .returned (.tuple #[.slice s l.length m, .bool ok]) ∧ HoldsI w' s l ∧ Below w.heap.size w w' ∧ l.length ≤ m
theorem rowL_drop {a b c d y : Int} {l : List Int} (hp : pvB a b c d l.length = true) (h1 : b ≤ y) (h2 : y < d) : rowL ⟨a, b, c, d⟩ l y = (l.drop (idx a b c a y).toNat).take (c - a).toNat ∧ (idx a b c a y).toNat + (c - a).toNat ≤ l.length := by
  obtain ⟨hv, _, hn⟩ := pv_iff.1 hp
  obtain ⟨v1, v2, v3, v4, v5, v6⟩ := Pl.valid_iff.1 hv
  have hlen := pv_len hp
  have hle : (idx a b c a y).toNat + (c - a).toNat ≤ l.length := by
    by_cases hw : a < c
    · have e := idx_lt' (a := a) (b := b) (c := c) (d := d) (x := c - 1) (y := y) (Pl.has_iff.2 ⟨by omega, by omega, h1, h2⟩)
      have e2 : idx a b c (c - 1) y = idx a b c a y + (c - a) - 1 := by unfold idx; omega
      have := (idx_bd hv (Int.le_refl a) v2 h1 (show y ≤ d by omega)).2.2.1
      omega
    · have e2 : idx a b c a y = 0 := by unfold idx; rw [show c - a = 0 by omega]; simp
      omega
  refine ⟨List.ext_getElem ?_ fun k k1 k2 => ?_, hle⟩
  · rw [rowL_len, List.length_take, List.length_drop]; dsimp only; omega
  · rw [rowL_len] at k1
    dsimp only at k1
    have hh : Pl.hasB a b c d (a + (k : Int)) y = true := Pl.has_iff.2 ⟨by omega, by omega, h1, h2⟩
    have hi := (idx_nat hh).1
    have hj := (idx_nat (a := a) (b := b) (c := c) (d := d) (x := a) (y := y) (Pl.has_iff.2 ⟨by omega, by omega, h1, h2⟩)).1
    have e3 : (idx a b c (a + (k : Int)) y).toNat = (idx a b c a y).toNat + k := by
      rw [hi, hj]; omega
    simp only [rowL, List.getElem_map, List.getElem_range, List.getElem_take, List.getElem_drop]
    rw [gv, List.getD_eq_getElem?_getD, List.getElem?_eq_getElem (by dsimp only; omega), Option.getD_some]
    simp only [e3]
end Go.Proofs.Ytadkcgpkbcgeoaa
