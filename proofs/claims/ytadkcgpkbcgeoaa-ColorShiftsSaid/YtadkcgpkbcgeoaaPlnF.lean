/-
  A row that is filled cell by cell; what each call of Column on planes returns and leaves: contracts.
-/
import Derived.Test.YtadkcgpkbcgeoaaPlnE
set_option maxRecDepth 100000
namespace Go.Proofs.Ytadkcgpkbcgeoaa
open Go.RowKit

/-- A list of which the first k are written, the others 0. -/
def fillL (L : List Int) (k : Nat) : List Int := L.take k ++ List.replicate (L.length - k) 0
theorem fillL_len (L : List Int) (k : Nat) (hk : k ≤ L.length) : (fillL L k).length = L.length := by simp [fillL]; omega
theorem fillL_zero (L : List Int) : fillL L 0 = List.replicate L.length 0 := by simp [fillL]
theorem fillL_all (L : List Int) : fillL L L.length = L := by simp [fillL]
theorem fillL_next (L : List Int) (k : Nat) (hk : k < L.length) : (fillL L k).set k L[k] = fillL L (k + 1) := by
  have e : L.length - k = (L.length - (k + 1)) + 1 := by omega
  have e2 : (L.take k).length = k := by simp; omega
  rw [fillL, fillL, List.set_append_right _ _ (by omega), e2, e, List.replicate_succ, Nat.sub_self, List.set_cons_zero, List.take_succ_eq_append_getElem hk, List.append_assoc]
  rfl
theorem RowAt.set {w : World} {g : Nat} {l : List Int} (h : RowAt w g l) (k : Nat) (v : Int) : RowAt (w.setCell ⟨g, k, none⟩ (.int .i64 v)) g (l.set k v) := by
  unfold RowAt at *
  simp only [World.setCell, Array.getElem?_modify, if_true, h, Option.map_some]
  simp [List.map_set]
/-- A plane's box stays where another block is written. -/
theorem QBox.far {w : World} {B : Nat} {r : Pl.R} {u : Value} (h : QBox w B r u) (a : Addr) (v : Value) (hn : B ≠ a.block) : QBox (w.setCell a v) B r u :=
  ⟨h.cells.far a v hn, cell_far v h.data hn, fun j => by rw [World.frozen?_setCell]; exact h.free j, by have := h.lt; simpa [World.setCell] using this⟩
theorem Q1.far {a b c d : Int} {s : Option Addr} {n m : Nat} {w W : World} (h : Q1 a b c d s n m w W) (p : Addr) (v : Value) (hp : w.heap.size < p.block) : Q1 a b c d s n m w (W.setCell p v) :=
  ⟨h.below.setCell (Nat.le_of_lt hp) _, h.q.far _ _ (Nat.ne_of_lt hp)⟩
theorem colL_at {a b c d x : Int} {l : List Int} (hp : pvB a b c d l.length = true) (h1 : a ≤ x) (h2 : x < c) (k : Nat) (hk : k < (colL ⟨a, b, c, d⟩ l x).length) :
    ∃ j : Nat, idx a b c x (b + (k : Int)) = (j : Int) ∧ ∃ hj : j < l.length, (colL ⟨a, b, c, d⟩ l x)[k] = l[j] := by
  obtain ⟨hv, _, hn⟩ := pv_iff.1 hp
  obtain ⟨v1, v2, v3, v4, v5, v6⟩ := Pl.valid_iff.1 hv
  have hk' := hk
  rw [colL_len] at hk'
  dsimp only at hk'
  have hh : Pl.hasB a b c d x (b + (k : Int)) = true := Pl.has_iff.2 ⟨h1, h2, by omega, by omega⟩
  have hlt := idx_lt' hh
  have hlen := pv_len hp
  have hb := (idx_bd (d := d) (x := x) (y := b + (k : Int)) hv h1 (by omega) (by omega) (by omega)).2.2.1
  refine ⟨(idx a b c x (b + (k : Int))).toNat, by omega, by omega, ?_⟩
  simp only [colL, List.getElem_map, List.getElem_range]
  rw [gv, List.getD_eq_getElem?_getD, List.getElem?_eq_getElem (by dsimp only; omega), Option.getD_some]
/-- The column's loop. -/
def ColRel (a b c d x : Int) (s : Option Addr) (m : Nat) (l : List Int) (w : World) (g : Nat) (i : Value) (wr : World) : Prop :=
  ∃ k : Nat, k ≤ (colL ⟨a, b, c, d⟩ l x).length ∧ i = .int .i64 k ∧ Q1 a b c d s l.length m w wr ∧ RowAt wr g (fillL (colL ⟨a, b, c, d⟩ l x) k)
end Go.Proofs.Ytadkcgpkbcgeoaa
