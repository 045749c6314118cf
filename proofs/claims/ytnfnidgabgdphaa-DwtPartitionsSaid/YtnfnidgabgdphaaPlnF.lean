/-
  A row that is filled cell by cell; what each call of Column on planes returns and leaves: contracts.
-/
import Derived.Test.YtnfnidgabgdphaaPlnE
set_option maxRecDepth 100000
namespace Go.Proofs.Ytnfnidgabgdphaa
open Go.RowKit

/-- A list of which the first k are written, the others 0. -/
def fillL (L : List Int) (k : Nat) : List Int := L.take k ++ List.replicate (L.length - k) 0
theorem fillL_len (L : List Int) (k : Nat) (hk : k ≤ L.length) : (fillL L k).length = L.length := by simp [fillL]; omega
theorem fillL_zero (L : List Int) : fillL L 0 = List.replicate L.length 0 := by simp [fillL]
theorem fillL_all (L : List Int) : fillL L L.length = L := by simp [fillL]
theorem fillL_next (L : List Int) (k : Nat) (hk : k < L.length) : (fillL L k).set k L[k] = fillL L (k + 1) := by
  have e : L.length - k = (L.length - (k + 1)) + 1 := by omega
  have e2 : (L.take k).length = k := by simp; omega
  rw [fillL, fillL, List.set_append_right _ _ (by omega), e2, e, List.replicate_succ, Nat.sub_self, List.set_cons_zero, List.take_succ_eq_append_getElem hk, List.append_assoc]
  rfl
theorem RowAt.set {w : World} {g : Nat} {l : List Int} (h : RowAt w g l) (k : Nat) (v : Int) : RowAt (w.setCell ⟨g, k, none⟩ (.int .i64 v)) g (l.set k v) := by
  unfold RowAt at *
  simp only [World.setCell, Array.getElem?_modify, if_true, h, Option.map_some]
  simp [List.map_set]
/-- A plane's box stays where another block is written. -/
theorem QBox.far {w : World} {B : Nat} {r : Pl.R} {u : Value} (h : QBox w B r u) (a : Addr) (v : Value) (hn : B ≠ a.block) : QBox (w.setCell a v) B r u :=
  ⟨h.cells.far a v hn, cell_far v h.data hn, fun j => by rw [World.frozen?_setCell]; exact h.free j, by have := h.lt; simpa [World.setCell] using this⟩
theorem Q1.far {a b c d : Int} {s : Option Addr} {n m : Nat} {w W : World} (h : Q1 a b c d s n m w W) (p : Addr) (v : Value) (hp : w.heap.size < p.block) : Q1 a b c d s n m w (W.setCell p v) :=
  ⟨h.below.setCell (Nat.le_of_lt hp) _, h.q.far _ _ (Nat.ne_of_lt hp)⟩
theorem colL_at {a b c d x : Int} {l : List Int} (hp : pvB a b c d l.length = true) (h1 : a ≤ x) (h2 : x < c) (k : Nat) (hk : k < (colL ⟨a, b, c, d⟩ l x).length) :
    ∃ j : Nat, idx a b c x (b + (k : Int)) = (j : Int) ∧ ∃ hj : j < l.length, (colL ⟨a, b, c, d⟩ l x)[k] = l[j] := by
  obtain ⟨hv, _, hn⟩ := pv_iff.1 hp
  obtain ⟨v1, v2, v3, v4, v5, v6⟩ := Pl.valid_iff.1 hv
  have hk' := hk
  rw [colL_len] at hk'
  dsimp only at hk'
  have hh : Pl.hasB a b c d x (b + (k : Int)) = true := Pl.has_iff.2 ⟨h1, h2, by omega, by omega⟩
  have hlt := idx_lt' hh
  have hlen := pv_len hp
  have hb := (idx_bd (d := d) (x := x) (y := b + (k : Int)) hv h1 (by omega) (by omega) (by omega)).2.2.1
  refine ⟨(idx a b c x (b + (k : Int))).toNat, by omega, by omega, ?_⟩
  simp only [colL, List.getElem_map, List.getElem_range]
  rw [gv, List.getD_eq_getElem?_getD, List.getElem?_eq_getElem (by dsimp only; omega), Option.getD_some]
set_option maxHeartbeats 1000000 in
theorem col_no (a b c d x : Int) (s : Option Addr) (n m : Nat) (w : World) (hp : pvB a b c d n = false ∨ (pvB a b c d n = true ∧ (x < a ∨ c ≤ x))) :
    Calls Try.prog 68 #[.agg #[.int .i64 a, .int .i64 b, .int .i64 c, .int .i64 d, .slice s n m], .int .i64 x] w (GivesInts [] false w) := by
  rcases hp with hp | ⟨hp, hy | hy⟩
  · go_enter Try.func68, Try.ntmps68
    go_wp2_with fail
    refine (pv_c _ _ _ _ _ _ _ _).mono ?_
    rintro e w1 ⟨rfl, hb1⟩
    have hS1 := (Q1.fresh a b c d s n m w).step hb1
    go_wp2
    go_ret2
    exact ⟨_, _, rfl, .inl rfl, hS1.below, Nat.le_refl _⟩
  · go_enter Try.func68, Try.ntmps68
    go_wp2_with fail
    refine (pv_c _ _ _ _ _ _ _ _).mono ?_
    rintro e w1 ⟨rfl, hb1⟩
    have hS1 := (Q1.fresh a b c d s n m w).step hb1
    obtain ⟨c0, c1, c2, c3, c4⟩ := hS1.q.open
    go_wp2
    go_ret2
    exact ⟨_, _, rfl, .inl rfl, hS1.below, Nat.le_refl _⟩
  · obtain ⟨hv, _, _⟩ := pv_iff.1 hp
    obtain ⟨v1, v2, v3, v4, v5, v6⟩ := Pl.valid_iff.1 hv
    have hb : ¬ x < a := by omega
    go_enter Try.func68, Try.ntmps68
    go_wp2_with fail
    refine (pv_c _ _ _ _ _ _ _ _).mono ?_
    rintro e w1 ⟨rfl, hb1⟩
    have hS1 := (Q1.fresh a b c d s n m w).step hb1
    obtain ⟨c0, c1, c2, c3, c4⟩ := hS1.q.open
    go_wp2
    go_ret2
    exact ⟨_, _, rfl, .inl rfl, hS1.below, Nat.le_refl _⟩
/-- The column's loop. -/
def ColRel (a b c d x : Int) (s : Option Addr) (m : Nat) (l : List Int) (w : World) (g : Nat) (i : Value) (wr : World) : Prop :=
  ∃ k : Nat, k ≤ (colL ⟨a, b, c, d⟩ l x).length ∧ i = .int .i64 k ∧ Q1 a b c d s l.length m w wr ∧ RowAt wr g (fillL (colL ⟨a, b, c, d⟩ l x) k)
set_option maxRecDepth 100000 in
set_option maxHeartbeats 1000000 in
theorem col_yes (a b c d x : Int) (s : Option Addr) (m : Nat) (l : List Int) (w : World) (hp : pvB a b c d l.length = true) (h1 : a ≤ x) (h2 : x < c) (hH : HoldsI w s l) :
    Calls Try.prog 68 #[.agg #[.int .i64 a, .int .i64 b, .int .i64 c, .int .i64 d, .slice s l.length m], .int .i64 x] w (GivesInts (colL ⟨a, b, c, d⟩ l x) true w) := by
  obtain ⟨hv, har, hn⟩ := pv_iff.1 hp
  obtain ⟨v1, v2, v3, v4, v5, v6⟩ := Pl.valid_iff.1 hv
  have HJ : Hid _ := fun k hk => colL_at (x := x) hp h1 h2 k hk
  obtain ⟨C, hC⟩ : ∃ C : Nat, d - b = (C : Int) := ⟨(d - b).toNat, by omega⟩
  have hCl : (colL ⟨a, b, c, d⟩ l x).length = C := by rw [colL_len]; dsimp only; omega
  have hC4 : C ≤ 4096 := by omega
  have hmk := fun (W : World) => run_make_row' (P := Try.prog) 28 3 (.int .i64 0) 8 Try.underlying28 infoI rfl .i64 .i64 C (by omega) (by omega) W
  have hd' : ¬ x < a := by omega
  clear hn har
  go_enter Try.func68, Try.ntmps68
  go_wp2_with fail
  refine (pv_c _ _ _ _ _ _ _ _).mono ?_
  rintro e w1 ⟨rfl, hb1⟩
  have hS1 := (Q1.fresh a b c d s l.length m w).step hb1
  obtain ⟨c0, c1, c2, c3, c4⟩ := hS1.q.open
  have hlt1 := hS1.q.lt
  have r0 : RowAt (w1.alloc (.cells (madeCells #[.int .i64 0] C) 3)) w1.heap.size (fillL (colL ⟨a, b, c, d⟩ l x) 0) := by rw [fillL_zero, hCl]; exact rowAt_made _ _
  have hS2 : Q1 a b c d s l.length m w (w1.alloc (.cells (madeCells #[.int .i64 0] C) 3)) := hS1.step ((Below.refl _ _).alloc (Nat.le_refl _) _)
  clear hb1
  go_wp2_with fail
  clear c0 c1 c2 c3 c4 hS1
  go_loopw [35] (fun i wr => ColRel a b c d x s m l w w1.heap.size i wr) (fun i _ => C - (intOf i).toNat)
  case atStart => exact ⟨0, by omega, rfl, hS2, r0⟩
  case round =>
    obtain ⟨k, hk, rfl, hS, hR⟩ := hrel
    by_cases hlt : k < C
    · obtain ⟨j, hj, hjl, hval⟩ := HJ.out k (by omega)
      have hi : (k : Int) < (C : Int) := by omega
      rcases hH with rfl | ⟨bb, off, rfl, hr⟩
      · simp at hjl
      have hji : (j : Int) < (l.length : Int) := by omega
      have hblt : bb < w.heap.size := cell_lt (hr j hjl)
      have hy0 : wr.cell? ⟨bb, off + j, none⟩ = some (.int .i64 l[j]) := (hS.below.cell (p := ⟨bb, _, none⟩) hblt).trans (hr j hjl)
      obtain ⟨c0, c1, c2, c3, c4⟩ := hS.q.open
      have hww : IntKind.i64.wrap (b + (k : Int)) = b + (k : Int) := IntWalk.i64_in _ (by omega)
      have HV : Hid _ := hval
      clear hval
      have hRf := hR.free
      have hRl := hR.lt
      go_wp2_with fail
      have hR0 := hR.drew
      have hS0 := hS.step (Below.refl _ _).drew
      go_region_held3 (fun w' => w'.cell? ⟨w.heap.size, 0, none⟩ = some (.int .i64 a) ∧ w'.cell? ⟨w.heap.size, 1, none⟩ = some (.int .i64 b) ∧ w'.cell? ⟨w.heap.size, 2, none⟩ = some (.int .i64 c) ∧ w'.cell? ⟨w.heap.size, 3, none⟩ = some (.int .i64 d) ∧ w'.cell? ⟨w.heap.size, 4, none⟩ = some (.slice (some ⟨bb, off, none⟩) l.length m) ∧ w'.cell? ⟨bb, off + j, none⟩ = some (.int .i64 l[j]))
        (first | (with_reducible assumption) | exact ⟨c0, c1, c2, c3, c4, hy0⟩ | exact ⟨k0, k1, k2, k3, k4, hy1⟩ | exact hall)
        (first | (go_at_call 109; (with_reducible refine (index_c _ _ _ _ _ _ _ _ _ _ hv (by omega) (by omega) (by omega) (by omega)).mono ?_); rintro e w3 ⟨rfl, hb3⟩; have S3 := hS0.step hb3; have R3 := hR0.below hb3; obtain ⟨k0, k1, k2, k3, k4⟩ := S3.q.open; have hy1 : w3.cell? ⟨bb, off + j, none⟩ = some (.int .i64 l[j]) := (S3.below.cell (p := ⟨bb, _, none⟩) hblt).trans (hr j hjl); have z0 := R3.at (k := k) (by rw [fillL_len _ _ hk]; omega); have z1 := R3.free k; have S4 := S3.far ⟨w1.heap.size, k, none⟩ (.int .i64 l[j]) hlt1; have R4 := R3.set k l[j]; have hall : _ ∧ _ ∧ _ ∧ _ ∧ _ ∧ _ := ⟨S4.q.open.1, S4.q.open.2.1, S4.q.open.2.2.1, S4.q.open.2.2.2.1, S4.q.open.2.2.2.2, (S4.below.cell (p := ⟨bb, _, none⟩) hblt).trans (hr j hjl)⟩; clear hb3))
      have R5 : RowAt (w3.setCell ⟨w1.heap.size, k, none⟩ (.int .i64 l[j])) w1.heap.size (fillL (colL ⟨a, b, c, d⟩ l x) (k + 1)) := by
        rw [← fillL_next _ k (by omega), HV.out]; exact R4
      have HR : Hid _ := R5
      have HS : Hid _ := S4
      clear R5 S4 R4 R3 S3 hall z0 z1
      go_wp2
      go_roundw
      case rel => exact ⟨k + 1, by omega, by go_num, HS.out, HR.out⟩
      case measure => simp [intOf]; omega
    · obtain rfl : k = C := by omega
      have HR : Hid _ := hR
      have HS : Hid _ := hS
      clear hR hS
      go_wp2
      go_ret2
      refine ⟨some ⟨w1.heap.size, 0, none⟩, k, by rw [hCl]; rfl, ?_, HS.out.below, by omega⟩
      have := HR.out
      rw [← hCl, fillL_all] at this
      exact RowAt.holds this
end Go.Proofs.Ytnfnidgabgdphaa
