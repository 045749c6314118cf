/-
  Layers 1 to 5, the base: PlnA, PlnB, PlnC, PlnD, Tab, PlnE, PlnF of one piece.
-/
import Derived.Test.YtoplgnckdmkaoaaBsA
import Derived.OwnWalk
import Derived.Deep.RegionHeld3
import Derived.Deep.OwnRows
import Derived.Laws.CopyOwn
set_option maxRecDepth 100000
namespace Go.Proofs.Ytoplgnckdmkaoaa
open Go.RowKit

/-- The integers of a list, one after the other. -/
def IntsAt (w : World) (b off : Nat) (l : List Int) : Prop := ∀ k (_ : k < l.length), w.cell? ⟨b, off + k, none⟩ = some (.int .i64 l[k])
/-- A slice's address holds the integers of a list. -/
def HoldsI (w : World) (a : Option Addr) (l : List Int) : Prop := l = [] ∨ ∃ b off, a = some ⟨b, off, none⟩ ∧ IntsAt w b off l
theorem HoldsI.below {B : Nat} {w w1 : World} {a : Option Addr} {l : List Int} (h : HoldsI w a l) (hb : Below B w w1) (hB : w.heap.size ≤ B) : HoldsI w1 a l := by
  rcases h with rfl | ⟨b, off, rfl, hr⟩
  · exact .inl rfl
  · exact .inr ⟨b, off, rfl, fun k hk => (hb.cell (p := ⟨b, _, none⟩) (Nat.lt_of_lt_of_le (cell_lt (hr k hk)) hB)).trans (hr k hk)⟩
theorem holdsI_at {w : World} {b off : Nat} {l : List Int} (h : HoldsI w (some ⟨b, off, none⟩) l) {k : Nat} (hk : k < l.length) : w.cell? ⟨b, off + k, none⟩ = some (.int .i64 l[k]) := by
  rcases h with rfl | ⟨b', off', e, hr⟩
  · simp at hk
  · simp at e
    obtain ⟨rfl, rfl⟩ := e
    exact hr k hk
def eqL (l m : List Int) : Bool := decide (l = m)
theorem eqL_self (l : List Int) : eqL l l = true := by simp [eqL]
theorem eqL_len {l m : List Int} (h : l.length ≠ m.length) : eqL l m = false := by
  simp only [eqL, decide_eq_false_iff_not]
  intro e; rw [e] at h; exact h rfl
theorem eqL_ne {l m : List Int} {k : Nat} (h1 : k < l.length) (h2 : k < m.length) (h : l[k] ≠ m[k]) : eqL l m = false := by
  simp only [eqL, decide_eq_false_iff_not]
  intro e; subst e; exact h rfl
theorem eqL_all {l m : List Int} (hl : l.length = m.length) (h : ∀ k (h1 : k < l.length) (h2 : k < m.length), l[k] = m[k]) : eqL l m = true := by
  simp only [eqL, decide_eq_true_eq]
  exact List.ext_getElem hl h
def EqRel (l m : List Int) (w : World) (i : Value) (wr : World) : Prop := ∃ k : Nat, k ≤ l.length ∧ i = .int .i64 k ∧ (∀ j (h1 : j < l.length) (h2 : j < m.length), j < k → l[j] = m[j]) ∧ Below w.heap.size w wr
set_option maxHeartbeats 1000000 in
theorem ints_r (a1 a2 : Option Addr) (c1 c2 : Nat) (l m : List Int) (w : World) (hl : l.length ≤ 140737488351232) (hm : m.length ≤ 140737488351232) (h1 : HoldsI w a1 l) (h2 : HoldsI w a2 m) :
    Calls Try.prog 171 #[.slice a1 l.length c1, .slice a2 m.length c2] w fun e w' => e = .returned (.bool (eqL l m)) ∧ Below w.heap.size w w' := by
  by_cases hlen : l.length = m.length
  · have HL : Hid _ := hlen
    have hlen1 : l.length ≤ m.length := by omega
    have hlen2 : m.length ≤ l.length := by omega
    have hd : (((l.length : Int)) == (m.length : Int)) = true := by simp [hlen]
    have hd' : (((l.length : Int)) != (m.length : Int)) = false := by simp [hlen]
    have hd2 : decide ((l.length : Int) = (m.length : Int)) = true := by simp [hlen]
    clear hlen
    go_enter Try.func171, Try.ntmps171
    go_wp2_with fail
    clear hd hd' hd2
    go_loopw [5] (fun i wr => EqRel l m w i wr) (fun i _ => l.length - (intOf i).toNat)
    case atStart => exact ⟨0, by omega, rfl, fun j _ _ hj => by omega, Below.refl _ _⟩
    case round =>
      obtain ⟨k, hk, rfl, hall, hB⟩ := hrel
      have HA : Hid _ := hall
      clear hall
      by_cases hlt : k < l.length
      · have hlt2 : k < m.length := by omega
        rcases h1 with rfl | ⟨b, off, rfl, hr⟩
        · simp at hlt
        rcases h2 with rfl | ⟨b', off', rfl, hr'⟩
        · simp at hlt2
        have e0 : wr.cell? ⟨b, off + k, none⟩ = some (.int .i64 l[k]) := (hB.cell (p := ⟨b, _, none⟩) (cell_lt (hr k hlt))).trans (hr k hlt)
        have f0 : wr.cell? ⟨b', off' + k, none⟩ = some (.int .i64 m[k]) := (hB.cell (p := ⟨b', _, none⟩) (cell_lt (hr' k hlt2))).trans (hr' k hlt2)
        have hi : (k : Int) < (l.length : Int) := by omega
        have hi2 : (k : Int) < (m.length : Int) := by omega
        go_wp2_with fail
        go_quiet (fail)
        by_cases he : l[k] = m[k]
        · have HE : Hid _ := he
          have g1 : (l[k] == m[k]) = true := by simp [he]
          have g2 : (l[k] != m[k]) = false := by simp [he]
          have g3 : decide (l[k] = m[k]) = true := by simp [he]
          clear he
          go_wp2
          go_roundw
          case rel => exact ⟨k + 1, by omega, by go_num, fun j h1 h2 hj => if hjk : j = k then by subst hjk; exact HE.out else HA.out j h1 h2 (by omega), below_drewN hB _⟩
          case measure => simp [intOf]; omega
        · have g1 : (l[k] == m[k]) = false := by simp [he]
          have g2 : (l[k] != m[k]) = true := by simp [he]
          have g3 : decide (l[k] = m[k]) = false := by simp [he]
          have hf := eqL_ne hlt hlt2 he
          clear he
          go_wp2
          go_ret
          exact ⟨by rw [hf]; rfl, below_drewN hB _⟩
      · have hf := eqL_all HL.out (fun j h1 h2 => HA.out j h1 h2 (by omega))
        go_wp2
        go_ret
        exact ⟨by rw [hf]; rfl, hB⟩
  · have hd : (((l.length : Int)) == (m.length : Int)) = false := by simp; omega
    have hd' : (((l.length : Int)) != (m.length : Int)) = true := by simp; omega
    have hd2 : decide ((l.length : Int) = (m.length : Int)) = false := by simp; omega
    have hf := eqL_len hlen
    clear hlen
    go_enter Try.func171, Try.ntmps171
    go_wp2
    go_ret
    exact ⟨by rw [hf]; rfl, Below.refl _ _⟩
set_option maxHeartbeats 1000000 in
theorem ints_c (a1 a2 : Option Addr) (c1 c2 : Nat) (l m : List Int) (w : World) (hl : l.length ≤ 140737488351232) (hm : m.length ≤ 140737488351232) (h1 : HoldsI w a1 l) (h2 : HoldsI w a2 m) :
    Calls Try.prog 103 #[.slice a1 l.length c1, .slice a2 m.length c2] w fun e w' => e = .returned (.bool (eqL l m)) ∧ Below w.heap.size w w' := by
  by_cases hlen : l.length = m.length
  · have HL : Hid _ := hlen
    have hlen1 : l.length ≤ m.length := by omega
    have hlen2 : m.length ≤ l.length := by omega
    have hd : (((l.length : Int)) == (m.length : Int)) = true := by simp [hlen]
    have hd' : (((l.length : Int)) != (m.length : Int)) = false := by simp [hlen]
    have hd2 : decide ((l.length : Int) = (m.length : Int)) = true := by simp [hlen]
    clear hlen
    go_enter Try.func103, Try.ntmps103
    go_wp2_with fail
    clear hd hd' hd2
    go_loopw [13] (fun i wr => EqRel l m w i wr) (fun i _ => l.length - (intOf i).toNat)
    case atStart => exact ⟨0, by omega, rfl, fun j _ _ hj => by omega, Below.refl _ _⟩
    case round =>
      obtain ⟨k, hk, rfl, hall, hB⟩ := hrel
      have HA : Hid _ := hall
      clear hall
      by_cases hlt : k < l.length
      · have hlt2 : k < m.length := by omega
        rcases h1 with rfl | ⟨b, off, rfl, hr⟩
        · simp at hlt
        rcases h2 with rfl | ⟨b', off', rfl, hr'⟩
        · simp at hlt2
        have e0 : wr.cell? ⟨b, off + k, none⟩ = some (.int .i64 l[k]) := (hB.cell (p := ⟨b, _, none⟩) (cell_lt (hr k hlt))).trans (hr k hlt)
        have f0 : wr.cell? ⟨b', off' + k, none⟩ = some (.int .i64 m[k]) := (hB.cell (p := ⟨b', _, none⟩) (cell_lt (hr' k hlt2))).trans (hr' k hlt2)
        have hi : (k : Int) < (l.length : Int) := by omega
        have hi2 : (k : Int) < (m.length : Int) := by omega
        go_wp2_with fail
        go_quiet (fail)
        by_cases he : l[k] = m[k]
        · have HE : Hid _ := he
          have g1 : (l[k] == m[k]) = true := by simp [he]
          have g2 : (l[k] != m[k]) = false := by simp [he]
          have g3 : decide (l[k] = m[k]) = true := by simp [he]
          clear he
          go_wp2
          go_roundw
          case rel => exact ⟨k + 1, by omega, by go_num, fun j h1 h2 hj => if hjk : j = k then by subst hjk; exact HE.out else HA.out j h1 h2 (by omega), below_drewN hB _⟩
          case measure => simp [intOf]; omega
        · have g1 : (l[k] == m[k]) = false := by simp [he]
          have g2 : (l[k] != m[k]) = true := by simp [he]
          have g3 : decide (l[k] = m[k]) = false := by simp [he]
          have hf := eqL_ne hlt hlt2 he
          clear he
          go_wp2
          go_ret
          exact ⟨by rw [hf]; rfl, below_drewN hB _⟩
      · have hf := eqL_all HL.out (fun j h1 h2 => HA.out j h1 h2 (by omega))
        go_wp2
        go_ret
        exact ⟨by rw [hf]; rfl, hB⟩
  · have hd : (((l.length : Int)) == (m.length : Int)) = false := by simp; omega
    have hd' : (((l.length : Int)) != (m.length : Int)) = true := by simp; omega
    have hd2 : decide ((l.length : Int) = (m.length : Int)) = false := by simp; omega
    have hf := eqL_len hlen
    clear hlen
    go_enter Try.func103, Try.ntmps103
    go_wp2
    go_ret
    exact ⟨by rw [hf]; rfl, Below.refl _ _⟩
/-- A block that holds a plane: its rectangle and its slice. -/
structure QBox (w : World) (B : Nat) (r : Pl.R) (v : Value) : Prop where
  cells : RectAt w B 0 r
  data : w.cell? ⟨B, 4, none⟩ = some v
  free : ∀ j, w.frozen? ⟨B, j, none⟩ = false
  lt : B < w.heap.size
theorem QBox.fresh (w : World) (a b c d : Int) (s : Option Addr) (n m : Nat) (t : TypeId) : QBox (w.alloc (.cells #[.int .i64 a, .int .i64 b, .int .i64 c, .int .i64 d, .slice s n m] t)) w.heap.size ⟨a, b, c, d⟩ (.slice s n m) :=
  ⟨by simp [RectAt], by simp, fun j => by simp, by simp⟩
theorem QBox.freshAt (w : World) (B : Nat) (hB : B = w.heap.size) (a b c d : Int) (s : Option Addr) (n m : Nat) (t : TypeId) : QBox (w.alloc (.cells #[.int .i64 a, .int .i64 b, .int .i64 c, .int .i64 d, .slice s n m] t)) B ⟨a, b, c, d⟩ (.slice s n m) := by subst hB; exact QBox.fresh w a b c d s n m t
theorem QBox.below {W w1 : World} {B : Nat} {r : Pl.R} {v : Value} (h : QBox W B r v) (hb : Below W.heap.size W w1) : QBox w1 B r v :=
  ⟨h.cells.below hb h.lt, (hb.cell (p := ⟨B, _, none⟩) h.lt).trans h.data, fun j => (hb.frozen (p := ⟨B, j, none⟩) h.lt).trans (h.free j), by have := h.lt; have := hb.size; omega⟩
theorem QBox.alloc {w : World} {B : Nat} {r : Pl.R} {v : Value} (h : QBox w B r v) (X : Obj) : QBox (w.alloc X) B r v := h.below ((Below.refl _ _).alloc (Nat.le_refl _) _)
theorem QBox.drew {w : World} {B : Nat} {r : Pl.R} {v : Value} (h : QBox w B r v) : QBox w.drew B r v := ⟨h.cells, h.data, h.free, h.lt⟩
theorem QBox.open {w : World} {B : Nat} {r : Pl.R} {v : Value} (h : QBox w B r v) :
    w.cell? ⟨B, 0, none⟩ = some (.int .i64 r.x0) ∧ w.cell? ⟨B, 1, none⟩ = some (.int .i64 r.y0) ∧ w.cell? ⟨B, 2, none⟩ = some (.int .i64 r.x1) ∧ w.cell? ⟨B, 3, none⟩ = some (.int .i64 r.y1) ∧ w.cell? ⟨B, 4, none⟩ = some v := by
  have := h.cells
  simp only [RectAt, Nat.zero_add] at this
  exact ⟨this.1, this.2.1, this.2.2.1, this.2.2.2, h.data⟩
/-- A whole plane is stored over it. -/
theorem QBox.store {w : World} {B : Nat} {r : Pl.R} {v : Value} (h : QBox w B r v) (a b c d : Int) (u : Value) :
    QBox (((((w.setCell ⟨B, 0, none⟩ (.int .i64 a)).setCell ⟨B, 1, none⟩ (.int .i64 b)).setCell ⟨B, 2, none⟩ (.int .i64 c)).setCell ⟨B, 3, none⟩ (.int .i64 d)).setCell ⟨B, 4, none⟩ u) B ⟨a, b, c, d⟩ u := by
  obtain ⟨c0, c1, c2, c3, c4⟩ := h.open
  refine ⟨by simp [RectAt, go_sem, c0, c1, c2, c3], by simp [go_sem, c4], fun j => ?_, by have := h.lt; simpa [World.setCell] using this⟩
  simp only [World.frozen?_setCell]
  exact h.free j
theorem below5 {B b : Nat} {a w : World} (h : Below B a w) (hb : B ≤ b) (v0 v1 v2 v3 v4 : Value) : Below B a (((((w.setCell ⟨b, 0, none⟩ v0).setCell ⟨b, 1, none⟩ v1).setCell ⟨b, 2, none⟩ v2).setCell ⟨b, 3, none⟩ v3).setCell ⟨b, 4, none⟩ v4) :=
  ((((h.setCell hb _).setCell hb _).setCell hb _).setCell hb _).setCell hb _
/-- A plane is valid: its rectangle is, is not too large, and there is a sample for each point. -/
def pvB (a b c d : Int) (n : Nat) : Bool := decide (Pl.validB a b c d = true ∧ Pl.areaI a b c d ≤ 1048576 ∧ (n : Int) = Pl.areaI a b c d)
theorem pv_iff {a b c d : Int} {n : Nat} : pvB a b c d n = true ↔ (Pl.validB a b c d = true ∧ Pl.areaI a b c d ≤ 1048576 ∧ (n : Int) = Pl.areaI a b c d) := by simp [pvB]
set_option maxHeartbeats 1000000 in
theorem pv_c (a b c d : Int) (s : Option Addr) (n m : Nat) (w : World) :
    Calls Try.prog 75 #[.agg #[.int .i64 a, .int .i64 b, .int .i64 c, .int .i64 d, .slice s n m]] w fun e w' => e = .returned (.bool (pvB a b c d n)) ∧ Below w.heap.size w w' := by
  go_enter Try.func75, Try.ntmps75
  go_wp2_with fail
  have x0 := QBox.fresh w a b c d s n m 26
  refine (area_c _ _ _ _ _).mono ?_
  rintro e w1 ⟨rfl, hb1⟩
  have x1 := x0.below hb1
  have B1 : Below w.heap.size w w1 := bcall ((Below.refl _ _).alloc (Nat.le_refl _) _) hb1 (by simp)
  clear hb1 x0
  obtain ⟨c0, c1, c2, c3, c4⟩ := x1.open
  go_wp2_with fail
  refine (valid_c _ _ _ _ _).mono ?_
  rintro e w2 ⟨rfl, hb2⟩
  have x2 := x1.below hb2
  have B2 : Below w.heap.size w w2 := bcall B1 hb2 (by have := x1.lt; omega)
  clear hb2 x1 B1 c0 c1 c2 c3 c4
  obtain ⟨c0, c1, c2, c3, c4⟩ := x2.open
  by_cases hv : Pl.validB a b c d = true
  · go_wp2
    all_goals
      go_ret
      exact ⟨ret_bool (by simp [pvB, hv]; try omega), B2⟩
  · have hv' : Pl.validB a b c d = false := by simpa using hv
    go_wp2
    go_ret
    exact ⟨ret_bool (by simp [pvB, hv']), B2⟩
set_option maxHeartbeats 1000000 in
theorem pv_r (a b c d : Int) (s : Option Addr) (n m : Nat) (w : World) :
    Calls Try.prog 71 #[.agg #[.int .i64 a, .int .i64 b, .int .i64 c, .int .i64 d, .slice s n m]] w fun e w' => e = .returned (.bool (pvB a b c d n)) ∧ Below w.heap.size w w' := by
  go_enter Try.func71, Try.ntmps71
  go_wp2_with fail
  have x0 := QBox.fresh w a b c d s n m 26
  refine (area_r _ _ _ _ _).mono ?_
  rintro e w1 ⟨rfl, hb1⟩
  have x1 := x0.below hb1
  have B1 : Below w.heap.size w w1 := bcall ((Below.refl _ _).alloc (Nat.le_refl _) _) hb1 (by simp)
  clear hb1 x0
  obtain ⟨c0, c1, c2, c3, c4⟩ := x1.open
  go_wp2_with fail
  refine (valid_r _ _ _ _ _).mono ?_
  rintro e w2 ⟨rfl, hb2⟩
  have x2 := x1.below hb2
  have B2 : Below w.heap.size w w2 := bcall B1 hb2 (by have := x1.lt; omega)
  clear hb2 x1 B1 c0 c1 c2 c3 c4
  obtain ⟨c0, c1, c2, c3, c4⟩ := x2.open
  by_cases hv : Pl.validB a b c d = true
  · go_wp2
    all_goals
      go_ret
      exact ⟨ret_bool (by simp [pvB, hv]; try omega), B2⟩
  · have hv' : Pl.validB a b c d = false := by simpa using hv
    go_wp2
    go_ret
    exact ⟨ret_bool (by simp [pvB, hv']), B2⟩
/-- Two planes are the same: their rectangles and their lists are. -/
def psB (p q : Pl.R) (l k : List Int) : Bool := Pl.eqB p.x0 p.y0 p.x1 p.y1 q.x0 q.y0 q.x1 q.y1 && eqL l k
set_option maxHeartbeats 1000000 in
theorem ps_c (p q : Pl.R) (s t : Option Addr) (m m' : Nat) (l k : List Int) (w : World) (hl : l.length ≤ 140737488351232) (hk : k.length ≤ 140737488351232) (h1 : HoldsI w s l) (h2 : HoldsI w t k) :
    Calls Try.prog 41 #[.agg #[.int .i64 p.x0, .int .i64 p.y0, .int .i64 p.x1, .int .i64 p.y1, .slice s l.length m], .agg #[.int .i64 q.x0, .int .i64 q.y0, .int .i64 q.x1, .int .i64 q.y1, .slice t k.length m']] w fun e w' => e = .returned (.bool (psB p q l k)) ∧ Below w.heap.size w w' := by
  have heq := eqR
  by_cases hq : Pl.eqB p.x0 p.y0 p.x1 p.y1 q.x0 q.y0 q.x1 q.y1 = true
  · go_enter Try.func41, Try.ntmps41
    go_wp2_with fail
    have B0 : Below w.heap.size w ((w.alloc (.cells #[.int .i64 p.x0, .int .i64 p.y0, .int .i64 p.x1, .int .i64 p.y1, .slice s l.length m] 26)).alloc (.cells #[.int .i64 q.x0, .int .i64 q.y0, .int .i64 q.x1, .int .i64 q.y1, .slice t k.length m'] 26)) := ((Below.refl _ _).alloc (Nat.le_refl _) _).alloc (by simp) _
    refine (ints_c _ _ _ _ l k _ hl hk (h1.below B0 (Nat.le_refl _)) (h2.below B0 (Nat.le_refl _))).mono ?_
    rintro e w1 ⟨rfl, hb⟩
    go_wp2
    go_ret
    exact ⟨ret_bool (by simp [psB, hq]), bcall B0 hb (by simp; omega)⟩
  · have hq' : Pl.eqB p.x0 p.y0 p.x1 p.y1 q.x0 q.y0 q.x1 q.y1 = false := by simpa using hq
    go_enter Try.func41, Try.ntmps41
    go_wp2
    go_ret
    exact ⟨ret_bool (by simp [psB, hq']), ((Below.refl _ _).alloc (Nat.le_refl _) _).alloc (by simp) _⟩
set_option maxHeartbeats 1000000 in
theorem ps_r (p q : Pl.R) (s t : Option Addr) (m m' : Nat) (l k : List Int) (w : World) (hl : l.length ≤ 140737488351232) (hk : k.length ≤ 140737488351232) (h1 : HoldsI w s l) (h2 : HoldsI w t k) :
    Calls Try.prog 144 #[.agg #[.int .i64 p.x0, .int .i64 p.y0, .int .i64 p.x1, .int .i64 p.y1, .slice s l.length m], .agg #[.int .i64 q.x0, .int .i64 q.y0, .int .i64 q.x1, .int .i64 q.y1, .slice t k.length m']] w fun e w' => e = .returned (.bool (psB p q l k)) ∧ Below w.heap.size w w' := by
  have heq := eqR
  by_cases hq : Pl.eqB p.x0 p.y0 p.x1 p.y1 q.x0 q.y0 q.x1 q.y1 = true
  · go_enter Try.func144, Try.ntmps144
    go_wp2_with fail
    have B0 : Below w.heap.size w ((w.alloc (.cells #[.int .i64 p.x0, .int .i64 p.y0, .int .i64 p.x1, .int .i64 p.y1, .slice s l.length m] 26)).alloc (.cells #[.int .i64 q.x0, .int .i64 q.y0, .int .i64 q.x1, .int .i64 q.y1, .slice t k.length m'] 26)) := ((Below.refl _ _).alloc (Nat.le_refl _) _).alloc (by simp) _
    refine (ints_r _ _ _ _ l k _ hl hk (h1.below B0 (Nat.le_refl _)) (h2.below B0 (Nat.le_refl _))).mono ?_
    rintro e w1 ⟨rfl, hb⟩
    go_wp2
    go_ret
    exact ⟨ret_bool (by simp [psB, hq]), bcall B0 hb (by simp; omega)⟩
  · have hq' : Pl.eqB p.x0 p.y0 p.x1 p.y1 q.x0 q.y0 q.x1 q.y1 = false := by simpa using hq
    go_enter Try.func144, Try.ntmps144
    go_wp2
    go_ret
    exact ⟨ret_bool (by simp [psB, hq']), ((Below.refl _ _).alloc (Nat.le_refl _) _).alloc (by simp) _⟩
end Go.Proofs.Ytoplgnckdmkaoaa

namespace Go.Proofs.Ytoplgnckdmkaoaa
open Go.RowKit

/-- Where the sample of a point is. -/
def idx (a b c x y : Int) : Int := (y - b) * (c - a) + (x - a)
theorem idx_bd {a b c d x y : Int} (hv : Pl.validB a b c d = true) (hx : a ≤ x) (hx' : x ≤ c) (hy : b ≤ y) (hy' : y ≤ d) :
    0 ≤ (y - b) * (c - a) ∧ (y - b) * (c - a) ≤ 16777216 ∧ 0 ≤ idx a b c x y ∧ idx a b c x y ≤ 16781312 := by
  obtain ⟨v1, v2, v3, v4, v5, v6⟩ := Pl.valid_iff.1 hv
  have p0 : 0 ≤ (y - b) * (c - a) := Int.mul_nonneg (by omega) (by omega)
  have p1 : (y - b) * (c - a) ≤ 4096 * 4096 := Int.le_trans (Int.mul_le_mul_of_nonneg_right (show y - b ≤ 4096 by omega) (by omega)) (Int.mul_le_mul_of_nonneg_left (show c - a ≤ 4096 by omega) (by omega))
  unfold idx
  omega
/-- A point's sample is one of the samples. -/
theorem idx_lt {a b c d x y : Int} (hv : Pl.validB a b c d = true) (hx : a ≤ x) (hx' : x < c) (_hy : b ≤ y) (hy' : y < d) : idx a b c x y < Pl.areaI a b c d := by
  have h1 : (y - b) * (c - a) ≤ (d - b - 1) * (c - a) := Int.mul_le_mul_of_nonneg_right (show y - b ≤ d - b - 1 by omega) (by omega)
  rw [Int.sub_mul (d - b) 1, Int.one_mul] at h1
  rw [Pl.areaI, if_pos hv, Int.mul_comm (c - a)]
  unfold idx
  omega
/-- A plane in its box. -/
structure Q1 (a b c d : Int) (s : Option Addr) (n m : Nat) (w W : World) : Prop where
  below : Below w.heap.size w W
  q : QBox W w.heap.size ⟨a, b, c, d⟩ (.slice s n m)
theorem Q1.step {a b c d : Int} {s : Option Addr} {n m : Nat} {w W W1 : World} (h : Q1 a b c d s n m w W) (hb : Below W.heap.size W W1) : Q1 a b c d s n m w W1 :=
  ⟨bcall h.below hb (by have := h.q.lt; omega), h.q.below hb⟩
theorem Q1.fresh (a b c d : Int) (s : Option Addr) (n m : Nat) (w : World) : Q1 a b c d s n m w (w.alloc (.cells #[.int .i64 a, .int .i64 b, .int .i64 c, .int .i64 d, .slice s n m] 26)) :=
  ⟨(Below.refl _ _).alloc (Nat.le_refl _) _, QBox.fresh w a b c d s n m _⟩
structure Q1F (a b c d : Int) (s : Option Addr) (n m : Nat) (w : World) where
  W : World
  ok : Q1 a b c d s n m w W
set_option maxHeartbeats 400000 in
theorem width_c (a b c d : Int) (s : Option Addr) (n m : Nat) (w : World) (hv : Pl.validB a b c d = true) :
    Calls Try.prog 148 #[.agg #[.int .i64 a, .int .i64 b, .int .i64 c, .int .i64 d, .slice s n m]] w fun e w' => e = .returned (.int .i64 (c - a)) ∧ Below w.heap.size w w' := by
  obtain ⟨v1, v2, v3, v4, v5, v6⟩ := Pl.valid_iff.1 hv
  go_enter Try.func148, Try.ntmps148
  go_wp2
  go_ret
  exact ⟨rfl, (Below.refl _ _).alloc (Nat.le_refl _) _⟩
set_option maxHeartbeats 1000000 in
theorem index_c (a b c d x y : Int) (s : Option Addr) (n m : Nat) (w : World) (hv : Pl.validB a b c d = true) (hx : a ≤ x) (hx' : x ≤ c) (hy : b ≤ y) (hy' : y ≤ d) :
    Calls Try.prog 121 #[.agg #[.int .i64 a, .int .i64 b, .int .i64 c, .int .i64 d, .slice s n m], .int .i64 x, .int .i64 y] w fun e w' => e = .returned (.int .i64 (idx a b c x y)) ∧ Below w.heap.size w w' := by
  obtain ⟨v1, v2, v3, v4, v5, v6⟩ := Pl.valid_iff.1 hv
  obtain ⟨p0, p1, p2, p3⟩ := idx_bd hv hx hx' hy hy'
  have e1 : IntKind.i64.wrap (y - b) = y - b := IntWalk.i64_in _ (by omega)
  have e2 : IntKind.i64.wrap ((y - b) * (c - a)) = (y - b) * (c - a) := IntWalk.i64_in _ (by omega)
  have e2' : wrap64 ((y - b) * (c - a)) = (y - b) * (c - a) := IntWalk.wrap64_in _ ⟨by omega, by omega⟩
  have e3 : IntKind.i64.wrap (x - a) = x - a := IntWalk.i64_in _ (by omega)
  have e4 : IntKind.i64.wrap ((y - b) * (c - a) + (x - a)) = (y - b) * (c - a) + (x - a) := IntWalk.i64_in _ (by unfold idx at p2 p3; omega)
  clear p2 p3
  have hS := Q1.fresh a b c d s n m w
  go_enter Try.func121, Try.ntmps121
  go_wp2_with fail
  have hst : ∀ (X : Q1F a b c d s n m w) (w' : World), Below X.W.heap.size X.W w' → ∃ Y : Q1F a b c d s n m w, w' = Y.W := fun X w' hb => ⟨⟨w', X.ok.step hb⟩, rfl⟩
  have hne : Nonempty (Q1F a b c d s n m w) := ⟨⟨_, hS⟩⟩
  have hx0 : ∀ X : Q1F a b c d s n m w, X.W.cell? ⟨w.heap.size, 0, none⟩ = some (.int .i64 a) := fun X => X.ok.q.open.1
  have hx1 : ∀ X : Q1F a b c d s n m w, X.W.cell? ⟨w.heap.size, 1, none⟩ = some (.int .i64 b) := fun X => X.ok.q.open.2.1
  have hx2 : ∀ X : Q1F a b c d s n m w, X.W.cell? ⟨w.heap.size, 2, none⟩ = some (.int .i64 c) := fun X => X.ok.q.open.2.2.1
  have hx3 : ∀ X : Q1F a b c d s n m w, X.W.cell? ⟨w.heap.size, 3, none⟩ = some (.int .i64 d) := fun X => X.ok.q.open.2.2.2.1
  have hx4 : ∀ X : Q1F a b c d s n m w, X.W.cell? ⟨w.heap.size, 4, none⟩ = some (.slice s n m) := fun X => X.ok.q.open.2.2.2.2
  refine wp_region_in (fun X : Q1F a b c d s n m w => X.W) (by kernel_rfl) (by kernel_rfl) ⟨⟨_, hS.step (Below.refl _ _).drew⟩, rfl⟩ ?_
  repeat (first | go_big_quiet_step ((first | (go_at_call 148; exact call_in (width_c _ _ _ _ _ _ _ _ hv) (hst _)))) | quiet_step ((first | (go_at_call 148; exact call_in (width_c _ _ _ _ _ _ _ _ hv) (hst _)))))
  refine wpQuiet_nil ?_
  intro w2 hw'
  obtain ⟨⟨_, hS2⟩, hw''⟩ := hw'
  subst hw''
  clear hst hne hx0 hx1 hx2 hx3 hx4
  go_wp2
  go_ret
  exact ⟨rfl, hS2.below⟩

end Go.Proofs.Ytoplgnckdmkaoaa

namespace Go.Proofs.Ytoplgnckdmkaoaa
open Go.RowKit

theorem infoI : (Try.prog.info? 3).map (fun i => (i.zero, i.size, i.bytes)) = some (some (.int .i64 0), 1, 8) := by kernel_rfl
/-- The call returns a plane and an error's number; the plane's slice holds l; old memory is as it was. -/
def GivesPlane (r : Pl.R) (l : List Int) (err : Int) (w : World) (e : Ending) (w' : World) : Prop :=
  ∃ s m, e = .returned (.tuple #[.agg #[.int .i64 r.x0, .int .i64 r.y0, .int .i64 r.x1, .int .i64 r.y1, .slice s l.length m], .int .i64 err]) ∧ HoldsI w' s l ∧ Below w.heap.size w w' ∧ l.length ≤ m
/-- A new row of zeros. -/
theorem holds_made (w : World) (n : Nat) : HoldsI (w.alloc (.cells (madeCells #[.int .i64 0] n) 3)) (some ⟨w.heap.size, 0, none⟩) (List.replicate n 0) := by
  refine .inr ⟨w.heap.size, 0, rfl, fun k hk => ?_⟩
  have hk' : k < n := by simpa using hk
  have e : (w.alloc (.cells (madeCells #[.int .i64 0] n) 3)).cell? ⟨w.heap.size, 0 + k, none⟩ = (madeCells #[.int .i64 0] n).toList[k]? := by simp
  rw [e]
  simp [madeCells, hk', Nat.mod_one]
theorem holdsI_far {w : World} {b off : Nat} {l : List Int} (h : HoldsI w (some ⟨b, off, none⟩) l) (a : Addr) (v : Value) (hn : b ≠ a.block) : HoldsI (w.setCell a v) (some ⟨b, off, none⟩) l := by
  rcases h with h | ⟨b', off', e, hr⟩
  · exact .inl h
  · simp at e
    obtain ⟨rfl, rfl⟩ := e
    exact .inr ⟨b, off, rfl, fun k hk => cell_far v (hr k hk) hn⟩
set_option maxRecDepth 100000 in
set_option maxHeartbeats 1000000 in
theorem new_no1 (a b c d : Int) (w : World) (hv : Pl.validB a b c d = false) :
    Calls Try.prog 56 #[.agg #[.int .i64 a, .int .i64 b, .int .i64 c, .int .i64 d]] w (GivesPlane ⟨0, 0, 0, 0⟩ [] 2 w) := by
  have x0 := (Box.fresh w a b c d 23).alloc #[.int .i64 0, .int .i64 0, .int .i64 0, .int .i64 0, .slice none 0 0] 26
  have y0 := QBox.freshAt (w.alloc (.cells #[.int .i64 a, .int .i64 b, .int .i64 c, .int .i64 d] 23)) (w.heap.size + 1) (by simp) 0 0 0 0 none 0 0 26
  have B0 : Below w.heap.size w ((w.alloc (.cells #[.int .i64 a, .int .i64 b, .int .i64 c, .int .i64 d] 23)).alloc (.cells #[.int .i64 0, .int .i64 0, .int .i64 0, .int .i64 0, .slice none 0 0] 26)) := ((Below.refl _ _).alloc (Nat.le_refl _) _).alloc (by simp) _
  go_enter Try.func56, Try.ntmps56
  go_wp2_with fail
  refine (valid_c _ _ _ _ _).mono ?_
  rintro e w1 ⟨rfl, hb1⟩
  have x1 := x0.below hb1
  have y1 := y0.below hb1
  have B1 : Below w.heap.size w w1 := bcall B0 hb1 (by simp; omega)
  clear hb1 x0 y0 B0
  obtain ⟨c0, c1, c2, c3⟩ := x1.open
  obtain ⟨d0, d1, d2, d3, d4⟩ := y1.open
  have g1 := y1.free
  go_wp2
  refine bodyPost_ret (v := .tuple #[.agg #[.int .i64 0, .int .i64 0, .int .i64 0, .int .i64 0, .slice none 0 0], .int .i64 2]) ?_ rfl ?_
  · simp [results, Try.results56, go_sem, d0, d1, d2, d3, d4]
  · exact ⟨none, 0, rfl, .inl rfl, (((((B1.setCell (by simp) _).setCell (by simp) _).setCell (by simp) _).setCell (by simp) _).setCell (by simp) _), Nat.le_refl _⟩
set_option maxRecDepth 100000 in
set_option maxHeartbeats 1000000 in
theorem new_no2 (a b c d : Int) (w : World) (hv : Pl.validB a b c d = true) (ha : 1048576 < Pl.areaI a b c d) :
    Calls Try.prog 56 #[.agg #[.int .i64 a, .int .i64 b, .int .i64 c, .int .i64 d]] w (GivesPlane ⟨0, 0, 0, 0⟩ [] 5 w) := by
  have x0 := (Box.fresh w a b c d 23).alloc #[.int .i64 0, .int .i64 0, .int .i64 0, .int .i64 0, .slice none 0 0] 26
  have y0 := QBox.freshAt (w.alloc (.cells #[.int .i64 a, .int .i64 b, .int .i64 c, .int .i64 d] 23)) (w.heap.size + 1) (by simp) 0 0 0 0 none 0 0 26
  have B0 : Below w.heap.size w ((w.alloc (.cells #[.int .i64 a, .int .i64 b, .int .i64 c, .int .i64 d] 23)).alloc (.cells #[.int .i64 0, .int .i64 0, .int .i64 0, .int .i64 0, .slice none 0 0] 26)) := ((Below.refl _ _).alloc (Nat.le_refl _) _).alloc (by simp) _
  go_enter Try.func56, Try.ntmps56
  go_wp2_with fail
  refine (valid_c _ _ _ _ _).mono ?_
  rintro e w1 ⟨rfl, hb1⟩
  have x1 := x0.below hb1
  have y1 := y0.below hb1
  have B1 : Below w.heap.size w w1 := bcall B0 hb1 (by simp; omega)
  clear hb1 x0 y0 B0
  obtain ⟨c0, c1, c2, c3⟩ := x1.open
  obtain ⟨d0, d1, d2, d3, d4⟩ := y1.open
  have g1 := y1.free
  go_wp2_with fail
  refine (area_c _ _ _ _ _).mono ?_
  rintro e w2 ⟨rfl, hb2⟩
  have x2 := x1.below hb2
  have y2 := y1.below hb2
  have B2 : Below w.heap.size w w2 := bcall B1 hb2 (by have := x1.lt; omega)
  clear hb2 x1 y1 B1 c0 c1 c2 c3 d0 d1 d2 d3 d4 g1
  obtain ⟨c0, c1, c2, c3⟩ := x2.open
  obtain ⟨d0, d1, d2, d3, d4⟩ := y2.open
  have g1 := y2.free
  go_wp2
  refine bodyPost_ret (v := .tuple #[.agg #[.int .i64 0, .int .i64 0, .int .i64 0, .int .i64 0, .slice none 0 0], .int .i64 5]) ?_ rfl ?_
  · simp [results, Try.results56, go_sem, d0, d1, d2, d3, d4]
  · exact ⟨none, 0, rfl, .inl rfl, (((((B2.setCell (by simp) _).setCell (by simp) _).setCell (by simp) _).setCell (by simp) _).setCell (by simp) _), Nat.le_refl _⟩
set_option maxRecDepth 100000 in
set_option maxHeartbeats 1000000 in
theorem new_yes (a b c d : Int) (w : World) (hv : Pl.validB a b c d = true) (ha : Pl.areaI a b c d ≤ 1048576) :
    Calls Try.prog 56 #[.agg #[.int .i64 a, .int .i64 b, .int .i64 c, .int .i64 d]] w (GivesPlane ⟨a, b, c, d⟩ (List.replicate (Pl.areaI a b c d).toNat 0) 0 w) := by
  have hpos : 0 ≤ Pl.areaI a b c d := by rw [Pl.areaI, if_pos hv]; exact (Pl.area_bd hv).1
  obtain ⟨C, hC⟩ : ∃ C : Nat, Pl.areaI a b c d = (C : Int) := ⟨(Pl.areaI a b c d).toNat, by omega⟩
  rw [hC] at ha hpos
  have hCt : (Pl.areaI a b c d).toNat = C := by omega
  rw [hCt]
  have hCle : C ≤ 1048576 := by omega
  clear hCt
  have hmk := fun (W : World) => run_make_row' (P := Try.prog) 24 3 (.int .i64 0) 8 Try.underlying24 infoI rfl .i64 .i64 C (by omega) (by omega) W
  have x0 := (Box.fresh w a b c d 23).alloc #[.int .i64 0, .int .i64 0, .int .i64 0, .int .i64 0, .slice none 0 0] 26
  have y0 := QBox.freshAt (w.alloc (.cells #[.int .i64 a, .int .i64 b, .int .i64 c, .int .i64 d] 23)) (w.heap.size + 1) (by simp) 0 0 0 0 none 0 0 26
  have B0 : Below w.heap.size w ((w.alloc (.cells #[.int .i64 a, .int .i64 b, .int .i64 c, .int .i64 d] 23)).alloc (.cells #[.int .i64 0, .int .i64 0, .int .i64 0, .int .i64 0, .slice none 0 0] 26)) := ((Below.refl _ _).alloc (Nat.le_refl _) _).alloc (by simp) _
  go_enter Try.func56, Try.ntmps56
  go_wp2_with fail
  refine (valid_c _ _ _ _ _).mono ?_
  rintro e w1 ⟨rfl, hb1⟩
  have x1 := x0.below hb1
  have y1 := y0.below hb1
  have B1 : Below w.heap.size w w1 := bcall B0 hb1 (by simp; omega)
  clear hb1 x0 y0 B0
  obtain ⟨c0, c1, c2, c3⟩ := x1.open
  obtain ⟨d0, d1, d2, d3, d4⟩ := y1.open
  have g1 := y1.free
  go_wp2_with fail
  refine (area_c _ _ _ _ _).mono ?_
  rintro e w2 ⟨rfl, hb2⟩
  have x2 := x1.below hb2
  have y2 := y1.below hb2
  have B2 : Below w.heap.size w w2 := bcall B1 hb2 (by have := x1.lt; omega)
  clear hb2 x1 y1 B1 c0 c1 c2 c3 d0 d1 d2 d3 d4 g1
  obtain ⟨c0, c1, c2, c3⟩ := x2.open
  obtain ⟨d0, d1, d2, d3, d4⟩ := y2.open
  have g1 := y2.free
  go_wp2_with fail
  go_region_held3 (fun w' => w'.cell? ⟨w.heap.size, 0, none⟩ = some (.int .i64 a) ∧ w'.cell? ⟨w.heap.size, 1, none⟩ = some (.int .i64 b) ∧ w'.cell? ⟨w.heap.size, 2, none⟩ = some (.int .i64 c) ∧ w'.cell? ⟨w.heap.size, 3, none⟩ = some (.int .i64 d))
    (first | (with_reducible assumption) | (simp [c0, c1, c2, c3]; done) | (simp [World.cell?_alloc_some, World.cell?_setCell_far, k0, k1, k2, k3]; done))
    (first | (go_at_call 106; (with_reducible refine (area_c _ _ _ _ _).mono ?_); rintro e w3 ⟨rfl, hb3⟩; have y3 := y2.drew.below hb3; have x3 := x2.drew.below hb3; have B3 : Below w.heap.size w w3 := bcall B2.drew hb3 (by have := x2.lt; simp; omega); obtain ⟨k0, k1, k2, k3⟩ := x3.open; obtain ⟨e0, e1, e2, e3, e4⟩ := y3.open; have g3 := y3.free; have z3 := y3.lt; clear hb3))
  go_wp2
  refine bodyPost_ret (v := .tuple #[.agg #[.int .i64 a, .int .i64 b, .int .i64 c, .int .i64 d, .slice (some ⟨w3.heap.size, 0, none⟩) C C], .int .i64 0]) ?_ rfl ?_
  · obtain ⟨q0, q1, q2, q3, q4⟩ := ((y3.store a b c d (.slice (some ⟨w3.heap.size, 0, none⟩) C C)).alloc (.cells (madeCells #[.int .i64 0] C) 3)).open
    simp [results, Try.results56, go_sem, q0, q1, q2, q3, q4]
  · have hm := holds_made (((((w3.setCell ⟨w.heap.size + 1, 0, none⟩ (.int .i64 a)).setCell ⟨w.heap.size + 1, 1, none⟩ (.int .i64 b)).setCell ⟨w.heap.size + 1, 2, none⟩ (.int .i64 c)).setCell ⟨w.heap.size + 1, 3, none⟩ (.int .i64 d)).setCell ⟨w.heap.size + 1, 4, none⟩ (.slice (some ⟨w3.heap.size, 0, none⟩) C C)) C
    simp only [World.size_setCell] at hm
    exact ⟨some ⟨w3.heap.size, 0, none⟩, C, by simp, hm, (below5 B3 (by omega) _ _ _ _ _).alloc (by simp; omega) _, by simp⟩
end Go.Proofs.Ytoplgnckdmkaoaa

namespace Go.Proofs.Ytoplgnckdmkaoaa
open Go.RowKit

def foldI (f : Int → Int → Int) : List Int → Int
  | [] => 0
  | x :: l => l.foldl f x
theorem foldI_one (f : Int → Int → Int) (l : List Int) (h : 0 < l.length) : foldI f (l.take 1) = l[0] := by
  match l, h with
  | x :: l, _ => simp [foldI]
theorem foldI_succ (f : Int → Int → Int) (l : List Int) (k : Nat) (h0 : 1 ≤ k) (h : k < l.length) : foldI f (l.take (k + 1)) = f (foldI f (l.take k)) l[k] := by
  match l, k, h0, h with
  | x :: l, k + 1, _, h =>
    have h' : k < l.length := by simpa using h
    show (l.take (k + 1)).foldl f x = f ((l.take k).foldl f x) l[k]
    rw [List.take_succ_eq_append_getElem h', List.foldl_append]
    rfl
def mnL : List Int → Int := foldI min
def mxL : List Int → Int := foldI max
def FoldRel (f : Int → Int → Int) (l : List Int) (v i : Value) : Prop := ∃ k : Nat, 1 ≤ k ∧ k ≤ l.length ∧ i = .int .i64 k ∧ v = .int .i64 (foldI f (l.take k))
set_option maxHeartbeats 1000000 in
theorem min_c (s : Option Addr) (m : Nat) (l : List Int) (w : World) (h0 : 0 < l.length) (hl : l.length ≤ 140737488351232) (hH : HoldsI w s l) :
    Calls Try.prog 164 #[.slice s l.length m] w fun e w' => e = .returned (.int .i64 (mnL l)) ∧ Below w.heap.size w w' := by
  have hmn := hmn
  rcases hH with rfl | ⟨b, off, rfl, hr⟩
  · simp at h0
  have e0 := hr 0 h0
  rw [Nat.add_zero] at e0
  have hi0 : (0 : Int) < (l.length : Int) := by omega
  go_enter Try.func164, Try.ntmps164
  go_wp2_with fail
  go_loop [3, 4] (fun v i => FoldRel min l v i) (fun _ i => l.length - (intOf i).toNat)
  case atStart => exact ⟨1, by omega, by omega, rfl, by rw [foldI_one _ _ h0]⟩
  case round =>
    obtain ⟨k, hk1, hk, rfl, rfl⟩ := hrel
    clear e0
    by_cases hlt : k < l.length
    · have e1 := hr k hlt
      have hi : (k : Int) < (l.length : Int) := by omega
      have HF : Hid _ := foldI_succ min l k hk1 hlt
      go_wp2
      go_round
      case rel => exact ⟨k + 1, by omega, by omega, by go_num, by rw [HF.out]⟩
      case measure => simp [intOf]; omega
    · obtain rfl : k = l.length := by omega
      go_wp2
      go_ret
      exact ⟨by rw [mnL]; simp, Below.refl _ _⟩
set_option maxHeartbeats 1000000 in
theorem max_c (s : Option Addr) (m : Nat) (l : List Int) (w : World) (h0 : 0 < l.length) (hl : l.length ≤ 140737488351232) (hH : HoldsI w s l) :
    Calls Try.prog 165 #[.slice s l.length m] w fun e w' => e = .returned (.int .i64 (mxL l)) ∧ Below w.heap.size w w' := by
  have hmx := hmx
  rcases hH with rfl | ⟨b, off, rfl, hr⟩
  · simp at h0
  have e0 := hr 0 h0
  rw [Nat.add_zero] at e0
  have hi0 : (0 : Int) < (l.length : Int) := by omega
  go_enter Try.func165, Try.ntmps165
  go_wp2_with fail
  go_loop [3, 4] (fun v i => FoldRel max l v i) (fun _ i => l.length - (intOf i).toNat)
  case atStart => exact ⟨1, by omega, by omega, rfl, by rw [foldI_one _ _ h0]⟩
  case round =>
    obtain ⟨k, hk1, hk, rfl, rfl⟩ := hrel
    clear e0
    by_cases hlt : k < l.length
    · have e1 := hr k hlt
      have hi : (k : Int) < (l.length : Int) := by omega
      have HF : Hid _ := foldI_succ max l k hk1 hlt
      go_wp2
      go_round
      case rel => exact ⟨k + 1, by omega, by omega, by go_num, by rw [HF.out]⟩
      case measure => simp [intOf]; omega
    · obtain rfl : k = l.length := by omega
      go_wp2
      go_ret
      exact ⟨by rw [mxL]; simp, Below.refl _ _⟩
set_option maxHeartbeats 1000000 in
theorem lim_no (a b c d : Int) (s : Option Addr) (m : Nat) (l : List Int) (w : World) (hp : pvB a b c d l.length = false ∨ (pvB a b c d l.length = true ∧ l.length = 0)) :
    Calls Try.prog 137 #[.agg #[.int .i64 a, .int .i64 b, .int .i64 c, .int .i64 d, .slice s l.length m]] w fun e w' => e = .returned (.tuple #[.int .i64 0, .int .i64 0, .bool false]) ∧ Below w.heap.size w w' := by
  rcases hp with hp | ⟨hp, h0⟩
  · go_enter Try.func137, Try.ntmps137
    go_wp2_with fail
    refine (pv_c _ _ _ _ _ _ _ _).mono ?_
    rintro e w1 ⟨rfl, hb1⟩
    have hS1 := (Q1.fresh a b c d s l.length m w).step hb1
    go_wp2
    go_ret3
    exact ⟨rfl, hS1.below⟩
  · obtain rfl := List.length_eq_zero_iff.1 h0
    go_enter Try.func137, Try.ntmps137
    go_wp2_with fail
    refine (pv_c _ _ _ _ _ _ _ _).mono ?_
    rintro e w1 ⟨rfl, hb1⟩
    have hS1 := (Q1.fresh a b c d s 0 m w).step hb1
    obtain ⟨c0, c1, c2, c3, c4⟩ := hS1.q.open
    go_wp2
    go_ret3
    exact ⟨rfl, hS1.below⟩
set_option maxHeartbeats 1000000 in
theorem lim_yes (a b c d : Int) (s : Option Addr) (m : Nat) (l : List Int) (w : World) (hp : pvB a b c d l.length = true) (h0 : 0 < l.length) (hl : l.length ≤ 140737488351232) (hH : HoldsI w s l) :
    Calls Try.prog 137 #[.agg #[.int .i64 a, .int .i64 b, .int .i64 c, .int .i64 d, .slice s l.length m]] w fun e w' => e = .returned (.tuple #[.int .i64 (mnL l), .int .i64 (mxL l), .bool true]) ∧ Below w.heap.size w w' := by
  go_enter Try.func137, Try.ntmps137
  go_wp2_with fail
  refine (pv_c _ _ _ _ _ _ _ _).mono ?_
  rintro e w1 ⟨rfl, hb1⟩
  have hS := (Q1.fresh a b c d s l.length m w).step hb1
  obtain ⟨c0, c1, c2, c3, c4⟩ := hS.q.open
  have hn0 : ((l.length : Int) == 0) = false := by rw [beq_eq_false_iff_ne]; omega
  have hn1 : decide ((l.length : Int) = 0) = false := by rw [decide_eq_false_iff_not]; omega
  go_wp2_with fail
  clear c0 c1 c2 c3 c4 hb1
  have hHX : ∀ X : Q1F a b c d s l.length m w, HoldsI X.W s l := fun X => hH.below X.ok.below (Nat.le_refl _)
  have hst : ∀ (X : Q1F a b c d s l.length m w) (w' : World), Below X.W.heap.size X.W w' → ∃ Y : Q1F a b c d s l.length m w, w' = Y.W := fun X w' hb => ⟨⟨w', X.ok.step hb⟩, rfl⟩
  have hne : Nonempty (Q1F a b c d s l.length m w) := ⟨⟨_, hS⟩⟩
  have hx0 : ∀ X : Q1F a b c d s l.length m w, X.W.cell? ⟨w.heap.size, 0, none⟩ = some (.int .i64 a) := fun X => X.ok.q.open.1
  have hx1 : ∀ X : Q1F a b c d s l.length m w, X.W.cell? ⟨w.heap.size, 1, none⟩ = some (.int .i64 b) := fun X => X.ok.q.open.2.1
  have hx2 : ∀ X : Q1F a b c d s l.length m w, X.W.cell? ⟨w.heap.size, 2, none⟩ = some (.int .i64 c) := fun X => X.ok.q.open.2.2.1
  have hx3 : ∀ X : Q1F a b c d s l.length m w, X.W.cell? ⟨w.heap.size, 3, none⟩ = some (.int .i64 d) := fun X => X.ok.q.open.2.2.2.1
  have hx4 : ∀ X : Q1F a b c d s l.length m w, X.W.cell? ⟨w.heap.size, 4, none⟩ = some (.slice s l.length m) := fun X => X.ok.q.open.2.2.2.2
  refine wp_region_in (fun X : Q1F a b c d s l.length m w => X.W) (by kernel_rfl) (by kernel_rfl) ⟨⟨_, hS.step (Below.refl _ _).drew⟩, rfl⟩ ?_
  repeat (first | go_big_quiet_step ((first | (go_at_call 164; exact call_in (min_c _ _ l _ h0 hl (hHX _)) (hst _)) | (go_at_call 165; exact call_in (max_c _ _ l _ h0 hl (hHX _)) (hst _)))) | quiet_step ((first | (go_at_call 164; exact call_in (min_c _ _ l _ h0 hl (hHX _)) (hst _)) | (go_at_call 165; exact call_in (max_c _ _ l _ h0 hl (hHX _)) (hst _)))))
  refine wpQuiet_nil ?_
  intro w3 hw'
  obtain ⟨⟨_, hS3⟩, hw''⟩ := hw'
  subst hw''
  clear hst hne hx0 hx1 hx2 hx3 hx4
  go_wp2
  go_ret3
  exact ⟨rfl, hS3.below⟩
end Go.Proofs.Ytoplgnckdmkaoaa

namespace Go.Proofs.Ytoplgnckdmkaoaa
open Go.RowKit

/-- The list of a rectangle's samples, row by row. -/
def tabL (q : Pl.R) (f : Int → Int → Int) : List Int :=
  (List.range ((q.x1 - q.x0).toNat * (q.y1 - q.y0).toNat)).map fun i => f (q.x0 + ((i % (q.x1 - q.x0).toNat : Nat) : Int)) (q.y0 + ((i / (q.x1 - q.x0).toNat : Nat) : Int))
/-- The sample of a point. -/
def gv (r : Pl.R) (l : List Int) (x y : Int) : Int := l.getD (idx r.x0 r.y0 r.x1 x y).toNat 0
theorem gv_get {a b c d : Int} {l : List Int} {x y : Int} (h : (idx a b c x y).toNat < l.length) : l[(idx a b c x y).toNat] = gv ⟨a, b, c, d⟩ l x y := by
  simp [gv, h]
theorem area_nat {q : Pl.R} (hv : Pl.validB q.x0 q.y0 q.x1 q.y1 = true) : (((q.x1 - q.x0).toNat * (q.y1 - q.y0).toNat : Nat) : Int) = Pl.areaI q.x0 q.y0 q.x1 q.y1 := by
  obtain ⟨v1, v2, v3, v4, v5, v6⟩ := Pl.valid_iff.1 hv
  rw [Pl.areaI, if_pos hv, Int.natCast_mul, Int.toNat_of_nonneg (by omega), Int.toNat_of_nonneg (by omega)]
theorem tabL_len {q : Pl.R} {f : Int → Int → Int} : (tabL q f).length = (q.x1 - q.x0).toNat * (q.y1 - q.y0).toNat := by simp [tabL]
theorem tabL_area {q : Pl.R} {f : Int → Int → Int} (hv : Pl.validB q.x0 q.y0 q.x1 q.y1 = true) : ((tabL q f).length : Int) = Pl.areaI q.x0 q.y0 q.x1 q.y1 := by
  rw [tabL_len, area_nat hv]
/-- The parts of a point's place. -/
theorem idx_nat {a b c d x y : Int} (hh : Pl.hasB a b c d x y = true) :
    (idx a b c x y).toNat = (y - b).toNat * (c - a).toNat + (x - a).toNat ∧ (x - a).toNat < (c - a).toNat ∧ (y - b).toNat < (d - b).toNat := by
  obtain ⟨h1, h2, h3, h4⟩ := Pl.has_iff.1 hh
  refine ⟨?_, by omega, by omega⟩
  have e : ((y - b).toNat * (c - a).toNat + (x - a).toNat : Nat) = (y - b) * (c - a) + (x - a) := by
    push_cast
    rw [Int.toNat_of_nonneg (by omega), Int.toNat_of_nonneg (by omega), Int.toNat_of_nonneg (by omega)]
  unfold idx
  rw [← e, Int.toNat_natCast]
theorem idx_lt' {a b c d x y : Int} (hh : Pl.hasB a b c d x y = true) : (idx a b c x y).toNat < (c - a).toNat * (d - b).toNat := by
  obtain ⟨e, h1, h2⟩ := idx_nat hh
  rw [e]
  calc (y - b).toNat * (c - a).toNat + (x - a).toNat < (y - b).toNat * (c - a).toNat + (c - a).toNat := by omega
    _ = ((y - b).toNat + 1) * (c - a).toNat := by rw [Nat.add_mul, Nat.one_mul]
    _ ≤ (d - b).toNat * (c - a).toNat := Nat.mul_le_mul_right _ h2
    _ = (c - a).toNat * (d - b).toNat := Nat.mul_comm _ _
/-- Each place is a point's. -/
theorem idx_ex {a b c d : Int} {k : Nat} (hk : k < (c - a).toNat * (d - b).toNat) : ∃ x y, Pl.hasB a b c d x y = true ∧ (idx a b c x y).toNat = k := by
  have hw : 0 < (c - a).toNat := Nat.pos_of_ne_zero fun h => by rw [h] at hk; simp at hk
  have h1 : k % (c - a).toNat < (c - a).toNat := Nat.mod_lt _ hw
  have h2 : k / (c - a).toNat < (d - b).toNat := Nat.div_lt_of_lt_mul hk
  have h3 : (c - a).toNat * (k / (c - a).toNat) + k % (c - a).toNat = k := Nat.div_add_mod _ _
  generalize k / (c - a).toNat = j at *
  generalize k % (c - a).toNat = i at *
  have hh : Pl.hasB a b c d (a + (i : Int)) (b + (j : Int)) = true := Pl.has_iff.2 ⟨by omega, by omega, by omega, by omega⟩
  refine ⟨_, _, hh, ?_⟩
  rw [(idx_nat hh).1]
  have e1 : (b + (j : Int) - b).toNat = j := by omega
  have e2 : (a + (i : Int) - a).toNat = i := by omega
  rw [e1, e2, Nat.mul_comm]
  exact h3
/-- One place is one point's. -/
theorem idx_inj {a b c d x y x' y' : Int} (h : Pl.hasB a b c d x y = true) (h' : Pl.hasB a b c d x' y' = true) (e : (idx a b c x y).toNat = (idx a b c x' y').toNat) : x = x' ∧ y = y' := by
  obtain ⟨e1, l1, l2⟩ := idx_nat h
  obtain ⟨e2, m1, m2⟩ := idx_nat h'
  obtain ⟨h1, h2, h3, h4⟩ := Pl.has_iff.1 h
  obtain ⟨k1, k2, k3, k4⟩ := Pl.has_iff.1 h'
  rw [e1, e2] at e
  have hw : 0 < (c - a).toNat := by omega
  have a1 : ((y - b).toNat * (c - a).toNat + (x - a).toNat) / (c - a).toNat = (y - b).toNat := by
    rw [Nat.mul_comm, Nat.mul_add_div hw, Nat.div_eq_of_lt l1, Nat.add_zero]
  have a2 : ((y' - b).toNat * (c - a).toNat + (x' - a).toNat) / (c - a).toNat = (y' - b).toNat := by
    rw [Nat.mul_comm, Nat.mul_add_div hw, Nat.div_eq_of_lt m1, Nat.add_zero]
  have e3 : (y - b).toNat = (y' - b).toNat := by rw [← a1, ← a2, e]
  rw [e3] at e
  omega
theorem tabL_gv {a b c d : Int} {f : Int → Int → Int} {x y : Int} (hh : Pl.hasB a b c d x y = true) : gv ⟨a, b, c, d⟩ (tabL ⟨a, b, c, d⟩ f) x y = f x y := by
  obtain ⟨e, h1, h2⟩ := idx_nat hh
  obtain ⟨g1, g2, g3, g4⟩ := Pl.has_iff.1 hh
  have hw : 0 < (c - a).toNat := by omega
  have hlt := idx_lt' hh
  have a1 : ((y - b).toNat * (c - a).toNat + (x - a).toNat) / (c - a).toNat = (y - b).toNat := by
    rw [Nat.mul_comm, Nat.mul_add_div hw, Nat.div_eq_of_lt h1, Nat.add_zero]
  have a2 : ((y - b).toNat * (c - a).toNat + (x - a).toNat) % (c - a).toNat = (x - a).toNat := by
    rw [Nat.mul_comm, Nat.mul_add_mod, Nat.mod_eq_of_lt h1]
  have b1 : a + (((x - a).toNat : Nat) : Int) = x := by omega
  have b2 : b + (((y - b).toNat : Nat) : Int) = y := by omega
  have : gv ⟨a, b, c, d⟩ (tabL ⟨a, b, c, d⟩ f) x y = (tabL ⟨a, b, c, d⟩ f)[(idx a b c x y).toNat]'(by rw [tabL_len]; exact hlt) := by
    rw [gv, List.getD_eq_getElem?_getD, List.getElem?_eq_getElem (by rw [tabL_len]; exact hlt), Option.getD_some]
  rw [this]
  simp only [tabL, List.getElem_map, List.getElem_range, e, a1, a2, b1, b2]
/-- Two lists of a rectangle's samples are the same where all samples are. -/
theorem tab_ext {a b c d : Int} {l m : List Int} (hl : l.length = (c - a).toNat * (d - b).toNat) (hm : m.length = (c - a).toNat * (d - b).toNat)
    (h : ∀ x y, Pl.hasB a b c d x y = true → gv ⟨a, b, c, d⟩ l x y = gv ⟨a, b, c, d⟩ m x y) : l = m := by
  refine List.ext_getElem (hl.trans hm.symm) fun k h1 h2 => ?_
  obtain ⟨x, y, hh, rfl⟩ := idx_ex (a := a) (b := b) (c := c) (d := d) (k := k) (by omega)
  have := h x y hh
  rw [← gv_get (d := d) h1, ← gv_get (d := d) h2] at this
  exact this
theorem tabL_self {a b c d : Int} {l : List Int} (hl : l.length = (c - a).toNat * (d - b).toNat) : tabL ⟨a, b, c, d⟩ (gv ⟨a, b, c, d⟩ l) = l :=
  tab_ext (tabL_len) hl fun _ _ hh => tabL_gv hh
theorem tabL_congr {a b c d : Int} {f g : Int → Int → Int} (h : ∀ x y, Pl.hasB a b c d x y = true → f x y = g x y) : tabL ⟨a, b, c, d⟩ f = tabL ⟨a, b, c, d⟩ g :=
  tab_ext tabL_len tabL_len fun x y hh => by rw [tabL_gv hh, tabL_gv hh, h x y hh]
theorem pv_len {a b c d : Int} {l : List Int} (hp : pvB a b c d l.length = true) : l.length = (c - a).toNat * (d - b).toNat := by
  obtain ⟨hv, _, hn⟩ := pv_iff.1 hp
  have := area_nat (q := ⟨a, b, c, d⟩) hv
  dsimp only at this
  omega
theorem pv_tab {a b c d : Int} {f : Int → Int → Int} (hv : Pl.validB a b c d = true) (ha : Pl.areaI a b c d ≤ 1048576) : pvB a b c d (tabL ⟨a, b, c, d⟩ f).length = true :=
  pv_iff.2 ⟨hv, ha, tabL_area (q := ⟨a, b, c, d⟩) hv⟩
/-- The samples of a row, of a column. -/
def rowL (r : Pl.R) (l : List Int) (y : Int) : List Int := (List.range (r.x1 - r.x0).toNat).map fun i : Nat => gv r l (r.x0 + (i : Int)) y
def colL (r : Pl.R) (l : List Int) (x : Int) : List Int := (List.range (r.y1 - r.y0).toNat).map fun i : Nat => gv r l x (r.y0 + (i : Int))
theorem rowL_len (r : Pl.R) (l : List Int) (y : Int) : (rowL r l y).length = (r.x1 - r.x0).toNat := by simp [rowL]
theorem colL_len (r : Pl.R) (l : List Int) (x : Int) : (colL r l x).length = (r.y1 - r.y0).toNat := by simp [colL]
/-- What cropping, pasting and clipping give. -/
def cropL (r : Pl.R) (l : List Int) (q : Pl.R) : List Int := tabL q (gv r l)
def ovF (r : Pl.R) (l : List Int) (q : Pl.R) (k : List Int) (x y : Int) : Int := if Pl.hasB q.x0 q.y0 q.x1 q.y1 x y = true then gv q k x y else gv r l x y
def pasteL (r : Pl.R) (l : List Int) (q : Pl.R) (k : List Int) : List Int := tabL r (ovF r l q k)
def clipI (lo hi v : Int) : Int := min (max v lo) hi
def clipL (lo hi : Int) (l : List Int) : List Int := l.map (clipI lo hi)
/-- A part of a list that is filled row by row. -/
def Filled (r : Pl.R) (f : Int → Int → Int) (x y : Int) (out : List Int) : Prop := out = (tabL r f).take (idx r.x0 r.y0 r.x1 x y).toNat ∧ ((out.length : Nat) : Int) = idx r.x0 r.y0 r.x1 x y
theorem filled_start {a b c d : Int} {f : Int → Int → Int} : Filled ⟨a, b, c, d⟩ f a b [] := by simp [Filled, idx]
theorem filled_next {a b c d : Int} {f : Int → Int → Int} {x y : Int} {out : List Int} (h : Filled ⟨a, b, c, d⟩ f x y out) (hh : Pl.hasB a b c d x y = true) : Filled ⟨a, b, c, d⟩ f (x + 1) y (out ++ [f x y]) := by
  obtain ⟨h1, h2⟩ := h
  dsimp only at h1 h2
  have e : idx a b c (x + 1) y = idx a b c x y + 1 := by unfold idx; omega
  have hlt := idx_lt' hh
  refine ⟨?_, by rw [List.length_append, List.length_singleton]; dsimp only; omega⟩
  have e2 : (idx a b c (x + 1) y).toNat = (idx a b c x y).toNat + 1 := by omega
  dsimp only
  rw [e2, List.take_succ_eq_append_getElem (by rw [tabL_len]; exact hlt), ← h1, gv_get (d := d), tabL_gv hh]
theorem filled_row {a b c d : Int} {f : Int → Int → Int} {y : Int} {out : List Int} (h : Filled ⟨a, b, c, d⟩ f c y out) : Filled ⟨a, b, c, d⟩ f a (y + 1) out := by
  have e : idx a b c a (y + 1) = idx a b c c y := by
    unfold idx
    rw [show y + 1 - b = (y - b) + 1 by omega, Int.add_mul]
    omega
  obtain ⟨h1, h2⟩ := h
  exact ⟨by dsimp only at *; rw [e]; exact h1, by dsimp only at *; rw [e]; exact h2⟩
theorem filled_end {a b c d : Int} {f : Int → Int → Int} {out : List Int} (hd : b ≤ d) (hc : a ≤ c) (h : Filled ⟨a, b, c, d⟩ f a d out) : out = tabL ⟨a, b, c, d⟩ f := by
  obtain ⟨h1, h2⟩ := h
  dsimp only at h1 h2
  have e : (idx a b c a d).toNat = (c - a).toNat * (d - b).toNat := by
    have : (((c - a).toNat * (d - b).toNat : Nat) : Int) = idx a b c a d := by
      unfold idx
      push_cast
      rw [Int.toNat_of_nonneg (by omega), Int.toNat_of_nonneg (by omega), Int.mul_comm]
      omega
    omega
  rw [h1, e, ← tabL_len (q := ⟨a, b, c, d⟩) (f := f), List.take_length]
end Go.Proofs.Ytoplgnckdmkaoaa

namespace Go.Proofs.Ytoplgnckdmkaoaa
open Go.RowKit

/-- A block that is a row of integers, and nothing else. -/
def RowAt (w : World) (g : Nat) (l : List Int) : Prop := w.heap[g]? = some (.cells (l.map (Value.int .i64)).toArray 3 (0, 0))
theorem RowAt.lt {w : World} {g : Nat} {l : List Int} (h : RowAt w g l) : g < w.heap.size := by
  unfold RowAt at h
  exact (Array.getElem?_eq_some_iff.1 h).1
theorem RowAt.holds {w : World} {g : Nat} {l : List Int} (h : RowAt w g l) : HoldsI w (some ⟨g, 0, none⟩) l := by
  refine .inr ⟨g, 0, rfl, fun k hk => ?_⟩
  unfold RowAt at h
  simp [World.cell?, h, hk]
theorem RowAt.at {w : World} {g : Nat} {l : List Int} (h : RowAt w g l) {k : Nat} (hk : k < l.length) : w.cell? ⟨g, k, none⟩ = some (.int .i64 l[k]) := by
  unfold RowAt at h
  simp [World.cell?, h, hk]
theorem RowAt.free {w : World} {g : Nat} {l : List Int} (h : RowAt w g l) (j : Nat) : w.frozen? ⟨g, j, none⟩ = false := by
  unfold RowAt at h
  simp [World.frozen?, h]
theorem RowAt.belowAt {B : Nat} {w w1 : World} {g : Nat} {l : List Int} (h : RowAt w g l) (hb : Below B w w1) (hg : g < B) : RowAt w1 g l := (hb.block g hg).trans h
theorem RowAt.below {w w1 : World} {g : Nat} {l : List Int} (h : RowAt w g l) (hb : Below w.heap.size w w1) : RowAt w1 g l := h.belowAt hb h.lt
theorem RowAt.drew {w : World} {g : Nat} {l : List Int} (h : RowAt w g l) : RowAt w.drew g l := h
theorem RowAt.alloc {w : World} {g : Nat} {l : List Int} (h : RowAt w g l) (o : Obj) : RowAt (w.alloc o) g l := h.below ((Below.refl _ _).alloc (Nat.le_refl _) _)
theorem RowAt.far {w : World} {g : Nat} {l : List Int} (h : RowAt w g l) (a : Addr) (v : Value) (hn : g ≠ a.block) : RowAt (w.setCell a v) g l := (Below.heap_setCell _ _ _ _ hn).trans h
theorem rowAt_made (w : World) (n : Nat) : RowAt (w.alloc (.cells (madeCells #[.int .i64 0] n) 3)) w.heap.size (List.replicate n 0) := by
  have e : madeCells #[.int .i64 0] n = ((List.replicate n (0 : Int)).map (Value.int .i64)).toArray := by
    apply Array.ext
    · simp [madeCells]
    · intro i h1 h2
      simp [madeCells, Nat.mod_one]
  unfold RowAt
  rw [e]
  exact Array.getElem?_push_size
/-- A plane's box stays where memory below a later block does. -/
theorem QBox.belowAt {W w1 : World} {B N : Nat} {r : Pl.R} {v : Value} (h : QBox W B r v) (hb : Below N W w1) (hN : B < N) : QBox w1 B r v :=
  ⟨⟨(hb.cell (p := ⟨B, _, none⟩) hN).trans h.cells.1, (hb.cell (p := ⟨B, _, none⟩) hN).trans h.cells.2.1, (hb.cell (p := ⟨B, _, none⟩) hN).trans h.cells.2.2.1, (hb.cell (p := ⟨B, _, none⟩) hN).trans h.cells.2.2.2⟩, (hb.cell (p := ⟨B, _, none⟩) hN).trans h.data, fun j => (hb.frozen (p := ⟨B, j, none⟩) hN).trans (h.free j), by have := h.lt; have := hb.size; omega⟩
theorem szI : (Try.prog.info? 3).map (·.size) = some 1 := by kernel_rfl
theorem splice_map {α β : Type} (f : α → β) (L : List α) (off : Nat) (cs : List α) : splice (L.map f) off (cs.map f) = (splice L off cs).map f := by
  simp [splice, List.map_take, List.map_drop]
theorem splice_all {α : Type} (L cs : List α) (h : cs.length = L.length) : splice L 0 cs = cs := by
  simp [splice, h]
theorem splice_at {α : Type} (L : List α) (off : Nat) (cs : List α) (h : off + cs.length ≤ L.length) (i : Nat) :
    (splice L off cs)[i]? = if off ≤ i ∧ i < off + cs.length then cs[i - off]? else L[i]? := by
  unfold splice
  by_cases h1 : i < off
  · rw [if_neg (by omega), List.getElem?_append_left (by simp; omega), List.getElem?_take_of_lt h1]
  · rw [List.getElem?_append_right (by simp; omega)]
    have e : (L.take off).length = off := by simp; omega
    rw [e]
    by_cases h2 : i < off + cs.length
    · rw [if_pos (by omega), List.getElem?_append_left (by omega)]
    · rw [if_neg (by omega), List.getElem?_append_right (by omega), List.getElem?_drop]
      congr 1
      omega
theorem oneI (l : List Int) : ∀ v ∈ l.map (Value.int .i64), v.oneCell' = true := by
  intro v hv
  obtain ⟨x, _, rfl⟩ := List.mem_map.1 hv
  rfl
/-- A part of a list lies behind the address of its first. -/
theorem holdsI_part {w : World} {b off : Nat} {l : List Int} (h : HoldsI w (some ⟨b, off, none⟩) l) (k n : Nat) (hk : k + n ≤ l.length) :
    ∀ j v, (((l.drop k).take n).map (Value.int .i64))[j]? = some v → w.cell? ((⟨b, off + k, none⟩ : Addr).add j) = some v := by
  intro j v hv
  rw [List.getElem?_map, Option.map_eq_some_iff] at hv
  obtain ⟨x, hx, rfl⟩ := hv
  obtain ⟨hj, hx'⟩ := List.getElem?_eq_some_iff.1 hx
  have hj' : j < n := by simp at hj; omega
  have := holdsI_at h (k := k + j) (by omega)
  simp at hx'
  rw [← hx']
  have e : (⟨b, off + k, none⟩ : Addr).add j = ⟨b, off + (k + j), none⟩ := by
    simp only [Addr.add]
    split
    · subst_vars; rfl
    · rw [Nat.add_assoc]
  rw [e]
  exact this
/-- The call returns integers and a Bool; old memory is as it was. -/
def GivesInts (l : List Int) (ok : Bool) (w : World) (e : Ending) (w' : World) : Prop :=
  ∃ s m, e = .returned (.tuple #[.slice s l.length m, .bool ok]) ∧ HoldsI w' s l ∧ Below w.heap.size w w' ∧ l.length ≤ m
theorem rowL_drop {a b c d y : Int} {l : List Int} (hp : pvB a b c d l.length = true) (h1 : b ≤ y) (h2 : y < d) : rowL ⟨a, b, c, d⟩ l y = (l.drop (idx a b c a y).toNat).take (c - a).toNat ∧ (idx a b c a y).toNat + (c - a).toNat ≤ l.length := by
  obtain ⟨hv, _, hn⟩ := pv_iff.1 hp
  obtain ⟨v1, v2, v3, v4, v5, v6⟩ := Pl.valid_iff.1 hv
  have hlen := pv_len hp
  have hle : (idx a b c a y).toNat + (c - a).toNat ≤ l.length := by
    by_cases hw : a < c
    · have e := idx_lt' (a := a) (b := b) (c := c) (d := d) (x := c - 1) (y := y) (Pl.has_iff.2 ⟨by omega, by omega, h1, h2⟩)
      have e2 : idx a b c (c - 1) y = idx a b c a y + (c - a) - 1 := by unfold idx; omega
      have := (idx_bd hv (Int.le_refl a) v2 h1 (show y ≤ d by omega)).2.2.1
      omega
    · have e2 : idx a b c a y = 0 := by unfold idx; rw [show c - a = 0 by omega]; simp
      omega
  refine ⟨List.ext_getElem ?_ fun k k1 k2 => ?_, hle⟩
  · rw [rowL_len, List.length_take, List.length_drop]; dsimp only; omega
  · rw [rowL_len] at k1
    dsimp only at k1
    have hh : Pl.hasB a b c d (a + (k : Int)) y = true := Pl.has_iff.2 ⟨by omega, by omega, h1, h2⟩
    have hi := (idx_nat hh).1
    have hj := (idx_nat (a := a) (b := b) (c := c) (d := d) (x := a) (y := y) (Pl.has_iff.2 ⟨by omega, by omega, h1, h2⟩)).1
    have e3 : (idx a b c (a + (k : Int)) y).toNat = (idx a b c a y).toNat + k := by
      rw [hi, hj]; omega
    simp only [rowL, List.getElem_map, List.getElem_range, List.getElem_take, List.getElem_drop]
    rw [gv, List.getD_eq_getElem?_getD, List.getElem?_eq_getElem (by dsimp only; omega), Option.getD_some]
    simp only [e3]
set_option maxHeartbeats 1000000 in
theorem row_no (a b c d y : Int) (s : Option Addr) (n m : Nat) (w : World) (hp : pvB a b c d n = false ∨ (pvB a b c d n = true ∧ (y < b ∨ d ≤ y))) :
    Calls Try.prog 129 #[.agg #[.int .i64 a, .int .i64 b, .int .i64 c, .int .i64 d, .slice s n m], .int .i64 y] w (GivesInts [] false w) := by
  rcases hp with hp | ⟨hp, hy | hy⟩
  · go_enter Try.func129, Try.ntmps129
    go_wp2_with fail
    refine (pv_c _ _ _ _ _ _ _ _).mono ?_
    rintro e w1 ⟨rfl, hb1⟩
    have hS1 := (Q1.fresh a b c d s n m w).step hb1
    go_wp2
    go_ret2
    exact ⟨_, _, rfl, .inl rfl, hS1.below, Nat.le_refl _⟩
  · go_enter Try.func129, Try.ntmps129
    go_wp2_with fail
    refine (pv_c _ _ _ _ _ _ _ _).mono ?_
    rintro e w1 ⟨rfl, hb1⟩
    have hS1 := (Q1.fresh a b c d s n m w).step hb1
    obtain ⟨c0, c1, c2, c3, c4⟩ := hS1.q.open
    go_wp2
    go_ret2
    exact ⟨_, _, rfl, .inl rfl, hS1.below, Nat.le_refl _⟩
  · obtain ⟨hv, _, _⟩ := pv_iff.1 hp
    obtain ⟨v1, v2, v3, v4, v5, v6⟩ := Pl.valid_iff.1 hv
    have hb : ¬ y < b := by omega
    go_enter Try.func129, Try.ntmps129
    go_wp2_with fail
    refine (pv_c _ _ _ _ _ _ _ _).mono ?_
    rintro e w1 ⟨rfl, hb1⟩
    have hS1 := (Q1.fresh a b c d s n m w).step hb1
    obtain ⟨c0, c1, c2, c3, c4⟩ := hS1.q.open
    go_wp2
    go_ret2
    exact ⟨_, _, rfl, .inl rfl, hS1.below, Nat.le_refl _⟩
set_option maxRecDepth 100000 in
set_option maxHeartbeats 1000000 in
theorem row_yes1 (a b c d y : Int) (s : Option Addr) (m : Nat) (l : List Int) (w : World) (hp : pvB a b c d l.length = true) (h1 : b ≤ y) (h2 : y < d) (hw : a < c) (hm : l.length ≤ m) (hH : HoldsI w s l) :
    Calls Try.prog 129 #[.agg #[.int .i64 a, .int .i64 b, .int .i64 c, .int .i64 d, .slice s l.length m], .int .i64 y] w (GivesInts (rowL ⟨a, b, c, d⟩ l y) true w) := by
  obtain ⟨hv, har, hn⟩ := pv_iff.1 hp
  obtain ⟨v1, v2, v3, v4, v5, v6⟩ := Pl.valid_iff.1 hv
  obtain ⟨hrl, hle⟩ := rowL_drop hp h1 h2
  obtain ⟨_, _, p2, p3⟩ := idx_bd hv (Int.le_refl a) v2 h1 (show y ≤ d by omega)
  obtain ⟨C, hC⟩ : ∃ C : Nat, c - a = (C : Int) := ⟨(c - a).toNat, by omega⟩
  have hCt : (c - a).toNat = C := by omega
  have hC4 : C ≤ 4096 := by omega
  rw [hCt] at hrl hle
  obtain ⟨k, hk⟩ : ∃ k : Nat, idx a b c a y = (k : Int) := ⟨(idx a b c a y).toNat, by omega⟩
  have hkt : (idx a b c a y).toNat = k := by omega
  rw [hkt] at hrl hle
  have hkl : k < l.length := by omega
  have hki : (k : Int) < (l.length : Int) := by omega
  have hki' : (k : Int) ≤ (l.length : Int) := by omega
  have hkm : ¬ k = m := by omega
  have hkm2 : ¬ m = k := by omega
  have hkm' : (k : Int) ≤ (m : Int) := by omega
  rcases hH with rfl | ⟨bb, off, rfl, hr⟩
  · simp at hkl
  have hH : HoldsI w (some ⟨bb, off, none⟩) l := .inr ⟨bb, off, rfl, hr⟩
  have hblt : bb < w.heap.size := cell_lt (hr k hkl)
  have hmk := fun (W : World) => run_make_row' (P := Try.prog) 24 3 (.int .i64 0) 8 Try.underlying24 infoI rfl .i64 .i64 C (by omega) (by omega) W
  have hd : ¬ y < b := by omega
  have HL : Hid _ := hrl
  have HM : Hid _ := hle
  clear hrl hle hn har p2 p3
  go_enter Try.func129, Try.ntmps129
  go_wp2_with fail
  refine (pv_c _ _ _ _ _ _ _ _).mono ?_
  rintro e w1 ⟨rfl, hb1⟩
  have hS1 := (Q1.fresh a b c d (some ⟨bb, off, none⟩) l.length m w).step hb1
  obtain ⟨c0, c1, c2, c3, c4⟩ := hS1.q.open
  go_wp2_with fail
  refine (width_c _ _ _ _ _ _ _ _ hv).mono ?_
  rintro e w2 ⟨rfl, hb2⟩
  have hS2 := hS1.step hb2
  clear c0 c1 c2 c3 c4 hb1 hb2 hS1
  obtain ⟨c0, c1, c2, c3, c4⟩ := hS2.q.open
  go_wp2_with fail
  have r0 : RowAt (w2.alloc (.cells (madeCells #[.int .i64 0] C) 3)) w2.heap.size (List.replicate C 0) := rowAt_made _ _
  have q0 := hS2.q.alloc (.cells (madeCells #[.int .i64 0] C) 3)
  have B0 : Below w.heap.size w (w2.alloc (.cells (madeCells #[.int .i64 0] C) 3)) := hS2.below.alloc (by have := hS2.q.lt; omega) _
  have hlt2 := hS2.q.lt
  clear hS2
  go_region_held3 (fun w' => w'.cell? ⟨w.heap.size, 0, none⟩ = some (.int .i64 a) ∧ w'.cell? ⟨w.heap.size, 1, none⟩ = some (.int .i64 b) ∧ w'.cell? ⟨w.heap.size, 2, none⟩ = some (.int .i64 c) ∧ w'.cell? ⟨w.heap.size, 3, none⟩ = some (.int .i64 d) ∧ w'.cell? ⟨w.heap.size, 4, none⟩ = some (.slice (some ⟨bb, off, none⟩) l.length m))
    (first | (with_reducible assumption) | exact q0.drew.open | exact q3.open | exact q4.open)
    (first | (go_at_call 121; (with_reducible refine (index_c _ _ _ _ _ _ _ _ _ _ hv (by omega) (by omega) (by omega) (by omega)).mono ?_); rintro e w3 ⟨rfl, hb3⟩; have q3 := q0.drew.below hb3; have r3 := r0.drew.below hb3; have B3 : Below w.heap.size w w3 := bcall B0.drew hb3 (by simp; omega); clear hb3)
            | ((refine step_copy_splice rfl (.tmp 27) (.tmp 36) 24 24 rfl 3 Try.underlying24 szI _ _ _ _ _ _ rfl rfl w2.heap.size 0 ((List.replicate C 0).map (Value.int .i64)) 3 r3 ((rowL ⟨a, b, c, d⟩ l y).map (Value.int .i64)) (by have := HM.out; rw [List.length_map, rowL_len]; show (c - a).toNat = min _ C; omega) (fun _ => ⟨rfl, ⟨bb, off + k, none⟩, rfl, by rw [HL.out]; exact holdsI_part (hH.below (B := w.heap.size) B3 (Nat.le_refl _)) k C HM.out⟩) (by rw [List.length_map, rowL_len]; simp; omega) (oneI _) w2.heap.size w3 (Below.refl _ _) (Nat.le_refl _) ?_); intro w4 hg4 hb4; have q4 := q3.belowAt hb4 hlt2; have r4 := hg4.out; have B4 : Below w.heap.size w w4 := B3.trans (hb4.mono (by omega))))
  have r5 : RowAt w4 w2.heap.size (rowL ⟨a, b, c, d⟩ l y) := by
    rw [splice_map, splice_all _ _ (by rw [rowL_len, List.length_replicate]; exact hCt)] at r4
    exact r4
  have HR : Hid (RowAt w4 w2.heap.size (rowL ⟨a, b, c, d⟩ l y)) := r5
  clear r4 hg4 r5
  go_wp2
  go_ret2
  exact ⟨some ⟨w2.heap.size, 0, none⟩, C, by rw [rowL_len]; simp only [hCt]; rfl, HR.out.holds, B4, by rw [rowL_len]; exact Nat.le_of_eq hCt⟩
set_option maxRecDepth 100000 in
set_option maxHeartbeats 1000000 in
theorem row_yes0 (a b c d y : Int) (s : Option Addr) (m : Nat) (l : List Int) (w : World) (hp : pvB a b c d l.length = true) (h1 : b ≤ y) (h2 : y < d) (hw : c ≤ a) (_hm : l.length ≤ m) (_hH : HoldsI w s l) :
    Calls Try.prog 129 #[.agg #[.int .i64 a, .int .i64 b, .int .i64 c, .int .i64 d, .slice s l.length m], .int .i64 y] w (GivesInts (rowL ⟨a, b, c, d⟩ l y) true w) := by
  obtain ⟨hv, har, hn⟩ := pv_iff.1 hp
  obtain ⟨v1, v2, v3, v4, v5, v6⟩ := Pl.valid_iff.1 hv
  obtain ⟨hrl, hle⟩ := rowL_drop hp h1 h2
  obtain ⟨_, _, p2, p3⟩ := idx_bd hv (Int.le_refl a) v2 h1 (show y ≤ d by omega)
  obtain ⟨C, hC⟩ : ∃ C : Nat, c - a = (C : Int) := ⟨(c - a).toNat, by omega⟩
  have hCt : (c - a).toNat = C := by omega
  have hC4 : C ≤ 4096 := by omega
  rw [hCt] at hrl hle
  have hi0 : idx a b c a y = 0 := by unfold idx; rw [show c - a = 0 by omega]; simp
  have hm0 : (0 : Int) ≤ (m : Int) := by omega
  have h00 : (0 : Int) ≤ (l.length : Int) := by omega
  have hmk := fun (W : World) => run_make_row' (P := Try.prog) 24 3 (.int .i64 0) 8 Try.underlying24 infoI rfl .i64 .i64 C (by omega) (by omega) W
  have hd : ¬ y < b := by omega
  have HL : Hid _ := hrl
  have HM : Hid _ := hle
  clear hrl hle hn har p2 p3
  go_enter Try.func129, Try.ntmps129
  go_wp2_with fail
  refine (pv_c _ _ _ _ _ _ _ _).mono ?_
  rintro e w1 ⟨rfl, hb1⟩
  have hS1 := (Q1.fresh a b c d s l.length m w).step hb1
  obtain ⟨c0, c1, c2, c3, c4⟩ := hS1.q.open
  go_wp2_with fail
  refine (width_c _ _ _ _ _ _ _ _ hv).mono ?_
  rintro e w2 ⟨rfl, hb2⟩
  have hS2 := hS1.step hb2
  clear c0 c1 c2 c3 c4 hb1 hb2 hS1
  obtain ⟨c0, c1, c2, c3, c4⟩ := hS2.q.open
  go_wp2_with fail
  have r0 : RowAt (w2.alloc (.cells (madeCells #[.int .i64 0] C) 3)) w2.heap.size (List.replicate C 0) := rowAt_made _ _
  have q0 := hS2.q.alloc (.cells (madeCells #[.int .i64 0] C) 3)
  have B0 : Below w.heap.size w (w2.alloc (.cells (madeCells #[.int .i64 0] C) 3)) := hS2.below.alloc (by have := hS2.q.lt; omega) _
  have hlt2 := hS2.q.lt
  clear hS2
  go_region_held3 (fun w' => w'.cell? ⟨w.heap.size, 0, none⟩ = some (.int .i64 a) ∧ w'.cell? ⟨w.heap.size, 1, none⟩ = some (.int .i64 b) ∧ w'.cell? ⟨w.heap.size, 2, none⟩ = some (.int .i64 c) ∧ w'.cell? ⟨w.heap.size, 3, none⟩ = some (.int .i64 d) ∧ w'.cell? ⟨w.heap.size, 4, none⟩ = some (.slice s l.length m))
    (first | (with_reducible assumption) | exact q0.drew.open | exact q3.open | exact q4.open)
    (first | (go_at_call 121; (with_reducible refine (index_c _ _ _ _ _ _ _ _ _ _ hv (by omega) (by omega) (by omega) (by omega)).mono ?_); rintro e w3 ⟨rfl, hb3⟩; have q3 := q0.drew.below hb3; have r3 := r0.drew.below hb3; have B3 : Below w.heap.size w w3 := bcall B0.drew hb3 (by simp; omega); clear hb3)
            | ((refine step_copy_splice rfl (.tmp 27) (.tmp 36) 24 24 rfl 3 Try.underlying24 szI _ _ _ _ _ _ rfl rfl w2.heap.size 0 ((List.replicate C 0).map (Value.int .i64)) 3 r3 ((rowL ⟨a, b, c, d⟩ l y).map (Value.int .i64)) (by have := HM.out; rw [List.length_map, rowL_len]; show (c - a).toNat = min _ C; omega) (fun h => by exfalso; rw [List.length_map, rowL_len] at h; simp at h; omega) (by rw [List.length_map, rowL_len]; simp; omega) (oneI _) w2.heap.size w3 (Below.refl _ _) (Nat.le_refl _) ?_); intro w4 hg4 hb4; have q4 := q3.belowAt hb4 hlt2; have r4 := hg4.out; have B4 : Below w.heap.size w w4 := B3.trans (hb4.mono (by omega))))
  have r5 : RowAt w4 w2.heap.size (rowL ⟨a, b, c, d⟩ l y) := by
    rw [splice_map, splice_all _ _ (by rw [rowL_len, List.length_replicate]; exact hCt)] at r4
    exact r4
  have HR : Hid (RowAt w4 w2.heap.size (rowL ⟨a, b, c, d⟩ l y)) := r5
  clear r4 hg4 r5
  go_wp2
  go_ret2
  exact ⟨some ⟨w2.heap.size, 0, none⟩, C, by rw [rowL_len]; simp only [hCt]; rfl, HR.out.holds, B4, by rw [rowL_len]; exact Nat.le_of_eq hCt⟩
theorem row_yes (a b c d y : Int) (s : Option Addr) (m : Nat) (l : List Int) (w : World) (hp : pvB a b c d l.length = true) (h1 : b ≤ y) (h2 : y < d) (hm : l.length ≤ m) (hH : HoldsI w s l) :
    Calls Try.prog 129 #[.agg #[.int .i64 a, .int .i64 b, .int .i64 c, .int .i64 d, .slice s l.length m], .int .i64 y] w (GivesInts (rowL ⟨a, b, c, d⟩ l y) true w) := by
  by_cases hw : a < c
  · exact row_yes1 a b c d y s m l w hp h1 h2 hw hm hH
  · refine row_yes0 a b c d y s m l w hp h1 h2 ?_ hm hH
    have := Pl.valid_iff.1 (pv_iff.1 hp).1
    omega
end Go.Proofs.Ytoplgnckdmkaoaa

namespace Go.Proofs.Ytoplgnckdmkaoaa
open Go.RowKit

/-- A list of which the first k are written, the others 0. -/
def fillL (L : List Int) (k : Nat) : List Int := L.take k ++ List.replicate (L.length - k) 0
theorem fillL_len (L : List Int) (k : Nat) (hk : k ≤ L.length) : (fillL L k).length = L.length := by simp [fillL]; omega
theorem fillL_zero (L : List Int) : fillL L 0 = List.replicate L.length 0 := by simp [fillL]
theorem fillL_all (L : List Int) : fillL L L.length = L := by simp [fillL]
theorem fillL_next (L : List Int) (k : Nat) (hk : k < L.length) : (fillL L k).set k L[k] = fillL L (k + 1) := by
  have e : L.length - k = (L.length - (k + 1)) + 1 := by omega
  have e2 : (L.take k).length = k := by simp; omega
  rw [fillL, fillL, List.set_append_right _ _ (by omega), e2, e, List.replicate_succ, Nat.sub_self, List.set_cons_zero, List.take_succ_eq_append_getElem hk, List.append_assoc]
  rfl
theorem RowAt.set {w : World} {g : Nat} {l : List Int} (h : RowAt w g l) (k : Nat) (v : Int) : RowAt (w.setCell ⟨g, k, none⟩ (.int .i64 v)) g (l.set k v) := by
  unfold RowAt at *
  simp only [World.setCell, Array.getElem?_modify, if_true, h, Option.map_some]
  simp [List.map_set]
/-- A plane's box stays where another block is written. -/
theorem QBox.far {w : World} {B : Nat} {r : Pl.R} {u : Value} (h : QBox w B r u) (a : Addr) (v : Value) (hn : B ≠ a.block) : QBox (w.setCell a v) B r u :=
  ⟨h.cells.far a v hn, cell_far v h.data hn, fun j => by rw [World.frozen?_setCell]; exact h.free j, by have := h.lt; simpa [World.setCell] using this⟩
theorem Q1.far {a b c d : Int} {s : Option Addr} {n m : Nat} {w W : World} (h : Q1 a b c d s n m w W) (p : Addr) (v : Value) (hp : w.heap.size < p.block) : Q1 a b c d s n m w (W.setCell p v) :=
  ⟨h.below.setCell (Nat.le_of_lt hp) _, h.q.far _ _ (Nat.ne_of_lt hp)⟩
theorem colL_at {a b c d x : Int} {l : List Int} (hp : pvB a b c d l.length = true) (h1 : a ≤ x) (h2 : x < c) (k : Nat) (hk : k < (colL ⟨a, b, c, d⟩ l x).length) :
    ∃ j : Nat, idx a b c x (b + (k : Int)) = (j : Int) ∧ ∃ hj : j < l.length, (colL ⟨a, b, c, d⟩ l x)[k] = l[j] := by
  obtain ⟨hv, _, hn⟩ := pv_iff.1 hp
  obtain ⟨v1, v2, v3, v4, v5, v6⟩ := Pl.valid_iff.1 hv
  have hk' := hk
  rw [colL_len] at hk'
  dsimp only at hk'
  have hh : Pl.hasB a b c d x (b + (k : Int)) = true := Pl.has_iff.2 ⟨h1, h2, by omega, by omega⟩
  have hlt := idx_lt' hh
  have hlen := pv_len hp
  have hb := (idx_bd (d := d) (x := x) (y := b + (k : Int)) hv h1 (by omega) (by omega) (by omega)).2.2.1
  refine ⟨(idx a b c x (b + (k : Int))).toNat, by omega, by omega, ?_⟩
  simp only [colL, List.getElem_map, List.getElem_range]
  rw [gv, List.getD_eq_getElem?_getD, List.getElem?_eq_getElem (by dsimp only; omega), Option.getD_some]
set_option maxHeartbeats 1000000 in
theorem col_no (a b c d x : Int) (s : Option Addr) (n m : Nat) (w : World) (hp : pvB a b c d n = false ∨ (pvB a b c d n = true ∧ (x < a ∨ c ≤ x))) :
    Calls Try.prog 64 #[.agg #[.int .i64 a, .int .i64 b, .int .i64 c, .int .i64 d, .slice s n m], .int .i64 x] w (GivesInts [] false w) := by
  rcases hp with hp | ⟨hp, hy | hy⟩
  · go_enter Try.func64, Try.ntmps64
    go_wp2_with fail
    refine (pv_c _ _ _ _ _ _ _ _).mono ?_
    rintro e w1 ⟨rfl, hb1⟩
    have hS1 := (Q1.fresh a b c d s n m w).step hb1
    go_wp2
    go_ret2
    exact ⟨_, _, rfl, .inl rfl, hS1.below, Nat.le_refl _⟩
  · go_enter Try.func64, Try.ntmps64
    go_wp2_with fail
    refine (pv_c _ _ _ _ _ _ _ _).mono ?_
    rintro e w1 ⟨rfl, hb1⟩
    have hS1 := (Q1.fresh a b c d s n m w).step hb1
    obtain ⟨c0, c1, c2, c3, c4⟩ := hS1.q.open
    go_wp2
    go_ret2
    exact ⟨_, _, rfl, .inl rfl, hS1.below, Nat.le_refl _⟩
  · obtain ⟨hv, _, _⟩ := pv_iff.1 hp
    obtain ⟨v1, v2, v3, v4, v5, v6⟩ := Pl.valid_iff.1 hv
    have hb : ¬ x < a := by omega
    go_enter Try.func64, Try.ntmps64
    go_wp2_with fail
    refine (pv_c _ _ _ _ _ _ _ _).mono ?_
    rintro e w1 ⟨rfl, hb1⟩
    have hS1 := (Q1.fresh a b c d s n m w).step hb1
    obtain ⟨c0, c1, c2, c3, c4⟩ := hS1.q.open
    go_wp2
    go_ret2
    exact ⟨_, _, rfl, .inl rfl, hS1.below, Nat.le_refl _⟩
/-- The column's loop. -/
def ColRel (a b c d x : Int) (s : Option Addr) (m : Nat) (l : List Int) (w : World) (g : Nat) (i : Value) (wr : World) : Prop :=
  ∃ k : Nat, k ≤ (colL ⟨a, b, c, d⟩ l x).length ∧ i = .int .i64 k ∧ Q1 a b c d s l.length m w wr ∧ RowAt wr g (fillL (colL ⟨a, b, c, d⟩ l x) k)
set_option maxRecDepth 100000 in
set_option maxHeartbeats 1000000 in
theorem col_yes (a b c d x : Int) (s : Option Addr) (m : Nat) (l : List Int) (w : World) (hp : pvB a b c d l.length = true) (h1 : a ≤ x) (h2 : x < c) (hH : HoldsI w s l) :
    Calls Try.prog 64 #[.agg #[.int .i64 a, .int .i64 b, .int .i64 c, .int .i64 d, .slice s l.length m], .int .i64 x] w (GivesInts (colL ⟨a, b, c, d⟩ l x) true w) := by
  obtain ⟨hv, har, hn⟩ := pv_iff.1 hp
  obtain ⟨v1, v2, v3, v4, v5, v6⟩ := Pl.valid_iff.1 hv
  have HJ : Hid _ := fun k hk => colL_at (x := x) hp h1 h2 k hk
  obtain ⟨C, hC⟩ : ∃ C : Nat, d - b = (C : Int) := ⟨(d - b).toNat, by omega⟩
  have hCl : (colL ⟨a, b, c, d⟩ l x).length = C := by rw [colL_len]; dsimp only; omega
  have hC4 : C ≤ 4096 := by omega
  have hmk := fun (W : World) => run_make_row' (P := Try.prog) 24 3 (.int .i64 0) 8 Try.underlying24 infoI rfl .i64 .i64 C (by omega) (by omega) W
  have hd' : ¬ x < a := by omega
  clear hn har
  go_enter Try.func64, Try.ntmps64
  go_wp2_with fail
  refine (pv_c _ _ _ _ _ _ _ _).mono ?_
  rintro e w1 ⟨rfl, hb1⟩
  have hS1 := (Q1.fresh a b c d s l.length m w).step hb1
  obtain ⟨c0, c1, c2, c3, c4⟩ := hS1.q.open
  have hlt1 := hS1.q.lt
  have r0 : RowAt (w1.alloc (.cells (madeCells #[.int .i64 0] C) 3)) w1.heap.size (fillL (colL ⟨a, b, c, d⟩ l x) 0) := by rw [fillL_zero, hCl]; exact rowAt_made _ _
  have hS2 : Q1 a b c d s l.length m w (w1.alloc (.cells (madeCells #[.int .i64 0] C) 3)) := hS1.step ((Below.refl _ _).alloc (Nat.le_refl _) _)
  clear hb1
  go_wp2_with fail
  clear c0 c1 c2 c3 c4 hS1
  go_loopw [35] (fun i wr => ColRel a b c d x s m l w w1.heap.size i wr) (fun i _ => C - (intOf i).toNat)
  case atStart => exact ⟨0, by omega, rfl, hS2, r0⟩
  case round =>
    obtain ⟨k, hk, rfl, hS, hR⟩ := hrel
    by_cases hlt : k < C
    · obtain ⟨j, hj, hjl, hval⟩ := HJ.out k (by omega)
      have hi : (k : Int) < (C : Int) := by omega
      rcases hH with rfl | ⟨bb, off, rfl, hr⟩
      · simp at hjl
      have hji : (j : Int) < (l.length : Int) := by omega
      have hblt : bb < w.heap.size := cell_lt (hr j hjl)
      have hy0 : wr.cell? ⟨bb, off + j, none⟩ = some (.int .i64 l[j]) := (hS.below.cell (p := ⟨bb, _, none⟩) hblt).trans (hr j hjl)
      obtain ⟨c0, c1, c2, c3, c4⟩ := hS.q.open
      have hww : IntKind.i64.wrap (b + (k : Int)) = b + (k : Int) := IntWalk.i64_in _ (by omega)
      have HV : Hid _ := hval
      clear hval
      have hRf := hR.free
      have hRl := hR.lt
      go_wp2_with fail
      have hR0 := hR.drew
      have hS0 := hS.step (Below.refl _ _).drew
      go_region_held3 (fun w' => w'.cell? ⟨w.heap.size, 0, none⟩ = some (.int .i64 a) ∧ w'.cell? ⟨w.heap.size, 1, none⟩ = some (.int .i64 b) ∧ w'.cell? ⟨w.heap.size, 2, none⟩ = some (.int .i64 c) ∧ w'.cell? ⟨w.heap.size, 3, none⟩ = some (.int .i64 d) ∧ w'.cell? ⟨w.heap.size, 4, none⟩ = some (.slice (some ⟨bb, off, none⟩) l.length m) ∧ w'.cell? ⟨bb, off + j, none⟩ = some (.int .i64 l[j]))
        (first | (with_reducible assumption) | exact ⟨c0, c1, c2, c3, c4, hy0⟩ | exact ⟨k0, k1, k2, k3, k4, hy1⟩ | exact hall)
        (first | (go_at_call 121; (with_reducible refine (index_c _ _ _ _ _ _ _ _ _ _ hv (by omega) (by omega) (by omega) (by omega)).mono ?_); rintro e w3 ⟨rfl, hb3⟩; have S3 := hS0.step hb3; have R3 := hR0.below hb3; obtain ⟨k0, k1, k2, k3, k4⟩ := S3.q.open; have hy1 : w3.cell? ⟨bb, off + j, none⟩ = some (.int .i64 l[j]) := (S3.below.cell (p := ⟨bb, _, none⟩) hblt).trans (hr j hjl); have z0 := R3.at (k := k) (by rw [fillL_len _ _ hk]; omega); have z1 := R3.free k; have S4 := S3.far ⟨w1.heap.size, k, none⟩ (.int .i64 l[j]) hlt1; have R4 := R3.set k l[j]; have hall : _ ∧ _ ∧ _ ∧ _ ∧ _ ∧ _ := ⟨S4.q.open.1, S4.q.open.2.1, S4.q.open.2.2.1, S4.q.open.2.2.2.1, S4.q.open.2.2.2.2, (S4.below.cell (p := ⟨bb, _, none⟩) hblt).trans (hr j hjl)⟩; clear hb3))
      have R5 : RowAt (w3.setCell ⟨w1.heap.size, k, none⟩ (.int .i64 l[j])) w1.heap.size (fillL (colL ⟨a, b, c, d⟩ l x) (k + 1)) := by
        rw [← fillL_next _ k (by omega), HV.out]; exact R4
      have HR : Hid _ := R5
      have HS : Hid _ := S4
      clear R5 S4 R4 R3 S3 hall z0 z1
      go_wp2
      go_roundw
      case rel => exact ⟨k + 1, by omega, by go_num, HS.out, HR.out⟩
      case measure => simp [intOf]; omega
    · obtain rfl : k = C := by omega
      have HR : Hid _ := hR
      have HS : Hid _ := hS
      clear hR hS
      go_wp2
      go_ret2
      refine ⟨some ⟨w1.heap.size, 0, none⟩, k, by rw [hCl]; rfl, ?_, HS.out.below, by omega⟩
      have := HR.out
      rw [← hCl, fillL_all] at this
      exact RowAt.holds this
end Go.Proofs.Ytoplgnckdmkaoaa
