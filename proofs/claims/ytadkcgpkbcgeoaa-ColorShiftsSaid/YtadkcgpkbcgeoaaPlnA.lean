/-
  Lists of integers in memory; what each call of SameInts, of slices.Equal, of Valid and Same on planes returns and leaves: contracts.
-/
import Derived.Test.YtadkcgpkbcgeoaaBox
import Derived.Test.YtadkcgpkbcgeoaaIn
import Derived.OwnWalk
set_option maxRecDepth 100000
namespace Go.Proofs.Ytadkcgpkbcgeoaa
open Go.RowKit

/-- The integers of a list, one after the other. -/
def IntsAt (w : World) (b off : Nat) (l : List Int) : Prop := ∀ k (_ : k < l.length), w.cell? ⟨b, off + k, none⟩ = some (.int .i64 l[k])
/-- A slice's address holds the integers of a list. -/
def HoldsI (w : World) (a : Option Addr) (l : List Int) : Prop := l = [] ∨ ∃ b off, a = some ⟨b, off, none⟩ ∧ IntsAt w b off l
theorem HoldsI.below {B : Nat} {w w1 : World} {a : Option Addr} {l : List Int} (h : HoldsI w a l) (hb : Below B w w1) (hB : w.heap.size ≤ B) : HoldsI w1 a l := by
  rcases h with rfl | ⟨b, off, rfl, hr⟩
  · exact .inl rfl
  · exact .inr ⟨b, off, rfl, fun k hk => (hb.cell (p := ⟨b, _, none⟩) (Nat.lt_of_lt_of_le (cell_lt (hr k hk)) hB)).trans (hr k hk)⟩
theorem holdsI_at {w : World} {b off : Nat} {l : List Int} (h : HoldsI w (some ⟨b, off, none⟩) l) {k : Nat} (hk : k < l.length) : w.cell? ⟨b, off + k, none⟩ = some (.int .i64 l[k]) := by
  rcases h with rfl | ⟨b', off', e, hr⟩
  · simp at hk
  · simp at e
    obtain ⟨rfl, rfl⟩ := e
    exact hr k hk
def eqL (l m : List Int) : Bool := decide (l = m)
theorem eqL_self (l : List Int) : eqL l l = true := by simp [eqL]
theorem eqL_len {l m : List Int} (h : l.length ≠ m.length) : eqL l m = false := by
  simp only [eqL, decide_eq_false_iff_not]
  intro e; rw [e] at h; exact h rfl
theorem eqL_ne {l m : List Int} {k : Nat} (h1 : k < l.length) (h2 : k < m.length) (h : l[k] ≠ m[k]) : eqL l m = false := by
  simp only [eqL, decide_eq_false_iff_not]
  intro e; subst e; exact h rfl
theorem eqL_all {l m : List Int} (hl : l.length = m.length) (h : ∀ k (h1 : k < l.length) (h2 : k < m.length), l[k] = m[k]) : eqL l m = true := by
  simp only [eqL, decide_eq_true_eq]
  exact List.ext_getElem hl h
def EqRel (l m : List Int) (w : World) (i : Value) (wr : World) : Prop := ∃ k : Nat, k ≤ l.length ∧ i = .int .i64 k ∧ (∀ j (h1 : j < l.length) (h2 : j < m.length), j < k → l[j] = m[j]) ∧ Below w.heap.size w wr
set_option maxHeartbeats 1000000 in
theorem ints_r (a1 a2 : Option Addr) (c1 c2 : Nat) (l m : List Int) (w : World) (hl : l.length ≤ 140737488351232) (hm : m.length ≤ 140737488351232) (h1 : HoldsI w a1 l) (h2 : HoldsI w a2 m) :
    Calls Try.prog 60 #[.slice a1 l.length c1, .slice a2 m.length c2] w fun e w' => e = .returned (.bool (eqL l m)) ∧ Below w.heap.size w w' := by
  by_cases hlen : l.length = m.length
  · have HL : Hid _ := hlen
    have hlen1 : l.length ≤ m.length := by omega
    have hlen2 : m.length ≤ l.length := by omega
    have hd : (((l.length : Int)) == (m.length : Int)) = true := by simp [hlen]
    have hd' : (((l.length : Int)) != (m.length : Int)) = false := by simp [hlen]
    have hd2 : decide ((l.length : Int) = (m.length : Int)) = true := by simp [hlen]
    clear hlen
    go_enter Try.func60, Try.ntmps60
    go_wp2_with fail
    clear hd hd' hd2
    go_loopw [5] (fun i wr => EqRel l m w i wr) (fun i _ => l.length - (intOf i).toNat)
    case atStart => exact ⟨0, by omega, rfl, fun j _ _ hj => by omega, Below.refl _ _⟩
    case round =>
      obtain ⟨k, hk, rfl, hall, hB⟩ := hrel
      have HA : Hid _ := hall
      clear hall
      by_cases hlt : k < l.length
      · have hlt2 : k < m.length := by omega
        rcases h1 with rfl | ⟨b, off, rfl, hr⟩
        · simp at hlt
        rcases h2 with rfl | ⟨b', off', rfl, hr'⟩
        · simp at hlt2
        have e0 : wr.cell? ⟨b, off + k, none⟩ = some (.int .i64 l[k]) := (hB.cell (p := ⟨b, _, none⟩) (cell_lt (hr k hlt))).trans (hr k hlt)
        have f0 : wr.cell? ⟨b', off' + k, none⟩ = some (.int .i64 m[k]) := (hB.cell (p := ⟨b', _, none⟩) (cell_lt (hr' k hlt2))).trans (hr' k hlt2)
        have hi : (k : Int) < (l.length : Int) := by omega
        have hi2 : (k : Int) < (m.length : Int) := by omega
        go_wp2_with fail
        go_quiet (fail)
        by_cases he : l[k] = m[k]
        · have HE : Hid _ := he
          have g1 : (l[k] == m[k]) = true := by simp [he]
          have g2 : (l[k] != m[k]) = false := by simp [he]
          have g3 : decide (l[k] = m[k]) = true := by simp [he]
          clear he
          go_wp2
          go_roundw
          case rel => exact ⟨k + 1, by omega, by go_num, fun j h1 h2 hj => if hjk : j = k then by subst hjk; exact HE.out else HA.out j h1 h2 (by omega), below_drewN hB _⟩
          case measure => simp [intOf]; omega
        · have g1 : (l[k] == m[k]) = false := by simp [he]
          have g2 : (l[k] != m[k]) = true := by simp [he]
          have g3 : decide (l[k] = m[k]) = false := by simp [he]
          have hf := eqL_ne hlt hlt2 he
          clear he
          go_wp2
          go_ret
          exact ⟨by rw [hf]; rfl, below_drewN hB _⟩
      · have hf := eqL_all HL.out (fun j h1 h2 => HA.out j h1 h2 (by omega))
        go_wp2
        go_ret
        exact ⟨by rw [hf]; rfl, hB⟩
  · have hd : (((l.length : Int)) == (m.length : Int)) = false := by simp; omega
    have hd' : (((l.length : Int)) != (m.length : Int)) = true := by simp; omega
    have hd2 : decide ((l.length : Int) = (m.length : Int)) = false := by simp; omega
    have hf := eqL_len hlen
    clear hlen
    go_enter Try.func60, Try.ntmps60
    go_wp2
    go_ret
    exact ⟨by rw [hf]; rfl, Below.refl _ _⟩
/-- A block that holds a plane: its rectangle and its slice. -/
structure QBox (w : World) (B : Nat) (r : Pl.R) (v : Value) : Prop where
  cells : RectAt w B 0 r
  data : w.cell? ⟨B, 4, none⟩ = some v
  free : ∀ j, w.frozen? ⟨B, j, none⟩ = false
  lt : B < w.heap.size
theorem QBox.fresh (w : World) (a b c d : Int) (s : Option Addr) (n m : Nat) (t : TypeId) : QBox (w.alloc (.cells #[.int .i64 a, .int .i64 b, .int .i64 c, .int .i64 d, .slice s n m] t)) w.heap.size ⟨a, b, c, d⟩ (.slice s n m) :=
  ⟨by simp [RectAt], by simp, fun j => by simp, by simp⟩
theorem QBox.freshAt (w : World) (B : Nat) (hB : B = w.heap.size) (a b c d : Int) (s : Option Addr) (n m : Nat) (t : TypeId) : QBox (w.alloc (.cells #[.int .i64 a, .int .i64 b, .int .i64 c, .int .i64 d, .slice s n m] t)) B ⟨a, b, c, d⟩ (.slice s n m) := by subst hB; exact QBox.fresh w a b c d s n m t
theorem QBox.below {W w1 : World} {B : Nat} {r : Pl.R} {v : Value} (h : QBox W B r v) (hb : Below W.heap.size W w1) : QBox w1 B r v :=
  ⟨h.cells.below hb h.lt, (hb.cell (p := ⟨B, _, none⟩) h.lt).trans h.data, fun j => (hb.frozen (p := ⟨B, j, none⟩) h.lt).trans (h.free j), by have := h.lt; have := hb.size; omega⟩
theorem QBox.alloc {w : World} {B : Nat} {r : Pl.R} {v : Value} (h : QBox w B r v) (X : Obj) : QBox (w.alloc X) B r v := h.below ((Below.refl _ _).alloc (Nat.le_refl _) _)
theorem QBox.drew {w : World} {B : Nat} {r : Pl.R} {v : Value} (h : QBox w B r v) : QBox w.drew B r v := ⟨h.cells, h.data, h.free, h.lt⟩
theorem QBox.open {w : World} {B : Nat} {r : Pl.R} {v : Value} (h : QBox w B r v) :
    w.cell? ⟨B, 0, none⟩ = some (.int .i64 r.x0) ∧ w.cell? ⟨B, 1, none⟩ = some (.int .i64 r.y0) ∧ w.cell? ⟨B, 2, none⟩ = some (.int .i64 r.x1) ∧ w.cell? ⟨B, 3, none⟩ = some (.int .i64 r.y1) ∧ w.cell? ⟨B, 4, none⟩ = some v := by
  have := h.cells
  simp only [RectAt, Nat.zero_add] at this
  exact ⟨this.1, this.2.1, this.2.2.1, this.2.2.2, h.data⟩
/-- A whole plane is stored over it. -/
theorem QBox.store {w : World} {B : Nat} {r : Pl.R} {v : Value} (h : QBox w B r v) (a b c d : Int) (u : Value) :
    QBox (((((w.setCell ⟨B, 0, none⟩ (.int .i64 a)).setCell ⟨B, 1, none⟩ (.int .i64 b)).setCell ⟨B, 2, none⟩ (.int .i64 c)).setCell ⟨B, 3, none⟩ (.int .i64 d)).setCell ⟨B, 4, none⟩ u) B ⟨a, b, c, d⟩ u := by
  obtain ⟨c0, c1, c2, c3, c4⟩ := h.open
  refine ⟨by simp [RectAt, go_sem, c0, c1, c2, c3], by simp [go_sem, c4], fun j => ?_, by have := h.lt; simpa [World.setCell] using this⟩
  simp only [World.frozen?_setCell]
  exact h.free j
theorem below5 {B b : Nat} {a w : World} (h : Below B a w) (hb : B ≤ b) (v0 v1 v2 v3 v4 : Value) : Below B a (((((w.setCell ⟨b, 0, none⟩ v0).setCell ⟨b, 1, none⟩ v1).setCell ⟨b, 2, none⟩ v2).setCell ⟨b, 3, none⟩ v3).setCell ⟨b, 4, none⟩ v4) :=
  ((((h.setCell hb _).setCell hb _).setCell hb _).setCell hb _).setCell hb _
/-- A plane is valid: its rectangle is, is not too large, and there is a sample for each point. -/
def pvB (a b c d : Int) (n : Nat) : Bool := decide (Pl.validB a b c d = true ∧ Pl.areaI a b c d ≤ 1048576 ∧ (n : Int) = Pl.areaI a b c d)
theorem pv_iff {a b c d : Int} {n : Nat} : pvB a b c d n = true ↔ (Pl.validB a b c d = true ∧ Pl.areaI a b c d ≤ 1048576 ∧ (n : Int) = Pl.areaI a b c d) := by simp [pvB]
set_option maxHeartbeats 1000000 in
theorem pv_c (a b c d : Int) (s : Option Addr) (n m : Nat) (w : World) :
    Calls Try.prog 70 #[.agg #[.int .i64 a, .int .i64 b, .int .i64 c, .int .i64 d, .slice s n m]] w fun e w' => e = .returned (.bool (pvB a b c d n)) ∧ Below w.heap.size w w' := by
  go_enter Try.func70, Try.ntmps70
  go_wp2_with fail
  have x0 := QBox.fresh w a b c d s n m 40
  refine (area_c _ _ _ _ _).mono ?_
  rintro e w1 ⟨rfl, hb1⟩
  have x1 := x0.below hb1
  have B1 : Below w.heap.size w w1 := bcall ((Below.refl _ _).alloc (Nat.le_refl _) _) hb1 (by simp)
  clear hb1 x0
  obtain ⟨c0, c1, c2, c3, c4⟩ := x1.open
  go_wp2_with fail
  refine (valid_c _ _ _ _ _).mono ?_
  rintro e w2 ⟨rfl, hb2⟩
  have x2 := x1.below hb2
  have B2 : Below w.heap.size w w2 := bcall B1 hb2 (by have := x1.lt; omega)
  clear hb2 x1 B1 c0 c1 c2 c3 c4
  obtain ⟨c0, c1, c2, c3, c4⟩ := x2.open
  by_cases hv : Pl.validB a b c d = true
  · go_wp2
    all_goals
      go_ret
      exact ⟨ret_bool (by simp [pvB, hv]; try omega), B2⟩
  · have hv' : Pl.validB a b c d = false := by simpa using hv
    go_wp2
    go_ret
    exact ⟨ret_bool (by simp [pvB, hv']), B2⟩
set_option maxHeartbeats 1000000 in
theorem pv_r (a b c d : Int) (s : Option Addr) (n m : Nat) (w : World) :
    Calls Try.prog 73 #[.agg #[.int .i64 a, .int .i64 b, .int .i64 c, .int .i64 d, .slice s n m]] w fun e w' => e = .returned (.bool (pvB a b c d n)) ∧ Below w.heap.size w w' := by
  go_enter Try.func73, Try.ntmps73
  go_wp2_with fail
  have x0 := QBox.fresh w a b c d s n m 40
  refine (area_r _ _ _ _ _).mono ?_
  rintro e w1 ⟨rfl, hb1⟩
  have x1 := x0.below hb1
  have B1 : Below w.heap.size w w1 := bcall ((Below.refl _ _).alloc (Nat.le_refl _) _) hb1 (by simp)
  clear hb1 x0
  obtain ⟨c0, c1, c2, c3, c4⟩ := x1.open
  go_wp2_with fail
  refine (valid_r _ _ _ _ _).mono ?_
  rintro e w2 ⟨rfl, hb2⟩
  have x2 := x1.below hb2
  have B2 : Below w.heap.size w w2 := bcall B1 hb2 (by have := x1.lt; omega)
  clear hb2 x1 B1 c0 c1 c2 c3 c4
  obtain ⟨c0, c1, c2, c3, c4⟩ := x2.open
  by_cases hv : Pl.validB a b c d = true
  · go_wp2
    all_goals
      go_ret
      exact ⟨ret_bool (by simp [pvB, hv]; try omega), B2⟩
  · have hv' : Pl.validB a b c d = false := by simpa using hv
    go_wp2
    go_ret
    exact ⟨ret_bool (by simp [pvB, hv']), B2⟩
/-- Two planes are the same: their rectangles and their lists are. -/
def psB (p q : Pl.R) (l k : List Int) : Bool := Pl.eqB p.x0 p.y0 p.x1 p.y1 q.x0 q.y0 q.x1 q.y1 && eqL l k
set_option maxHeartbeats 1000000 in
theorem ps_r (p q : Pl.R) (s t : Option Addr) (m m' : Nat) (l k : List Int) (w : World) (hl : l.length ≤ 140737488351232) (hk : k.length ≤ 140737488351232) (h1 : HoldsI w s l) (h2 : HoldsI w t k) :
    Calls Try.prog 37 #[.agg #[.int .i64 p.x0, .int .i64 p.y0, .int .i64 p.x1, .int .i64 p.y1, .slice s l.length m], .agg #[.int .i64 q.x0, .int .i64 q.y0, .int .i64 q.x1, .int .i64 q.y1, .slice t k.length m']] w fun e w' => e = .returned (.bool (psB p q l k)) ∧ Below w.heap.size w w' := by
  have heq := eqR
  by_cases hq : Pl.eqB p.x0 p.y0 p.x1 p.y1 q.x0 q.y0 q.x1 q.y1 = true
  · go_enter Try.func37, Try.ntmps37
    go_wp2_with fail
    have B0 : Below w.heap.size w ((w.alloc (.cells #[.int .i64 p.x0, .int .i64 p.y0, .int .i64 p.x1, .int .i64 p.y1, .slice s l.length m] 40)).alloc (.cells #[.int .i64 q.x0, .int .i64 q.y0, .int .i64 q.x1, .int .i64 q.y1, .slice t k.length m'] 40)) := ((Below.refl _ _).alloc (Nat.le_refl _) _).alloc (by simp) _
    refine (ints_r _ _ _ _ l k _ hl hk (h1.below B0 (Nat.le_refl _)) (h2.below B0 (Nat.le_refl _))).mono ?_
    rintro e w1 ⟨rfl, hb⟩
    go_wp2
    go_ret
    exact ⟨ret_bool (by simp [psB, hq]), bcall B0 hb (by simp; omega)⟩
  · have hq' : Pl.eqB p.x0 p.y0 p.x1 p.y1 q.x0 q.y0 q.x1 q.y1 = false := by simpa using hq
    go_enter Try.func37, Try.ntmps37
    go_wp2
    go_ret
    exact ⟨ret_bool (by simp [psB, hq']), ((Below.refl _ _).alloc (Nat.le_refl _) _).alloc (by simp) _⟩
end Go.Proofs.Ytadkcgpkbcgeoaa
