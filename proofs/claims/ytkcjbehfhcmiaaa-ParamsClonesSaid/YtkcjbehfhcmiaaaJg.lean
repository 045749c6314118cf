/-
  Lists of structs in memory, cell by cell: what holds them, rows of a call's own, one cell turned. Plain laws on worlds.
-/
import Derived.Test.YtkcjbehfhcmiaaaHa
import Derived.Laws.AppendOwn
set_option maxRecDepth 100000
namespace Go.Proofs.Ytkcjbehfhcmiaaa
open Go.RowKit

section
variable {α : Type} {f : α → List Value} {n : Nat}
theorem flat_len (hn : ∀ a, (f a).length = n) (l : List α) : (l.flatMap f).length = l.length * n := by
  induction l with
  | nil => simp
  | cons a l ih => rw [List.flatMap_cons, List.length_append, ih, hn, List.length_cons, Nat.succ_mul, Nat.add_comm]
theorem flat_at (hn : ∀ a, (f a).length = n) (_ : 0 < n) (l : List α) (j : Nat) (u : Value) (h : (l.flatMap f)[j]? = some u) :
    ∃ (k : Nat) (hk : k < l.length) (r : Nat), r < n ∧ j = k * n + r ∧ (f l[k])[r]? = some u := by
  induction l generalizing j with
  | nil => simp at h
  | cons a l ih =>
    rw [List.flatMap_cons] at h
    by_cases hj : j < n
    · rw [List.getElem?_append_left (by rw [hn]; exact hj)] at h
      exact ⟨0, by simp, j, hj, by simp, h⟩
    · rw [List.getElem?_append_right (by rw [hn]; omega), hn] at h
      obtain ⟨k, hk, r, hr, e, q⟩ := ih _ h
      refine ⟨k + 1, by simpa using hk, r, hr, ?_, by simpa using q⟩
      rw [Nat.succ_mul]
      omega
theorem flat_get (hn : ∀ a, (f a).length = n) (l : List α) (k : Nat) (hk : k < l.length) (r : Nat) (hr : r < n) : (l.flatMap f)[k * n + r]? = (f l[k])[r]? := by
  induction l generalizing k with
  | nil => simp at hk
  | cons a l ih =>
    rw [List.flatMap_cons]
    cases k with
    | zero => rw [List.getElem?_append_left (by rw [hn]; omega)]; simp
    | succ k =>
      have hk' : k < l.length := by simpa using hk
      rw [List.getElem?_append_right (by rw [hn, Nat.succ_mul]; omega), hn]
      have e : (k + 1) * n + r - n = k * n + r := by rw [Nat.succ_mul]; omega
      rw [e, ih k hk']
      simp
theorem flat_set (hn : ∀ a, (f a).length = n) (l : List α) (k : Nat) (hk : k < l.length) (r : Nat) (hr : r < n) (c : α) (v : Value) (hc : f c = (f l[k]).set r v) :
    (l.flatMap f).set (k * n + r) v = (l.set k c).flatMap f := by
  induction l generalizing k with
  | nil => simp at hk
  | cons a l ih =>
    cases k with
    | zero =>
      simp only [List.flatMap_cons, List.set_cons_zero, Nat.zero_mul, Nat.zero_add]
      rw [List.set_append_left _ _ (by rw [hn]; exact hr), hc]
      simp
    | succ k =>
      have hk' : k < l.length := by simpa using hk
      simp only [List.flatMap_cons, List.set_cons_succ]
      rw [List.set_append_right _ _ (by rw [hn, Nat.succ_mul]; omega), hn]
      have e : (k + 1) * n + r - n = k * n + r := by rw [Nat.succ_mul]; omega
      rw [e, ih k hk' (by simpa using hc)]
theorem flat_one (h1 : ∀ a, ∀ u ∈ f a, u.oneCell' = true) (l : List α) : ∀ u ∈ l.flatMap f, u.oneCell' = true := by
  intro u hu
  obtain ⟨a, _, h⟩ := List.mem_flatMap.1 hu
  exact h1 a u h
end
/-- A slice's address holds the elements of a list. -/
def HoldsG {α : Type} (f : α → List Value) (w : World) (a : Option Addr) (l : List α) : Prop := l = [] ∨ ∃ b o, a = some ⟨b, o, none⟩ ∧ ∀ j u, (l.flatMap f)[j]? = some u → w.cell? ⟨b, o + j, none⟩ = some u
/-- A slice of a call's own. -/
def OwnG {α : Type} (f : α → List Value) (T : TypeId) (w : World) (B : Nat) (a : Option Addr) (l : List α) : Prop := l = [] ∨ ∃ g pad, a = some ⟨g, 0, none⟩ ∧ B ≤ g ∧ Blk w g T ((l.flatMap f) ++ pad).toArray
theorem HoldsG.below {α : Type} {f : α → List Value} {B : Nat} {w w1 : World} {a : Option Addr} {l : List α} (h : HoldsG f w a l) (hb : Below B w w1) (hB : w.heap.size ≤ B) : HoldsG f w1 a l := by
  rcases h with h | ⟨b, o, rfl, hr⟩
  · exact .inl h
  · exact .inr ⟨b, o, rfl, fun j u hj => (hb.cell (p := ⟨b, _, none⟩) (Nat.lt_of_lt_of_le (cell_lt (hr j u hj)) hB)).trans (hr j u hj)⟩
theorem OwnG.below {α : Type} {f : α → List Value} {T : TypeId} {B : Nat} {w w1 : World} {a : Option Addr} {l : List α} (h : OwnG f T w B a l) (hb : Below w.heap.size w w1) : OwnG f T w1 B a l := by
  rcases h with h | ⟨g, pad, rfl, hB, hr⟩
  · exact .inl h
  · exact .inr ⟨g, pad, rfl, hB, hr.below hb⟩
theorem OwnG.drew {α : Type} {f : α → List Value} {T : TypeId} {B : Nat} {w : World} {a : Option Addr} {l : List α} (h : OwnG f T w B a l) : OwnG f T w.drew B a l := h
theorem OwnG.less {α : Type} {f : α → List Value} {T : TypeId} {B B' : Nat} {w : World} {a : Option Addr} {l : List α} (h : OwnG f T w B a l) (hb : B' ≤ B) : OwnG f T w B' a l := by
  rcases h with h | ⟨g, pad, rfl, hB, hr⟩
  · exact .inl h
  · exact .inr ⟨g, pad, rfl, Nat.le_trans hb hB, hr⟩
theorem OwnG.holds {α : Type} {f : α → List Value} {T : TypeId} {B : Nat} {w : World} {a : Option Addr} {l : List α} (h : OwnG f T w B a l) : HoldsG f w a l := by
  rcases h with h | ⟨g, pad, rfl, hB, hr⟩
  · exact .inl h
  · refine .inr ⟨g, 0, rfl, fun j u hj => ?_⟩
    rw [hr.cell, Nat.zero_add, List.getElem?_toArray]
    rw [List.getElem?_append_left (List.getElem?_eq_some_iff.1 hj).1, hj]
/-- A cell elsewhere is turned. -/
theorem OwnG.far {α : Type} {f : α → List Value} {T : TypeId} {B : Nat} {w : World} {a : Option Addr} {l : List α} (h : OwnG f T w B a l) {p : Addr} (hp : p.block < B) (u : Value) : OwnG f T (w.setCell p u) B a l := by
  rcases h with h | ⟨g, pad, rfl, hB, hr⟩
  · exact .inl h
  · exact .inr ⟨g, pad, rfl, hB, hr.far (by omega) u⟩
/-- The row that append made. -/
theorem own_ownG {α : Type} {f : α → List Value} {n : Nat} (_ : ∀ a, (f a).length = n) {T : TypeId} {w : World} {B k : Nat} {v : Value} {l : List α} (h : w.ownsRow B T n v k (l.flatMap f)) (hk : k = l.length) :
    ∃ s m, v = .slice s l.length m ∧ (l.length ≤ m ∧ (s = none → l.length = 0 ∧ m = 0)) ∧ OwnG f T w B s l := by
  subst hk
  obtain ⟨_, h2⟩ := h
  rcases h2 with ⟨rfl, h0⟩ | ⟨g, cap, cur, rfl, hb, hg, hc, _, hs, ht⟩
  · have hl : l = [] := List.length_eq_zero_iff.1 h0
    subst hl
    exact ⟨none, 0, rfl, ⟨Nat.le_refl _, fun _ => ⟨rfl, rfl⟩⟩, .inl rfl⟩
  · refine ⟨_, cap, rfl, ⟨hc, fun h => by simp at h⟩, .inr ⟨g, cur.toList.drop (l.length * n), rfl, hb, ?_⟩⟩
    unfold Blk
    rw [← ht, List.take_append_drop, Array.toArray_toList]
    exact hg
def cmV (c : Hp.Cm) : List Value := [.int .i64 c.depth, .bool c.sg, .int .i64 c.dx, .int .i64 c.dy]
def ptV (c : Hp.Pt) : List Value := [.int .i64 c.x, .int .i64 c.y]
def inV (c : Int) : List Value := [.int .i64 c]
theorem cmV_len (c : Hp.Cm) : (cmV c).length = 4 := rfl
theorem ptV_len (c : Hp.Pt) : (ptV c).length = 2 := rfl
theorem inV_len (c : Int) : (inV c).length = 1 := rfl
theorem cmV_one (c : Hp.Cm) : ∀ u ∈ cmV c, u.oneCell' = true := by intro u hu; simp [cmV] at hu; rcases hu with rfl | rfl | rfl | rfl <;> rfl
theorem ptV_one (c : Hp.Pt) : ∀ u ∈ ptV c, u.oneCell' = true := by intro u hu; simp [ptV] at hu; rcases hu with rfl | rfl <;> rfl
theorem inV_one (c : Int) : ∀ u ∈ inV c, u.oneCell' = true := by intro u hu; simp [inV] at hu; subst hu; rfl
theorem gC {w : World} {a : Option Addr} {l : List Hp.Cm} : HoldsC w a l ↔ HoldsG cmV w a l := by
  constructor
  · rintro (h | ⟨b, o, rfl, hr⟩)
    · exact .inl h
    · refine .inr ⟨b, o, rfl, fun j u hj => ?_⟩
      obtain ⟨k, hk, r, hr4, rfl, hu⟩ := flat_at cmV_len (by decide) l j u hj
      obtain ⟨h0, h1, h2, h3⟩ := hr k hk
      rw [← Nat.add_assoc]
      match r, hr4, hu with
      | 0, _, hu => simp [cmV] at hu; subst hu; exact h0
      | 1, _, hu => simp [cmV] at hu; subst hu; exact h1
      | 2, _, hu => simp [cmV] at hu; subst hu; exact h2
      | 3, _, hu => simp [cmV] at hu; subst hu; exact h3
  · rintro (h | ⟨b, o, rfl, hr⟩)
    · exact .inl h
    · refine .inr ⟨b, o, rfl, fun k hk => ?_⟩
      have q := fun r hr4 u hu => hr (k * 4 + r) u ((flat_get cmV_len l k hk r hr4).trans hu)
      refine ⟨?_, ?_, ?_, ?_⟩
      · have := q 0 (by decide) _ rfl; rw [← Nat.add_assoc] at this; exact this
      · have := q 1 (by decide) _ rfl; rw [← Nat.add_assoc] at this; exact this
      · have := q 2 (by decide) _ rfl; rw [← Nat.add_assoc] at this; exact this
      · have := q 3 (by decide) _ rfl; rw [← Nat.add_assoc] at this; exact this
theorem gP {w : World} {a : Option Addr} {l : List Hp.Pt} : HoldsP w a l ↔ HoldsG ptV w a l := by
  constructor
  · rintro (h | ⟨b, o, rfl, hr⟩)
    · exact .inl h
    · refine .inr ⟨b, o, rfl, fun j u hj => ?_⟩
      obtain ⟨k, hk, r, hr4, rfl, hu⟩ := flat_at ptV_len (by decide) l j u hj
      obtain ⟨h0, h1⟩ := hr k hk
      rw [← Nat.add_assoc]
      match r, hr4, hu with
      | 0, _, hu => simp [ptV] at hu; subst hu; exact h0
      | 1, _, hu => simp [ptV] at hu; subst hu; exact h1
  · rintro (h | ⟨b, o, rfl, hr⟩)
    · exact .inl h
    · refine .inr ⟨b, o, rfl, fun k hk => ?_⟩
      have q := fun r hr4 u hu => hr (k * 2 + r) u ((flat_get ptV_len l k hk r hr4).trans hu)
      refine ⟨?_, ?_⟩
      · have := q 0 (by decide) _ rfl; rw [← Nat.add_assoc] at this; exact this
      · have := q 1 (by decide) _ rfl; rw [← Nat.add_assoc] at this; exact this
theorem gI {w : World} {a : Option Addr} {l : List Int} : HoldsI w a l ↔ HoldsG inV w a l := by
  constructor
  · rintro (h | ⟨b, o, rfl, hr⟩)
    · exact .inl h
    · refine .inr ⟨b, o, rfl, fun j u hj => ?_⟩
      obtain ⟨k, hk, r, hr4, rfl, hu⟩ := flat_at inV_len (by decide) l j u hj
      obtain rfl : r = 0 := by omega
      simp [inV] at hu; subst hu
      have := hr k hk
      simpa using this
  · rintro (h | ⟨b, o, rfl, hr⟩)
    · exact .inl h
    · refine .inr ⟨b, o, rfl, fun k hk => ?_⟩
      have := hr (k * 1 + 0) _ ((flat_get inV_len l k hk 0 (by decide)).trans rfl)
      simpa using this
end Go.Proofs.Ytkcjbehfhcmiaaa
