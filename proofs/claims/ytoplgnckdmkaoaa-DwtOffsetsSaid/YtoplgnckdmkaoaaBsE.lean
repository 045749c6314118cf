/-
  Layers 1 to 5, the base: Kit, Ext, ExtR of one piece.
-/
import Derived.Test.YtoplgnckdmkaoaaBsD
import Derived.Test.YtoplgnckdmkaoaaRows
import Derived.RowKit
import Derived.IntWalk
import Derived.WalkKit
import Derived.WalkSpells
import Derived.WalkLawsBesides
import Derived.Deep.QuietTactic
import Derived.BigQuiet
import Derived.Deep.RegionHeld3
import Derived.StillTailTactics
import Derived.OwnWalk
import Derived.Deep.OwnRows
import Derived.Laws.CopyOwn
import Derived.Deep.DeepCutAuto
import Derived.Deep.RegionLaw
import Derived.Maps.AppendAt
set_option maxRecDepth 100000
namespace Go.Proofs.Ytoplgnckdmkaoaa
open Go.RowKit

theorem holds_new (w : World) (B : Nat) (hB : B = w.heap.size) (l : List Int) (cs : Array Value) (hcs : cs = (l.map (Value.int .i64)).toArray) : HoldsI (w.alloc (.cells cs 3)) (some ⟨B, 0, none⟩) l := by
  subst hB hcs
  refine .inr ⟨w.heap.size, 0, rfl, fun k hk => ?_⟩
  have e : (w.alloc (.cells (l.map (Value.int .i64)).toArray 3)).cell? ⟨w.heap.size, 0 + k, none⟩ = (l.map (Value.int .i64))[k]? := by simp
  rw [e]
  simp [hk]
theorem HoldsI.alloc {w : World} {s : Option Addr} {l : List Int} (h : HoldsI w s l) (X : Obj) : HoldsI (w.alloc X) s l := h.below ((Below.refl _ _).alloc (Nat.le_refl _) _) (Nat.le_refl _)
theorem HoldsI.call {w w1 : World} {s : Option Addr} {l : List Int} (h : HoldsI w s l) (hb : Below w.heap.size w w1) : HoldsI w1 s l := h.below hb (Nat.le_refl _)
theorem below_alloc {a W : World} (h : Below a.heap.size a W) (X : Obj) : Below a.heap.size a (W.alloc X) := h.alloc h.size X
theorem below_call {a W w1 : World} (h : Below a.heap.size a W) (hb : Below W.heap.size W w1) : Below a.heap.size a w1 := bcall h hb h.size
theorem HoldsI.drew {w : World} {s : Option Addr} {l : List Int} (h : HoldsI w s l) : HoldsI w.drew s l := h
/-- A list in another block stays where a list of the call's own grows. -/
theorem holds_grown {W W2 : World} {row : Option Nat} {g : Nat} {l : List Int} (h : HoldsI W (some ⟨g, 0, none⟩) l) (hg : W.grownBy W2 row) (hne : row ≠ some g) : HoldsI W2 (some ⟨g, 0, none⟩) l := by
  rcases h with h | ⟨b, off, e, hr⟩
  · exact .inl h
  · simp at e
    obtain ⟨rfl, rfl⟩ := e
    refine .inr ⟨g, 0, rfl, fun k hk => ?_⟩
    have hlt := cell_lt (hr k hk)
    exact (World.cell?_of_block (w := W) (hg.block g hlt (fun h => hne h.symm))).trans (hr k hk)
theorem map_range_next {f : Nat → Int} {n k : Nat} (hk : k < n) : ((List.range n).map f).take k ++ [f k] = ((List.range n).map f).take (k + 1) := by
  rw [List.take_succ_eq_append_getElem (by simpa using hk)]
  simp
end Go.Proofs.Ytoplgnckdmkaoaa

namespace Go.Proofs.Ytoplgnckdmkaoaa.Ex

/-! Reflected indices -/
/-- The index of the symmetric extension. -/
def mirI (i lo hi : Int) : Int :=
  if hi - lo = 1 then lo else if (i - lo) % (2 * (hi - lo - 1)) < hi - lo then lo + (i - lo) % (2 * (hi - lo - 1)) else lo + 2 * (hi - lo - 1) - (i - lo) % (2 * (hi - lo - 1))
theorem emod_is {a p r t : Int} (h0 : 0 ≤ r) (h1 : r < p) (h : a = r + p * t) : a % p = r := by
  rw [h, Int.add_mul_emod_self_left, Int.emod_eq_of_lt h0 h1]
theorem emod_parts {a p : Int} (hp : 0 < p) : ∃ q, a = a % p + p * q ∧ 0 ≤ a % p ∧ a % p < p :=
  ⟨a / p, by have := Int.emod_add_mul_ediv a p; omega, Int.emod_nonneg _ (by omega), Int.emod_lt_of_pos _ hp⟩
theorem mir_mem {i lo hi : Int} (h : lo < hi) : lo ≤ mirI i lo hi ∧ mirI i lo hi < hi := by
  unfold mirI
  by_cases h1 : hi - lo = 1
  · rw [if_pos h1]; omega
  · rw [if_neg h1]
    obtain ⟨q, _, h2, h3⟩ := emod_parts (a := i - lo) (p := 2 * (hi - lo - 1)) (by omega)
    generalize (i - lo) % (2 * (hi - lo - 1)) = m at *
    by_cases h4 : m < hi - lo
    · rw [if_pos h4]; omega
    · rw [if_neg h4]; omega
theorem mir_id {i lo hi : Int} (h0 : lo ≤ i) (h1 : i < hi) : mirI i lo hi = i := by
  unfold mirI
  by_cases h2 : hi - lo = 1
  · rw [if_pos h2]; omega
  · rw [if_neg h2, Int.emod_eq_of_lt (by omega) (by omega), if_pos (by omega)]
    omega
/-- The value by the remainder. -/
theorem mir_of {i lo hi m q : Int} (h2 : 2 ≤ hi - lo) (h0 : 0 ≤ m) (h1 : m < 2 * (hi - lo - 1)) (h : i - lo = m + 2 * (hi - lo - 1) * q) : mirI i lo hi = if m < hi - lo then lo + m else lo + 2 * (hi - lo - 1) - m := by
  unfold mirI
  rw [if_neg (by omega), emod_is h0 h1 h]
theorem mir_left {i lo hi : Int} (h : lo < hi) : mirI (2 * lo - i) lo hi = mirI i lo hi := by
  by_cases h1 : hi - lo = 1
  · unfold mirI; rw [if_pos h1, if_pos h1]
  · obtain ⟨q, hq, h2, h3⟩ := emod_parts (a := i - lo) (p := 2 * (hi - lo - 1)) (by omega)
    generalize (i - lo) % (2 * (hi - lo - 1)) = m at *
    rw [mir_of (i := i) (by omega) h2 h3 hq]
    by_cases h4 : m = 0
    · rw [mir_of (m := 0) (q := -q) (by omega) (by omega) (by omega) (by rw [Int.mul_neg]; omega), if_pos (by omega), if_pos (by omega)]
      omega
    · rw [mir_of (m := 2 * (hi - lo - 1) - m) (q := -q - 1) (by omega) (by omega) (by omega) (by rw [show 2 * (hi - lo - 1) * (-q - 1) = -(2 * (hi - lo - 1) * q) - 2 * (hi - lo - 1) by rw [Int.mul_sub (2 * (hi - lo - 1)), Int.mul_neg, Int.mul_one]]; omega)]
      split <;> split <;> omega
theorem mir_right {i lo hi : Int} (h : lo < hi) : mirI (2 * (hi - 1) - i) lo hi = mirI i lo hi := by
  by_cases h1 : hi - lo = 1
  · unfold mirI; rw [if_pos h1, if_pos h1]
  · obtain ⟨q, hq, h2, h3⟩ := emod_parts (a := i - lo) (p := 2 * (hi - lo - 1)) (by omega)
    generalize (i - lo) % (2 * (hi - lo - 1)) = m at *
    rw [mir_of (i := i) (by omega) h2 h3 hq]
    by_cases h4 : m = 0
    · rw [mir_of (m := 0) (q := 1 - q) (by omega) (by omega) (by omega) (by rw [show 2 * (hi - lo - 1) * (1 - q) = 2 * (hi - lo - 1) - 2 * (hi - lo - 1) * q by rw [Int.mul_sub (2 * (hi - lo - 1)), Int.mul_one]]; omega), if_pos (by omega), if_pos (by omega)]
      omega
    · rw [mir_of (m := 2 * (hi - lo - 1) - m) (q := -q) (by omega) (by omega) (by omega) (by rw [Int.mul_neg]; omega)]
      split <;> split <;> omega
theorem mir_par {i lo hi : Int} (h : 2 ≤ hi - lo) : (i - mirI i lo hi) % 2 = 0 := by
  obtain ⟨q, hq, h2, h3⟩ := emod_parts (a := i - lo) (p := 2 * (hi - lo - 1)) (by omega)
  generalize (i - lo) % (2 * (hi - lo - 1)) = m at *
  rw [mir_of (i := i) (by omega) h2 h3 hq, Int.mul_assoc] at *
  generalize (hi - lo - 1) * q = z at *
  split <;> omega
/-- Shifted. -/
theorem mir_shift (i lo hi t : Int) : mirI (i + t) (lo + t) (hi + t) = mirI i lo hi + t := by
  unfold mirI
  rw [show hi + t - (lo + t) = hi - lo by omega, show i + t - (lo + t) = i - lo by omega]
  split
  · rfl
  · split <;> omega
/-- One step further moves the reflected index by at most one. -/
theorem mir_step {i lo hi : Int} (h : lo < hi) : mirI (i + 1) lo hi - mirI i lo hi ≤ 1 ∧ mirI i lo hi - mirI (i + 1) lo hi ≤ 1 := by
  by_cases h1 : hi - lo = 1
  · unfold mirI; rw [if_pos h1, if_pos h1]; omega
  · obtain ⟨q, hq, h2, h3⟩ := emod_parts (a := i - lo) (p := 2 * (hi - lo - 1)) (by omega)
    generalize (i - lo) % (2 * (hi - lo - 1)) = m at *
    rw [mir_of (i := i) (by omega) h2 h3 hq]
    by_cases h4 : m + 1 = 2 * (hi - lo - 1)
    · rw [mir_of (m := 0) (q := q + 1) (by omega) (by omega) (by omega) (by rw [Int.mul_add, Int.mul_one]; omega), if_pos (by omega)]
      split <;> omega
    · rw [mir_of (m := m + 1) (q := q) (by omega) (by omega) (by omega) (by omega)]
      split <;> split <;> omega
theorem mir_near {i lo hi : Int} (h0 : lo ≤ i) (h1 : i < hi) (d : Nat) : (mirI (i + d) lo hi - i ≤ d ∧ i - mirI (i + d) lo hi ≤ d) ∧ (mirI (i - d) lo hi - i ≤ d ∧ i - mirI (i - d) lo hi ≤ d) := by
  induction d with
  | zero =>
    rw [show i + ((0 : Nat) : Int) = i by omega, show i - ((0 : Nat) : Int) = i by omega, mir_id h0 h1]
    omega
  | succ d ih =>
    have e1 := mir_step (i := i + d) (show lo < hi by omega)
    have e2 := mir_step (i := i - ((d + 1 : Nat) : Int)) (show lo < hi by omega)
    rw [show i - ((d + 1 : Nat) : Int) + 1 = i - d by omega] at e2
    rw [show i + ((d + 1 : Nat) : Int) = i + d + 1 by omega]
    omega

/-! Signals: lists whose first sample stands at an index -/
def sg (s : Int) (x : List Int) (i : Int) : Int := x.getD (i - s).toNat 0
def tb (s : Int) (n : Nat) (f : Int → Int) : List Int := (List.range n).map fun j : Nat => f (s + (j : Int))
theorem tb_len (s : Int) (n : Nat) (f : Int → Int) : (tb s n f).length = n := by simp [tb]
theorem sg_at {s : Int} {x : List Int} {j : Nat} (hj : j < x.length) : sg s x (s + (j : Int)) = x[j] := by
  rw [sg, show (s + (j : Int) - s).toNat = j by omega]
  simp [hj]
theorem tb_at {s : Int} {n : Nat} {f : Int → Int} {j : Nat} (hj : j < (tb s n f).length) : (tb s n f)[j] = f (s + (j : Int)) := by simp [tb]
theorem sg_tb {s : Int} {n : Nat} {f : Int → Int} {i : Int} (h0 : s ≤ i) (h1 : i < s + n) : sg s (tb s n f) i = f i := by
  obtain ⟨j, rfl⟩ : ∃ j : Nat, i = s + (j : Int) := ⟨(i - s).toNat, by omega⟩
  rw [sg_at (by rw [tb_len]; omega), tb_at]
theorem sig_ext {s : Int} {x y : List Int} (hl : x.length = y.length) (h : ∀ i, s ≤ i → i < s + x.length → sg s x i = sg s y i) : x = y := by
  refine List.ext_getElem hl fun j h1 h2 => ?_
  rw [← sg_at (s := s) h1, ← sg_at (s := s) h2]
  exact h _ (by omega) (by omega)
theorem tb_self (s : Int) (x : List Int) : tb s x.length (sg s x) = x :=
  sig_ext (s := s) (by rw [tb_len]) fun i h0 h1 => by rw [tb_len] at h1; exact sg_tb h0 h1
theorem tb_congr {s : Int} {n : Nat} {f g : Int → Int} (h : ∀ i, s ≤ i → i < s + n → f i = g i) : tb s n f = tb s n g :=
  sig_ext (s := s) (by rw [tb_len, tb_len]) fun i h0 h1 => by rw [tb_len] at h1; rw [sg_tb h0 h1, sg_tb h0 h1, h i h0 h1]
theorem tb_next (s : Int) (k : Nat) (f : Int → Int) : tb s (k + 1) f = tb s k f ++ [f (s + (k : Int))] := by simp [tb, List.range_succ]
theorem tb_take {s : Int} {n k : Nat} {f : Int → Int} (h : k ≤ n) : (tb s n f).take k = tb s k f := by
  simp only [tb, ← List.map_take, List.take_range]
  rw [Nat.min_eq_left h]
/-- The sample of the symmetric extension. -/
def ex (s : Int) (x : List Int) (i : Int) : Int := sg s x (mirI i s (s + x.length))
theorem ex_in {s : Int} {x : List Int} {i : Int} (h0 : s ≤ i) (h1 : i < s + x.length) : ex s x i = sg s x i := by rw [ex, mir_id h0 h1]

/-! Even and odd -/
def cntE (s : Int) (k : Nat) : Nat := ((s + k + 1) / 2 - (s + 1) / 2).toNat
def cntO (s : Int) (k : Nat) : Nat := k - cntE s k
theorem cnt_next {s : Int} {k : Nat} : (cntE s (k + 1) = cntE s k + (if (s + (k : Int)) % 2 = 0 then 1 else 0)) ∧ (cntO s (k + 1) = cntO s k + (if (s + (k : Int)) % 2 = 0 then 0 else 1)) ∧ cntE s k ≤ k ∧ cntE s k + cntO s k = k := by
  unfold cntO cntE
  by_cases h : (s + (k : Int)) % 2 = 0
  · rw [if_pos h, if_pos h]; omega
  · rw [if_neg h, if_neg h]; omega
/-- The samples at even indices, at odd ones. -/
def splitE (s : Int) : List Int → List Int
  | [] => []
  | v :: x => if s % 2 = 0 then v :: splitE (s + 1) x else splitE (s + 1) x
def splitO (s : Int) : List Int → List Int
  | [] => []
  | v :: x => if s % 2 = 0 then splitO (s + 1) x else v :: splitO (s + 1) x
theorem splitE_snoc (x : List Int) (v : Int) : ∀ s : Int, splitE s (x ++ [v]) = splitE s x ++ (if (s + (x.length : Int)) % 2 = 0 then [v] else []) := by
  induction x with
  | nil => intro s; simp [splitE]
  | cons z x ih =>
    intro s
    rw [List.cons_append, splitE, splitE, ih, List.length_cons, show s + 1 + (x.length : Int) = s + ((x.length + 1 : Nat) : Int) by omega]
    split <;> simp
theorem splitO_snoc (x : List Int) (v : Int) : ∀ s : Int, splitO s (x ++ [v]) = splitO s x ++ (if (s + (x.length : Int)) % 2 = 0 then [] else [v]) := by
  induction x with
  | nil => intro s; simp [splitO]
  | cons z x ih =>
    intro s
    rw [List.cons_append, splitO, splitO, ih, List.length_cons, show s + 1 + (x.length : Int) = s + ((x.length + 1 : Nat) : Int) by omega]
    split <;> simp
theorem split_take_next {s : Int} {x : List Int} {k : Nat} (hk : k < x.length) :
    splitE s (x.take (k + 1)) = splitE s (x.take k) ++ (if (s + (k : Int)) % 2 = 0 then [x[k]] else []) ∧ splitO s (x.take (k + 1)) = splitO s (x.take k) ++ (if (s + (k : Int)) % 2 = 0 then [] else [x[k]]) := by
  rw [List.take_succ_eq_append_getElem hk, splitE_snoc, splitO_snoc, List.length_take, Nat.min_eq_left (by omega)]
  exact ⟨rfl, rfl⟩
theorem split_len (s : Int) (x : List Int) : ∀ k, k ≤ x.length → (splitE s (x.take k)).length = cntE s k ∧ (splitO s (x.take k)).length = cntO s k := by
  intro k
  induction k with
  | zero => intro _; simp [splitE, splitO, cntE, cntO]
  | succ k ih =>
    intro hk
    obtain ⟨h1, h2⟩ := ih (by omega)
    obtain ⟨h3, h4⟩ := split_take_next (s := s) (x := x) (k := k) (by omega)
    obtain ⟨c1, c2, _, _⟩ := cnt_next (s := s) (k := k)
    rw [h3, h4, List.length_append, List.length_append, h1, h2, c1, c2]
    split <;> simp
theorem splitE_len (s : Int) (x : List Int) : (splitE s x).length = cntE s x.length := by
  have := (split_len s x x.length (Nat.le_refl _)).1
  rwa [List.take_length] at this
theorem splitO_len (s : Int) (x : List Int) : (splitO s x).length = cntO s x.length := by
  have := (split_len s x x.length (Nat.le_refl _)).2
  rwa [List.take_length] at this
/-- Where a sample stands in its part. -/
theorem split_get {s : Int} {x : List Int} {j : Nat} (hj : j < x.length) :
    ((s + (j : Int)) % 2 = 0 → (splitE s x)[cntE s j]? = some x[j]) ∧ ((s + (j : Int)) % 2 ≠ 0 → (splitO s x)[cntO s j]? = some x[j]) := by
  have key : ∀ k, j < k → k ≤ x.length → ((s + (j : Int)) % 2 = 0 → (splitE s (x.take k))[cntE s j]? = some x[j]) ∧ ((s + (j : Int)) % 2 ≠ 0 → (splitO s (x.take k))[cntO s j]? = some x[j]) := by
    intro k
    induction k with
    | zero => intro h; omega
    | succ k ih =>
      intro h1 h2
      obtain ⟨h3, h4⟩ := split_take_next (s := s) (x := x) (k := k) (by omega)
      obtain ⟨l1, l2⟩ := split_len s x k (by omega)
      by_cases hjk : j = k
      · subst hjk
        refine ⟨fun hp => ?_, fun hp => ?_⟩
        · rw [h3, if_pos hp, List.getElem?_append_right (by omega), l1]; simp
        · rw [h4, if_neg hp, List.getElem?_append_right (by omega), l2]; simp
      · obtain ⟨i1, i2⟩ := ih (by omega) (by omega)
        refine ⟨fun hp => ?_, fun hp => ?_⟩
        · have := i1 hp
          rw [h3, List.getElem?_append_left (List.getElem?_eq_some_iff.1 this).1, this]
        · have := i2 hp
          rw [h4, List.getElem?_append_left (List.getElem?_eq_some_iff.1 this).1, this]
  have := key x.length hj (Nat.le_refl _)
  rwa [List.take_length] at this
/-- The signal of two parts. -/
def joinL (s : Int) (e o : List Int) : List Int :=
  (List.range (e.length + o.length)).map fun j : Nat => if (s + (j : Int)) % 2 = 0 then e.getD (cntE s j) 0 else o.getD (cntO s j) 0
theorem joinL_len (s : Int) (e o : List Int) : (joinL s e o).length = e.length + o.length := by simp [joinL]
theorem join_split (s : Int) (x : List Int) : joinL s (splitE s x) (splitO s x) = x := by
  have hc := (cnt_next (s := s) (k := x.length)).2.2.2
  have hl : (joinL s (splitE s x) (splitO s x)).length = x.length := by rw [joinL_len, splitE_len, splitO_len]; exact hc
  refine List.ext_getElem hl fun j h1 h2 => ?_
  obtain ⟨g1, g2⟩ := split_get (s := s) h2
  simp only [joinL, List.getElem_map, List.getElem_range]
  by_cases hp : (s + (j : Int)) % 2 = 0
  · rw [if_pos hp, List.getD_eq_getElem?_getD, g1 hp]; rfl
  · rw [if_neg hp, List.getD_eq_getElem?_getD, g2 hp]; rfl
/-- Parts of the right numbers come back. -/
theorem cnt_lt {s : Int} {n j : Nat} (hj : j < n) : ((s + (j : Int)) % 2 = 0 → cntE s j < cntE s n) ∧ ((s + (j : Int)) % 2 ≠ 0 → cntO s j < cntO s n) := by
  unfold cntO cntE
  omega
theorem cnt_ex {s : Int} {n k : Nat} : (k < cntE s n → ∃ j : Nat, j < n ∧ (s + (j : Int)) % 2 = 0 ∧ cntE s j = k) ∧ (k < cntO s n → ∃ j : Nat, j < n ∧ (s + (j : Int)) % 2 ≠ 0 ∧ cntO s j = k) := by
  unfold cntO cntE
  by_cases hs : s % 2 = 0
  · exact ⟨fun h => ⟨2 * k, by omega, by omega, by omega⟩, fun h => ⟨2 * k + 1, by omega, by omega, by omega⟩⟩
  · exact ⟨fun h => ⟨2 * k + 1, by omega, by omega, by omega⟩, fun h => ⟨2 * k, by omega, by omega, by omega⟩⟩
theorem split_join {s : Int} {e o : List Int} (he : e.length = cntE s (e.length + o.length)) (ho : o.length = cntO s (e.length + o.length)) : splitE s (joinL s e o) = e ∧ splitO s (joinL s e o) = o := by
  have le := splitE_len s (joinL s e o)
  have lo := splitO_len s (joinL s e o)
  rw [joinL_len] at le lo
  refine ⟨List.ext_getElem (by omega) fun k h1 h2 => ?_, List.ext_getElem (by omega) fun k h1 h2 => ?_⟩
  · obtain ⟨j, hj, hp, hk⟩ := (cnt_ex (s := s) (n := e.length + o.length) (k := k)).1 (by omega)
    have g := (split_get (s := s) (x := joinL s e o) (j := j) (by rw [joinL_len]; exact hj)).1 hp
    rw [hk, List.getElem?_eq_getElem h1] at g
    rw [Option.some.inj g]
    simp only [joinL, List.getElem_map, List.getElem_range]
    rw [if_pos hp, hk]
    simp [h2]
  · obtain ⟨j, hj, hp, hk⟩ := (cnt_ex (s := s) (n := e.length + o.length) (k := k)).2 (by omega)
    have g := (split_get (s := s) (x := joinL s e o) (j := j) (by rw [joinL_len]; exact hj)).2 hp
    rw [hk, List.getElem?_eq_getElem h1] at g
    rw [Option.some.inj g]
    simp only [joinL, List.getElem_map, List.getElem_range]
    rw [if_neg hp, hk]
    simp [h2]
theorem splitE_mem {s : Int} {x : List Int} {v : Int} (h : v ∈ splitE s x) : ∃ j, ∃ hj : j < x.length, (s + (j : Int)) % 2 = 0 ∧ v = x[j] := by
  obtain ⟨k, hk, rfl⟩ := List.getElem_of_mem h
  obtain ⟨j, hj, hp, e⟩ := (cnt_ex (s := s) (n := x.length) (k := k)).1 (by rw [← splitE_len]; exact hk)
  have g := (split_get (s := s) hj).1 hp
  rw [e, List.getElem?_eq_getElem hk] at g
  exact ⟨j, hj, hp, Option.some.inj g⟩
theorem splitO_mem {s : Int} {x : List Int} {v : Int} (h : v ∈ splitO s x) : ∃ j, ∃ hj : j < x.length, (s + (j : Int)) % 2 ≠ 0 ∧ v = x[j] := by
  obtain ⟨k, hk, rfl⟩ := List.getElem_of_mem h
  obtain ⟨j, hj, hp, e⟩ := (cnt_ex (s := s) (n := x.length) (k := k)).2 (by rw [← splitO_len]; exact hk)
  have g := (split_get (s := s) hj).2 hp
  rw [e, List.getElem?_eq_getElem hk] at g
  exact ⟨j, hj, hp, Option.some.inj g⟩
end Go.Proofs.Ytoplgnckdmkaoaa.Ex

namespace Go.Proofs.Ytoplgnckdmkaoaa
open Go.RowKit

/-- A list of the call's own; all memory from before the call is as it was. -/
structure Gl (w : World) (v : Value) (out : List Int) (W : World) : Prop where
  below : Below w.heap.size w W
  own : W.ownsRow w.heap.size 3 1 v out.length (out.map (Value.int .i64))
theorem Gl.step {w W W1 : World} {v : Value} {out : List Int} (h : Gl w v out W) (hb : Below W.heap.size W W1) : Gl w v out W1 := ⟨below_call h.below hb, own_below h.own hb⟩
theorem Gl.start {w W : World} (h : Below w.heap.size w W) : Gl w (.slice none 0 0) [] W := ⟨h, World.ownsRow_nil _ _ _ _⟩
theorem Gl.push {w W W2 : World} {v v' : Value} {out : List Int} {x : Int} (h : Gl w v out W) (X : Obj) (hg : (W.alloc X).grownBy W2 v.ownBlock)
    (hown : W2.ownsRow w.heap.size 3 1 v' (out.length + 1) (out.map (Value.int .i64) ++ [.int .i64 x])) : Gl w v' (out ++ [x]) W2 := by
  refine ⟨(below_alloc h.below X).grown hg (below_alloc h.below X).size (fun k hk => (h.own.lt k hk).1), ?_⟩
  simpa using hown
/-- A slice in memory of the call's own. -/
def Fresh (w : World) (s : Option Addr) : Prop := ∀ a, s = some a → w.heap.size ≤ a.block
theorem fresh_none (w : World) : Fresh w none := fun _ h => by cases h
theorem fresh_some {w : World} {g o : Nat} (h : w.heap.size ≤ g) : Fresh w (some ⟨g, o, none⟩) := fun _ e => by cases e; exact h
theorem fresh_up {w W : World} {n m : Nat} {s : Option Addr} (hb : Below w.heap.size w W) (h : n ≤ m ∧ (s = none → m = 0) ∧ Fresh W s) : n ≤ m ∧ (s = none → m = 0) ∧ Fresh w s := ⟨h.1, h.2.1, fun a e => Nat.le_trans hb.size (h.2.2 a e)⟩
theorem Gl.holds {w W : World} {v : Value} {out : List Int} (h : Gl w v out W) : ∃ s m, v = .slice s out.length m ∧ HoldsI W s out ∧ out.length ≤ m ∧ (s = none → m = 0) ∧ Fresh w s := by
  obtain ⟨_, (⟨rfl, rfl⟩ | ⟨g, m', pad, rfl, hb, hr, hm⟩)⟩ := rowP_own h.own
  · exact ⟨none, 0, rfl, .inl rfl, Nat.le_refl _, fun _ => rfl, fresh_none _⟩
  · exact ⟨some ⟨g, 0, none⟩, m', rfl, hr.holds, hm, fun h => by simp at h, fresh_some hb⟩
theorem own_heap {w w1 : World} {base n : Nat} {e : TypeId} {v : Value} {xs : List Value} (h : w.ownsRow base e 1 v n xs) (hb : ∀ g, v.ownBlock = some g → w1.heap[g]? = w.heap[g]?) : w1.ownsRow base e 1 v n xs := by
  obtain ⟨h1, h2⟩ := h
  refine ⟨h1, ?_⟩
  rcases h2 with h | ⟨g, cap, cur, rfl, h3, h4, h5⟩
  · exact .inl h
  · exact .inr ⟨g, cap, cur, rfl, h3, (hb g rfl).trans h4, h5⟩
/-- Two lists of the call's own, in blocks apart. -/
structure G2 (w : World) (v1 : Value) (o1 : List Int) (v2 : Value) (o2 : List Int) (W : World) : Prop where
  l1 : Gl w v1 o1 W
  l2 : Gl w v2 o2 W
  apart : ∀ g, v1.ownBlock = some g → v2.ownBlock ≠ some g
theorem G2.step {w W W1 : World} {v1 v2 : Value} {o1 o2 : List Int} (h : G2 w v1 o1 v2 o2 W) (hb : Below W.heap.size W W1) : G2 w v1 o1 v2 o2 W1 := ⟨h.l1.step hb, h.l2.step hb, h.apart⟩
theorem G2.swap {w W : World} {v1 v2 : Value} {o1 o2 : List Int} (h : G2 w v1 o1 v2 o2 W) : G2 w v2 o2 v1 o1 W := ⟨h.l2, h.l1, fun g h2 h1 => h.apart g h1 h2⟩
theorem G2.push {w W W2 : World} {v1 v2 v' : Value} {o1 o2 : List Int} {x : Int} (h : G2 w v1 o1 v2 o2 W) (X : Obj) (hg : (W.alloc X).grownBy W2 v1.ownBlock)
    (hown : W2.ownsRow w.heap.size 3 1 v' (o1.length + 1) (o1.map (Value.int .i64) ++ [.int .i64 x])) (hat : v'.ownBlock = v1.ownBlock ∨ v'.ownBlock = some (W.heap.size + 1)) : G2 w v' (o1 ++ [x]) v2 o2 W2 := by
  refine ⟨h.l1.push X hg hown, ⟨(h.l1.push X hg hown).below, own_heap h.l2.own fun g hgg => ?_⟩, fun g h1 h2 => ?_⟩
  · have hlt := (h.l2.own.lt g hgg).2
    rw [hg.block g (by simp; omega) (fun e => h.apart g e.symm hgg)]
    exact ((Below.refl W.heap.size W).alloc (Nat.le_refl _) X).block g hlt
  · have hlt := (h.l2.own.lt g h2).2
    rcases hat with hat | hat
    · exact h.apart g (hat ▸ h1) h2
    · rw [hat] at h1
      have := Option.some.inj h1
      omega
theorem below_drewK {B : Nat} {a w : World} (h : Below B a w) : Below B a w.drew := h.drew
def viB (i : Int) : Bool := decide (-281474976710656 ≤ i ∧ i ≤ 281474976710656)
theorem vi_iff {i : Int} : viB i = true ↔ (-281474976710656 ≤ i ∧ i ≤ 281474976710656) := by simp [viB]
theorem vi_r (i : Int) (w : World) : Calls Try.prog 179 #[.int .i64 i] w fun e w' => e = .returned (.bool (viB i)) ∧ w = w' := by
  go_enter Try.func179, Try.ntmps179
  go_wp2
  all_goals
    go_ret
    exact ⟨ret_bool (by simp [viB]; try omega), rfl⟩
def mirV (i lo hi : Int) : Int := if lo < hi ∧ viB i = true ∧ viB lo = true ∧ viB hi = true then Ex.mirI i lo hi else 0
theorem tmod_is {a p : Int} (hp : 0 < p) : (0 ≤ a.tmod p ∧ a.tmod p = a % p) ∨ (a.tmod p < 0 ∧ a.tmod p + p = a % p) := by
  have h0 := Int.emod_nonneg a (show p ≠ 0 by omega)
  have h1 := Int.emod_lt_of_pos a hp
  rw [Int.tmod_eq_emod]
  split
  · exact .inl ⟨by omega, by omega⟩
  · have : ((p.natAbs : Nat) : Int) = p := by omega
    rw [this]
    exact .inr ⟨by omega, by omega⟩
set_option maxRecDepth 100000 in
set_option maxHeartbeats 1000000 in
theorem mir_r (i lo hi : Int) (w : World) : Calls Try.prog 176 #[.int .i64 i, .int .i64 lo, .int .i64 hi] w fun e w' => e = .returned (.int .i64 (mirV i lo hi)) ∧ w = w' := by
  by_cases h0 : lo < hi
  · have h0' : ¬ hi ≤ lo := by omega
    by_cases hi0 : viB i = true
    · by_cases hl0 : viB lo = true
      · by_cases hh0 : viB hi = true
        · have e : mirV i lo hi = Ex.mirI i lo hi := if_pos ⟨h0, hi0, hl0, hh0⟩
          have b1 := vi_iff.1 hi0
          have b2 := vi_iff.1 hl0
          have b3 := vi_iff.1 hh0
          have w1 : IntKind.i64.wrap (hi - lo) = hi - lo := IntWalk.i64_in _ (by omega)
          by_cases hone : hi - lo = 1
          · go_enter Try.func176, Try.ntmps176
            go_wp2_with (go_at_call 179; refine (vi_r _ _).mono ?_; rintro e wn ⟨rfl, rfl⟩)
            go_ret
            exact ⟨ret_int (by rw [e, Ex.mirI, if_pos hone]), rfl⟩
          · obtain ⟨N, hN⟩ : ∃ N, hi - lo = N := ⟨_, rfl⟩
            obtain ⟨Q, hQ⟩ : ∃ Q, 2 * (N - 1) = Q := ⟨_, rfl⟩
            obtain ⟨D, hD⟩ : ∃ D, i - lo = D := ⟨_, rfl⟩
            have hQ0 : 0 < Q := by omega
            have key : mirV i lo hi = if D % Q < N then lo + D % Q else lo + Q - D % Q := by rw [e, Ex.mirI, if_neg hone, hN, hQ, hD]
            obtain ⟨T, hT⟩ : ∃ T, D.tmod Q = T := ⟨_, rfl⟩
            have q0 := Int.emod_nonneg D (show Q ≠ 0 by omega)
            have q1 := Int.emod_lt_of_pos D hQ0
            have ht := tmod_is (a := D) hQ0
            rw [hT] at ht
            have w2 : IntKind.i64.wrap (N - 1) = N - 1 := IntWalk.i64_in _ (by omega)
            have w3 : IntKind.i64.wrap (2 * (N - 1)) = Q := by rw [IntWalk.i64_in _ (by omega)]; omega
            have w3' : wrap64 (2 * (N - 1)) = Q := by rw [IntWalk.wrap64_in _ ⟨by omega, by omega⟩]; omega
            have w4 : IntKind.i64.wrap (i - lo) = D := by rw [IntWalk.i64_in _ (by omega)]; omega
            have hQn : ¬ Q = 0 := by omega
            have hNn : ¬ N = 1 := by omega
            rw [hN] at w1
            have w1' : IntKind.i64.wrap (hi - lo) = N := by rw [hN]; exact w1
            have hQb : Q ≤ 1125899906842624 := by omega
            have hNb : N ≤ 1125899906842624 := by omega
            clear w1
            generalize D % Q = E at *
            have HK : Hid _ := key
            clear key e hQ hN hD hone b1 h0
            rcases ht with ⟨ht, rfl⟩ | ⟨ht, rfl⟩
            · have t0 : ¬ T < 0 := by omega
              by_cases hlt : T < N
              · have w5 : IntKind.i64.wrap (lo + T) = lo + T := IntWalk.i64_in _ (by omega)
                go_enter Try.func176, Try.ntmps176
                go_wp2_with (go_at_call 179; refine (vi_r _ _).mono ?_; rintro e wn ⟨rfl, rfl⟩)
                go_ret
                exact ⟨ret_int (by rw [HK.out, if_pos hlt]), rfl⟩
              · have w6 : IntKind.i64.wrap (lo + Q) = lo + Q := IntWalk.i64_in _ (by omega)
                have w7 : IntKind.i64.wrap (lo + Q - T) = lo + Q - T := IntWalk.i64_in _ (by omega)
                go_enter Try.func176, Try.ntmps176
                go_wp2_with (go_at_call 179; refine (vi_r _ _).mono ?_; rintro e wn ⟨rfl, rfl⟩)
                go_ret
                exact ⟨ret_int (by rw [HK.out, if_neg (by omega)]), rfl⟩
            · have w8 : IntKind.i64.wrap (T + Q) = T + Q := IntWalk.i64_in _ (by omega)
              by_cases hlt : T + Q < N
              · have w5 : IntKind.i64.wrap (lo + (T + Q)) = lo + (T + Q) := IntWalk.i64_in _ (by omega)
                go_enter Try.func176, Try.ntmps176
                go_wp2_with (go_at_call 179; refine (vi_r _ _).mono ?_; rintro e wn ⟨rfl, rfl⟩)
                go_ret
                exact ⟨ret_int (by rw [HK.out, if_pos hlt]), rfl⟩
              · have w6 : IntKind.i64.wrap (lo + Q) = lo + Q := IntWalk.i64_in _ (by omega)
                have w7 : IntKind.i64.wrap (lo + Q - (T + Q)) = lo + Q - (T + Q) := IntWalk.i64_in _ (by omega)
                go_enter Try.func176, Try.ntmps176
                go_wp2_with (go_at_call 179; refine (vi_r _ _).mono ?_; rintro e wn ⟨rfl, rfl⟩)
                go_ret
                exact ⟨ret_int (by rw [HK.out, if_neg (by omega)]), rfl⟩
        · have hx : viB hi = false := by simpa using hh0
          have e : mirV i lo hi = 0 := if_neg (by rw [hx]; simp)
          go_enter Try.func176, Try.ntmps176
          go_wp2_with (go_at_call 179; refine (vi_r _ _).mono ?_; rintro e wn ⟨rfl, rfl⟩)
          go_ret
          exact ⟨ret_int (by first | rfl | exact e.symm), rfl⟩
      · have hx : viB lo = false := by simpa using hl0
        have e : mirV i lo hi = 0 := if_neg (by rw [hx]; simp)
        go_enter Try.func176, Try.ntmps176
        go_wp2_with (go_at_call 179; refine (vi_r _ _).mono ?_; rintro e wn ⟨rfl, rfl⟩)
        go_ret
        exact ⟨ret_int (by first | rfl | exact e.symm), rfl⟩
    · have hx : viB i = false := by simpa using hi0
      have e : mirV i lo hi = 0 := if_neg (by rw [hx]; simp)
      go_enter Try.func176, Try.ntmps176
      go_wp2_with (go_at_call 179; refine (vi_r _ _).mono ?_; rintro e wn ⟨rfl, rfl⟩)
      go_ret
      exact ⟨ret_int (by first | rfl | exact e.symm), rfl⟩
  · have h0' : hi ≤ lo := by omega
    have e : mirV i lo hi = 0 := if_neg (fun h => h0 h.1)
    go_enter Try.func176, Try.ntmps176
    go_wp2_with (go_at_call 179; refine (vi_r _ _).mono ?_; rintro e wn ⟨rfl, rfl⟩)
    go_ret
    exact ⟨ret_int (by first | rfl | exact e.symm), rfl⟩
def ceI (s n : Int) : Int := if 0 ≤ s ∧ s ≤ 4096 ∧ 0 ≤ n ∧ n ≤ 4096 then (s + n + 1) / 2 - (s + 1) / 2 else 0
def coI (s n : Int) : Int := if 0 ≤ s ∧ s ≤ 4096 ∧ 0 ≤ n ∧ n ≤ 4096 then n - ceI s n else 0
theorem ce_cnt {s : Int} {n : Nat} (h0 : 0 ≤ s) (h1 : s ≤ 4096) (h2 : n ≤ 4096) : ceI s n = (Ex.cntE s n : Nat) ∧ coI s n = (Ex.cntO s n : Nat) := by
  have hh : 0 ≤ s ∧ s ≤ 4096 ∧ 0 ≤ (n : Int) ∧ (n : Int) ≤ 4096 := ⟨h0, h1, by omega, by omega⟩
  rw [coI, if_pos hh, ceI, if_pos hh]
  unfold Ex.cntO Ex.cntE
  omega
set_option maxHeartbeats 1000000 in
theorem cnt_r (s n : Int) (w : World) : Calls Try.prog 161 #[.int .i64 s, .int .i64 n] w fun e w' => e = .returned (.tuple #[.int .i64 (ceI s n), .int .i64 (coI s n)]) ∧ w = w' := by
  by_cases hh : 0 ≤ s ∧ s ≤ 4096 ∧ 0 ≤ n ∧ n ≤ 4096
  · obtain ⟨h1, h2, h3, h4⟩ := hh
    have n1 : ¬ s < 0 := by omega
    have n2 : ¬ 4096 < s := by omega
    have n3 : ¬ n < 0 := by omega
    have n4 : ¬ 4096 < n := by omega
    have w1 : IntKind.i64.wrap (s + n) = s + n := IntWalk.i64_in _ (by omega)
    have w2 : IntKind.i64.wrap (s + n + 1) = s + n + 1 := IntWalk.i64_in _ (by omega)
    have w3 : IntKind.i64.wrap (s + 1) = s + 1 := IntWalk.i64_in _ (by omega)
    have t1 : (s + n + 1).tdiv 2 = (s + n + 1) / 2 := Int.tdiv_eq_ediv_of_nonneg (by omega)
    have t2 : (s + 1).tdiv 2 = (s + 1) / 2 := Int.tdiv_eq_ediv_of_nonneg (by omega)
    have w4 : IntKind.i64.wrap ((s + n + 1) / 2 - (s + 1) / 2) = (s + n + 1) / 2 - (s + 1) / 2 := IntWalk.i64_in _ (by omega)
    have w5 : IntKind.i64.wrap (n - ((s + n + 1) / 2 - (s + 1) / 2)) = n - ((s + n + 1) / 2 - (s + 1) / 2) := IntWalk.i64_in _ (by omega)
    have w6 : IntKind.i64.wrap ((s + n + 1) / 2) = (s + n + 1) / 2 := IntWalk.i64_in _ (by omega)
    have w7 : IntKind.i64.wrap ((s + 1) / 2) = (s + 1) / 2 := IntWalk.i64_in _ (by omega)
    have hc : ceI s n = (s + n + 1) / 2 - (s + 1) / 2 := if_pos ⟨h1, h2, h3, h4⟩
    have ho : coI s n = n - ((s + n + 1) / 2 - (s + 1) / 2) := by rw [coI, if_pos ⟨h1, h2, h3, h4⟩, hc]
    rw [hc, ho]
    clear hc ho
    go_enter Try.func161, Try.ntmps161
    go_wp2
    go_ret2
    exact ⟨rfl, rfl⟩
  · have hc : ceI s n = 0 := if_neg hh
    have ho : coI s n = 0 := if_neg hh
    rw [hc, ho]
    clear hc ho
    by_cases h1 : s < 0
    · go_enter Try.func161, Try.ntmps161
      go_wp2
      go_ret2
      exact ⟨rfl, rfl⟩
    · by_cases h2 : 4096 < s
      · go_enter Try.func161, Try.ntmps161
        go_wp2
        go_ret2
        exact ⟨rfl, rfl⟩
      · by_cases h3 : n < 0
        · go_enter Try.func161, Try.ntmps161
          go_wp2
          go_ret2
          exact ⟨rfl, rfl⟩
        · have h4 : 4096 < n := by omega
          go_enter Try.func161, Try.ntmps161
          go_wp2
          go_ret2
          exact ⟨rfl, rfl⟩
def GivesSplit (E O : List Int) (err : Int) (w : World) (e : Ending) (w' : World) : Prop :=
  ∃ s1 m1 s2 m2, e = .returned (.tuple #[.slice s1 E.length m1, .slice s2 O.length m2, .int .i64 err]) ∧ HoldsI w' s1 E ∧ HoldsI w' s2 O ∧ Below w.heap.size w w' ∧ (E.length ≤ m1 ∧ (s1 = none → m1 = 0) ∧ Fresh w s1) ∧ (O.length ≤ m2 ∧ (s2 = none → m2 = 0) ∧ Fresh w s2)
def spB (st : Int) (n : Nat) : Bool := decide (0 ≤ st ∧ st ≤ 4096 ∧ n ≤ 4096)
theorem sp_iff {st : Int} {n : Nat} : spB st n = true ↔ (0 ≤ st ∧ st ≤ 4096 ∧ n ≤ 4096) := by simp [spB]
set_option maxHeartbeats 1000000 in
theorem split_no (l : List Int) (st : Int) (s : Option Addr) (m : Nat) (w : World) (hh : spB st l.length = false) : Calls Try.prog 166 #[.slice s l.length m, .int .i64 st] w (GivesSplit [] [] 2 w) := by
  have hh' : ¬ (0 ≤ st ∧ st ≤ 4096 ∧ l.length ≤ 4096) := fun h => by rw [sp_iff.2 h] at hh; exact absurd hh (by decide)
  by_cases h1 : st < 0
  · go_enter Try.func166, Try.ntmps166
    go_wp2
    go_ret3
    exact ⟨none, 0, none, 0, rfl, .inl rfl, .inl rfl, Below.refl _ _, ⟨Nat.le_refl _, fun _ => rfl, fresh_none _⟩, ⟨Nat.le_refl _, fun _ => rfl, fresh_none _⟩⟩
  · by_cases h2 : 4096 < st
    · go_enter Try.func166, Try.ntmps166
      go_wp2
      go_ret3
      exact ⟨none, 0, none, 0, rfl, .inl rfl, .inl rfl, Below.refl _ _, ⟨Nat.le_refl _, fun _ => rfl, fresh_none _⟩, ⟨Nat.le_refl _, fun _ => rfl, fresh_none _⟩⟩
    · have h3 : (4096 : Int) < (l.length : Int) := by omega
      go_enter Try.func166, Try.ntmps166
      go_wp2
      go_ret3
      exact ⟨none, 0, none, 0, rfl, .inl rfl, .inl rfl, Below.refl _ _, ⟨Nat.le_refl _, fun _ => rfl, fresh_none _⟩, ⟨Nat.le_refl _, fun _ => rfl, fresh_none _⟩⟩
set_option maxRecDepth 100000 in
set_option maxHeartbeats 1000000 in
theorem split_yes (l : List Int) (st : Int) (s : Option Addr) (m : Nat) (w : World) (hh : spB st l.length = true) (hH : HoldsI w s l) : Calls Try.prog 166 #[.slice s l.length m, .int .i64 st] w (GivesSplit (Ex.splitE st l) (Ex.splitO st l) 0 w) := by
  obtain ⟨h1, h2, h3⟩ := sp_iff.1 hh
  obtain ⟨i0, hi, hz0, hz1, hz2⟩ := info_parts infoI
  have n1 : ¬ st < 0 := by omega
  have n2 : ¬ 4096 < st := by omega
  have n3 : ¬ (4096 : Int) < (l.length : Int) := by omega
  go_enter Try.func166, Try.ntmps166
  go_wp2_with fail
  clear n1 n2 n3
  go_loopw [4, 5, 22] (fun v1 v2 i wr => ∃ (k : Nat) (o1 o2 : List Int) (x1 x2 : Value), k ≤ l.length ∧ i = .int .i64 k ∧ o1 = Ex.splitE st (l.take k) ∧ o2 = Ex.splitO st (l.take k) ∧ x1 = v1 ∧ x2 = v2 ∧ G2 w x1 o1 x2 o2 wr) (fun _ _ i _ => l.length - (intOf i).toNat)
  case atStart => exact ⟨0, [], [], _, _, Nat.zero_le _, rfl, rfl, rfl, rfl, rfl, ⟨Gl.start (Below.refl _ _), Gl.start (Below.refl _ _), fun g h => by simp [Value.ownBlock] at h⟩⟩
  case round =>
    obtain ⟨k, o1, o2, x1, x2, hk, rfl, hO1, hO2, rfl, rfl, hG⟩ := hrel
    by_cases hlt : k < l.length
    · rcases hH with rfl | ⟨bb, off, rfl, hr⟩
      · simp at hlt
      have y0 : wr.cell? ⟨bb, off + k, none⟩ = some (.int .i64 l[k]) := (hG.l1.below.cell (p := ⟨bb, _, none⟩) (cell_lt (hr k hlt))).trans (hr k hlt)
      have hki : (k : Int) < (l.length : Int) := by omega
      have w1 : IntKind.i64.wrap (st + (k : Int)) = st + (k : Int) := IntWalk.i64_in _ (by omega)
      have w2 : IntKind.i64.wrap ((k : Int) + 1) = (k : Int) + 1 := IntWalk.i64_in _ (by omega)
      obtain ⟨c1, c2⟩ := Ex.split_len st l k hk
      obtain ⟨d1, d2, d3, d4⟩ := Ex.cnt_next (s := st) (k := k)
      have l1 : o1.length ≤ 4096 := by rw [hO1, c1]; omega
      have l2 : o2.length ≤ 4096 := by rw [hO2, c2]; omega
      have hN := Ex.split_take_next (s := st) (x := l) (k := k) hlt
      clear c1 c2 d1 d2 d3 d4
      by_cases hp : (st + (k : Int)) % 2 = 0
      · have t1 : (st + (k : Int)).tmod 2 = 0 := by rw [Int.tmod_eq_emod_of_nonneg (by omega)]; exact hp
        rw [if_pos hp, if_pos hp, ← hO1, ← hO2, List.append_nil] at hN
        have HN : Hid (_ ∧ _) := ⟨hN.1.symm, hN.2.symm⟩
        clear hN hp hO1 hO2
        go_wp2_with (first | (at_builtin; refine wpList_append_own_at _ rfl _ _ 24 rfl w.heap.size 3 i0 (.int .i64 0) 1 8 Try.underlying24 hi hz0 hz1 hz2 rfl (by decide) _ _ _ rfl (own_below hG.l1.own ((Below.refl _ _).alloc (Nat.le_refl _) _)) ⟨wr.heap.size, 0, none⟩ 1 1 [.int .i64 (l[k])] rfl rfl (one_new wr _ _) (oneOne _) (by unfold maxLen; omega) (by omega) (by have := hG.l1.below.size; simp; omega) ?_))
        intro v' wz hown hgrow _ hat
        obtain ⟨sv, mv, rfl⟩ := own_slice hown
        have GZ := hG.push _ hgrow hown hat
        have HG : Hid _ := GZ
        clear hown hgrow hat hG GZ
        go_wp2
        go_roundw
        case rel => exact ⟨k + 1, _, _, _, _, by omega, by go_num, HN.out.1, HN.out.2, rfl, rfl, HG.out⟩
        case measure => simp [intOf]; omega
      · have t1 : (st + (k : Int)).tmod 2 = 1 := by rw [Int.tmod_eq_emod_of_nonneg (by omega)]; omega
        rw [if_neg hp, if_neg hp, ← hO1, ← hO2, List.append_nil] at hN
        have HN : Hid (_ ∧ _) := ⟨hN.1.symm, hN.2.symm⟩
        clear hN hp hO1 hO2
        go_wp2_with (first | (at_builtin; refine wpList_append_own_at _ rfl _ _ 24 rfl w.heap.size 3 i0 (.int .i64 0) 1 8 Try.underlying24 hi hz0 hz1 hz2 rfl (by decide) _ _ _ rfl (own_below hG.l2.own ((Below.refl _ _).alloc (Nat.le_refl _) _)) ⟨wr.heap.size, 0, none⟩ 1 1 [.int .i64 (l[k])] rfl rfl (one_new wr _ _) (oneOne _) (by unfold maxLen; omega) (by omega) (by have := hG.l2.below.size; simp; omega) ?_))
        intro v' wz hown hgrow _ hat
        obtain ⟨sv, mv, rfl⟩ := own_slice hown
        have GZ := (hG.swap.push _ hgrow hown hat).swap
        have HG : Hid _ := GZ
        clear hown hgrow hat hG GZ
        go_wp2
        go_roundw
        case rel => exact ⟨k + 1, _, _, _, _, by omega, by go_num, HN.out.1, HN.out.2, rfl, rfl, HG.out⟩
        case measure => simp [intOf]; omega
    · obtain rfl : k = l.length := by omega
      rw [List.take_length] at hO1 hO2
      obtain ⟨s1, m1, rfl, a1, b1⟩ := hG.l1.holds
      obtain ⟨s2, m2, rfl, a2, b2⟩ := hG.l2.holds
      subst hO1 hO2
      have HB : Hid _ := hG.l1.below
      have HA : Hid _ := a1
      have HA2 : Hid _ := a2
      clear hG a1 a2
      go_wp2
      go_ret3
      exact ⟨s1, m1, s2, m2, rfl, HA.out, HA2.out, HB.out, b1, b2⟩
def GivesE (L : List Int) (err : Int) (w : World) (e : Ending) (w' : World) : Prop :=
  ∃ s m, e = .returned (.tuple #[.slice s L.length m, .int .i64 err]) ∧ HoldsI w' s L ∧ Below w.heap.size w w' ∧ L.length ≤ m ∧ (s = none → m = 0) ∧ Fresh w s
def jnB (st : Int) (a b : Nat) : Bool := decide (0 ≤ st ∧ st ≤ 4096 ∧ a + b ≤ 4096)
theorem jn_iff {st : Int} {a b : Nat} : jnB st a b = true ↔ (0 ≤ st ∧ st ≤ 4096 ∧ a + b ≤ 4096) := by simp [jnB]
def jcB (st : Int) (a b : Nat) : Bool := decide (Ex.cntE st (a + b) = a ∧ Ex.cntO st (a + b) = b)
set_option maxHeartbeats 1000000 in
theorem join_no1 (e o : List Int) (st : Int) (s t : Option Addr) (m m' : Nat) (w : World) (hh : jnB st e.length o.length = false) (he : e.length ≤ 4611686018427387904) (ho : o.length ≤ 4611686018427387904) : Calls Try.prog 134 #[.slice s e.length m, .slice t o.length m', .int .i64 st] w (GivesE [] 2 w) := by
  have hh' : ¬ (0 ≤ st ∧ st ≤ 4096 ∧ e.length + o.length ≤ 4096) := fun h => by rw [jn_iff.2 h] at hh; exact absurd hh (by decide)
  by_cases h1 : st < 0
  · go_enter Try.func134, Try.ntmps134
    go_wp2
    go_ret2
    exact ⟨none, 0, rfl, .inl rfl, Below.refl _ _, ⟨Nat.le_refl _, fun _ => rfl, fresh_none _⟩⟩
  · by_cases h2 : 4096 < st
    · go_enter Try.func134, Try.ntmps134
      go_wp2
      go_ret2
      exact ⟨none, 0, rfl, .inl rfl, Below.refl _ _, ⟨Nat.le_refl _, fun _ => rfl, fresh_none _⟩⟩
    · by_cases h3 : (4096 : Int) < (e.length : Int)
      · go_enter Try.func134, Try.ntmps134
        go_wp2
        go_ret2
        exact ⟨none, 0, rfl, .inl rfl, Below.refl _ _, ⟨Nat.le_refl _, fun _ => rfl, fresh_none _⟩⟩
      · by_cases h4 : (4096 : Int) < (o.length : Int)
        · go_enter Try.func134, Try.ntmps134
          go_wp2
          go_ret2
          exact ⟨none, 0, rfl, .inl rfl, Below.refl _ _, ⟨Nat.le_refl _, fun _ => rfl, fresh_none _⟩⟩
        · have w1 : IntKind.i64.wrap ((e.length : Int) + (o.length : Int)) = (e.length : Int) + (o.length : Int) := IntWalk.i64_in _ (by omega)
          have h5 : (4096 : Int) < (e.length : Int) + (o.length : Int) := by omega
          go_enter Try.func134, Try.ntmps134
          go_wp2
          go_ret2
          exact ⟨none, 0, rfl, .inl rfl, Below.refl _ _, ⟨Nat.le_refl _, fun _ => rfl, fresh_none _⟩⟩
set_option maxHeartbeats 1000000 in
theorem join_no2 (e o : List Int) (st : Int) (s t : Option Addr) (m m' : Nat) (w : World) (hh : jnB st e.length o.length = true) (hc : jcB st e.length o.length = false) : Calls Try.prog 134 #[.slice s e.length m, .slice t o.length m', .int .i64 st] w (GivesE [] 4 w) := by
  obtain ⟨h1, h2, h3⟩ := jn_iff.1 hh
  have n1 : ¬ st < 0 := by omega
  have n2 : ¬ 4096 < st := by omega
  have n3 : ¬ (4096 : Int) < (e.length : Int) := by omega
  have n4 : ¬ (4096 : Int) < (o.length : Int) := by omega
  have w1 : IntKind.i64.wrap ((e.length : Int) + (o.length : Int)) = (e.length : Int) + (o.length : Int) := IntWalk.i64_in _ (by omega)
  have n5 : ¬ (4096 : Int) < (e.length : Int) + (o.length : Int) := by omega
  obtain ⟨ca, cb⟩ := ce_cnt (s := st) (n := e.length + o.length) h1 h2 h3
  rw [Int.natCast_add] at ca cb
  obtain ⟨A0, hA⟩ : ∃ A0, Ex.cntE st (e.length + o.length) = A0 := ⟨_, rfl⟩
  obtain ⟨B0, hB⟩ : ∃ B0, Ex.cntO st (e.length + o.length) = B0 := ⟨_, rfl⟩
  rw [hA] at ca
  rw [hB] at cb
  have hc' : ¬ (A0 = e.length ∧ B0 = o.length) := fun h => by rw [jcB, hA, hB, decide_eq_false_iff_not] at hc; exact hc h
  clear hc hA hB
  by_cases hA : A0 = e.length
  · have hB : ¬ B0 = o.length := fun h => hc' ⟨hA, h⟩
    have a1 : ((A0 : Int) == (e.length : Int)) = true := by simp [hA]
    have a2 : ((A0 : Int) != (e.length : Int)) = false := by simp [hA]
    have a3 : decide ((A0 : Int) = (e.length : Int)) = true := by simp [hA]
    have b1 : ((B0 : Int) == (o.length : Int)) = false := by rw [beq_eq_false_iff_ne]; omega
    have b2 : ((B0 : Int) != (o.length : Int)) = true := by simp; omega
    have b3 : decide ((B0 : Int) = (o.length : Int)) = false := by simp; omega
    clear hA hB hc'
    go_enter Try.func134, Try.ntmps134
    go_wp2_with (go_at_call 161; refine (cnt_r _ _ _).mono ?_; rintro e wn ⟨rfl, rfl⟩)
    go_ret2
    exact ⟨none, 0, rfl, .inl rfl, Below.refl _ _, ⟨Nat.le_refl _, fun _ => rfl, fresh_none _⟩⟩
  · have a1 : ((A0 : Int) == (e.length : Int)) = false := by rw [beq_eq_false_iff_ne]; omega
    have a2 : ((A0 : Int) != (e.length : Int)) = true := by simp; omega
    have a3 : decide ((A0 : Int) = (e.length : Int)) = false := by simp; omega
    clear hA hc'
    go_enter Try.func134, Try.ntmps134
    go_wp2_with (go_at_call 161; refine (cnt_r _ _ _).mono ?_; rintro e wn ⟨rfl, rfl⟩)
    go_ret2
    exact ⟨none, 0, rfl, .inl rfl, Below.refl _ _, ⟨Nat.le_refl _, fun _ => rfl, fresh_none _⟩⟩
theorem join_at {st : Int} {e o : List Int} {k : Nat} (hk : k < (Ex.joinL st e o).length) : (Ex.joinL st e o)[k] = if (st + (k : Int)) % 2 = 0 then e.getD (Ex.cntE st k) 0 else o.getD (Ex.cntO st k) 0 := by simp [Ex.joinL]
def GivesOwn (L : List Int) (err : Int) (w : World) (e : Ending) (w' : World) : Prop := ∃ v, e = .returned (.tuple #[v, .int .i64 err]) ∧ Gl w v L w'
theorem GivesOwn.gives {L : List Int} {err : Int} {w w' : World} {e : Ending} (h : GivesOwn L err w e w') : GivesE L err w e w' := by
  obtain ⟨v, rfl, G⟩ := h
  obtain ⟨s, m, rfl, h1, h2⟩ := G.holds
  exact ⟨s, m, rfl, h1, G.below, h2⟩
set_option maxRecDepth 100000 in
set_option maxHeartbeats 1000000 in
theorem join_own (e o : List Int) (st : Int) (s t : Option Addr) (m m' : Nat) (w : World) (hh : jnB st e.length o.length = true) (hc : jcB st e.length o.length = true) (hE : HoldsI w s e) (hO : HoldsI w t o) : Calls Try.prog 134 #[.slice s e.length m, .slice t o.length m', .int .i64 st] w (GivesOwn (Ex.joinL st e o) 0 w) := by
  obtain ⟨h1, h2, h3⟩ := jn_iff.1 hh
  obtain ⟨i0, hi, hz0, hz1, hz2⟩ := info_parts infoI
  have n1 : ¬ st < 0 := by omega
  have n2 : ¬ 4096 < st := by omega
  have n3 : ¬ (4096 : Int) < (e.length : Int) := by omega
  have n4 : ¬ (4096 : Int) < (o.length : Int) := by omega
  obtain ⟨ca, cb⟩ := ce_cnt (s := st) (n := e.length + o.length) h1 h2 h3
  have hcc : Ex.cntE st (e.length + o.length) = e.length ∧ Ex.cntO st (e.length + o.length) = o.length := by simpa [jcB] using hc
  rw [hcc.1] at ca
  rw [hcc.2] at cb
  obtain ⟨n, hn⟩ : ∃ n, e.length + o.length = n := ⟨_, rfl⟩
  have w1 : IntKind.i64.wrap ((e.length : Int) + (o.length : Int)) = (n : Int) := by rw [IntWalk.i64_in _ (by omega)]; omega
  have n5 : ¬ (4096 : Int) < (n : Int) := by omega
  rw [hn] at ca cb
  have HL : Hid ((Ex.joinL st e o).length = n) := by rw [Ex.joinL_len]; exact hn
  have HC : Hid (Ex.cntE st n = e.length ∧ Ex.cntO st n = o.length) := hn ▸ hcc
  have hn4 : n ≤ 4096 := by omega
  have HN : Hid _ := hn
  clear hcc hn hc
  go_enter Try.func134, Try.ntmps134
  go_wp2_with (go_at_call 161; refine (cnt_r _ _ _).mono ?_; rintro e wn ⟨rfl, rfl⟩)
  clear n1 n2 n3 n4 n5 ca cb
  go_loopw [11, 12, 13, 14] (fun v i j kk wr => ∃ (k : Nat) (out : List Int) (x : Value), k ≤ n ∧ i = .int .i64 (Ex.cntE st k : Nat) ∧ j = .int .i64 (Ex.cntO st k : Nat) ∧ kk = .int .i64 k ∧ out = (Ex.joinL st e o).take k ∧ x = v ∧ Gl w x out wr) (fun _ _ _ kk _ => n - (intOf kk).toNat)
  case atStart => exact ⟨0, [], _, Nat.zero_le _, by simp [Ex.cntE], by simp [Ex.cntO], rfl, rfl, rfl, Gl.start (Below.refl _ _)⟩
  case round =>
    obtain ⟨k, out, x, hk, rfl, rfl, rfl, hO2, rfl, hG⟩ := hrel
    by_cases hlt : k < n
    · have hki : (k : Int) < (n : Int) := by omega
      have w2 : IntKind.i64.wrap (st + (k : Int)) = st + (k : Int) := IntWalk.i64_in _ (by omega)
      have w3 : IntKind.i64.wrap ((k : Int) + 1) = (k : Int) + 1 := IntWalk.i64_in _ (by omega)
      have hkL : k < (Ex.joinL st e o).length := by rw [HL.out]; exact hlt
      have hN := List.take_succ_eq_append_getElem hkL
      rw [join_at hkL, ← hO2] at hN
      have hl : out.length ≤ 4096 := by rw [hO2, List.length_take]; omega
      obtain ⟨d1, d2, d3, d4⟩ := Ex.cnt_next (s := st) (k := k)
      obtain ⟨f1, f2⟩ := Ex.cnt_lt (s := st) (n := n) (j := k) hlt
      rw [HC.out.1] at f1
      rw [HC.out.2] at f2
      by_cases hp : (st + (k : Int)) % 2 = 0
      · have t1 : (st + (k : Int)).tmod 2 = 0 := by rw [Int.tmod_eq_emod_of_nonneg (by omega)]; exact hp
        rw [if_pos hp] at hN d1 d2
        have f3 := f1 hp
        have D1 : Hid _ := d1
        have D2 : Hid _ := d2
        clear f1 f2 hp hO2 d1 d2
        generalize Ex.cntE st k = cc at *
        generalize Ex.cntO st k = dd at *
        rw [List.getD_eq_getElem?_getD, List.getElem?_eq_getElem f3, Option.getD_some] at hN
        have HNx : Hid _ := hN
        clear hN
        have w4 : IntKind.i64.wrap ((cc : Int) + 1) = (cc : Int) + 1 := IntWalk.i64_in _ (by omega)
        rcases hE with rfl | ⟨bb, off, rfl, hr⟩
        · simp at f3
        have y0 : wr.cell? ⟨bb, off + cc, none⟩ = some (.int .i64 e[cc]) := (hG.below.cell (p := ⟨bb, _, none⟩) (cell_lt (hr cc f3))).trans (hr cc f3)
        have hci : (cc : Int) < (e.length : Int) := by omega
        go_wp2_with (first | (at_builtin; refine wpList_append_own _ rfl _ _ 24 rfl w.heap.size 3 i0 (.int .i64 0) 1 8 Try.underlying24 hi hz0 hz1 hz2 rfl (by decide) _ _ _ rfl (own_below hG.own ((Below.refl _ _).alloc (Nat.le_refl _) _)) ⟨wr.heap.size, 0, none⟩ 1 1 [.int .i64 (e[cc])] rfl rfl (one_new wr _ _) (oneOne _) (by unfold maxLen; omega) (by omega) (by have := hG.below.size; simp; omega) ?_))
        intro v' wz hown hgrow _
        obtain ⟨sv, mv, rfl⟩ := own_slice hown
        have HG : Hid _ := hG.push _ hgrow hown
        clear hown hgrow hG
        go_wp2
        go_roundw
        case rel => exact ⟨k + 1, _, _, by omega, by rw [D1.out]; go_num, by rw [D2.out]; go_num, by go_num, HNx.out.symm, rfl, HG.out⟩
        case measure => simp [intOf]; omega
      · have t1 : (st + (k : Int)).tmod 2 = 1 := by rw [Int.tmod_eq_emod_of_nonneg (by omega)]; omega
        rw [if_neg hp] at hN d1 d2
        have f3 := f2 hp
        have D1 : Hid _ := d1
        have D2 : Hid _ := d2
        clear f1 f2 hp hO2 d1 d2
        generalize Ex.cntE st k = cc at *
        generalize Ex.cntO st k = dd at *
        rw [List.getD_eq_getElem?_getD, List.getElem?_eq_getElem f3, Option.getD_some] at hN
        have HNx : Hid _ := hN
        clear hN
        have w4 : IntKind.i64.wrap ((dd : Int) + 1) = (dd : Int) + 1 := IntWalk.i64_in _ (by omega)
        rcases hO with rfl | ⟨bb, off, rfl, hr⟩
        · simp at f3
        have y0 : wr.cell? ⟨bb, off + dd, none⟩ = some (.int .i64 o[dd]) := (hG.below.cell (p := ⟨bb, _, none⟩) (cell_lt (hr dd f3))).trans (hr dd f3)
        have hci : (dd : Int) < (o.length : Int) := by omega
        go_wp2_with (first | (at_builtin; refine wpList_append_own _ rfl _ _ 24 rfl w.heap.size 3 i0 (.int .i64 0) 1 8 Try.underlying24 hi hz0 hz1 hz2 rfl (by decide) _ _ _ rfl (own_below hG.own ((Below.refl _ _).alloc (Nat.le_refl _) _)) ⟨wr.heap.size, 0, none⟩ 1 1 [.int .i64 (o[dd])] rfl rfl (one_new wr _ _) (oneOne _) (by unfold maxLen; omega) (by omega) (by have := hG.below.size; simp; omega) ?_))
        intro v' wz hown hgrow _
        obtain ⟨sv, mv, rfl⟩ := own_slice hown
        have HG : Hid _ := hG.push _ hgrow hown
        clear hown hgrow hG
        go_wp2
        go_roundw
        case rel => exact ⟨k + 1, _, _, by omega, by rw [D1.out]; go_num, by rw [D2.out]; go_num, by go_num, HNx.out.symm, rfl, HG.out⟩
        case measure => simp [intOf]; omega
    · obtain rfl : k = n := by omega
      rw [← HL.out, List.take_length] at hO2
      obtain ⟨sv, mv, rfl⟩ := own_slice hG.own
      subst hO2
      have HG : Hid _ := hG
      clear hG
      go_wp2
      go_ret2
      exact ⟨_, rfl, HG.out⟩
theorem join_yes (e o : List Int) (st : Int) (s t : Option Addr) (m m' : Nat) (w : World) (hh : jnB st e.length o.length = true) (hc : jcB st e.length o.length = true) (hE : HoldsI w s e) (hO : HoldsI w t o) : Calls Try.prog 134 #[.slice s e.length m, .slice t o.length m', .int .i64 st] w (GivesE (Ex.joinL st e o) 0 w) :=
  (join_own e o st s t m m' w hh hc hE hO).mono fun _ _ h => h.gives
def atB (st i : Int) (n : Nat) : Bool := decide (n ≠ 0 ∧ viB i = true ∧ viB st = true ∧ viB (st + n) = true)
end Go.Proofs.Ytoplgnckdmkaoaa
