/-
  Layer 21: the sort at steps; contract of sorted.
-/
import Derived.Test.YtkohdiajpdlkjaaAs
set_option maxRecDepth 100000
namespace Go.Proofs.Ytkohdiajpdlkjaa
open Go.RowKit Go.Shelf Go.Sort Go.Proofs

abbrev OS := {s : Stp // okS s}
instance : Inhabited OS := ⟨⟨⟨0, 0, 1, 0⟩, by unfold okS okD okR; decide⟩⟩
def encO (x : OS) : List Value := encA x.1
def cfO (x y : OS) : Int := cmpS x.1 y.1
theorem cmpS_lt {s t : Stp} (hs : okS s) (ht : okS t) : cmpS s t < 0 ↔ ltS s t := by
  have h := steep_y (a := t.d) (x := t.r) (b := s.d) (y := s.r) ⟨ht.2.1, ht.2.2.1, hs.2.1, hs.2.2.1⟩
  unfold nr at h
  have h1 := hs.1
  have h2 := ht.1
  rw [if_neg (show ¬ s.d = 0 by omega), if_neg (show ¬ t.d = 0 by omega)] at h
  unfold cmpS or2 ltS
  rw [h]
  rcases cmpI_cases (t.d * s.r) (s.d * t.r) with ⟨a, b⟩ | ⟨a, b⟩ | ⟨a, b⟩ <;> rw [b]
  · rw [if_neg (by decide)]
    constructor
    · intro _; exact .inl a
    · intro _; decide
  · rw [if_pos rfl]
    constructor
    · intro q; exact .inr ⟨a, by omega⟩
    · rintro (q | ⟨_, q⟩)
      · omega
      · omega
  · rw [if_neg (by decide)]
    constructor
    · intro q; exact absurd q (by decide)
    · rintro (q | ⟨q, _⟩)
      · omega
      · omega
theorem ltO_iff (x y : OS) : ltOf cfO x y = true ↔ ltS x.1 y.1 := by unfold ltOf cfO; rw [decide_eq_true_iff]; exact cmpS_lt x.2 y.2
theorem ltO_not (x y : OS) : ltOf cfO x y = false ↔ ¬ ltS x.1 y.1 := by rw [← Bool.not_eq_true, ltO_iff]
theorem swoO : SWO (ltOf cfO) where
  irrefl _ := (ltO_not _ _).2 (ltS_irrefl _)
  trans x y z h1 h2 := (ltO_iff _ _).2 (ltS_trans x.2 y.2 z.2 ((ltO_iff _ _).1 h1) ((ltO_iff _ _).1 h2))
  ntrans x y z h1 h2 := (ltO_not _ _).2 (not_ltS_trans x.2 y.2 z.2 ((ltO_not _ _).1 h1) ((ltO_not _ _).1 h2))
theorem cmpLaysO (blk off size : Nat) (w : World) : CmpLays Try.prog 29 #[] encO 4 cfO blk off size w := by
  intro m os dk _ x y
  refine (cmp_c x.1 y.1 x.2.2.2.2 y.2.2.2.2 _).mono ?_
  rintro e w' ⟨rfl, rfl⟩
  refine ⟨rfl, 1, (#[.cells (stv x.1) 55] ++ #[.cells (stv y.1) 55]) ++ #[.cells #[.int .i64 (steep y.1.d y.1.r x.1.d x.1.r), .int .i64 ((x.1.c : Int) - (y.1.c : Int))] 3], ?_⟩
  rw [alloc_eq_grow, alloc_eq_grow, alloc_eq_grow, grow_grow, grow_grow, drew_grow]
  rfl
theorem encO_len (x : OS) : (encO x).length = 4 := rfl
theorem encO_one (x : OS) : ∀ v ∈ encO x, v.oneCell' = true := by
  intro v hv
  unfold encO encA at hv
  simp at hv
  rcases hv with rfl | rfl | rfl | rfl <;> rfl
theorem flatO (D : List OS) : (flatK encO 4 D.toArray).toList = flatE encA (D.map (·.1)) := by
  apply List.ext_getElem?
  intro t
  by_cases ht : t < D.length * 4
  · have h1 : (flatK encO 4 D.toArray)[t]! = (encO D.toArray[t / 4]!)[t % 4]! := get_flatK _ _ _ _ (by simpa using ht)
    have hq : t / 4 < D.length := by omega
    have h2 := flatE_at (enc := encA) (D.map (·.1)) (t / 4) (t % 4) (by simpa using hq) (Nat.mod_lt _ (by decide))
    rw [show t / 4 * 4 + t % 4 = t by omega] at h2
    rw [h2, Array.getElem?_toList, Array.getElem?_eq_getElem (by rw [size_flatK]; simpa using ht)]
    rw [getElem!_pos _ t (by rw [size_flatK]; simpa using ht)] at h1
    rw [h1]
    have e : (D.map (·.1)).getD (t / 4) default = D.toArray[t / 4]!.1 := by
      rw [List.getD_eq_getElem?_getD, List.getElem?_map, List.getElem?_eq_getElem hq, getElem!_pos D.toArray (t / 4) (by simpa using hq)]
      rfl
    rw [e]
    have hl : t % 4 < (encO D.toArray[t / 4]!).length := by rw [encO_len]; exact Nat.mod_lt _ (by decide)
    rw [getElem!_pos (encO D.toArray[t / 4]!) (t % 4) hl]
    exact (List.getElem?_eq_getElem hl).symm
  · rw [List.getElem?_eq_none (by simp; omega), List.getElem?_eq_none (by rw [flatE_len]; simp; omega)]
theorem heap_sortedO {w : World} {g n : Nat} {os : Array Obj} {cur : Array Value} {e : TypeId} {fr : Nat × Nat} (F : Array Value) (hb : w.heap[g]? = some (.cells cur e fr)) :
    (grow (putRow id (Sort.ahead w n) g 0 F) os).heap[g]? = some (.cells (putCells id 0 F cur) e fr) := by
  have hg : g < w.heap.size := (Array.getElem?_eq_some_iff.1 hb).1
  rw [heap_grow_old _ _ (by simpa using hg)]
  simp [putRow, mapBlock, Sort.ahead, Array.getElem?_modify, hb, onCells]
theorem grownBy_sortedO {w : World} {g n : Nat} {os : Array Obj} (F : Array Value) : w.grownBy (grow (putRow id (Sort.ahead w n) g 0 F) os) (some g) := by
  refine ⟨rfl, rfl, rfl, by simp, fun k hk hne => ?_⟩
  rw [heap_grow_old _ _ (by simpa using hk)]
  have : g ≠ k := fun e => hne (by rw [e])
  simp [putRow, mapBlock, Sort.ahead, Array.getElem?_modify, this]
theorem take_putCellsO (cur : Array Value) (F : Array Value) (h : F.size ≤ cur.size) : (putCells id 0 F cur).toList.take F.size = F.toList := by
  apply List.ext_getElem?
  intro j
  by_cases hj : j < F.size
  · rw [List.getElem?_take_of_lt hj, Array.getElem?_toList]
    simp [putCells, hj, show j < cur.size by omega]
  · rw [List.getElem?_take_eq_none (by omega), List.getElem?_eq_none (by simp; omega)]
theorem holdsO {w : World} {g : Nat} {cur : Array Value} {e : TypeId} (F : Array Value) (hb : w.heap[g]? = some (.cells cur e (0, 0))) (ht : cur.toList.take F.size = F.toList) : Holds id w g 0 F := by
  intro j hj
  refine ⟨?_, by simp [World.frozen?, hb]⟩
  have h1 : (cur.toList.take F.size)[j]? = F.toList[j]? := by rw [ht]
  rw [List.getElem?_take_of_lt hj] at h1
  simp only [World.cell?, hb, Nat.zero_add]
  simp only [Option.isSome_none, Bool.false_eq_true, if_false]
  rw [← Array.getElem?_toList, h1]
  simp [hj]
theorem bitsLen0_c (W : World) : Calls Try.prog 45 #[.int .u64 0] W fun e w' => e = .returned (.int .i64 0) ∧ w' = W := by
  have h := Any.bits_Len (SlLaysF0.n15.bits (P := Try.prog) (ρ := rhoS) { sort_lays with }) 0 W (by omega) (by omega)
  exact h
theorem insort0_c (p : Option Addr) (cap : Nat) (fv : Value) (W : World) : Calls Try.prog 47 #[.slice p 0 cap, .int .i64 0, .int .i64 0, fv] W fun e w' => e = .returned (.tuple #[]) ∧ w' = W := by
  go_enter Try.func47, Try.ntmps47
  go_wp2
  refine wp_loop_rounds 1 ?_
  rw [rounds_succ]
  go_wp2
  go_end0
  exact ⟨rfl, rfl⟩
theorem pdq0_c (p : Option Addr) (cap : Nat) (lim : Int) (fv : Value) (W : World) : Calls Try.prog 44 #[.slice p 0 cap, .int .i64 0, .int .i64 0, .int .i64 lim, fv] W fun e w' => e = .returned (.tuple #[]) ∧ w' = W := by
  go_enter Try.func44, Try.ntmps44
  go_wp2
  refine wp_loop_rounds 1 ?_
  rw [rounds_succ]
  go_wp2_with (go_at_call 47; refine (insort0_c _ _ _ _).mono ?_; rintro e w' ⟨rfl, rfl⟩)
  (try simp only [Exit.inBlock, Exit.then]); refine bodyPost_ret (results_none rfl _ _ _) rfl ?_
  exact ⟨rfl, rfl⟩
theorem sortf0_c (p : Option Addr) (cap : Nat) (fv : Value) (W : World) : Calls Try.prog 38 #[.slice p 0 cap, fv] W fun e w' => e = .returned (.tuple #[]) ∧ w' = W := by
  go_enter Try.func38, Try.ntmps38
  go_wp2_with (first | (go_at_call 45; refine (bitsLen0_c _).mono ?_; rintro e w' ⟨rfl, rfl⟩) | (go_at_call 44; refine (pdq0_c _ _ _ _ _).mono ?_; rintro e w' ⟨rfl, rfl⟩) | fail)
  go_end0
  exact ⟨rfl, rfl⟩
end Go.Proofs.Ytkohdiajpdlkjaa
