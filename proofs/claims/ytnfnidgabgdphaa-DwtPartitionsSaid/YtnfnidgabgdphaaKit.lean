/-
  Lists of integers in memory, rows of a call's own, and what keeps them. Plain laws on worlds; no program in sight but its types' cells.
-/
import Derived.Test.YtnfnidgabgdphaaPlnN
import Derived.Test.YtnfnidgabgdphaaRows
import Derived.RowKit
import Derived.IntWalk
import Derived.WalkKit
import Derived.WalkSpells
import Derived.WalkLawsBesides
import Derived.Deep.QuietTactic
import Derived.BigQuiet
import Derived.Deep.RegionHeld3
import Derived.StillTailTactics
import Derived.OwnWalk
import Derived.Deep.OwnRows
import Derived.Laws.CopyOwn
import Derived.Deep.DeepCutAuto
import Derived.Deep.RegionLaw
set_option maxRecDepth 100000
namespace Go.Proofs.Ytnfnidgabgdphaa
open Go.RowKit

theorem holds_new (w : World) (B : Nat) (hB : B = w.heap.size) (l : List Int) (cs : Array Value) (hcs : cs = (l.map (Value.int .i64)).toArray) : HoldsI (w.alloc (.cells cs 3)) (some ⟨B, 0, none⟩) l := by
  subst hB hcs
  refine .inr ⟨w.heap.size, 0, rfl, fun k hk => ?_⟩
  have e : (w.alloc (.cells (l.map (Value.int .i64)).toArray 3)).cell? ⟨w.heap.size, 0 + k, none⟩ = (l.map (Value.int .i64))[k]? := by simp
  rw [e]
  simp [hk]
theorem HoldsI.alloc {w : World} {s : Option Addr} {l : List Int} (h : HoldsI w s l) (X : Obj) : HoldsI (w.alloc X) s l := h.below ((Below.refl _ _).alloc (Nat.le_refl _) _) (Nat.le_refl _)
theorem HoldsI.call {w w1 : World} {s : Option Addr} {l : List Int} (h : HoldsI w s l) (hb : Below w.heap.size w w1) : HoldsI w1 s l := h.below hb (Nat.le_refl _)
theorem below_alloc {a W : World} (h : Below a.heap.size a W) (X : Obj) : Below a.heap.size a (W.alloc X) := h.alloc h.size X
theorem below_call {a W w1 : World} (h : Below a.heap.size a W) (hb : Below W.heap.size W w1) : Below a.heap.size a w1 := bcall h hb h.size
theorem HoldsI.drew {w : World} {s : Option Addr} {l : List Int} (h : HoldsI w s l) : HoldsI w.drew s l := h
/-- A list in another block stays where a list of the call's own grows. -/
theorem holds_grown {W W2 : World} {row : Option Nat} {g : Nat} {l : List Int} (h : HoldsI W (some ⟨g, 0, none⟩) l) (hg : W.grownBy W2 row) (hne : row ≠ some g) : HoldsI W2 (some ⟨g, 0, none⟩) l := by
  rcases h with h | ⟨b, off, e, hr⟩
  · exact .inl h
  · simp at e
    obtain ⟨rfl, rfl⟩ := e
    refine .inr ⟨g, 0, rfl, fun k hk => ?_⟩
    have hlt := cell_lt (hr k hk)
    exact (World.cell?_of_block (w := W) (hg.block g hlt (fun h => hne h.symm))).trans (hr k hk)
theorem map_range_next {f : Nat → Int} {n k : Nat} (hk : k < n) : ((List.range n).map f).take k ++ [f k] = ((List.range n).map f).take (k + 1) := by
  rw [List.take_succ_eq_append_getElem (by simpa using hk)]
  simp
end Go.Proofs.Ytnfnidgabgdphaa
