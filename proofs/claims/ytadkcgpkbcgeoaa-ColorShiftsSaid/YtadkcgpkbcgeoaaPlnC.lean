/-
  What each call of New, of slices.Min and slices.Max, of Limits returns and leaves: contracts.
-/
import Derived.Test.YtadkcgpkbcgeoaaPlnB
import Derived.Deep.RegionHeld3
import Derived.Deep.OwnRows
set_option maxRecDepth 100000
namespace Go.Proofs.Ytadkcgpkbcgeoaa
open Go.RowKit

theorem infoI : (Try.prog.info? 3).map (fun i => (i.zero, i.size, i.bytes)) = some (some (.int .i64 0), 1, 8) := by kernel_rfl
/-- The call returns a plane and an error's number; the plane's slice holds l; old memory is as it was. -/
def GivesPlane (r : Pl.R) (l : List Int) (err : Int) (w : World) (e : Ending) (w' : World) : Prop :=
  ∃ s m, e = .returned (.tuple #[.agg #[.int .i64 r.x0, .int .i64 r.y0, .int .i64 r.x1, .int .i64 r.y1, .slice s l.length m], .int .i64 err]) ∧ HoldsI w' s l ∧ Below w.heap.size w w' ∧ l.length ≤ m
/-- A new row of zeros. -/
theorem holds_made (w : World) (n : Nat) : HoldsI (w.alloc (.cells (madeCells #[.int .i64 0] n) 3)) (some ⟨w.heap.size, 0, none⟩) (List.replicate n 0) := by
  refine .inr ⟨w.heap.size, 0, rfl, fun k hk => ?_⟩
  have hk' : k < n := by simpa using hk
  have e : (w.alloc (.cells (madeCells #[.int .i64 0] n) 3)).cell? ⟨w.heap.size, 0 + k, none⟩ = (madeCells #[.int .i64 0] n).toList[k]? := by simp
  rw [e]
  simp [madeCells, hk', Nat.mod_one]
theorem holdsI_far {w : World} {b off : Nat} {l : List Int} (h : HoldsI w (some ⟨b, off, none⟩) l) (a : Addr) (v : Value) (hn : b ≠ a.block) : HoldsI (w.setCell a v) (some ⟨b, off, none⟩) l := by
  rcases h with h | ⟨b', off', e, hr⟩
  · exact .inl h
  · simp at e
    obtain ⟨rfl, rfl⟩ := e
    exact .inr ⟨b, off, rfl, fun k hk => cell_far v (hr k hk) hn⟩
end Go.Proofs.Ytadkcgpkbcgeoaa
