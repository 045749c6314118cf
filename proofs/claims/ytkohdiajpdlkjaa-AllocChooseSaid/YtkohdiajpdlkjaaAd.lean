/-
  Layer 21: contracts of the library's Grow at no list, and of Concat over lists in memory.
-/
import Derived.Test.YtkohdiajpdlkjaaAc
import Derived.Lib.AppendZerosOnto
import Derived.Lib.SliceRun
set_option maxRecDepth 100000
namespace Go.Proofs.Ytkohdiajpdlkjaa
open Go.RowKit

theorem infoS : (Try.prog.info? 55).map (fun i => (i.zero, i.size, i.bytes)) = some (some (.agg #[.int .i64 0, .int .i64 0, .int .i64 0, .int .i64 0]), 4, 32) := by kernel_rfl
set_option maxHeartbeats 4000000 in
theorem grow_n (n : Nat) (hn : n ≤ 100000000) (W : World) : Calls Try.prog 43 #[.slice none 0 0, .int .i64 (n : Int)] W fun e w' => ∃ v, e = .returned v ∧ w'.ownsRow W.heap.size 55 4 v 0 [] ∧ Below W.heap.size W w' := by
  by_cases h0 : n = 0
  · subst h0
    refine Calls.mono (R := fun e w' => e = .returned (.slice none 0 0) ∧ w' = W) ?_ (fun e w' h => ⟨_, h.1, World.ownsRow_nil _ _ _ _, by rw [h.2]; exact Below.refl _ _⟩)
    go_enter Try.func43, Try.ntmps43
    go_wp2_with fail
    go_ret
    exact ⟨rfl, rfl⟩
  · obtain ⟨i0, hi, hz0, hz1, hz2⟩ := info_parts infoS
    have hrz : ∀ ty, (Builtin.append_ #[47, 3] ty #[.slice none 0 0, .int .i64 (n : Int)]).run Try.prog W =
        .ok (.slice (some ⟨W.heap.size, 0, none⟩) (0 + n) (grownCap W (0 + n) 0 55)) (W.drew.alloc (.cells ((#[] : Array Value) ++ Builtin.zeroCells (Value.agg #[.int .i64 0, .int .i64 0, .int .i64 0, .int .i64 0]).cells n ++ Builtin.zeroCells (Value.agg #[.int .i64 0, .int .i64 0, .int .i64 0, .int .i64 0]).cells (grownCap W (0 + n) 0 55 - (0 + n))) 55)) := fun ty => by
      have hold : (Builtin.firstCells i0.size 0 (.slice none 0 0)).run Try.prog W.drew = .ok ([] : List Value).toArray W.drew := run_firstCells_none W.drew i0.size 0 0 0
      exact Lib.run_append_grow_zeros W 47 3 ty 55 i0 _ .i64 .i64 Try.underlying47 Try.underlying3 hi hz0 none 0 0 [] hold n (by omega) (by omega) (by omega) (by omega) (by rw [hz2]; omega) (growslice_fits (by omega) (by rw [hz2]; omega))
    rw [Nat.zero_add] at hrz
    have hGn : n ≤ grownCap W n 0 55 := grownCap_ge W _ _ _
    have hG63 : grownCap W n 0 55 ≤ 9223372036854775807 := by
      have := grownCap_le_maxLen W n 0 55 (by unfold maxLen; omega)
      unfold maxLen at this
      omega
    generalize grownCap W n 0 55 = G at *
    have hsz : ((#[] : Array Value) ++ Builtin.zeroCells (Value.agg #[.int .i64 0, .int .i64 0, .int .i64 0, .int .i64 0]).cells n ++ Builtin.zeroCells (Value.agg #[.int .i64 0, .int .i64 0, .int .i64 0, .int .i64 0]).cells (G - n)).size = G * 4 := by
      rw [Array.size_append, Array.size_append, size_zeroCells, size_zeroCells]
      show 0 + n * 4 + (G - n) * 4 = G * 4
      omega
    have hGm : G ≤ maxLen := by unfold maxLen at *; omega
    generalize ((#[] : Array Value) ++ Builtin.zeroCells (Value.agg #[.int .i64 0, .int .i64 0, .int .i64 0, .int .i64 0]).cells n ++ Builtin.zeroCells (Value.agg #[.int .i64 0, .int .i64 0, .int .i64 0, .int .i64 0]).cells (G - n)) = cur at *
    refine Calls.mono (R := fun e w' => e = .returned (.slice (some ⟨W.heap.size, 0, none⟩) 0 G) ∧ w' = (W.alloc (.cells cur 55)).drew) ?_ ?_
    · have hp : (0 : Int) < (n : Int) := by omega
      have h2 : wrap64 (n : Int) = (n : Int) := by unfold wrap64; omega
      clear hi hz0 hz1 hz2 hsz hGm
      go_enter Try.func43, Try.ntmps43
      go_wp2_with (at_builtin; refine Lib.wpList_append_run _ rfl _ _ _ _ rfl _ _ rfl rfl _ _ (hrz _) ?_)
      all_goals
        go_ret
        exact ⟨rfl, rfl⟩
    · rintro e w' ⟨he, rfl⟩
      refine ⟨_, he, ?_, ((Below.refl _ W).alloc (Nat.le_refl _) _).drew⟩
      exact ⟨rfl, .inr ⟨W.heap.size, G, cur, rfl, Nat.le_refl _, Array.getElem?_push_size, Nat.zero_le _, hGm, hsz, by simp⟩⟩
end Go.Proofs.Ytkohdiajpdlkjaa
