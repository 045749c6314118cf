/-
  Layer 14: blocks that New did not return.
-/
import Derived.Test.YtdpfojenljejiaaGa
set_option maxRecDepth 100000
namespace Go.Proofs.Ytdpfojenljejiaa
open Go.RowKit

/-- A block that made refuses, in all later worlds. -/
def NoB (p : Option Addr) (w : World) : Prop := ∀ W, Below w.heap.size w W → Calls Try.prog 42 #[.pointer p] W fun e w' => e = .returned (.bool false) ∧ W = w'
theorem NoB.step {p : Option Addr} {w w1 : World} (h : NoB p w) (hb : Below w.heap.size w w1) : NoB p w1 := fun W hW => h W (below_call hb hW)
theorem noB_nil (w : World) : NoB none w := fun W _ => made_n W
theorem noB_zero {w : World} {a : Nat} (h : w.cell? ⟨a, 6, none⟩ = some (.pointer none)) : NoB (some ⟨a, 0, none⟩) w := fun W hb => made_z a W ((hb.cell (p := ⟨a, 6, none⟩) (cell_lt h)).trans h)
section
variable {p : Option Addr} {W : World}
theorem nsize (h : NoB p W) : Calls Try.prog 13 #[.pointer p] W fun e w' => e = .returned (.tuple #[.int .i64 0, .int .i64 0]) ∧ W = w' := by
  have m := h W (Below.refl _ _)
  go_enter Try.func13, Try.ntmps13
  go_wp2_with (first | (go_at_call 42; (with_reducible refine m.mono ?_); rintro e wn ⟨rfl, rfl⟩))
  go_ret2
  exact ⟨rfl, rfl⟩
theorem nfind (h : NoB p W) (x y : Int) : Calls Try.prog 57 #[.pointer p, .int .i64 x, .int .i64 y] W fun e w' => e = .returned (.tuple #[.int .i64 0, .int .i64 6]) ∧ W = w' := by
  have m := h W (Below.refl _ _)
  go_enter Try.func57, Try.ntmps57
  go_wp2_with (first | (go_at_call 42; (with_reducible refine m.mono ?_); rintro e wn ⟨rfl, rfl⟩))
  go_ret2
  exact ⟨rfl, rfl⟩
theorem nset (h : NoB p W) (x y : Int) (v : Int) : Calls Try.prog 43 #[.pointer p, .int .i64 x, .int .i64 y, .int .i64 v] W fun e w' => e = .returned (.int .i64 6) ∧ W = w' := by
  have m := nfind h x y
  go_enter Try.func43, Try.ntmps43
  go_wp2_with (first | (go_at_call 57; (with_reducible refine m.mono ?_); rintro e wn ⟨rfl, rfl⟩))
  go_ret
  exact ⟨rfl, rfl⟩
theorem nmark (h : NoB p W) (x y : Int) : Calls Try.prog 36 #[.pointer p, .int .i64 x, .int .i64 y] W fun e w' => e = .returned (.int .i64 6) ∧ W = w' := by
  have m := nfind h x y
  go_enter Try.func36, Try.ntmps36
  go_wp2_with (first | (go_at_call 57; (with_reducible refine m.mono ?_); rintro e wn ⟨rfl, rfl⟩))
  go_ret
  exact ⟨rfl, rfl⟩
theorem ntouch (h : NoB p W) (x y : Int) (c : Bool) : Calls Try.prog 44 #[.pointer p, .int .i64 x, .int .i64 y, .bool c] W fun e w' => e = .returned (.int .i64 6) ∧ W = w' := by
  have m := nfind h x y
  go_enter Try.func44, Try.ntmps44
  go_wp2_with (first | (go_at_call 57; (with_reducible refine m.mono ?_); rintro e wn ⟨rfl, rfl⟩))
  go_ret
  exact ⟨rfl, rfl⟩
theorem nrefine (h : NoB p W) (x y : Int) : Calls Try.prog 45 #[.pointer p, .int .i64 x, .int .i64 y] W fun e w' => e = .returned (.int .i64 6) ∧ W = w' := by
  have m := nfind h x y
  go_enter Try.func45, Try.ntmps45
  go_wp2_with (first | (go_at_call 57; (with_reducible refine m.mono ?_); rintro e wn ⟨rfl, rfl⟩))
  go_ret
  exact ⟨rfl, rfl⟩
theorem nvalue (h : NoB p W) (x y : Int) : Calls Try.prog 31 #[.pointer p, .int .i64 x, .int .i64 y] W fun e w' => e = .returned (.int .i64 0) ∧ W = w' := by
  have m := nfind h x y
  go_enter Try.func31, Try.ntmps31
  go_wp2_with (first | (go_at_call 57; (with_reducible refine m.mono ?_); rintro e wn ⟨rfl, rfl⟩))
  go_ret
  exact ⟨rfl, rfl⟩
theorem nsig (h : NoB p W) (x y : Int) : Calls Try.prog 32 #[.pointer p, .int .i64 x, .int .i64 y] W fun e w' => e = .returned (.bool false) ∧ W = w' := by
  have m := nfind h x y
  go_enter Try.func32, Try.ntmps32
  go_wp2_with (first | (go_at_call 57; (with_reducible refine m.mono ?_); rintro e wn ⟨rfl, rfl⟩))
  go_ret
  exact ⟨rfl, rfl⟩
theorem ntouched (h : NoB p W) (x y : Int) : Calls Try.prog 33 #[.pointer p, .int .i64 x, .int .i64 y] W fun e w' => e = .returned (.bool false) ∧ W = w' := by
  have m := nfind h x y
  go_enter Try.func33, Try.ntmps33
  go_wp2_with (first | (go_at_call 57; (with_reducible refine m.mono ?_); rintro e wn ⟨rfl, rfl⟩))
  go_ret
  exact ⟨rfl, rfl⟩
theorem nrefined (h : NoB p W) (x y : Int) : Calls Try.prog 34 #[.pointer p, .int .i64 x, .int .i64 y] W fun e w' => e = .returned (.bool false) ∧ W = w' := by
  have m := nfind h x y
  go_enter Try.func34, Try.ntmps34
  go_wp2_with (first | (go_at_call 57; (with_reducible refine m.mono ?_); rintro e wn ⟨rfl, rfl⟩))
  go_ret
  exact ⟨rfl, rfl⟩
theorem nnb (h : NoB p W) (x y : Int) (c : Bool) : Calls Try.prog 38 #[.pointer p, .int .i64 x, .int .i64 y, .bool c] W fun e w' => e = .returned (.tuple #[.int .i64 0, .int .i64 0, .int .i64 0]) ∧ W = w' := by
  have m := nfind h x y
  go_enter Try.func38, Try.ntmps38
  go_wp2_with (first | (go_at_call 57; (with_reducible refine m.mono ?_); rintro e wn ⟨rfl, rfl⟩))
  go_ret3
  exact ⟨rfl, rfl⟩
theorem nsgs (h : NoB p W) (x y : Int) (c : Bool) : Calls Try.prog 39 #[.pointer p, .int .i64 x, .int .i64 y, .bool c] W fun e w' => e = .returned (.tuple #[.int .i64 0, .int .i64 0]) ∧ W = w' := by
  have m := nfind h x y
  go_enter Try.func39, Try.ntmps39
  go_wp2_with (first | (go_at_call 57; (with_reducible refine m.mono ?_); rintro e wn ⟨rfl, rfl⟩))
  go_ret2
  exact ⟨rfl, rfl⟩
theorem ndo (h : NoB p W) (o : OpV) : Calls Try.prog 15 #[.pointer p, o.val] W fun e w' => e = .returned (.int .i64 6) ∧ Below W.heap.size W w' := by
  have hA := below_alloc (Below.refl _ W) (.cells #[.int .i64 o.k, .int .i64 o.x, .int .i64 o.y, .int .i64 o.v] 35)
  have h1 := h.step hA
  have s0 := nset h1 o.x o.y o.v
  have s1 := nmark h1 o.x o.y
  have s2 := ntouch h1 o.x o.y true
  have s3 := ntouch h1 o.x o.y false
  have s4 := nrefine h1 o.x o.y
  have HA := Lib.hid hA
  obtain ⟨k, x, y, v⟩ := o
  unfold OpV.val
  dsimp only at *
  clear h h1 hA
  by_cases h0 : k = 0
  · subst h0
    go_enter Try.func15, Try.ntmps15
    go_wp2_with (first | (go_at_call 43; (with_reducible refine s0.mono ?_); rintro e wn ⟨rfl, rfl⟩))
    go_ret
    exact ⟨rfl, HA.out⟩
  have e0 : (k == 0) = false := by simpa using h0
  clear h0
  by_cases h1 : k = 1
  · subst h1
    go_enter Try.func15, Try.ntmps15
    go_wp2_with (first | (go_at_call 36; (with_reducible refine s1.mono ?_); rintro e wn ⟨rfl, rfl⟩))
    go_ret
    exact ⟨rfl, HA.out⟩
  have e1 : (k == 1) = false := by simpa using h1
  clear h1
  by_cases h2 : k = 2
  · subst h2
    go_enter Try.func15, Try.ntmps15
    go_wp2_with (first | (go_at_call 44; (with_reducible refine s2.mono ?_); rintro e wn ⟨rfl, rfl⟩))
    go_ret
    exact ⟨rfl, HA.out⟩
  have e2 : (k == 2) = false := by simpa using h2
  clear h2
  by_cases h3 : k = 3
  · subst h3
    go_enter Try.func15, Try.ntmps15
    go_wp2_with (first | (go_at_call 44; (with_reducible refine s3.mono ?_); rintro e wn ⟨rfl, rfl⟩))
    go_ret
    exact ⟨rfl, HA.out⟩
  have e3 : (k == 3) = false := by simpa using h3
  clear h3
  go_enter Try.func15, Try.ntmps15
  go_wp2_with (first | (go_at_call 45; (with_reducible refine s4.mono ?_); rintro e wn ⟨rfl, rfl⟩))
  go_ret
  exact ⟨rfl, HA.out⟩
end
end Go.Proofs.Ytdpfojenljejiaa
