/-
  Layer 10: trees that no function returned; writers and readers that are nil.
-/
import Derived.Test.YtaddendclipkkaaTi
import Derived.Test.YtaddendclipkkaaTs
import Derived.Test.YtaddendclipkkaaEx9
set_option maxRecDepth 100000
namespace Go.Proofs.Ytaddendclipkkaa
open Go.RowKit

/-- A tree that made refuses, in all later worlds. -/
def NoT (p : Option Addr) (w : World) : Prop := ∀ W, Below w.heap.size w W → Calls Try.prog 59 #[.pointer p] W fun e w' => e = .returned (.bool false) ∧ W = w'
theorem NoT.step {p : Option Addr} {w w1 : World} (h : NoT p w) (hb : Below w.heap.size w w1) : NoT p w1 := fun W hW => h W (below_call hb hW)
theorem noT_nil (w : World) : NoT none w := fun W _ => tmade_n W
theorem noT_zero {w : World} {a : Nat} (h : w.cell? ⟨a, 0, none⟩ = some (.pointer none)) : NoT (some ⟨a, 0, none⟩) w := fun W hb => tmade_z a W ((hb.cell (p := ⟨a, 0, none⟩) (cell_lt h)).trans h)
section
variable {p : Option Addr} {W : World}
theorem nvalT (h : NoT p W) (x y : Int) : Calls Try.prog 37 #[.pointer p, .int .i64 x, .int .i64 y] W fun e w' => e = .returned (.tuple #[.int .i64 0, .bool false]) ∧ W = w' := by
  have m := h W (Below.refl _ _)
  go_enter Try.func37, Try.ntmps37
  go_wp2_with (first | (go_at_call 59; (with_reducible refine m.mono ?_); rintro e wn ⟨rfl, rfl⟩))
  go_ret2
  exact ⟨rfl, rfl⟩
theorem nsetT (h : NoT p W) (x y v : Int) : Calls Try.prog 33 #[.pointer p, .int .i64 x, .int .i64 y, .int .i64 v] W fun e w' => e = .returned (.int .i64 6) ∧ W = w' := by
  have m := h W (Below.refl _ _)
  go_enter Try.func33, Try.ntmps33
  go_wp2_with (first | (go_at_call 59; (with_reducible refine m.mono ?_); rintro e wn ⟨rfl, rfl⟩))
  go_ret
  exact ⟨rfl, rfl⟩
theorem nencT (h : NoT p W) (q : Option Addr) (x y v : Int) : Calls Try.prog 35 #[.pointer p, .pointer q, .int .i64 x, .int .i64 y, .int .i64 v] W fun e w' => e = .returned (.int .i64 6) ∧ Below W.heap.size W w' := by
  have hA := below_alloc (Below.refl _ W) (.cells #[.pointer q] 33)
  have m := h _ hA
  have HA := Lib.hid hA
  clear hA
  go_enter Try.func35, Try.ntmps35
  go_wp2_with (first | (go_at_call 59; (with_reducible refine m.mono ?_); rintro e wn ⟨rfl, rfl⟩))
  go_ret
  exact ⟨rfl, HA.out⟩
theorem ndecT (h : NoT p W) (q : Option Addr) (x y v : Int) : Calls Try.prog 39 #[.pointer p, .pointer q, .int .i64 x, .int .i64 y, .int .i64 v] W fun e w' => e = .returned (.tuple #[.bool false, .int .i64 6]) ∧ Below W.heap.size W w' := by
  have hA := below_alloc (Below.refl _ W) (.cells #[.pointer q] 26)
  have m := h _ hA
  have HA := Lib.hid hA
  clear hA
  go_enter Try.func39, Try.ntmps39
  go_wp2_with (first | (go_at_call 59; (with_reducible refine m.mono ?_); rintro e wn ⟨rfl, rfl⟩))
  go_ret2
  exact ⟨rfl, HA.out⟩
theorem ncloneT (h : NoT p W) : Calls Try.prog 42 #[.pointer p] W fun e w' => e = .returned (.pointer none) ∧ W = w' := by
  have m := h W (Below.refl _ _)
  go_enter Try.func42, Try.ntmps42
  go_wp2_with (first | (go_at_call 59; (with_reducible refine m.mono ?_); rintro e wn ⟨rfl, rfl⟩))
  go_ret
  exact ⟨rfl, rfl⟩
end
theorem nbitsW (W : World) : Calls Try.prog 51 #[.pointer none, .int .i64 0, .int .i64 0] W fun e w' => e = .returned (.int .i64 6) ∧ W = w' := by
  have m := made_n0 W
  go_enter Try.func51, Try.ntmps51
  go_wp2_with (first | (go_at_call 56; (with_reducible refine m.mono ?_); rintro e wn ⟨rfl, rfl⟩))
  go_ret
  exact ⟨rfl, rfl⟩
theorem nbitsR (W : World) : Calls Try.prog 46 #[.pointer none, .int .i64 0] W fun e w' => e = .returned (.tuple #[.int .i64 0, .int .i64 6]) ∧ Below W.heap.size W w' := by
  have hA := below_alloc (below_alloc (Below.refl _ W) (.cells #[.pointer none] 26)) (.cells #[.int .i64 0] 3)
  have m := fun X => rmade_n X
  have HA := Lib.hid hA
  clear hA
  go_enter Try.func46, Try.ntmps46
  go_wp2_with (first | (go_at_call 48; (with_reducible refine (m _).mono ?_); rintro e wn ⟨rfl, rfl⟩))
  go_ret2
  exact ⟨rfl, HA.out⟩
section
variable {W : World} {B A L w h D : Nat} {nd : Nat → Nat} {u : Int} {Q : Nat → Nat → Nat → Nd}
theorem encN (H : Tr W B A L nd w h D u Q) (x y v : Int) : Calls Try.prog 35 #[.pointer (some ⟨A, 0, none⟩), .pointer none, .int .i64 x, .int .i64 y, .int .i64 v] W fun e w' => e = .returned (.int .i64 6) ∧ Below W.heap.size W w' := by
  have hA := below_alloc (Below.refl _ W) (.cells #[.pointer none] 33)
  have m := tmade_y A _ (H.below hA).cells.1
  have n := nbitsW
  have hc : (W.alloc (.cells #[.pointer none] 33)).cell? ⟨W.heap.size, 0, none⟩ = some (.pointer none) := (Blk.new W 33 #[.pointer none]).cell 0
  have HA := Lib.hid hA
  clear hA H
  go_enter Try.func35, Try.ntmps35
  go_wp2_with (first | (go_at_call 59; (with_reducible refine m.mono ?_); rintro e wn ⟨rfl, rfl⟩) | (go_at_call 51; (with_reducible refine (n _).mono ?_); rintro e wn ⟨rfl, rfl⟩))
  go_ret
  exact ⟨rfl, HA.out⟩
theorem decN (H : Tr W B A L nd w h D u Q) (x y v : Int) : Calls Try.prog 39 #[.pointer (some ⟨A, 0, none⟩), .pointer none, .int .i64 x, .int .i64 y, .int .i64 v] W fun e w' => e = .returned (.tuple #[.bool false, .int .i64 6]) ∧ Below W.heap.size W w' := by
  have hA := below_alloc (Below.refl _ W) (.cells #[.pointer none] 26)
  have m := tmade_y A _ (H.below hA).cells.1
  have n := nbitsR (W.alloc (.cells #[.pointer none] 26))
  have hc : (W.alloc (.cells #[.pointer none] 26)).cell? ⟨W.heap.size, 0, none⟩ = some (.pointer none) := (Blk.new W 26 #[.pointer none]).cell 0
  have HA := Lib.hid hA
  clear hA H
  go_enter Try.func39, Try.ntmps39
  go_wp2_with (first | (go_at_call 59; (with_reducible refine m.mono ?_); rintro e wn ⟨rfl, rfl⟩))
  refine n.mono ?_
  rintro e w1 ⟨rfl, hb⟩
  have HB := Lib.hid (below_call HA.out hb)
  clear hb n hc
  go_wp2_with fail
  go_ret2
  exact ⟨rfl, HB.out⟩
end
end Go.Proofs.Ytaddendclipkkaa
