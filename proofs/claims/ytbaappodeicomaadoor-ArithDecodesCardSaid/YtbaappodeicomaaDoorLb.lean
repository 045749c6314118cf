/-
  Layer 11: encoders and decoders that no function returned.
-/
import Derived.Test.YtbaappodeicomaaDoorLa
set_option maxRecDepth 100000
namespace Go.Proofs.YtbaappodeicomaaDoor
open Go.RowKit

/-- An encoder (a decoder) that made refuses. -/
def NoE (q : Option Addr) (w : World) : Prop := q = none ∨ ∃ a, q = some ⟨a, 0, none⟩ ∧ w.cell? ⟨a, 1, none⟩ = some (.pointer none)
theorem NoE.emade {q : Option Addr} {w : World} (h : NoE q w) : Calls Tryd.prog 66 #[.pointer q] w fun e w' => e = .returned (.bool false) ∧ w = w' := by
  rcases h with rfl | ⟨a, rfl, h⟩
  · exact emade_n w
  · exact emade_z a w h
theorem NoE.dmade {q : Option Addr} {w : World} (h : NoE q w) : Calls Tryd.prog 75 #[.pointer q] w fun e w' => e = .returned (.bool false) ∧ w = w' := by
  rcases h with rfl | ⟨a, rfl, h⟩
  · exact dmade_n w
  · exact dmade_z a w h
theorem nenc (q : Option Addr) (c b : Int) (w : World) (h : NoE q w) : Calls Tryd.prog 26 #[.pointer q, .int .i64 c, .int .i64 b] w fun e w' => e = .returned (.int .i64 6) ∧ w = w' := by
  have hm := h.emade
  clear h
  go_enter Tryd.func26, Tryd.ntmps26
  go_wp2_with (first | (go_at_call 66; (with_reducible refine hm.mono ?_); rintro e wn ⟨rfl, rfl⟩))
  go_ret
  exact ⟨rfl, rfl⟩
theorem nesize (q : Option Addr) (w : World) (h : NoE q w) : Calls Tryd.prog 28 #[.pointer q] w fun e w' => e = .returned (.int .i64 0) ∧ w = w' := by
  have hm := h.emade
  clear h
  go_enter Tryd.func28, Tryd.ntmps28
  go_wp2_with (first | (go_at_call 66; (with_reducible refine hm.mono ?_); rintro e wn ⟨rfl, rfl⟩))
  go_ret
  exact ⟨rfl, rfl⟩
theorem neterm (q : Option Addr) (w : World) (h : NoE q w) : Calls Tryd.prog 22 #[.pointer q] w fun e w' => e = .returned (.slice none 0 0) ∧ w = w' := by
  have hm := h.emade
  clear h
  go_enter Tryd.func22, Tryd.ntmps22
  go_wp2_with (first | (go_at_call 66; (with_reducible refine hm.mono ?_); rintro e wn ⟨rfl, rfl⟩))
  go_ret
  exact ⟨rfl, rfl⟩
theorem neprob (q : Option Addr) (c : Int) (w : World) (h : NoE q w) : Calls Tryd.prog 30 #[.pointer q, .int .i64 c] w fun e w' => e = .returned (.int .i64 0) ∧ w = w' := by
  have hm := h.emade
  clear h
  go_enter Tryd.func30, Tryd.ntmps30
  go_wp2_with (first | (go_at_call 66; (with_reducible refine hm.mono ?_); rintro e wn ⟨rfl, rfl⟩))
  go_ret
  exact ⟨rfl, rfl⟩
theorem nereset (q : Option Addr) (w : World) (h : NoE q w) : Calls Tryd.prog 24 #[.pointer q] w fun e w' => e = .returned (.tuple #[]) ∧ w = w' := by
  have hm := h.emade
  clear h
  go_enter Tryd.func24, Tryd.ntmps24
  go_wp2_with (first | (go_at_call 66; (with_reducible refine hm.mono ?_); rintro e wn ⟨rfl, rfl⟩))
  go_end0
  exact ⟨rfl, rfl⟩
theorem nstart (q s : Option Addr) (n m : Nat) (w : World) (h : NoE q w) : Calls Tryd.prog 34 #[.pointer q, .slice s n m] w fun e w' => e = .returned (.int .i64 6) ∧ w = w' := by
  have hm := h.dmade
  clear h
  go_enter Tryd.func34, Tryd.ntmps34
  go_wp2_with (first | (go_at_call 75; (with_reducible refine hm.mono ?_); rintro e wn ⟨rfl, rfl⟩))
  go_ret
  exact ⟨rfl, rfl⟩
theorem ndec (q : Option Addr) (c : Int) (w : World) (h : NoE q w) : Calls Tryd.prog 38 #[.pointer q, .int .i64 c] w fun e w' => e = .returned (.tuple #[.int .i64 0, .int .i64 6]) ∧ w = w' := by
  have hm := h.dmade
  clear h
  go_enter Tryd.func38, Tryd.ntmps38
  go_wp2_with (first | (go_at_call 75; (with_reducible refine hm.mono ?_); rintro e wn ⟨rfl, rfl⟩))
  go_ret2
  exact ⟨rfl, rfl⟩
theorem ndreset (q : Option Addr) (w : World) (h : NoE q w) : Calls Tryd.prog 36 #[.pointer q] w fun e w' => e = .returned (.tuple #[]) ∧ w = w' := by
  have hm := h.dmade
  clear h
  go_enter Tryd.func36, Tryd.ntmps36
  go_wp2_with (first | (go_at_call 75; (with_reducible refine hm.mono ?_); rintro e wn ⟨rfl, rfl⟩))
  go_end0
  exact ⟨rfl, rfl⟩
end Go.Proofs.YtbaappodeicomaaDoor
