/-
  Layer 11: encoders that no function returned, the code's and the reference's.
-/
import Derived.Test.YtdnfnekfcndnhaaDoorRh
set_option maxRecDepth 100000
namespace Go.Proofs.YtdnfnekfcndnhaaDoor
open Go.RowKit

/-- An encoder (a decoder) that made refuses. -/
def NoE (q : Option Addr) (w : World) : Prop := q = none ∨ ∃ a, q = some ⟨a, 0, none⟩ ∧ w.cell? ⟨a, 1, none⟩ = some (.pointer none)
theorem NoE.emade {q : Option Addr} {w : World} (h : NoE q w) : Calls Tryd.prog 27 #[.pointer q] w fun e w' => e = .returned (.bool false) ∧ w = w' := by
  rcases h with rfl | ⟨a, rfl, h⟩
  · exact emade_n w
  · exact emade_z a w h
theorem nenc (q : Option Addr) (c b : Int) (w : World) (h : NoE q w) : Calls Tryd.prog 13 #[.pointer q, .int .i64 c, .int .i64 b] w fun e w' => e = .returned (.int .i64 6) ∧ w = w' := by
  have hm := h.emade
  clear h
  go_enter Tryd.func13, Tryd.ntmps13
  go_wp2_with (first | (go_at_call 27; (with_reducible refine hm.mono ?_); rintro e wn ⟨rfl, rfl⟩))
  go_ret
  exact ⟨rfl, rfl⟩
theorem nesize (q : Option Addr) (w : World) (h : NoE q w) : Calls Tryd.prog 15 #[.pointer q] w fun e w' => e = .returned (.int .i64 0) ∧ w = w' := by
  have hm := h.emade
  clear h
  go_enter Tryd.func15, Tryd.ntmps15
  go_wp2_with (first | (go_at_call 27; (with_reducible refine hm.mono ?_); rintro e wn ⟨rfl, rfl⟩))
  go_ret
  exact ⟨rfl, rfl⟩
theorem neterm (q : Option Addr) (w : World) (h : NoE q w) : Calls Tryd.prog 9 #[.pointer q] w fun e w' => e = .returned (.slice none 0 0) ∧ w = w' := by
  have hm := h.emade
  clear h
  go_enter Tryd.func9, Tryd.ntmps9
  go_wp2_with (first | (go_at_call 27; (with_reducible refine hm.mono ?_); rintro e wn ⟨rfl, rfl⟩))
  go_ret
  exact ⟨rfl, rfl⟩
theorem neprob (q : Option Addr) (c : Int) (w : World) (h : NoE q w) : Calls Tryd.prog 17 #[.pointer q, .int .i64 c] w fun e w' => e = .returned (.int .i64 0) ∧ w = w' := by
  have hm := h.emade
  clear h
  go_enter Tryd.func17, Tryd.ntmps17
  go_wp2_with (first | (go_at_call 27; (with_reducible refine hm.mono ?_); rintro e wn ⟨rfl, rfl⟩))
  go_ret
  exact ⟨rfl, rfl⟩
theorem nereset (q : Option Addr) (w : World) (h : NoE q w) : Calls Tryd.prog 11 #[.pointer q] w fun e w' => e = .returned (.tuple #[]) ∧ w = w' := by
  have hm := h.emade
  clear h
  go_enter Tryd.func11, Tryd.ntmps11
  go_wp2_with (first | (go_at_call 27; (with_reducible refine hm.mono ?_); rintro e wn ⟨rfl, rfl⟩))
  go_end0
  exact ⟨rfl, rfl⟩
theorem vnone_enc (c b : Int) (w : World) : Calls Tryd.prog 14 #[.pointer none, .int .i64 c, .int .i64 b] w fun e w' => e = .returned (.int .i64 6) ∧ w = w' := by
  go_enter Tryd.func14, Tryd.ntmps14
  go_wp2_with fail
  go_ret
  exact ⟨rfl, rfl⟩
theorem vnone_size (w : World) : Calls Tryd.prog 16 #[.pointer none] w fun e w' => e = .returned (.int .i64 0) ∧ w = w' := by
  go_enter Tryd.func16, Tryd.ntmps16
  go_wp2_with fail
  go_ret
  exact ⟨rfl, rfl⟩
theorem vnone_prob (c : Int) (w : World) : Calls Tryd.prog 18 #[.pointer none, .int .i64 c] w fun e w' => e = .returned (.int .i64 0) ∧ w = w' := by
  go_enter Tryd.func18, Tryd.ntmps18
  go_wp2_with fail
  go_ret
  exact ⟨rfl, rfl⟩
theorem vnone_term (w : World) : Calls Tryd.prog 10 #[.pointer none] w fun e w' => e = .returned (.slice none 0 0) ∧ w = w' := by
  go_enter Tryd.func10, Tryd.ntmps10
  go_wp2_with fail
  go_ret
  exact ⟨rfl, rfl⟩
theorem vnone_reset (w : World) : Calls Tryd.prog 12 #[.pointer none] w fun e w' => e = .returned (.tuple #[]) ∧ w = w' := by
  go_enter Tryd.func12, Tryd.ntmps12
  go_wp2_with fail
  go_end0
  exact ⟨rfl, rfl⟩
end Go.Proofs.YtdnfnekfcndnhaaDoor
