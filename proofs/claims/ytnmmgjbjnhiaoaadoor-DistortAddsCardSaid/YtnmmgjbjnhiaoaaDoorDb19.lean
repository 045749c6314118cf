/-
  Layer 18, for the example of layer 19: start and perform of no passes.
-/
import Derived.Test.YtnmmgjbjnhiaoaaDoorDa19
set_option maxRecDepth 100000
namespace Go.Proofs.YtnmmgjbjnhiaoaaDoor
open Go.RowKit

theorem start_0 (W : World) : Calls Tryd.prog 37 #[zeroCd, .int .i64 0, .int .i64 2, .int .i64 2, .int .i64 0, zeroMd] W fun e w' => ∃ B A V S T R, e = .returned (.tuple #[.pointer (some ⟨A, 0, none⟩), .int .i64 0]) ∧ Cb w' B A V S T R 2 2 St.zero ∧ Below W.heap.size W w' := by
  unfold zeroCd zeroMd
  obtain ⟨WA, hWA⟩ : ∃ x, x = (W.alloc (.cells #[.int .i64 0, .slice none 0 0, .slice none 0 0] 40)).alloc (.cells #[.bool false, .bool false, .bool false, .bool false, .bool false] 43) := ⟨_, rfl⟩
  have hB : Below W.heap.size W WA := by rw [hWA]; exact below_alloc (below_alloc (Below.refl _ W) _) _
  have hX : Blk WA W.heap.size 40 #[.int .i64 0, .slice none 0 0, .slice none 0 0] := by rw [hWA]; exact (Blk.new W _ _).alloc _
  have kv := bvalid_0 WA
  unfold zeroCd zeroMd at kv
  have kn : ∀ W : World, Calls Tryd.prog 54 #[.int .i64 2, .int .i64 2] W fun e w' => ∃ A V S T R, e = .returned (.tuple #[.pointer (some ⟨A, 0, none⟩), .int .i64 0]) ∧ Cb w' W.heap.size A V S T R 2 2 St.zero ∧ Below W.heap.size W w' := fun W => new_yes 2 2 (by unfold fits; decide) W
  have KN := Lib.hid kn
  have HB := Lib.hid hB
  have HX := Lib.hid hX
  have HWA := Lib.hid hWA
  rw [hWA] at kv
  clear hB hX hWA kn
  go_enter Tryd.func37, Tryd.ntmps37
  go_wp2_with (first | (go_at_call 34; (with_reducible refine kv.mono ?_); rintro e w1 ⟨rfl, hb⟩; have B1 := Lib.hid (show Below WA.heap.size WA w1 by rw [HWA.out]; exact hb); have kn := KN.out w1; clear hb) | (go_at_call 54; (with_reducible refine kn.mono ?_); rintro e w2 ⟨A, V, S, T, R, rfl, hC, hb⟩; have C2 := Lib.hid hC; have B2 := Lib.hid (below_call B1.out hb); have x1 : w2.cell? ⟨W.heap.size, 1, none⟩ = some (.slice none 0 0) := (HX.out.below B2.out).cell 1; clear hC hb) | fail)
  go_ret2
  exact ⟨_, A, V, S, T, R, rfl, C2.out, below_call HB.out B2.out⟩
theorem md19 {w : World} {g : Nat} {a b c d y : Bool} (h : Blk w g 43 #[.bool a, .bool b, .bool c, .bool d, .bool y]) : w.cell? ⟨g, 0, none⟩ = some (.bool a) ∧ w.cell? ⟨g, 1, none⟩ = some (.bool b) ∧ w.cell? ⟨g, 2, none⟩ = some (.bool c) ∧ w.cell? ⟨g, 3, none⟩ = some (.bool d) ∧ w.cell? ⟨g, 4, none⟩ = some (.bool y) := ⟨h.cell 0, h.cell 1, h.cell 2, h.cell 3, h.cell 4⟩
theorem perform_0 (W : World) (A : Nat) : Calls Tryd.prog 38 #[.pointer (some ⟨A, 0, none⟩), zeroCd, .int .i64 0, .int .i64 0, zeroMd] W fun e w' => e = .returned (.int .i64 0) ∧ Below W.heap.size W w' := by
  unfold zeroCd zeroMd
  obtain ⟨WA, hWA⟩ : ∃ x, x = (W.alloc (.cells #[.int .i64 0, .slice none 0 0, .slice none 0 0] 40)).alloc (.cells #[.bool false, .bool false, .bool false, .bool false, .bool false] 43) := ⟨_, rfl⟩
  have hB : Below W.heap.size W WA := by rw [hWA]; exact below_alloc (below_alloc (Below.refl _ W) _) _
  have hY : Blk WA (W.heap.size + 1) 43 #[.bool false, .bool false, .bool false, .bool false, .bool false] := by
    have := Blk.new (W.alloc (.cells #[.int .i64 0, .slice none 0 0, .slice none 0 0] 40)) 43 #[.bool false, .bool false, .bool false, .bool false, .bool false]
    rw [hWA]; simpa using this
  have kd : Calls Tryd.prog 55 #[.int .i64 19] WA fun e w' => ∃ a, e = .returned (.tuple #[.pointer (some ⟨a, 0, none⟩), .int .i64 0]) ∧ D0 w' WA.heap.size a (List.replicate 19 2048) ∧ Below WA.heap.size WA w' := dnew_y 19 WA (by decide) (by decide)
  have ks := fun W => segs_no 0 ⟨false, false, false, false, false⟩ (.inl (by decide)) W
  unfold Mo.val at ks
  dsimp only at ks
  have KS := Lib.hid ks
  have HB := Lib.hid hB
  have HY := Lib.hid hY
  have HWA := Lib.hid hWA
  rw [hWA] at kd
  clear hB hY hWA ks
  go_enter Tryd.func38, Tryd.ntmps38
  go_wp2_with (first | (go_at_call 55; (with_reducible refine kd.mono ?_); rintro e w1 ⟨a, rfl, -, hb⟩; have B1 := Lib.hid (show Below WA.heap.size WA w1 by rw [HWA.out]; exact hb); obtain ⟨m0, m1, m2, m3, m4⟩   := md19 (HY.out.below B1.out); have ks := KS.out w1; clear hb) | (go_at_call 56; (with_reducible refine ks.mono ?_); rintro e w2 ⟨rfl, hb⟩; have B2 := Lib.hid (below_call B1.out hb); clear hb) | fail)
  go_loopw [27] (fun i wr => i = .int .i64 0 ∧ wr = w2) (fun _ _ => 0)
  case atStart => exact ⟨rfl, rfl⟩
  case round =>
    obtain ⟨rfl, rfl⟩ := hrel
    go_wp2_with fail
    go_ret
    exact ⟨rfl, below_call HB.out B2.out⟩
end Go.Proofs.YtnmmgjbjnhiaoaaDoor
