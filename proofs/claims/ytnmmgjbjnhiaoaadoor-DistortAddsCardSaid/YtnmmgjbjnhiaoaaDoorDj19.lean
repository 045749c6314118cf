/-
  Layer 19, for the example: Curve of the example's block.
-/
import Derived.Test.YtnmmgjbjnhiaoaaDoorDf19
import Derived.Laws.ResultCell
set_option maxRecDepth 100000
namespace Go.Proofs.YtnmmgjbjnhiaoaaDoor
open Go.RowKit

theorem load_curve {W : World} {g : Nat} {v0 v1 : Value} (B : Blk W g 57 #[v0, v1]) : (loadVar 57 ⟨g, 0, none⟩).run Tryd.prog W = .ok (.agg #[v0, v1]) W := by
  have c0 : W.cell? ⟨g, 0, none⟩ = some v0 := B.cell 0
  have c1 : W.cell? ⟨g, 1, none⟩ = some v1 := B.cell 1
  simp [loadVar, go_sem, c0, c1]
theorem results_curve {fn : Func} {p u : Tmp} (h : fn.results = #[.cell p 57, .tmp u]) (tmps : Array Value) {W : World} {g : Nat} {v0 v1 x : Value} (hp : tmps.getD p undef = .pointer (some ⟨g, 0, none⟩)) (hu : tmps.getD u undef = x) (B : Blk W g 57 #[v0, v1]) :
    (results fn tmps).run Tryd.prog W = .ok (.tuple #[.agg #[v0, v1], x]) W := by
  rw [results_cell_tmp h, hp, hu]
  have e : (asAddr (.pointer (some ⟨g, 0, none⟩))).run Tryd.prog W = .ok (⟨g, 0, none⟩ : Addr) W := rfl
  rw [e]
  simp only [Result.andThen]
  rw [load_curve B]
theorem Blk.one {w : World} {g : Nat} {x : Int} (h : Blk w g 3 #[.int .i64 x]) : HoldsI w (some ⟨g, 0, none⟩) [x] := .inr ⟨g, 0, rfl, fun j hj => by
  simp at hj
  subst hj
  exact h.cell 0⟩
theorem Blk.set2 {w : World} {g : Nat} {t : TypeId} {a b : Value} (h : Blk w g t #[a, b]) (x y : Value) : Blk ((w.setCell ⟨g, 0, none⟩ x).setCell ⟨g, 1, none⟩ y) g t #[x, y] := (h.set 0 x).set 1 y
theorem boxes_0 (W : World) (s0 : Option Addr) (hh : HoldsI W s0 [3, 0, 0, 1]) (WA : World) (hWA : WA = (((((((((((W.alloc (.cells #[.slice s0 4 4] 28)).alloc (.cells #[.int .i64 0, .slice none 0 0, .slice none 0 0] 40)).alloc (.cells #[.int .i64 2] 3)).alloc (.cells #[.int .i64 2] 3)).alloc (.cells #[.int .i64 0] 41)).alloc (.cells #[.bool false, .bool false, .bool false, .bool false, .bool false] 43)).alloc (.cells #[.int .i64 1] 3)).alloc (.cells #[.int .i64 16] 3)).alloc (.cells #[.int .i64 2] 3)).alloc (.cells #[.int .i64 0] 3)).alloc (.cells #[.slice none 0 0, .slice none 0 0] 57))) : Below W.heap.size W WA ∧ BoxX WA (W.heap.size + 1) 0 (W.heap.size + 1 + 1) (W.heap.size + 1 + 1 + 1) (W.heap.size + 1 + 1 + 1 + 1) (W.heap.size + 1 + 1 + 1 + 1 + 1) (W.heap.size + 1 + 1 + 1 + 1 + 1 + 1 + 1 + 1 + 1) (W.heap.size) (W.heap.size + 1 + 1 + 1 + 1 + 1 + 1) (W.heap.size + 1 + 1 + 1 + 1 + 1 + 1 + 1) (W.heap.size + 1 + 1 + 1 + 1 + 1 + 1 + 1 + 1) s0 ∧ Blk WA (W.heap.size + 1 + 1 + 1 + 1 + 1 + 1 + 1 + 1 + 1 + 1) 57 #[.slice none 0 0, .slice none 0 0] := by
  obtain ⟨w1, hw1⟩ : ∃ x, x = W.alloc (.cells #[.slice s0 4 4] 28) := ⟨_, rfl⟩
  have z1 : w1.heap.size = W.heap.size + 1 := by rw [hw1]; simp
  have n1 : Blk w1 W.heap.size 28 #[.slice s0 4 4] := by rw [hw1]; exact Blk.new W _ _
  obtain ⟨w2, hw2⟩ : ∃ x, x = w1.alloc (.cells #[.int .i64 0, .slice none 0 0, .slice none 0 0] 40) := ⟨_, rfl⟩
  have z2 : w2.heap.size = w1.heap.size + 1 := by rw [hw2]; simp
  have n2 : Blk w2 w1.heap.size 40 #[.int .i64 0, .slice none 0 0, .slice none 0 0] := by rw [hw2]; exact Blk.new w1 _ _
  obtain ⟨w3, hw3⟩ : ∃ x, x = w2.alloc (.cells #[.int .i64 2] 3) := ⟨_, rfl⟩
  have z3 : w3.heap.size = w2.heap.size + 1 := by rw [hw3]; simp
  have n3 : Blk w3 w2.heap.size 3 #[.int .i64 2] := by rw [hw3]; exact Blk.new w2 _ _
  obtain ⟨w4, hw4⟩ : ∃ x, x = w3.alloc (.cells #[.int .i64 2] 3) := ⟨_, rfl⟩
  have z4 : w4.heap.size = w3.heap.size + 1 := by rw [hw4]; simp
  have n4 : Blk w4 w3.heap.size 3 #[.int .i64 2] := by rw [hw4]; exact Blk.new w3 _ _
  obtain ⟨w5, hw5⟩ : ∃ x, x = w4.alloc (.cells #[.int .i64 0] 41) := ⟨_, rfl⟩
  have z5 : w5.heap.size = w4.heap.size + 1 := by rw [hw5]; simp
  have n5 : Blk w5 w4.heap.size 41 #[.int .i64 0] := by rw [hw5]; exact Blk.new w4 _ _
  obtain ⟨w6, hw6⟩ : ∃ x, x = w5.alloc (.cells #[.bool false, .bool false, .bool false, .bool false, .bool false] 43) := ⟨_, rfl⟩
  have z6 : w6.heap.size = w5.heap.size + 1 := by rw [hw6]; simp
  have n6 : Blk w6 w5.heap.size 43 #[.bool false, .bool false, .bool false, .bool false, .bool false] := by rw [hw6]; exact Blk.new w5 _ _
  obtain ⟨w7, hw7⟩ : ∃ x, x = w6.alloc (.cells #[.int .i64 1] 3) := ⟨_, rfl⟩
  have z7 : w7.heap.size = w6.heap.size + 1 := by rw [hw7]; simp
  have n7 : Blk w7 w6.heap.size 3 #[.int .i64 1] := by rw [hw7]; exact Blk.new w6 _ _
  obtain ⟨w8, hw8⟩ : ∃ x, x = w7.alloc (.cells #[.int .i64 16] 3) := ⟨_, rfl⟩
  have z8 : w8.heap.size = w7.heap.size + 1 := by rw [hw8]; simp
  have n8 : Blk w8 w7.heap.size 3 #[.int .i64 16] := by rw [hw8]; exact Blk.new w7 _ _
  obtain ⟨w9, hw9⟩ : ∃ x, x = w8.alloc (.cells #[.int .i64 2] 3) := ⟨_, rfl⟩
  have z9 : w9.heap.size = w8.heap.size + 1 := by rw [hw9]; simp
  have n9 : Blk w9 w8.heap.size 3 #[.int .i64 2] := by rw [hw9]; exact Blk.new w8 _ _
  obtain ⟨w10, hw10⟩ : ∃ x, x = w9.alloc (.cells #[.int .i64 0] 3) := ⟨_, rfl⟩
  have z10 : w10.heap.size = w9.heap.size + 1 := by rw [hw10]; simp
  have n10 : Blk w10 w9.heap.size 3 #[.int .i64 0] := by rw [hw10]; exact Blk.new w9 _ _
  obtain ⟨w11, hw11⟩ : ∃ x, x = w10.alloc (.cells #[.slice none 0 0, .slice none 0 0] 57) := ⟨_, rfl⟩
  have z11 : w11.heap.size = w10.heap.size + 1 := by rw [hw11]; simp
  have n11 : Blk w11 w10.heap.size 57 #[.slice none 0 0, .slice none 0 0] := by rw [hw11]; exact Blk.new w10 _ _
  have b11 : Below w11.heap.size w11 w11 := Below.refl _ _
  have b10 : Below w10.heap.size w10 w11 := ((by rw [hw11]; exact below_alloc (Below.refl _ w10) _ : Below w10.heap.size w10 w11)).trans (b11.mono (by omega))
  have b9 : Below w9.heap.size w9 w11 := ((by rw [hw10]; exact below_alloc (Below.refl _ w9) _ : Below w9.heap.size w9 w10)).trans (b10.mono (by omega))
  have b8 : Below w8.heap.size w8 w11 := ((by rw [hw9]; exact below_alloc (Below.refl _ w8) _ : Below w8.heap.size w8 w9)).trans (b9.mono (by omega))
  have b7 : Below w7.heap.size w7 w11 := ((by rw [hw8]; exact below_alloc (Below.refl _ w7) _ : Below w7.heap.size w7 w8)).trans (b8.mono (by omega))
  have b6 : Below w6.heap.size w6 w11 := ((by rw [hw7]; exact below_alloc (Below.refl _ w6) _ : Below w6.heap.size w6 w7)).trans (b7.mono (by omega))
  have b5 : Below w5.heap.size w5 w11 := ((by rw [hw6]; exact below_alloc (Below.refl _ w5) _ : Below w5.heap.size w5 w6)).trans (b6.mono (by omega))
  have b4 : Below w4.heap.size w4 w11 := ((by rw [hw5]; exact below_alloc (Below.refl _ w4) _ : Below w4.heap.size w4 w5)).trans (b5.mono (by omega))
  have b3 : Below w3.heap.size w3 w11 := ((by rw [hw4]; exact below_alloc (Below.refl _ w3) _ : Below w3.heap.size w3 w4)).trans (b4.mono (by omega))
  have b2 : Below w2.heap.size w2 w11 := ((by rw [hw3]; exact below_alloc (Below.refl _ w2) _ : Below w2.heap.size w2 w3)).trans (b3.mono (by omega))
  have b1 : Below w1.heap.size w1 w11 := ((by rw [hw2]; exact below_alloc (Below.refl _ w1) _ : Below w1.heap.size w1 w2)).trans (b2.mono (by omega))
  have b0 : Below W.heap.size W w11 := ((by rw [hw1]; exact below_alloc (Below.refl _ W) _ : Below W.heap.size W w1)).trans (b1.mono (by omega))
  have e : WA = w11 := by rw [hWA, hw11, hw10, hw9, hw8, hw7, hw6, hw5, hw4, hw3, hw2, hw1]
  subst e
  have m1 := n1.below b1
  have m2 := n2.below b2
  have m3 := n3.below b3
  have m4 := n4.below b4
  have m5 := n5.below b5
  have m6 := n6.below b6
  have m7 := n7.below b7
  have m8 := n8.below b8
  have m9 := n9.below b9
  have m10 := n10.below b10
  have m11 := n11.below b11
  rw [z10, z9, z8, z7, z6, z5, z4, z3, z2, z1] at m11
  rw [z1] at m2
  rw [z2, z1] at m3
  rw [z3, z2, z1] at m4
  rw [z4, z3, z2, z1] at m5
  rw [z5, z4, z3, z2, z1] at m6
  rw [z6, z5, z4, z3, z2, z1] at m7
  rw [z7, z6, z5, z4, z3, z2, z1] at m8
  rw [z8, z7, z6, z5, z4, z3, z2, z1] at m9
  rw [z9, z8, z7, z6, z5, z4, z3, z2, z1] at m10
  exact ⟨b0, ⟨m2, m3.cell 0, m4.cell 0, m5.cell 0, m6, m10.cell 0, m1.cell 0, m7.cell 0, m8.cell 0, m9.cell 0, hh.call b0⟩, m11⟩
set_option maxHeartbeats 8000000 in
theorem curve_0 (W : World) (s0 : Option Addr) (hh : HoldsI W s0 [3, 0, 0, 1]) :
    Calls Tryd.prog 27 #[.slice s0 4 4, .agg #[.int .i64 0, .slice none 0 0, .slice none 0 0], .int .i64 2, .int .i64 2, .int .i64 0, .agg #[.bool false, .bool false, .bool false, .bool false, .bool false], .int .i64 1, .int .i64 16, .int .i64 2, .int .i64 0] W fun e w' => ∃ g1 o1 m1 g2 o2 m2, e = .returned (.tuple #[.agg #[.slice (some ⟨g1, o1, none⟩) 1 m1, .slice (some ⟨g2, o2, none⟩) 1 m2], .int .i64 0]) ∧ HoldsI w' (some ⟨g1, o1, none⟩) [0] ∧ HoldsI w' (some ⟨g2, o2, none⟩) [20] ∧ Below W.heap.size W w' := by
  obtain ⟨WA, hWA⟩ : ∃ x, x = (((((((((((W.alloc (.cells #[.slice s0 4 4] 28)).alloc (.cells #[.int .i64 0, .slice none 0 0, .slice none 0 0] 40)).alloc (.cells #[.int .i64 2] 3)).alloc (.cells #[.int .i64 2] 3)).alloc (.cells #[.int .i64 0] 41)).alloc (.cells #[.bool false, .bool false, .bool false, .bool false, .bool false] 43)).alloc (.cells #[.int .i64 1] 3)).alloc (.cells #[.int .i64 16] 3)).alloc (.cells #[.int .i64 2] 3)).alloc (.cells #[.int .i64 0] 3)).alloc (.cells #[.slice none 0 0, .slice none 0 0] 57)) := ⟨_, rfl⟩
  obtain ⟨hB, hX, hC⟩ := boxes_0 W s0 hh WA hWA
  have ka := after_0 WA _ 0 _ _ _ _ _ _ _ _ _ s0 hX
  have HB := Lib.hid hB
  have HX := Lib.hid hX
  have HC := Lib.hid hC
  have HWA := Lib.hid hWA
  rw [hWA] at ka
  clear hB hX hC hWA hh
  go_enter Tryd.func27, Tryd.ntmps27
  go_wp2_with (first | (go_at_call 45; (with_reducible refine ka.mono ?_); rintro e w1 ⟨rfl, hb⟩; have B1 := Lib.hid (show Below WA.heap.size WA w1 by rw [HWA.out]; exact hb); have x9 := (HX.out.call B1.out).sh; have y1 := (HX.out.call B1.out).c.cell 1; have x1 : ∀ X Y Z : Obj, (((w1.alloc X).alloc Y).alloc Z).cell? ⟨W.heap.size + 1, 1, none⟩ = some (.slice none 0 0) := fun X Y Z => cell_alloc (cell_alloc (cell_alloc y1 X) Y) Z; clear hb y1) | fail)
  clear x1 x9 ka
  obtain ⟨wx, hwx⟩ : ∃ x, x = ((w1.alloc (.cells #[.int .i64 0] 3)).alloc (.cells #[.int .i64 20] 3)).alloc (.cells #[.slice (some ⟨w1.heap.size, 0, none⟩) 1 1, .slice (some ⟨w1.heap.size + 1, 0, none⟩) 1 1] 57) := ⟨_, rfl⟩
  rw [← hwx]
  go_loopw [57] (fun u wr => u = .int .i64 0 ∧ wr = wx) (fun _ _ => 0)
  case atStart => exact ⟨rfl, rfl⟩
  case round =>
    obtain ⟨rfl, rfl⟩ := hrel
    have b1 : Blk wr w1.heap.size 3 #[.int .i64 0] := by rw [hwx]; exact ((Blk.new w1 _ _).alloc _).alloc _
    have b2 : Blk wr (w1.heap.size + 1) 3 #[.int .i64 20] := by
      have := (Blk.new (w1.alloc (.cells #[.int .i64 0] 3)) 3 #[.int .i64 20]).alloc (.cells #[.slice (some ⟨w1.heap.size, 0, none⟩) 1 1, .slice (some ⟨w1.heap.size + 1, 0, none⟩) 1 1] 57)
      rw [hwx]; simpa using this
    have b3 : Blk wr (w1.heap.size + 1 + 1) 57 #[.slice (some ⟨w1.heap.size, 0, none⟩) 1 1, .slice (some ⟨w1.heap.size + 1, 0, none⟩) 1 1] := by
      have := Blk.new ((w1.alloc (.cells #[.int .i64 0] 3)).alloc (.cells #[.int .i64 20] 3)) 57 #[.slice (some ⟨w1.heap.size, 0, none⟩) 1 1, .slice (some ⟨w1.heap.size + 1, 0, none⟩) 1 1]
      rw [hwx]; simpa using this
    have hbx : Below w1.heap.size w1 wr := by rw [hwx]; exact below_alloc (below_alloc (below_alloc (Below.refl _ _) _) _) _
    have hr := HC.out.below (below_call B1.out hbx)
    have z0 := b3.cell 0
    have z1 := b3.cell 1
    have r0 := hr.cell 0
    have r1 := hr.cell 1
    have f0 := hr.free 0
    have f1 := hr.free 1
    have hrl := hr.lt
    have hne1 : w1.heap.size ≠ W.heap.size + 1 + 1 + 1 + 1 + 1 + 1 + 1 + 1 + 1 + 1 := fun e => by have := (HC.out.below B1.out).lt; omega
    have hne2 : w1.heap.size + 1 ≠ W.heap.size + 1 + 1 + 1 + 1 + 1 + 1 + 1 + 1 + 1 + 1 := fun e => by have := (HC.out.below B1.out).lt; omega
    have N1 := Lib.hid hne1
    have N2 := Lib.hid hne2
    have HR := Lib.hid hr
    have HB1 := Lib.hid b1
    have HB2 := Lib.hid b2
    have HBX := Lib.hid hbx
    clear b1 b2 b3 hbx hr hwx hrl hne1 hne2
    go_wp2_with fail
    (try simp only [Exit.inBlock, Exit.then])
    refine bodyPost_ret (results_curve rfl _ rfl rfl (HR.out.set2 _ _)) rfl ?_
    refine ⟨_, _, _, _, _, _, rfl, ((HB1.out.far N1.out _).far N1.out _).one, ((HB2.out.far N2.out _).far N2.out _).one, ?_⟩
    exact ((below_call HB.out (below_call B1.out HBX.out)).setCell (p := ⟨W.heap.size + 1 + 1 + 1 + 1 + 1 + 1 + 1 + 1 + 1 + 1, 0, none⟩) (by show W.heap.size ≤ W.heap.size + 1 + 1 + 1 + 1 + 1 + 1 + 1 + 1 + 1 + 1; omega) _).setCell (p := ⟨W.heap.size + 1 + 1 + 1 + 1 + 1 + 1 + 1 + 1 + 1 + 1, 1, none⟩) (by show W.heap.size ≤ W.heap.size + 1 + 1 + 1 + 1 + 1 + 1 + 1 + 1 + 1 + 1; omega) _
end Go.Proofs.YtnmmgjbjnhiaoaaDoor
