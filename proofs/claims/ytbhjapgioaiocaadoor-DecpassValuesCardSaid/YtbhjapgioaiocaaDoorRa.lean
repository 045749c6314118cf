/-
  Layer 14: the reference's block: New, made, in, get, error.
-/
import Derived.Test.YtbhjapgioaiocaaDoorPd
import Derived.Test.YtbhjapgioaiocaaDoorPc2
import Derived.Deep.MidRow
import Derived.Laws.ResultCell
set_option maxRecDepth 100000
namespace Go.Proofs.YtbhjapgioaiocaaDoor
open Go.RowKit

/-- A block of the reference at A, its cells at C. -/
structure Rb (W : World) (B A C w h : Nat) (q : St) : Prop where
  fit : fits (w : Int) (h : Int)
  geA : B ≤ A
  geC : B ≤ C
  obj : Blk W A 106 #[.int .i64 (w : Int), .int .i64 (h : Int), .slice (some ⟨C, 0, none⟩) (w * h) (w * h)]
  grid : ∃ cs, Blk W C 110 cs ∧ ∀ X Y : Nat, X < w → Y < h → cs[(Y * w + X) * 4]? = some (.int .i64 (q.v X Y)) ∧ cs[(Y * w + X) * 4 + 1]? = some (.bool (q.s X Y)) ∧ cs[(Y * w + X) * 4 + 2]? = some (.bool (q.t X Y)) ∧ cs[(Y * w + X) * 4 + 3]? = some (.bool (q.r X Y))
  out : q.Out w h
section
variable {W W' : World} {B A C w h : Nat} {q : St}
theorem Rb.ltC (H : Rb W B A C w h q) : C < W.heap.size := H.grid.elim fun _ h => h.1.lt
theorem Rb.keep (H : Rb W B A C w h q) (hA : W'.heap[A]? = W.heap[A]?) (hC : W'.heap[C]? = W.heap[C]?) : Rb W' B A C w h q := by
  obtain ⟨cs, h1, h2⟩ := H.grid
  exact ⟨H.fit, H.geA, H.geC, hA.trans H.obj, ⟨cs, hC.trans h1, h2⟩, H.out⟩
theorem Rb.kb {fp : List Nat} (H : Rb W B A C w h q) (hk : Kb fp W W') (hA : A ∉ fp) (hC : C ∉ fp) : Rb W' B A C w h q := H.keep (hk.block A H.obj.lt hA) (hk.block C H.ltC hC)
theorem Rb.below (H : Rb W B A C w h q) (hb : Below W.heap.size W W') : Rb W' B A C w h q := H.kb (Kb.of_below [] hb) (by simp) (by simp)
theorem Rb.at (H : Rb W B A C w h q) {x y : Int} (hin : inB w h x y) {i : Nat} (hi : i = y.toNat * w + x.toNat) : W.cell? ⟨C, i * 4, none⟩ = some (.int .i64 (q.v x y)) ∧ W.cell? ⟨C, i * 4 + 1, none⟩ = some (.bool (q.s x y)) ∧ W.cell? ⟨C, i * 4 + 2, none⟩ = some (.bool (q.t x y)) ∧ W.cell? ⟨C, i * 4 + 3, none⟩ = some (.bool (q.r x y)) := by
  obtain ⟨cs, h1, h2⟩ := H.grid
  obtain ⟨i1, i2, i3, i4⟩ := hin
  have := h2 x.toNat y.toNat (by omega) (by omega)
  rw [show ((x.toNat : Nat) : Int) = x by omega, show ((y.toNat : Nat) : Int) = y by omega] at this
  subst hi
  rw [h1.cell, h1.cell, h1.cell, h1.cell]
  exact this
theorem Rb.free (H : Rb W B A C w h q) (i : Nat) : W.frozen? ⟨C, i, none⟩ = false := H.grid.elim fun _ h => h.1.free i
theorem Rb.cells (H : Rb W B A C w h q) : W.cell? ⟨A, 0, none⟩ = some (.int .i64 (w : Int)) ∧ W.cell? ⟨A, 1, none⟩ = some (.int .i64 (h : Int)) ∧ W.cell? ⟨A, 2, none⟩ = some (.slice (some ⟨C, 0, none⟩) (w * h) (w * h)) := ⟨H.obj.cell 0, H.obj.cell 1, H.obj.cell 2⟩
theorem Rb.pos (H : Rb W B A C w h q) : 0 < w * h ∧ w * h ≤ 4096 := by
  obtain ⟨f1, f2, f3, f4⟩ := H.fit
  exact ⟨Nat.mul_pos (by omega) (by omega), Nat.mul_le_mul (show w ≤ 64 by omega) (show h ≤ 64 by omega)⟩
theorem rmade_y (H : Rb W B A C w h q) : Calls Tryd.prog 93 #[.pointer (some ⟨A, 0, none⟩)] W fun e w' => e = .returned (.bool true) ∧ W = w' := by
  obtain ⟨c0, c1, c2⟩ := H.cells
  obtain ⟨p1, p2⟩ := H.pos
  generalize w * h = N at *
  clear H c0 c1
  go_enter Tryd.func93, Tryd.ntmps93
  go_wp2_with fail
  go_ret
  exact ⟨by first | rfl | (simp; omega), rfl⟩
theorem rin_c (H : Rb W B A C w h q) (x y : Int) : Calls Tryd.prog 111 #[.pointer (some ⟨A, 0, none⟩), .int .i64 x, .int .i64 y] W fun e w' => e = .returned (.bool (decide (inB w h x y))) ∧ W = w' := by
  have m := rmade_y H
  obtain ⟨c0, c1, c2⟩ := H.cells
  by_cases hin : inB w h x y
  · have e : decide (inB w h x y) = true := by simpa using hin
    rw [e]
    obtain ⟨h1, h2, h3, h4⟩ := hin
    clear H c2 e
    go_enter Tryd.func111, Tryd.ntmps111
    go_wp2_with (first | (go_at_call 93; (with_reducible refine m.mono ?_); rintro e wn ⟨rfl, rfl⟩))
    go_ret
    exact ⟨by first | rfl | (simp; omega), rfl⟩
  · have e : decide (inB w h x y) = false := by simpa using hin
    rw [e]
    have hc : x < 0 ∨ (0 ≤ x ∧ (w : Int) ≤ x) ∨ (0 ≤ x ∧ x < w ∧ y < 0) ∨ (0 ≤ x ∧ x < w ∧ 0 ≤ y ∧ (h : Int) ≤ y) := by unfold inB at hin; omega
    clear hin H c2 e
    rcases hc with h1 | ⟨h1, h2⟩ | ⟨h1, h2, h3⟩ | ⟨h1, h2, h3, h4⟩ <;>
     (go_enter Tryd.func111, Tryd.ntmps111
      go_wp2_with (first | (go_at_call 93; (with_reducible refine m.mono ?_); rintro e wn ⟨rfl, rfl⟩))
      go_ret
      exact ⟨by first | rfl | (simp; omega), rfl⟩)
def ixR (w : Nat) (x y : Int) : Nat := y.toNat * w + x.toNat
theorem ixR_lt {x y : Int} (hin : inB w h x y) : ixR w x y < w * h := by
  obtain ⟨h1, h2, h3, h4⟩ := hin
  exact grid_lt (by omega) (by omega)
theorem ixR_w {x y : Int} (hf : fits (w : Int) (h : Int)) (hin : inB w h x y) : IntKind.i64.wrap (y * (w : Int)) = ((y.toNat * w : Nat) : Int) ∧ IntKind.i64.wrap (((y.toNat * w : Nat) : Int) + x) = ((ixR w x y : Nat) : Int) := by
  obtain ⟨h1, h2, h3, h4⟩ := hin
  obtain ⟨f1, f2, f3, f4⟩ := hf
  have hs : y.toNat * w ≤ 64 * 64 := Nat.mul_le_mul (by omega) (by omega)
  constructor
  · have := wrap_mul y.toNat w (by omega)
    rw [show ((y.toNat : Nat) : Int) = y by omega] at this
    exact this
  · unfold ixR
    rw [IntWalk.i64_left, Int.natCast_add]
    generalize y.toNat * w = c at *
    unfold wrap64; omega
def cellV (q : St) (x y : Int) : Value := .agg #[.int .i64 (q.v x y), .bool (q.s x y), .bool (q.t x y), .bool (q.r x y)]
theorem get_o (H : Rb W B A C w h q) (x y : Int) (hin : ¬ inB w h x y) : Calls Tryd.prog 101 #[.pointer (some ⟨A, 0, none⟩), .int .i64 x, .int .i64 y] W fun e w' => e = .returned (cellV q x y) ∧ Below W.heap.size W w' := by
  have hB := below_alloc (Below.refl _ W) (.cells #[.int .i64 0, .bool false, .bool false, .bool false] 110)
  have i := rin_c (H.below hB) x y
  rw [show decide (inB w h x y) = false by simpa using hin] at i
  obtain ⟨o1, o2, o3, o4⟩ := H.out x y hin
  unfold cellV
  rw [o1, o2, o3, o4]
  have HB := Lib.hid hB
  clear H hin o1 o2 o3 o4 hB
  go_enter Tryd.func101, Tryd.ntmps101
  go_wp2_with (first | (go_at_call 111; (with_reducible refine i.mono ?_); rintro e wn ⟨rfl, rfl⟩))
  refine bodyPost_ret (v := .agg #[.int .i64 0, .bool false, .bool false, .bool false]) (by simp [results, Tryd.results101, go_sem]) rfl ⟨rfl, HB.out⟩
theorem get_y (H : Rb W B A C w h q) (x y : Int) (hin : inB w h x y) : Calls Tryd.prog 101 #[.pointer (some ⟨A, 0, none⟩), .int .i64 x, .int .i64 y] W fun e w' => e = .returned (cellV q x y) ∧ Below W.heap.size W w' := by
  have hB := below_alloc (Below.refl _ W) (.cells #[.int .i64 0, .bool false, .bool false, .bool false] 110)
  have H1 := H.below hB
  have i := rin_c H1 x y
  rw [show decide (inB w h x y) = true by simpa using hin] at i
  obtain ⟨c0, c1, c2⟩ := H1.cells
  obtain ⟨d0, d1, d2, d3⟩ := H1.at hin (i := ixR w x y) rfl
  obtain ⟨w1, w2⟩ := ixR_w H.fit hin
  have lt := ixR_lt hin
  have ltI : ((ixR w x y : Nat) : Int) < ((w * h : Nat) : Int) := by omega
  have hCne : C ≠ W.heap.size := by have := H.ltC; omega
  unfold cellV
  generalize q.v x y = v at *
  generalize q.s x y = s at *
  generalize q.t x y = t at *
  generalize q.r x y = r at *
  generalize ixR w x y = ii at *
  generalize y.toNat * w = P at *
  generalize w * h = N at *
  have HB := Lib.hid hB
  clear H H1 hin hB c1
  go_enter Tryd.func101, Tryd.ntmps101
  go_wp2_with (first | (go_at_call 111; (with_reducible refine i.mono ?_); rintro e wn ⟨rfl, rfl⟩))
  go_region
  go_wp2_with fail
  refine bodyPost_ret (v := .agg #[.int .i64 v, .bool s, .bool t, .bool r]) (by simp [results, Tryd.results101, go_sem]) rfl ⟨rfl, (below_alloc (Below.refl _ W) _).drew⟩
theorem fld0 (v : Int) (s t r : Bool) (w : World) : (Instr.field 110 (.agg #[.int .i64 v, .bool s, .bool t, .bool r]) 0).run Tryd.prog w = .ok (.int .i64 v) w := by kernel_rfl
theorem fld1 (v : Int) (s t r : Bool) (w : World) : (Instr.field 110 (.agg #[.int .i64 v, .bool s, .bool t, .bool r]) 1).run Tryd.prog w = .ok (.bool s) w := by kernel_rfl
theorem fld2 (v : Int) (s t r : Bool) (w : World) : (Instr.field 110 (.agg #[.int .i64 v, .bool s, .bool t, .bool r]) 2).run Tryd.prog w = .ok (.bool t) w := by kernel_rfl
theorem fld3 (v : Int) (s t r : Bool) (w : World) : (Instr.field 110 (.agg #[.int .i64 v, .bool s, .bool t, .bool r]) 3).run Tryd.prog w = .ok (.bool r) w := by kernel_rfl
theorem get_c (H : Rb W B A C w h q) (x y : Int) : Calls Tryd.prog 101 #[.pointer (some ⟨A, 0, none⟩), .int .i64 x, .int .i64 y] W fun e w' => e = .returned (cellV q x y) ∧ Below W.heap.size W w' := by
  by_cases hin : inB w h x y
  · exact get_y H x y hin
  · exact get_o H x y hin
theorem error_c (H : Rb W B A C w h q) (x y : Int) : Calls Tryd.prog 86 #[.pointer (some ⟨A, 0, none⟩), .int .i64 x, .int .i64 y] W fun e w' => e = .returned (.int .i64 (if inB w h x y then 0 else 2)) ∧ W = w' := by
  have m := rmade_y H
  have i := rin_c H x y
  by_cases hin : inB w h x y
  · rw [show decide (inB w h x y) = true by simpa using hin] at i
    rw [if_pos hin]
    clear H hin
    go_enter Tryd.func86, Tryd.ntmps86
    go_wp2_with (first | (go_at_call 93; (with_reducible refine m.mono ?_); rintro e wn ⟨rfl, rfl⟩) | (go_at_call 111; (with_reducible refine i.mono ?_); rintro e wn ⟨rfl, rfl⟩))
    go_ret
    exact ⟨rfl, rfl⟩
  · rw [show decide (inB w h x y) = false by simpa using hin] at i
    rw [if_neg hin]
    clear H hin
    go_enter Tryd.func86, Tryd.ntmps86
    go_wp2_with (first | (go_at_call 93; (with_reducible refine m.mono ?_); rintro e wn ⟨rfl, rfl⟩) | (go_at_call 111; (with_reducible refine i.mono ?_); rintro e wn ⟨rfl, rfl⟩))
    go_ret
    exact ⟨rfl, rfl⟩
theorem rvalue_c (H : Rb W B A C w h q) (x y : Int) : Calls Tryd.prog 63 #[.pointer (some ⟨A, 0, none⟩), .int .i64 x, .int .i64 y] W fun e w' => e = .returned (.int .i64 (q.v x y)) ∧ Below W.heap.size W w' := by
  have g := get_c H x y
  unfold cellV at g
  clear H
  have f0 := fld0
  go_enter Tryd.func63, Tryd.ntmps63
  go_wp2_with fail
  refine g.mono ?_
  rintro e w1 ⟨rfl, hb⟩
  go_wp2_with fail
  go_ret
  exact ⟨rfl, hb⟩
theorem rsignificant_c (H : Rb W B A C w h q) (x y : Int) : Calls Tryd.prog 65 #[.pointer (some ⟨A, 0, none⟩), .int .i64 x, .int .i64 y] W fun e w' => e = .returned (.bool (q.s x y)) ∧ Below W.heap.size W w' := by
  have g := get_c H x y
  unfold cellV at g
  clear H
  have f1 := fld1
  go_enter Tryd.func65, Tryd.ntmps65
  go_wp2_with fail
  refine g.mono ?_
  rintro e w1 ⟨rfl, hb⟩
  go_wp2_with fail
  go_ret
  exact ⟨rfl, hb⟩
theorem rtouched_c (H : Rb W B A C w h q) (x y : Int) : Calls Tryd.prog 67 #[.pointer (some ⟨A, 0, none⟩), .int .i64 x, .int .i64 y] W fun e w' => e = .returned (.bool (q.t x y)) ∧ Below W.heap.size W w' := by
  have g := get_c H x y
  unfold cellV at g
  clear H
  have f2 := fld2
  go_enter Tryd.func67, Tryd.ntmps67
  go_wp2_with fail
  refine g.mono ?_
  rintro e w1 ⟨rfl, hb⟩
  go_wp2_with fail
  go_ret
  exact ⟨rfl, hb⟩
theorem rrefined_c (H : Rb W B A C w h q) (x y : Int) : Calls Tryd.prog 69 #[.pointer (some ⟨A, 0, none⟩), .int .i64 x, .int .i64 y] W fun e w' => e = .returned (.bool (q.r x y)) ∧ Below W.heap.size W w' := by
  have g := get_c H x y
  unfold cellV at g
  clear H
  have f3 := fld3
  go_enter Tryd.func69, Tryd.ntmps69
  go_wp2_with fail
  refine g.mono ?_
  rintro e w1 ⟨rfl, hb⟩
  go_wp2_with fail
  go_ret
  exact ⟨rfl, hb⟩
end
end Go.Proofs.YtbhjapgioaiocaaDoor
