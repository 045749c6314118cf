/-
  Layer 14: the code's block: Neighbors and Signs; New.
  Layer 14: the code's block: Signs; New.
  Layer 14: New of the code.
  Layer 15: the passes of the encoder in mathematics.
-/
import Derived.Test.YtklchodbnjebnaaDoorPe
import Derived.Test.YtklchodbnjebnaaDoorNG
import Derived.Test.YtklchodbnjebnaaDoorNE
set_option maxRecDepth 100000
namespace Go.Proofs.YtklchodbnjebnaaDoor
open Go.RowKit

def sg (q : St) (x y : Int) : Int := if q.s x y then (if q.v x y < 0 then -1 else 1) else 0
theorem sg_in (q : St) (x y : Int) : -1 ≤ sg q x y ∧ sg q x y ≤ 1 := by unfold sg; split; split <;> omega; omega
def cn (q : St) (x y : Int) : Int := b8 (q.s x y)
theorem cn_in (q : St) (x y : Int) : 0 ≤ cn q x y ∧ cn q x y ≤ 1 := by unfold cn b8; split <;> omega
def nbH (q : St) (x y : Int) : Int := cn q (x - 1) y + cn q (x + 1) y
def nbV (q : St) (x y : Int) (c : Bool) : Int := cn q x (y - 1) + (if hid y c then 0 else cn q x (y + 1))
def nbD (q : St) (x y : Int) (c : Bool) : Int := cn q (x - 1) (y - 1) + cn q (x + 1) (y - 1) + (if hid y c then 0 else cn q (x - 1) (y + 1) + cn q (x + 1) (y + 1))
def sgH (q : St) (x y : Int) : Int := jnt (sg q (x - 1) y) (sg q (x + 1) y)
def sgV (q : St) (x y : Int) (c : Bool) : Int := jnt (sg q x (y - 1)) (if hid y c then 0 else sg q x (y + 1))
section
variable {W : World} {B A V S T R w h : Nat} {q : St}
theorem sign_c (H : Cb W B A V S T R w h q) (x y : Int) (i : Nat) (hx : -1 ≤ x ∧ x ≤ w) (hy : -1 ≤ y ∧ y ≤ h) (hi : (i : Int) = (((y + 1).toNat * (w + 2) : Nat) : Int) + x + 1) : Calls Tryd.prog 93 #[.pointer (some ⟨A, 0, none⟩), .int .i64 (i : Int)] W fun e w' => e = .returned (.int .i64 (sg q x y)) ∧ W = w' := by
  obtain ⟨c0, c1, c2, c3, c4, c5, c6⟩ := H.cells
  have d1 := H.gs.at hx hy hi
  have d2 := H.gv.at hx hy hi
  have lt : i < (w + 2) * (h + 2) := by
    have := grid_lt (w := w + 2) (h := h + 2) (X := (x + 1).toNat) (Y := (y + 1).toNat) (by omega) (by omega)
    omega
  generalize (w + 2) * (h + 2) = N at *
  unfold sg
  generalize q.s x y = z at *
  generalize q.v x y = v at *
  clear H hx hy hi c0 c1 c4 c5 c6
  cases z with
  | false =>
    unfold b8 at d1
    simp at d1
    go_enter Tryd.func93, Tryd.ntmps93
    go_wp2_with fail
    go_ret
    exact ⟨rfl, rfl⟩
  | true =>
    unfold b8 at d1
    simp at d1
    by_cases hv : v < 0
    · rw [if_pos rfl, if_pos hv]
      go_enter Tryd.func93, Tryd.ntmps93
      go_wp2_with fail
      go_ret
      exact ⟨rfl, rfl⟩
    · rw [if_pos rfl, if_neg hv]
      go_enter Tryd.func93, Tryd.ntmps93
      go_wp2_with fail
      go_ret
      exact ⟨rfl, rfl⟩
/-- A world that differs in draws alone. -/
def Dn (W w' : World) : Prop := ∃ m, w' = W.drewN m
theorem dn_mk (W : World) (n : Nat) : Dn W (W.drewN n) := ⟨n, rfl⟩
theorem dn_refl (W : World) : Dn W W := ⟨0, rfl⟩
theorem dn_trans {W W1 W2 : World} (h : Dn W W1) (h' : Dn W1 W2) : Dn W W2 := by
  obtain ⟨n, rfl⟩ := h
  obtain ⟨m, rfl⟩ := h'
  exact ⟨n + m, by rw [World.drewN_drewN]⟩
theorem Dn.below {W W1 : World} (h : Dn W W1) : Below W.heap.size W W1 := by
  obtain ⟨n, rfl⟩ := h
  exact drewN_below _ _
def NGives (a b c : Int) (W : World) (e : Ending) (w' : World) : Prop := e = .returned (.tuple #[.int .i64 a, .int .i64 b, .int .i64 c]) ∧ Dn W w'
theorem nb_o (H : Cb W B A V S T R w h q) (x y : Int) (c : Bool) (hin : ¬ inB w h x y) : Calls Tryd.prog 81 #[.pointer (some ⟨A, 0, none⟩), .int .i64 x, .int .i64 y, .bool c] W (NGives 0 0 0 W) := by
  have f := find_o H x y hin
  clear H hin
  go_enter Tryd.func81, Tryd.ntmps81
  go_wp2_with (first | (go_at_call 43; (with_reducible refine f.mono ?_); rintro e wn ⟨rfl, rfl⟩))
  go_ret3
  exact ⟨rfl, dn_refl _⟩
theorem ix_up {y : Int} (w : Nat) (hy : 0 ≤ y) : (((y + 1).toNat * (w + 2) : Nat) : Int) = ((((y - 1) + 1).toNat * (w + 2) : Nat) : Int) + (w : Int) + 2 := by
  rw [show (y + 1).toNat = (y - 1 + 1).toNat + 1 by omega, Nat.succ_mul]
  omega
theorem ix_dn {y : Int} (w : Nat) (hy : 0 ≤ y) : ((((y + 1) + 1).toNat * (w + 2) : Nat) : Int) = (((y + 1).toNat * (w + 2) : Nat) : Int) + (w : Int) + 2 := by
  rw [show (y + 1 + 1).toNat = (y + 1).toNat + 1 by omega, Nat.succ_mul]
  omega
theorem row_q (a w : Nat) (W : World) (hw : w ≤ 64) (h0 : W.cell? ⟨a, 0, none⟩ = some (.int .i64 (w : Int))) : Calls Tryd.prog 63 #[.pointer (some ⟨a, 0, none⟩)] W fun e w' => e = .returned (.int .i64 ((w : Int) + 2)) ∧ w' = W := (row_c a w W hw h0).mono fun _ _ h => ⟨h.1, h.2.symm⟩
/-- The three cells beside one another. -/
theorem three (H : Cb W B A V S T R w h q) (x y : Int) (i : Nat) (hx : 0 ≤ x ∧ x < w) (hy : -1 ≤ y ∧ y ≤ h) (hi : (i : Int) = (((y + 1).toNat * (w + 2) : Nat) : Int) + x) :
    i + 3 ≤ (w + 2) * (h + 2) ∧ W.cell? ⟨S, i, none⟩ = some (.int .u8 (cn q (x - 1) y)) ∧ W.cell? ⟨S, i + 1, none⟩ = some (.int .u8 (cn q x y)) ∧ W.cell? ⟨S, i + 2, none⟩ = some (.int .u8 (cn q (x + 1) y)) := by
  refine ⟨?_, H.gs.at (x := x - 1) (y := y) (by omega) hy (by omega), H.gs.at (x := x) (y := y) (by omega) hy (by omega), H.gs.at (x := x + 1) (y := y) (by omega) hy (by omega)⟩
  have := grid_lt (w := w + 2) (h := h + 2) (X := (x + 2).toNat) (Y := (y + 1).toNat) (by omega) (by omega)
  omega
/-- All that Neighbors reads of a world. -/
structure Nine (W : World) (A S w N i0 i1 i2 : Nat) (n1 n2 n3 n4 n6 n7 n8 n9 : Int) : Prop where
  c0 : W.cell? ⟨A, 0, none⟩ = some (.int .i64 (w : Int))
  c3 : W.cell? ⟨A, 3, none⟩ = some (.slice (some ⟨S, 0, none⟩) N N)
  p0 : W.cell? ⟨S, i0, none⟩ = some (.int .u8 n1)
  p1 : W.cell? ⟨S, i0 + 1, none⟩ = some (.int .u8 n2)
  p2 : W.cell? ⟨S, i0 + 2, none⟩ = some (.int .u8 n3)
  q0 : W.cell? ⟨S, i1, none⟩ = some (.int .u8 n4)
  q2 : W.cell? ⟨S, i1 + 2, none⟩ = some (.int .u8 n6)
  r0 : W.cell? ⟨S, i2, none⟩ = some (.int .u8 n7)
  r1 : W.cell? ⟨S, i2 + 1, none⟩ = some (.int .u8 n8)
  r2 : W.cell? ⟨S, i2 + 2, none⟩ = some (.int .u8 n9)
theorem Nine.drew {W : World} {A S w N i0 i1 i2 : Nat} {n1 n2 n3 n4 n6 n7 n8 n9 : Int} (h : Nine W A S w N i0 i1 i2 n1 n2 n3 n4 n6 n7 n8 n9) (n : Nat) : Nine (W.drewN n) A S w N i0 i1 i2 n1 n2 n3 n4 n6 n7 n8 n9 := by
  have k := drewN_below W n
  have f : ∀ {a : Addr} {v : Value}, W.cell? a = some v → a.spot = none → (W.drewN n).cell? a = some v := fun {a v} hc hs => by
    obtain ⟨b, o, sp⟩ := a
    simp at hs; subst hs
    exact (k.cell (p := ⟨b, o, none⟩) (cell_lt hc)).trans hc
  exact ⟨f h.c0 rfl, f h.c3 rfl, f h.p0 rfl, f h.p1 rfl, f h.p2 rfl, f h.q0 rfl, f h.q2 rfl, f h.r0 rfl, f h.r1 rfl, f h.r2 rfl⟩
set_option maxHeartbeats 4000000 in
theorem nb_y (H : Cb W B A V S T R w h q) (x y : Int) (c : Bool) (hin : inB w h x y) : Calls Tryd.prog 81 #[.pointer (some ⟨A, 0, none⟩), .int .i64 x, .int .i64 y, .bool c] W (NGives (nbH q x y) (nbV q x y c) (nbD q x y c) W) := by
  have f := find_y H x y hin
  obtain ⟨c0, c1, c2, c3, c4, c5, c6⟩ := H.cells
  obtain ⟨s1, s2⟩ := ix_small H.fit hin
  have e := ix_is hin
  obtain ⟨h1, h2, h3, h4⟩ := hin
  have hfit : (w : Int) ≤ 64 ∧ (h : Int) ≤ 64 := by have := H.fit; unfold fits at this; omega
  obtain ⟨hf1, hf2⟩ := hfit
  have hw64 : w ≤ 64 := by omega
  have hd := fun W => hidden_c y c h3 (by omega) W
  have u := ix_up w h3
  have dn := ix_dn w h3
  obtain ⟨i0, hi0⟩ : ∃ i0 : Nat, (i0 : Int) = ((((y - 1) + 1).toNat * (w + 2) : Nat) : Int) + x := ⟨((y - 1) + 1).toNat * (w + 2) + x.toNat, by rw [Int.natCast_add]; omega⟩
  obtain ⟨i1, hi1⟩ : ∃ i1 : Nat, (i1 : Int) = (((y + 1).toNat * (w + 2) : Nat) : Int) + x := ⟨(y + 1).toNat * (w + 2) + x.toNat, by rw [Int.natCast_add]; omega⟩
  obtain ⟨i2, hi2⟩ : ∃ i2 : Nat, (i2 : Int) = ((((y + 1) + 1).toNat * (w + 2) : Nat) : Int) + x := ⟨((y + 1) + 1).toNat * (w + 2) + x.toNat, by rw [Int.natCast_add]; omega⟩
  obtain ⟨b0, p0, p1, p2⟩ := three H x (y - 1) i0 ⟨h1, h2⟩ (by omega) hi0
  obtain ⟨b1, q0, q1, q2⟩ := three H x y i1 ⟨h1, h2⟩ (by omega) hi1
  obtain ⟨b2, r0, r1, r2⟩ := three H x (y + 1) i2 ⟨h1, h2⟩ (by omega) hi2
  have w1 : IntKind.i64.wrap ((ix w x y : Int) - ((w : Int) + 2)) = (ix w x y : Int) - ((w : Int) + 2) := by rw [IntWalk.i64_left]; unfold wrap64; omega
  have w2 : IntKind.i64.wrap ((ix w x y : Int) - ((w : Int) + 2) - 1) = (i0 : Int) := by rw [IntWalk.i64_left]; unfold wrap64; omega
  have w3 : IntKind.i64.wrap ((ix w x y : Int) - 1) = (i1 : Int) := by rw [IntWalk.i64_left]; unfold wrap64; omega
  have w4 : IntKind.i64.wrap ((ix w x y : Int) + ((w : Int) + 2)) = (ix w x y : Int) + ((w : Int) + 2) := by rw [IntWalk.i64_left]; unfold wrap64; omega
  have w5 : IntKind.i64.wrap ((ix w x y : Int) + ((w : Int) + 2) - 1) = (i2 : Int) := by rw [IntWalk.i64_left]; unfold wrap64; omega
  unfold nbH nbV nbD
  have a1 := cn_in q (x - 1) (y - 1)
  have a2 := cn_in q x (y - 1)
  have a3 := cn_in q (x + 1) (y - 1)
  have a4 := cn_in q (x - 1) y
  have a6 := cn_in q (x + 1) y
  have a7 := cn_in q (x - 1) (y + 1)
  have a8 := cn_in q x (y + 1)
  have a9 := cn_in q (x + 1) (y + 1)
  generalize cn q (x - 1) (y - 1) = n1 at *
  generalize cn q x (y - 1) = n2 at *
  generalize cn q (x + 1) (y - 1) = n3 at *
  generalize cn q (x - 1) y = n4 at *
  generalize cn q (x + 1) y = n6 at *
  generalize cn q (x - 1) (y + 1) = n7 at *
  generalize cn q x (y + 1) = n8 at *
  generalize cn q (x + 1) (y + 1) = n9 at *
  obtain ⟨a11, a12⟩ := a1
  obtain ⟨a21, a22⟩ := a2
  obtain ⟨a31, a32⟩ := a3
  obtain ⟨a41, a42⟩ := a4
  obtain ⟨a61, a62⟩ := a6
  obtain ⟨a71, a72⟩ := a7
  obtain ⟨a81, a82⟩ := a8
  obtain ⟨a91, a92⟩ := a9
  generalize hid y c = hc at *
  generalize (w + 2) * (h + 2) = N at *
  generalize ix w x y = i at *
  have M : Hid (Nine W A S w N i0 i1 i2 n1 n2 n3 n4 n6 n7 n8 n9) := ⟨c0, c3, p0, p1, p2, q0, q2, r0, r1, r2⟩
  have rq := fun n => row_q A w (W.drewN n) hw64 (M.out.drew n).c0
  have g0 : i0 ≤ N := by omega
  have g1 : i1 ≤ N := by omega
  have g2 : i2 ≤ N := by omega
  have k0 : ¬ N = i0 := by omega
  have k1 : ¬ N = i1 := by omega
  have k2 : ¬ N = i2 := by omega
  have j0 : (3 : Int) ≤ ((N - i0 : Nat) : Int) := by omega
  have j1 : (3 : Int) ≤ ((N - i1 : Nat) : Int) := by omega
  have j2 : (3 : Int) ≤ ((N - i2 : Nat) : Int) := by omega
  clear H e u dn hi0 hi1 hi2 c1 c2 c4 c5 c6 s1 p0 p1 p2 q0 q1 q2 r0 r1 r2
  cases hc with
  | true =>
    rw [if_pos rfl, if_pos rfl, Int.add_zero, Int.add_zero]
    go_enter Tryd.func81, Tryd.ntmps81
    go_wp2_with (first | (go_at_call 43; (with_reducible refine f.mono ?_); rintro e wn ⟨rfl, rfl⟩))
    go_quiet ((go_at_call 63; exact Calls.quiet_of_same (rq _)))
    go_wp2_with fail
    have M1 := M.out.drew nq
    have B1 := dn_mk W nq
    have MH := Lib.hid M1
    have BH := Lib.hid B1
    obtain ⟨c0', c3', p0, p1, p2, q0, q2, r0, r1, r2⟩ := M1
    clear B1
    generalize W.drewN nq = W1 at *
    go_wp2_with fail
    go_quiet (fail)
    go_wp2_with (first | (go_at_call 88; (with_reducible refine (hd _).mono ?_); rintro e wn ⟨rfl, rfl⟩))
    go_ret3
    exact ⟨rfl, dn_trans BH.out (dn_mk _ _)⟩
  | false =>
    rw [if_neg (by decide), if_neg (by decide)]
    go_enter Tryd.func81, Tryd.ntmps81
    go_wp2_with (first | (go_at_call 43; (with_reducible refine f.mono ?_); rintro e wn ⟨rfl, rfl⟩))
    go_quiet ((go_at_call 63; exact Calls.quiet_of_same (rq _)))
    go_wp2_with fail
    have M1 := M.out.drew nq
    have B1 := dn_mk W nq
    have MH := Lib.hid M1
    have BH := Lib.hid B1
    obtain ⟨c0', c3', p0, p1, p2, q0, q2, r0, r1, r2⟩ := M1
    clear B1
    generalize W.drewN nq = W1 at *
    go_wp2_with fail
    go_quiet (fail)
    go_wp2_with (first | (go_at_call 88; (with_reducible refine (hd _).mono ?_); rintro e wn ⟨rfl, rfl⟩))
    have M2 := MH.out.drew nq
    have B2 := Lib.hid (dn_trans BH.out (dn_mk W1 nq))
    have rq2 := fun n => row_q A w ((W1.drewN nq).drewN n) hw64 (M2.drew n).c0
    have MH2 := Lib.hid M2
    clear M2 c0' c3' p0 p1 p2 q0 q2 r0 r1 r2
    obtain ⟨c0', c3', p0, p1, p2, q0, q2, r0, r1, r2⟩ := MH2.out
    generalize W1.drewN nq = W2 at *
    go_quiet ((go_at_call 63; exact Calls.quiet_of_same (rq2 _)))
    go_wp2_with fail
    have M3 := MH2.out.drew nq
    have B3 := Lib.hid (dn_trans B2.out (dn_mk W2 nq))
    clear c0' c3' p0 p1 p2 q0 q2 r0 r1 r2
    obtain ⟨c0', c3', p0, p1, p2, q0, q2, r0, r1, r2⟩ := M3
    generalize W2.drewN nq = W3 at *
    go_quiet (fail)
    go_wp2_with fail
    go_ret3
    exact ⟨by first | rfl | (congr 4 <;> omega), dn_trans B3.out (dn_mk _ _)⟩
theorem nb_c (H : Cb W B A V S T R w h q) (x y : Int) (c : Bool) : Calls Tryd.prog 81 #[.pointer (some ⟨A, 0, none⟩), .int .i64 x, .int .i64 y, .bool c] W (NGives (if inB w h x y then nbH q x y else 0) (if inB w h x y then nbV q x y c else 0) (if inB w h x y then nbD q x y c else 0) W) := by
  by_cases hin : inB w h x y
  · rw [if_pos hin, if_pos hin, if_pos hin]; exact nb_y H x y c hin
  · rw [if_neg hin, if_neg hin, if_neg hin]; exact nb_o H x y c hin
end
end Go.Proofs.YtklchodbnjebnaaDoor
set_option maxRecDepth 100000
namespace Go.Proofs.YtklchodbnjebnaaDoor
open Go.RowKit

section
variable {W : World} {B A V S T R w h : Nat} {q : St}
def SGives (a b : Int) (W : World) (e : Ending) (w' : World) : Prop := e = .returned (.tuple #[.int .i64 a, .int .i64 b]) ∧ W = w'
theorem sgs_o (H : Cb W B A V S T R w h q) (x y : Int) (c : Bool) (hin : ¬ inB w h x y) : Calls Tryd.prog 91 #[.pointer (some ⟨A, 0, none⟩), .int .i64 x, .int .i64 y, .bool c] W (SGives 0 0 W) := by
  have f := find_o H x y hin
  clear H hin
  go_enter Tryd.func91, Tryd.ntmps91
  go_wp2_with (first | (go_at_call 43; (with_reducible refine f.mono ?_); rintro e wn ⟨rfl, rfl⟩))
  go_ret2
  exact ⟨rfl, rfl⟩
set_option maxHeartbeats 4000000 in
theorem sgs_y (H : Cb W B A V S T R w h q) (x y : Int) (c : Bool) (hin : inB w h x y) : Calls Tryd.prog 91 #[.pointer (some ⟨A, 0, none⟩), .int .i64 x, .int .i64 y, .bool c] W (SGives (sgH q x y) (sgV q x y c) W) := by
  have f := find_y H x y hin
  obtain ⟨c0, c1, c2, c3, c4, c5, c6⟩ := H.cells
  obtain ⟨s1, s2⟩ := ix_small H.fit hin
  have e := ix_is hin
  obtain ⟨h1, h2, h3, h4⟩ := hin
  have hfit : (w : Int) ≤ 64 ∧ (h : Int) ≤ 64 := by have := H.fit; unfold fits at this; omega
  obtain ⟨hf1, hf2⟩ := hfit
  have rw0 := row_c A w W (by omega) c0
  have hd := fun W => hidden_c y c h3 (by omega) W
  have u := ix_up w h3
  have dn := ix_dn w h3
  obtain ⟨jl, hjl⟩ : ∃ j : Nat, (j : Int) = (ix w x y : Int) - 1 := ⟨(ix w x y) - 1, by omega⟩
  obtain ⟨jr, hjr⟩ : ∃ j : Nat, (j : Int) = (ix w x y : Int) + 1 := ⟨(ix w x y) + 1, by omega⟩
  obtain ⟨ju, hju⟩ : ∃ j : Nat, (j : Int) = (ix w x y : Int) - ((w : Int) + 2) := ⟨(ix w x y) - (w + 2), by omega⟩
  obtain ⟨jd, hjd⟩ : ∃ j : Nat, (j : Int) = (ix w x y : Int) + ((w : Int) + 2) := ⟨(ix w x y) + (w + 2), by omega⟩
  have kl := sign_c H (x - 1) y jl (by omega) (by omega) (by omega)
  have kr := sign_c H (x + 1) y jr (by omega) (by omega) (by omega)
  have ku := sign_c H x (y - 1) ju (by omega) (by omega) (by omega)
  have kd := sign_c H x (y + 1) jd (by omega) (by omega) (by omega)
  have w1 : IntKind.i64.wrap ((ix w x y : Int) - 1) = (jl : Int) := by rw [IntWalk.i64_left]; unfold wrap64; omega
  have w2 : IntKind.i64.wrap ((ix w x y : Int) + 1) = (jr : Int) := by rw [IntWalk.i64_left]; unfold wrap64; omega
  have w3 : IntKind.i64.wrap ((ix w x y : Int) - ((w : Int) + 2)) = (ju : Int) := by rw [IntWalk.i64_left]; unfold wrap64; omega
  have w4 : IntKind.i64.wrap ((ix w x y : Int) + ((w : Int) + 2)) = (jd : Int) := by rw [IntWalk.i64_left]; unfold wrap64; omega
  have jh := fun W => joint_c (sg q (x - 1) y) (sg q (x + 1) y) (sg_in _ _ _) (sg_in _ _ _) W
  have jv0 := fun W => joint_c (sg q x (y - 1)) 0 (sg_in _ _ _) ⟨by decide, by decide⟩ W
  have jv1 := fun W => joint_c (sg q x (y - 1)) (sg q x (y + 1)) (sg_in _ _ _) (sg_in _ _ _) W
  unfold sgH sgV
  generalize sg q (x - 1) y = g1 at *
  generalize sg q (x + 1) y = g2 at *
  generalize sg q x (y - 1) = g3 at *
  generalize sg q x (y + 1) = g4 at *
  generalize jnt g1 g2 = JH at *
  generalize hid y c = hc at *
  generalize ix w x y = i at *
  clear H e u dn hjl hjr hju hjd c1 c2 c3 c4 c5 c6 s1 s2 hf1 hf2 h1 h2 h3 h4
  cases hc with
  | true =>
    rw [if_pos rfl]
    generalize jnt g3 0 = JV at *
    go_enter Tryd.func91, Tryd.ntmps91
    go_wp2_with (first | (go_at_call 43; (with_reducible refine f.mono ?_); rintro e wn ⟨rfl, rfl⟩) | (go_at_call 88; (with_reducible refine (hd _).mono ?_); rintro e wn ⟨rfl, rfl⟩) | (go_at_call 63; (with_reducible refine rw0.mono ?_); rintro e wn ⟨rfl, rfl⟩) | (go_at_call 93; first | ((with_reducible refine kl.mono ?_); rintro e wn ⟨rfl, rfl⟩) | ((with_reducible refine kr.mono ?_); rintro e wn ⟨rfl, rfl⟩) | ((with_reducible refine ku.mono ?_); rintro e wn ⟨rfl, rfl⟩)) | (go_at_call 94; first | ((with_reducible refine (jh _).mono ?_); rintro e wn ⟨rfl, rfl⟩) | ((with_reducible refine (jv0 _).mono ?_); rintro e wn ⟨rfl, rfl⟩)))
    go_ret2
    exact ⟨rfl, rfl⟩
  | false =>
    rw [if_neg (by decide)]
    generalize jnt g3 g4 = JV at *
    go_enter Tryd.func91, Tryd.ntmps91
    go_wp2_with (first | (go_at_call 43; (with_reducible refine f.mono ?_); rintro e wn ⟨rfl, rfl⟩) | (go_at_call 88; (with_reducible refine (hd _).mono ?_); rintro e wn ⟨rfl, rfl⟩) | (go_at_call 63; (with_reducible refine rw0.mono ?_); rintro e wn ⟨rfl, rfl⟩) | (go_at_call 93; first | ((with_reducible refine kl.mono ?_); rintro e wn ⟨rfl, rfl⟩) | ((with_reducible refine kr.mono ?_); rintro e wn ⟨rfl, rfl⟩) | ((with_reducible refine ku.mono ?_); rintro e wn ⟨rfl, rfl⟩) | ((with_reducible refine kd.mono ?_); rintro e wn ⟨rfl, rfl⟩)) | (go_at_call 94; first | ((with_reducible refine (jh _).mono ?_); rintro e wn ⟨rfl, rfl⟩) | ((with_reducible refine (jv1 _).mono ?_); rintro e wn ⟨rfl, rfl⟩)))
    go_ret2
    exact ⟨rfl, rfl⟩
theorem sgs_c (H : Cb W B A V S T R w h q) (x y : Int) (c : Bool) : Calls Tryd.prog 91 #[.pointer (some ⟨A, 0, none⟩), .int .i64 x, .int .i64 y, .bool c] W (SGives (if inB w h x y then sgH q x y else 0) (if inB w h x y then sgV q x y c else 0) W) := by
  by_cases hin : inB w h x y
  · rw [if_pos hin, if_pos hin]; exact sgs_y H x y c hin
  · rw [if_neg hin, if_neg hin]; exact sgs_o H x y c hin
end
end Go.Proofs.YtklchodbnjebnaaDoor
set_option maxRecDepth 100000
namespace Go.Proofs.YtklchodbnjebnaaDoor
open Go.RowKit

theorem new_no (w h : Int) (hf : ¬ fits w h) (W : World) : Calls Tryd.prog 30 #[.int .i64 w, .int .i64 h] W fun e w' => e = .returned (.tuple #[.pointer none, .int .i64 2]) ∧ W = w' := by
  have k := sized_n w h hf
  clear hf
  go_enter Tryd.func30, Tryd.ntmps30
  go_wp2_with (first | (go_at_call 44; (with_reducible refine (k _).mono ?_); rintro e wn ⟨rfl, rfl⟩))
  go_ret2
  exact ⟨rfl, rfl⟩
def zI (n : Nat) : Obj := .cells (madeCells #[.int .i64 0] n) 3
def zU (n : Nat) : Obj := .cells (madeCells #[.int .u8 0] n) 5
def zB (n : Nat) : Obj := .cells (madeCells #[.bool false] n) 4
theorem infoU : (Tryd.prog.info? 5).map (fun i => (i.zero, i.size, i.bytes)) = some (some (.int .u8 0), 1, 1) := by kernel_rfl
theorem infoB : (Tryd.prog.info? 4).map (fun i => (i.zero, i.size, i.bytes)) = some (some (.bool false), 1, 1) := by kernel_rfl
theorem mkI (n : Nat) (hn : n ≤ 4356) (W : World) : (Instr.makeSlice 22 (.int .i64 (n : Int)) (.int .i64 (n : Int))).run Tryd.prog W = .ok (.slice (some ⟨W.heap.size, 0, none⟩) n n) (W.alloc (zI n)) := by
  obtain ⟨i0, hi, hz0, hz1, hz2⟩ := info2_parts infoI
  have hr := run_make (P := Tryd.prog) W 22 3 i0 _ Tryd.underlying22 hi hz0 .i64 .i64 n n (by omega) (Int.le_refl _) (by rw [hz2]; omega) (by omega)
  rw [hz1, Int.toNat_natCast, Nat.mul_one] at hr
  exact hr
theorem mkU (n : Nat) (hn : n ≤ 4356) (W : World) : (Instr.makeSlice 23 (.int .i64 (n : Int)) (.int .i64 (n : Int))).run Tryd.prog W = .ok (.slice (some ⟨W.heap.size, 0, none⟩) n n) (W.alloc (zU n)) := by
  obtain ⟨i0, hi, hz0, hz1, hz2⟩ := info2_parts infoU
  have hr := run_make (P := Tryd.prog) W 23 5 i0 _ Tryd.underlying23 hi hz0 .i64 .i64 n n (by omega) (Int.le_refl _) (by rw [hz2]; omega) (by omega)
  rw [hz1, Int.toNat_natCast, Nat.mul_one] at hr
  exact hr
theorem mkB (n : Nat) (hn : n ≤ 4356) (W : World) : (Instr.makeSlice 97 (.int .i64 (n : Int)) (.int .i64 (n : Int))).run Tryd.prog W = .ok (.slice (some ⟨W.heap.size, 0, none⟩) n n) (W.alloc (zB n)) := by
  obtain ⟨i0, hi, hz0, hz1, hz2⟩ := info2_parts infoB
  have hr := run_make (P := Tryd.prog) W 97 4 i0 _ Tryd.underlying97 hi hz0 .i64 .i64 n n (by omega) (Int.le_refl _) (by rw [hz2]; omega) (by omega)
  rw [hz1, Int.toNat_natCast, Nat.mul_one] at hr
  exact hr
theorem heap5 (W : World) (a b c d o : Obj) : (((((W.alloc a).alloc b).alloc c).alloc d).alloc o).drew.heap[W.heap.size]? = some a ∧ (((((W.alloc a).alloc b).alloc c).alloc d).alloc o).drew.heap[W.heap.size + 1]? = some b ∧ (((((W.alloc a).alloc b).alloc c).alloc d).alloc o).drew.heap[W.heap.size + 2]? = some c ∧
    (((((W.alloc a).alloc b).alloc c).alloc d).alloc o).drew.heap[W.heap.size + 3]? = some d ∧ (((((W.alloc a).alloc b).alloc c).alloc d).alloc o).drew.heap[W.heap.size + 4]? = some o ∧ Below W.heap.size W (((((W.alloc a).alloc b).alloc c).alloc d).alloc o).drew := by
  have n0 : ∀ (X : World) (p : Obj), (X.alloc p).heap[X.heap.size]? = some p := fun X p => Array.getElem?_push_size
  have n1 : ∀ (X : World) (p : Obj) (k : Nat), k < X.heap.size → (X.alloc p).heap[k]? = X.heap[k]? := fun X p k hk => Below.heap_alloc X p k hk
  have z : ∀ (X : World) (p : Obj), (X.alloc p).heap.size = X.heap.size + 1 := fun X p => by simp
  have dr : ∀ (X : World), X.drew.heap = X.heap := fun X => rfl
  rw [dr]
  refine ⟨?_, ?_, ?_, ?_, ?_, (below_alloc (below_alloc (below_alloc (below_alloc (below_alloc (Below.refl _ W) a) b) c) d) o).drew⟩
  · rw [n1, n1, n1, n1, n0] <;> (simp only [z]; omega)
  · rw [n1, n1, n1, show W.heap.size + 1 = (W.alloc a).heap.size from (z W a).symm, n0] <;> (simp only [z]; omega)
  · rw [n1, n1, show W.heap.size + 2 = ((W.alloc a).alloc b).heap.size by simp only [z], n0] <;> (simp only [z]; omega)
  · rw [n1, show W.heap.size + 3 = (((W.alloc a).alloc b).alloc c).heap.size by simp only [z], n0]
    simp only [z]; omega
  · rw [show W.heap.size + 4 = ((((W.alloc a).alloc b).alloc c).alloc d).heap.size by simp only [z], n0]
def HeapIs (n : Nat) (l : List Obj) (k : Nat) (o : Obj) : Prop := ∃ i, k = n + i ∧ l[i]? = some o
theorem HeapIs.at {W : World} {a b c d o p : Obj} {k : Nat} (h : HeapIs W.heap.size [a, b, c, d, o] k p) : (((((W.alloc a).alloc b).alloc c).alloc d).alloc o).drew.heap[k]? = some p ∧ W.heap.size ≤ k := by
  obtain ⟨i, rfl, hi⟩ := h
  obtain ⟨h0, h1, h2, h3, h4, _⟩ := heap5 W a b c d o
  refine ⟨?_, by omega⟩
  match i, hi with
  | 0, hi => simp at hi; subst hi; exact h0
  | 1, hi => simp at hi; subst hi; exact h1
  | 2, hi => simp at hi; subst hi; exact h2
  | 3, hi => simp at hi; subst hi; exact h3
  | 4, hi => simp at hi; subst hi; exact h4
theorem made_at {z : Value} (n k : Nat) (hk : k < n) : (madeCells #[z] n)[k]? = some z := by
  simp [madeCells, hk, Nat.mod_one]
theorem gr_made {W : World} {g w h : Nat} {ty : TypeId} {z : Value} (hb : W.heap[g]? = some (.cells (madeCells #[z] ((w + 2) * (h + 2))) ty)) (f : Int → Int → Value) (hz : ∀ x y, f x y = z) : Gr W g ty f w h :=
  ⟨_, hb, fun X Y hX hY => by rw [made_at _ _ (grid_lt hX hY), hz]⟩
theorem new_fin {W : World} {a b c d o : Obj} {A V S T R w h N : Nat} (hf : fits (w : Int) (h : Int)) (hN : N = (w + 2) * (h + 2))
    (ho : HeapIs W.heap.size [a, b, c, d, o] A (.cells #[.int .i64 (w : Int), .int .i64 (h : Int), .slice (some ⟨V, 0, none⟩) N N, .slice (some ⟨S, 0, none⟩) N N, .slice (some ⟨T, 0, none⟩) N N, .slice (some ⟨R, 0, none⟩) N N, .pointer (some ⟨A, 0, none⟩)] 99))
    (hV : HeapIs W.heap.size [a, b, c, d, o] V (zI N)) (hS : HeapIs W.heap.size [a, b, c, d, o] S (zU N)) (hT : HeapIs W.heap.size [a, b, c, d, o] T (zB N)) (hR : HeapIs W.heap.size [a, b, c, d, o] R (zB N)) (hTR : T ≠ R) :
    Cb (((((W.alloc a).alloc b).alloc c).alloc d).alloc o).drew W.heap.size A V S T R w h St.zero ∧ Below W.heap.size W (((((W.alloc a).alloc b).alloc c).alloc d).alloc o).drew := by
  subst hN
  refine ⟨⟨hf, ho.at.2, hV.at.2, hS.at.2, hT.at.2, hR.at.2, ho.at.1, gr_made hV.at.1 _ (fun _ _ => rfl), gr_made hS.at.1 _ (fun _ _ => rfl), gr_made hT.at.1 _ (fun _ _ => rfl), gr_made hR.at.1 _ (fun _ _ => rfl), hTR, fun _ _ _ => ⟨rfl, rfl, rfl, rfl⟩⟩, (heap5 W a b c d o).2.2.2.2.2⟩
set_option maxHeartbeats 8000000 in
theorem new_yes (w h : Nat) (hf : fits (w : Int) (h : Int)) (W : World) : Calls Tryd.prog 30 #[.int .i64 (w : Int), .int .i64 (h : Int)] W fun e w' => ∃ A V S T R, e = .returned (.tuple #[.pointer (some ⟨A, 0, none⟩), .int .i64 0]) ∧ Cb w' W.heap.size A V S T R w h St.zero ∧ Below W.heap.size W w' := by
  have k := sized_y _ _ hf
  have hfit : (w : Int) ≤ 64 ∧ (h : Int) ≤ 64 := by unfold fits at hf; omega
  obtain ⟨hf1, hf2⟩ := hfit
  have hn : (w + 2) * (h + 2) ≤ 4356 := Nat.mul_le_mul (show w + 2 ≤ 66 by omega) (show h + 2 ≤ 66 by omega)
  have wm : IntKind.i64.wrap (((w : Int) + 2) * ((h : Int) + 2)) = (((w + 2) * (h + 2) : Nat) : Int) := wrap_mul (w + 2) (h + 2) (by omega)
  have m1 := mkI ((w + 2) * (h + 2)) hn
  have m2 := mkU ((w + 2) * (h + 2)) hn
  have m3 := mkB ((w + 2) * (h + 2)) hn
  have HF := Lib.hid hf
  obtain ⟨N, hN⟩ : ∃ N, N = (w + 2) * (h + 2) := ⟨_, rfl⟩
  rw [← hN] at wm m1 m2 m3
  have HN := Lib.hid hN
  clear hf hN hn
  go_enter Tryd.func30, Tryd.ntmps30
  go_wp2_with (first | (go_at_call 44; (with_reducible refine (k _).mono ?_); rintro e wn ⟨rfl, rfl⟩))
  go_region
  all_goals
    go_wp2_with fail
    go_ret2
    exact ⟨_, _, _, _, _, rfl, new_fin HF.out HN.out ⟨4, rfl, rfl⟩ (by first | exact ⟨0, rfl, rfl⟩ | exact ⟨1, rfl, rfl⟩ | exact ⟨2, rfl, rfl⟩ | exact ⟨3, rfl, rfl⟩) (by first | exact ⟨0, rfl, rfl⟩ | exact ⟨1, rfl, rfl⟩ | exact ⟨2, rfl, rfl⟩ | exact ⟨3, rfl, rfl⟩) (by first | exact ⟨0, rfl, rfl⟩ | exact ⟨1, rfl, rfl⟩ | exact ⟨2, rfl, rfl⟩ | exact ⟨3, rfl, rfl⟩) (by first | exact ⟨0, rfl, rfl⟩ | exact ⟨1, rfl, rfl⟩ | exact ⟨2, rfl, rfl⟩ | exact ⟨3, rfl, rfl⟩) (by omega)⟩
end Go.Proofs.YtklchodbnjebnaaDoor
set_option maxRecDepth 100000
namespace Go.Proofs.YtklchodbnjebnaaDoor
open Go.RowKit

abbrev Sy := Int × Int
/-- What a pass is performed with: width, height, the weight's exponent, the orientation, causal, raw. -/
structure Pp where
  w : Nat
  h : Nat
  s : Nat
  o : Int
  c : Bool
  raw : Bool
def cxP (p : Pp) (c : Int) : Int := if p.raw then -1 else c
def bitM (v : Int) (s : Nat) : Int := ((v.natAbs / 2 ^ s % 2 : Nat) : Int)
theorem bitM_in (v : Int) (s : Nat) : bitM v s = 0 ∨ bitM v s = 1 := by unfold bitM; omega
def nearQ (p : Pp) (q : St) (x y : Int) : Bool := decide (0 < nbH q x y + nbV q x y p.c + nbD q x y p.c)
def sgnC (p : Pp) (q : St) (x y : Int) : Int := Cx.sgC (Cx.l1 (sgH q x y)) (Cx.l1 (sgV q x y p.c))
def sgnF (p : Pp) (q : St) (x y : Int) : Int := if p.raw then 0 else Cx.sgF (Cx.l1 (sgH q x y)) (Cx.l1 (sgV q x y p.c))
theorem sgF_in (a b : Int) : Cx.sgF a b = 0 ∨ Cx.sgF a b = 1 := by unfold Cx.sgF; split <;> simp
theorem sgnF_in (p : Pp) (q : St) (x y : Int) : sgnF p q x y = 0 ∨ sgnF p q x y = 1 := by
  unfold sgnF
  split
  · simp
  · exact sgF_in _ _
def negM (v : Int) : Int := if v < 0 then 1 else 0
theorem negM_in (v : Int) : negM v = 0 ∨ negM v = 1 := by unfold negM; split <;> simp
def xorM (a b : Int) : Int := if a = b then 0 else 1
theorem xorM_in (a b : Int) : xorM a b = 0 ∨ xorM a b = 1 := by unfold xorM; split <;> simp
def sigC (p : Pp) (q : St) (x y : Int) : Int := Cx.sigM p.o (nbH q x y) (nbV q x y p.c) (nbD q x y p.c)
abbrev Es := St × List Sy
def putS (p : Pp) (e : Es) (c b : Int) : Es := (e.1, e.2 ++ [(cxP p c, b)])
def signS (p : Pp) (e : Es) (x y : Int) : Es := (markQ p.w p.h e.1 x y, e.2 ++ [(cxP p (sgnC p e.1 x y), xorM (negM (e.1.v x y)) (sgnF p e.1 x y))])
def codeS (p : Pp) (e : Es) (x y : Int) : Es := if bitM (e.1.v x y) p.s = 1 then signS p (putS p e (sigC p e.1 x y) (bitM (e.1.v x y) p.s)) x y else putS p e (sigC p e.1 x y) (bitM (e.1.v x y) p.s)
def touchS (p : Pp) (e : Es) (x y : Int) (b : Bool) : Es := (touchQ p.w p.h e.1 x y b, e.2)
def refnS (p : Pp) (e : Es) (x y : Int) : Es := (refineQ p.w p.h e.1 x y, e.2)
def sigS (p : Pp) (e : Es) (z : Int × Int) : Es := if (!e.1.s z.1 z.2 && nearQ p e.1 z.1 z.2) = true then touchS p (codeS p e z.1 z.2) z.1 z.2 true else e
def refC (p : Pp) (q : St) (x y : Int) : Int := Cx.refM (!q.r x y) (nearQ p q x y)
def refS (p : Pp) (e : Es) (z : Int × Int) : Es := if (e.1.s z.1 z.2 && !e.1.t z.1 z.2) = true then touchS p (refnS p (putS p e (refC p e.1 z.1 z.2) (bitM (e.1.v z.1 z.2) p.s)) z.1 z.2) z.1 z.2 true else e
def clnS (p : Pp) (e : Es) (z : Int × Int) : Es := if (e.1.s z.1 z.2 || e.1.t z.1 z.2) = true then e else codeS p e z.1 z.2
def busyQ (p : Pp) (q : St) (x y : Int) : Bool := q.s x y || q.t x y || nearQ p q x y
def quietQ (p : Pp) (q : St) (x top n : Nat) : Bool := (colP x top n).all (fun z => !busyQ p q z.1 z.2) && decide (n = 4)
def zer (b : Nat → Bool) : Nat := if b 0 then 0 else if b 1 then 1 else if b 2 then 2 else if b 3 then 3 else 4
theorem zer_le (b : Nat → Bool) : zer b ≤ 4 := by unfold zer; repeat' split
                                                  all_goals omega
theorem zer_is (b : Nat → Bool) (k : Nat) (hk : k ≤ 4) (h0 : ∀ j, j < k → b j = false) (h1 : k = 4 ∨ b k = true) : zer b = k := by
  unfold zer
  match k, hk with
  | 0, _ => have := h1.resolve_left (by omega); simp [this]
  | 1, _ => have := h1.resolve_left (by omega); simp [this, h0 0 (by omega)]
  | 2, _ => have := h1.resolve_left (by omega); simp [this, h0 0 (by omega), h0 1 (by omega)]
  | 3, _ => have := h1.resolve_left (by omega); simp [this, h0 0 (by omega), h0 1 (by omega), h0 2 (by omega)]
  | 4, _ => simp [h0 0 (by omega), h0 1 (by omega), h0 2 (by omega), h0 3 (by omega)]
def oneQ (p : Pp) (q : St) (x top : Nat) (j : Nat) : Bool := bitM (q.v (x : Int) ((top + j : Nat) : Int)) p.s == 1
def zerQ (p : Pp) (q : St) (x top : Nat) : Nat := zer (oneQ p q x top)
def runS (p : Pp) (e : Es) (x top : Nat) : Es := if zerQ p e.1 x top = 4 then putS p e 17 0 else
  signS p (putS p (putS p (putS p e 17 1) 18 ((zerQ p e.1 x top / 2 : Nat) : Int)) 18 ((zerQ p e.1 x top % 2 : Nat) : Int)) (x : Int) ((top + zerQ p e.1 x top : Nat) : Int)
def runN (p : Pp) (q : St) (x top : Nat) : Nat := if zerQ p q x top = 4 then 4 else zerQ p q x top + 1
def colS (p : Pp) (e : Es) (x top n : Nat) : Es := if quietQ p e.1 x top n then (colP x (top + runN p e.1 x top) (n - runN p e.1 x top)).foldl (clnS p) (runS p e x top) else (colP x top n).foldl (clnS p) e
def strS (p : Pp) (e : Es) (top n k : Nat) : Es := (List.range k).foldl (fun e x => colS p e x top n) e
def clS (p : Pp) (e : Es) (k : Nat) : Es := (List.range k).foldl (fun e s => strS p e (4 * s) (min 4 (p.h - 4 * s)) p.w) e
def offS (p : Pp) (e : Es) (l : List (Int × Int)) : Es := l.foldl (fun e z => touchS p e z.1 z.2 false) e
def chkS (p : Pp) (e : Es) : Es := putS p (putS p (putS p (putS p e 18 1) 18 0) 18 1) 18 0
def endS (p : Pp) (y : Bool) (e : Es) : Es := if y then chkS p e else e
def cleanS (p : Pp) (y : Bool) (e : Es) : Es := endS p y (offS p (clS p e ((p.h + 3) / 4)) (scan p.w p.h))
def passS (p : Pp) (k : Int) (y : Bool) (e : Es) : Es := if k = 0 then (scan p.w p.h).foldl (sigS p) e else if k = 1 then (scan p.w p.h).foldl (refS p) e else cleanS p y e
theorem foldl_take {α β : Type} (f : β → α → β) (e : β) (l : List α) (k : Nat) (hk : k < l.length) : (l.take (k + 1)).foldl f e = f ((l.take k).foldl f e) l[k] := by
  rw [List.take_add_one, List.foldl_append, List.getElem?_eq_getElem hk]
  rfl
theorem foldl_rng {β : Type} (f : β → Nat → β) (e : β) (k : Nat) : (List.range (k + 1)).foldl f e = f ((List.range k).foldl f e) k := by rw [List.range_succ, List.foldl_append]; rfl
/-- How many symbols each step may add. -/
theorem codeS_len (p : Pp) (e : Es) (x y : Int) : (codeS p e x y).2.length ≤ e.2.length + 2 := by unfold codeS signS putS; split <;> simp
theorem sigS_len (p : Pp) (e : Es) (z : Int × Int) : (sigS p e z).2.length ≤ e.2.length + 2 := by
  unfold sigS touchS
  split
  · exact codeS_len _ _ _ _
  · omega
theorem refS_len (p : Pp) (e : Es) (z : Int × Int) : (refS p e z).2.length ≤ e.2.length + 2 := by
  unfold refS touchS refnS putS
  split <;> simp
theorem clnS_len (p : Pp) (e : Es) (z : Int × Int) : (clnS p e z).2.length ≤ e.2.length + 2 := by
  unfold clnS
  split
  · omega
  · exact codeS_len _ _ _ _
theorem foldl_len {α : Type} (f : Es → α → Es) (n : Nat) (hf : ∀ e z, (f e z).2.length ≤ e.2.length + n) (l : List α) (e : Es) : (l.foldl f e).2.length ≤ e.2.length + n * l.length := by
  induction l generalizing e with
  | nil => simp
  | cons a l ih =>
    have := ih (f e a)
    have := hf e a
    rw [List.foldl_cons, List.length_cons, Nat.mul_succ]
    omega
theorem runS_len (p : Pp) (e : Es) (x top : Nat) : (runS p e x top).2.length ≤ e.2.length + 4 := by unfold runS signS putS; split <;> simp
theorem colS_len (p : Pp) (e : Es) (x top n : Nat) (hn : n ≤ 4) : (colS p e x top n).2.length ≤ e.2.length + 12 := by
  unfold colS
  split
  · have := foldl_len (clnS p) 2 (clnS_len p) (colP x (top + runN p e.1 x top) (n - runN p e.1 x top)) (runS p e x top)
    have := runS_len p e x top
    rw [colP_len] at *
    omega
  · have := foldl_len (clnS p) 2 (clnS_len p) (colP x top n) e
    rw [colP_len] at *
    omega
theorem strS_len (p : Pp) (e : Es) (top n k : Nat) (hn : n ≤ 4) : (strS p e top n k).2.length ≤ e.2.length + 12 * k := by
  have := foldl_len (fun e x => colS p e x top n) 12 (fun e x => colS_len p e x top n hn) (List.range k) e
  rwa [List.length_range] at this
theorem clS_len (p : Pp) (e : Es) (k : Nat) : (clS p e k).2.length ≤ e.2.length + 12 * p.w * k := by
  have := foldl_len (fun e s => strS p e (4 * s) (min 4 (p.h - 4 * s)) p.w) (12 * p.w) (fun e s => strS_len p e _ _ _ (by omega)) (List.range k) e
  rwa [List.length_range] at this
theorem offS_len (p : Pp) (e : Es) (l : List (Int × Int)) : (offS p e l).2.length = e.2.length := by
  unfold offS
  induction l generalizing e with
  | nil => rfl
  | cons a l ih => rw [List.foldl_cons, ih]; rfl
end Go.Proofs.YtklchodbnjebnaaDoor
