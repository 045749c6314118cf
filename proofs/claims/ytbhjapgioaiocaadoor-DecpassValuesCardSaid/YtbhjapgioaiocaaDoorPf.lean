/-
  Layer 14: the code's block: Neighbors and Signs; New.
-/
import Derived.Test.YtbhjapgioaiocaaDoorPe
import Derived.Test.YtbhjapgioaiocaaDoorPc2
set_option maxRecDepth 100000
namespace Go.Proofs.YtbhjapgioaiocaaDoor
open Go.RowKit

def sg (q : St) (x y : Int) : Int := if q.s x y then (if q.v x y < 0 then -1 else 1) else 0
theorem sg_in (q : St) (x y : Int) : -1 ≤ sg q x y ∧ sg q x y ≤ 1 := by unfold sg; split; split <;> omega; omega
def cn (q : St) (x y : Int) : Int := b8 (q.s x y)
theorem cn_in (q : St) (x y : Int) : 0 ≤ cn q x y ∧ cn q x y ≤ 1 := by unfold cn b8; split <;> omega
def nbH (q : St) (x y : Int) : Int := cn q (x - 1) y + cn q (x + 1) y
def nbV (q : St) (x y : Int) (c : Bool) : Int := cn q x (y - 1) + (if hid y c then 0 else cn q x (y + 1))
def nbD (q : St) (x y : Int) (c : Bool) : Int := cn q (x - 1) (y - 1) + cn q (x + 1) (y - 1) + (if hid y c then 0 else cn q (x - 1) (y + 1) + cn q (x + 1) (y + 1))
def sgH (q : St) (x y : Int) : Int := jnt (sg q (x - 1) y) (sg q (x + 1) y)
def sgV (q : St) (x y : Int) (c : Bool) : Int := jnt (sg q x (y - 1)) (if hid y c then 0 else sg q x (y + 1))
section
variable {W : World} {B A V S T R w h : Nat} {q : St}
theorem sign_c (H : Cb W B A V S T R w h q) (x y : Int) (i : Nat) (hx : -1 ≤ x ∧ x ≤ w) (hy : -1 ≤ y ∧ y ≤ h) (hi : (i : Int) = (((y + 1).toNat * (w + 2) : Nat) : Int) + x + 1) : Calls Tryd.prog 140 #[.pointer (some ⟨A, 0, none⟩), .int .i64 (i : Int)] W fun e w' => e = .returned (.int .i64 (sg q x y)) ∧ W = w' := by
  obtain ⟨c0, c1, c2, c3, c4, c5, c6⟩ := H.cells
  have d1 := H.gs.at hx hy hi
  have d2 := H.gv.at hx hy hi
  have lt : i < (w + 2) * (h + 2) := by
    have := grid_lt (w := w + 2) (h := h + 2) (X := (x + 1).toNat) (Y := (y + 1).toNat) (by omega) (by omega)
    omega
  generalize (w + 2) * (h + 2) = N at *
  unfold sg
  generalize q.s x y = z at *
  generalize q.v x y = v at *
  clear H hx hy hi c0 c1 c4 c5 c6
  cases z with
  | false =>
    unfold b8 at d1
    simp at d1
    go_enter Tryd.func140, Tryd.ntmps140
    go_wp2_with fail
    go_ret
    exact ⟨rfl, rfl⟩
  | true =>
    unfold b8 at d1
    simp at d1
    by_cases hv : v < 0
    · rw [if_pos rfl, if_pos hv]
      go_enter Tryd.func140, Tryd.ntmps140
      go_wp2_with fail
      go_ret
      exact ⟨rfl, rfl⟩
    · rw [if_pos rfl, if_neg hv]
      go_enter Tryd.func140, Tryd.ntmps140
      go_wp2_with fail
      go_ret
      exact ⟨rfl, rfl⟩
/-- A world that differs in draws alone. -/
def Dn (W w' : World) : Prop := ∃ m, w' = W.drewN m
theorem dn_mk (W : World) (n : Nat) : Dn W (W.drewN n) := ⟨n, rfl⟩
theorem dn_refl (W : World) : Dn W W := ⟨0, rfl⟩
theorem dn_trans {W W1 W2 : World} (h : Dn W W1) (h' : Dn W1 W2) : Dn W W2 := by
  obtain ⟨n, rfl⟩ := h
  obtain ⟨m, rfl⟩ := h'
  exact ⟨n + m, by rw [World.drewN_drewN]⟩
theorem Dn.below {W W1 : World} (h : Dn W W1) : Below W.heap.size W W1 := by
  obtain ⟨n, rfl⟩ := h
  exact drewN_below _ _
def NGives (a b c : Int) (W : World) (e : Ending) (w' : World) : Prop := e = .returned (.tuple #[.int .i64 a, .int .i64 b, .int .i64 c]) ∧ Dn W w'
theorem nb_o (H : Cb W B A V S T R w h q) (x y : Int) (c : Bool) (hin : ¬ inB w h x y) : Calls Tryd.prog 112 #[.pointer (some ⟨A, 0, none⟩), .int .i64 x, .int .i64 y, .bool c] W (NGives 0 0 0 W) := by
  have f := find_o H x y hin
  clear H hin
  go_enter Tryd.func112, Tryd.ntmps112
  go_wp2_with (first | (go_at_call 85; (with_reducible refine f.mono ?_); rintro e wn ⟨rfl, rfl⟩))
  go_ret3
  exact ⟨rfl, dn_refl _⟩
theorem ix_up {y : Int} (w : Nat) (hy : 0 ≤ y) : (((y + 1).toNat * (w + 2) : Nat) : Int) = ((((y - 1) + 1).toNat * (w + 2) : Nat) : Int) + (w : Int) + 2 := by
  rw [show (y + 1).toNat = (y - 1 + 1).toNat + 1 by omega, Nat.succ_mul]
  omega
theorem ix_dn {y : Int} (w : Nat) (hy : 0 ≤ y) : ((((y + 1) + 1).toNat * (w + 2) : Nat) : Int) = (((y + 1).toNat * (w + 2) : Nat) : Int) + (w : Int) + 2 := by
  rw [show (y + 1 + 1).toNat = (y + 1).toNat + 1 by omega, Nat.succ_mul]
  omega
theorem row_q (a w : Nat) (W : World) (hw : w ≤ 64) (h0 : W.cell? ⟨a, 0, none⟩ = some (.int .i64 (w : Int))) : Calls Tryd.prog 110 #[.pointer (some ⟨a, 0, none⟩)] W fun e w' => e = .returned (.int .i64 ((w : Int) + 2)) ∧ w' = W := (row_c a w W hw h0).mono fun _ _ h => ⟨h.1, h.2.symm⟩
/-- The three cells beside one another. -/
theorem three (H : Cb W B A V S T R w h q) (x y : Int) (i : Nat) (hx : 0 ≤ x ∧ x < w) (hy : -1 ≤ y ∧ y ≤ h) (hi : (i : Int) = (((y + 1).toNat * (w + 2) : Nat) : Int) + x) :
    i + 3 ≤ (w + 2) * (h + 2) ∧ W.cell? ⟨S, i, none⟩ = some (.int .u8 (cn q (x - 1) y)) ∧ W.cell? ⟨S, i + 1, none⟩ = some (.int .u8 (cn q x y)) ∧ W.cell? ⟨S, i + 2, none⟩ = some (.int .u8 (cn q (x + 1) y)) := by
  refine ⟨?_, H.gs.at (x := x - 1) (y := y) (by omega) hy (by omega), H.gs.at (x := x) (y := y) (by omega) hy (by omega), H.gs.at (x := x + 1) (y := y) (by omega) hy (by omega)⟩
  have := grid_lt (w := w + 2) (h := h + 2) (X := (x + 2).toNat) (Y := (y + 1).toNat) (by omega) (by omega)
  omega
/-- All that Neighbors reads of a world. -/
structure Nine (W : World) (A S w N i0 i1 i2 : Nat) (n1 n2 n3 n4 n6 n7 n8 n9 : Int) : Prop where
  c0 : W.cell? ⟨A, 0, none⟩ = some (.int .i64 (w : Int))
  c3 : W.cell? ⟨A, 3, none⟩ = some (.slice (some ⟨S, 0, none⟩) N N)
  p0 : W.cell? ⟨S, i0, none⟩ = some (.int .u8 n1)
  p1 : W.cell? ⟨S, i0 + 1, none⟩ = some (.int .u8 n2)
  p2 : W.cell? ⟨S, i0 + 2, none⟩ = some (.int .u8 n3)
  q0 : W.cell? ⟨S, i1, none⟩ = some (.int .u8 n4)
  q2 : W.cell? ⟨S, i1 + 2, none⟩ = some (.int .u8 n6)
  r0 : W.cell? ⟨S, i2, none⟩ = some (.int .u8 n7)
  r1 : W.cell? ⟨S, i2 + 1, none⟩ = some (.int .u8 n8)
  r2 : W.cell? ⟨S, i2 + 2, none⟩ = some (.int .u8 n9)
theorem Nine.drew {W : World} {A S w N i0 i1 i2 : Nat} {n1 n2 n3 n4 n6 n7 n8 n9 : Int} (h : Nine W A S w N i0 i1 i2 n1 n2 n3 n4 n6 n7 n8 n9) (n : Nat) : Nine (W.drewN n) A S w N i0 i1 i2 n1 n2 n3 n4 n6 n7 n8 n9 := by
  have k := drewN_below W n
  have f : ∀ {a : Addr} {v : Value}, W.cell? a = some v → a.spot = none → (W.drewN n).cell? a = some v := fun {a v} hc hs => by
    obtain ⟨b, o, sp⟩ := a
    simp at hs; subst hs
    exact (k.cell (p := ⟨b, o, none⟩) (cell_lt hc)).trans hc
  exact ⟨f h.c0 rfl, f h.c3 rfl, f h.p0 rfl, f h.p1 rfl, f h.p2 rfl, f h.q0 rfl, f h.q2 rfl, f h.r0 rfl, f h.r1 rfl, f h.r2 rfl⟩
set_option maxHeartbeats 4000000 in
theorem nb_y (H : Cb W B A V S T R w h q) (x y : Int) (c : Bool) (hin : inB w h x y) : Calls Tryd.prog 112 #[.pointer (some ⟨A, 0, none⟩), .int .i64 x, .int .i64 y, .bool c] W (NGives (nbH q x y) (nbV q x y c) (nbD q x y c) W) := by
  have f := find_y H x y hin
  obtain ⟨c0, c1, c2, c3, c4, c5, c6⟩ := H.cells
  obtain ⟨s1, s2⟩ := ix_small H.fit hin
  have e := ix_is hin
  obtain ⟨h1, h2, h3, h4⟩ := hin
  have hfit : (w : Int) ≤ 64 ∧ (h : Int) ≤ 64 := by have := H.fit; unfold fits at this; omega
  obtain ⟨hf1, hf2⟩ := hfit
  have hw64 : w ≤ 64 := by omega
  have hd := fun W => hidden_c y c h3 (by omega) W
  have u := ix_up w h3
  have dn := ix_dn w h3
  obtain ⟨i0, hi0⟩ : ∃ i0 : Nat, (i0 : Int) = ((((y - 1) + 1).toNat * (w + 2) : Nat) : Int) + x := ⟨((y - 1) + 1).toNat * (w + 2) + x.toNat, by rw [Int.natCast_add]; omega⟩
  obtain ⟨i1, hi1⟩ : ∃ i1 : Nat, (i1 : Int) = (((y + 1).toNat * (w + 2) : Nat) : Int) + x := ⟨(y + 1).toNat * (w + 2) + x.toNat, by rw [Int.natCast_add]; omega⟩
  obtain ⟨i2, hi2⟩ : ∃ i2 : Nat, (i2 : Int) = ((((y + 1) + 1).toNat * (w + 2) : Nat) : Int) + x := ⟨((y + 1) + 1).toNat * (w + 2) + x.toNat, by rw [Int.natCast_add]; omega⟩
  obtain ⟨b0, p0, p1, p2⟩ := three H x (y - 1) i0 ⟨h1, h2⟩ (by omega) hi0
  obtain ⟨b1, q0, q1, q2⟩ := three H x y i1 ⟨h1, h2⟩ (by omega) hi1
  obtain ⟨b2, r0, r1, r2⟩ := three H x (y + 1) i2 ⟨h1, h2⟩ (by omega) hi2
  have w1 : IntKind.i64.wrap ((ix w x y : Int) - ((w : Int) + 2)) = (ix w x y : Int) - ((w : Int) + 2) := by rw [IntWalk.i64_left]; unfold wrap64; omega
  have w2 : IntKind.i64.wrap ((ix w x y : Int) - ((w : Int) + 2) - 1) = (i0 : Int) := by rw [IntWalk.i64_left]; unfold wrap64; omega
  have w3 : IntKind.i64.wrap ((ix w x y : Int) - 1) = (i1 : Int) := by rw [IntWalk.i64_left]; unfold wrap64; omega
  have w4 : IntKind.i64.wrap ((ix w x y : Int) + ((w : Int) + 2)) = (ix w x y : Int) + ((w : Int) + 2) := by rw [IntWalk.i64_left]; unfold wrap64; omega
  have w5 : IntKind.i64.wrap ((ix w x y : Int) + ((w : Int) + 2) - 1) = (i2 : Int) := by rw [IntWalk.i64_left]; unfold wrap64; omega
  unfold nbH nbV nbD
  have a1 := cn_in q (x - 1) (y - 1)
  have a2 := cn_in q x (y - 1)
  have a3 := cn_in q (x + 1) (y - 1)
  have a4 := cn_in q (x - 1) y
  have a6 := cn_in q (x + 1) y
  have a7 := cn_in q (x - 1) (y + 1)
  have a8 := cn_in q x (y + 1)
  have a9 := cn_in q (x + 1) (y + 1)
  generalize cn q (x - 1) (y - 1) = n1 at *
  generalize cn q x (y - 1) = n2 at *
  generalize cn q (x + 1) (y - 1) = n3 at *
  generalize cn q (x - 1) y = n4 at *
  generalize cn q (x + 1) y = n6 at *
  generalize cn q (x - 1) (y + 1) = n7 at *
  generalize cn q x (y + 1) = n8 at *
  generalize cn q (x + 1) (y + 1) = n9 at *
  obtain ⟨a11, a12⟩ := a1
  obtain ⟨a21, a22⟩ := a2
  obtain ⟨a31, a32⟩ := a3
  obtain ⟨a41, a42⟩ := a4
  obtain ⟨a61, a62⟩ := a6
  obtain ⟨a71, a72⟩ := a7
  obtain ⟨a81, a82⟩ := a8
  obtain ⟨a91, a92⟩ := a9
  generalize hid y c = hc at *
  generalize (w + 2) * (h + 2) = N at *
  generalize ix w x y = i at *
  have M : Hid (Nine W A S w N i0 i1 i2 n1 n2 n3 n4 n6 n7 n8 n9) := ⟨c0, c3, p0, p1, p2, q0, q2, r0, r1, r2⟩
  have rq := fun n => row_q A w (W.drewN n) hw64 (M.out.drew n).c0
  have g0 : i0 ≤ N := by omega
  have g1 : i1 ≤ N := by omega
  have g2 : i2 ≤ N := by omega
  have k0 : ¬ N = i0 := by omega
  have k1 : ¬ N = i1 := by omega
  have k2 : ¬ N = i2 := by omega
  have j0 : (3 : Int) ≤ ((N - i0 : Nat) : Int) := by omega
  have j1 : (3 : Int) ≤ ((N - i1 : Nat) : Int) := by omega
  have j2 : (3 : Int) ≤ ((N - i2 : Nat) : Int) := by omega
  clear H e u dn hi0 hi1 hi2 c1 c2 c4 c5 c6 s1 p0 p1 p2 q0 q1 q2 r0 r1 r2
  cases hc with
  | true =>
    rw [if_pos rfl, if_pos rfl, Int.add_zero, Int.add_zero]
    go_enter Tryd.func112, Tryd.ntmps112
    go_wp2_with (first | (go_at_call 85; (with_reducible refine f.mono ?_); rintro e wn ⟨rfl, rfl⟩))
    go_quiet ((go_at_call 110; exact Calls.quiet_of_same (rq _)))
    go_wp2_with fail
    have M1 := M.out.drew nq
    have B1 := dn_mk W nq
    have MH := Lib.hid M1
    have BH := Lib.hid B1
    obtain ⟨c0', c3', p0, p1, p2, q0, q2, r0, r1, r2⟩ := M1
    clear B1
    generalize W.drewN nq = W1 at *
    go_wp2_with fail
    go_quiet (fail)
    go_wp2_with (first | (go_at_call 125; (with_reducible refine (hd _).mono ?_); rintro e wn ⟨rfl, rfl⟩))
    go_ret3
    exact ⟨rfl, dn_trans BH.out (dn_mk _ _)⟩
  | false =>
    rw [if_neg (by decide), if_neg (by decide)]
    go_enter Tryd.func112, Tryd.ntmps112
    go_wp2_with (first | (go_at_call 85; (with_reducible refine f.mono ?_); rintro e wn ⟨rfl, rfl⟩))
    go_quiet ((go_at_call 110; exact Calls.quiet_of_same (rq _)))
    go_wp2_with fail
    have M1 := M.out.drew nq
    have B1 := dn_mk W nq
    have MH := Lib.hid M1
    have BH := Lib.hid B1
    obtain ⟨c0', c3', p0, p1, p2, q0, q2, r0, r1, r2⟩ := M1
    clear B1
    generalize W.drewN nq = W1 at *
    go_wp2_with fail
    go_quiet (fail)
    go_wp2_with (first | (go_at_call 125; (with_reducible refine (hd _).mono ?_); rintro e wn ⟨rfl, rfl⟩))
    have M2 := MH.out.drew nq
    have B2 := Lib.hid (dn_trans BH.out (dn_mk W1 nq))
    have rq2 := fun n => row_q A w ((W1.drewN nq).drewN n) hw64 (M2.drew n).c0
    have MH2 := Lib.hid M2
    clear M2 c0' c3' p0 p1 p2 q0 q2 r0 r1 r2
    obtain ⟨c0', c3', p0, p1, p2, q0, q2, r0, r1, r2⟩ := MH2.out
    generalize W1.drewN nq = W2 at *
    go_quiet ((go_at_call 110; exact Calls.quiet_of_same (rq2 _)))
    go_wp2_with fail
    have M3 := MH2.out.drew nq
    have B3 := Lib.hid (dn_trans B2.out (dn_mk W2 nq))
    clear c0' c3' p0 p1 p2 q0 q2 r0 r1 r2
    obtain ⟨c0', c3', p0, p1, p2, q0, q2, r0, r1, r2⟩ := M3
    generalize W2.drewN nq = W3 at *
    go_quiet (fail)
    go_wp2_with fail
    go_ret3
    exact ⟨by first | rfl | (congr 4 <;> omega), dn_trans B3.out (dn_mk _ _)⟩
theorem nb_c (H : Cb W B A V S T R w h q) (x y : Int) (c : Bool) : Calls Tryd.prog 112 #[.pointer (some ⟨A, 0, none⟩), .int .i64 x, .int .i64 y, .bool c] W (NGives (if inB w h x y then nbH q x y else 0) (if inB w h x y then nbV q x y c else 0) (if inB w h x y then nbD q x y c else 0) W) := by
  by_cases hin : inB w h x y
  · rw [if_pos hin, if_pos hin, if_pos hin]; exact nb_y H x y c hin
  · rw [if_neg hin, if_neg hin, if_neg hin]; exact nb_o H x y c hin
end
end Go.Proofs.YtbhjapgioaiocaaDoor
