/-
  Layer 19, for the example: what remains after no passes; Curve of no passes.
-/
import Derived.Test.YtnmmgjbjnhiaoaaDoorDc19
import Derived.Test.YtnmmgjbjnhiaoaaDoorDe19
set_option maxRecDepth 100000
namespace Go.Proofs.YtnmmgjbjnhiaoaaDoor
open Go.RowKit

theorem zs_holds {w : World} {base : Nat} {s : Option Addr} {m k : Nat} (h : w.ownsRow base 3 1 (.slice s k m) k (zs k)) : HoldsI w s (List.replicate k 0) := by
  have h0 : zs k = (List.replicate k (0 : Int)).map (Value.int .i64) := by unfold zs; simp
  rw [h0] at h
  obtain ⟨_, h2⟩ := rowP_own h
  rcases h2 with ⟨_, h3⟩ | ⟨g, m', pad, h3, _, h4, _⟩
  · rw [h3]; exact .inl rfl
  · simp at h3
    obtain ⟨rfl, _⟩ := h3
    exact h4.holds
theorem zs_set (k i : Nat) : (zs k).set i (.int .i64 0) = zs k := by
  apply List.ext_getElem
  · simp [zs]
  · intro j h1 h2
    simp [zs]
theorem un_0 (W : World) : Calls Tryd.prog 46 #[.int .i64 0, .int .i64 0, .int .i64 0] W fun e w' => e = .returned (.tuple #[.int .i64 0, .int .i64 0]) ∧ w' = W := un_q 0 0 0 W (by decide) (by decide)
/-- The boxes of Curve in the example. -/
structure BoxX (W : World) (c p w h o m sh co st de we : Nat) (s0 : Option Addr) : Prop where
  c : Blk W c 40 #[.int .i64 0, .slice none 0 0, .slice none 0 0]
  w : W.cell? ⟨w, 0, none⟩ = some (.int .i64 2)
  h : W.cell? ⟨h, 0, none⟩ = some (.int .i64 2)
  o : W.cell? ⟨o, 0, none⟩ = some (.int .i64 0)
  m : Blk W m 43 #[.bool false, .bool false, .bool false, .bool false, .bool false]
  sh : W.cell? ⟨sh, 0, none⟩ = some (.int .i64 0)
  co : W.cell? ⟨co, 0, none⟩ = some (.slice s0 4 4)
  st : W.cell? ⟨st, 0, none⟩ = some (.int .i64 1)
  de : W.cell? ⟨de, 0, none⟩ = some (.int .i64 16)
  we : W.cell? ⟨we, 0, none⟩ = some (.int .i64 2)
  ho : HoldsI W s0 [3, 0, 0, 1]
theorem BoxX.call {W W1 : World} {c p w h o m sh co st de we : Nat} {s0 : Option Addr} (x : BoxX W c p w h o m sh co st de we s0) (hb : Below W.heap.size W W1) : BoxX W1 c p w h o m sh co st de we s0 := by
  have k : ∀ {a : Nat} {v : Value}, W.cell? ⟨a, 0, none⟩ = some v → W1.cell? ⟨a, 0, none⟩ = some v := fun {a v} h => (hb.cell (p := ⟨a, 0, none⟩) (cell_lt h)).trans h
  exact ⟨x.c.below hb, k x.w, k x.h, k x.o, x.m.below hb, k x.sh, k x.co, k x.st, k x.de, k x.we, x.ho.call hb⟩
theorem Z2.drew {W2 wr : World} {v1 v2 : Value} {k : Nat} (h : Z2 W2 wr v1 v2 k) : Z2 W2 wr.drew v1 v2 k := ⟨own_below h.o1 (Below.refl _ _).drew, own_below h.o2 (Below.refl _ _).drew, h.ap, h.below.drew⟩
theorem Z2.put {W2 wr : World} {g1 g2 n m1 m2 : Nat} (h : Z2 W2 wr (.slice (some ⟨g1, 0, none⟩) n m1) (.slice (some ⟨g2, 0, none⟩) n m2) n) (k : Nat) (hk : k < n) : Z2 W2 ((wr.setCell ⟨g1, k, none⟩ (.int .i64 0)).setCell ⟨g2, k, none⟩ (.int .i64 0)) (.slice (some ⟨g1, 0, none⟩) n m1) (.slice (some ⟨g2, 0, none⟩) n m2) n := by
  have hne : g1 ≠ g2 := fun e => h.ap g1 rfl (by rw [e]; rfl)
  obtain ⟨g, e1, -, -, -, b1⟩ := own_at h.o1 k hk
  obtain ⟨g', e2, -, -, -, b2⟩ := own_at h.o2 k hk
  simp at e1 e2
  subst e1 e2
  have a1 := own_put h.o1 k (.int .i64 0)
  have a2 := own_far h.o2 ⟨g1, k, none⟩ (.int .i64 0) (by simp [Value.ownBlock]; exact fun e => hne e.symm)
  have c1 := own_far a1 ⟨g2, k, none⟩ (.int .i64 0) (by simp [Value.ownBlock]; exact hne)
  have c2 := own_put a2 k (.int .i64 0)
  rw [zs_set] at c1 c2
  exact ⟨c1, c2, h.ap, (h.below.setCell (p := ⟨g1, k, none⟩) b1 _).setCell (p := ⟨g2, k, none⟩) b2 _⟩
theorem tot_0 : toV [3, 0, 0, 1] [0, 0, 0, 0] [0, 0, 0, 0] 1 16 2 = 20 ∧ toE [3, 0, 0, 1] [0, 0, 0, 0] [0, 0, 0, 0] 1 16 2 = 0 := by decide +kernel
set_option maxHeartbeats 8000000 in
theorem after_0 (W : World) (c p w h o m sh co st de we : Nat) (s0 : Option Addr) (X : BoxX W c p w h o m sh co st de we s0) :
    Calls Tryd.prog 45 #[.int .i64 0, .pointer (some ⟨c, 0, none⟩), .pointer (some ⟨w, 0, none⟩), .pointer (some ⟨h, 0, none⟩), .pointer (some ⟨o, 0, none⟩), .pointer (some ⟨m, 0, none⟩), .pointer (some ⟨sh, 0, none⟩), .pointer (some ⟨co, 0, none⟩), .pointer (some ⟨st, 0, none⟩), .pointer (some ⟨de, 0, none⟩), .pointer (some ⟨we, 0, none⟩)] W fun e w' => e = .returned (.tuple #[.int .i64 20, .int .i64 0]) ∧ Below W.heap.size W w' := by
  have kd := decode_0 W
  unfold zeroCd zeroMd at kd
  have ku := un_0
  have KU := Lib.hid ku
  have HX := Lib.hid X
  have x0 := X.c.cell 0
  have x1 := X.c.cell 1
  have x2 := X.c.cell 2
  obtain ⟨y0, y1, y2, y3, y4⟩ := md19 X.m
  have x3 := X.w
  have x4 := X.h
  have x5 := X.o
  clear X ku
  go_enter Tryd.func45, Tryd.ntmps45
  go_wp2_with (first | (go_at_call 22; (with_reducible refine kd.mono ?_); rintro e w1 ⟨v1, v2, W2, rfl, hb, hZ⟩; obtain ⟨s1, n1, rfl⟩ := own_slice hZ.o1; obtain ⟨s2, n2, rfl⟩ := own_slice hZ.o2; have B1 := Lib.hid hb; have Z1 := Lib.hid hZ; clear hb hZ) | fail)
  clear kd x0 x1 x2 x3 x4 x5 y0 y1 y2 y3 y4
  go_loopw [35] (fun i wr => ∃ k : Nat, k ≤ 4 ∧ i = .int .i64 (k : Int) ∧ Hid (Z2 W2 wr (.slice s1 4 n1) (.slice s2 4 n2) 4)) (fun i _ => 4 - (intOf i).toNat)
  case atStart => exact ⟨0, by decide, rfl, Z1⟩
  case round =>
    obtain ⟨k, hk, rfl, hZ⟩ := hrel
    have XW := HX.out.call (below_call B1.out hZ.out.below)
    by_cases hlt : k < 4
    · have HLT := Lib.hid hlt
      have wk : IntKind.i64.wrap ((k : Int) + 1) = ((k + 1 : Nat) : Int) := by rw [IntWalk.i64_left]; unfold wrap64; omega
      have hki : (k : Int) < 4 := by omega
      have p1 : (0 : Int) ≤ (k : Int) := by omega
      obtain ⟨g1, rfl, c1, f1, -, -⟩ := own_at hZ.out.o1 k hlt
      obtain ⟨g2, rfl, c2, f2, -, -⟩ := own_at hZ.out.o2 k hlt
      have hz : (zs 4)[k]? = some (.int .i64 0) := by unfold zs; rw [List.getElem?_replicate]; simp [hlt]
      rw [hz] at c1 c2
      have x6 := XW.sh
      have hne : g1 ≠ g2 := fun e => hZ.out.ap g1 rfl (by rw [e]; rfl)
      have hne2 : g2 ≠ g1 := fun e => hne e.symm
      have HZ2 := Lib.hid (hZ.out.drew.put k hlt)
      have f1k := f1 k
      have f2k := f2 k
      clear XW hlt hz f1 f2
      go_wp2_with fail
      go_region_law (first | (go_simp; go_at_call 46; (with_reducible refine (KU.out _).mono ?_); rintro e wn ⟨rfl, rfl⟩; go_wp2_with fail) | fail)
      all_goals
        go_wp2_with fail
        go_roundw
        case rel => exact ⟨k + 1, HLT.out, by go_num, HZ2⟩
        case measure => have := HLT.out; simp [intOf]; omega
    · obtain rfl : k = 4 := by omega
      have kt := dtotal_c [3, 0, 0, 1] (List.replicate 4 0) (List.replicate 4 0) s0 s1 s2 4 4 4 4 n1 n2 1 16 2 wr XW.ho (zs_holds hZ.out.o1) (zs_holds hZ.out.o2) rfl rfl rfl (by intro v hv; simp at hv; subst hv; unfold i64R; omega)
      rw [show (List.replicate 4 (0 : Int)) = [0, 0, 0, 0] from rfl, tot_0.1, tot_0.2] at kt
      have HB9 := Lib.hid (below_call B1.out hZ.out.below)
      have x6 := XW.co
      have x7 := XW.st
      have x8 := XW.de
      have x9 := XW.we
      have hki : ¬ ((4 : Nat) : Int) < 4 := by omega
      clear XW
      go_wp2_with (first | (go_at_call 14; (with_reducible refine kt.mono ?_); rintro e w3 ⟨rfl, hb3⟩; have B3 := Lib.hid (below_call HB9.out hb3); clear hb3) | fail)
      go_ret2
      exact ⟨rfl, B3.out⟩
end Go.Proofs.YtnmmgjbjnhiaoaaDoor
