/-
  Layers 1 to 5, the base: DcC, DcD, DcE, DcG of one piece.
-/
import Derived.Test.YtoplgnckdmkaoaaBsJ
import Derived.Test.YtoplgnckdmkaoaaBsC
import Derived.Test.YtoplgnckdmkaoaaBsH
import Derived.Test.YtoplgnckdmkaoaaBsI
import Derived.Test.YtoplgnckdmkaoaaBsG
set_option maxRecDepth 100000
namespace Go.Proofs.Ytoplgnckdmkaoaa
open Go.RowKit

/-- h rows of wd numbers, by their place. -/
def tabG (wd h : Nat) (f : Nat → Nat → Int) : List Int := (List.range (h * wd)).map fun i => f (i / wd) (i % wd)
theorem tabG_len {wd h : Nat} {f : Nat → Nat → Int} : (tabG wd h f).length = h * wd := by simp [tabG]
theorem at_lt {wd h y x : Nat} (hy : y < h) (hx : x < wd) : y * wd + x < h * wd := by
  have := Nat.mul_le_mul_right wd hy
  rw [Nat.succ_mul] at this
  omega
theorem tabG_at {wd h : Nat} {f : Nat → Nat → Int} {y x : Nat} (hy : y < h) (hx : x < wd) : (tabG wd h f)[y * wd + x]'(by rw [tabG_len]; exact at_lt hy hx) = f y x := by
  have h0 : 0 < wd := by omega
  simp only [tabG, List.getElem_map, List.getElem_range]
  rw [Nat.add_comm (y * wd) x, Nat.add_mul_div_right _ _ h0, Nat.add_mul_mod_self_right, Nat.div_eq_of_lt hx, Nat.mod_eq_of_lt hx, Nat.zero_add]
theorem div_place {wd h i : Nat} (hi : i < h * wd) : ∃ y x, y < h ∧ x < wd ∧ i = y * wd + x := by
  have h0 : 0 < wd := by
    rcases Nat.eq_zero_or_pos wd with rfl | q
    · simp at hi
    · exact q
  refine ⟨i / wd, i % wd, Nat.div_lt_of_lt_mul (by rw [Nat.mul_comm]; exact hi), Nat.mod_lt _ h0, ?_⟩
  rw [Nat.mul_comm]
  exact (Nat.div_add_mod i wd).symm
theorem tabG_ext {wd h : Nat} {l m : List Int} (hl : l.length = h * wd) (hm : m.length = h * wd) (H : ∀ y x, y < h → x < wd → l[y * wd + x]? = m[y * wd + x]?) : l = m := by
  refine List.ext_getElem? fun i => ?_
  rcases Nat.lt_or_ge i (h * wd) with q | q
  · obtain ⟨y, x, hy, hx, rfl⟩ := div_place q
    exact H y x hy hx
  · rw [List.getElem?_eq_none (by omega), List.getElem?_eq_none (by omega)]
theorem tabG_get {wd h : Nat} {f : Nat → Nat → Int} {y x : Nat} (hy : y < h) (hx : x < wd) : (tabG wd h f)[y * wd + x]? = some (f y x) := by
  rw [List.getElem?_eq_getElem (by rw [tabG_len]; exact at_lt hy hx), tabG_at hy hx]
theorem tabG_congr {wd h : Nat} {f g : Nat → Nat → Int} (H : ∀ y x, y < h → x < wd → f y x = g y x) : tabG wd h f = tabG wd h g :=
  tabG_ext tabG_len tabG_len fun y x hy hx => by rw [tabG_get hy hx, tabG_get hy hx, H y x hy hx]
theorem place_inj {wd y x y' x' : Nat} (hx : x < wd) (hx' : x' < wd) (e : y * wd + x = y' * wd + x') : y = y' ∧ x = x' := by
  have h0 : 0 < wd := by omega
  have e1 : (y * wd + x) / wd = y := by rw [Nat.add_comm, Nat.add_mul_div_right _ _ h0, Nat.div_eq_of_lt hx, Nat.zero_add]
  have e2 : (y' * wd + x') / wd = y' := by rw [Nat.add_comm, Nat.add_mul_div_right _ _ h0, Nat.div_eq_of_lt hx', Nat.zero_add]
  have hy : y = y' := by rw [← e1, ← e2, e]
  subst hy
  exact ⟨rfl, by omega⟩
theorem tabG_set {wd h : Nat} {f : Nat → Nat → Int} {k j : Nat} (hk : k < h) (hj : j < wd) (v : Int) : (tabG wd h f).set (k * wd + j) v = tabG wd h fun y x => if y = k ∧ x = j then v else f y x := by
  refine tabG_ext (by rw [List.length_set, tabG_len]) tabG_len fun y x hy hx => ?_
  rw [tabG_get hy hx, List.getElem?_set]
  by_cases e : k * wd + j = y * wd + x
  · obtain ⟨rfl, rfl⟩ := place_inj hj hx e
    rw [if_pos rfl, if_pos (by rw [tabG_len]; exact at_lt hk hj), if_pos ⟨rfl, rfl⟩]
  · rw [if_neg e, tabG_get hy hx, if_neg (fun q => e (by rw [q.1, q.2]))]
theorem flat_tab {n : Nat} {Q : List (List Int)} (h : Ex.Wide n Q) : Q.flatten = tabG n Q.length fun y x => (Q.getD y []).getD x 0 := by
  refine tabG_ext (Ex.flat_len h) tabG_len fun y x hy hx => ?_
  rw [tabG_get hy hx, Ex.flat_get h hy hx]
  simp [hy]
theorem rep_tab (wd h : Nat) : List.replicate (h * wd) (0 : Int) = tabG wd h fun _ _ => 0 := by
  refine tabG_ext (by simp) tabG_len fun y x hy hx => ?_
  rw [tabG_get hy hx, List.getElem?_replicate, if_pos (at_lt hy hx)]
/-- A column laid into numbers, its first k of them. -/
def inCol (f : Nat → Nat → Int) (j k : Nat) (col : List Int) (y x : Nat) : Int := if x = j ∧ y < k then col.getD y 0 else f y x

theorem but_cell {g : Nat} {w W : World} (h : But g w W) (o : Nat) (v : Value) : But g w (W.setCell ⟨g, o, none⟩ v) :=
  ⟨h.os, h.tape, h.output, by rw [World.size_setCell]; exact h.size, fun k hk hn => (Below.heap_setCell _ _ _ _ hn).trans (h.block k hk hn)⟩
theorem sc_facts {k wd j : Nat} {x a : Int} (hk : k ≤ 4096) (w4 : wd ≤ 4096) (hj : j < wd) (hx : x - a = (j : Int)) (a0 : 0 ≤ a) (a1 : a ≤ 4096) :
    ∃ (p q : Nat) (t : Int), (k * wd = p ∧ p + j = q) ∧ IntKind.i64.wrap ((k : Int) * (wd : Int)) = (p : Int) ∧ wrap64 ((k : Int) * (wd : Int)) = (p : Int) ∧ IntKind.i64.wrap ((p : Int) + x) = t ∧ IntKind.i64.wrap (t - a) = (q : Int) := by
  obtain ⟨p, hp⟩ : ∃ p : Nat, k * wd = p := ⟨_, rfl⟩
  have hpl : p ≤ 16777216 := by rw [← hp]; exact mul_4096 hk w4
  have u0 : (k : Int) * (wd : Int) = (p : Int) := by rw [← hp]; simp
  clear hk
  refine ⟨p, p + j, (p : Int) + x, ⟨hp, rfl⟩, ?_, ?_, ?_, ?_⟩
  · rw [u0]; exact IntWalk.i64_in _ (by omega)
  · rw [u0]; exact IntWalk.wrap64_in _ ⟨by omega, by omega⟩
  · clear hp u0; exact IntWalk.i64_in _ (by omega)
  · clear hp u0
    have e : (p : Int) + x - a = ((p + j : Nat) : Int) := by omega
    rw [e]
    exact IntWalk.i64_in _ (by omega)
/-- What setColumn knows at each place. -/
structure Sc (g : Nat) (r : Pl.R) (v : Value) (w W : World) : Prop where
  but : But g w W
  p : QBox W w.heap.size r v
  glt : g < w.heap.size
set_option maxRecDepth 100000 in
set_option maxHeartbeats 4000000 in
theorem setc_q (a b c d x : Int) (g N m wd h j : Nat) (f : Nat → Nat → Int) (col : List Int) (s : Option Addr) (mc : Nat) (w : World) (hwd : c - a = (wd : Int)) (hN : N = h * wd) (hx : x - a = (j : Int)) (hj : j < wd) (hcol : col.length = h) (h4 : h ≤ 4096) (w4 : wd ≤ 4096)
    (a0 : 0 ≤ a) (a1 : a ≤ 4096) (hR : RowAt w g (tabG wd h f)) (hC : HoldsI w s col) (hs : ∀ p, s = some p → p.block ≠ g) :
    Calls Try.prog 66 #[.agg #[.int .i64 a, .int .i64 b, .int .i64 c, .int .i64 d, .slice (some ⟨g, 0, none⟩) N m], .int .i64 x, .slice s col.length mc] w fun e w' => e = .returned (.tuple #[]) ∧ But g w w' ∧ RowAt w' g (tabG wd h (inCol f j h col)) := by
  have ww : IntKind.i64.wrap (c - a) = (wd : Int) := by rw [IntWalk.i64_in _ (by omega)]; exact hwd
  have glt := hR.lt
  have HN : Hid _ := hN
  clear hN
  have s0 : Sc g ⟨a, b, c, d⟩ (.slice (some ⟨g, 0, none⟩) N m) w (w.alloc (.cells #[.int .i64 a, .int .i64 b, .int .i64 c, .int .i64 d, .slice (some ⟨g, 0, none⟩) N m] 26)) := ⟨But.of ((Below.refl _ _).alloc (Nat.le_refl _) _), QBox.fresh w a b c d _ N m _, glt⟩
  have r0 : RowAt (w.alloc (.cells #[.int .i64 a, .int .i64 b, .int .i64 c, .int .i64 d, .slice (some ⟨g, 0, none⟩) N m] 26)) g (tabG wd h (inCol f j 0 col)) := by
    have e : tabG wd h (inCol f j 0 col) = tabG wd h f := tabG_congr fun y x _ _ => by simp [inCol]
    rw [e]
    exact hR.alloc _
  go_enter Try.func66, Try.ntmps66
  obtain ⟨c0, c1, c2, c3, c4⟩ := s0.p.open
  go_wp2_with fail
  clear c0 c1 c2 c3 c4
  go_loopw [18] (fun i wr => ∃ k : Nat, k ≤ h ∧ i = .int .i64 k ∧ Sc g ⟨a, b, c, d⟩ (.slice (some ⟨g, 0, none⟩) N m) w wr ∧ RowAt wr g (tabG wd h (inCol f j k col))) (fun i _ => h - (intOf i).toNat)
  case atStart => exact ⟨0, Nat.zero_le _, rfl, s0, r0⟩
  case round =>
    obtain ⟨k, hk, rfl, hS, hRk⟩ := hrel
    clear s0 r0
    by_cases hlt : k < h
    · have hki : (k : Int) < (h : Int) := by omega
      have hkc : k < col.length := by omega
      rcases hC with rfl | ⟨bb, off, rfl, hr⟩
      · simp at hkc
      have y0 := hr k hkc
      have hbl := cell_lt y0
      have y1 : wr.cell? ⟨bb, off + k, none⟩ = some (.int .i64 col[k]) := (hS.but.cell (p := ⟨bb, off + k, none⟩) hbl (hs ⟨bb, off, none⟩ rfl)).trans y0
      obtain ⟨p, q, t, ⟨hp, hq⟩, uu⟩ := sc_facts (k := k) (by omega) w4 hj hx a0 a1
      have HU : Hid _ := uu
      clear uu
      have HU4 : Hid (IntKind.i64.wrap ((k : Int) + 1) = (k : Int) + 1) := IntWalk.i64_in _ (by omega)
      have hk1 : k + 1 ≤ h := hlt
      have hlt2 : q < N := by rw [HN.out, ← hq, ← hp]; exact at_lt hlt hj
      have hlt3 : (q : Int) < (N : Int) := Int.ofNat_lt.2 hlt2
      have hT : RowAt (wr.setCell ⟨g, q, none⟩ (.int .i64 col[k])) g (tabG wd h (inCol f j (k + 1) col)) := by
        have e : tabG wd h (inCol f j (k + 1) col) = (tabG wd h (inCol f j k col)).set q col[k] := by
          rw [← hq, ← hp, tabG_set hlt hj]
          refine tabG_congr fun y x hy hx => ?_
          unfold inCol
          by_cases e1 : y = k ∧ x = j
          · obtain ⟨rfl, rfl⟩ := e1
            simp [hkc]
          · rw [if_neg e1]
            by_cases e2 : x = j ∧ y < k
            · rw [if_pos e2, if_pos ⟨e2.1, by omega⟩]
            · rw [if_neg e2, if_neg (fun q => by omega)]
        rw [e]
        exact hRk.set _ _
      have hS2 : Sc g ⟨a, b, c, d⟩ (.slice (some ⟨g, 0, none⟩) N m) w (wr.setCell ⟨g, q, none⟩ (.int .i64 col[k])) := ⟨but_cell hS.but _ _, hS.p.far _ _ (by have := hS.glt; simp; omega), hS.glt⟩
      have hcell : ∃ v, wr.cell? ⟨g, q, none⟩ = some v := ⟨_, hRk.at (k := q) (by rw [tabG_len, ← HN.out]; exact hlt2)⟩
      obtain ⟨v0, hv0⟩ := hcell
      have hfr := hRk.free q
      obtain ⟨c0, c1, c2, c3, c4⟩ := hS.p.open
      have HT : Hid _ := hT
      have HS : Hid _ := hS2
      clear hT hS2 hS hRk y0 hp hq hlt2
      generalize col[k] = V at *
      clear hx hwd hcol hj h4 w4 a0 a1 hR hr hs hbl hkc
      obtain ⟨u1, u1', u2, u3⟩ := HU.out
      have u4 := HU4.out
      go_wp2
      clear u1 u1' u2 u3
      go_roundw
      case rel => exact ⟨k + 1, hk1, by go_num, HS.out, HT.out⟩
      case measure => simp [intOf]; omega
    · obtain rfl : k = h := by omega
      have HS : Hid _ := hS.but
      have HR : Hid _ := hRk
      clear hS hRk
      go_wp2
      go_end0
      exact ⟨rfl, HS.out, HR.out⟩
end Go.Proofs.Ytoplgnckdmkaoaa

namespace Go.Proofs.Ytoplgnckdmkaoaa
open Go.RowKit

/-! A plane's block whose parts are stored -/
theorem QBox.rect4 {w : World} {B : Nat} {r : Pl.R} {v : Value} (h : QBox w B r v) (a b c d : Int) :
    QBox ((((w.setCell ⟨B, 0, none⟩ (.int .i64 a)).setCell ⟨B, 1, none⟩ (.int .i64 b)).setCell ⟨B, 2, none⟩ (.int .i64 c)).setCell ⟨B, 3, none⟩ (.int .i64 d)) B ⟨a, b, c, d⟩ v := by
  obtain ⟨c0, c1, c2, c3, c4⟩ := h.open
  refine ⟨by simp [RectAt, go_sem, c0, c1, c2, c3], by simp [go_sem, c4], fun j => ?_, by have := h.lt; simpa [World.setCell] using this⟩
  simp only [World.frozen?_setCell]
  exact h.free j
theorem QBox.list {w : World} {B : Nat} {r : Pl.R} {v : Value} (h : QBox w B r v) (u : Value) : QBox (w.setCell ⟨B, 4, none⟩ u) B r u := by
  obtain ⟨c0, c1, c2, c3, c4⟩ := h.open
  refine ⟨by simp [RectAt, go_sem, c0, c1, c2, c3], by simp [go_sem, c4], fun j => ?_, by have := h.lt; simpa [World.setCell] using this⟩
  simp only [World.frozen?_setCell]
  exact h.free j
theorem QBox.far4 {w : World} {B b : Nat} {r : Pl.R} {v : Value} (h : QBox w B r v) (hn : B ≠ b) (v0 v1 v2 v3 : Value) : QBox ((((w.setCell ⟨b, 0, none⟩ v0).setCell ⟨b, 1, none⟩ v1).setCell ⟨b, 2, none⟩ v2).setCell ⟨b, 3, none⟩ v3) B r v :=
  (((h.far _ _ hn).far _ _ hn).far _ _ hn).far _ _ hn
theorem QBox.grown {w w1 : World} {B : Nat} {r : Pl.R} {v : Value} {row : Option Nat} (h : QBox w B r v) (hg : w.grownBy w1 row) (hn : some B ≠ row) : QBox w1 B r v := by
  have hb := hg.block B h.lt hn
  have c : ∀ o, w1.cell? ⟨B, o, none⟩ = w.cell? ⟨B, o, none⟩ := fun o => World.cell?_of_block hb
  exact ⟨⟨(c _).trans h.cells.1, (c _).trans h.cells.2.1, (c _).trans h.cells.2.2.1, (c _).trans h.cells.2.2.2⟩, (c _).trans h.data, fun j => (World.frozen?_of_block hb).trans (h.free j), by have := h.lt; have := hg.size; omega⟩

theorem but5 {W : World} {b : Nat} (v0 v1 v2 v3 v4 : Value) : But b W (((((W.setCell ⟨b, 0, none⟩ v0).setCell ⟨b, 1, none⟩ v1).setCell ⟨b, 2, none⟩ v2).setCell ⟨b, 3, none⟩ v3).setCell ⟨b, 4, none⟩ v4) :=
  but_cell (but_cell (but_cell (but_cell (but_cell (But.of (Below.refl _ _)) _ _) _ _) _ _) _ _) _ _
/-- Two planes whose samples grow, and the plane that came in. -/
structure Sr (w : World) (N B1 B2 : Nat) (r r1 r2 : Pl.R) (sv v1 v2 : Value) (o1 o2 : List Int) (W : World) : Prop where
  below : Below w.heap.size w W
  p : QBox W w.heap.size r sv
  q1 : QBox W B1 r1 v1
  q2 : QBox W B2 r2 v2
  own1 : W.ownsRow N 3 1 v1 o1.length (o1.map (Value.int .i64))
  own2 : W.ownsRow N 3 1 v2 o2.length (o2.map (Value.int .i64))
  apart : ∀ g, v1.ownBlock = some g → v2.ownBlock ≠ some g
  ne : B1 ≠ B2
  h1 : w.heap.size < B1 ∧ B1 < N
  h2 : w.heap.size < B2 ∧ B2 < N
  hW : N ≤ W.heap.size
section
variable {w W : World} {N B1 B2 : Nat} {r r1 r2 : Pl.R} {sv v1 v2 : Value} {o1 o2 : List Int}
theorem Sr.swap (h : Sr w N B1 B2 r r1 r2 sv v1 v2 o1 o2 W) : Sr w N B2 B1 r r2 r1 sv v2 v1 o2 o1 W :=
  ⟨h.below, h.p, h.q2, h.q1, h.own2, h.own1, fun g a b => h.apart g b a, h.ne.symm, h.h2, h.h1, h.hW⟩
theorem Sr.step {W1 : World} (h : Sr w N B1 B2 r r1 r2 sv v1 v2 o1 o2 W) (hb : Below W.heap.size W W1) : Sr w N B1 B2 r r1 r2 sv v1 v2 o1 o2 W1 :=
  ⟨below_call h.below hb, h.p.below hb, h.q1.below hb, h.q2.below hb, own_below h.own1 hb, own_below h.own2 hb, h.apart, h.ne, h.h1, h.h2, Nat.le_trans h.hW hb.size⟩
theorem Sr.push {W2 : World} {v' : Value} {o3 : List Int} (h : Sr w N B1 B2 r r1 r2 sv v1 v2 o1 o2 W) (hg : W.grownBy W2 v1.ownBlock) (hown : W2.ownsRow N 3 1 v' o3.length (o3.map (Value.int .i64)))
    (hat : v'.ownBlock = v1.ownBlock ∨ v'.ownBlock = some W.heap.size) : Sr w N B1 B2 r r1 r2 sv v' v2 o3 o2 (W2.setCell ⟨B1, 4, none⟩ v') := by
  have hr : ∀ k, v1.ownBlock = some k → N ≤ k := fun k hk => (h.own1.lt k hk).1
  have hne : ∀ B, B < N → some B ≠ v1.ownBlock := fun B hB e => by have := hr B e.symm; omega
  have hp := h.p.grown hg (hne _ (by have := h.h1; omega))
  have hq1 := h.q1.grown hg (hne _ h.h1.2)
  have hq2 := h.q2.grown hg (hne _ h.h2.2)
  have hsz := hg.size
  refine ⟨(h.below.grown hg h.below.size (fun k hk => by have := hr k hk; have := h.h1; omega)).setCell (Nat.le_of_lt h.h1.1) _, hp.far _ _ (Nat.ne_of_lt h.h1.1), hq1.list v', hq2.far _ _ h.ne.symm, own_set hown _ _ h.h1.2, own_set (own_heap h.own2 fun g hgg => ?_) _ _ h.h1.2, fun g a b => ?_, h.ne, h.h1, h.h2, by rw [World.size_setCell]; have := h.hW; omega⟩
  · exact hg.block g (h.own2.lt g hgg).2 (fun e => h.apart g e.symm hgg)
  · have hlt := (h.own2.lt g b).2
    rcases hat with hat | hat
    · exact h.apart g (hat ▸ a) b
    · rw [hat] at a
      have := Option.some.inj a
      omega
end
/-- The halves that the call returns. -/
def GivesHalves (r1 r2 : Pl.R) (L H : List Int) (w : World) (e : Ending) (w' : World) : Prop :=
  ∃ s1 m1 s2 m2, e = .returned (.tuple #[.agg #[.int .i64 r1.x0, .int .i64 r1.y0, .int .i64 r1.x1, .int .i64 r1.y1, .slice s1 L.length m1], .agg #[.int .i64 r2.x0, .int .i64 r2.y0, .int .i64 r2.x1, .int .i64 r2.y1, .slice s2 H.length m2]]) ∧
    HoldsI w' s1 L ∧ HoldsI w' s2 H ∧ Below w.heap.size w w' ∧ L.length ≤ m1 ∧ H.length ≤ m2 ∧ Fresh w s1 ∧ Fresh w s2
theorem fwd_q (l : List Int) (st kn : Int) (s : Option Addr) (m n : Nat) (w : World) (hk : kB kn = true) (hh : fwB l st = true) (hs : s = none → l.length = 0 ∧ m = 0) (hH : HoldsI w s l) (hn : n = l.length) : Calls Try.prog 79 #[.slice s n m, .int .i64 st, .int .i64 kn] w (GivesSplit (Ex.loF st kn l) (Ex.hiF st kn l) 0 w) := by
  subst hn
  exact fwd_cyes l st kn s m w hk hh hs hH
theorem own_nil (W : World) (N : Nat) : W.ownsRow N 3 1 (.slice none 0 0) ([] : List Int).length (([] : List Int).map (Value.int .i64)) := World.ownsRow_nil _ _ _ _
/-- The worlds of the statement that stores the rectangles. -/
structure SrI (w : World) (r : Pl.R) (sv : Value) (g : Nat) (A : Array Value) (W : World) : Prop where
  below : Below w.heap.size w W
  p : QBox W w.heap.size r sv
  q1 : QBox W (w.heap.size + 1) ⟨0, 0, 0, 0⟩ (.slice none 0 0)
  q2 : QBox W (w.heap.size + 2) ⟨0, 0, 0, 0⟩ (.slice none 0 0)
  bk : Blk W g 84 A
theorem SrI.step {w W W1 : World} {r : Pl.R} {sv : Value} {g : Nat} {A : Array Value} (h : SrI w r sv g A W) (hb : Below W.heap.size W W1) : SrI w r sv g A W1 := ⟨below_call h.below hb, h.p.below hb, h.q1.below hb, h.q2.below hb, h.bk.below hb⟩
structure SrF (w : World) (r : Pl.R) (sv : Value) (g : Nat) (A : Array Value) where
  W : World
  ok : SrI w r sv g A W

set_option maxHeartbeats 8000000 in
theorem splitRows_q (a b c d kn : Int) (l : List Int) (s : Option Addr) (m n h : Nat) (w : World) (hp : pvB a b c d l.length = true) (hk : kB kn = true) (hf : fewB l 35184372088832 = true) (hm : l.length ≤ m) (hH : HoldsI w s l) (hn : c - a = (n : Int)) (hh : d - b = (h : Int)) :
    Calls Try.prog 80 #[.agg #[.int .i64 a, .int .i64 b, .int .i64 c, .int .i64 d, .slice s l.length m], .int .i64 kn] w
      (GivesHalves ⟨(bnds ⟨a, b, c, d⟩ 0).x0, b, (bnds ⟨a, b, c, d⟩ 0).x1, d⟩ ⟨(bnds ⟨a, b, c, d⟩ 1).x0, b, (bnds ⟨a, b, c, d⟩ 1).x1, d⟩ (Ex.lowR a kn (Ex.cutR n l h)).flatten (Ex.highR a kn (Ex.cutR n l h)).flatten w) := by
  obtain ⟨n', h', e1, e2, n4, h4, hlen, a0, a1, b0, b1, c0, c1, d0, d1, hv⟩ := pv_facts hp
  obtain rfl : n' = n := by omega
  obtain rfl : h' = h := by omega
  clear e1 e2
  have hfw := few_iff.1 hf
  have hl4 : l.length ≤ 16777216 := by rw [hlen]; exact mul_4096 h4 n4
  have HLn : Hid _ := hlen
  have Hp : Hid _ := hp
  clear hlen hp hf
  have x0 := ((QBox.fresh w a b c d s l.length m 26).alloc (.cells #[.int .i64 0, .int .i64 0, .int .i64 0, .int .i64 0, .slice none 0 0] 26)).alloc (.cells #[.int .i64 0, .int .i64 0, .int .i64 0, .int .i64 0, .slice none 0 0] 26)
  have x1 := (QBox.freshAt (w.alloc (.cells #[.int .i64 a, .int .i64 b, .int .i64 c, .int .i64 d, .slice s l.length m] 26)) (w.heap.size + 1) (by simp) 0 0 0 0 none 0 0 26).alloc (.cells #[.int .i64 0, .int .i64 0, .int .i64 0, .int .i64 0, .slice none 0 0] 26)
  have x2 := QBox.freshAt ((w.alloc (.cells #[.int .i64 a, .int .i64 b, .int .i64 c, .int .i64 d, .slice s l.length m] 26)).alloc (.cells #[.int .i64 0, .int .i64 0, .int .i64 0, .int .i64 0, .slice none 0 0] 26)) (w.heap.size + 2) (by simp) 0 0 0 0 none 0 0 26
  have B := below_alloc (below_alloc (below_alloc (Below.refl _ w) (.cells #[.int .i64 a, .int .i64 b, .int .i64 c, .int .i64 d, .slice s l.length m] 26)) (.cells #[.int .i64 0, .int .i64 0, .int .i64 0, .int .i64 0, .slice none 0 0] 26)) (.cells #[.int .i64 0, .int .i64 0, .int .i64 0, .int .i64 0, .slice none 0 0] 26)
  obtain ⟨A, hA⟩ : ∃ A, A = arr4 (bnds ⟨a, b, c, d⟩) := ⟨_, rfl⟩
  have HA16 : Hid (16 = A.size) := by rw [hA]; rfl
  have hAo : A.all (·.oneCell') = true := by rw [hA]; exact one16 _
  have hAi : (Try.prog.info? 84).map (·.size) = some A.size := by rw [hA]; exact info16
  have cB := fun W => bands_q a b c d W
  rw [← hA] at cB
  have HA : Hid _ := hA
  have HAi : Hid _ := hAi
  clear hA hAi
  go_enter Try.func80, Try.ntmps80
  obtain ⟨y0, y1, y2, y3, y4⟩ := x0.open
  go_wp2_with fail
  clear y0 y1 y2 y3 y4
  refine (cB _).mono ?_
  rintro e w3 ⟨rfl, hb⟩
  replace x0 := x0.below hb
  replace x1 := x1.below hb
  replace x2 := x2.below hb
  replace B := below_call B hb
  clear hb cB
  go_upto_region 2 with (first | (refine wpList_store_row rfl 84 (.tmp 6) (.tmp 15) rfl w3.heap.size A rfl rfl 84 _ (Blk.fresh w3 84 #[.int .i64 0, .int .i64 0, .int .i64 0, .int .i64 0, .int .i64 0, .int .i64 0, .int .i64 0, .int .i64 0, .int .i64 0, .int .i64 0, .int .i64 0, .int .i64 0, .int .i64 0, .int .i64 0, .int .i64 0, .int .i64 0]) HAi.out HA16.out hAo ?_))
  obtain ⟨W3, hW3⟩ : ∃ W3, W3 = (w3.alloc (.cells #[.int .i64 0, .int .i64 0, .int .i64 0, .int .i64 0, .int .i64 0, .int .i64 0, .int .i64 0, .int .i64 0, .int .i64 0, .int .i64 0, .int .i64 0, .int .i64 0, .int .i64 0, .int .i64 0, .int .i64 0, .int .i64 0] 84)).setRow w3.heap.size A := ⟨_, rfl⟩
  have lt0 : w.heap.size + 2 < w3.heap.size := x2.lt
  have z0 : QBox W3 w.heap.size ⟨a, b, c, d⟩ (.slice s l.length m) := by rw [hW3]; exact (x0.alloc _).but (But.setRow _) (by omega)
  have z1 : QBox W3 (w.heap.size + 1) ⟨0, 0, 0, 0⟩ (.slice none 0 0) := by rw [hW3]; exact (x1.alloc _).but (But.setRow _) (by omega)
  have z2 : QBox W3 (w.heap.size + 2) ⟨0, 0, 0, 0⟩ (.slice none 0 0) := by rw [hW3]; exact (x2.alloc _).but (But.setRow _) (by omega)
  have zb : Blk W3 w3.heap.size 84 A := hW3 ▸ (Blk.fresh w3 84 #[.int .i64 0, .int .i64 0, .int .i64 0, .int .i64 0, .int .i64 0, .int .i64 0, .int .i64 0, .int .i64 0, .int .i64 0, .int .i64 0, .int .i64 0, .int .i64 0, .int .i64 0, .int .i64 0, .int .i64 0, .int .i64 0]).row A
  have B3 : Below w.heap.size w W3 := hW3 ▸ below_row (below_alloc B _) (by omega) _
  have hS : SrI w ⟨a, b, c, d⟩ (.slice s l.length m) w3.heap.size A W3 := ⟨B3, z0, z1, z2, zb⟩
  rw [← hW3]
  clear hW3 x0 x1 x2 B z0 z1 z2 zb B3 hAo
  have hst : ∀ (X : SrF w ⟨a, b, c, d⟩ (.slice s l.length m) w3.heap.size A) (w' : World), Below X.W.heap.size X.W w' → ∃ Y : SrF w ⟨a, b, c, d⟩ (.slice s l.length m) w3.heap.size A, w' = Y.W := fun X w' hb => ⟨⟨w', X.ok.step hb⟩, rfl⟩
  have hne : Nonempty (SrF w ⟨a, b, c, d⟩ (.slice s l.length m) w3.heap.size A) := ⟨⟨_, hS⟩⟩
  have r00 : ∀ X : SrF w ⟨a, b, c, d⟩ (.slice s l.length m) w3.heap.size A, X.W.cell? ⟨w3.heap.size, 0, none⟩ = some (.int .i64 (bnds ⟨a, b, c, d⟩ 0).x0) := fun X => X.ok.bk.cell 0 _ (by rw [HA.out]; rfl)
  have r01 : ∀ X : SrF w ⟨a, b, c, d⟩ (.slice s l.length m) w3.heap.size A, X.W.cell? ⟨w3.heap.size, 1, none⟩ = some (.int .i64 (bnds ⟨a, b, c, d⟩ 0).y0) := fun X => X.ok.bk.cell 1 _ (by rw [HA.out]; rfl)
  have r02 : ∀ X : SrF w ⟨a, b, c, d⟩ (.slice s l.length m) w3.heap.size A, X.W.cell? ⟨w3.heap.size, 2, none⟩ = some (.int .i64 (bnds ⟨a, b, c, d⟩ 0).x1) := fun X => X.ok.bk.cell 2 _ (by rw [HA.out]; rfl)
  have r03 : ∀ X : SrF w ⟨a, b, c, d⟩ (.slice s l.length m) w3.heap.size A, X.W.cell? ⟨w3.heap.size, 3, none⟩ = some (.int .i64 (bnds ⟨a, b, c, d⟩ 0).y1) := fun X => X.ok.bk.cell 3 _ (by rw [HA.out]; rfl)
  have r10 : ∀ X : SrF w ⟨a, b, c, d⟩ (.slice s l.length m) w3.heap.size A, X.W.cell? ⟨w3.heap.size, 4, none⟩ = some (.int .i64 (bnds ⟨a, b, c, d⟩ 1).x0) := fun X => X.ok.bk.cell 4 _ (by rw [HA.out]; rfl)
  have r11 : ∀ X : SrF w ⟨a, b, c, d⟩ (.slice s l.length m) w3.heap.size A, X.W.cell? ⟨w3.heap.size, 5, none⟩ = some (.int .i64 (bnds ⟨a, b, c, d⟩ 1).y0) := fun X => X.ok.bk.cell 5 _ (by rw [HA.out]; rfl)
  have r12 : ∀ X : SrF w ⟨a, b, c, d⟩ (.slice s l.length m) w3.heap.size A, X.W.cell? ⟨w3.heap.size, 6, none⟩ = some (.int .i64 (bnds ⟨a, b, c, d⟩ 1).x1) := fun X => X.ok.bk.cell 6 _ (by rw [HA.out]; rfl)
  have r13 : ∀ X : SrF w ⟨a, b, c, d⟩ (.slice s l.length m) w3.heap.size A, X.W.cell? ⟨w3.heap.size, 7, none⟩ = some (.int .i64 (bnds ⟨a, b, c, d⟩ 1).y1) := fun X => X.ok.bk.cell 7 _ (by rw [HA.out]; rfl)
  have p0 : ∀ X : SrF w ⟨a, b, c, d⟩ (.slice s l.length m) w3.heap.size A, X.W.cell? ⟨w.heap.size, 0, none⟩ = some (.int .i64 a) := fun X => X.ok.p.open.1
  have p1 : ∀ X : SrF w ⟨a, b, c, d⟩ (.slice s l.length m) w3.heap.size A, X.W.cell? ⟨w.heap.size, 1, none⟩ = some (.int .i64 b) := fun X => X.ok.p.open.2.1
  have p2 : ∀ X : SrF w ⟨a, b, c, d⟩ (.slice s l.length m) w3.heap.size A, X.W.cell? ⟨w.heap.size, 2, none⟩ = some (.int .i64 c) := fun X => X.ok.p.open.2.2.1
  have p3 : ∀ X : SrF w ⟨a, b, c, d⟩ (.slice s l.length m) w3.heap.size A, X.W.cell? ⟨w.heap.size, 3, none⟩ = some (.int .i64 d) := fun X => X.ok.p.open.2.2.2.1
  refine wp_region_qt (fun w' => ∃ X : SrF w ⟨a, b, c, d⟩ (.slice s l.length m) w3.heap.size A, w' = X.W) 11 (by kernel_rfl) (by kernel_rfl) ⟨⟨_, hS.step (Below.refl _ _).drew⟩, rfl⟩ ?_
  simp only [List.take_succ_cons, List.take_zero, List.drop_succ_cons, List.drop_zero]
  repeat (first | go_big_quiet_step ((first | (go_at_call 63; exact call_in (across_q _ _ _ _ _ _ _ _ _) (hst _)))) | quiet_step ((first | (go_at_call 63; exact call_in (across_q _ _ _ _ _ _ _ _ _) (hst _)))))
  refine wpQuiet_nil ?_
  intro w5 hw'
  obtain ⟨⟨W5, hS5⟩, hw''⟩ := hw'
  subst hw''
  clear hst hne r00 r01 r02 r03 r10 r11 r12 r13 p0 p1 p2 p3 hS
  obtain ⟨d10, d11, d12, d13, d14⟩ := hS5.q1.open
  obtain ⟨d20, d21, d22, d23, d24⟩ := hS5.q2.open
  have f1 := hS5.q1.free
  have f2 := hS5.q2.free
  go_upto_region 3 with fail
  obtain ⟨W6, hW6⟩ : ∃ W6, W6 = ((((((((w5.setCell ⟨w.heap.size + 1, 0, none⟩ (.int .i64 (bnds ⟨a, b, c, d⟩ 0).x0)).setCell ⟨w.heap.size + 1, 1, none⟩ (.int .i64 b)).setCell ⟨w.heap.size + 1, 2, none⟩ (.int .i64 (bnds ⟨a, b, c, d⟩ 0).x1)).setCell ⟨w.heap.size + 1, 3, none⟩ (.int .i64 d)).setCell ⟨w.heap.size + 2, 0, none⟩ (.int .i64 (bnds ⟨a, b, c, d⟩ 1).x0)).setCell ⟨w.heap.size + 2, 1, none⟩ (.int .i64 b)).setCell ⟨w.heap.size + 2, 2, none⟩ (.int .i64 (bnds ⟨a, b, c, d⟩ 1).x1)).setCell ⟨w.heap.size + 2, 3, none⟩ (.int .i64 d)) := ⟨_, rfl⟩
  have z0 : QBox W6 w.heap.size ⟨a, b, c, d⟩ (.slice s l.length m) := by rw [hW6]; exact ((hS5.p.far4 (by omega) _ _ _ _).far4 (by omega) _ _ _ _)
  have z1 : QBox W6 (w.heap.size + 1) ⟨(bnds ⟨a, b, c, d⟩ 0).x0, b, (bnds ⟨a, b, c, d⟩ 0).x1, d⟩ (.slice none 0 0) := by rw [hW6]; exact ((hS5.q1.rect4 _ _ _ _).far4 (by omega) _ _ _ _)
  have z2 : QBox W6 (w.heap.size + 2) ⟨(bnds ⟨a, b, c, d⟩ 1).x0, b, (bnds ⟨a, b, c, d⟩ 1).x1, d⟩ (.slice none 0 0) := by rw [hW6]; exact ((hS5.q2.far4 (by omega) _ _ _ _).rect4 _ _ _ _)
  have B6 : Below w.heap.size w W6 := by rw [hW6]; exact below4 (below4 hS5.below (by omega) _ _ _ _) (by omega) _ _ _ _
  rw [← hW6]
  clear hW6 hS5 d10 d11 d12 d13 d14 d20 d21 d22 d23 d24 f1 f2
  have hSr : Sr w W6.heap.size (w.heap.size + 1) (w.heap.size + 2) ⟨a, b, c, d⟩ ⟨(bnds ⟨a, b, c, d⟩ 0).x0, b, (bnds ⟨a, b, c, d⟩ 0).x1, d⟩ ⟨(bnds ⟨a, b, c, d⟩ 1).x0, b, (bnds ⟨a, b, c, d⟩ 1).x1, d⟩ (.slice s l.length m) (.slice none 0 0) (.slice none 0 0) [] [] W6 := ⟨B6, z0, z1, z2, own_nil _ _, own_nil _ _, fun g e => by simp [Value.ownBlock] at e, by omega, ⟨by omega, z1.lt⟩, ⟨by omega, z2.lt⟩, Nat.le_refl _⟩
  obtain ⟨y0, y1, y2, y3, y4⟩ := z0.open
  have hNs : w.heap.size + 2 < W6.heap.size := z2.lt
  clear B6 z1 z2
  go_upto_region 4 with fail
  clear y0 y1 y2 y3 y4 z0
  go_loopw [7] (fun v7 wr => ∃ (y : Nat) (o1 o2 : List Int) (q1 q2 : Value), y ≤ h' ∧ v7 = .int .i64 (b + (y : Int)) ∧ o1 = ((Ex.lowR a kn (Ex.cutR n' l h')).take y).flatten ∧ o2 = ((Ex.highR a kn (Ex.cutR n' l h')).take y).flatten ∧ Sr w W6.heap.size (w.heap.size + 1) (w.heap.size + 2) ⟨a, b, c, d⟩ ⟨(bnds ⟨a, b, c, d⟩ 0).x0, b, (bnds ⟨a, b, c, d⟩ 0).x1, d⟩ ⟨(bnds ⟨a, b, c, d⟩ 1).x0, b, (bnds ⟨a, b, c, d⟩ 1).x1, d⟩ (.slice s l.length m) q1 q2 o1 o2 wr) (fun v7 _ => (d - intOf v7).toNat)
  case atStart => exact ⟨0, [], [], _, _, Nat.zero_le _, by simp, by simp, by simp, hSr⟩
  case round =>
    obtain ⟨y, o1, o2, q1, q2, hy, rfl, hO1, hO2, hG⟩ := hrel
    clear hSr
    by_cases hlt : y < h'
    · have hyi : b + (y : Int) < d := by omega
      obtain ⟨hfwr, hrl, hle⟩ := bd_row HLn.out hfw a0 a1 n4 hlt
      have hyC : y < (Ex.cutR n' l h').length := by rw [Ex.cutR_len]; exact hlt
      have hrow : (Ex.cutR n' l h')[y] = (l.drop (y * n')).take n' := Ex.cutR_at hyC
      have hx1 : o1 ++ Ex.loF a kn (Ex.cutR n' l h')[y] = ((Ex.lowR a kn (Ex.cutR n' l h')).take (y + 1)).flatten := by
        rw [flat_next (by rw [Ex.lowR, List.length_map]; exact hyC), ← hO1]; simp [Ex.lowR]
      have hx2 : o2 ++ Ex.hiF a kn (Ex.cutR n' l h')[y] = ((Ex.highR a kn (Ex.cutR n' l h')).take (y + 1)).flatten := by
        rw [flat_next (by rw [Ex.highR, List.length_map]; exact hyC), ← hO2]; simp [Ex.highR]
      have hol : o1.length ≤ 16777216 ∧ o2.length ≤ 16777216 := by
        have hw := Ex.cutR_wide HLn.out
        rw [hO1, hO2, take_len (Ex.lowR_wide hw) (by rw [Ex.lowR, List.length_map]; omega), take_len (Ex.highR_wide hw) (by rw [Ex.highR, List.length_map]; omega)]
        have hk := Ex.cnt_le (s := a) (n := n')
        have hy4 : y ≤ 4096 := Nat.le_trans hy h4
        exact ⟨mul_4096 hy4 (Nat.le_trans hk.1 n4), mul_4096 hy4 (Nat.le_trans hk.2 n4)⟩
      have hrw : rowL ⟨a, b, c, d⟩ l (b + (y : Int)) = (l.drop (y * n')).take n' := by
        rw [(rowL_drop Hp.out (by omega) hyi).1]
        have e1 : (c - a).toNat = n' := by omega
        have e2 : (idx a b c a (b + (y : Int))).toNat = y * n' := by
          unfold idx
          rw [hn, show b + (y : Int) - b = (y : Int) by omega, show a - a = 0 by omega, Int.add_zero, ← Int.natCast_mul, Int.toNat_natCast]
        rw [e1, e2]
      have cR := fun W (q : HoldsI W s l) => row_own a b c d (b + (y : Int)) s m l W Hp.out (by omega) hyi hm q
      rw [hrow] at hx1 hx2
      rw [hrw] at cR
      obtain ⟨hol1, hol2⟩ := hol
      have HX1 : Hid _ := hx1
      have HX2 : Hid _ := hx2
      have HFW : Hid _ := hfwr
      have HRL : Hid _ := hrl
      clear hx1 hx2 hrow hyC hO1 hO2 hle hrw hfwr hrl
      generalize (l.drop (y * n')).take n' = row at *
      have g0 := hG.p
      obtain ⟨y0, y1, y2, y3, y4⟩ := g0.open
      have hd1 : ∃ k : Nat, k = y + 1 ∧ b + (y : Int) + 1 = b + (k : Int) := ⟨y + 1, rfl, by omega⟩
      go_upto_region 6 with fail
      go_upto_region 7 with (first | (go_at_call 129; (with_reducible refine (cR _ (hH.below hG.below (Nat.le_refl _))).mono ?_); rintro e w7 ⟨g7, rfl, hg7, row7, hb7⟩))
      have hG7 := hG.step hb7
      have cF := fwd_q row a kn (some ⟨g7, 0, none⟩) row.length row.length w7 hk HFW.out (fun e => by cases e) row7.holds rfl
      have t0 : row.length ≤ 4096 := by have := HRL.out; omega
      have t1 : (Ex.loF a kn row).length ≤ 4096 := by rw [Ex.loF_len]; exact Nat.le_trans Ex.cnt_le.1 t0
      have t2 : (Ex.hiF a kn row).length ≤ 4096 := by rw [Ex.hiF_len]; exact Nat.le_trans Ex.cnt_le.2 t0
      have hl1 := fun k e => (hG7.own1.lt k e).2
      have hl2 := fun k e => (hG7.own2.lt k e).2
      have hB7 : w.heap.size + 2 < w7.heap.size := Nat.lt_of_lt_of_le hNs hG7.hW
      clear y0 y1 y2 y3 y4 hG g0 cR row7 hg7 hb7
      obtain ⟨y0, y1, y2, y3, y4⟩ := hG7.p.open
      go_upto_region 8 with (first | (go_at_call 79; (with_reducible refine cF.mono ?_); rintro e w8 ⟨s1, m1, s2, m2, rfl, a1, a2, hb8, ⟨_, d1', f1'⟩, ⟨_, d2', f2'⟩⟩))
      have hG8 := hG7.step hb8
      clear y0 y1 y2 y3 y4 cF hG7 hb8
      obtain ⟨y0, y1, y2, y3, y4⟩ := hG8.q1.open
      go_wp2_with (at_builtin; refine append_holds rfl _ _ rfl W6.heap.size _ o1 rfl hG8.own1 s1 _ m1 _ rfl rfl a1 d1' (by omega) hG8.hW ?_)
      clear y0 y1 y2 y3 y4
      intro v8 w9 own9 hg9 hat9
      have own9' : w9.ownsRow W6.heap.size 3 1 v8 (o1 ++ Ex.loF a kn row).length ((o1 ++ Ex.loF a kn row).map (Value.int .i64)) := by rw [List.length_append, List.map_append]; exact own9
      have hG9 := hG8.push hg9 own9' hat9
      have z1 := hG8.q1.grown hg9 (fun e => by have := (hG8.own1.lt _ e.symm).1; omega)
      have a3 := (holds_pushL a2 hg9 f2' hl1).farW (B := w.heap.size + 1) (i := 4) f2' (by omega) v8
      obtain ⟨sv, mv, rfl⟩ := own_slice own9
      obtain ⟨y0, y1, y2, y3, y4⟩ := z1.open
      have z1f := z1.free
      clear own9 own9' hg9 hat9 hG8 a1 a2
      go_upto_region 9 with fail
      obtain ⟨W10, hW10⟩ : ∃ W10, W10 = w9.setCell ⟨w.heap.size + 1, 4, none⟩ (.slice sv (o1.length + (Ex.loF a kn row).length) mv) := ⟨_, rfl⟩
      rw [← hW10] at hG9 a3
      rw [← hW10]
      clear hW10 y0 y1 y2 y3 y4 z1f z1
      obtain ⟨y0, y1, y2, y3, y4⟩ := hG9.q2.open
      go_wp2_with (at_builtin; refine append_holds rfl _ _ rfl W6.heap.size _ o2 rfl hG9.own2 s2 _ m2 _ rfl rfl a3 d2' (by omega) hG9.hW ?_)
      clear y0 y1 y2 y3 y4
      intro v11 w11 own11 hg11 hat11
      have own11' : w11.ownsRow W6.heap.size 3 1 v11 (o2 ++ Ex.hiF a kn row).length ((o2 ++ Ex.hiF a kn row).map (Value.int .i64)) := by rw [List.length_append, List.map_append]; exact own11
      have hG12 := (hG9.swap.push hg11 own11' hat11).swap
      have z2 := hG9.q2.grown hg11 (fun e => by have := (hG9.own2.lt _ e.symm).1; omega)
      obtain ⟨sv2, mv2, rfl⟩ := own_slice own11
      obtain ⟨y0, y1, y2, y3, y4⟩ := z2.open
      have z2f := z2.free
      clear own11 own11' hg11 hat11 hG9 a3
      have wY : IntKind.i64.wrap (b + (y : Int) + 1) = b + (y : Int) + 1 := IntWalk.i64_in _ (by omega)
      go_upto_region 5 with fail
      obtain ⟨W12, hW12⟩ : ∃ W12, W12 = w11.setCell ⟨w.heap.size + 2, 4, none⟩ (.slice sv2 (o2.length + (Ex.hiF a kn row).length) mv2) := ⟨_, rfl⟩
      rw [← hW12] at hG12
      rw [← hW12]
      have HG : Hid _ := hG12
      clear hW12 y0 y1 y2 y3 y4 z2f z2 hG12
      go_wp2
      go_roundw
      case rel => exact ⟨y + 1, _, _, _, _, by omega, by simp; omega, HX1.out, HX2.out, HG.out⟩
      case measure => simp [intOf]; omega
    · obtain rfl : y = h' := Nat.le_antisymm hy (Nat.le_of_not_lt hlt)
      have hCl : (Ex.cutR n' l y).length = y := Ex.cutR_len _ _ _
      have hL : o1 = (Ex.lowR a kn (Ex.cutR n' l y)).flatten := by rw [hO1, List.take_of_length_le (by rw [Ex.lowR, List.length_map, hCl]; exact Nat.le_refl _)]
      have hR : o2 = (Ex.highR a kn (Ex.cutR n' l y)).flatten := by rw [hO2, List.take_of_length_le (by rw [Ex.highR, List.length_map, hCl]; exact Nat.le_refl _)]
      clear hO1 hO2
      subst hL hR
      have hyd : ¬ b + (y : Int) < d := by omega
      have hp1 := rowP_own hG.own1
      have hp2 := rowP_own hG.own2
      obtain ⟨W7, hW7⟩ : ∃ W7, W7 = wr := ⟨_, rfl⟩
      obtain ⟨s1, m1, rfl, l1, k1⟩ : ∃ s1 m1, q1 = .slice s1 (Ex.lowR a kn (Ex.cutR n' l y)).flatten.length m1 ∧ HoldsI wr s1 (Ex.lowR a kn (Ex.cutR n' l y)).flatten ∧ (Ex.lowR a kn (Ex.cutR n' l y)).flatten.length ≤ m1 := by
        rcases hp1.2 with ⟨e1, e2⟩ | ⟨g, m', pad, e1, _, h2, h3⟩
        · exact ⟨none, 0, by rw [e1, e2]; rfl, .inl e2, by rw [e2]; exact Nat.le_refl _⟩
        · exact ⟨_, m', e1, h2.holds, h3⟩
      obtain ⟨s2, m2, rfl, l2, k2⟩ : ∃ s2 m2, q2 = .slice s2 (Ex.highR a kn (Ex.cutR n' l y)).flatten.length m2 ∧ HoldsI wr s2 (Ex.highR a kn (Ex.cutR n' l y)).flatten ∧ (Ex.highR a kn (Ex.cutR n' l y)).flatten.length ≤ m2 := by
        rcases hp2.2 with ⟨e1, e2⟩ | ⟨g, m', pad, e1, _, h2, h3⟩
        · exact ⟨none, 0, by rw [e1, e2]; rfl, .inl e2, by rw [e2]; exact Nat.le_refl _⟩
        · exact ⟨_, m', e1, h2.holds, h3⟩
      have g1 : ∀ p, s1 = some p → w.heap.size + 2 < p.block := by
        rcases hp1.2 with ⟨e1, e2⟩ | ⟨g, m', pad, e1, hg, h2, h3⟩
        · intro p hp; rw [hp] at e1; cases e1
        · intro p hp; rw [hp] at e1; cases e1; show _ < g; omega
      have g2 : ∀ p, s2 = some p → w.heap.size + 2 < p.block := by
        rcases hp2.2 with ⟨e1, e2⟩ | ⟨g, m', pad, e1, hg, h2, h3⟩
        · intro p hp; rw [hp] at e1; cases e1
        · intro p hp; rw [hp] at e1; cases e1; show _ < g; omega
      clear hp1 hp2 hW7
      generalize (Ex.lowR a kn (Ex.cutR n' l y)).flatten = L at *
      generalize (Ex.highR a kn (Ex.cutR n' l y)).flatten = H at *
      have x0 := hG.p
      have x1 := hG.q1
      have x2 := hG.q2
      have BG := hG.below
      clear hG
      obtain ⟨y0, y1, y2, y3, y4⟩ := x0.open
      go_upto_region 10 with fail
      clear y0 y1 y2 y3 y4
      obtain ⟨d10, d11, d12, d13, d14⟩ := x1.open
      obtain ⟨d20, d21, d22, d23, d24⟩ := x2.open
      have f1 := x1.free
      have f2 := x2.free
      go_region
      all_goals
        have z1 := (x1.store (bnds ⟨a, b, c, d⟩ 0).x0 b (bnds ⟨a, b, c, d⟩ 0).x1 d (.slice s1 L.length m1)).far5 (b := w.heap.size + 2) (by omega) (.int .i64 (bnds ⟨a, b, c, d⟩ 1).x0) (.int .i64 b) (.int .i64 (bnds ⟨a, b, c, d⟩ 1).x1) (.int .i64 d) (.slice s2 H.length m2)
        have z2 := (x2.far5 (b := w.heap.size + 1) (by omega) (.int .i64 (bnds ⟨a, b, c, d⟩ 0).x0) (.int .i64 b) (.int .i64 (bnds ⟨a, b, c, d⟩ 0).x1) (.int .i64 d) (.slice s1 L.length m1)).store (bnds ⟨a, b, c, d⟩ 1).x0 b (bnds ⟨a, b, c, d⟩ 1).x1 d (.slice s2 H.length m2)
        have u1 := ((l1.but (but5 (b := w.heap.size + 1) (.int .i64 (bnds ⟨a, b, c, d⟩ 0).x0) (.int .i64 b) (.int .i64 (bnds ⟨a, b, c, d⟩ 0).x1) (.int .i64 d) (.slice s1 L.length m1)) fun p e => by have := g1 p e; omega).but (but5 (b := w.heap.size + 2) (.int .i64 (bnds ⟨a, b, c, d⟩ 1).x0) (.int .i64 b) (.int .i64 (bnds ⟨a, b, c, d⟩ 1).x1) (.int .i64 d) (.slice s2 H.length m2)) fun p e => by have := g1 p e; omega)
        have u2 := ((l2.but (but5 (b := w.heap.size + 1) (.int .i64 (bnds ⟨a, b, c, d⟩ 0).x0) (.int .i64 b) (.int .i64 (bnds ⟨a, b, c, d⟩ 0).x1) (.int .i64 d) (.slice s1 L.length m1)) fun p e => by have := g2 p e; omega).but (but5 (b := w.heap.size + 2) (.int .i64 (bnds ⟨a, b, c, d⟩ 1).x0) (.int .i64 b) (.int .i64 (bnds ⟨a, b, c, d⟩ 1).x1) (.int .i64 d) (.slice s2 H.length m2)) fun p e => by have := g2 p e; omega)
        have BZ := below5 (below5 BG (b := w.heap.size + 1) (by omega) (.int .i64 (bnds ⟨a, b, c, d⟩ 0).x0) (.int .i64 b) (.int .i64 (bnds ⟨a, b, c, d⟩ 0).x1) (.int .i64 d) (.slice s1 L.length m1)) (b := w.heap.size + 2) (by omega) (.int .i64 (bnds ⟨a, b, c, d⟩ 1).x0) (.int .i64 b) (.int .i64 (bnds ⟨a, b, c, d⟩ 1).x1) (.int .i64 d) (.slice s2 H.length m2)
        obtain ⟨p0, p1, p2, p3, p4⟩ := z1.open
        obtain ⟨r0, r1, r2, r3, r4⟩ := z2.open
        go_wp2
        refine bodyPost_ret (v := .tuple #[.agg #[.int .i64 (bnds ⟨a, b, c, d⟩ 0).x0, .int .i64 b, .int .i64 (bnds ⟨a, b, c, d⟩ 0).x1, .int .i64 d, .slice s1 L.length m1], .agg #[.int .i64 (bnds ⟨a, b, c, d⟩ 1).x0, .int .i64 b, .int .i64 (bnds ⟨a, b, c, d⟩ 1).x1, .int .i64 d, .slice s2 H.length m2]]) ?_ rfl ?_
        · simp [results, Try.results80, go_sem, p0, p1, p2, p3, p4, r0, r1, r2, r3, r4]
        · exact ⟨s1, m1, s2, m2, rfl, u1.drew, u2.drew, BZ.drew, k1, k2, fun p e => by have := g1 p e; omega, fun p e => by have := g2 p e; omega⟩
end Go.Proofs.Ytoplgnckdmkaoaa

namespace Go.Proofs.Ytoplgnckdmkaoaa
open Go.RowKit

/-! Two blocks change, all others stay -/
structure But2 (g1 g2 : Nat) (w w' : World) : Prop where
  os : w'.os = w.os
  tape : w'.tape = w.tape
  output : w'.output = w.output
  size : w.heap.size ≤ w'.heap.size
  block : ∀ k, k < w.heap.size → k ≠ g1 → k ≠ g2 → w'.heap[k]? = w.heap[k]?
theorem But2.of {g1 g2 : Nat} {w w1 : World} (h : Below w.heap.size w w1) : But2 g1 g2 w w1 := ⟨h.os, h.tape, h.output, h.size, fun k hk _ _ => h.block k hk⟩
theorem But2.step {g1 g2 : Nat} {w w1 w2 : World} (h : But2 g1 g2 w w1) (hb : Below w1.heap.size w1 w2) : But2 g1 g2 w w2 :=
  ⟨hb.os.trans h.os, hb.tape.trans h.tape, hb.output.trans h.output, Nat.le_trans h.size hb.size, fun k hk a b => (hb.block k (Nat.lt_of_lt_of_le hk h.size)).trans (h.block k hk a b)⟩
theorem But2.one {g1 g2 : Nat} {w w1 w2 : World} (h : But2 g1 g2 w w1) (hb : But g1 w1 w2) : But2 g1 g2 w w2 :=
  ⟨hb.os.trans h.os, hb.tape.trans h.tape, hb.output.trans h.output, Nat.le_trans h.size hb.size, fun k hk a b => (hb.block k (Nat.lt_of_lt_of_le hk h.size) a).trans (h.block k hk a b)⟩
theorem But2.two {g1 g2 : Nat} {w w1 w2 : World} (h : But2 g1 g2 w w1) (hb : But g2 w1 w2) : But2 g1 g2 w w2 :=
  ⟨hb.os.trans h.os, hb.tape.trans h.tape, hb.output.trans h.output, Nat.le_trans h.size hb.size, fun k hk a b => (hb.block k (Nat.lt_of_lt_of_le hk h.size) b).trans (h.block k hk a b)⟩
theorem But2.below {g1 g2 : Nat} {w w1 w2 : World} (h : Below w.heap.size w w1) (h2 : But2 g1 g2 w1 w2) (hg1 : w.heap.size ≤ g1) (hg2 : w.heap.size ≤ g2) : Below w.heap.size w w2 :=
  ⟨h2.os.trans h.os, h2.tape.trans h.tape, h2.output.trans h.output, Nat.le_trans h.size h2.size, fun k hk => (h2.block k (Nat.lt_of_lt_of_le hk h.size) (by omega) (by omega)).trans (h.block k hk)⟩
theorem But2.cell {g1 g2 : Nat} {w w1 : World} (h : But2 g1 g2 w w1) {p : Addr} (hp : p.block < w.heap.size) (h1 : p.block ≠ g1) (h2 : p.block ≠ g2) : w1.cell? p = w.cell? p := World.cell?_of_block (h.block _ hp h1 h2)
theorem But2.holds {g1 g2 : Nat} {w w1 : World} {a : Option Addr} {l : List Int} (h : But2 g1 g2 w w1) (hH : HoldsI w a l) (hn : ∀ p, a = some p → p.block ≠ g1 ∧ p.block ≠ g2) : HoldsI w1 a l := by
  rcases hH with rfl | ⟨b, off, rfl, hr⟩
  · exact .inl rfl
  · exact .inr ⟨b, off, rfl, fun k hk => (h.cell (p := ⟨b, off + k, none⟩) (cell_lt (hr k hk)) (hn ⟨b, off, none⟩ rfl).1 (hn ⟨b, off, none⟩ rfl).2).trans (hr k hk)⟩
theorem But2.blk {g1 g2 B : Nat} {T : TypeId} {cs : Array Value} {w w1 : World} (h : But2 g1 g2 w w1) (hB : Blk w B T cs) (h1 : B ≠ g1) (h2 : B ≠ g2) : Blk w1 B T cs := (h.block B hB.lt h1 h2).trans hB
theorem But2.row {g1 g2 g : Nat} {l : List Int} {w w1 : World} (h : But2 g1 g2 w w1) (hB : RowAt w g l) (h1 : g ≠ g1) (h2 : g ≠ g2) : RowAt w1 g l := (h.block g hB.lt h1 h2).trans hB
theorem RowAt.but {g g' : Nat} {l : List Int} {w w1 : World} (h : RowAt w g l) (hb : But g' w w1) (hn : g ≠ g') : RowAt w1 g l := (hb.block g h.lt hn).trans h
theorem Blk.but {g' B : Nat} {T : TypeId} {cs : Array Value} {w w1 : World} (h : Blk w B T cs) (hb : But g' w w1) (hn : B ≠ g') : Blk w1 B T cs := (hb.block B h.lt hn).trans h

/-! The columns of a plane in rows -/
theorem low_tab (b kn : Int) (n : Nat) (Q : List (List Int)) : (Ex.lowC b kn n Q).flatten = tabG n (Ex.cntE b Q.length) fun y x => ((Ex.lowR b kn (Ex.trn n Q)).getD x []).getD y 0 := by
  rw [flat_tab (Ex.lowC_wide b kn n Q), Ex.lowC_len]
  refine tabG_congr fun y x hy hx => ?_
  have hl : x < (Ex.lowR b kn (Ex.trn n Q)).length := by rw [Ex.lowR, List.length_map, Ex.trn_len]; exact hx
  rw [Ex.lowC]
  generalize Ex.lowR b kn (Ex.trn n Q) = M at *
  simp [Ex.trn, hy, hl]
theorem high_tab (b kn : Int) (n : Nat) (Q : List (List Int)) : (Ex.highC b kn n Q).flatten = tabG n (Ex.cntO b Q.length) fun y x => ((Ex.highR b kn (Ex.trn n Q)).getD x []).getD y 0 := by
  rw [flat_tab (Ex.highC_wide b kn n Q), Ex.highC_len]
  refine tabG_congr fun y x hy hx => ?_
  have hl : x < (Ex.highR b kn (Ex.trn n Q)).length := by rw [Ex.highR, List.length_map, Ex.trn_len]; exact hx
  rw [Ex.highC]
  generalize Ex.highR b kn (Ex.trn n Q) = M at *
  simp [Ex.trn, hy, hl]
theorem col_is {a b c d : Int} {n h k : Nat} {Q : List (List Int)} (hW : Ex.Wide n Q) (hQ : Q.length = h) (hn : c - a = (n : Int)) (hh : d - b = (h : Int)) (hk : k < n) : colL ⟨a, b, c, d⟩ Q.flatten (a + (k : Int)) = colA Q k := by
  refine List.ext_getElem (by rw [colL_len, colA, List.length_map]; show (d - b).toNat = _; omega) fun i h1 h2 => ?_
  have hi : i < Q.length := by simpa [colA] using h2
  simp only [colL, List.getElem_map, List.getElem_range, gv]
  have e : (idx a b c (a + (k : Int)) (b + (i : Int))).toNat = i * n + k := by
    unfold idx
    rw [hn, show b + (i : Int) - b = (i : Int) by omega, show a + (k : Int) - a = (k : Int) by omega, ← Int.natCast_mul, ← Int.natCast_add, Int.toNat_natCast]
  rw [e, List.getD_eq_getElem?_getD, Ex.flat_get hW hi hk]
  simp [colA]
/-- Columns that are done, the others 0. -/
def doneC (M : List (List Int)) (k y x : Nat) : Int := if x < k then (M.getD x []).getD y 0 else 0
theorem done_next (M : List (List Int)) (k : Nat) (n h : Nat) (c : List Int) (hk : M.getD k [] = c) : tabG n h (inCol (doneC M k) k h c) = tabG n h (doneC M (k + 1)) := by
  refine tabG_congr fun y x hy hx => ?_
  unfold inCol doneC
  by_cases e : x = k
  · subst e
    rw [if_pos ⟨rfl, hy⟩, if_pos (Nat.lt_succ_self _), hk]
  · rw [if_neg (fun q => e q.1)]
    by_cases e2 : x < k
    · rw [if_pos e2, if_pos (by omega)]
    · rw [if_neg e2, if_neg (by omega)]
theorem done_zero (M : List (List Int)) (n h : Nat) : tabG n h (doneC M 0) = List.replicate (h * n) 0 := by
  rw [rep_tab]
  exact tabG_congr fun y x _ _ => by simp [doneC]
theorem done_all (M : List (List Int)) (n h : Nat) : tabG n h (doneC M n) = tabG n h fun y x => (M.getD x []).getD y 0 := tabG_congr fun y x _ hx => by simp [doneC, hx]
theorem lowR_at {b kn : Int} {n k : Nat} {Q : List (List Int)} (hk : k < n) : (Ex.lowR b kn (Ex.trn n Q)).getD k [] = Ex.loF b kn (colA Q k) := by
  simp [Ex.lowR, Ex.trn, hk, colA]
theorem highR_at {b kn : Int} {n k : Nat} {Q : List (List Int)} (hk : k < n) : (Ex.highR b kn (Ex.trn n Q)).getD k [] = Ex.hiF b kn (colA Q k) := by
  simp [Ex.highR, Ex.trn, hk, colA]

/-- What the columns' loop knows at each place. -/
structure Cl (g1 g2 n hl hh : Nat) (M1 M2 : List (List Int)) (k : Nat) (r : Pl.R) (v : Value) (w W : World) : Prop where
  but : But2 g1 g2 w W
  p : QBox W w.heap.size r v
  row1 : RowAt W g1 (tabG n hl (doneC M1 k))
  row2 : RowAt W g2 (tabG n hh (doneC M2 k))
theorem Cl.step {g1 g2 n hl hh : Nat} {M1 M2 : List (List Int)} {k : Nat} {r : Pl.R} {v : Value} {w W W1 : World} (h : Cl g1 g2 n hl hh M1 M2 k r v w W) (hb : Below W.heap.size W W1) : Cl g1 g2 n hl hh M1 M2 k r v w W1 :=
  ⟨h.but.step hb, h.p.below hb, h.row1.below hb, h.row2.below hb⟩
set_option maxHeartbeats 8000000 in
theorem cl02_q (a b c d yb0 yd0 yb2 yd2 kn : Int) (Q : List (List Int)) (s : Option Addr) (m n h N Bk Bb g0 g2 N0 N2 m0 m2 : Nat) (cs : Array Value) (w : World) (hp : pvB a b c d N = true) (hN : N = Q.flatten.length) (hW : Ex.Wide n Q) (hQ : Q.length = h) (hn : c - a = (n : Int)) (hh : d - b = (h : Int)) (hk : kB kn = true)
    (hw : Ex.within 281474976710656 Q.flatten) (hH : HoldsI w s Q.flatten) (hs : ∀ p, s = some p → p.block ≠ g0 ∧ p.block ≠ g2) (hbk : w.cell? ⟨Bk, 0, none⟩ = some (.int .i64 kn)) (hbb : Blk w Bb 27 cs) (k1 : Bk ≠ g0) (k2 : Bk ≠ g2) (kb1 : Bb ≠ g0) (kb2 : Bb ≠ g2) (gg : g0 ≠ g2)
    (A00 : cs[0]? = some (.int .i64 a)) (A01 : cs[1]? = some (.int .i64 yb0)) (A02 : cs[2]? = some (.int .i64 c)) (A03 : cs[3]? = some (.int .i64 yd0)) (A04 : cs[4]? = some (.slice (some ⟨g0, 0, none⟩) N0 m0)) (A20 : cs[10]? = some (.int .i64 a)) (A21 : cs[11]? = some (.int .i64 yb2)) (A22 : cs[12]? = some (.int .i64 c)) (A23 : cs[13]? = some (.int .i64 yd2)) (A24 : cs[14]? = some (.slice (some ⟨g2, 0, none⟩) N2 m2)) (n0 : N0 = Ex.cntE b h * n) (n2 : N2 = Ex.cntO b h * n)
    (r1 : RowAt w g0 (List.replicate (Ex.cntE b h * n) 0)) (r2 : RowAt w g2 (List.replicate (Ex.cntO b h * n) 0)) :
    Calls Try.prog 78 #[.agg #[.int .i64 a, .int .i64 b, .int .i64 c, .int .i64 d, .slice s N m], .int .i64 0, .int .i64 2, .pointer (some ⟨Bk, 0, none⟩), .pointer (some ⟨Bb, 0, none⟩)] w
      fun e w' => e = .returned (.tuple #[]) ∧ But2 g0 g2 w w' ∧ RowAt w' g0 (Ex.lowC b kn n Q).flatten ∧ RowAt w' g2 (Ex.highC b kn n Q).flatten := by
  obtain ⟨n', h', e1, e2, n4, h4, e3, a0, a1, b0, bb1, c0, c1, d0, d1, hv⟩ := pv_facts hp
  obtain rfl : n' = n := by omega
  obtain rfl : h' = h := by omega
  clear e1 e2 e3
  have HN : Hid _ := hN
  have Hp : Hid _ := hp
  have Hn1 : Hid _ := n0
  have Hn2 : Hid _ := n2
  have HQ : Hid _ := hQ
  obtain ⟨M1, hM1⟩ : ∃ M1, M1 = Ex.lowR b kn (Ex.trn n' Q) := ⟨_, rfl⟩
  obtain ⟨M2, hM2⟩ : ∃ M2, M2 = Ex.highR b kn (Ex.trn n' Q) := ⟨_, rfl⟩
  have HM1 : Hid _ := hM1
  have HM2 : Hid _ := hM2
  obtain ⟨hl, hhl⟩ : ∃ hl, hl = Ex.cntE b h' := ⟨_, rfl⟩
  obtain ⟨hi, hhi⟩ : ∃ hi, hi = Ex.cntO b h' := ⟨_, rfl⟩
  have hle := Ex.cnt_le (s := b) (n := h')
  have hl4 : hl ≤ 4096 := by rw [hhl]; exact Nat.le_trans hle.1 h4
  have hi4 : hi ≤ 4096 := by rw [hhi]; exact Nat.le_trans hle.2 h4
  rw [← hhl] at r1 Hn1
  rw [← hhi] at r2 Hn2
  have Hhl : Hid _ := hhl
  have Hhi : Hid _ := hhi
  clear hN hp n0 n2 hQ hM1 hM2 hle hhl hhi
  have X0 : Cl g0 g2 n' hl hi M1 M2 0 ⟨a, b, c, d⟩ (.slice s N m) w (w.alloc (.cells #[.int .i64 a, .int .i64 b, .int .i64 c, .int .i64 d, .slice s N m] 26)) :=
    ⟨But2.of ((Below.refl _ _).alloc (Nat.le_refl _) _), QBox.fresh w a b c d s N m _, by rw [done_zero]; exact r1.alloc _, by rw [done_zero]; exact r2.alloc _⟩
  have hgl1 := r1.lt
  have hgl2 := r2.lt
  clear r1 r2
  go_enter Try.func78, Try.ntmps78
  obtain ⟨y0, y1, y2, y3, y4⟩ := X0.p.open
  go_upto_region 2 with fail
  clear y0 y1 y2 y3 y4
  go_loopw [8] (fun v8 wr => ∃ k : Nat, k ≤ n' ∧ v8 = .int .i64 (a + (k : Int)) ∧ Cl g0 g2 n' hl hi M1 M2 k ⟨a, b, c, d⟩ (.slice s N m) w wr) (fun v8 _ => (c - intOf v8).toNat)
  case atStart => exact ⟨0, Nat.zero_le _, by simp, X0⟩
  case round =>
    obtain ⟨k, hkn, rfl, hX⟩ := hrel
    clear X0
    by_cases hlt : k < n'
    · have hyi : a + (k : Int) < c := by omega
      have hcol : colL ⟨a, b, c, d⟩ Q.flatten (a + (k : Int)) = colA Q k := col_is hW HQ.out hn hh hlt
      have hcw : Ex.within 281474976710656 (colA Q k) := col_within hW hlt hw
      have hcl : (colA Q k).length = h' := by rw [colA, List.length_map]; exact HQ.out
      have cC := fun W (q : HoldsI W s Q.flatten) => col_own a b c d (a + (k : Int)) s m Q.flatten W (by rw [← HN.out]; exact Hp.out) (by omega) hyi q
      rw [hcol, ← HN.out] at cC
      have hE : M1.getD k [] = Ex.loF b kn (colA Q k) := by rw [HM1.out]; exact lowR_at hlt
      have hO : M2.getD k [] = Ex.hiF b kn (colA Q k) := by rw [HM2.out]; exact highR_at hlt
      have t1 : (Ex.loF b kn (colA Q k)).length = hl := by rw [Ex.loF_len, hcl]; exact Hhl.out.symm
      have t2 : (Ex.hiF b kn (colA Q k)).length = hi := by rw [Ex.hiF_len, hcl]; exact Hhi.out.symm
      have cF := fun W g (q : HoldsI W (some ⟨g, 0, none⟩) (colA Q k)) => fwd_q (colA Q k) b kn (some ⟨g, 0, none⟩) (colA Q k).length (colA Q k).length W hk (fw_iff.2 ⟨⟨b0, bb1, by omega⟩, hcw⟩) (fun e => by cases e) q rfl
      have hwY : IntKind.i64.wrap (a + (k : Int) + 1) = a + (k : Int) + 1 := IntWalk.i64_in _ (by omega)
      have HWY : Hid _ := hwY
      have HE : Hid _ := hE
      have HO : Hid _ := hO
      have HT1 : Hid _ := t1
      have HT2 : Hid _ := t2
      clear hcol hcw hwY hE hO t1 t2 hcl
      generalize colA Q k = col at *
      obtain ⟨y0, y1, y2, y3, y4⟩ := hX.p.open
      go_upto_region 4 with fail
      go_upto_region 5 with (first | (go_at_call 64; (with_reducible refine (cC _ (hX.but.holds hH hs)).mono ?_); rintro e w3 ⟨gc, rfl, hgc, row3, hb3⟩))
      have hX3 := hX.step hb3
      have cF3 := cF w3 gc row3.holds
      have hk3 : w3.cell? ⟨Bk, 0, none⟩ = some (.int .i64 kn) := (hX3.but.cell (p := ⟨Bk, 0, none⟩) (cell_lt hbk) k1 k2).trans hbk
      have hz3 := hX3.but.size
      clear y0 y1 y2 y3 y4 cC cF hX hb3 row3 hgc
      obtain ⟨y0, y1, y2, y3, y4⟩ := hX3.p.open
      go_upto_region 6 with (first | (go_at_call 79; (with_reducible refine cF3.mono ?_); rintro e w4 ⟨s1, mm1, s2, mm2, rfl, a1', a2', hb4, ⟨_, _, f1⟩, ⟨_, _, f2⟩⟩))
      have hX4 := hX3.step hb4
      clear y0 y1 y2 y3 y4 cF3 hX3 hk3 hb4
      have hbk := hX4.but.blk hbb kb1 kb2
      have u00 := hbk.cell 0 _ A00
      have u01 := hbk.cell 1 _ A01
      have u02 := hbk.cell 2 _ A02
      have u03 := hbk.cell 3 _ A03
      have u04 := hbk.cell 4 _ A04
      have cS := setc_q a yb0 c yd0 (a + (k : Int)) g0 N0 m0 n' hl k (doneC M1 k) (Ex.loF b kn col) s1 mm1 w4 hn Hn1.out (by omega) hlt HT1.out hl4 n4 a0 a1 hX4.row1 a1' (fun p e => by have := f1 p e; omega)
      go_upto_region 7 with (first | (go_at_call 66; (with_reducible refine cS.mono ?_); rintro e w5 ⟨rfl, hb5, row5⟩))
      rw [done_next M1 k n' hl _ HE.out] at row5
      have hX5 : But2 g0 g2 w w5 := hX4.but.one hb5
      have p5 := hX4.p.but hb5 (by omega)
      have row52 := hX4.row2.but hb5 gg.symm
      have a5 := a2'.but hb5 (fun p e => by have := f2 p e; omega)
      clear u00 u01 u02 u03 u04 hbk cS hX4 a1' a2' hb5
      have hbk := hX5.blk hbb kb1 kb2
      have u20 := hbk.cell 10 _ A20
      have u21 := hbk.cell 11 _ A21
      have u22 := hbk.cell 12 _ A22
      have u23 := hbk.cell 13 _ A23
      have u24 := hbk.cell 14 _ A24
      have cS := setc_q a yb2 c yd2 (a + (k : Int)) g2 N2 m2 n' hi k (doneC M2 k) (Ex.hiF b kn col) s2 mm2 w5 hn Hn2.out (by omega) hlt HT2.out hi4 n4 a0 a1 row52 a5 (fun p e => by have := f2 p e; omega)
      go_upto_region 3 with (first | (go_at_call 66; (with_reducible refine cS.mono ?_); rintro e w6 ⟨rfl, hb6, row6⟩))
      rw [done_next M2 k n' hi _ HO.out] at row6
      have hX6 : Cl g0 g2 n' hl hi M1 M2 (k + 1) ⟨a, b, c, d⟩ (.slice s N m) w w6 := ⟨hX5.two hb6, p5.but hb6 (by omega), row5.but hb6 gg, row6⟩
      have HX : Hid _ := hX6
      have hwY := HWY.out
      clear u20 u21 u22 u23 u24 hbk cS hX5 p5 row5 row52 a5 hb6 row6 hX6
      go_wp2
      clear hwY
      go_roundw
      case rel => exact ⟨k + 1, hlt, by simp; omega, HX.out⟩
      case measure => simp [intOf]; omega
    · obtain rfl : k = n' := Nat.le_antisymm hkn (Nat.le_of_not_lt hlt)
      have hyd : ¬ a + (k : Int) < c := by omega
      have hX' := hX
      obtain ⟨hB, hP, q1, q2⟩ := hX'
      rw [done_all, HM1.out, Hhl.out, ← HQ.out, ← low_tab] at q1
      rw [done_all, HM2.out, Hhi.out, ← HQ.out, ← high_tab] at q2
      have HR1 : Hid _ := q1
      have HR2 : Hid _ := q2
      have HB : Hid _ := hB
      obtain ⟨y0, y1, y2, y3, y4⟩ := hP.open
      clear hX q1 q2 hB hP
      go_wp2
      go_end0
      exact ⟨rfl, HB.out, HR1.out, HR2.out⟩
set_option maxHeartbeats 8000000 in
theorem cl13_q (a b c d yb1 yd1 yb3 yd3 kn : Int) (Q : List (List Int)) (s : Option Addr) (m n h N Bk Bb g1 g3 N1 N3 m1 m3 : Nat) (cs : Array Value) (w : World) (hp : pvB a b c d N = true) (hN : N = Q.flatten.length) (hW : Ex.Wide n Q) (hQ : Q.length = h) (hn : c - a = (n : Int)) (hh : d - b = (h : Int)) (hk : kB kn = true)
    (hw : Ex.within 281474976710656 Q.flatten) (hH : HoldsI w s Q.flatten) (hs : ∀ p, s = some p → p.block ≠ g1 ∧ p.block ≠ g3) (hbk : w.cell? ⟨Bk, 0, none⟩ = some (.int .i64 kn)) (hbb : Blk w Bb 27 cs) (k1 : Bk ≠ g1) (k2 : Bk ≠ g3) (kb1 : Bb ≠ g1) (kb2 : Bb ≠ g3) (gg : g1 ≠ g3)
    (A10 : cs[5]? = some (.int .i64 a)) (A11 : cs[6]? = some (.int .i64 yb1)) (A12 : cs[7]? = some (.int .i64 c)) (A13 : cs[8]? = some (.int .i64 yd1)) (A14 : cs[9]? = some (.slice (some ⟨g1, 0, none⟩) N1 m1)) (A30 : cs[15]? = some (.int .i64 a)) (A31 : cs[16]? = some (.int .i64 yb3)) (A32 : cs[17]? = some (.int .i64 c)) (A33 : cs[18]? = some (.int .i64 yd3)) (A34 : cs[19]? = some (.slice (some ⟨g3, 0, none⟩) N3 m3)) (n1 : N1 = Ex.cntE b h * n) (n3 : N3 = Ex.cntO b h * n)
    (r1 : RowAt w g1 (List.replicate (Ex.cntE b h * n) 0)) (r2 : RowAt w g3 (List.replicate (Ex.cntO b h * n) 0)) :
    Calls Try.prog 78 #[.agg #[.int .i64 a, .int .i64 b, .int .i64 c, .int .i64 d, .slice s N m], .int .i64 1, .int .i64 3, .pointer (some ⟨Bk, 0, none⟩), .pointer (some ⟨Bb, 0, none⟩)] w
      fun e w' => e = .returned (.tuple #[]) ∧ But2 g1 g3 w w' ∧ RowAt w' g1 (Ex.lowC b kn n Q).flatten ∧ RowAt w' g3 (Ex.highC b kn n Q).flatten := by
  obtain ⟨n', h', e1, e2, n4, h4, e3, a0, a1, b0, bb1, c0, c1, d0, d1, hv⟩ := pv_facts hp
  obtain rfl : n' = n := by omega
  obtain rfl : h' = h := by omega
  clear e1 e2 e3
  have HN : Hid _ := hN
  have Hp : Hid _ := hp
  have Hn1 : Hid _ := n1
  have Hn2 : Hid _ := n3
  have HQ : Hid _ := hQ
  obtain ⟨M1, hM1⟩ : ∃ M1, M1 = Ex.lowR b kn (Ex.trn n' Q) := ⟨_, rfl⟩
  obtain ⟨M2, hM2⟩ : ∃ M2, M2 = Ex.highR b kn (Ex.trn n' Q) := ⟨_, rfl⟩
  have HM1 : Hid _ := hM1
  have HM2 : Hid _ := hM2
  obtain ⟨hl, hhl⟩ : ∃ hl, hl = Ex.cntE b h' := ⟨_, rfl⟩
  obtain ⟨hi, hhi⟩ : ∃ hi, hi = Ex.cntO b h' := ⟨_, rfl⟩
  have hle := Ex.cnt_le (s := b) (n := h')
  have hl4 : hl ≤ 4096 := by rw [hhl]; exact Nat.le_trans hle.1 h4
  have hi4 : hi ≤ 4096 := by rw [hhi]; exact Nat.le_trans hle.2 h4
  rw [← hhl] at r1 Hn1
  rw [← hhi] at r2 Hn2
  have Hhl : Hid _ := hhl
  have Hhi : Hid _ := hhi
  clear hN hp n1 n3 hQ hM1 hM2 hle hhl hhi
  have X0 : Cl g1 g3 n' hl hi M1 M2 0 ⟨a, b, c, d⟩ (.slice s N m) w (w.alloc (.cells #[.int .i64 a, .int .i64 b, .int .i64 c, .int .i64 d, .slice s N m] 26)) :=
    ⟨But2.of ((Below.refl _ _).alloc (Nat.le_refl _) _), QBox.fresh w a b c d s N m _, by rw [done_zero]; exact r1.alloc _, by rw [done_zero]; exact r2.alloc _⟩
  have hgl1 := r1.lt
  have hgl2 := r2.lt
  clear r1 r2
  go_enter Try.func78, Try.ntmps78
  obtain ⟨y0, y1, y2, y3, y4⟩ := X0.p.open
  go_upto_region 2 with fail
  clear y0 y1 y2 y3 y4
  go_loopw [8] (fun v8 wr => ∃ k : Nat, k ≤ n' ∧ v8 = .int .i64 (a + (k : Int)) ∧ Cl g1 g3 n' hl hi M1 M2 k ⟨a, b, c, d⟩ (.slice s N m) w wr) (fun v8 _ => (c - intOf v8).toNat)
  case atStart => exact ⟨0, Nat.zero_le _, by simp, X0⟩
  case round =>
    obtain ⟨k, hkn, rfl, hX⟩ := hrel
    clear X0
    by_cases hlt : k < n'
    · have hyi : a + (k : Int) < c := by omega
      have hcol : colL ⟨a, b, c, d⟩ Q.flatten (a + (k : Int)) = colA Q k := col_is hW HQ.out hn hh hlt
      have hcw : Ex.within 281474976710656 (colA Q k) := col_within hW hlt hw
      have hcl : (colA Q k).length = h' := by rw [colA, List.length_map]; exact HQ.out
      have cC := fun W (q : HoldsI W s Q.flatten) => col_own a b c d (a + (k : Int)) s m Q.flatten W (by rw [← HN.out]; exact Hp.out) (by omega) hyi q
      rw [hcol, ← HN.out] at cC
      have hE : M1.getD k [] = Ex.loF b kn (colA Q k) := by rw [HM1.out]; exact lowR_at hlt
      have hO : M2.getD k [] = Ex.hiF b kn (colA Q k) := by rw [HM2.out]; exact highR_at hlt
      have t1 : (Ex.loF b kn (colA Q k)).length = hl := by rw [Ex.loF_len, hcl]; exact Hhl.out.symm
      have t2 : (Ex.hiF b kn (colA Q k)).length = hi := by rw [Ex.hiF_len, hcl]; exact Hhi.out.symm
      have cF := fun W g (q : HoldsI W (some ⟨g, 0, none⟩) (colA Q k)) => fwd_q (colA Q k) b kn (some ⟨g, 0, none⟩) (colA Q k).length (colA Q k).length W hk (fw_iff.2 ⟨⟨b0, bb1, by omega⟩, hcw⟩) (fun e => by cases e) q rfl
      have hwY : IntKind.i64.wrap (a + (k : Int) + 1) = a + (k : Int) + 1 := IntWalk.i64_in _ (by omega)
      have HWY : Hid _ := hwY
      have HE : Hid _ := hE
      have HO : Hid _ := hO
      have HT1 : Hid _ := t1
      have HT2 : Hid _ := t2
      clear hcol hcw hwY hE hO t1 t2 hcl
      generalize colA Q k = col at *
      obtain ⟨y0, y1, y2, y3, y4⟩ := hX.p.open
      go_upto_region 4 with fail
      go_upto_region 5 with (first | (go_at_call 64; (with_reducible refine (cC _ (hX.but.holds hH hs)).mono ?_); rintro e w3 ⟨gc, rfl, hgc, row3, hb3⟩))
      have hX3 := hX.step hb3
      have cF3 := cF w3 gc row3.holds
      have hk3 : w3.cell? ⟨Bk, 0, none⟩ = some (.int .i64 kn) := (hX3.but.cell (p := ⟨Bk, 0, none⟩) (cell_lt hbk) k1 k2).trans hbk
      have hz3 := hX3.but.size
      clear y0 y1 y2 y3 y4 cC cF hX hb3 row3 hgc
      obtain ⟨y0, y1, y2, y3, y4⟩ := hX3.p.open
      go_upto_region 6 with (first | (go_at_call 79; (with_reducible refine cF3.mono ?_); rintro e w4 ⟨s1, mm1, s2, mm2, rfl, a1', a2', hb4, ⟨_, _, f1⟩, ⟨_, _, f2⟩⟩))
      have hX4 := hX3.step hb4
      clear y0 y1 y2 y3 y4 cF3 hX3 hk3 hb4
      have hbk := hX4.but.blk hbb kb1 kb2
      have u10 := hbk.cell 5 _ A10
      have u11 := hbk.cell 6 _ A11
      have u12 := hbk.cell 7 _ A12
      have u13 := hbk.cell 8 _ A13
      have u14 := hbk.cell 9 _ A14
      have cS := setc_q a yb1 c yd1 (a + (k : Int)) g1 N1 m1 n' hl k (doneC M1 k) (Ex.loF b kn col) s1 mm1 w4 hn Hn1.out (by omega) hlt HT1.out hl4 n4 a0 a1 hX4.row1 a1' (fun p e => by have := f1 p e; omega)
      go_upto_region 7 with (first | (go_at_call 66; (with_reducible refine cS.mono ?_); rintro e w5 ⟨rfl, hb5, row5⟩))
      rw [done_next M1 k n' hl _ HE.out] at row5
      have hX5 : But2 g1 g3 w w5 := hX4.but.one hb5
      have p5 := hX4.p.but hb5 (by omega)
      have row52 := hX4.row2.but hb5 gg.symm
      have a5 := a2'.but hb5 (fun p e => by have := f2 p e; omega)
      clear u10 u11 u12 u13 u14 hbk cS hX4 a1' a2' hb5
      have hbk := hX5.blk hbb kb1 kb2
      have u30 := hbk.cell 15 _ A30
      have u31 := hbk.cell 16 _ A31
      have u32 := hbk.cell 17 _ A32
      have u33 := hbk.cell 18 _ A33
      have u34 := hbk.cell 19 _ A34
      have cS := setc_q a yb3 c yd3 (a + (k : Int)) g3 N3 m3 n' hi k (doneC M2 k) (Ex.hiF b kn col) s2 mm2 w5 hn Hn2.out (by omega) hlt HT2.out hi4 n4 a0 a1 row52 a5 (fun p e => by have := f2 p e; omega)
      go_upto_region 3 with (first | (go_at_call 66; (with_reducible refine cS.mono ?_); rintro e w6 ⟨rfl, hb6, row6⟩))
      rw [done_next M2 k n' hi _ HO.out] at row6
      have hX6 : Cl g1 g3 n' hl hi M1 M2 (k + 1) ⟨a, b, c, d⟩ (.slice s N m) w w6 := ⟨hX5.two hb6, p5.but hb6 (by omega), row5.but hb6 gg, row6⟩
      have HX : Hid _ := hX6
      have hwY := HWY.out
      clear u30 u31 u32 u33 u34 hbk cS hX5 p5 row5 row52 a5 hb6 row6 hX6
      go_wp2
      clear hwY
      go_roundw
      case rel => exact ⟨k + 1, hlt, by simp; omega, HX.out⟩
      case measure => simp [intOf]; omega
    · obtain rfl : k = n' := Nat.le_antisymm hkn (Nat.le_of_not_lt hlt)
      have hyd : ¬ a + (k : Int) < c := by omega
      have hX' := hX
      obtain ⟨hB, hP, q1, q2⟩ := hX'
      rw [done_all, HM1.out, Hhl.out, ← HQ.out, ← low_tab] at q1
      rw [done_all, HM2.out, Hhi.out, ← HQ.out, ← high_tab] at q2
      have HR1 : Hid _ := q1
      have HR2 : Hid _ := q2
      have HB : Hid _ := hB
      obtain ⟨y0, y1, y2, y3, y4⟩ := hP.open
      clear hX q1 q2 hB hP
      go_wp2
      go_end0
      exact ⟨rfl, HB.out, HR1.out, HR2.out⟩
end Go.Proofs.Ytoplgnckdmkaoaa

namespace Go.Proofs.Ytoplgnckdmkaoaa
open Go.RowKit

set_option maxHeartbeats 4000000 in
theorem splitc_no1 (a b c d kn : Int) (l : List Int) (s : Option Addr) (m : Nat) (w : World) (hp : pvB a b c d l.length = false) :
    Calls Try.prog 20 #[.agg #[.int .i64 a, .int .i64 b, .int .i64 c, .int .i64 d, .slice s l.length m], .int .i64 kn] w (GivesP4 (fun _ => zR) (fun _ => []) 1 w) := by
  have x0 := (((Blk.fresh w 26 #[.int .i64 a, .int .i64 b, .int .i64 c, .int .i64 d, .slice s l.length m]).alloc (.cells #[.int .i64 kn] 28)).alloc (.cells #[.int .i64 0, .int .i64 0, .int .i64 0, .int .i64 0, .slice none 0 0, .int .i64 0, .int .i64 0, .int .i64 0, .int .i64 0, .slice none 0 0, .int .i64 0, .int .i64 0, .int .i64 0, .int .i64 0, .slice none 0 0, .int .i64 0, .int .i64 0, .int .i64 0, .int .i64 0, .slice none 0 0] 27)).alloc (.cells #[.int .i64 0, .int .i64 0, .int .i64 0, .int .i64 0, .slice none 0 0, .int .i64 0, .int .i64 0, .int .i64 0, .int .i64 0, .slice none 0 0, .int .i64 0, .int .i64 0, .int .i64 0, .int .i64 0, .slice none 0 0, .int .i64 0, .int .i64 0, .int .i64 0, .int .i64 0, .slice none 0 0] 27)
  have x1 := ((Blk.freshAt (w.alloc (.cells #[.int .i64 a, .int .i64 b, .int .i64 c, .int .i64 d, .slice s l.length m] 26)) (w.heap.size + 1) (by simp) 28 #[.int .i64 kn]).alloc (.cells #[.int .i64 0, .int .i64 0, .int .i64 0, .int .i64 0, .slice none 0 0, .int .i64 0, .int .i64 0, .int .i64 0, .int .i64 0, .slice none 0 0, .int .i64 0, .int .i64 0, .int .i64 0, .int .i64 0, .slice none 0 0, .int .i64 0, .int .i64 0, .int .i64 0, .int .i64 0, .slice none 0 0] 27)).alloc (.cells #[.int .i64 0, .int .i64 0, .int .i64 0, .int .i64 0, .slice none 0 0, .int .i64 0, .int .i64 0, .int .i64 0, .int .i64 0, .slice none 0 0, .int .i64 0, .int .i64 0, .int .i64 0, .int .i64 0, .slice none 0 0, .int .i64 0, .int .i64 0, .int .i64 0, .int .i64 0, .slice none 0 0] 27)
  have x2 := (Blk.freshAt ((w.alloc (.cells #[.int .i64 a, .int .i64 b, .int .i64 c, .int .i64 d, .slice s l.length m] 26)).alloc (.cells #[.int .i64 kn] 28)) (w.heap.size + 2) (by simp) 27 #[.int .i64 0, .int .i64 0, .int .i64 0, .int .i64 0, .slice none 0 0, .int .i64 0, .int .i64 0, .int .i64 0, .int .i64 0, .slice none 0 0, .int .i64 0, .int .i64 0, .int .i64 0, .int .i64 0, .slice none 0 0, .int .i64 0, .int .i64 0, .int .i64 0, .int .i64 0, .slice none 0 0]).alloc (.cells #[.int .i64 0, .int .i64 0, .int .i64 0, .int .i64 0, .slice none 0 0, .int .i64 0, .int .i64 0, .int .i64 0, .int .i64 0, .slice none 0 0, .int .i64 0, .int .i64 0, .int .i64 0, .int .i64 0, .slice none 0 0, .int .i64 0, .int .i64 0, .int .i64 0, .int .i64 0, .slice none 0 0] 27)
  have x3 := Blk.freshAt (((w.alloc (.cells #[.int .i64 a, .int .i64 b, .int .i64 c, .int .i64 d, .slice s l.length m] 26)).alloc (.cells #[.int .i64 kn] 28)).alloc (.cells #[.int .i64 0, .int .i64 0, .int .i64 0, .int .i64 0, .slice none 0 0, .int .i64 0, .int .i64 0, .int .i64 0, .int .i64 0, .slice none 0 0, .int .i64 0, .int .i64 0, .int .i64 0, .int .i64 0, .slice none 0 0, .int .i64 0, .int .i64 0, .int .i64 0, .int .i64 0, .slice none 0 0] 27)) (w.heap.size + 3) (by simp) 27 #[.int .i64 0, .int .i64 0, .int .i64 0, .int .i64 0, .slice none 0 0, .int .i64 0, .int .i64 0, .int .i64 0, .int .i64 0, .slice none 0 0, .int .i64 0, .int .i64 0, .int .i64 0, .int .i64 0, .slice none 0 0, .int .i64 0, .int .i64 0, .int .i64 0, .int .i64 0, .slice none 0 0]
  have B := below_alloc (below_alloc (below_alloc (below_alloc (Below.refl _ w) (.cells #[.int .i64 a, .int .i64 b, .int .i64 c, .int .i64 d, .slice s l.length m] 26)) (.cells #[.int .i64 kn] 28)) (.cells #[.int .i64 0, .int .i64 0, .int .i64 0, .int .i64 0, .slice none 0 0, .int .i64 0, .int .i64 0, .int .i64 0, .int .i64 0, .slice none 0 0, .int .i64 0, .int .i64 0, .int .i64 0, .int .i64 0, .slice none 0 0, .int .i64 0, .int .i64 0, .int .i64 0, .int .i64 0, .slice none 0 0] 27)) (.cells #[.int .i64 0, .int .i64 0, .int .i64 0, .int .i64 0, .slice none 0 0, .int .i64 0, .int .i64 0, .int .i64 0, .int .i64 0, .slice none 0 0, .int .i64 0, .int .i64 0, .int .i64 0, .int .i64 0, .slice none 0 0, .int .i64 0, .int .i64 0, .int .i64 0, .int .i64 0, .slice none 0 0] 27)
  go_enter Try.func20, Try.ntmps20
  have y0 := x0.cell 0 _ rfl
  have y1 := x0.cell 1 _ rfl
  have y2 := x0.cell 2 _ rfl
  have y3 := x0.cell 3 _ rfl
  have y4 := x0.cell 4 _ rfl
  have yk := x1.cell 0 _ rfl
  go_wp2_with fail
  clear y0 y1 y2 y3 y4 yk
  refine (pv_c _ _ _ _ _ _ _ _).mono ?_
  rintro e wa ⟨rfl, hb⟩
  replace x0 := x0.below hb
  replace x1 := x1.below hb
  replace x2 := x2.below hb
  replace x3 := x3.below hb
  replace B := below_call B hb
  clear hb
  have y0 := x0.cell 0 _ rfl
  have y1 := x0.cell 1 _ rfl
  have y2 := x0.cell 2 _ rfl
  have y3 := x0.cell 3 _ rfl
  have y4 := x0.cell 4 _ rfl
  have yk := x1.cell 0 _ rfl
  go_wp2_with (first | (refine wpList_load_mid rfl 27 (.tmp 6) rfl (w.heap.size + 3) 0 rfl (Array.toList #[.int .i64 0, .int .i64 0, .int .i64 0, .int .i64 0, .slice none 0 0, .int .i64 0, .int .i64 0, .int .i64 0, .int .i64 0, .slice none 0 0, .int .i64 0, .int .i64 0, .int .i64 0, .int .i64 0, .slice none 0 0, .int .i64 0, .int .i64 0, .int .i64 0, .int .i64 0, .slice none 0 0]) _ x3.range Try.underlying27 rfl info20 ?_) | (refine wpList_store_row rfl 27 (.tmp 4) (.tmp 16) rfl (w.heap.size + 2) #[.int .i64 0, .int .i64 0, .int .i64 0, .int .i64 0, .slice none 0 0, .int .i64 0, .int .i64 0, .int .i64 0, .int .i64 0, .slice none 0 0, .int .i64 0, .int .i64 0, .int .i64 0, .int .i64 0, .slice none 0 0, .int .i64 0, .int .i64 0, .int .i64 0, .int .i64 0, .slice none 0 0] rfl rfl 27 _ x2 info20 rfl (by simp [Value.oneCell']) ?_))
  have g1 : Blk (wa.setRow (w.heap.size + 2) #[.int .i64 0, .int .i64 0, .int .i64 0, .int .i64 0, .slice none 0 0, .int .i64 0, .int .i64 0, .int .i64 0, .int .i64 0, .slice none 0 0, .int .i64 0, .int .i64 0, .int .i64 0, .int .i64 0, .slice none 0 0, .int .i64 0, .int .i64 0, .int .i64 0, .int .i64 0, .slice none 0 0]) (w.heap.size + 2) 27 #[.int .i64 0, .int .i64 0, .int .i64 0, .int .i64 0, .slice none 0 0, .int .i64 0, .int .i64 0, .int .i64 0, .int .i64 0, .slice none 0 0, .int .i64 0, .int .i64 0, .int .i64 0, .int .i64 0, .slice none 0 0, .int .i64 0, .int .i64 0, .int .i64 0, .int .i64 0, .slice none 0 0] := x2.row _
  have hld := run_loadVar_mid (P := Try.prog) (wa.setRow (w.heap.size + 2) #[.int .i64 0, .int .i64 0, .int .i64 0, .int .i64 0, .slice none 0 0, .int .i64 0, .int .i64 0, .int .i64 0, .int .i64 0, .slice none 0 0, .int .i64 0, .int .i64 0, .int .i64 0, .int .i64 0, .slice none 0 0, .int .i64 0, .int .i64 0, .int .i64 0, .int .i64 0, .slice none 0 0]) (w.heap.size + 2) 0 27 (Array.toList #[.int .i64 0, .int .i64 0, .int .i64 0, .int .i64 0, .slice none 0 0, .int .i64 0, .int .i64 0, .int .i64 0, .int .i64 0, .slice none 0 0, .int .i64 0, .int .i64 0, .int .i64 0, .int .i64 0, .slice none 0 0, .int .i64 0, .int .i64 0, .int .i64 0, .int .i64 0, .slice none 0 0]) _ g1.range Try.underlying27 rfl info20
  refine bodyPost_ret (v := .tuple #[.agg #[.int .i64 0, .int .i64 0, .int .i64 0, .int .i64 0, .slice none 0 0, .int .i64 0, .int .i64 0, .int .i64 0, .int .i64 0, .slice none 0 0, .int .i64 0, .int .i64 0, .int .i64 0, .int .i64 0, .slice none 0 0, .int .i64 0, .int .i64 0, .int .i64 0, .int .i64 0, .slice none 0 0], .int .i64 1]) ?_ rfl ⟨fun _ => none, fun _ => 0, rfl, fun o _ => ⟨.inl rfl, Nat.le_refl _, fun _ => rfl, fresh_none _⟩, below_row B (by omega) _⟩
  rw [results_cell_tmp rfl]
  simp [asAddr, Result.andThen, hld]
set_option maxHeartbeats 4000000 in
theorem splitc_no2 (a b c d kn : Int) (l : List Int) (s : Option Addr) (m : Nat) (w : World) (hp : pvB a b c d l.length = true) (hk : kB kn = false) :
    Calls Try.prog 20 #[.agg #[.int .i64 a, .int .i64 b, .int .i64 c, .int .i64 d, .slice s l.length m], .int .i64 kn] w (GivesP4 (fun _ => zR) (fun _ => []) 3 w) := by
  have x0 := (((Blk.fresh w 26 #[.int .i64 a, .int .i64 b, .int .i64 c, .int .i64 d, .slice s l.length m]).alloc (.cells #[.int .i64 kn] 28)).alloc (.cells #[.int .i64 0, .int .i64 0, .int .i64 0, .int .i64 0, .slice none 0 0, .int .i64 0, .int .i64 0, .int .i64 0, .int .i64 0, .slice none 0 0, .int .i64 0, .int .i64 0, .int .i64 0, .int .i64 0, .slice none 0 0, .int .i64 0, .int .i64 0, .int .i64 0, .int .i64 0, .slice none 0 0] 27)).alloc (.cells #[.int .i64 0, .int .i64 0, .int .i64 0, .int .i64 0, .slice none 0 0, .int .i64 0, .int .i64 0, .int .i64 0, .int .i64 0, .slice none 0 0, .int .i64 0, .int .i64 0, .int .i64 0, .int .i64 0, .slice none 0 0, .int .i64 0, .int .i64 0, .int .i64 0, .int .i64 0, .slice none 0 0] 27)
  have x1 := ((Blk.freshAt (w.alloc (.cells #[.int .i64 a, .int .i64 b, .int .i64 c, .int .i64 d, .slice s l.length m] 26)) (w.heap.size + 1) (by simp) 28 #[.int .i64 kn]).alloc (.cells #[.int .i64 0, .int .i64 0, .int .i64 0, .int .i64 0, .slice none 0 0, .int .i64 0, .int .i64 0, .int .i64 0, .int .i64 0, .slice none 0 0, .int .i64 0, .int .i64 0, .int .i64 0, .int .i64 0, .slice none 0 0, .int .i64 0, .int .i64 0, .int .i64 0, .int .i64 0, .slice none 0 0] 27)).alloc (.cells #[.int .i64 0, .int .i64 0, .int .i64 0, .int .i64 0, .slice none 0 0, .int .i64 0, .int .i64 0, .int .i64 0, .int .i64 0, .slice none 0 0, .int .i64 0, .int .i64 0, .int .i64 0, .int .i64 0, .slice none 0 0, .int .i64 0, .int .i64 0, .int .i64 0, .int .i64 0, .slice none 0 0] 27)
  have x2 := (Blk.freshAt ((w.alloc (.cells #[.int .i64 a, .int .i64 b, .int .i64 c, .int .i64 d, .slice s l.length m] 26)).alloc (.cells #[.int .i64 kn] 28)) (w.heap.size + 2) (by simp) 27 #[.int .i64 0, .int .i64 0, .int .i64 0, .int .i64 0, .slice none 0 0, .int .i64 0, .int .i64 0, .int .i64 0, .int .i64 0, .slice none 0 0, .int .i64 0, .int .i64 0, .int .i64 0, .int .i64 0, .slice none 0 0, .int .i64 0, .int .i64 0, .int .i64 0, .int .i64 0, .slice none 0 0]).alloc (.cells #[.int .i64 0, .int .i64 0, .int .i64 0, .int .i64 0, .slice none 0 0, .int .i64 0, .int .i64 0, .int .i64 0, .int .i64 0, .slice none 0 0, .int .i64 0, .int .i64 0, .int .i64 0, .int .i64 0, .slice none 0 0, .int .i64 0, .int .i64 0, .int .i64 0, .int .i64 0, .slice none 0 0] 27)
  have x3 := Blk.freshAt (((w.alloc (.cells #[.int .i64 a, .int .i64 b, .int .i64 c, .int .i64 d, .slice s l.length m] 26)).alloc (.cells #[.int .i64 kn] 28)).alloc (.cells #[.int .i64 0, .int .i64 0, .int .i64 0, .int .i64 0, .slice none 0 0, .int .i64 0, .int .i64 0, .int .i64 0, .int .i64 0, .slice none 0 0, .int .i64 0, .int .i64 0, .int .i64 0, .int .i64 0, .slice none 0 0, .int .i64 0, .int .i64 0, .int .i64 0, .int .i64 0, .slice none 0 0] 27)) (w.heap.size + 3) (by simp) 27 #[.int .i64 0, .int .i64 0, .int .i64 0, .int .i64 0, .slice none 0 0, .int .i64 0, .int .i64 0, .int .i64 0, .int .i64 0, .slice none 0 0, .int .i64 0, .int .i64 0, .int .i64 0, .int .i64 0, .slice none 0 0, .int .i64 0, .int .i64 0, .int .i64 0, .int .i64 0, .slice none 0 0]
  have B := below_alloc (below_alloc (below_alloc (below_alloc (Below.refl _ w) (.cells #[.int .i64 a, .int .i64 b, .int .i64 c, .int .i64 d, .slice s l.length m] 26)) (.cells #[.int .i64 kn] 28)) (.cells #[.int .i64 0, .int .i64 0, .int .i64 0, .int .i64 0, .slice none 0 0, .int .i64 0, .int .i64 0, .int .i64 0, .int .i64 0, .slice none 0 0, .int .i64 0, .int .i64 0, .int .i64 0, .int .i64 0, .slice none 0 0, .int .i64 0, .int .i64 0, .int .i64 0, .int .i64 0, .slice none 0 0] 27)) (.cells #[.int .i64 0, .int .i64 0, .int .i64 0, .int .i64 0, .slice none 0 0, .int .i64 0, .int .i64 0, .int .i64 0, .int .i64 0, .slice none 0 0, .int .i64 0, .int .i64 0, .int .i64 0, .int .i64 0, .slice none 0 0, .int .i64 0, .int .i64 0, .int .i64 0, .int .i64 0, .slice none 0 0] 27)
  go_enter Try.func20, Try.ntmps20
  have y0 := x0.cell 0 _ rfl
  have y1 := x0.cell 1 _ rfl
  have y2 := x0.cell 2 _ rfl
  have y3 := x0.cell 3 _ rfl
  have y4 := x0.cell 4 _ rfl
  have yk := x1.cell 0 _ rfl
  go_wp2_with fail
  clear y0 y1 y2 y3 y4 yk
  refine (pv_c _ _ _ _ _ _ _ _).mono ?_
  rintro e wa ⟨rfl, hb⟩
  replace x0 := x0.below hb
  replace x1 := x1.below hb
  replace x2 := x2.below hb
  replace x3 := x3.below hb
  replace B := below_call B hb
  clear hb
  have y0 := x0.cell 0 _ rfl
  have y1 := x0.cell 1 _ rfl
  have y2 := x0.cell 2 _ rfl
  have y3 := x0.cell 3 _ rfl
  have y4 := x0.cell 4 _ rfl
  have yk := x1.cell 0 _ rfl
  go_wp2_with (first | (go_at_call 76; refine (known_q _ _).mono ?_; rintro e wn ⟨rfl, rfl⟩) | (refine wpList_load_mid rfl 27 (.tmp 6) rfl (w.heap.size + 3) 0 rfl (Array.toList #[.int .i64 0, .int .i64 0, .int .i64 0, .int .i64 0, .slice none 0 0, .int .i64 0, .int .i64 0, .int .i64 0, .int .i64 0, .slice none 0 0, .int .i64 0, .int .i64 0, .int .i64 0, .int .i64 0, .slice none 0 0, .int .i64 0, .int .i64 0, .int .i64 0, .int .i64 0, .slice none 0 0]) _ x3.range Try.underlying27 rfl info20 ?_) | (refine wpList_store_row rfl 27 (.tmp 4) (.tmp 21) rfl (w.heap.size + 2) #[.int .i64 0, .int .i64 0, .int .i64 0, .int .i64 0, .slice none 0 0, .int .i64 0, .int .i64 0, .int .i64 0, .int .i64 0, .slice none 0 0, .int .i64 0, .int .i64 0, .int .i64 0, .int .i64 0, .slice none 0 0, .int .i64 0, .int .i64 0, .int .i64 0, .int .i64 0, .slice none 0 0] rfl rfl 27 _ x2 info20 rfl (by simp [Value.oneCell']) ?_))
  have g1 : Blk (wa.setRow (w.heap.size + 2) #[.int .i64 0, .int .i64 0, .int .i64 0, .int .i64 0, .slice none 0 0, .int .i64 0, .int .i64 0, .int .i64 0, .int .i64 0, .slice none 0 0, .int .i64 0, .int .i64 0, .int .i64 0, .int .i64 0, .slice none 0 0, .int .i64 0, .int .i64 0, .int .i64 0, .int .i64 0, .slice none 0 0]) (w.heap.size + 2) 27 #[.int .i64 0, .int .i64 0, .int .i64 0, .int .i64 0, .slice none 0 0, .int .i64 0, .int .i64 0, .int .i64 0, .int .i64 0, .slice none 0 0, .int .i64 0, .int .i64 0, .int .i64 0, .int .i64 0, .slice none 0 0, .int .i64 0, .int .i64 0, .int .i64 0, .int .i64 0, .slice none 0 0] := x2.row _
  have hld := run_loadVar_mid (P := Try.prog) (wa.setRow (w.heap.size + 2) #[.int .i64 0, .int .i64 0, .int .i64 0, .int .i64 0, .slice none 0 0, .int .i64 0, .int .i64 0, .int .i64 0, .int .i64 0, .slice none 0 0, .int .i64 0, .int .i64 0, .int .i64 0, .int .i64 0, .slice none 0 0, .int .i64 0, .int .i64 0, .int .i64 0, .int .i64 0, .slice none 0 0]) (w.heap.size + 2) 0 27 (Array.toList #[.int .i64 0, .int .i64 0, .int .i64 0, .int .i64 0, .slice none 0 0, .int .i64 0, .int .i64 0, .int .i64 0, .int .i64 0, .slice none 0 0, .int .i64 0, .int .i64 0, .int .i64 0, .int .i64 0, .slice none 0 0, .int .i64 0, .int .i64 0, .int .i64 0, .int .i64 0, .slice none 0 0]) _ g1.range Try.underlying27 rfl info20
  refine bodyPost_ret (v := .tuple #[.agg #[.int .i64 0, .int .i64 0, .int .i64 0, .int .i64 0, .slice none 0 0, .int .i64 0, .int .i64 0, .int .i64 0, .int .i64 0, .slice none 0 0, .int .i64 0, .int .i64 0, .int .i64 0, .int .i64 0, .slice none 0 0, .int .i64 0, .int .i64 0, .int .i64 0, .int .i64 0, .slice none 0 0], .int .i64 3]) ?_ rfl ⟨fun _ => none, fun _ => 0, rfl, fun o _ => ⟨.inl rfl, Nat.le_refl _, fun _ => rfl, fresh_none _⟩, below_row B (by omega) _⟩
  rw [results_cell_tmp rfl]
  simp [asAddr, Result.andThen, hld]
set_option maxHeartbeats 4000000 in
theorem splitc_no3 (a b c d kn : Int) (l : List Int) (s : Option Addr) (m : Nat) (w : World) (hp : pvB a b c d l.length = true) (hk : kB kn = true) (hf : fewB l 35184372088832 = false) (hH : HoldsI w s l) :
    Calls Try.prog 20 #[.agg #[.int .i64 a, .int .i64 b, .int .i64 c, .int .i64 d, .slice s l.length m], .int .i64 kn] w (GivesP4 (fun _ => zR) (fun _ => []) 2 w) := by
  have x0 := (((Blk.fresh w 26 #[.int .i64 a, .int .i64 b, .int .i64 c, .int .i64 d, .slice s l.length m]).alloc (.cells #[.int .i64 kn] 28)).alloc (.cells #[.int .i64 0, .int .i64 0, .int .i64 0, .int .i64 0, .slice none 0 0, .int .i64 0, .int .i64 0, .int .i64 0, .int .i64 0, .slice none 0 0, .int .i64 0, .int .i64 0, .int .i64 0, .int .i64 0, .slice none 0 0, .int .i64 0, .int .i64 0, .int .i64 0, .int .i64 0, .slice none 0 0] 27)).alloc (.cells #[.int .i64 0, .int .i64 0, .int .i64 0, .int .i64 0, .slice none 0 0, .int .i64 0, .int .i64 0, .int .i64 0, .int .i64 0, .slice none 0 0, .int .i64 0, .int .i64 0, .int .i64 0, .int .i64 0, .slice none 0 0, .int .i64 0, .int .i64 0, .int .i64 0, .int .i64 0, .slice none 0 0] 27)
  have x1 := ((Blk.freshAt (w.alloc (.cells #[.int .i64 a, .int .i64 b, .int .i64 c, .int .i64 d, .slice s l.length m] 26)) (w.heap.size + 1) (by simp) 28 #[.int .i64 kn]).alloc (.cells #[.int .i64 0, .int .i64 0, .int .i64 0, .int .i64 0, .slice none 0 0, .int .i64 0, .int .i64 0, .int .i64 0, .int .i64 0, .slice none 0 0, .int .i64 0, .int .i64 0, .int .i64 0, .int .i64 0, .slice none 0 0, .int .i64 0, .int .i64 0, .int .i64 0, .int .i64 0, .slice none 0 0] 27)).alloc (.cells #[.int .i64 0, .int .i64 0, .int .i64 0, .int .i64 0, .slice none 0 0, .int .i64 0, .int .i64 0, .int .i64 0, .int .i64 0, .slice none 0 0, .int .i64 0, .int .i64 0, .int .i64 0, .int .i64 0, .slice none 0 0, .int .i64 0, .int .i64 0, .int .i64 0, .int .i64 0, .slice none 0 0] 27)
  have x2 := (Blk.freshAt ((w.alloc (.cells #[.int .i64 a, .int .i64 b, .int .i64 c, .int .i64 d, .slice s l.length m] 26)).alloc (.cells #[.int .i64 kn] 28)) (w.heap.size + 2) (by simp) 27 #[.int .i64 0, .int .i64 0, .int .i64 0, .int .i64 0, .slice none 0 0, .int .i64 0, .int .i64 0, .int .i64 0, .int .i64 0, .slice none 0 0, .int .i64 0, .int .i64 0, .int .i64 0, .int .i64 0, .slice none 0 0, .int .i64 0, .int .i64 0, .int .i64 0, .int .i64 0, .slice none 0 0]).alloc (.cells #[.int .i64 0, .int .i64 0, .int .i64 0, .int .i64 0, .slice none 0 0, .int .i64 0, .int .i64 0, .int .i64 0, .int .i64 0, .slice none 0 0, .int .i64 0, .int .i64 0, .int .i64 0, .int .i64 0, .slice none 0 0, .int .i64 0, .int .i64 0, .int .i64 0, .int .i64 0, .slice none 0 0] 27)
  have x3 := Blk.freshAt (((w.alloc (.cells #[.int .i64 a, .int .i64 b, .int .i64 c, .int .i64 d, .slice s l.length m] 26)).alloc (.cells #[.int .i64 kn] 28)).alloc (.cells #[.int .i64 0, .int .i64 0, .int .i64 0, .int .i64 0, .slice none 0 0, .int .i64 0, .int .i64 0, .int .i64 0, .int .i64 0, .slice none 0 0, .int .i64 0, .int .i64 0, .int .i64 0, .int .i64 0, .slice none 0 0, .int .i64 0, .int .i64 0, .int .i64 0, .int .i64 0, .slice none 0 0] 27)) (w.heap.size + 3) (by simp) 27 #[.int .i64 0, .int .i64 0, .int .i64 0, .int .i64 0, .slice none 0 0, .int .i64 0, .int .i64 0, .int .i64 0, .int .i64 0, .slice none 0 0, .int .i64 0, .int .i64 0, .int .i64 0, .int .i64 0, .slice none 0 0, .int .i64 0, .int .i64 0, .int .i64 0, .int .i64 0, .slice none 0 0]
  have B := below_alloc (below_alloc (below_alloc (below_alloc (Below.refl _ w) (.cells #[.int .i64 a, .int .i64 b, .int .i64 c, .int .i64 d, .slice s l.length m] 26)) (.cells #[.int .i64 kn] 28)) (.cells #[.int .i64 0, .int .i64 0, .int .i64 0, .int .i64 0, .slice none 0 0, .int .i64 0, .int .i64 0, .int .i64 0, .int .i64 0, .slice none 0 0, .int .i64 0, .int .i64 0, .int .i64 0, .int .i64 0, .slice none 0 0, .int .i64 0, .int .i64 0, .int .i64 0, .int .i64 0, .slice none 0 0] 27)) (.cells #[.int .i64 0, .int .i64 0, .int .i64 0, .int .i64 0, .slice none 0 0, .int .i64 0, .int .i64 0, .int .i64 0, .int .i64 0, .slice none 0 0, .int .i64 0, .int .i64 0, .int .i64 0, .int .i64 0, .slice none 0 0, .int .i64 0, .int .i64 0, .int .i64 0, .int .i64 0, .slice none 0 0] 27)
  have lH := (((hH.alloc (.cells #[.int .i64 a, .int .i64 b, .int .i64 c, .int .i64 d, .slice s l.length m] 26)).alloc (.cells #[.int .i64 kn] 28)).alloc (.cells #[.int .i64 0, .int .i64 0, .int .i64 0, .int .i64 0, .slice none 0 0, .int .i64 0, .int .i64 0, .int .i64 0, .int .i64 0, .slice none 0 0, .int .i64 0, .int .i64 0, .int .i64 0, .int .i64 0, .slice none 0 0, .int .i64 0, .int .i64 0, .int .i64 0, .int .i64 0, .slice none 0 0] 27)).alloc (.cells #[.int .i64 0, .int .i64 0, .int .i64 0, .int .i64 0, .slice none 0 0, .int .i64 0, .int .i64 0, .int .i64 0, .int .i64 0, .slice none 0 0, .int .i64 0, .int .i64 0, .int .i64 0, .int .i64 0, .slice none 0 0, .int .i64 0, .int .i64 0, .int .i64 0, .int .i64 0, .slice none 0 0] 27)
  go_enter Try.func20, Try.ntmps20
  have y0 := x0.cell 0 _ rfl
  have y1 := x0.cell 1 _ rfl
  have y2 := x0.cell 2 _ rfl
  have y3 := x0.cell 3 _ rfl
  have y4 := x0.cell 4 _ rfl
  have yk := x1.cell 0 _ rfl
  go_wp2_with fail
  clear y0 y1 y2 y3 y4 yk
  refine (pv_c _ _ _ _ _ _ _ _).mono ?_
  rintro e wa ⟨rfl, hb⟩
  replace x0 := x0.below hb
  replace x1 := x1.below hb
  replace x2 := x2.below hb
  replace x3 := x3.below hb
  replace lH := lH.call hb
  replace B := below_call B hb
  clear hb
  have cW := within5_q a b c d 35184372088832 s m l wa hp (by decide) (by decide) lH
  rw [hf] at cW
  clear hf lH
  have y0 := x0.cell 0 _ rfl
  have y1 := x0.cell 1 _ rfl
  have y2 := x0.cell 2 _ rfl
  have y3 := x0.cell 3 _ rfl
  have y4 := x0.cell 4 _ rfl
  have yk := x1.cell 0 _ rfl
  go_wp2_with (first | (go_at_call 76; refine (known_q _ _).mono ?_; rintro e wn ⟨rfl, rfl⟩) | (go_at_call 77; (with_reducible refine cW.mono ?_); rintro e wb ⟨rfl, hb⟩; replace x2 := x2.below hb; replace x3 := x3.below hb; replace B := below_call B hb; clear hb) | (refine wpList_load_mid rfl 27 (.tmp 6) rfl (w.heap.size + 3) 0 rfl (Array.toList #[.int .i64 0, .int .i64 0, .int .i64 0, .int .i64 0, .slice none 0 0, .int .i64 0, .int .i64 0, .int .i64 0, .int .i64 0, .slice none 0 0, .int .i64 0, .int .i64 0, .int .i64 0, .int .i64 0, .slice none 0 0, .int .i64 0, .int .i64 0, .int .i64 0, .int .i64 0, .slice none 0 0]) _ x3.range Try.underlying27 rfl info20 ?_) | (refine wpList_store_row rfl 27 (.tmp 4) (.tmp 26) rfl (w.heap.size + 2) #[.int .i64 0, .int .i64 0, .int .i64 0, .int .i64 0, .slice none 0 0, .int .i64 0, .int .i64 0, .int .i64 0, .int .i64 0, .slice none 0 0, .int .i64 0, .int .i64 0, .int .i64 0, .int .i64 0, .slice none 0 0, .int .i64 0, .int .i64 0, .int .i64 0, .int .i64 0, .slice none 0 0] rfl rfl 27 _ x2 info20 rfl (by simp [Value.oneCell']) ?_))
  have g1 : Blk (wb.setRow (w.heap.size + 2) #[.int .i64 0, .int .i64 0, .int .i64 0, .int .i64 0, .slice none 0 0, .int .i64 0, .int .i64 0, .int .i64 0, .int .i64 0, .slice none 0 0, .int .i64 0, .int .i64 0, .int .i64 0, .int .i64 0, .slice none 0 0, .int .i64 0, .int .i64 0, .int .i64 0, .int .i64 0, .slice none 0 0]) (w.heap.size + 2) 27 #[.int .i64 0, .int .i64 0, .int .i64 0, .int .i64 0, .slice none 0 0, .int .i64 0, .int .i64 0, .int .i64 0, .int .i64 0, .slice none 0 0, .int .i64 0, .int .i64 0, .int .i64 0, .int .i64 0, .slice none 0 0, .int .i64 0, .int .i64 0, .int .i64 0, .int .i64 0, .slice none 0 0] := x2.row _
  have hld := run_loadVar_mid (P := Try.prog) (wb.setRow (w.heap.size + 2) #[.int .i64 0, .int .i64 0, .int .i64 0, .int .i64 0, .slice none 0 0, .int .i64 0, .int .i64 0, .int .i64 0, .int .i64 0, .slice none 0 0, .int .i64 0, .int .i64 0, .int .i64 0, .int .i64 0, .slice none 0 0, .int .i64 0, .int .i64 0, .int .i64 0, .int .i64 0, .slice none 0 0]) (w.heap.size + 2) 0 27 (Array.toList #[.int .i64 0, .int .i64 0, .int .i64 0, .int .i64 0, .slice none 0 0, .int .i64 0, .int .i64 0, .int .i64 0, .int .i64 0, .slice none 0 0, .int .i64 0, .int .i64 0, .int .i64 0, .int .i64 0, .slice none 0 0, .int .i64 0, .int .i64 0, .int .i64 0, .int .i64 0, .slice none 0 0]) _ g1.range Try.underlying27 rfl info20
  refine bodyPost_ret (v := .tuple #[.agg #[.int .i64 0, .int .i64 0, .int .i64 0, .int .i64 0, .slice none 0 0, .int .i64 0, .int .i64 0, .int .i64 0, .int .i64 0, .slice none 0 0, .int .i64 0, .int .i64 0, .int .i64 0, .int .i64 0, .slice none 0 0, .int .i64 0, .int .i64 0, .int .i64 0, .int .i64 0, .slice none 0 0], .int .i64 2]) ?_ rfl ⟨fun _ => none, fun _ => 0, rfl, fun o _ => ⟨.inl rfl, Nat.le_refl _, fun _ => rfl, fresh_none _⟩, below_row B (by omega) _⟩
  rw [results_cell_tmp rfl]
  simp [asAddr, Result.andThen, hld]

/-! The sizes of subbands -/
theorem hf_cnt {a : Int} {n : Nat} (h0 : 0 ≤ a) (h1 : a ≤ 4096) (hn : n ≤ 4096) : hfI (a + (n : Int)) false - hfI a false = (Ex.cntE a n : Int) ∧ hfI (a + (n : Int)) true - hfI a true = (Ex.cntO a n : Int) := by
  obtain ⟨e1, e2⟩ := ce_cnt h0 h1 hn
  rw [coI, if_pos ⟨h0, h1, by omega, by omega⟩] at e2
  rw [ceI, if_pos ⟨h0, h1, by omega, by omega⟩] at e1 e2
  simp only [hfI]
  refine ⟨?_, ?_⟩
  · simp; omega
  · simp; omega
def wdO (a : Int) (n o : Nat) : Nat := if orH o then Ex.cntO a n else Ex.cntE a n
def htO (b : Int) (h o : Nat) : Nat := if orV o then Ex.cntO b h else Ex.cntE b h
theorem bnd_size {a b c d : Int} {n h : Nat} (hv : Pl.validB a b c d = true) (hn : c - a = (n : Int)) (hh : d - b = (h : Int)) (o : Nat) :
    (bnds ⟨a, b, c, d⟩ o).x1 - (bnds ⟨a, b, c, d⟩ o).x0 = (wdO a n o : Int) ∧ (bnds ⟨a, b, c, d⟩ o).y1 - (bnds ⟨a, b, c, d⟩ o).y0 = (htO b h o : Int) ∧ Pl.validB (bnds ⟨a, b, c, d⟩ o).x0 (bnds ⟨a, b, c, d⟩ o).y0 (bnds ⟨a, b, c, d⟩ o).x1 (bnds ⟨a, b, c, d⟩ o).y1 = true := by
  obtain ⟨v1, v2, v3, v4, v5, v6⟩ := Pl.valid_iff.1 hv
  have e : bnds ⟨a, b, c, d⟩ o = bndR ⟨a, b, c, d⟩ o := if_pos hv
  rw [e]
  obtain ⟨x1, x2⟩ := hf_cnt (a := a) (n := n) v1 (by omega) (by omega)
  obtain ⟨y1, y2⟩ := hf_cnt (a := b) (n := h) v4 (by omega) (by omega)
  rw [show a + (n : Int) = c by omega] at x1 x2
  rw [show b + (h : Int) = d by omega] at y1 y2
  refine ⟨?_, ?_, Pl.valid_iff.2 ?_⟩
  · simp only [bndR, wdO]
    cases orH o
    · simpa using x1
    · simpa using x2
  · simp only [bndR, htO]
    cases orV o
    · simpa using y1
    · simpa using y2
  · simp only [bndR, hfI]
    cases orH o <;> cases orV o <;> simp <;> omega
theorem wd_le (a : Int) (n o : Nat) : wdO a n o ≤ n := by
  have := Ex.cnt_le (s := a) (n := n)
  unfold wdO
  split <;> omega
theorem bnd_area {a b c d : Int} {n h : Nat} (hv : Pl.validB a b c d = true) (hn : c - a = (n : Int)) (hh : d - b = (h : Int)) (o : Nat) :
    Pl.areaI (bnds ⟨a, b, c, d⟩ o).x0 (bnds ⟨a, b, c, d⟩ o).y0 (bnds ⟨a, b, c, d⟩ o).x1 (bnds ⟨a, b, c, d⟩ o).y1 = ((htO b h o * wdO a n o : Nat) : Int) := by
  obtain ⟨e1, e2, e3⟩ := bnd_size hv hn hh o
  rw [Pl.areaI, if_pos e3, e1, e2, Int.mul_comm, ← Int.natCast_mul]
theorem bnd_area_le {a b c d : Int} {n h : Nat} {l : List Int} (hp : pvB a b c d l.length = true) (hn : c - a = (n : Int)) (hh : d - b = (h : Int)) (o : Nat) : htO b h o * wdO a n o ≤ 1048576 := by
  obtain ⟨hv, ha, he⟩ := pv_iff.1 hp
  have h1 : Pl.areaI a b c d = ((h * n : Nat) : Int) := by rw [Pl.areaI, if_pos hv, hn, hh, Int.mul_comm, ← Int.natCast_mul]
  have h2 : htO b h o * wdO a n o ≤ h * n := Nat.mul_le_mul (wd_le b h (if orV o then 1 else 0) |> fun q => by
    have := Ex.cnt_le (s := b) (n := h)
    unfold htO
    split <;> omega) (wd_le a n o)
  omega
end Go.Proofs.Ytoplgnckdmkaoaa
namespace Go.Proofs.Ytoplgnckdmkaoaa
open Go.RowKit

theorem half_pv {a b c d : Int} {n h : Nat} {l : List Int} (hp : pvB a b c d l.length = true) (hn : c - a = (n : Int)) (hh : d - b = (h : Int)) (o : Nat) {N : Nat} (hN : N = h * wdO a n o) : pvB (bnds ⟨a, b, c, d⟩ o).x0 b (bnds ⟨a, b, c, d⟩ o).x1 d N = true := by
  obtain ⟨hv, ha, he⟩ := pv_iff.1 hp
  obtain ⟨v1, v2, v3, v4, v5, v6⟩ := Pl.valid_iff.1 hv
  obtain ⟨e1, _, e3⟩ := bnd_size hv hn hh o
  obtain ⟨z1, z2, z3, _, _, _⟩ := Pl.valid_iff.1 e3
  have hv2 : Pl.validB (bnds ⟨a, b, c, d⟩ o).x0 b (bnds ⟨a, b, c, d⟩ o).x1 d = true := Pl.valid_iff.2 ⟨z1, z2, z3, v4, v5, v6⟩
  have h1 : Pl.areaI a b c d = ((h * n : Nat) : Int) := by rw [Pl.areaI, if_pos hv, hn, hh, Int.mul_comm, ← Int.natCast_mul]
  have h2 : Pl.areaI (bnds ⟨a, b, c, d⟩ o).x0 b (bnds ⟨a, b, c, d⟩ o).x1 d = ((h * wdO a n o : Nat) : Int) := by rw [Pl.areaI, if_pos hv2, e1, hh, Int.mul_comm, ← Int.natCast_mul]
  have h3 : h * wdO a n o ≤ h * n := Nat.mul_le_mul (Nat.le_refl _) (wd_le a n o)
  refine pv_iff.2 ⟨hv2, ?_, ?_⟩
  · rw [h2]; omega
  · rw [h2, hN]
theorem band_wide {a b kn : Int} {n h : Nat} {P : List (List Int)} (_hW : Ex.Wide n P) (hP : P.length = h) (o : Nat) (ho : o < 4) : Ex.Wide (wdO a n o) (bandQ a b kn n P o) ∧ (bandQ a b kn n P o).length = htO b h o := by
  have l1 : (Ex.lowR a kn P).length = h := by rw [Ex.lowR, List.length_map, hP]
  have l2 : (Ex.highR a kn P).length = h := by rw [Ex.highR, List.length_map, hP]
  rcases lt4 ho with rfl | rfl | rfl | rfl
  · exact ⟨Ex.lowC_wide _ _ _ _, by show (Ex.lowC b kn _ _).length = Ex.cntE b h; rw [Ex.lowC_len, l1]⟩
  · exact ⟨Ex.lowC_wide _ _ _ _, by show (Ex.lowC b kn _ _).length = Ex.cntE b h; rw [Ex.lowC_len, l2]⟩
  · exact ⟨Ex.highC_wide _ _ _ _, by show (Ex.highC b kn _ _).length = Ex.cntO b h; rw [Ex.highC_len, l1]⟩
  · exact ⟨Ex.highC_wide _ _ _ _, by show (Ex.highC b kn _ _).length = Ex.cntO b h; rw [Ex.highC_len, l2]⟩
theorem band_len {a b kn : Int} {n h : Nat} {P : List (List Int)} (hW : Ex.Wide n P) (hP : P.length = h) (o : Nat) (ho : o < 4) : (bandQ a b kn n P o).flatten.length = htO b h o * wdO a n o := by
  obtain ⟨h1, h2⟩ := band_wide (a := a) (b := b) (kn := kn) hW hP o ho
  rw [Ex.flat_len h1, h2]
theorem idx4 (R : Nat → Pl.R) (k : Nat) (hk : k < 4) (W : World) : (Instr.index 84 (.agg (arr4 R)) (.int .i64 (k : Int))).run Try.prog W = .ok (.agg #[.int .i64 (R k).x0, .int .i64 (R k).y0, .int .i64 (R k).x1, .int .i64 (R k).y1]) W := by
  rcases lt4 hk with rfl | rfl | rfl | rfl <;> kernel_rfl
/-- New, at the rectangle of a subband. -/
theorem new_band {a b c d : Int} {n h : Nat} {l : List Int} (hp : pvB a b c d l.length = true) (hn : c - a = (n : Int)) (hh : d - b = (h : Int)) (o : Nat) (w : World) :
    Calls Try.prog 56 #[.agg #[.int .i64 (bnds ⟨a, b, c, d⟩ o).x0, .int .i64 (bnds ⟨a, b, c, d⟩ o).y0, .int .i64 (bnds ⟨a, b, c, d⟩ o).x1, .int .i64 (bnds ⟨a, b, c, d⟩ o).y1]] w fun e w' => ∃ g,
      e = .returned (.tuple #[.agg #[.int .i64 (bnds ⟨a, b, c, d⟩ o).x0, .int .i64 (bnds ⟨a, b, c, d⟩ o).y0, .int .i64 (bnds ⟨a, b, c, d⟩ o).x1, .int .i64 (bnds ⟨a, b, c, d⟩ o).y1, .slice (some ⟨g, 0, none⟩) (htO b h o * wdO a n o) (htO b h o * wdO a n o)], .int .i64 0]) ∧
      w.heap.size ≤ g ∧ RowAt w' g (List.replicate (htO b h o * wdO a n o) 0) ∧ Below w.heap.size w w' := by
  have hv := (pv_iff.1 hp).1
  have e := bnd_area hv hn hh o
  have hA := bnd_area_le hp hn hh o
  refine (new_own _ _ _ _ w (bnd_size hv hn hh o).2.2 (by rw [e]; omega)).mono ?_
  rintro e' w' ⟨g, rfl, h1, h2, h3⟩
  rw [e, Int.toNat_natCast] at h2
  exact ⟨g, by rw [e, Int.toNat_natCast, List.length_replicate], h1, h2, h3⟩
/-- The four planes while they are made. -/
structure Nw (w W3 : World) (PC KC Z : Array Value) (R : Nat → Pl.R) (D : Nat → Nat) (k : Nat) (V : Nat → Value) (G : Nat → Nat) (W : World) : Prop where
  below : Below w.heap.size w W
  x0 : Blk W w.heap.size 26 PC
  x1 : Blk W (w.heap.size + 1) 28 KC
  x2 : Blk W (w.heap.size + 2) 27 Z
  bk : Blk W (w.heap.size + 3) 27 (arrP (upK R k) V)
  val : ∀ o, o < k → V o = .slice (some ⟨G o, 0, none⟩) (D o) (D o)
  rest : ∀ o, k ≤ o → V o = .slice none 0 0
  rows : ∀ o, o < k → W3.heap.size ≤ G o ∧ RowAt W (G o) (List.replicate (D o) 0)
  apart : ∀ o o', o < k → o' < k → o ≠ o' → G o ≠ G o'
  big : w.heap.size + 3 < W3.heap.size ∧ W3.heap.size ≤ W.heap.size
theorem Nw.step {w W3 W W1 : World} {PC KC Z : Array Value} {R : Nat → Pl.R} {D : Nat → Nat} {k : Nat} {V : Nat → Value} {G : Nat → Nat} (h : Nw w W3 PC KC Z R D k V G W) (hb : Below W.heap.size W W1) : Nw w W3 PC KC Z R D k V G W1 :=
  ⟨below_call h.below hb, h.x0.below hb, h.x1.below hb, h.x2.below hb, h.bk.below hb, h.val, h.rest, fun o ho => ⟨(h.rows o ho).1, (h.rows o ho).2.below hb⟩, h.apart, h.big.1, Nat.le_trans h.big.2 hb.size⟩
theorem but5k {W : World} {b : Nat} (i0 i1 i2 i3 i4 : Nat) (v0 v1 v2 v3 v4 : Value) : But b W (((((W.setCell ⟨b, i0, none⟩ v0).setCell ⟨b, i1, none⟩ v1).setCell ⟨b, i2, none⟩ v2).setCell ⟨b, i3, none⟩ v3).setCell ⟨b, i4, none⟩ v4) :=
  but_cell (but_cell (but_cell (but_cell (but_cell (But.of (Below.refl _ _)) _ _) _ _) _ _) _ _) _ _
theorem Nw.next {w W3 W : World} {PC KC Z : Array Value} {R : Nat → Pl.R} {D : Nat → Nat} {k : Nat} {V : Nat → Value} {G : Nat → Nat} (h : Nw w W3 PC KC Z R D k V G W) (hk : k < 4) (g : Nat) (hg : W3.heap.size ≤ g) (hrow : RowAt W g (List.replicate (D k) 0)) (hne : ∀ o, o < k → G o ≠ g) :
    Nw w W3 PC KC Z R D (k + 1) (fun i => if i = k then .slice (some ⟨g, 0, none⟩) (D k) (D k) else V i) (fun i => if i = k then g else G i)
      (((((W.setCell ⟨w.heap.size + 3, 5 * k, none⟩ (.int .i64 (R k).x0)).setCell ⟨w.heap.size + 3, 5 * k + 1, none⟩ (.int .i64 (R k).y0)).setCell ⟨w.heap.size + 3, 5 * k + 2, none⟩ (.int .i64 (R k).x1)).setCell ⟨w.heap.size + 3, 5 * k + 3, none⟩ (.int .i64 (R k).y1)).setCell ⟨w.heap.size + 3, 5 * k + 4, none⟩ (.slice (some ⟨g, 0, none⟩) (D k) (D k))) := by
  have hb := but5k (W := W) (b := w.heap.size + 3) (5 * k) (5 * k + 1) (5 * k + 2) (5 * k + 3) (5 * k + 4) (.int .i64 (R k).x0) (.int .i64 (R k).y0) (.int .i64 (R k).x1) (.int .i64 (R k).y1) (.slice (some ⟨g, 0, none⟩) (D k) (D k))
  have b1 := h.big
  refine ⟨But.below h.below hb (by omega), h.x0.but hb (by omega), h.x1.but hb (by omega), h.x2.but hb (by omega), blkP_data (blkP_rect R V k hk h.bk) k hk _, fun o ho => ?_, fun o ho => ?_, fun o ho => ?_, fun o o' ho ho' hn => ?_, h.big.1, Nat.le_trans h.big.2 hb.size⟩
  · by_cases e : o = k
    · subst e; simp
    · rw [if_neg e, if_neg e]; exact h.val o (by omega)
  · rw [if_neg (by omega)]; exact h.rest o (by omega)
  · by_cases e : o = k
    · subst e; rw [if_pos rfl]; exact ⟨hg, hrow.but hb (by omega)⟩
    · rw [if_neg e]
      have := h.rows o (by omega)
      exact ⟨this.1, this.2.but hb (by omega)⟩
  · show (if o = k then g else G o) ≠ if o' = k then g else G o'
    by_cases e : o = k
    · rw [if_pos e, if_neg (by omega)]; exact (hne o' (by omega)).symm
    · rw [if_neg e]
      by_cases e' : o' = k
      · rw [if_pos e']; exact hne o (by omega)
      · rw [if_neg e']; exact h.apart o o' (by omega) (by omega) hn
set_option maxHeartbeats 8000000 in
theorem splitc_yes (a b c d kn : Int) (l : List Int) (s : Option Addr) (m n h : Nat) (w : World) (hp : pvB a b c d l.length = true) (hk : kB kn = true) (hf : fewB l 35184372088832 = true) (hm : l.length ≤ m) (hH : HoldsI w s l) (hn : c - a = (n : Int)) (hh : d - b = (h : Int)) :
    Calls Try.prog 20 #[.agg #[.int .i64 a, .int .i64 b, .int .i64 c, .int .i64 d, .slice s l.length m], .int .i64 kn] w (GivesP4 (bnds ⟨a, b, c, d⟩) (fun o => (bandQ a b kn n (Ex.cutR n l h) o).flatten) 0 w) := by
  have x0 := (((Blk.fresh w 26 #[.int .i64 a, .int .i64 b, .int .i64 c, .int .i64 d, .slice s l.length m]).alloc (.cells #[.int .i64 kn] 28)).alloc (.cells #[.int .i64 0, .int .i64 0, .int .i64 0, .int .i64 0, .slice none 0 0, .int .i64 0, .int .i64 0, .int .i64 0, .int .i64 0, .slice none 0 0, .int .i64 0, .int .i64 0, .int .i64 0, .int .i64 0, .slice none 0 0, .int .i64 0, .int .i64 0, .int .i64 0, .int .i64 0, .slice none 0 0] 27)).alloc (.cells #[.int .i64 0, .int .i64 0, .int .i64 0, .int .i64 0, .slice none 0 0, .int .i64 0, .int .i64 0, .int .i64 0, .int .i64 0, .slice none 0 0, .int .i64 0, .int .i64 0, .int .i64 0, .int .i64 0, .slice none 0 0, .int .i64 0, .int .i64 0, .int .i64 0, .int .i64 0, .slice none 0 0] 27)
  have x1 := ((Blk.freshAt (w.alloc (.cells #[.int .i64 a, .int .i64 b, .int .i64 c, .int .i64 d, .slice s l.length m] 26)) (w.heap.size + 1) (by simp) 28 #[.int .i64 kn]).alloc (.cells #[.int .i64 0, .int .i64 0, .int .i64 0, .int .i64 0, .slice none 0 0, .int .i64 0, .int .i64 0, .int .i64 0, .int .i64 0, .slice none 0 0, .int .i64 0, .int .i64 0, .int .i64 0, .int .i64 0, .slice none 0 0, .int .i64 0, .int .i64 0, .int .i64 0, .int .i64 0, .slice none 0 0] 27)).alloc (.cells #[.int .i64 0, .int .i64 0, .int .i64 0, .int .i64 0, .slice none 0 0, .int .i64 0, .int .i64 0, .int .i64 0, .int .i64 0, .slice none 0 0, .int .i64 0, .int .i64 0, .int .i64 0, .int .i64 0, .slice none 0 0, .int .i64 0, .int .i64 0, .int .i64 0, .int .i64 0, .slice none 0 0] 27)
  have x2 := (Blk.freshAt ((w.alloc (.cells #[.int .i64 a, .int .i64 b, .int .i64 c, .int .i64 d, .slice s l.length m] 26)).alloc (.cells #[.int .i64 kn] 28)) (w.heap.size + 2) (by simp) 27 #[.int .i64 0, .int .i64 0, .int .i64 0, .int .i64 0, .slice none 0 0, .int .i64 0, .int .i64 0, .int .i64 0, .int .i64 0, .slice none 0 0, .int .i64 0, .int .i64 0, .int .i64 0, .int .i64 0, .slice none 0 0, .int .i64 0, .int .i64 0, .int .i64 0, .int .i64 0, .slice none 0 0]).alloc (.cells #[.int .i64 0, .int .i64 0, .int .i64 0, .int .i64 0, .slice none 0 0, .int .i64 0, .int .i64 0, .int .i64 0, .int .i64 0, .slice none 0 0, .int .i64 0, .int .i64 0, .int .i64 0, .int .i64 0, .slice none 0 0, .int .i64 0, .int .i64 0, .int .i64 0, .int .i64 0, .slice none 0 0] 27)
  have x3 := Blk.freshAt (((w.alloc (.cells #[.int .i64 a, .int .i64 b, .int .i64 c, .int .i64 d, .slice s l.length m] 26)).alloc (.cells #[.int .i64 kn] 28)).alloc (.cells #[.int .i64 0, .int .i64 0, .int .i64 0, .int .i64 0, .slice none 0 0, .int .i64 0, .int .i64 0, .int .i64 0, .int .i64 0, .slice none 0 0, .int .i64 0, .int .i64 0, .int .i64 0, .int .i64 0, .slice none 0 0, .int .i64 0, .int .i64 0, .int .i64 0, .int .i64 0, .slice none 0 0] 27)) (w.heap.size + 3) (by simp) 27 #[.int .i64 0, .int .i64 0, .int .i64 0, .int .i64 0, .slice none 0 0, .int .i64 0, .int .i64 0, .int .i64 0, .int .i64 0, .slice none 0 0, .int .i64 0, .int .i64 0, .int .i64 0, .int .i64 0, .slice none 0 0, .int .i64 0, .int .i64 0, .int .i64 0, .int .i64 0, .slice none 0 0]
  have B := below_alloc (below_alloc (below_alloc (below_alloc (Below.refl _ w) (.cells #[.int .i64 a, .int .i64 b, .int .i64 c, .int .i64 d, .slice s l.length m] 26)) (.cells #[.int .i64 kn] 28)) (.cells #[.int .i64 0, .int .i64 0, .int .i64 0, .int .i64 0, .slice none 0 0, .int .i64 0, .int .i64 0, .int .i64 0, .int .i64 0, .slice none 0 0, .int .i64 0, .int .i64 0, .int .i64 0, .int .i64 0, .slice none 0 0, .int .i64 0, .int .i64 0, .int .i64 0, .int .i64 0, .slice none 0 0] 27)) (.cells #[.int .i64 0, .int .i64 0, .int .i64 0, .int .i64 0, .slice none 0 0, .int .i64 0, .int .i64 0, .int .i64 0, .int .i64 0, .slice none 0 0, .int .i64 0, .int .i64 0, .int .i64 0, .int .i64 0, .slice none 0 0, .int .i64 0, .int .i64 0, .int .i64 0, .int .i64 0, .slice none 0 0] 27)
  have lH := (((hH.alloc (.cells #[.int .i64 a, .int .i64 b, .int .i64 c, .int .i64 d, .slice s l.length m] 26)).alloc (.cells #[.int .i64 kn] 28)).alloc (.cells #[.int .i64 0, .int .i64 0, .int .i64 0, .int .i64 0, .slice none 0 0, .int .i64 0, .int .i64 0, .int .i64 0, .int .i64 0, .slice none 0 0, .int .i64 0, .int .i64 0, .int .i64 0, .int .i64 0, .slice none 0 0, .int .i64 0, .int .i64 0, .int .i64 0, .int .i64 0, .slice none 0 0] 27)).alloc (.cells #[.int .i64 0, .int .i64 0, .int .i64 0, .int .i64 0, .slice none 0 0, .int .i64 0, .int .i64 0, .int .i64 0, .int .i64 0, .slice none 0 0, .int .i64 0, .int .i64 0, .int .i64 0, .int .i64 0, .slice none 0 0, .int .i64 0, .int .i64 0, .int .i64 0, .int .i64 0, .slice none 0 0] 27)
  obtain ⟨A, hA⟩ : ∃ A, A = arr4 (bnds ⟨a, b, c, d⟩) := ⟨_, rfl⟩
  have cB := fun W => bands_q a b c d W
  rw [← hA] at cB
  have HA : Hid _ := hA
  clear hA
  have HF : Hid _ := hf
  go_enter Try.func20, Try.ntmps20
  have y0 := x0.cell 0 _ rfl
  have y1 := x0.cell 1 _ rfl
  have y2 := x0.cell 2 _ rfl
  have y3 := x0.cell 3 _ rfl
  have y4 := x0.cell 4 _ rfl
  have yk := x1.cell 0 _ rfl
  go_wp2_with fail
  clear y0 y1 y2 y3 y4 yk
  refine (pv_c _ _ _ _ _ _ _ _).mono ?_
  rintro e wa ⟨rfl, hb⟩
  replace x0 := x0.below hb
  replace x1 := x1.below hb
  replace x2 := x2.below hb
  replace x3 := x3.below hb
  replace lH := lH.call hb
  replace B := below_call B hb
  clear hb
  have cW := within5_q a b c d 35184372088832 s m l wa hp (by decide) (by decide) lH
  rw [hf] at cW
  clear hf
  have y0 := x0.cell 0 _ rfl
  have y1 := x0.cell 1 _ rfl
  have y2 := x0.cell 2 _ rfl
  have y3 := x0.cell 3 _ rfl
  have y4 := x0.cell 4 _ rfl
  have yk := x1.cell 0 _ rfl
  go_upto_region 8 with (first | (go_at_call 76; refine (known_q _ _).mono ?_; rintro e wn ⟨rfl, rfl⟩) | (go_at_call 77; (with_reducible refine cW.mono ?_); rintro e wb ⟨rfl, hb⟩; replace x0 := x0.below hb; replace x1 := x1.below hb; replace x2 := x2.below hb; replace x3 := x3.below hb; replace lH := lH.call hb; replace B := below_call B hb; clear hb))
  clear y0 y1 y2 y3 y4 yk
  have y0 := x0.cell 0 _ rfl
  have y1 := x0.cell 1 _ rfl
  have y2 := x0.cell 2 _ rfl
  have y3 := x0.cell 3 _ rfl
  have y4 := x0.cell 4 _ rfl
  have yk := x1.cell 0 _ rfl
  go_wp2_with fail
  clear y0 y1 y2 y3 y4 yk
  refine (cB _).mono ?_
  rintro e w3 ⟨rfl, hb⟩
  replace x0 := x0.below hb
  replace x1 := x1.below hb
  replace x2 := x2.below hb
  replace x3 := x3.below hb
  replace lH := lH.call hb
  replace B := below_call B hb
  clear hb
  clear cB cW
  have hX0 : Nw w w3 #[.int .i64 a, .int .i64 b, .int .i64 c, .int .i64 d, .slice s l.length m] #[.int .i64 kn] #[.int .i64 0, .int .i64 0, .int .i64 0, .int .i64 0, .slice none 0 0, .int .i64 0, .int .i64 0, .int .i64 0, .int .i64 0, .slice none 0 0, .int .i64 0, .int .i64 0, .int .i64 0, .int .i64 0, .slice none 0 0, .int .i64 0, .int .i64 0, .int .i64 0, .int .i64 0, .slice none 0 0] (bnds ⟨a, b, c, d⟩) (fun o => htO b h o * wdO a n o) 0 (fun _ => .slice none 0 0) (fun _ => 0) w3 :=
    ⟨B, x0, x1, x2, x3, fun o ho => absurd ho (Nat.not_lt_zero _), fun _ _ => rfl, fun o ho => absurd ho (Nat.not_lt_zero _), fun o _ ho => absurd ho (Nat.not_lt_zero _), x3.lt, Nat.le_refl _⟩
  clear x0 x1 x2 x3 B
  go_upto_region 9 with fail
  go_loopw [30] (fun i wr => ∃ (k : Nat) (V : Nat → Value) (G : Nat → Nat), k ≤ 4 ∧ i = .int .i64 k ∧ Nw w w3 #[.int .i64 a, .int .i64 b, .int .i64 c, .int .i64 d, .slice s l.length m] #[.int .i64 kn] #[.int .i64 0, .int .i64 0, .int .i64 0, .int .i64 0, .slice none 0 0, .int .i64 0, .int .i64 0, .int .i64 0, .int .i64 0, .slice none 0 0, .int .i64 0, .int .i64 0, .int .i64 0, .int .i64 0, .slice none 0 0, .int .i64 0, .int .i64 0, .int .i64 0, .int .i64 0, .slice none 0 0] (bnds ⟨a, b, c, d⟩) (fun o => htO b h o * wdO a n o) k V G wr) (fun i _ => 4 - (intOf i).toNat)
  case atStart => exact ⟨0, _, _, Nat.zero_le _, rfl, hX0⟩
  case round =>
    obtain ⟨k, V, G, hk4, rfl, hX⟩ := hrel
    clear hX0
    by_cases hlt : k < 4
    · have hk5 := lt4 hlt
      clear hk4 hlt
      rcases hk5 with rfl | rfl | rfl | rfl
      · have hI : ∀ W, (Instr.index 84 (.agg A) (.int .i64 0)).run Try.prog W = .ok (.agg #[.int .i64 ((bnds ⟨a, b, c, d⟩) 0).x0, .int .i64 ((bnds ⟨a, b, c, d⟩) 0).y0, .int .i64 ((bnds ⟨a, b, c, d⟩) 0).x1, .int .i64 ((bnds ⟨a, b, c, d⟩) 0).y1]) W := fun W => by rw [HA.out]; exact idx4 (bnds ⟨a, b, c, d⟩) 0 (by decide) W
        have hXa := hX.step ((Below.refl _ _).alloc (Nat.le_refl _) (.cells #[.int .i64 ((bnds ⟨a, b, c, d⟩) 0).x0, .int .i64 ((bnds ⟨a, b, c, d⟩) 0).y0, .int .i64 ((bnds ⟨a, b, c, d⟩) 0).x1, .int .i64 ((bnds ⟨a, b, c, d⟩) 0).y1] 23))
        go_upto_region 11 with fail
        obtain ⟨W4, hW4⟩ : ∃ W4, W4 = wr.alloc (.cells #[.int .i64 ((bnds ⟨a, b, c, d⟩) 0).x0, .int .i64 ((bnds ⟨a, b, c, d⟩) 0).y0, .int .i64 ((bnds ⟨a, b, c, d⟩) 0).x1, .int .i64 ((bnds ⟨a, b, c, d⟩) 0).y1] 23) := ⟨_, rfl⟩
        have x8 : Blk W4 wr.heap.size 23 #[.int .i64 ((bnds ⟨a, b, c, d⟩) 0).x0, .int .i64 ((bnds ⟨a, b, c, d⟩) 0).y0, .int .i64 ((bnds ⟨a, b, c, d⟩) 0).x1, .int .i64 ((bnds ⟨a, b, c, d⟩) 0).y1] := hW4 ▸ Blk.fresh wr 23 #[.int .i64 ((bnds ⟨a, b, c, d⟩) 0).x0, .int .i64 ((bnds ⟨a, b, c, d⟩) 0).y0, .int .i64 ((bnds ⟨a, b, c, d⟩) 0).x1, .int .i64 ((bnds ⟨a, b, c, d⟩) 0).y1]
        rw [← hW4] at hXa
        rw [← hW4]
        clear hW4 hX
        have z0 := x8.cell 0 _ rfl
        have z1 := x8.cell 1 _ rfl
        have z2 := x8.cell 2 _ rfl
        have z3 := x8.cell 3 _ rfl
        go_wp2_with fail
        refine (new_band hp hn hh 0 _).mono ?_
        rintro e w5 ⟨g, rfl, hg, row, hb⟩
        have hX1 := hXa.step hb
        have hng : ∀ o, o < 0 → G o ≠ g := fun o ho => by
          have := (hXa.rows o ho).2.lt
          omega
        clear z0 z1 z2 z3 x8 hb
        have q0 := hX1.bk.cell 0 _ rfl
        have f0 := hX1.bk.free 0
        have q1 := hX1.bk.cell 1 _ rfl
        have f1 := hX1.bk.free 1
        have q2 := hX1.bk.cell 2 _ rfl
        have f2 := hX1.bk.free 2
        have q3 := hX1.bk.cell 3 _ rfl
        have f3 := hX1.bk.free 3
        have q4 := hX1.bk.cell 4 _ rfl
        have f4 := hX1.bk.free 4
        have hX2 := hX1.next (by decide) g (by have := hXa.big; omega) row hng
        have HX : Hid _ := hX2
        clear hXa hX1 hX2 row hng hg
        go_wp2
        go_roundw
        case rel => exact ⟨1, _, _, by decide, by go_num, HX.out⟩
        case measure => simp [intOf]
      · have hI : ∀ W, (Instr.index 84 (.agg A) (.int .i64 1)).run Try.prog W = .ok (.agg #[.int .i64 ((bnds ⟨a, b, c, d⟩) 1).x0, .int .i64 ((bnds ⟨a, b, c, d⟩) 1).y0, .int .i64 ((bnds ⟨a, b, c, d⟩) 1).x1, .int .i64 ((bnds ⟨a, b, c, d⟩) 1).y1]) W := fun W => by rw [HA.out]; exact idx4 (bnds ⟨a, b, c, d⟩) 1 (by decide) W
        have hXa := hX.step ((Below.refl _ _).alloc (Nat.le_refl _) (.cells #[.int .i64 ((bnds ⟨a, b, c, d⟩) 1).x0, .int .i64 ((bnds ⟨a, b, c, d⟩) 1).y0, .int .i64 ((bnds ⟨a, b, c, d⟩) 1).x1, .int .i64 ((bnds ⟨a, b, c, d⟩) 1).y1] 23))
        go_upto_region 11 with fail
        obtain ⟨W4, hW4⟩ : ∃ W4, W4 = wr.alloc (.cells #[.int .i64 ((bnds ⟨a, b, c, d⟩) 1).x0, .int .i64 ((bnds ⟨a, b, c, d⟩) 1).y0, .int .i64 ((bnds ⟨a, b, c, d⟩) 1).x1, .int .i64 ((bnds ⟨a, b, c, d⟩) 1).y1] 23) := ⟨_, rfl⟩
        have x8 : Blk W4 wr.heap.size 23 #[.int .i64 ((bnds ⟨a, b, c, d⟩) 1).x0, .int .i64 ((bnds ⟨a, b, c, d⟩) 1).y0, .int .i64 ((bnds ⟨a, b, c, d⟩) 1).x1, .int .i64 ((bnds ⟨a, b, c, d⟩) 1).y1] := hW4 ▸ Blk.fresh wr 23 #[.int .i64 ((bnds ⟨a, b, c, d⟩) 1).x0, .int .i64 ((bnds ⟨a, b, c, d⟩) 1).y0, .int .i64 ((bnds ⟨a, b, c, d⟩) 1).x1, .int .i64 ((bnds ⟨a, b, c, d⟩) 1).y1]
        rw [← hW4] at hXa
        rw [← hW4]
        clear hW4 hX
        have z0 := x8.cell 0 _ rfl
        have z1 := x8.cell 1 _ rfl
        have z2 := x8.cell 2 _ rfl
        have z3 := x8.cell 3 _ rfl
        go_wp2_with fail
        refine (new_band hp hn hh 1 _).mono ?_
        rintro e w5 ⟨g, rfl, hg, row, hb⟩
        have hX1 := hXa.step hb
        have hng : ∀ o, o < 1 → G o ≠ g := fun o ho => by
          have := (hXa.rows o ho).2.lt
          omega
        clear z0 z1 z2 z3 x8 hb
        have q0 := hX1.bk.cell 5 _ rfl
        have f0 := hX1.bk.free 5
        have q1 := hX1.bk.cell 6 _ rfl
        have f1 := hX1.bk.free 6
        have q2 := hX1.bk.cell 7 _ rfl
        have f2 := hX1.bk.free 7
        have q3 := hX1.bk.cell 8 _ rfl
        have f3 := hX1.bk.free 8
        have q4 := hX1.bk.cell 9 _ rfl
        have f4 := hX1.bk.free 9
        have hX2 := hX1.next (by decide) g (by have := hXa.big; omega) row hng
        have HX : Hid _ := hX2
        clear hXa hX1 hX2 row hng hg
        go_wp2
        go_roundw
        case rel => exact ⟨2, _, _, by decide, by go_num, HX.out⟩
        case measure => simp [intOf]
      · have hI : ∀ W, (Instr.index 84 (.agg A) (.int .i64 2)).run Try.prog W = .ok (.agg #[.int .i64 ((bnds ⟨a, b, c, d⟩) 2).x0, .int .i64 ((bnds ⟨a, b, c, d⟩) 2).y0, .int .i64 ((bnds ⟨a, b, c, d⟩) 2).x1, .int .i64 ((bnds ⟨a, b, c, d⟩) 2).y1]) W := fun W => by rw [HA.out]; exact idx4 (bnds ⟨a, b, c, d⟩) 2 (by decide) W
        have hXa := hX.step ((Below.refl _ _).alloc (Nat.le_refl _) (.cells #[.int .i64 ((bnds ⟨a, b, c, d⟩) 2).x0, .int .i64 ((bnds ⟨a, b, c, d⟩) 2).y0, .int .i64 ((bnds ⟨a, b, c, d⟩) 2).x1, .int .i64 ((bnds ⟨a, b, c, d⟩) 2).y1] 23))
        go_upto_region 11 with fail
        obtain ⟨W4, hW4⟩ : ∃ W4, W4 = wr.alloc (.cells #[.int .i64 ((bnds ⟨a, b, c, d⟩) 2).x0, .int .i64 ((bnds ⟨a, b, c, d⟩) 2).y0, .int .i64 ((bnds ⟨a, b, c, d⟩) 2).x1, .int .i64 ((bnds ⟨a, b, c, d⟩) 2).y1] 23) := ⟨_, rfl⟩
        have x8 : Blk W4 wr.heap.size 23 #[.int .i64 ((bnds ⟨a, b, c, d⟩) 2).x0, .int .i64 ((bnds ⟨a, b, c, d⟩) 2).y0, .int .i64 ((bnds ⟨a, b, c, d⟩) 2).x1, .int .i64 ((bnds ⟨a, b, c, d⟩) 2).y1] := hW4 ▸ Blk.fresh wr 23 #[.int .i64 ((bnds ⟨a, b, c, d⟩) 2).x0, .int .i64 ((bnds ⟨a, b, c, d⟩) 2).y0, .int .i64 ((bnds ⟨a, b, c, d⟩) 2).x1, .int .i64 ((bnds ⟨a, b, c, d⟩) 2).y1]
        rw [← hW4] at hXa
        rw [← hW4]
        clear hW4 hX
        have z0 := x8.cell 0 _ rfl
        have z1 := x8.cell 1 _ rfl
        have z2 := x8.cell 2 _ rfl
        have z3 := x8.cell 3 _ rfl
        go_wp2_with fail
        refine (new_band hp hn hh 2 _).mono ?_
        rintro e w5 ⟨g, rfl, hg, row, hb⟩
        have hX1 := hXa.step hb
        have hng : ∀ o, o < 2 → G o ≠ g := fun o ho => by
          have := (hXa.rows o ho).2.lt
          omega
        clear z0 z1 z2 z3 x8 hb
        have q0 := hX1.bk.cell 10 _ rfl
        have f0 := hX1.bk.free 10
        have q1 := hX1.bk.cell 11 _ rfl
        have f1 := hX1.bk.free 11
        have q2 := hX1.bk.cell 12 _ rfl
        have f2 := hX1.bk.free 12
        have q3 := hX1.bk.cell 13 _ rfl
        have f3 := hX1.bk.free 13
        have q4 := hX1.bk.cell 14 _ rfl
        have f4 := hX1.bk.free 14
        have hX2 := hX1.next (by decide) g (by have := hXa.big; omega) row hng
        have HX : Hid _ := hX2
        clear hXa hX1 hX2 row hng hg
        go_wp2
        go_roundw
        case rel => exact ⟨3, _, _, by decide, by go_num, HX.out⟩
        case measure => simp [intOf]
      · have hI : ∀ W, (Instr.index 84 (.agg A) (.int .i64 3)).run Try.prog W = .ok (.agg #[.int .i64 ((bnds ⟨a, b, c, d⟩) 3).x0, .int .i64 ((bnds ⟨a, b, c, d⟩) 3).y0, .int .i64 ((bnds ⟨a, b, c, d⟩) 3).x1, .int .i64 ((bnds ⟨a, b, c, d⟩) 3).y1]) W := fun W => by rw [HA.out]; exact idx4 (bnds ⟨a, b, c, d⟩) 3 (by decide) W
        have hXa := hX.step ((Below.refl _ _).alloc (Nat.le_refl _) (.cells #[.int .i64 ((bnds ⟨a, b, c, d⟩) 3).x0, .int .i64 ((bnds ⟨a, b, c, d⟩) 3).y0, .int .i64 ((bnds ⟨a, b, c, d⟩) 3).x1, .int .i64 ((bnds ⟨a, b, c, d⟩) 3).y1] 23))
        go_upto_region 11 with fail
        obtain ⟨W4, hW4⟩ : ∃ W4, W4 = wr.alloc (.cells #[.int .i64 ((bnds ⟨a, b, c, d⟩) 3).x0, .int .i64 ((bnds ⟨a, b, c, d⟩) 3).y0, .int .i64 ((bnds ⟨a, b, c, d⟩) 3).x1, .int .i64 ((bnds ⟨a, b, c, d⟩) 3).y1] 23) := ⟨_, rfl⟩
        have x8 : Blk W4 wr.heap.size 23 #[.int .i64 ((bnds ⟨a, b, c, d⟩) 3).x0, .int .i64 ((bnds ⟨a, b, c, d⟩) 3).y0, .int .i64 ((bnds ⟨a, b, c, d⟩) 3).x1, .int .i64 ((bnds ⟨a, b, c, d⟩) 3).y1] := hW4 ▸ Blk.fresh wr 23 #[.int .i64 ((bnds ⟨a, b, c, d⟩) 3).x0, .int .i64 ((bnds ⟨a, b, c, d⟩) 3).y0, .int .i64 ((bnds ⟨a, b, c, d⟩) 3).x1, .int .i64 ((bnds ⟨a, b, c, d⟩) 3).y1]
        rw [← hW4] at hXa
        rw [← hW4]
        clear hW4 hX
        have z0 := x8.cell 0 _ rfl
        have z1 := x8.cell 1 _ rfl
        have z2 := x8.cell 2 _ rfl
        have z3 := x8.cell 3 _ rfl
        go_wp2_with fail
        refine (new_band hp hn hh 3 _).mono ?_
        rintro e w5 ⟨g, rfl, hg, row, hb⟩
        have hX1 := hXa.step hb
        have hng : ∀ o, o < 3 → G o ≠ g := fun o ho => by
          have := (hXa.rows o ho).2.lt
          omega
        clear z0 z1 z2 z3 x8 hb
        have q0 := hX1.bk.cell 15 _ rfl
        have f0 := hX1.bk.free 15
        have q1 := hX1.bk.cell 16 _ rfl
        have f1 := hX1.bk.free 16
        have q2 := hX1.bk.cell 17 _ rfl
        have f2 := hX1.bk.free 17
        have q3 := hX1.bk.cell 18 _ rfl
        have f3 := hX1.bk.free 18
        have q4 := hX1.bk.cell 19 _ rfl
        have f4 := hX1.bk.free 19
        have hX2 := hX1.next (by decide) g (by have := hXa.big; omega) row hng
        have HX : Hid _ := hX2
        clear hXa hX1 hX2 row hng hg
        go_wp2
        go_roundw
        case rel => exact ⟨4, _, _, by decide, by go_num, HX.out⟩
        case measure => simp [intOf]
    · obtain rfl : k = 4 := Nat.le_antisymm hk4 (Nat.le_of_not_lt hlt)
      clear hk4 hlt
      obtain ⟨W4, rfl⟩ : ∃ W4, W4 = wr := ⟨_, rfl⟩
      have lA := hH.below hX.below (Nat.le_refl _)
      have hv := (pv_iff.1 hp).1
      have hlen : l.length = h * n := by
        have h1 : Pl.areaI a b c d = ((h * n : Nat) : Int) := by rw [Pl.areaI, if_pos hv, hn, hh, Int.mul_comm, ← Int.natCast_mul]
        have := (pv_iff.1 hp).2.2
        omega
      have cR := splitRows_q a b c d kn l s m n h W4 hp hk HF.out hm lA hn hh
      obtain ⟨P, hP⟩ : ∃ P, P = Ex.cutR n l h := ⟨_, rfl⟩
      have HP : Hid _ := hP
      rw [← hP] at cR
      have hPl : P.length = h := by rw [hP]; exact Ex.cutR_len _ _ _
      have hPw : Ex.Wide n P := hP ▸ Ex.cutR_wide hlen
      have hPf : Ex.within 35184372088832 P.flatten := by rw [hP, Ex.cutR_flat hlen]; exact few_iff.1 HF.out
      obtain ⟨hwL, hwH⟩ := rows_within (s := a) hk (show (0 : Int) ≤ 35184372088832 by decide) hPf
      have hLw := Ex.lowR_wide (s := a) (k := kn) hPw
      have hHw := Ex.highR_wide (s := a) (k := kn) hPw
      have hLl : (Ex.lowR a kn P).length = h := by rw [Ex.lowR, List.length_map, hPl]
      have hHl : (Ex.highR a kn P).length = h := by rw [Ex.highR, List.length_map, hPl]
      obtain ⟨L, hL⟩ : ∃ L, L = (Ex.lowR a kn P).flatten := ⟨_, rfl⟩
      obtain ⟨H, hHd⟩ : ∃ H, H = (Ex.highR a kn P).flatten := ⟨_, rfl⟩
      have nL : L.length = h * wdO a n 0 := by rw [hL, Ex.flat_len hLw, hLl]; rfl
      have nH : H.length = h * wdO a n 1 := by rw [hHd, Ex.flat_len hHw, hHl]; rfl
      rw [← hL, ← hHd] at cR
      have pL := half_pv hp hn hh 0 nL
      have pH := half_pv hp hn hh 1 nH
      have HC : Hid _ := (⟨hPl, hPw, hwL, hwH, hLw, hHw, hLl, hHl, hL, hHd, pL, pH⟩ : _ ∧ _ ∧ _ ∧ _ ∧ _ ∧ _ ∧ _ ∧ _ ∧ _ ∧ _ ∧ _ ∧ _)
      clear hP hlen hPl hPw hPf hwL hwH hLw hHw hLl hHl hL hHd nL nH pL pH
      have y0 := hX.x0.cell 0 _ rfl
      have y1 := hX.x0.cell 1 _ rfl
      have y2 := hX.x0.cell 2 _ rfl
      have y3 := hX.x0.cell 3 _ rfl
      have y4 := hX.x0.cell 4 _ rfl
      have yk := hX.x1.cell 0 _ rfl
      go_upto_region 15 with (first | (go_at_call 80; (with_reducible refine cR.mono ?_); rintro e w7 ⟨s1, m1, s2, m2, rfl, a1, a2, hb7, k1, k2, f1, f2⟩))
      clear y0 y1 y2 y3 y4 yk cR
      obtain ⟨W15, hW15⟩ : ∃ W15, W15 = (w7.alloc (.cells #[.int .i64 ((bnds ⟨a, b, c, d⟩) 0).x0, .int .i64 b, .int .i64 ((bnds ⟨a, b, c, d⟩) 0).x1, .int .i64 d, .slice s1 L.length m1] 26)).alloc (.cells #[.int .i64 ((bnds ⟨a, b, c, d⟩) 1).x0, .int .i64 b, .int .i64 ((bnds ⟨a, b, c, d⟩) 1).x1, .int .i64 d, .slice s2 H.length m2] 26) := ⟨_, rfl⟩
      have hX8 := ((hX.step hb7).step (below_alloc (Below.refl _ w7) (.cells #[.int .i64 ((bnds ⟨a, b, c, d⟩) 0).x0, .int .i64 b, .int .i64 ((bnds ⟨a, b, c, d⟩) 0).x1, .int .i64 d, .slice s1 L.length m1] 26))).step (below_alloc (Below.refl _ _) (.cells #[.int .i64 ((bnds ⟨a, b, c, d⟩) 1).x0, .int .i64 b, .int .i64 ((bnds ⟨a, b, c, d⟩) 1).x1, .int .i64 d, .slice s2 H.length m2] 26))
      have q10 := (QBox.fresh w7 ((bnds ⟨a, b, c, d⟩) 0).x0 b ((bnds ⟨a, b, c, d⟩) 0).x1 d s1 L.length m1 26).alloc (.cells #[.int .i64 ((bnds ⟨a, b, c, d⟩) 1).x0, .int .i64 b, .int .i64 ((bnds ⟨a, b, c, d⟩) 1).x1, .int .i64 d, .slice s2 H.length m2] 26)
      have q11 := QBox.freshAt (w7.alloc (.cells #[.int .i64 ((bnds ⟨a, b, c, d⟩) 0).x0, .int .i64 b, .int .i64 ((bnds ⟨a, b, c, d⟩) 0).x1, .int .i64 d, .slice s1 L.length m1] 26)) (w7.heap.size + 1) (by simp) ((bnds ⟨a, b, c, d⟩) 1).x0 b ((bnds ⟨a, b, c, d⟩) 1).x1 d s2 H.length m2 26
      have l1 := (a1.alloc (.cells #[.int .i64 ((bnds ⟨a, b, c, d⟩) 0).x0, .int .i64 b, .int .i64 ((bnds ⟨a, b, c, d⟩) 0).x1, .int .i64 d, .slice s1 L.length m1] 26)).alloc (.cells #[.int .i64 ((bnds ⟨a, b, c, d⟩) 1).x0, .int .i64 b, .int .i64 ((bnds ⟨a, b, c, d⟩) 1).x1, .int .i64 d, .slice s2 H.length m2] 26)
      have l2 := (a2.alloc (.cells #[.int .i64 ((bnds ⟨a, b, c, d⟩) 0).x0, .int .i64 b, .int .i64 ((bnds ⟨a, b, c, d⟩) 0).x1, .int .i64 d, .slice s1 L.length m1] 26)).alloc (.cells #[.int .i64 ((bnds ⟨a, b, c, d⟩) 1).x0, .int .i64 b, .int .i64 ((bnds ⟨a, b, c, d⟩) 1).x1, .int .i64 d, .slice s2 H.length m2] 26)
      rw [← hW15] at hX8 q10 q11 l1 l2
      rw [← hW15]
      have ge : ∀ o, o < 4 → w.heap.size + 3 < G o := fun o ho => by have := (hX8.rows o ho).1; have := hX8.big; omega
      have gf : ∀ o, o < 4 → G o < W4.heap.size := fun o ho => (hX.rows o ho).2.lt
      have hlt7 : W4.heap.size ≤ w7.heap.size := hb7.size
      clear hW15 hX hb7 a1 a2
      obtain ⟨hPl, hPw, hwL, hwH, hLw, hHw, hLl, hHl, hL, hHd, pL, pH⟩ := HC.out
      have ex2 : ((bnds ⟨a, b, c, d⟩) 2).x0 = ((bnds ⟨a, b, c, d⟩) 0).x0 ∧ ((bnds ⟨a, b, c, d⟩) 2).x1 = ((bnds ⟨a, b, c, d⟩) 0).x1 ∧ ((bnds ⟨a, b, c, d⟩) 3).x0 = ((bnds ⟨a, b, c, d⟩) 1).x0 ∧ ((bnds ⟨a, b, c, d⟩) 3).x1 = ((bnds ⟨a, b, c, d⟩) 1).x1 := by
        simp [bnds, hv, bndR, orH]
      have hcs : ∀ o, o < 4 → V o = .slice (some ⟨G o, 0, none⟩) (htO b h o * wdO a n o) (htO b h o * wdO a n o) := hX8.val
      have c02 := cl02_q ((bnds ⟨a, b, c, d⟩) 0).x0 b ((bnds ⟨a, b, c, d⟩) 0).x1 d ((bnds ⟨a, b, c, d⟩) 0).y0 ((bnds ⟨a, b, c, d⟩) 0).y1 ((bnds ⟨a, b, c, d⟩) 2).y0 ((bnds ⟨a, b, c, d⟩) 2).y1 kn (Ex.lowR a kn P) s1 m1 (wdO a n 0) h L.length (w.heap.size + 1) (w.heap.size + 3) (G 0) (G 2) (htO b h 0 * wdO a n 0) (htO b h 2 * wdO a n 2) (htO b h 0 * wdO a n 0) (htO b h 2 * wdO a n 2) (arrP (upK (bnds ⟨a, b, c, d⟩) 4) V) W15 pL (by rw [hL]) hLw hLl (bnd_size hv hn hh 0).1 hh hk (within_mono hwL (by decide)) (by rw [← hL]; exact l1) (fun p e => by have := f1 p e; have := gf 0 (by decide); have := gf 2 (by decide); omega) (hX8.x1.cell 0 _ rfl) hX8.bk (by have := ge 0 (by decide); omega) (by have := ge 2 (by decide); omega) (by have := ge 0 (by decide); omega) (by have := ge 2 (by decide); omega) (hX8.apart 0 2 (by decide) (by decide) (by decide))
        rfl rfl rfl rfl (by rw [← hcs 0 (by decide)]; rfl) (by rw [← ex2.1]; rfl) rfl (by rw [← ex2.2.1]; rfl) rfl (by rw [← hcs 2 (by decide)]; rfl) rfl rfl (hX8.rows 0 (by decide)).2 (hX8.rows 2 (by decide)).2
      clear hPl hPw hwL hwH hLw hHw hLl hHl hL hHd pL pH
      obtain ⟨y0, y1, y2, y3, y4⟩ := q10.open
      go_upto_region 16 with (first | (go_at_call 78; (with_reducible refine c02.mono ?_); rintro e w16 ⟨rfl, b16, r0, r2⟩))
      clear y0 y1 y2 y3 y4 c02
      obtain ⟨hPl, hPw, hwL, hwH, hLw, hHw, hLl, hHl, hL, hHd, pL, pH⟩ := HC.out
      have n0 := ge 0 (by decide)
      have n1 := ge 1 (by decide)
      have n2 := ge 2 (by decide)
      have n3 := ge 3 (by decide)
      have z0 := gf 0 (by decide)
      have z2 := gf 2 (by decide)
      have x1' := b16.blk hX8.x1 (by omega) (by omega)
      have x2' := b16.blk hX8.x2 (by omega) (by omega)
      have bk' := b16.blk hX8.bk (by omega) (by omega)
      have q11' : Blk w16 (w7.heap.size + 1) 26 #[] → True := fun _ => trivial
      have l2' := b16.holds l2 (fun p e => by have := f2 p e; omega)
      have r1' := b16.row (hX8.rows 1 (by decide)).2 (hX8.apart 1 0 (by decide) (by decide) (by decide)) (hX8.apart 1 2 (by decide) (by decide) (by decide))
      have r3' := b16.row (hX8.rows 3 (by decide)).2 (hX8.apart 3 0 (by decide) (by decide) (by decide)) (hX8.apart 3 2 (by decide) (by decide) (by decide))
      have B16 := But2.below hX8.below b16 (by omega) (by omega)
      have c13 := cl13_q ((bnds ⟨a, b, c, d⟩) 1).x0 b ((bnds ⟨a, b, c, d⟩) 1).x1 d ((bnds ⟨a, b, c, d⟩) 1).y0 ((bnds ⟨a, b, c, d⟩) 1).y1 ((bnds ⟨a, b, c, d⟩) 3).y0 ((bnds ⟨a, b, c, d⟩) 3).y1 kn (Ex.highR a kn P) s2 m2 (wdO a n 1) h H.length (w.heap.size + 1) (w.heap.size + 3) (G 1) (G 3) (htO b h 1 * wdO a n 1) (htO b h 3 * wdO a n 3) (htO b h 1 * wdO a n 1) (htO b h 3 * wdO a n 3) (arrP (upK (bnds ⟨a, b, c, d⟩) 4) V) w16 pH (by rw [hHd]) hHw hHl (bnd_size hv hn hh 1).1 hh hk (within_mono hwH (by decide)) (by rw [← hHd]; exact l2') (fun p e => by have := f2 p e; have := gf 1 (by decide); have := gf 3 (by decide); omega) (x1'.cell 0 _ rfl) bk' (by omega) (by omega) (by omega) (by omega) (hX8.apart 1 3 (by decide) (by decide) (by decide))
        rfl rfl rfl rfl (by rw [← hcs 1 (by decide)]; rfl) (by rw [← ex2.2.2.1]; rfl) rfl (by rw [← ex2.2.2.2]; rfl) rfl (by rw [← hcs 3 (by decide)]; rfl) rfl rfl r1' r3'
      clear hPl hPw hwL hwH hLw hHw hLl hHl hL hHd pL pH q11'
      have u11 := q11.open
      have t11 : ∀ j, w16.cell? ⟨w7.heap.size + 1, j, none⟩ = W15.cell? ⟨w7.heap.size + 1, j, none⟩ := fun j => b16.cell (p := ⟨_, j, none⟩) q11.lt (by show w7.heap.size + 1 ≠ G 0; omega) (by show w7.heap.size + 1 ≠ G 2; omega)
      have y0 := (t11 0).trans u11.1
      have y1 := (t11 1).trans u11.2.1
      have y2 := (t11 2).trans u11.2.2.1
      have y3 := (t11 3).trans u11.2.2.2.1
      have y4 := (t11 4).trans u11.2.2.2.2
      clear t11 u11
      go_upto_region 17 with (first | (go_at_call 78; (with_reducible refine c13.mono ?_); rintro e w17 ⟨rfl, b17, r1, r3⟩))
      clear y0 y1 y2 y3 y4 c13
      have m1 := gf 1 (by decide)
      have m3 := gf 3 (by decide)
      have x3' := b17.blk x2' (by omega) (by omega)
      have bk3 := b17.blk bk' (by omega) (by omega)
      have r0' := b17.row r0 (hX8.apart 0 1 (by decide) (by decide) (by decide)) (hX8.apart 0 3 (by decide) (by decide) (by decide))
      have r2' := b17.row r2 (hX8.apart 2 1 (by decide) (by decide) (by decide)) (hX8.apart 2 3 (by decide) (by decide) (by decide))
      have B17 := But2.below B16 b17 (by omega) (by omega)
      obtain ⟨hPl, hPw, hwL, hwH, hLw, hHw, hLl, hHl, hL, hHd, pL, pH⟩ := HC.out
      obtain ⟨Vf, hVf⟩ : ∃ Vf : Array Value, Vf = arrP (bnds ⟨a, b, c, d⟩) (fun o => .slice (some ⟨G o, 0, none⟩) (bandQ a b kn n P o).flatten.length (bandQ a b kn n P o).flatten.length) := ⟨_, rfl⟩
      have hVe : arrP (upK (bnds ⟨a, b, c, d⟩) 4) V = Vf := by
        rw [hVf]
        simp only [arrP, hcs 0 (by decide), hcs 1 (by decide), hcs 2 (by decide), hcs 3 (by decide), band_len (a := a) (b := b) (kn := kn) hPw hPl 0 (by decide), band_len (a := a) (b := b) (kn := kn) hPw hPl 1 (by decide), band_len (a := a) (b := b) (kn := kn) hPw hPl 2 (by decide), band_len (a := a) (b := b) (kn := kn) hPw hPl 3 (by decide)]
        rfl
      rw [hVe] at bk3
      have hV20 : (Try.prog.info? 27).map (·.size) = some Vf.size := by rw [hVf]; exact info20
      have hVz : 20 = Vf.size := by rw [hVf]; rfl
      have hVo : Vf.all (·.oneCell') = true := by rw [hVf]; simp [arrP_get, Value.oneCell']
      have HVz : Hid _ := hVz
      have HVf : Hid _ := hVf
      have HR0 : Hid (RowAt w17 (G 0) (bandQ a b kn n P 0).flatten) := r0'
      have HR1 : Hid (RowAt w17 (G 1) (bandQ a b kn n P 1).flatten) := r1
      have HR2 : Hid (RowAt w17 (G 2) (bandQ a b kn n P 2).flatten) := r2'
      have HR3 : Hid (RowAt w17 (G 3) (bandQ a b kn n P 3).flatten) := r3
      clear hVz hVf hVe hPl hPw hwL hwH hLw hHw hLl hHl hL hHd pL pH r0' r1 r2' r3 r0 r2 r1' r3' l1 l2 l2' q10 q11 x1' x2' bk' b16 b17
      go_wp2_with (first | (refine wpList_load_mid rfl 27 (.tmp 6) rfl (w.heap.size + 3) 0 rfl Vf.toList _ bk3.range Try.underlying27 rfl (by simpa using hV20) ?_) | (refine wpList_store_row rfl 27 (.tmp 4) (.tmp 55) rfl (w.heap.size + 2) Vf rfl rfl 27 _ x3' hV20 HVz.out hVo ?_))
      have hld := run_loadVar_mid (P := Try.prog) (w17.setRow (w.heap.size + 2) Vf) (w.heap.size + 2) 0 27 Vf.toList _ (Blk.range (x3'.row Vf)) Try.underlying27 rfl (by simpa using hV20)
      refine bodyPost_ret (v := .tuple #[.agg Vf, .int .i64 0]) ?_ rfl ?_
      · rw [results_cell_tmp rfl]
        simp [asAddr, Result.andThen, hld]
      · have big := hX8.big.1
        rw [HP.out] at *
        refine ⟨fun o => some ⟨G o, 0, none⟩, fun o => (bandQ a b kn n (Ex.cutR n l h) o).flatten.length, ?_, fun o ho => ⟨?_, Nat.le_refl _, fun e => (by cases e), ?_⟩, below_row B17 (by omega) _⟩
        · rw [HVf.out, HP.out]
        · have hf : Fresh w3 (some ⟨G o, 0, none⟩) := fresh_some (hX8.rows o ho).1
          refine HoldsI.rowW ?_ hf (by omega) Vf
          rcases lt4 ho with rfl | rfl | rfl | rfl
          · exact HP.out ▸ HR0.out.holds
          · exact HP.out ▸ HR1.out.holds
          · exact HP.out ▸ HR2.out.holds
          · exact HP.out ▸ HR3.out.holds
        · exact fresh_some (by have := ge o ho; omega)
end Go.Proofs.Ytoplgnckdmkaoaa
