/-
  Numbers in rows and columns by their place; setColumn of the code.
-/
import Derived.Test.YtnfnidgabgdphaaDcB
import Derived.Test.YtnfnidgabgdphaaPlnV
import Derived.Test.YtnfnidgabgdphaaPlnG
import Derived.Test.YtnfnidgabgdphaaDwC
set_option maxRecDepth 100000
namespace Go.Proofs.Ytnfnidgabgdphaa
open Go.RowKit

/-- h rows of wd numbers, by their place. -/
def tabG (wd h : Nat) (f : Nat → Nat → Int) : List Int := (List.range (h * wd)).map fun i => f (i / wd) (i % wd)
theorem tabG_len {wd h : Nat} {f : Nat → Nat → Int} : (tabG wd h f).length = h * wd := by simp [tabG]
theorem at_lt {wd h y x : Nat} (hy : y < h) (hx : x < wd) : y * wd + x < h * wd := by
  have := Nat.mul_le_mul_right wd hy
  rw [Nat.succ_mul] at this
  omega
theorem tabG_at {wd h : Nat} {f : Nat → Nat → Int} {y x : Nat} (hy : y < h) (hx : x < wd) : (tabG wd h f)[y * wd + x]'(by rw [tabG_len]; exact at_lt hy hx) = f y x := by
  have h0 : 0 < wd := by omega
  simp only [tabG, List.getElem_map, List.getElem_range]
  rw [Nat.add_comm (y * wd) x, Nat.add_mul_div_right _ _ h0, Nat.add_mul_mod_self_right, Nat.div_eq_of_lt hx, Nat.mod_eq_of_lt hx, Nat.zero_add]
theorem div_place {wd h i : Nat} (hi : i < h * wd) : ∃ y x, y < h ∧ x < wd ∧ i = y * wd + x := by
  have h0 : 0 < wd := by
    rcases Nat.eq_zero_or_pos wd with rfl | q
    · simp at hi
    · exact q
  refine ⟨i / wd, i % wd, Nat.div_lt_of_lt_mul (by rw [Nat.mul_comm]; exact hi), Nat.mod_lt _ h0, ?_⟩
  rw [Nat.mul_comm]
  exact (Nat.div_add_mod i wd).symm
theorem tabG_ext {wd h : Nat} {l m : List Int} (hl : l.length = h * wd) (hm : m.length = h * wd) (H : ∀ y x, y < h → x < wd → l[y * wd + x]? = m[y * wd + x]?) : l = m := by
  refine List.ext_getElem? fun i => ?_
  rcases Nat.lt_or_ge i (h * wd) with q | q
  · obtain ⟨y, x, hy, hx, rfl⟩ := div_place q
    exact H y x hy hx
  · rw [List.getElem?_eq_none (by omega), List.getElem?_eq_none (by omega)]
theorem tabG_get {wd h : Nat} {f : Nat → Nat → Int} {y x : Nat} (hy : y < h) (hx : x < wd) : (tabG wd h f)[y * wd + x]? = some (f y x) := by
  rw [List.getElem?_eq_getElem (by rw [tabG_len]; exact at_lt hy hx), tabG_at hy hx]
theorem tabG_congr {wd h : Nat} {f g : Nat → Nat → Int} (H : ∀ y x, y < h → x < wd → f y x = g y x) : tabG wd h f = tabG wd h g :=
  tabG_ext tabG_len tabG_len fun y x hy hx => by rw [tabG_get hy hx, tabG_get hy hx, H y x hy hx]
theorem place_inj {wd y x y' x' : Nat} (hx : x < wd) (hx' : x' < wd) (e : y * wd + x = y' * wd + x') : y = y' ∧ x = x' := by
  have h0 : 0 < wd := by omega
  have e1 : (y * wd + x) / wd = y := by rw [Nat.add_comm, Nat.add_mul_div_right _ _ h0, Nat.div_eq_of_lt hx, Nat.zero_add]
  have e2 : (y' * wd + x') / wd = y' := by rw [Nat.add_comm, Nat.add_mul_div_right _ _ h0, Nat.div_eq_of_lt hx', Nat.zero_add]
  have hy : y = y' := by rw [← e1, ← e2, e]
  subst hy
  exact ⟨rfl, by omega⟩
theorem tabG_set {wd h : Nat} {f : Nat → Nat → Int} {k j : Nat} (hk : k < h) (hj : j < wd) (v : Int) : (tabG wd h f).set (k * wd + j) v = tabG wd h fun y x => if y = k ∧ x = j then v else f y x := by
  refine tabG_ext (by rw [List.length_set, tabG_len]) tabG_len fun y x hy hx => ?_
  rw [tabG_get hy hx, List.getElem?_set]
  by_cases e : k * wd + j = y * wd + x
  · obtain ⟨rfl, rfl⟩ := place_inj hj hx e
    rw [if_pos rfl, if_pos (by rw [tabG_len]; exact at_lt hk hj), if_pos ⟨rfl, rfl⟩]
  · rw [if_neg e, tabG_get hy hx, if_neg (fun q => e (by rw [q.1, q.2]))]
theorem flat_tab {n : Nat} {Q : List (List Int)} (h : Ex.Wide n Q) : Q.flatten = tabG n Q.length fun y x => (Q.getD y []).getD x 0 := by
  refine tabG_ext (Ex.flat_len h) tabG_len fun y x hy hx => ?_
  rw [tabG_get hy hx, Ex.flat_get h hy hx]
  simp [hy]
theorem rep_tab (wd h : Nat) : List.replicate (h * wd) (0 : Int) = tabG wd h fun _ _ => 0 := by
  refine tabG_ext (by simp) tabG_len fun y x hy hx => ?_
  rw [tabG_get hy hx, List.getElem?_replicate, if_pos (at_lt hy hx)]
/-- A column laid into numbers, its first k of them. -/
def inCol (f : Nat → Nat → Int) (j k : Nat) (col : List Int) (y x : Nat) : Int := if x = j ∧ y < k then col.getD y 0 else f y x

theorem but_cell {g : Nat} {w W : World} (h : But g w W) (o : Nat) (v : Value) : But g w (W.setCell ⟨g, o, none⟩ v) :=
  ⟨h.os, h.tape, h.output, by rw [World.size_setCell]; exact h.size, fun k hk hn => (Below.heap_setCell _ _ _ _ hn).trans (h.block k hk hn)⟩
theorem sc_facts {k wd j : Nat} {x a : Int} (hk : k ≤ 4096) (w4 : wd ≤ 4096) (hj : j < wd) (hx : x - a = (j : Int)) (a0 : 0 ≤ a) (a1 : a ≤ 4096) :
    ∃ (p q : Nat) (t : Int), (k * wd = p ∧ p + j = q) ∧ IntKind.i64.wrap ((k : Int) * (wd : Int)) = (p : Int) ∧ wrap64 ((k : Int) * (wd : Int)) = (p : Int) ∧ IntKind.i64.wrap ((p : Int) + x) = t ∧ IntKind.i64.wrap (t - a) = (q : Int) := by
  obtain ⟨p, hp⟩ : ∃ p : Nat, k * wd = p := ⟨_, rfl⟩
  have hpl : p ≤ 16777216 := by rw [← hp]; exact mul_4096 hk w4
  have u0 : (k : Int) * (wd : Int) = (p : Int) := by rw [← hp]; simp
  clear hk
  refine ⟨p, p + j, (p : Int) + x, ⟨hp, rfl⟩, ?_, ?_, ?_, ?_⟩
  · rw [u0]; exact IntWalk.i64_in _ (by omega)
  · rw [u0]; exact IntWalk.wrap64_in _ ⟨by omega, by omega⟩
  · clear hp u0; exact IntWalk.i64_in _ (by omega)
  · clear hp u0
    have e : (p : Int) + x - a = ((p + j : Nat) : Int) := by omega
    rw [e]
    exact IntWalk.i64_in _ (by omega)
/-- What setColumn knows at each place. -/
structure Sc (g : Nat) (r : Pl.R) (v : Value) (w W : World) : Prop where
  but : But g w W
  p : QBox W w.heap.size r v
  glt : g < w.heap.size
set_option maxRecDepth 100000 in
set_option maxHeartbeats 4000000 in
theorem setc_q (a b c d x : Int) (g N m wd h j : Nat) (f : Nat → Nat → Int) (col : List Int) (s : Option Addr) (mc : Nat) (w : World) (hwd : c - a = (wd : Int)) (hN : N = h * wd) (hx : x - a = (j : Int)) (hj : j < wd) (hcol : col.length = h) (h4 : h ≤ 4096) (w4 : wd ≤ 4096)
    (a0 : 0 ≤ a) (a1 : a ≤ 4096) (hR : RowAt w g (tabG wd h f)) (hC : HoldsI w s col) (hs : ∀ p, s = some p → p.block ≠ g) :
    Calls Try.prog 70 #[.agg #[.int .i64 a, .int .i64 b, .int .i64 c, .int .i64 d, .slice (some ⟨g, 0, none⟩) N m], .int .i64 x, .slice s col.length mc] w fun e w' => e = .returned (.tuple #[]) ∧ But g w w' ∧ RowAt w' g (tabG wd h (inCol f j h col)) := by
  have ww : IntKind.i64.wrap (c - a) = (wd : Int) := by rw [IntWalk.i64_in _ (by omega)]; exact hwd
  have glt := hR.lt
  have HN : Hid _ := hN
  clear hN
  have s0 : Sc g ⟨a, b, c, d⟩ (.slice (some ⟨g, 0, none⟩) N m) w (w.alloc (.cells #[.int .i64 a, .int .i64 b, .int .i64 c, .int .i64 d, .slice (some ⟨g, 0, none⟩) N m] 30)) := ⟨But.of ((Below.refl _ _).alloc (Nat.le_refl _) _), QBox.fresh w a b c d _ N m _, glt⟩
  have r0 : RowAt (w.alloc (.cells #[.int .i64 a, .int .i64 b, .int .i64 c, .int .i64 d, .slice (some ⟨g, 0, none⟩) N m] 30)) g (tabG wd h (inCol f j 0 col)) := by
    have e : tabG wd h (inCol f j 0 col) = tabG wd h f := tabG_congr fun y x _ _ => by simp [inCol]
    rw [e]
    exact hR.alloc _
  go_enter Try.func70, Try.ntmps70
  obtain ⟨c0, c1, c2, c3, c4⟩ := s0.p.open
  go_wp2_with fail
  clear c0 c1 c2 c3 c4
  go_loopw [18] (fun i wr => ∃ k : Nat, k ≤ h ∧ i = .int .i64 k ∧ Sc g ⟨a, b, c, d⟩ (.slice (some ⟨g, 0, none⟩) N m) w wr ∧ RowAt wr g (tabG wd h (inCol f j k col))) (fun i _ => h - (intOf i).toNat)
  case atStart => exact ⟨0, Nat.zero_le _, rfl, s0, r0⟩
  case round =>
    obtain ⟨k, hk, rfl, hS, hRk⟩ := hrel
    clear s0 r0
    by_cases hlt : k < h
    · have hki : (k : Int) < (h : Int) := by omega
      have hkc : k < col.length := by omega
      rcases hC with rfl | ⟨bb, off, rfl, hr⟩
      · simp at hkc
      have y0 := hr k hkc
      have hbl := cell_lt y0
      have y1 : wr.cell? ⟨bb, off + k, none⟩ = some (.int .i64 col[k]) := (hS.but.cell (p := ⟨bb, off + k, none⟩) hbl (hs ⟨bb, off, none⟩ rfl)).trans y0
      obtain ⟨p, q, t, ⟨hp, hq⟩, uu⟩ := sc_facts (k := k) (by omega) w4 hj hx a0 a1
      have HU : Hid _ := uu
      clear uu
      have HU4 : Hid (IntKind.i64.wrap ((k : Int) + 1) = (k : Int) + 1) := IntWalk.i64_in _ (by omega)
      have hk1 : k + 1 ≤ h := hlt
      have hlt2 : q < N := by rw [HN.out, ← hq, ← hp]; exact at_lt hlt hj
      have hlt3 : (q : Int) < (N : Int) := Int.ofNat_lt.2 hlt2
      have hT : RowAt (wr.setCell ⟨g, q, none⟩ (.int .i64 col[k])) g (tabG wd h (inCol f j (k + 1) col)) := by
        have e : tabG wd h (inCol f j (k + 1) col) = (tabG wd h (inCol f j k col)).set q col[k] := by
          rw [← hq, ← hp, tabG_set hlt hj]
          refine tabG_congr fun y x hy hx => ?_
          unfold inCol
          by_cases e1 : y = k ∧ x = j
          · obtain ⟨rfl, rfl⟩ := e1
            simp [hkc]
          · rw [if_neg e1]
            by_cases e2 : x = j ∧ y < k
            · rw [if_pos e2, if_pos ⟨e2.1, by omega⟩]
            · rw [if_neg e2, if_neg (fun q => by omega)]
        rw [e]
        exact hRk.set _ _
      have hS2 : Sc g ⟨a, b, c, d⟩ (.slice (some ⟨g, 0, none⟩) N m) w (wr.setCell ⟨g, q, none⟩ (.int .i64 col[k])) := ⟨but_cell hS.but _ _, hS.p.far _ _ (by have := hS.glt; simp; omega), hS.glt⟩
      have hcell : ∃ v, wr.cell? ⟨g, q, none⟩ = some v := ⟨_, hRk.at (k := q) (by rw [tabG_len, ← HN.out]; exact hlt2)⟩
      obtain ⟨v0, hv0⟩ := hcell
      have hfr := hRk.free q
      obtain ⟨c0, c1, c2, c3, c4⟩ := hS.p.open
      have HT : Hid _ := hT
      have HS : Hid _ := hS2
      clear hT hS2 hS hRk y0 hp hq hlt2
      generalize col[k] = V at *
      clear hx hwd hcol hj h4 w4 a0 a1 hR hr hs hbl hkc
      obtain ⟨u1, u1', u2, u3⟩ := HU.out
      have u4 := HU4.out
      go_wp2
      clear u1 u1' u2 u3
      go_roundw
      case rel => exact ⟨k + 1, hk1, by go_num, HS.out, HT.out⟩
      case measure => simp [intOf]; omega
    · obtain rfl : k = h := by omega
      have HS : Hid _ := hS.but
      have HR : Hid _ := hRk
      clear hS hRk
      go_wp2
      go_end0
      exact ⟨rfl, HS.out, HR.out⟩
end Go.Proofs.Ytnfnidgabgdphaa
