/-
  Columns: the function literal of Split, which transforms the columns of a half into two planes.
-/
import Derived.Test.YtnfnidgabgdphaaDcD
import Derived.Test.YtnfnidgabgdphaaDwI
set_option maxRecDepth 100000
namespace Go.Proofs.Ytnfnidgabgdphaa
open Go.RowKit

/-! Two blocks change, all others stay -/
structure But2 (g1 g2 : Nat) (w w' : World) : Prop where
  os : w'.os = w.os
  tape : w'.tape = w.tape
  output : w'.output = w.output
  size : w.heap.size ≤ w'.heap.size
  block : ∀ k, k < w.heap.size → k ≠ g1 → k ≠ g2 → w'.heap[k]? = w.heap[k]?
theorem But2.of {g1 g2 : Nat} {w w1 : World} (h : Below w.heap.size w w1) : But2 g1 g2 w w1 := ⟨h.os, h.tape, h.output, h.size, fun k hk _ _ => h.block k hk⟩
theorem But2.step {g1 g2 : Nat} {w w1 w2 : World} (h : But2 g1 g2 w w1) (hb : Below w1.heap.size w1 w2) : But2 g1 g2 w w2 :=
  ⟨hb.os.trans h.os, hb.tape.trans h.tape, hb.output.trans h.output, Nat.le_trans h.size hb.size, fun k hk a b => (hb.block k (Nat.lt_of_lt_of_le hk h.size)).trans (h.block k hk a b)⟩
theorem But2.one {g1 g2 : Nat} {w w1 w2 : World} (h : But2 g1 g2 w w1) (hb : But g1 w1 w2) : But2 g1 g2 w w2 :=
  ⟨hb.os.trans h.os, hb.tape.trans h.tape, hb.output.trans h.output, Nat.le_trans h.size hb.size, fun k hk a b => (hb.block k (Nat.lt_of_lt_of_le hk h.size) a).trans (h.block k hk a b)⟩
theorem But2.two {g1 g2 : Nat} {w w1 w2 : World} (h : But2 g1 g2 w w1) (hb : But g2 w1 w2) : But2 g1 g2 w w2 :=
  ⟨hb.os.trans h.os, hb.tape.trans h.tape, hb.output.trans h.output, Nat.le_trans h.size hb.size, fun k hk a b => (hb.block k (Nat.lt_of_lt_of_le hk h.size) b).trans (h.block k hk a b)⟩
theorem But2.below {g1 g2 : Nat} {w w1 w2 : World} (h : Below w.heap.size w w1) (h2 : But2 g1 g2 w1 w2) (hg1 : w.heap.size ≤ g1) (hg2 : w.heap.size ≤ g2) : Below w.heap.size w w2 :=
  ⟨h2.os.trans h.os, h2.tape.trans h.tape, h2.output.trans h.output, Nat.le_trans h.size h2.size, fun k hk => (h2.block k (Nat.lt_of_lt_of_le hk h.size) (by omega) (by omega)).trans (h.block k hk)⟩
theorem But2.cell {g1 g2 : Nat} {w w1 : World} (h : But2 g1 g2 w w1) {p : Addr} (hp : p.block < w.heap.size) (h1 : p.block ≠ g1) (h2 : p.block ≠ g2) : w1.cell? p = w.cell? p := World.cell?_of_block (h.block _ hp h1 h2)
theorem But2.holds {g1 g2 : Nat} {w w1 : World} {a : Option Addr} {l : List Int} (h : But2 g1 g2 w w1) (hH : HoldsI w a l) (hn : ∀ p, a = some p → p.block ≠ g1 ∧ p.block ≠ g2) : HoldsI w1 a l := by
  rcases hH with rfl | ⟨b, off, rfl, hr⟩
  · exact .inl rfl
  · exact .inr ⟨b, off, rfl, fun k hk => (h.cell (p := ⟨b, off + k, none⟩) (cell_lt (hr k hk)) (hn ⟨b, off, none⟩ rfl).1 (hn ⟨b, off, none⟩ rfl).2).trans (hr k hk)⟩
theorem But2.blk {g1 g2 B : Nat} {T : TypeId} {cs : Array Value} {w w1 : World} (h : But2 g1 g2 w w1) (hB : Blk w B T cs) (h1 : B ≠ g1) (h2 : B ≠ g2) : Blk w1 B T cs := (h.block B hB.lt h1 h2).trans hB
theorem But2.row {g1 g2 g : Nat} {l : List Int} {w w1 : World} (h : But2 g1 g2 w w1) (hB : RowAt w g l) (h1 : g ≠ g1) (h2 : g ≠ g2) : RowAt w1 g l := (h.block g hB.lt h1 h2).trans hB
theorem RowAt.but {g g' : Nat} {l : List Int} {w w1 : World} (h : RowAt w g l) (hb : But g' w w1) (hn : g ≠ g') : RowAt w1 g l := (hb.block g h.lt hn).trans h
theorem Blk.but {g' B : Nat} {T : TypeId} {cs : Array Value} {w w1 : World} (h : Blk w B T cs) (hb : But g' w w1) (hn : B ≠ g') : Blk w1 B T cs := (hb.block B h.lt hn).trans h

/-! The columns of a plane in rows -/
theorem low_tab (b kn : Int) (n : Nat) (Q : List (List Int)) : (Ex.lowC b kn n Q).flatten = tabG n (Ex.cntE b Q.length) fun y x => ((Ex.lowR b kn (Ex.trn n Q)).getD x []).getD y 0 := by
  rw [flat_tab (Ex.lowC_wide b kn n Q), Ex.lowC_len]
  refine tabG_congr fun y x hy hx => ?_
  have hl : x < (Ex.lowR b kn (Ex.trn n Q)).length := by rw [Ex.lowR, List.length_map, Ex.trn_len]; exact hx
  rw [Ex.lowC]
  generalize Ex.lowR b kn (Ex.trn n Q) = M at *
  simp [Ex.trn, hy, hl]
theorem high_tab (b kn : Int) (n : Nat) (Q : List (List Int)) : (Ex.highC b kn n Q).flatten = tabG n (Ex.cntO b Q.length) fun y x => ((Ex.highR b kn (Ex.trn n Q)).getD x []).getD y 0 := by
  rw [flat_tab (Ex.highC_wide b kn n Q), Ex.highC_len]
  refine tabG_congr fun y x hy hx => ?_
  have hl : x < (Ex.highR b kn (Ex.trn n Q)).length := by rw [Ex.highR, List.length_map, Ex.trn_len]; exact hx
  rw [Ex.highC]
  generalize Ex.highR b kn (Ex.trn n Q) = M at *
  simp [Ex.trn, hy, hl]
theorem col_is {a b c d : Int} {n h k : Nat} {Q : List (List Int)} (hW : Ex.Wide n Q) (hQ : Q.length = h) (hn : c - a = (n : Int)) (hh : d - b = (h : Int)) (hk : k < n) : colL ⟨a, b, c, d⟩ Q.flatten (a + (k : Int)) = colA Q k := by
  refine List.ext_getElem (by rw [colL_len, colA, List.length_map]; show (d - b).toNat = _; omega) fun i h1 h2 => ?_
  have hi : i < Q.length := by simpa [colA] using h2
  simp only [colL, List.getElem_map, List.getElem_range, gv]
  have e : (idx a b c (a + (k : Int)) (b + (i : Int))).toNat = i * n + k := by
    unfold idx
    rw [hn, show b + (i : Int) - b = (i : Int) by omega, show a + (k : Int) - a = (k : Int) by omega, ← Int.natCast_mul, ← Int.natCast_add, Int.toNat_natCast]
  rw [e, List.getD_eq_getElem?_getD, Ex.flat_get hW hi hk]
  simp [colA]
/-- Columns that are done, the others 0. -/
def doneC (M : List (List Int)) (k y x : Nat) : Int := if x < k then (M.getD x []).getD y 0 else 0
theorem done_next (M : List (List Int)) (k : Nat) (n h : Nat) (c : List Int) (hk : M.getD k [] = c) : tabG n h (inCol (doneC M k) k h c) = tabG n h (doneC M (k + 1)) := by
  refine tabG_congr fun y x hy hx => ?_
  unfold inCol doneC
  by_cases e : x = k
  · subst e
    rw [if_pos ⟨rfl, hy⟩, if_pos (Nat.lt_succ_self _), hk]
  · rw [if_neg (fun q => e q.1)]
    by_cases e2 : x < k
    · rw [if_pos e2, if_pos (by omega)]
    · rw [if_neg e2, if_neg (by omega)]
theorem done_zero (M : List (List Int)) (n h : Nat) : tabG n h (doneC M 0) = List.replicate (h * n) 0 := by
  rw [rep_tab]
  exact tabG_congr fun y x _ _ => by simp [doneC]
theorem done_all (M : List (List Int)) (n h : Nat) : tabG n h (doneC M n) = tabG n h fun y x => (M.getD x []).getD y 0 := tabG_congr fun y x _ hx => by simp [doneC, hx]
theorem lowR_at {b kn : Int} {n k : Nat} {Q : List (List Int)} (hk : k < n) : (Ex.lowR b kn (Ex.trn n Q)).getD k [] = Ex.loF b kn (colA Q k) := by
  simp [Ex.lowR, Ex.trn, hk, colA]
theorem highR_at {b kn : Int} {n k : Nat} {Q : List (List Int)} (hk : k < n) : (Ex.highR b kn (Ex.trn n Q)).getD k [] = Ex.hiF b kn (colA Q k) := by
  simp [Ex.highR, Ex.trn, hk, colA]

/-- What the columns' loop knows at each place. -/
structure Cl (g1 g2 n hl hh : Nat) (M1 M2 : List (List Int)) (k : Nat) (r : Pl.R) (v : Value) (w W : World) : Prop where
  but : But2 g1 g2 w W
  p : QBox W w.heap.size r v
  row1 : RowAt W g1 (tabG n hl (doneC M1 k))
  row2 : RowAt W g2 (tabG n hh (doneC M2 k))
theorem Cl.step {g1 g2 n hl hh : Nat} {M1 M2 : List (List Int)} {k : Nat} {r : Pl.R} {v : Value} {w W W1 : World} (h : Cl g1 g2 n hl hh M1 M2 k r v w W) (hb : Below W.heap.size W W1) : Cl g1 g2 n hl hh M1 M2 k r v w W1 :=
  ⟨h.but.step hb, h.p.below hb, h.row1.below hb, h.row2.below hb⟩
set_option maxHeartbeats 8000000 in
theorem cl02_q (a b c d yb0 yd0 yb2 yd2 kn : Int) (Q : List (List Int)) (s : Option Addr) (m n h N Bk Bb g0 g2 N0 N2 m0 m2 : Nat) (cs : Array Value) (w : World) (hp : pvB a b c d N = true) (hN : N = Q.flatten.length) (hW : Ex.Wide n Q) (hQ : Q.length = h) (hn : c - a = (n : Int)) (hh : d - b = (h : Int)) (hk : kB kn = true)
    (hw : Ex.within 281474976710656 Q.flatten) (hH : HoldsI w s Q.flatten) (hs : ∀ p, s = some p → p.block ≠ g0 ∧ p.block ≠ g2) (hbk : w.cell? ⟨Bk, 0, none⟩ = some (.int .i64 kn)) (hbb : Blk w Bb 33 cs) (k1 : Bk ≠ g0) (k2 : Bk ≠ g2) (kb1 : Bb ≠ g0) (kb2 : Bb ≠ g2) (gg : g0 ≠ g2)
    (A00 : cs[0]? = some (.int .i64 a)) (A01 : cs[1]? = some (.int .i64 yb0)) (A02 : cs[2]? = some (.int .i64 c)) (A03 : cs[3]? = some (.int .i64 yd0)) (A04 : cs[4]? = some (.slice (some ⟨g0, 0, none⟩) N0 m0)) (A20 : cs[10]? = some (.int .i64 a)) (A21 : cs[11]? = some (.int .i64 yb2)) (A22 : cs[12]? = some (.int .i64 c)) (A23 : cs[13]? = some (.int .i64 yd2)) (A24 : cs[14]? = some (.slice (some ⟨g2, 0, none⟩) N2 m2)) (n0 : N0 = Ex.cntE b h * n) (n2 : N2 = Ex.cntO b h * n)
    (r1 : RowAt w g0 (List.replicate (Ex.cntE b h * n) 0)) (r2 : RowAt w g2 (List.replicate (Ex.cntO b h * n) 0)) :
    Calls Try.prog 67 #[.agg #[.int .i64 a, .int .i64 b, .int .i64 c, .int .i64 d, .slice s N m], .int .i64 0, .int .i64 2, .pointer (some ⟨Bk, 0, none⟩), .pointer (some ⟨Bb, 0, none⟩)] w
      fun e w' => e = .returned (.tuple #[]) ∧ But2 g0 g2 w w' ∧ RowAt w' g0 (Ex.lowC b kn n Q).flatten ∧ RowAt w' g2 (Ex.highC b kn n Q).flatten := by
  obtain ⟨n', h', e1, e2, n4, h4, e3, a0, a1, b0, bb1, c0, c1, d0, d1, hv⟩ := pv_facts hp
  obtain rfl : n' = n := by omega
  obtain rfl : h' = h := by omega
  clear e1 e2 e3
  have HN : Hid _ := hN
  have Hp : Hid _ := hp
  have Hn1 : Hid _ := n0
  have Hn2 : Hid _ := n2
  have HQ : Hid _ := hQ
  obtain ⟨M1, hM1⟩ : ∃ M1, M1 = Ex.lowR b kn (Ex.trn n' Q) := ⟨_, rfl⟩
  obtain ⟨M2, hM2⟩ : ∃ M2, M2 = Ex.highR b kn (Ex.trn n' Q) := ⟨_, rfl⟩
  have HM1 : Hid _ := hM1
  have HM2 : Hid _ := hM2
  obtain ⟨hl, hhl⟩ : ∃ hl, hl = Ex.cntE b h' := ⟨_, rfl⟩
  obtain ⟨hi, hhi⟩ : ∃ hi, hi = Ex.cntO b h' := ⟨_, rfl⟩
  have hle := Ex.cnt_le (s := b) (n := h')
  have hl4 : hl ≤ 4096 := by rw [hhl]; exact Nat.le_trans hle.1 h4
  have hi4 : hi ≤ 4096 := by rw [hhi]; exact Nat.le_trans hle.2 h4
  rw [← hhl] at r1 Hn1
  rw [← hhi] at r2 Hn2
  have Hhl : Hid _ := hhl
  have Hhi : Hid _ := hhi
  clear hN hp n0 n2 hQ hM1 hM2 hle hhl hhi
  have X0 : Cl g0 g2 n' hl hi M1 M2 0 ⟨a, b, c, d⟩ (.slice s N m) w (w.alloc (.cells #[.int .i64 a, .int .i64 b, .int .i64 c, .int .i64 d, .slice s N m] 30)) :=
    ⟨But2.of ((Below.refl _ _).alloc (Nat.le_refl _) _), QBox.fresh w a b c d s N m _, by rw [done_zero]; exact r1.alloc _, by rw [done_zero]; exact r2.alloc _⟩
  have hgl1 := r1.lt
  have hgl2 := r2.lt
  clear r1 r2
  go_enter Try.func67, Try.ntmps67
  obtain ⟨y0, y1, y2, y3, y4⟩ := X0.p.open
  go_upto_region 2 with fail
  clear y0 y1 y2 y3 y4
  go_loopw [8] (fun v8 wr => ∃ k : Nat, k ≤ n' ∧ v8 = .int .i64 (a + (k : Int)) ∧ Cl g0 g2 n' hl hi M1 M2 k ⟨a, b, c, d⟩ (.slice s N m) w wr) (fun v8 _ => (c - intOf v8).toNat)
  case atStart => exact ⟨0, Nat.zero_le _, by simp, X0⟩
  case round =>
    obtain ⟨k, hkn, rfl, hX⟩ := hrel
    clear X0
    by_cases hlt : k < n'
    · have hyi : a + (k : Int) < c := by omega
      have hcol : colL ⟨a, b, c, d⟩ Q.flatten (a + (k : Int)) = colA Q k := col_is hW HQ.out hn hh hlt
      have hcw : Ex.within 281474976710656 (colA Q k) := col_within hW hlt hw
      have hcl : (colA Q k).length = h' := by rw [colA, List.length_map]; exact HQ.out
      have cC := fun W (q : HoldsI W s Q.flatten) => col_own a b c d (a + (k : Int)) s m Q.flatten W (by rw [← HN.out]; exact Hp.out) (by omega) hyi q
      rw [hcol, ← HN.out] at cC
      have hE : M1.getD k [] = Ex.loF b kn (colA Q k) := by rw [HM1.out]; exact lowR_at hlt
      have hO : M2.getD k [] = Ex.hiF b kn (colA Q k) := by rw [HM2.out]; exact highR_at hlt
      have t1 : (Ex.loF b kn (colA Q k)).length = hl := by rw [Ex.loF_len, hcl]; exact Hhl.out.symm
      have t2 : (Ex.hiF b kn (colA Q k)).length = hi := by rw [Ex.hiF_len, hcl]; exact Hhi.out.symm
      have cF := fun W g (q : HoldsI W (some ⟨g, 0, none⟩) (colA Q k)) => fwd_q (colA Q k) b kn (some ⟨g, 0, none⟩) (colA Q k).length (colA Q k).length W hk (fw_iff.2 ⟨⟨b0, bb1, by omega⟩, hcw⟩) (fun e => by cases e) q rfl
      have hwY : IntKind.i64.wrap (a + (k : Int) + 1) = a + (k : Int) + 1 := IntWalk.i64_in _ (by omega)
      have HWY : Hid _ := hwY
      have HE : Hid _ := hE
      have HO : Hid _ := hO
      have HT1 : Hid _ := t1
      have HT2 : Hid _ := t2
      clear hcol hcw hwY hE hO t1 t2 hcl
      generalize colA Q k = col at *
      obtain ⟨y0, y1, y2, y3, y4⟩ := hX.p.open
      go_upto_region 4 with fail
      go_upto_region 5 with (first | (go_at_call 68; (with_reducible refine (cC _ (hX.but.holds hH hs)).mono ?_); rintro e w3 ⟨gc, rfl, hgc, row3, hb3⟩))
      have hX3 := hX.step hb3
      have cF3 := cF w3 gc row3.holds
      have hk3 : w3.cell? ⟨Bk, 0, none⟩ = some (.int .i64 kn) := (hX3.but.cell (p := ⟨Bk, 0, none⟩) (cell_lt hbk) k1 k2).trans hbk
      have hz3 := hX3.but.size
      clear y0 y1 y2 y3 y4 cC cF hX hb3 row3 hgc
      obtain ⟨y0, y1, y2, y3, y4⟩ := hX3.p.open
      go_upto_region 6 with (first | (go_at_call 69; (with_reducible refine cF3.mono ?_); rintro e w4 ⟨s1, mm1, s2, mm2, rfl, a1', a2', hb4, ⟨_, _, f1⟩, ⟨_, _, f2⟩⟩))
      have hX4 := hX3.step hb4
      clear y0 y1 y2 y3 y4 cF3 hX3 hk3 hb4
      have hbk := hX4.but.blk hbb kb1 kb2
      have u00 := hbk.cell 0 _ A00
      have u01 := hbk.cell 1 _ A01
      have u02 := hbk.cell 2 _ A02
      have u03 := hbk.cell 3 _ A03
      have u04 := hbk.cell 4 _ A04
      have cS := setc_q a yb0 c yd0 (a + (k : Int)) g0 N0 m0 n' hl k (doneC M1 k) (Ex.loF b kn col) s1 mm1 w4 hn Hn1.out (by omega) hlt HT1.out hl4 n4 a0 a1 hX4.row1 a1' (fun p e => by have := f1 p e; omega)
      go_upto_region 7 with (first | (go_at_call 70; (with_reducible refine cS.mono ?_); rintro e w5 ⟨rfl, hb5, row5⟩))
      rw [done_next M1 k n' hl _ HE.out] at row5
      have hX5 : But2 g0 g2 w w5 := hX4.but.one hb5
      have p5 := hX4.p.but hb5 (by omega)
      have row52 := hX4.row2.but hb5 gg.symm
      have a5 := a2'.but hb5 (fun p e => by have := f2 p e; omega)
      clear u00 u01 u02 u03 u04 hbk cS hX4 a1' a2' hb5
      have hbk := hX5.blk hbb kb1 kb2
      have u20 := hbk.cell 10 _ A20
      have u21 := hbk.cell 11 _ A21
      have u22 := hbk.cell 12 _ A22
      have u23 := hbk.cell 13 _ A23
      have u24 := hbk.cell 14 _ A24
      have cS := setc_q a yb2 c yd2 (a + (k : Int)) g2 N2 m2 n' hi k (doneC M2 k) (Ex.hiF b kn col) s2 mm2 w5 hn Hn2.out (by omega) hlt HT2.out hi4 n4 a0 a1 row52 a5 (fun p e => by have := f2 p e; omega)
      go_upto_region 3 with (first | (go_at_call 70; (with_reducible refine cS.mono ?_); rintro e w6 ⟨rfl, hb6, row6⟩))
      rw [done_next M2 k n' hi _ HO.out] at row6
      have hX6 : Cl g0 g2 n' hl hi M1 M2 (k + 1) ⟨a, b, c, d⟩ (.slice s N m) w w6 := ⟨hX5.two hb6, p5.but hb6 (by omega), row5.but hb6 gg, row6⟩
      have HX : Hid _ := hX6
      have hwY := HWY.out
      clear u20 u21 u22 u23 u24 hbk cS hX5 p5 row5 row52 a5 hb6 row6 hX6
      go_wp2
      clear hwY
      go_roundw
      case rel => exact ⟨k + 1, hlt, by simp; omega, HX.out⟩
      case measure => simp [intOf]; omega
    · obtain rfl : k = n' := Nat.le_antisymm hkn (Nat.le_of_not_lt hlt)
      have hyd : ¬ a + (k : Int) < c := by omega
      have hX' := hX
      obtain ⟨hB, hP, q1, q2⟩ := hX'
      rw [done_all, HM1.out, Hhl.out, ← HQ.out, ← low_tab] at q1
      rw [done_all, HM2.out, Hhi.out, ← HQ.out, ← high_tab] at q2
      have HR1 : Hid _ := q1
      have HR2 : Hid _ := q2
      have HB : Hid _ := hB
      obtain ⟨y0, y1, y2, y3, y4⟩ := hP.open
      clear hX q1 q2 hB hP
      go_wp2
      go_end0
      exact ⟨rfl, HB.out, HR1.out, HR2.out⟩
set_option maxHeartbeats 8000000 in
theorem cl13_q (a b c d yb1 yd1 yb3 yd3 kn : Int) (Q : List (List Int)) (s : Option Addr) (m n h N Bk Bb g1 g3 N1 N3 m1 m3 : Nat) (cs : Array Value) (w : World) (hp : pvB a b c d N = true) (hN : N = Q.flatten.length) (hW : Ex.Wide n Q) (hQ : Q.length = h) (hn : c - a = (n : Int)) (hh : d - b = (h : Int)) (hk : kB kn = true)
    (hw : Ex.within 281474976710656 Q.flatten) (hH : HoldsI w s Q.flatten) (hs : ∀ p, s = some p → p.block ≠ g1 ∧ p.block ≠ g3) (hbk : w.cell? ⟨Bk, 0, none⟩ = some (.int .i64 kn)) (hbb : Blk w Bb 33 cs) (k1 : Bk ≠ g1) (k2 : Bk ≠ g3) (kb1 : Bb ≠ g1) (kb2 : Bb ≠ g3) (gg : g1 ≠ g3)
    (A10 : cs[5]? = some (.int .i64 a)) (A11 : cs[6]? = some (.int .i64 yb1)) (A12 : cs[7]? = some (.int .i64 c)) (A13 : cs[8]? = some (.int .i64 yd1)) (A14 : cs[9]? = some (.slice (some ⟨g1, 0, none⟩) N1 m1)) (A30 : cs[15]? = some (.int .i64 a)) (A31 : cs[16]? = some (.int .i64 yb3)) (A32 : cs[17]? = some (.int .i64 c)) (A33 : cs[18]? = some (.int .i64 yd3)) (A34 : cs[19]? = some (.slice (some ⟨g3, 0, none⟩) N3 m3)) (n1 : N1 = Ex.cntE b h * n) (n3 : N3 = Ex.cntO b h * n)
    (r1 : RowAt w g1 (List.replicate (Ex.cntE b h * n) 0)) (r2 : RowAt w g3 (List.replicate (Ex.cntO b h * n) 0)) :
    Calls Try.prog 67 #[.agg #[.int .i64 a, .int .i64 b, .int .i64 c, .int .i64 d, .slice s N m], .int .i64 1, .int .i64 3, .pointer (some ⟨Bk, 0, none⟩), .pointer (some ⟨Bb, 0, none⟩)] w
      fun e w' => e = .returned (.tuple #[]) ∧ But2 g1 g3 w w' ∧ RowAt w' g1 (Ex.lowC b kn n Q).flatten ∧ RowAt w' g3 (Ex.highC b kn n Q).flatten := by
  obtain ⟨n', h', e1, e2, n4, h4, e3, a0, a1, b0, bb1, c0, c1, d0, d1, hv⟩ := pv_facts hp
  obtain rfl : n' = n := by omega
  obtain rfl : h' = h := by omega
  clear e1 e2 e3
  have HN : Hid _ := hN
  have Hp : Hid _ := hp
  have Hn1 : Hid _ := n1
  have Hn2 : Hid _ := n3
  have HQ : Hid _ := hQ
  obtain ⟨M1, hM1⟩ : ∃ M1, M1 = Ex.lowR b kn (Ex.trn n' Q) := ⟨_, rfl⟩
  obtain ⟨M2, hM2⟩ : ∃ M2, M2 = Ex.highR b kn (Ex.trn n' Q) := ⟨_, rfl⟩
  have HM1 : Hid _ := hM1
  have HM2 : Hid _ := hM2
  obtain ⟨hl, hhl⟩ : ∃ hl, hl = Ex.cntE b h' := ⟨_, rfl⟩
  obtain ⟨hi, hhi⟩ : ∃ hi, hi = Ex.cntO b h' := ⟨_, rfl⟩
  have hle := Ex.cnt_le (s := b) (n := h')
  have hl4 : hl ≤ 4096 := by rw [hhl]; exact Nat.le_trans hle.1 h4
  have hi4 : hi ≤ 4096 := by rw [hhi]; exact Nat.le_trans hle.2 h4
  rw [← hhl] at r1 Hn1
  rw [← hhi] at r2 Hn2
  have Hhl : Hid _ := hhl
  have Hhi : Hid _ := hhi
  clear hN hp n1 n3 hQ hM1 hM2 hle hhl hhi
  have X0 : Cl g1 g3 n' hl hi M1 M2 0 ⟨a, b, c, d⟩ (.slice s N m) w (w.alloc (.cells #[.int .i64 a, .int .i64 b, .int .i64 c, .int .i64 d, .slice s N m] 30)) :=
    ⟨But2.of ((Below.refl _ _).alloc (Nat.le_refl _) _), QBox.fresh w a b c d s N m _, by rw [done_zero]; exact r1.alloc _, by rw [done_zero]; exact r2.alloc _⟩
  have hgl1 := r1.lt
  have hgl2 := r2.lt
  clear r1 r2
  go_enter Try.func67, Try.ntmps67
  obtain ⟨y0, y1, y2, y3, y4⟩ := X0.p.open
  go_upto_region 2 with fail
  clear y0 y1 y2 y3 y4
  go_loopw [8] (fun v8 wr => ∃ k : Nat, k ≤ n' ∧ v8 = .int .i64 (a + (k : Int)) ∧ Cl g1 g3 n' hl hi M1 M2 k ⟨a, b, c, d⟩ (.slice s N m) w wr) (fun v8 _ => (c - intOf v8).toNat)
  case atStart => exact ⟨0, Nat.zero_le _, by simp, X0⟩
  case round =>
    obtain ⟨k, hkn, rfl, hX⟩ := hrel
    clear X0
    by_cases hlt : k < n'
    · have hyi : a + (k : Int) < c := by omega
      have hcol : colL ⟨a, b, c, d⟩ Q.flatten (a + (k : Int)) = colA Q k := col_is hW HQ.out hn hh hlt
      have hcw : Ex.within 281474976710656 (colA Q k) := col_within hW hlt hw
      have hcl : (colA Q k).length = h' := by rw [colA, List.length_map]; exact HQ.out
      have cC := fun W (q : HoldsI W s Q.flatten) => col_own a b c d (a + (k : Int)) s m Q.flatten W (by rw [← HN.out]; exact Hp.out) (by omega) hyi q
      rw [hcol, ← HN.out] at cC
      have hE : M1.getD k [] = Ex.loF b kn (colA Q k) := by rw [HM1.out]; exact lowR_at hlt
      have hO : M2.getD k [] = Ex.hiF b kn (colA Q k) := by rw [HM2.out]; exact highR_at hlt
      have t1 : (Ex.loF b kn (colA Q k)).length = hl := by rw [Ex.loF_len, hcl]; exact Hhl.out.symm
      have t2 : (Ex.hiF b kn (colA Q k)).length = hi := by rw [Ex.hiF_len, hcl]; exact Hhi.out.symm
      have cF := fun W g (q : HoldsI W (some ⟨g, 0, none⟩) (colA Q k)) => fwd_q (colA Q k) b kn (some ⟨g, 0, none⟩) (colA Q k).length (colA Q k).length W hk (fw_iff.2 ⟨⟨b0, bb1, by omega⟩, hcw⟩) (fun e => by cases e) q rfl
      have hwY : IntKind.i64.wrap (a + (k : Int) + 1) = a + (k : Int) + 1 := IntWalk.i64_in _ (by omega)
      have HWY : Hid _ := hwY
      have HE : Hid _ := hE
      have HO : Hid _ := hO
      have HT1 : Hid _ := t1
      have HT2 : Hid _ := t2
      clear hcol hcw hwY hE hO t1 t2 hcl
      generalize colA Q k = col at *
      obtain ⟨y0, y1, y2, y3, y4⟩ := hX.p.open
      go_upto_region 4 with fail
      go_upto_region 5 with (first | (go_at_call 68; (with_reducible refine (cC _ (hX.but.holds hH hs)).mono ?_); rintro e w3 ⟨gc, rfl, hgc, row3, hb3⟩))
      have hX3 := hX.step hb3
      have cF3 := cF w3 gc row3.holds
      have hk3 : w3.cell? ⟨Bk, 0, none⟩ = some (.int .i64 kn) := (hX3.but.cell (p := ⟨Bk, 0, none⟩) (cell_lt hbk) k1 k2).trans hbk
      have hz3 := hX3.but.size
      clear y0 y1 y2 y3 y4 cC cF hX hb3 row3 hgc
      obtain ⟨y0, y1, y2, y3, y4⟩ := hX3.p.open
      go_upto_region 6 with (first | (go_at_call 69; (with_reducible refine cF3.mono ?_); rintro e w4 ⟨s1, mm1, s2, mm2, rfl, a1', a2', hb4, ⟨_, _, f1⟩, ⟨_, _, f2⟩⟩))
      have hX4 := hX3.step hb4
      clear y0 y1 y2 y3 y4 cF3 hX3 hk3 hb4
      have hbk := hX4.but.blk hbb kb1 kb2
      have u10 := hbk.cell 5 _ A10
      have u11 := hbk.cell 6 _ A11
      have u12 := hbk.cell 7 _ A12
      have u13 := hbk.cell 8 _ A13
      have u14 := hbk.cell 9 _ A14
      have cS := setc_q a yb1 c yd1 (a + (k : Int)) g1 N1 m1 n' hl k (doneC M1 k) (Ex.loF b kn col) s1 mm1 w4 hn Hn1.out (by omega) hlt HT1.out hl4 n4 a0 a1 hX4.row1 a1' (fun p e => by have := f1 p e; omega)
      go_upto_region 7 with (first | (go_at_call 70; (with_reducible refine cS.mono ?_); rintro e w5 ⟨rfl, hb5, row5⟩))
      rw [done_next M1 k n' hl _ HE.out] at row5
      have hX5 : But2 g1 g3 w w5 := hX4.but.one hb5
      have p5 := hX4.p.but hb5 (by omega)
      have row52 := hX4.row2.but hb5 gg.symm
      have a5 := a2'.but hb5 (fun p e => by have := f2 p e; omega)
      clear u10 u11 u12 u13 u14 hbk cS hX4 a1' a2' hb5
      have hbk := hX5.blk hbb kb1 kb2
      have u30 := hbk.cell 15 _ A30
      have u31 := hbk.cell 16 _ A31
      have u32 := hbk.cell 17 _ A32
      have u33 := hbk.cell 18 _ A33
      have u34 := hbk.cell 19 _ A34
      have cS := setc_q a yb3 c yd3 (a + (k : Int)) g3 N3 m3 n' hi k (doneC M2 k) (Ex.hiF b kn col) s2 mm2 w5 hn Hn2.out (by omega) hlt HT2.out hi4 n4 a0 a1 row52 a5 (fun p e => by have := f2 p e; omega)
      go_upto_region 3 with (first | (go_at_call 70; (with_reducible refine cS.mono ?_); rintro e w6 ⟨rfl, hb6, row6⟩))
      rw [done_next M2 k n' hi _ HO.out] at row6
      have hX6 : Cl g1 g3 n' hl hi M1 M2 (k + 1) ⟨a, b, c, d⟩ (.slice s N m) w w6 := ⟨hX5.two hb6, p5.but hb6 (by omega), row5.but hb6 gg, row6⟩
      have HX : Hid _ := hX6
      have hwY := HWY.out
      clear u30 u31 u32 u33 u34 hbk cS hX5 p5 row5 row52 a5 hb6 row6 hX6
      go_wp2
      clear hwY
      go_roundw
      case rel => exact ⟨k + 1, hlt, by simp; omega, HX.out⟩
      case measure => simp [intOf]; omega
    · obtain rfl : k = n' := Nat.le_antisymm hkn (Nat.le_of_not_lt hlt)
      have hyd : ¬ a + (k : Int) < c := by omega
      have hX' := hX
      obtain ⟨hB, hP, q1, q2⟩ := hX'
      rw [done_all, HM1.out, Hhl.out, ← HQ.out, ← low_tab] at q1
      rw [done_all, HM2.out, Hhi.out, ← HQ.out, ← high_tab] at q2
      have HR1 : Hid _ := q1
      have HR2 : Hid _ := q2
      have HB : Hid _ := hB
      obtain ⟨y0, y1, y2, y3, y4⟩ := hP.open
      clear hX q1 q2 hB hP
      go_wp2
      go_end0
      exact ⟨rfl, HB.out, HR1.out, HR2.out⟩
end Go.Proofs.Ytnfnidgabgdphaa
