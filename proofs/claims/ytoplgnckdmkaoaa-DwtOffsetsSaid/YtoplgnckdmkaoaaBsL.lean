/-
  Layers 1 to 5, the base: DcJ, DcK of one piece.
-/
import Derived.Test.YtoplgnckdmkaoaaBsK
set_option maxRecDepth 100000
namespace Go.Proofs.Ytoplgnckdmkaoaa
open Go.RowKit

theorem un_tab (b kn : Int) (n : Nat) (A B : List (List Int)) : (Ex.unC b kn n A B).flatten = tabG n (A.length + B.length) fun y x => ((List.zipWith (Ex.unF b kn) (Ex.trn n A) (Ex.trn n B)).getD x []).getD y 0 := by
  have hw : Ex.Wide n (Ex.unC b kn n A B) := fun r hr => by
    rw [Ex.trn_mem hr, List.length_zipWith, Ex.trn_len, Ex.trn_len, Nat.min_self]
  rw [flat_tab hw, Ex.unC_len]
  refine tabG_congr fun y x hy hx => ?_
  have hl : x < (List.zipWith (Ex.unF b kn) (Ex.trn n A) (Ex.trn n B)).length := by rw [List.length_zipWith, Ex.trn_len, Ex.trn_len, Nat.min_self]; exact hx
  rw [Ex.unC]
  generalize List.zipWith (Ex.unF b kn) (Ex.trn n A) (Ex.trn n B) = M at *
  simp [Ex.trn, hy, hl]
theorem un_at {b kn : Int} {n k : Nat} {A B : List (List Int)} (hk : k < n) : (List.zipWith (Ex.unF b kn) (Ex.trn n A) (Ex.trn n B)).getD k [] = Ex.unF b kn (colA A k) (colA B k) := by
  simp [Ex.trn, hk, colA]
theorem inv_q (e o : List Int) (st kn : Int) (s t : Option Addr) (m m' : Nat) (w : World) (hk : kB kn = true) (hh : jnB st e.length o.length = true) (hf1 : Ex.within 281474976710656 e) (hf2 : Ex.within 281474976710656 o) (hc : jcB st e.length o.length = true) (hm : e.length ≤ m) (hm' : o.length ≤ m') (hE : HoldsI w s e) (hO : HoldsI w t o) :
    Calls Try.prog 65 #[.slice s e.length m, .slice t o.length m', .int .i64 st, .int .i64 kn] w (GivesE (Ex.unF st kn e o) 0 w) :=
  inv_cyes e o st kn s t m m' w hk hh (few_iff.2 (within_mono hf1 (by decide))) (few_iff.2 (within_mono hf2 (by decide))) hc hm hm' hE hO
/-- What the columns' loop of Merge knows at each place. -/
structure Mc (w : World) (g Bh n h : Nat) (M : List (List Int)) (k : Nat) (rl rh rr : Pl.R) (vl vh vr : Value) (W : World) : Prop where
  below : Below w.heap.size w W
  p : QBox W w.heap.size rl vl
  q : QBox W (w.heap.size + 1) rh vh
  z : QBox W (w.heap.size + 2) ⟨0, 0, 0, 0⟩ (.slice none 0 0)
  hf : QBox W Bh rr vr
  row : RowAt W g (tabG n h (doneC M k))
  far : w.heap.size + 2 < g ∧ g < Bh
theorem Mc.step {w : World} {g Bh n h : Nat} {M : List (List Int)} {k : Nat} {rl rh rr : Pl.R} {vl vh vr : Value} {W W1 : World} (x : Mc w g Bh n h M k rl rh rr vl vh vr W) (hb : Below W.heap.size W W1) : Mc w g Bh n h M k rl rh rr vl vh vr W1 :=
  ⟨below_call x.below hb, x.p.below hb, x.q.below hb, x.z.below hb, x.hf.below hb, x.row.below hb, x.far⟩
theorem Mc.put {w : World} {g Bh n h : Nat} {M : List (List Int)} {k : Nat} {rl rh rr : Pl.R} {vl vh vr : Value} {W W1 : World} (x : Mc w g Bh n h M k rl rh rr vl vh vr W) (hb : But g W W1) (hr : RowAt W1 g (tabG n h (doneC M (k + 1)))) : Mc w g Bh n h M (k + 1) rl rh rr vl vh vr W1 := by
  have f := x.far
  exact ⟨But.below x.below hb (by omega), x.p.but hb (by omega), x.q.but hb (by omega), x.z.but hb (by omega), x.hf.but hb (by omega), hr, f⟩

set_option maxHeartbeats 8000000 in
theorem mcol_q (la lb lc ld hb hd ra rb rc rd kn : Int) (A B : List (List Int)) (s t : Option Addr) (m m' n h NA NB Br Bk : Nat) (w : World)
    (pA : pvB la lb lc ld NA = true) (pB : pvB la hb lc hd NB = true) (hNA : NA = A.flatten.length) (hNB : NB = B.flatten.length) (hA : Ex.Wide n A) (hB : Ex.Wide n B) (hAl : A.length = Ex.cntE rb h) (hBl : B.length = Ex.cntO rb h)
    (hn : lc - la = (n : Int)) (hAd : ld - lb = (Ex.cntE rb h : Int)) (hBd : hd - hb = (Ex.cntO rb h : Int)) (hv : Pl.validB la rb lc rd = true) (hh : rd - rb = (h : Int)) (har : h * n ≤ 1048576) (hk : kB kn = true)
    (wA : Ex.within 281474976710656 A.flatten) (wB : Ex.within 281474976710656 B.flatten) (hHA : HoldsI w s A.flatten) (hHB : HoldsI w t B.flatten)
    (r0 : w.cell? ⟨Br, 0, none⟩ = some (.int .i64 ra)) (r1 : w.cell? ⟨Br, 1, none⟩ = some (.int .i64 rb)) (r2 : w.cell? ⟨Br, 2, none⟩ = some (.int .i64 rc)) (r3 : w.cell? ⟨Br, 3, none⟩ = some (.int .i64 rd)) (hbk : w.cell? ⟨Bk, 0, none⟩ = some (.int .i64 kn)) :
    Calls Try.prog 62 #[.agg #[.int .i64 la, .int .i64 lb, .int .i64 lc, .int .i64 ld, .slice s NA m], .agg #[.int .i64 la, .int .i64 hb, .int .i64 lc, .int .i64 hd, .slice t NB m'], .pointer (some ⟨Br, 0, none⟩), .pointer (some ⟨Bk, 0, none⟩)] w
      fun e w' => ∃ g, e = .returned (.agg #[.int .i64 la, .int .i64 rb, .int .i64 lc, .int .i64 rd, .slice (some ⟨g, 0, none⟩) (h * n) (h * n)]) ∧ w.heap.size ≤ g ∧ RowAt w' g (Ex.unC rb kn n A B).flatten ∧ Below w.heap.size w w' := by
  obtain ⟨v1, v2, v3, v4, v5, v6⟩ := Pl.valid_iff.1 hv
  have n4 : n ≤ 4096 := by omega
  have h4 : h ≤ 4096 := by omega
  have hsum := (Ex.cnt_next (s := rb) (k := h)).2.2.2
  have hArea : Pl.areaI la rb lc rd = ((h * n : Nat) : Int) := by rw [Pl.areaI, if_pos hv, hn, hh, Int.mul_comm, ← Int.natCast_mul]
  have cN := fun W => new_own la rb lc rd W hv (by rw [hArea]; omega)
  rw [hArea, Int.toNat_natCast] at cN
  obtain ⟨N, hN⟩ : ∃ N, N = h * n := ⟨_, rfl⟩
  rw [← hN] at cN ⊢
  obtain ⟨M, hM⟩ : ∃ M, M = List.zipWith (Ex.unF rb kn) (Ex.trn n A) (Ex.trn n B) := ⟨_, rfl⟩
  have HM : Hid _ := hM
  have HN : Hid _ := hN
  have HNA : Hid _ := hNA
  have HNB : Hid _ := hNB
  have HAl : Hid _ := hAl
  have HBl : Hid _ := hBl
  have HpA : Hid _ := pA
  have HpB : Hid _ := pB
  have HS : Hid _ := hsum
  obtain ⟨hl, hhl⟩ : ∃ hl, hl = Ex.cntE rb h := ⟨_, rfl⟩
  obtain ⟨hi, hhi⟩ : ∃ hi, hi = Ex.cntO rb h := ⟨_, rfl⟩
  rw [← hhl] at hAd HAl
  rw [← hhi] at hBd HBl
  have HL : Hid _ := hhl
  have HI : Hid _ := hhi
  have hlh : hl + hi = h := by rw [hhl, hhi]; exact hsum
  have HLH : Hid _ := hlh
  have x0 := ((QBox.fresh w la lb lc ld s NA m 26).alloc (.cells #[.int .i64 la, .int .i64 hb, .int .i64 lc, .int .i64 hd, .slice t NB m'] 26)).alloc (.cells #[.int .i64 0, .int .i64 0, .int .i64 0, .int .i64 0, .slice none 0 0] 26)
  have x1 := (QBox.freshAt (w.alloc (.cells #[.int .i64 la, .int .i64 lb, .int .i64 lc, .int .i64 ld, .slice s NA m] 26)) (w.heap.size + 1) (by simp) la hb lc hd t NB m' 26).alloc (.cells #[.int .i64 0, .int .i64 0, .int .i64 0, .int .i64 0, .slice none 0 0] 26)
  have x2 := QBox.freshAt ((w.alloc (.cells #[.int .i64 la, .int .i64 lb, .int .i64 lc, .int .i64 ld, .slice s NA m] 26)).alloc (.cells #[.int .i64 la, .int .i64 hb, .int .i64 lc, .int .i64 hd, .slice t NB m'] 26)) (w.heap.size + 2) (by simp) 0 0 0 0 none 0 0 26
  have BB := below_alloc (below_alloc (below_alloc (Below.refl _ w) (.cells #[.int .i64 la, .int .i64 lb, .int .i64 lc, .int .i64 ld, .slice s NA m] 26)) (.cells #[.int .i64 la, .int .i64 hb, .int .i64 lc, .int .i64 hd, .slice t NB m'] 26)) (.cells #[.int .i64 0, .int .i64 0, .int .i64 0, .int .i64 0, .slice none 0 0] 26)
  have e0 := (BB.cell (p := ⟨Br, _, none⟩) (cell_lt r0)).trans r0
  have e1 := (BB.cell (p := ⟨Br, _, none⟩) (cell_lt r1)).trans r1
  have e2 := (BB.cell (p := ⟨Br, _, none⟩) (cell_lt r2)).trans r2
  have e3 := (BB.cell (p := ⟨Br, _, none⟩) (cell_lt r3)).trans r3
  clear hM hN hNA hNB hAl hBl pA pB hsum hhl hhi hArea hlh
  go_enter Try.func62, Try.ntmps62
  obtain ⟨y0, y1, y2, y3, y4⟩ := x0.open
  go_wp2_with fail
  clear y0 y1 y2 y3 y4 e0 e1 e2 e3
  refine (across_q _ _ _ _ _ _ _ _ _).mono ?_
  rintro e w1 ⟨rfl, hb1⟩
  replace x0 := x0.below hb1
  replace x1 := x1.below hb1
  replace x2 := x2.below hb1
  replace BB := below_call BB hb1
  clear hb1
  go_wp2_with fail
  refine (cN _).mono ?_
  rintro e w2 ⟨g, rfl, hg, row, hb2⟩
  have hz1 := x2.lt
  replace x0 := x0.below hb2
  replace x1 := x1.below hb2
  replace x2 := x2.below hb2
  replace BB := below_call BB hb2
  have hglt := row.lt
  have lrep : (List.replicate N (0 : Int)).length = N := List.length_replicate
  rw [lrep]
  clear hb2 cN lrep
  go_upto_region 2 with fail
  obtain ⟨W3, hW3⟩ : ∃ W3, W3 = w2.alloc (.cells #[.int .i64 la, .int .i64 rb, .int .i64 lc, .int .i64 rd, .slice (some ⟨g, 0, none⟩) N N] 26) := ⟨_, rfl⟩
  have hX0 : Mc w g w2.heap.size n h M 0 ⟨la, lb, lc, ld⟩ ⟨la, hb, lc, hd⟩ ⟨la, rb, lc, rd⟩ (.slice s NA m) (.slice t NB m') (.slice (some ⟨g, 0, none⟩) N N) W3 := by
    rw [hW3]
    refine ⟨below_alloc BB _, x0.alloc _, x1.alloc _, x2.alloc _, QBox.fresh w2 la rb lc rd _ N N _, ?_, by omega, hglt⟩
    rw [done_zero, ← HN.out]
    exact row.alloc _
  rw [← hW3]
  clear hW3 x0 x1 x2 BB row hg hz1 hglt
  obtain ⟨y0, y1, y2, y3, y4⟩ := hX0.hf.open
  go_upto_region 3 with fail
  clear y0 y1 y2 y3 y4
  go_loopw [9] (fun v9 wr => ∃ k : Nat, k ≤ n ∧ v9 = .int .i64 (la + (k : Int)) ∧ Mc w g w2.heap.size n h M k ⟨la, lb, lc, ld⟩ ⟨la, hb, lc, hd⟩ ⟨la, rb, lc, rd⟩ (.slice s NA m) (.slice t NB m') (.slice (some ⟨g, 0, none⟩) N N) wr) (fun v9 _ => (lc - intOf v9).toNat)
  case atStart => exact ⟨0, Nat.zero_le _, by simp, hX0⟩
  case round =>
    obtain ⟨k, hkn, rfl, hX⟩ := hrel
    clear hX0
    by_cases hlt : k < n
    · have hyi : la + (k : Int) < lc := by omega
      have hcA : colL ⟨la, lb, lc, ld⟩ A.flatten (la + (k : Int)) = colA A k := col_is hA HAl.out hn hAd hlt
      have hcB : colL ⟨la, hb, lc, hd⟩ B.flatten (la + (k : Int)) = colA B k := col_is hB HBl.out hn hBd hlt
      have hwA : Ex.within 281474976710656 (colA A k) := col_within hA hlt wA
      have hwB : Ex.within 281474976710656 (colA B k) := col_within hB hlt wB
      have lA : (colA A k).length = hl := by rw [colA, List.length_map]; exact HAl.out
      have lB : (colA B k).length = hi := by rw [colA, List.length_map]; exact HBl.out
      have cA := fun W (q : HoldsI W s A.flatten) => col_own la lb lc ld (la + (k : Int)) s m A.flatten W (by rw [← HNA.out]; exact HpA.out) (by omega) hyi q
      have cB := fun W (q : HoldsI W t B.flatten) => col_own la hb lc hd (la + (k : Int)) t m' B.flatten W (by rw [← HNB.out]; exact HpB.out) (by omega) hyi q
      rw [hcA, ← HNA.out] at cA
      rw [hcB, ← HNB.out] at cB
      have cI := fun W g1 g2 (q1 : HoldsI W (some ⟨g1, 0, none⟩) (colA A k)) (q2 : HoldsI W (some ⟨g2, 0, none⟩) (colA B k)) => inv_q (colA A k) (colA B k) rb kn (some ⟨g1, 0, none⟩) (some ⟨g2, 0, none⟩) (colA A k).length (colA B k).length W hk (jn_iff.2 ⟨v4, by omega, by rw [lA, lB, HLH.out]; exact h4⟩) hwA hwB (by rw [lA, lB, jcB, HLH.out, decide_eq_true_iff]; exact ⟨HL.out.symm, HI.out.symm⟩) (Nat.le_refl _) (Nat.le_refl _) q1 q2
      have hE : M.getD k [] = Ex.unF rb kn (colA A k) (colA B k) := by rw [HM.out]; exact un_at hlt
      have t1 : (Ex.unF rb kn (colA A k) (colA B k)).length = h := by rw [Ex.unF_len, lA, lB]; exact HLH.out
      have HE : Hid _ := hE
      have HT : Hid _ := t1
      have HWY : Hid (IntKind.i64.wrap (la + (k : Int) + 1) = la + (k : Int) + 1) := IntWalk.i64_in _ (by omega)
      clear hcA hcB hwA hwB lA lB hE t1
      generalize colA A k = ca at *
      generalize colA B k = cb at *
      have z0 := hX.hf.open
      obtain ⟨z0, z1, z2, z3, z4⟩ := z0
      obtain ⟨y0, y1, y2, y3, y4⟩ := hX.p.open
      go_upto_region 5 with fail
      go_upto_region 6 with (first | (go_at_call 64; (with_reducible refine (cA _ (hHA.below hX.below (Nat.le_refl _))).mono ?_); rintro e w3 ⟨gc, rfl, hgc, rowc, hb3⟩))
      have hX3 := hX.step hb3
      clear y0 y1 y2 y3 y4 z0 z1 z2 z3 z4 cA hX hb3 hgc
      obtain ⟨y0, y1, y2, y3, y4⟩ := hX3.q.open
      go_upto_region 7 with (first | (go_at_call 64; (with_reducible refine (cB _ (hHB.below hX3.below (Nat.le_refl _))).mono ?_); rintro e w4 ⟨gd, rfl, hgd, rowd, hb4⟩))
      have hX4 := hX3.step hb4
      have rowc4 := rowc.below hb4
      have cI4 := cI w4 gc gd rowc4.holds rowd.holds
      have e1 := (hX4.below.cell (p := ⟨Br, _, none⟩) (cell_lt r1)).trans r1
      have ek := (hX4.below.cell (p := ⟨Bk, _, none⟩) (cell_lt hbk)).trans hbk
      clear y0 y1 y2 y3 y4 cB cI hX3 hb4 rowc rowc4 rowd hgd
      go_upto_region 8 with (first | (go_at_call 65; (with_reducible refine cI4.mono ?_); rintro e w5 ⟨s1, mm1, rfl, a1, hb5, d1, _, f1⟩))
      have hX5 := hX4.step hb5
      have hg5 := hX4.row.lt
      clear cI4 e1 ek hX4 hb5
      obtain ⟨y0, y1, y2, y3, y4⟩ := hX5.hf.open
      have cS := setc_q la rb lc rd (la + (k : Int)) g N N n h k (doneC M k) (Ex.unF rb kn ca cb) s1 mm1 w5 hn HN.out (by omega) hlt HT.out h4 n4 v1 (by omega) hX5.row a1 (fun p e => by have := f1 p e; omega)
      go_upto_region 4 with (first | (go_at_call 66; (with_reducible refine cS.mono ?_); rintro e w6 ⟨rfl, hb6, row6⟩))
      rw [done_next M k n h _ HE.out] at row6
      have HX : Hid _ := hX5.put hb6 row6
      have hwY := HWY.out
      clear y0 y1 y2 y3 y4 cS hX5 a1 hb6 row6
      go_wp2
      clear hwY
      go_roundw
      case rel => exact ⟨k + 1, hlt, by simp; omega, HX.out⟩
      case measure => simp [intOf]; omega
    · obtain rfl : k = n := Nat.le_antisymm hkn (Nat.le_of_not_lt hlt)
      have hyd : ¬ la + (k : Int) < lc := by omega
      obtain ⟨bX, pX, qX, zX, fX, rX, ff⟩ := hX
      have rX' : RowAt wr g (Ex.unC rb kn k A B).flatten := by
        rw [un_tab, HAl.out, HBl.out, HLH.out, ← HM.out, ← done_all]
        exact rX
      have HR : Hid _ := rX'
      have HB : Hid _ := bX
      clear rX rX' pX qX bX
      obtain ⟨y0, y1, y2, y3, y4⟩ := fX.open
      obtain ⟨z0, z1, z2, z3, z4⟩ := zX.open
      have zf := zX.free
      go_wp2
      have hst := zX.store la rb lc rd (.slice (some ⟨g, 0, none⟩) N N)
      obtain ⟨p0, p1, p2, p3, p4⟩ := hst.open
      refine bodyPost_ret (v := .agg #[.int .i64 la, .int .i64 rb, .int .i64 lc, .int .i64 rd, .slice (some ⟨g, 0, none⟩) N N]) (by simp [results, Try.results62, go_sem, p0, p1, p2, p3, p4]) rfl ⟨g, rfl, by omega, ?_, below5 HB.out (by omega) _ _ _ _ _⟩
      exact RowAt.but HR.out (but5 _ _ _ _ _) (by omega)
end Go.Proofs.Ytoplgnckdmkaoaa
namespace Go.Proofs.Ytoplgnckdmkaoaa
open Go.RowKit

theorem mk_area (c : Nat) (hc : c ≤ 16777216) (W : World) : (Instr.makeSlice 24 (.int .i64 0) (.int .i64 (c : Int))).run Try.prog W = .ok (.slice (some ⟨W.heap.size, 0, none⟩) 0 c) (W.alloc (zeroRow c)) := by
  obtain ⟨i0, hi, hz0, hz1, hz2⟩ := info_parts infoI
  have hr := run_make (P := Try.prog) W 24 3 i0 _ Try.underlying24 hi hz0 .i64 .i64 0 c (Int.le_refl _) (by omega) (by rw [hz2]; omega) (by omega)
  rw [hz1, Nat.mul_one, Int.toNat_natCast] at hr
  exact hr
/-- What came in to mergeRows, and its result. -/
structure Mw (w : World) (rl rh rr : Pl.R) (vl vh : Value) (W : World) : Prop where
  below : Below w.heap.size w W
  lo : QBox W w.heap.size rl vl
  hi : QBox W (w.heap.size + 1) rh vh
  r : Box W (w.heap.size + 2) rr
  z : QBox W (w.heap.size + 3) ⟨0, 0, 0, 0⟩ (.slice none 0 0)
section
variable {w W : World} {rl rh rr : Pl.R} {vl vh : Value}
theorem Mw.step {W1 : World} (h : Mw w rl rh rr vl vh W) (hb : Below W.heap.size W W1) : Mw w rl rh rr vl vh W1 := ⟨below_call h.below hb, h.lo.below hb, h.hi.below hb, h.r.below hb, h.z.below hb⟩
theorem Mw.alloc (h : Mw w rl rh rr vl vh W) (X : Obj) : Mw w rl rh rr vl vh (W.alloc X) := h.step ((Below.refl _ _).alloc (Nat.le_refl _) _)
theorem Mw.drew (h : Mw w rl rh rr vl vh W) : Mw w rl rh rr vl vh W.drew := ⟨h.below.drew, h.lo.drew, h.hi.drew, h.r.drew, h.z.drew⟩
theorem Mw.but {W1 : World} {B : Nat} (h : Mw w rl rh rr vl vh W) (hb : But B W W1) (hB : w.heap.size + 3 < B) : Mw w rl rh rr vl vh W1 :=
  ⟨But.below h.below hb (by omega), h.lo.but hb (by omega), h.hi.but hb (by omega), h.r.but hb (by omega), h.z.but hb (by omega)⟩
theorem Mw.lt (h : Mw w rl rh rr vl vh W) : w.heap.size + 3 < W.heap.size := h.z.lt
theorem Box.grownC {w w1 : World} {B : Nat} {r : Pl.R} {row : Option Nat} (h : Box w B r) (hg : w.grownBy w1 row) (hn : some B ≠ row) : Box w1 B r := by
  have hb := hg.block B h.lt hn
  have c : ∀ o, w1.cell? ⟨B, o, none⟩ = w.cell? ⟨B, o, none⟩ := fun o => World.cell?_of_block hb
  exact ⟨⟨(c _).trans h.cells.1, (c _).trans h.cells.2.1, (c _).trans h.cells.2.2.1, (c _).trans h.cells.2.2.2⟩, fun j => (World.frozen?_of_block hb).trans (h.free j), by have := h.lt; have := hg.size; omega⟩
/-- The new plane and its list. -/
structure Mk (w : World) (rl rh rr : Pl.R) (vl vh : Value) (q : Pl.R) (c g B : Nat) (W : World) : Prop where
  all : Mw w rl rh rr vl vh W
  part : QBox W B q (.slice (some ⟨g, 0, none⟩) 0 c)
  row : W.heap[g]? = some (zeroRow c)
  far : w.heap.size + 3 < g ∧ w.heap.size + 3 < B ∧ g ≠ B
theorem mk1 (h : Mw w rl rh rr vl vh W) (c : Nat) (a b c' d : Int) :
    Mk w rl rh rr vl vh ⟨a, b, c', d⟩ c W.heap.size (W.heap.size + 1) ((W.alloc (zeroRow c)).alloc (.cells #[.int .i64 a, .int .i64 b, .int .i64 c', .int .i64 d, .slice (some ⟨W.heap.size, 0, none⟩) 0 c] 26)) := by
  have hz := h.lt
  have e : (W.alloc (zeroRow c)).heap.size = W.heap.size + 1 := by simp
  refine ⟨(h.alloc _).alloc _, QBox.freshAt (W.alloc (zeroRow c)) (W.heap.size + 1) e.symm a b c' d (some ⟨W.heap.size, 0, none⟩) 0 c 26, ?_, by omega, by omega, by omega⟩
  exact (((Below.refl (W.alloc (zeroRow c)).heap.size (W.alloc (zeroRow c))).alloc (Nat.le_refl _) _).block W.heap.size (by omega)).trans (heap_alloc_new W _)
theorem mk2 (h : Mw w rl rh rr vl vh W) (c : Nat) (a b c' d : Int) :
    Mk w rl rh rr vl vh ⟨a, b, c', d⟩ c (W.heap.size + 1) W.heap.size ((W.alloc (.cells #[.int .i64 a, .int .i64 b, .int .i64 c', .int .i64 d, .slice (some ⟨W.heap.size + 1, 0, none⟩) 0 c] 26)).alloc (zeroRow c)) := by
  have hz := h.lt
  have hr := heap_alloc_new (W.alloc (.cells #[.int .i64 a, .int .i64 b, .int .i64 c', .int .i64 d, .slice (some ⟨W.heap.size + 1, 0, none⟩) 0 c] 26)) (zeroRow c)
  rw [show (W.alloc (.cells #[.int .i64 a, .int .i64 b, .int .i64 c', .int .i64 d, .slice (some ⟨W.heap.size + 1, 0, none⟩) 0 c] 26)).heap.size = W.heap.size + 1 by simp] at hr
  exact ⟨(h.alloc _).alloc _, (QBox.fresh W a b c' d (some ⟨W.heap.size + 1, 0, none⟩) 0 c 26).alloc _, hr, by omega, by omega, by omega⟩
theorem mk3 (h : Mw w rl rh rr vl vh W) {B : Nat} (q4 : QBox W B ⟨0, 0, 0, 0⟩ (.slice none 0 0)) (hB : w.heap.size + 3 < B) (c : Nat) (a b c' d : Int) :
    Mk w rl rh rr vl vh ⟨a, b, c', d⟩ c W.heap.size B ((((((W.setCell ⟨B, 0, none⟩ (.int .i64 a)).setCell ⟨B, 1, none⟩ (.int .i64 b)).setCell ⟨B, 2, none⟩ (.int .i64 c')).setCell ⟨B, 3, none⟩ (.int .i64 d)).setCell ⟨B, 4, none⟩ (.slice (some ⟨W.heap.size, 0, none⟩) 0 c)).alloc (zeroRow c)) := by
  have hz := h.lt
  have hq := q4.lt
  have hr := heap_alloc_new (((((W.setCell ⟨B, 0, none⟩ (.int .i64 a)).setCell ⟨B, 1, none⟩ (.int .i64 b)).setCell ⟨B, 2, none⟩ (.int .i64 c')).setCell ⟨B, 3, none⟩ (.int .i64 d)).setCell ⟨B, 4, none⟩ (.slice (some ⟨W.heap.size, 0, none⟩) 0 c)) (zeroRow c)
  simp only [World.size_setCell] at hr
  exact ⟨(h.but (but5 _ _ _ _ _) hB).alloc _, (q4.store a b c' d (.slice (some ⟨W.heap.size, 0, none⟩) 0 c)).alloc _, hr, by omega, hB, by omega⟩
/-- The plane while its rows are appended. -/
structure Mo (w : World) (rl rh rr : Pl.R) (vl vh : Value) (B : Nat) (v : Value) (o : List Int) (W : World) : Prop where
  all : Mw w rl rh rr vl vh W
  part : QBox W B rr v
  own : W.ownsRow (w.heap.size + 4) 3 1 v o.length (o.map (Value.int .i64))
  ne : v.ownBlock ≠ some B
  far : w.heap.size + 3 < B
theorem Mo.step {B : Nat} {v : Value} {o : List Int} {W1 : World} (h : Mo w rl rh rr vl vh B v o W) (hb : Below W.heap.size W W1) : Mo w rl rh rr vl vh B v o W1 := ⟨h.all.step hb, h.part.below hb, own_below h.own hb, h.ne, h.far⟩
theorem Mo.push {B : Nat} {v v' : Value} {o o3 : List Int} {W2 : World} (h : Mo w rl rh rr vl vh B v o W) (hg : W.grownBy W2 v.ownBlock) (hown : W2.ownsRow (w.heap.size + 4) 3 1 v' o3.length (o3.map (Value.int .i64)))
    (hat : v'.ownBlock = v.ownBlock ∨ v'.ownBlock = some W.heap.size) : Mo w rl rh rr vl vh B v' o3 (W2.setCell ⟨B, 4, none⟩ v') := by
  have hr : ∀ k, v.ownBlock = some k → w.heap.size + 4 ≤ k := fun k hk => (h.own.lt k hk).1
  have hf := h.far
  have hne : ∀ b, b < w.heap.size + 4 → some b ≠ v.ownBlock := fun b hb e => by have := hr b e.symm; omega
  have hne' : v'.ownBlock ≠ some B := by
    rcases hat with e | e
    · rw [e]; exact h.ne
    · rw [e]; intro q; have := Option.some.inj q; have := h.part.lt; omega
  have hp := h.part.grown hg h.ne.symm
  have hM : Mw w rl rh rr vl vh W2 := ⟨h.all.below.grown hg h.all.below.size (fun k hk => by have := hr k hk; omega), h.all.lo.grown hg (hne _ (by omega)), h.all.hi.grown hg (hne _ (by omega)), h.all.r.grownC hg (hne _ (by omega)), h.all.z.grown hg (hne _ (by omega))⟩
  refine ⟨hM.but (but_cell (But.of (Below.refl _ _)) _ _) hf, hp.list v', own_heap hown fun g hgg => ?_, hne', hf⟩
  exact Below.heap_setCell _ _ _ _ (fun e => hne' (by rw [hgg, e]))
end

theorem row_is {x0 b x1 d : Int} {n k : Nat} {Q : List (List Int)} (hW : Ex.Wide n Q) (hn : x1 - x0 = (n : Int)) (hk : k < Q.length) : rowL ⟨x0, b, x1, d⟩ Q.flatten (b + (k : Int)) = Q[k] := by
  have hw := hW _ (List.getElem_mem hk)
  refine List.ext_getElem (by rw [rowL_len, hw]; show (x1 - x0).toNat = _; omega) fun i h1 h2 => ?_
  have hi : i < n := by rw [← hw]; exact h2
  simp only [rowL, List.getElem_map, List.getElem_range, gv]
  have e : (idx x0 b x1 (x0 + (i : Int)) (b + (k : Int))).toNat = k * n + i := by
    unfold idx
    rw [hn, show b + (k : Int) - b = (k : Int) by omega, show x0 + (i : Int) - x0 = (i : Int) by omega, ← Int.natCast_mul, ← Int.natCast_add, Int.toNat_natCast]
  rw [e, List.getD_eq_getElem?_getD, Ex.flat_get hW hk hi]
  simp [h2]
theorem unR_wide {a kn : Int} {n : Nat} {L H : List (List Int)} (hL : Ex.Wide (Ex.cntE a n) L) (hH : Ex.Wide (Ex.cntO a n) H) : Ex.Wide n (Ex.unR a kn L H) := fun r hr => by
  obtain ⟨k, hk, rfl⟩ := List.getElem_of_mem hr
  have h1 : k < L.length ∧ k < H.length := by
    have hk' := hk
    rw [Ex.unR, List.length_zipWith] at hk'
    omega
  simp only [Ex.unR, List.getElem_zipWith]
  rw [Ex.unF_len, hL _ (List.getElem_mem h1.1), hH _ (List.getElem_mem h1.2)]
  exact (Ex.cnt_next (s := a) (k := n)).2.2.2
set_option maxHeartbeats 8000000 in
theorem mrows_q (lx0 lx1 hx0 hx1 a b c d kn : Int) (L H : List (List Int)) (s t : Option Addr) (m m' n h NL NH : Nat) (w : World)
    (pL : pvB lx0 b lx1 d NL = true) (pH : pvB hx0 b hx1 d NH = true) (hNL : NL = L.flatten.length) (hNH : NH = H.flatten.length) (hL : Ex.Wide (Ex.cntE a n) L) (hH : Ex.Wide (Ex.cntO a n) H) (hLl : L.length = h) (hHl : H.length = h)
    (eL : lx1 - lx0 = (Ex.cntE a n : Int)) (eH : hx1 - hx0 = (Ex.cntO a n : Int)) (hv : Pl.validB a b c d = true) (hn : c - a = (n : Int)) (hh : d - b = (h : Int)) (har : h * n ≤ 1048576) (hk : kB kn = true)
    (gL : Ex.within 1125899906842624 L.flatten) (gH : Ex.within 1125899906842624 H.flatten) (kL : NL ≤ m) (kH : NH ≤ m') (hHL : HoldsI w s L.flatten) (hHH : HoldsI w t H.flatten) :
    Calls Try.prog 67 #[.agg #[.int .i64 lx0, .int .i64 b, .int .i64 lx1, .int .i64 d, .slice s NL m], .agg #[.int .i64 hx0, .int .i64 b, .int .i64 hx1, .int .i64 d, .slice t NH m'], .agg #[.int .i64 a, .int .i64 b, .int .i64 c, .int .i64 d], .int .i64 kn] w
      fun e w' => ∃ s' mm, e = .returned (.agg #[.int .i64 a, .int .i64 b, .int .i64 c, .int .i64 d, .slice s' (Ex.unR a kn L H).flatten.length mm]) ∧ HoldsI w' s' (Ex.unR a kn L H).flatten ∧ (Ex.unR a kn L H).flatten.length ≤ mm ∧ Fresh w s' ∧ Below w.heap.size w w' := by
  obtain ⟨v1, v2, v3, v4, v5, v6⟩ := Pl.valid_iff.1 hv
  have hArea : Pl.areaI a b c d = ((h * n : Nat) : Int) := by rw [Pl.areaI, if_pos hv, hn, hh, Int.mul_comm, ← Int.natCast_mul]
  have cA := fun W => area_c a b c d W
  rw [hArea] at cA
  obtain ⟨C, hC⟩ : ∃ C, C = h * n := ⟨_, rfl⟩
  rw [← hC] at cA
  have hmk := fun W => mk_area C (by omega) W
  have hC4 : C ≤ 1048576 := by omega
  have hsum : Ex.cntE a n + Ex.cntO a n = n := (Ex.cnt_next (s := a) (k := n)).2.2.2
  have n4 : n ≤ 4096 := by omega
  have h4 : h ≤ 4096 := by omega
  have HH : Hid _ := (⟨hNL, hNH, hLl, hHl, eL, eH, hsum, pL, pH⟩ : _ ∧ _ ∧ _ ∧ _ ∧ _ ∧ _ ∧ _ ∧ _ ∧ _)
  have HCC : Hid _ := hC
  clear hNL hNH hLl hHl eL eH hsum pL pH hArea hC
  obtain ⟨UU, hUU⟩ : ∃ UU, UU = (Ex.unR a kn L H).flatten := ⟨_, rfl⟩
  rw [← hUU]
  have HUU : Hid _ := hUU
  clear hUU
  have x0 : Mw w ⟨lx0, b, lx1, d⟩ ⟨hx0, b, hx1, d⟩ ⟨a, b, c, d⟩ (.slice s NL m) (.slice t NH m') ((((w.alloc (.cells #[.int .i64 lx0, .int .i64 b, .int .i64 lx1, .int .i64 d, .slice s NL m] 26)).alloc (.cells #[.int .i64 hx0, .int .i64 b, .int .i64 hx1, .int .i64 d, .slice t NH m'] 26)).alloc (.cells #[.int .i64 a, .int .i64 b, .int .i64 c, .int .i64 d] 23)).alloc (.cells #[.int .i64 0, .int .i64 0, .int .i64 0, .int .i64 0, .slice none 0 0] 26)) :=
    ⟨below_alloc (below_alloc (below_alloc (below_alloc (Below.refl _ w) _) _) _) _, (((QBox.fresh w lx0 b lx1 d s NL m _).alloc _).alloc _).alloc _, ((QBox.freshAt (w.alloc _) (w.heap.size + 1) (by simp) hx0 b hx1 d t NH m' _).alloc _).alloc _, (Box.freshAt ((w.alloc _).alloc _) (w.heap.size + 2) (by simp) a b c d _).alloc _ _, QBox.freshAt (((w.alloc _).alloc _).alloc _) (w.heap.size + 3) (by simp) 0 0 0 0 none 0 0 _⟩
  go_enter Try.func67, Try.ntmps67
  obtain ⟨W1, hW1⟩ : ∃ W1, W1 = ((((w.alloc (.cells #[.int .i64 lx0, .int .i64 b, .int .i64 lx1, .int .i64 d, .slice s NL m] 26)).alloc (.cells #[.int .i64 hx0, .int .i64 b, .int .i64 hx1, .int .i64 d, .slice t NH m'] 26)).alloc (.cells #[.int .i64 a, .int .i64 b, .int .i64 c, .int .i64 d] 23)).alloc (.cells #[.int .i64 0, .int .i64 0, .int .i64 0, .int .i64 0, .slice none 0 0] 26)) := ⟨_, rfl⟩
  rw [← hW1] at x0
  go_upto_region 1 with fail
  rw [← hW1]
  clear hW1
  go_cut [9] (fun s9 wx => ∃ g B : Nat, s9 = .pointer (some ⟨B, 0, none⟩) ∧ Mk w ⟨lx0, b, lx1, d⟩ ⟨hx0, b, hx1, d⟩ ⟨a, b, c, d⟩ (.slice s NL m) (.slice t NH m') ⟨a, b, c, d⟩ C g B wx)
  case first =>
    have xA := (x0.alloc zeroP).drew
    have qA := (QBox.fresh W1 0 0 0 0 none 0 0 26).drew
    have hz3 := x0.lt
    go_region_held3 (fun w' => w'.cell? ⟨w.heap.size + 2, 0, none⟩ = some (.int .i64 a) ∧ w'.cell? ⟨w.heap.size + 2, 1, none⟩ = some (.int .i64 b) ∧ w'.cell? ⟨w.heap.size + 2, 2, none⟩ = some (.int .i64 c) ∧ w'.cell? ⟨w.heap.size + 2, 3, none⟩ = some (.int .i64 d))
      (first | (with_reducible assumption) | with_reducible exact x0.drew.r.open | with_reducible exact x0.r.drew.open | with_reducible exact xA.r.open | with_reducible exact r4.open | with_reducible exact (r4.alloc _ _).open | with_reducible exact ((r4.alloc _ _).alloc _ _).open | with_reducible exact (((r4.alloc _ _).alloc _ _).far5 (by have := r4.lt; omega) _ _ _ _ _).open | with_reducible exact ((r4.alloc _ _).far5 (by omega) _ _ _ _ _).open | with_reducible exact ((r4.far5 (by omega) _ _ _ _ _).alloc _ _).open | fail)
      (first | (go_at_call 106; (with_reducible refine (cA _).mono ?_); rintro e w4 ⟨rfl, hb4⟩; (first | (have x4 := x0.drew.step hb4; have q4 := True.intro; have r4 := x4.r) | (have x4 := xA.step hb4; have q4 := qA.below hb4; obtain ⟨e0, e1, e2, e3, e4⟩ := q4.open; have g3 := q4.free; have l3 := q4.lt; have r4 := x4.r)); obtain ⟨k0, k1, k2, k3⟩ := r4.open; clear hb4))
    all_goals
      go_wp2_with fail
      go_meet
      first
      | with_reducible exact ⟨w4.heap.size, w4.heap.size + 1, rfl, mk1 x4 C a b c d⟩
      | with_reducible exact ⟨w4.heap.size + 1, w4.heap.size, rfl, mk2 x4 C a b c d⟩
      | with_reducible exact ⟨w4.heap.size, W1.heap.size, rfl, mk3 x4 q4 hz3 C a b c d⟩
      | fail
  case rest =>
    obtain ⟨g, B, rfl, MM⟩ := hcut
    have far := MM.far
    have X0 : Mo w ⟨lx0, b, lx1, d⟩ ⟨hx0, b, hx1, d⟩ ⟨a, b, c, d⟩ (.slice s NL m) (.slice t NH m') B (.slice (some ⟨g, 0, none⟩) 0 C) [] wc := ⟨MM.all, MM.part, ⟨rfl, .inr ⟨g, C, _, rfl, by omega, MM.row, Nat.zero_le _, by unfold maxLen; omega, by simp [madeCells], by simp⟩⟩, fun e => far.2.2 (Option.some.inj e), far.2.1⟩
    clear MM far x0 hmk cA
    obtain ⟨y0, y1, y2, y3⟩ := X0.all.r.open
    go_upto_region 3 with fail
    clear y0 y1 y2 y3
    go_loopw [10] (fun v10 wr => ∃ (k : Nat) (o : List Int) (v : Value), k ≤ h ∧ v10 = .int .i64 (b + (k : Int)) ∧ o = ((Ex.unR a kn L H).take k).flatten ∧ Mo w ⟨lx0, b, lx1, d⟩ ⟨hx0, b, hx1, d⟩ ⟨a, b, c, d⟩ (.slice s NL m) (.slice t NH m') B v o wr) (fun v10 _ => (d - intOf v10).toNat)
    case atStart => exact ⟨0, [], _, Nat.zero_le _, by simp, by simp, X0⟩
    case round =>
      obtain ⟨k, o, v, hkh, rfl, hO, hX⟩ := hrel
      clear X0
      obtain ⟨hNL, hNH, hLl, hHl, eL, eH, hsum, pL, pH⟩ := HH.out
      have hUl : (Ex.unR a kn L H).length = h := by rw [Ex.unR, List.length_zipWith, hLl, hHl, Nat.min_self]
      by_cases hlt : k < h
      · have hyi : b + (k : Int) < d := by omega
        have kL' : k < L.length := by omega
        have kH' : k < H.length := by omega
        have cL := fun W (q : HoldsI W s L.flatten) => row_own lx0 b lx1 d (b + (k : Int)) s m L.flatten W (by rw [← hNL]; exact pL) (by omega) hyi (by rw [← hNL]; exact kL) q
        have cH := fun W (q : HoldsI W t H.flatten) => row_own hx0 b hx1 d (b + (k : Int)) t m' H.flatten W (by rw [← hNH]; exact pH) (by omega) hyi (by rw [← hNH]; exact kH) q
        rw [row_is hL eL kL', ← hNL] at cL
        rw [row_is hH eH kH', ← hNH] at cH
        have lL := hL _ (List.getElem_mem kL')
        have lH := hH _ (List.getElem_mem kH')
        have wL : Ex.within 1125899906842624 L[k] := fun x hx => gL x (List.mem_flatten.2 ⟨_, List.getElem_mem kL', hx⟩)
        have wH : Ex.within 1125899906842624 H[k] := fun x hx => gH x (List.mem_flatten.2 ⟨_, List.getElem_mem kH', hx⟩)
        have cI : ∀ W g1 g2 (q1 : HoldsI W (some ⟨g1, 0, none⟩) L[k]) (q2 : HoldsI W (some ⟨g2, 0, none⟩) H[k]), Calls Try.prog 65 #[.slice (some ⟨g1, 0, none⟩) L[k].length L[k].length, .slice (some ⟨g2, 0, none⟩) H[k].length H[k].length, .int .i64 a, .int .i64 kn] W (GivesE (Ex.unF a kn L[k] H[k]) 0 W) := fun W g1 g2 q1 q2 => inv_cyes L[k] H[k] a kn (some ⟨g1, 0, none⟩) (some ⟨g2, 0, none⟩) L[k].length H[k].length W hk (jn_iff.2 ⟨v1, by omega, by rw [lL, lH, hsum]; exact n4⟩) (few_iff.2 wL) (few_iff.2 wH) (by rw [lL, lH, jcB, hsum, decide_eq_true_iff]; exact ⟨rfl, rfl⟩) (Nat.le_refl _) (Nat.le_refl _) q1 q2
        have hnx : o ++ Ex.unF a kn L[k] H[k] = ((Ex.unR a kn L H).take (k + 1)).flatten := by
          rw [flat_next (by rw [hUl]; exact hlt), ← hO]
          simp [Ex.unR]
        have hol : o.length ≤ 16777216 := by
          rw [hO, take_len (unR_wide hL hH) (by rw [hUl]; exact hkh)]
          exact mul_4096 (by omega) n4
        have hul : (Ex.unF a kn L[k] H[k]).length ≤ 4096 := by rw [Ex.unF_len, lL, lH, hsum]; exact n4
        have HNX : Hid _ := hnx
        have HWY : Hid (IntKind.i64.wrap (b + (k : Int) + 1) = b + (k : Int) + 1) := IntWalk.i64_in _ (by omega)
        clear hNL hNH hLl hHl eL eH hsum pL pH hO hnx lL lH wL wH hUl
        generalize Ex.unF a kn L[k] H[k] = U at *
        generalize L[k] = rl at *
        generalize H[k] = rh at *
        obtain ⟨z0, z1, z2, z3⟩ := hX.all.r.open
        obtain ⟨y0, y1, y2, y3, y4⟩ := hX.all.lo.open
        go_upto_region 5 with fail
        go_upto_region 6 with (first | (go_at_call 129; (with_reducible refine (cL _ (hHL.below hX.all.below (Nat.le_refl _))).mono ?_); rintro e w3 ⟨gc, rfl, hgc, rowc, hb3⟩))
        have hX3 := hX.step hb3
        clear y0 y1 y2 y3 y4 z0 z1 z2 z3 cL hX hb3 hgc
        obtain ⟨y0, y1, y2, y3, y4⟩ := hX3.all.hi.open
        go_upto_region 7 with (first | (go_at_call 129; (with_reducible refine (cH _ (hHH.below hX3.all.below (Nat.le_refl _))).mono ?_); rintro e w4 ⟨gd, rfl, hgd, rowd, hb4⟩))
        have hX4 := hX3.step hb4
        have rowc4 := rowc.below hb4
        have cI4 := cI w4 gc gd rowc4.holds rowd.holds
        clear y0 y1 y2 y3 y4 cH cI hX3 hb4 rowc rowc4 rowd hgd
        obtain ⟨z0, z1, z2, z3⟩ := hX4.all.r.open
        go_upto_region 8 with (first | (go_at_call 65; (with_reducible refine cI4.mono ?_); rintro e w5 ⟨s1, mm1, rfl, a1, hb5, d1, d2, f1⟩))
        have hX5 := hX4.step hb5
        clear cI4 z0 z1 z2 z3 hX4 hb5
        obtain ⟨y0, y1, y2, y3, y4⟩ := hX5.part.open
        have hbase : w.heap.size + 4 ≤ w5.heap.size := hX5.all.lt
        go_wp2_with (at_builtin; refine append_holds rfl _ _ rfl (w.heap.size + 4) _ o rfl hX5.own s1 _ mm1 _ rfl rfl a1 d2 (by omega) hbase ?_)
        clear y0 y1 y2 y3 y4
        intro v8 w9 own9 hg9 hat9
        have own9' : w9.ownsRow (w.heap.size + 4) 3 1 v8 (o ++ U).length ((o ++ U).map (Value.int .i64)) := by rw [List.length_append, List.map_append]; exact own9
        have hX9 := hX5.push hg9 own9' hat9
        have z1 := hX5.part.grown hg9 hX5.ne.symm
        obtain ⟨sv, mv, rfl⟩ := own_slice own9
        obtain ⟨y0, y1, y2, y3, y4⟩ := z1.open
        have z1f := z1.free
        clear own9 own9' hg9 hat9 hX5 a1
        go_upto_region 4 with fail
        obtain ⟨W10, hW10⟩ : ∃ W10, W10 = w9.setCell ⟨B, 4, none⟩ (.slice sv (o.length + U.length) mv) := ⟨_, rfl⟩
        rw [← hW10] at hX9
        rw [← hW10]
        have HX : Hid _ := hX9
        have hwY := HWY.out
        clear hW10 y0 y1 y2 y3 y4 z1f z1 hX9
        go_wp2
        clear hwY
        go_roundw
        case rel => exact ⟨k + 1, _, _, hlt, by simp; omega, HNX.out, HX.out⟩
        case measure => simp [intOf]; omega
      · obtain rfl : k = h := Nat.le_antisymm hkh (Nat.le_of_not_lt hlt)
        have hyd : ¬ b + (k : Int) < d := by omega
        have hU : o = UU := by rw [HUU.out, hO, List.take_of_length_le (by rw [hUl]; exact Nat.le_refl _)]
        clear hNL hNH hLl hHl eL eH hsum pL pH hO hUl
        subst hU
        obtain ⟨U, rfl⟩ : ∃ U, U = o := ⟨_, rfl⟩
        have hown := hX.own
        obtain ⟨s', mm, rfl, lU, kU, fU⟩ : ∃ s' mm, v = .slice s' U.length mm ∧ HoldsI wr s' U ∧ U.length ≤ mm ∧ ∀ p, s' = some p → w.heap.size + 4 ≤ p.block := by
          rcases (rowP_own hown).2 with ⟨e1, e2⟩ | ⟨g', m'', pad, e1, hg, h2, h3⟩
          · exact ⟨none, 0, by rw [e1, e2]; rfl, .inl e2, by rw [e2]; exact Nat.le_refl _, fun p e => by cases e⟩
          · exact ⟨_, m'', e1, h2.holds, h3, fun p e => by cases e; exact hg⟩
        have HU : Hid _ := lU
        obtain ⟨z0, z1, z2, z3⟩ := hX.all.r.open
        obtain ⟨y0, y1, y2, y3, y4⟩ := hX.part.open
        have hz := hX.all.z
        obtain ⟨u0, u1, u2, u3, u4⟩ := hz.open
        have hzf := hz.free
        have HB : Hid _ := hX.all.below
        clear hX hown lU
        go_wp2
        have hst := hz.store a b c d (.slice s' U.length mm)
        obtain ⟨p0, p1, p2, p3, p4⟩ := hst.open
        refine bodyPost_ret (v := .agg #[.int .i64 a, .int .i64 b, .int .i64 c, .int .i64 d, .slice s' U.length mm]) (by simp [results, Try.results67, go_sem, p0, p1, p2, p3, p4]) rfl ⟨s', mm, rfl, ?_, kU, fun p e => by have := fU p e; omega, below5 HB.out (by omega) _ _ _ _ _⟩
        exact HoldsI.but HU.out (but5 _ _ _ _ _) (fun p e => by have := fU p e; omega)
end Go.Proofs.Ytoplgnckdmkaoaa
namespace Go.Proofs.Ytoplgnckdmkaoaa
open Go.RowKit

def okO (r : Pl.R) (R : Nat → Pl.R) (D : Nat → List Int) (o : Nat) : Bool := pvB (R o).x0 (R o).y0 (R o).x1 (R o).y1 (D o).length && Pl.eqB (R o).x0 (R o).y0 (R o).x1 (R o).y1 (bnds r o).x0 (bnds r o).y0 (bnds r o).x1 (bnds r o).y1
def ok4 (f : Nat → Bool) : Bool := f 0 && f 1 && f 2 && f 3
theorem ok4_true {f : Nat → Bool} (h : ∀ o, o < 4 → f o = true) : ok4 f = true := by simp [ok4, h]
theorem ok4_false {f : Nat → Bool} {o : Nat} (ho : o < 4) (h : f o = false) : ok4 f = false := by
  rcases lt4 ho with rfl | rfl | rfl | rfl <;> simp [ok4, h]
theorem ok4_iff {f : Nat → Bool} : ok4 f = true ↔ ∀ o, o < 4 → f o = true := by
  refine ⟨fun h o ho => ?_, ok4_true⟩
  cases hf : f o with
  | true => rfl
  | false => rw [ok4_false ho hf] at h; cases h
/-- The error of Merge. -/
def mgE (r : Pl.R) (R : Nat → Pl.R) (D : Nat → List Int) (kn : Int) : Int :=
  if Pl.validB r.x0 r.y0 r.x1 r.y1 = true ∧ Pl.areaI r.x0 r.y0 r.x1 r.y1 ≤ 1048576 then (if kB kn = true then (if ok4 (okO r R D) = true then (if ok4 (fun o => fewB (D o) 281474976710656) = true then 0 else 2) else 1) else 3) else 2
theorem idx20 (R : Nat → Pl.R) (V : Nat → Value) (k : Nat) (hk : k < 4) (W : World) : (Instr.index 27 (.agg (arrP R V)) (.int .i64 (k : Int))).run Try.prog W = .ok (.agg #[.int .i64 (R k).x0, .int .i64 (R k).y0, .int .i64 (R k).x1, .int .i64 (R k).y1, V k]) W := by
  rcases lt4 hk with rfl | rfl | rfl | rfl <;> kernel_rfl
/-- A world of a class. -/
structure Fam (I : World → Prop) where
  W : World
  ok : I W
theorem Fam.next {I : World → Prop} (hI : ∀ W W1, I W → Below W.heap.size W W1 → I W1) (X : Fam I) (w' : World) (hb : Below X.W.heap.size X.W w') : ∃ Y : Fam I, w' = Y.W := ⟨⟨w', hI _ _ X.ok hb⟩, rfl⟩
structure Ml (w : World) (A : Array Value) (r : Pl.R) (W : World) : Prop where
  below : Below w.heap.size w W
  bk : Blk W w.heap.size 27 A
  rr : Box W (w.heap.size + 1) r
theorem Ml.step {w W W1 : World} {A : Array Value} {r : Pl.R} (h : Ml w A r W) (hb : Below W.heap.size W W1) : Ml w A r W1 := ⟨below_call h.below hb, h.bk.below hb, h.rr.below hb⟩
structure Mp (w : World) (A : Array Value) (r : Pl.R) (B : Nat) (q : Pl.R) (W : World) : Prop where
  ml : Ml w A r W
  part : Box W B q
theorem Mp.step {w W W1 : World} {A : Array Value} {r q : Pl.R} {B : Nat} (h : Mp w A r B q W) (hb : Below W.heap.size W W1) : Mp w A r B q W1 := ⟨h.ml.step hb, h.part.below hb⟩
set_option maxHeartbeats 4000000 in
theorem mgb_no1 (r : Pl.R) (R : Nat → Pl.R) (D : Nat → List Int) (s : Nat → Option Addr) (m : Nat → Nat) (kn : Int) (A : Array Value) (hA : A = arrP R fun o => .slice (s o) (D o).length (m o)) (w : World) (hv : Pl.validB r.x0 r.y0 r.x1 r.y1 = false) : Calls Try.prog 61 #[.agg A, .agg #[.int .i64 r.x0, .int .i64 r.y0, .int .i64 r.x1, .int .i64 r.y1], .int .i64 kn] w fun e w' => e = .returned (.int .i64 2) ∧ Below w.heap.size w w' := by
  have x0 : Ml w A r ((w.alloc (.cells A 27)).alloc (.cells #[.int .i64 r.x0, .int .i64 r.y0, .int .i64 r.x1, .int .i64 r.y1] 23)) := ⟨below_alloc (below_alloc (Below.refl _ w) _) _, (Blk.fresh w 27 A).alloc _, Box.freshAt (w.alloc (.cells A 27)) (w.heap.size + 1) (by simp) r.x0 r.y0 r.x1 r.y1 _⟩
  have HA : Hid _ := hA
  clear hA
  go_enter Try.func61, Try.ntmps61
  obtain ⟨c0, c1, c2, c3⟩ := x0.rr.open
  go_wp2_with fail
  clear c0 c1 c2 c3
  refine (valid_c _ _ _ _ _).mono ?_
  rintro e w1 ⟨rfl, hb⟩
  replace x0 := x0.step hb
  clear hb
  go_wp2
  go_ret
  exact ⟨rfl, x0.below⟩
set_option maxHeartbeats 4000000 in
theorem mgb_no2 (r : Pl.R) (R : Nat → Pl.R) (D : Nat → List Int) (s : Nat → Option Addr) (m : Nat → Nat) (kn : Int) (A : Array Value) (hA : A = arrP R fun o => .slice (s o) (D o).length (m o)) (w : World) (hv : Pl.validB r.x0 r.y0 r.x1 r.y1 = true) (ha : 1048576 < Pl.areaI r.x0 r.y0 r.x1 r.y1) : Calls Try.prog 61 #[.agg A, .agg #[.int .i64 r.x0, .int .i64 r.y0, .int .i64 r.x1, .int .i64 r.y1], .int .i64 kn] w fun e w' => e = .returned (.int .i64 2) ∧ Below w.heap.size w w' := by
  have x0 : Ml w A r ((w.alloc (.cells A 27)).alloc (.cells #[.int .i64 r.x0, .int .i64 r.y0, .int .i64 r.x1, .int .i64 r.y1] 23)) := ⟨below_alloc (below_alloc (Below.refl _ w) _) _, (Blk.fresh w 27 A).alloc _, Box.freshAt (w.alloc (.cells A 27)) (w.heap.size + 1) (by simp) r.x0 r.y0 r.x1 r.y1 _⟩
  have HA : Hid _ := hA
  clear hA
  go_enter Try.func61, Try.ntmps61
  obtain ⟨c0, c1, c2, c3⟩ := x0.rr.open
  go_wp2_with fail
  clear c0 c1 c2 c3
  refine (valid_c _ _ _ _ _).mono ?_
  rintro e w1 ⟨rfl, hb⟩
  replace x0 := x0.step hb
  clear hb
  obtain ⟨c0, c1, c2, c3⟩ := x0.rr.open
  go_wp2_with fail
  clear c0 c1 c2 c3
  refine (area_c _ _ _ _ _).mono ?_
  rintro e w2 ⟨rfl, hb⟩
  replace x0 := x0.step hb
  clear hb
  go_wp2
  go_ret
  exact ⟨rfl, x0.below⟩
set_option maxHeartbeats 4000000 in
theorem mgb_no3 (r : Pl.R) (R : Nat → Pl.R) (D : Nat → List Int) (s : Nat → Option Addr) (m : Nat → Nat) (kn : Int) (A : Array Value) (hA : A = arrP R fun o => .slice (s o) (D o).length (m o)) (w : World) (hv : Pl.validB r.x0 r.y0 r.x1 r.y1 = true) (ha : Pl.areaI r.x0 r.y0 r.x1 r.y1 ≤ 1048576) (hk : kB kn = false) : Calls Try.prog 61 #[.agg A, .agg #[.int .i64 r.x0, .int .i64 r.y0, .int .i64 r.x1, .int .i64 r.y1], .int .i64 kn] w fun e w' => e = .returned (.int .i64 3) ∧ Below w.heap.size w w' := by
  have hn : ¬ (1048576 : Int) < Pl.areaI r.x0 r.y0 r.x1 r.y1 := by omega
  have x0 : Ml w A r ((w.alloc (.cells A 27)).alloc (.cells #[.int .i64 r.x0, .int .i64 r.y0, .int .i64 r.x1, .int .i64 r.y1] 23)) := ⟨below_alloc (below_alloc (Below.refl _ w) _) _, (Blk.fresh w 27 A).alloc _, Box.freshAt (w.alloc (.cells A 27)) (w.heap.size + 1) (by simp) r.x0 r.y0 r.x1 r.y1 _⟩
  have HA : Hid _ := hA
  clear hA
  go_enter Try.func61, Try.ntmps61
  obtain ⟨c0, c1, c2, c3⟩ := x0.rr.open
  go_wp2_with fail
  clear c0 c1 c2 c3
  refine (valid_c _ _ _ _ _).mono ?_
  rintro e w1 ⟨rfl, hb⟩
  replace x0 := x0.step hb
  clear hb
  obtain ⟨c0, c1, c2, c3⟩ := x0.rr.open
  go_wp2_with fail
  clear c0 c1 c2 c3
  refine (area_c _ _ _ _ _).mono ?_
  rintro e w2 ⟨rfl, hb⟩
  replace x0 := x0.step hb
  clear hb
  go_wp2_with (go_at_call 76; refine (known_q _ _).mono ?_; rintro e wn ⟨rfl, rfl⟩)
  go_ret
  exact ⟨rfl, x0.below⟩
set_option maxHeartbeats 16000000 in
theorem mgb_yes (r : Pl.R) (R : Nat → Pl.R) (D : Nat → List Int) (s : Nat → Option Addr) (m : Nat → Nat) (kn : Int) (A : Array Value) (hA : A = arrP R fun o => .slice (s o) (D o).length (m o)) (w : World) (hv : Pl.validB r.x0 r.y0 r.x1 r.y1 = true) (ha : Pl.areaI r.x0 r.y0 r.x1 r.y1 ≤ 1048576) (hk : kB kn = true) (hH : ∀ o, o < 4 → HoldsI w (s o) (D o)) : Calls Try.prog 61 #[.agg A, .agg #[.int .i64 r.x0, .int .i64 r.y0, .int .i64 r.x1, .int .i64 r.y1], .int .i64 kn] w fun e w' => e = .returned (.int .i64 (mgE r R D kn)) ∧ Below w.heap.size w w' := by
  have hn : ¬ (1048576 : Int) < Pl.areaI r.x0 r.y0 r.x1 r.y1 := by omega
  have hE : ∀ o, o < 4 → okO r R D o = false → mgE r R D kn = 1 := fun o ho h => by
    rw [mgE, if_pos ⟨hv, ha⟩, if_pos hk, if_neg (by rw [ok4_false ho h]; decide)]
  have HE : Hid _ := hE
  have hG : ok4 (okO r R D) = true → ok4 (fun o => fewB (D o) 281474976710656) = false → mgE r R D kn = 2 := fun h1 h2 => by
    rw [mgE, if_pos ⟨hv, ha⟩, if_pos hk, if_pos h1, if_neg (by rw [h2]; decide)]
  have hG0 : ok4 (okO r R D) = true → ok4 (fun o => fewB (D o) 281474976710656) = true → mgE r R D kn = 0 := fun h1 h2 => by
    rw [mgE, if_pos ⟨hv, ha⟩, if_pos hk, if_pos h1, if_pos h2]
  have HGG : Hid _ := hG
  have HG0 : Hid _ := hG0
  have HAz : Hid (20 = A.size) := by rw [hA]; rfl
  have HAi : Hid ((Try.prog.info? 27).map (·.size) = some A.size) := by rw [hA]; exact info20
  clear hE hG hG0 ha
  obtain ⟨Q, hQ⟩ : ∃ Q, Q = arr4 (bnds r) := ⟨_, rfl⟩
  have cB := fun W => bands_q r.x0 r.y0 r.x1 r.y1 W
  rw [← hQ] at cB
  have HQ : Hid _ := hQ
  clear hQ
  have x0 : Ml w A r ((w.alloc (.cells A 27)).alloc (.cells #[.int .i64 r.x0, .int .i64 r.y0, .int .i64 r.x1, .int .i64 r.y1] 23)) := ⟨below_alloc (below_alloc (Below.refl _ w) _) _, (Blk.fresh w 27 A).alloc _, Box.freshAt (w.alloc (.cells A 27)) (w.heap.size + 1) (by simp) r.x0 r.y0 r.x1 r.y1 _⟩
  have HA : Hid _ := hA
  clear hA
  go_enter Try.func61, Try.ntmps61
  obtain ⟨c0, c1, c2, c3⟩ := x0.rr.open
  go_wp2_with fail
  clear c0 c1 c2 c3
  refine (valid_c _ _ _ _ _).mono ?_
  rintro e w1 ⟨rfl, hb⟩
  replace x0 := x0.step hb
  clear hb
  obtain ⟨c0, c1, c2, c3⟩ := x0.rr.open
  go_wp2_with fail
  clear c0 c1 c2 c3
  refine (area_c _ _ _ _ _).mono ?_
  rintro e w2 ⟨rfl, hb⟩
  replace x0 := x0.step hb
  clear hb
  obtain ⟨c0, c1, c2, c3⟩ := x0.rr.open
  go_wp2_with (go_at_call 76; refine (known_q _ _).mono ?_; rintro e wn ⟨rfl, rfl⟩)
  clear c0 c1 c2 c3
  refine (cB _).mono ?_
  rintro e w3 ⟨rfl, hb⟩
  replace x0 := x0.step hb
  clear hb cB
  go_upto_region 6 with fail
  go_loopw [24] (fun i wr => ∃ k : Nat, k ≤ 4 ∧ i = .int .i64 k ∧ (∀ o, o < k → okO r R D o = true) ∧ Ml w A r wr) (fun i _ => 4 - (intOf i).toNat)
  case atStart => exact ⟨0, Nat.zero_le _, rfl, fun o ho => absurd ho (Nat.not_lt_zero _), x0⟩
  case round =>
    obtain ⟨k, hk4, rfl, hall, hM⟩ := hrel
    clear x0
    by_cases hlt : k < 4
    · have hk5 := lt4 hlt
      clear hk4 hlt
      rcases hk5 with rfl | rfl | rfl | rfl
      · obtain ⟨W4, hW4⟩ : ∃ W4, W4 = wr.alloc (.cells #[.int .i64 (bnds r 0).x0, .int .i64 (bnds r 0).y0, .int .i64 (bnds r 0).x1, .int .i64 (bnds r 0).y1] 23) := ⟨_, rfl⟩
        have hI : ∀ W, (Instr.index 84 (.agg Q) (.int .i64 0)).run Try.prog W = .ok (.agg #[.int .i64 (bnds r 0).x0, .int .i64 (bnds r 0).y0, .int .i64 (bnds r 0).x1, .int .i64 (bnds r 0).y1]) W := fun W => by rw [HQ.out]; exact idx4 (bnds r) 0 (by decide) W
        go_upto_region 8 with fail
        have hP : Mp w A r wr.heap.size (bnds r 0) (wr.alloc (.cells #[.int .i64 (bnds r 0).x0, .int .i64 (bnds r 0).y0, .int .i64 (bnds r 0).x1, .int .i64 (bnds r 0).y1] 23)) := ⟨hM.step (below_alloc (Below.refl _ _) _), Box.fresh wr _ _ _ _ _⟩
        have cV := fun W => pv_c (R 0).x0 (R 0).y0 (R 0).x1 (R 0).y1 (s 0) (D 0).length (m 0) W
        have heq := fun W => eqR (R 0).x0 (R 0).y0 (R 0).x1 (R 0).y1 (bnds r 0).x0 (bnds r 0).y0 (bnds r 0).x1 (bnds r 0).y1 W
        clear hM hI
        rw [← hW4] at hP
        rw [← hW4]
        clear hW4
        cases hpv : pvB (R 0).x0 (R 0).y0 (R 0).x1 (R 0).y1 (D 0).length with
        | false =>
          have ho : okO r R D 0 = false := by simp [okO, hpv]
          rw [hpv] at cV
          have hst := Fam.next (I := Mp w A r wr.heap.size (bnds r 0)) (fun _ _ a b => a.step b)
          have hne : Nonempty (Fam (Mp w A r wr.heap.size (bnds r 0))) := ⟨⟨_, hP⟩⟩
          have p0 : ∀ X : Fam (Mp w A r wr.heap.size (bnds r 0)), X.W.cell? ⟨w.heap.size, 0, none⟩ = some (.int .i64 (R 0).x0) := fun X => X.ok.ml.bk.cell 0 _ (by rw [HA.out]; rfl)
          have p1 : ∀ X : Fam (Mp w A r wr.heap.size (bnds r 0)), X.W.cell? ⟨w.heap.size, 1, none⟩ = some (.int .i64 (R 0).y0) := fun X => X.ok.ml.bk.cell 1 _ (by rw [HA.out]; rfl)
          have p2 : ∀ X : Fam (Mp w A r wr.heap.size (bnds r 0)), X.W.cell? ⟨w.heap.size, 2, none⟩ = some (.int .i64 (R 0).x1) := fun X => X.ok.ml.bk.cell 2 _ (by rw [HA.out]; rfl)
          have p3 : ∀ X : Fam (Mp w A r wr.heap.size (bnds r 0)), X.W.cell? ⟨w.heap.size, 3, none⟩ = some (.int .i64 (R 0).y1) := fun X => X.ok.ml.bk.cell 3 _ (by rw [HA.out]; rfl)
          have p4 : ∀ X : Fam (Mp w A r wr.heap.size (bnds r 0)), X.W.cell? ⟨w.heap.size, 4, none⟩ = some (.slice (s 0) (D 0).length (m 0)) := fun X => X.ok.ml.bk.cell 4 _ (by rw [HA.out]; rfl)
          have q0 : ∀ X : Fam (Mp w A r wr.heap.size (bnds r 0)), X.W.cell? ⟨wr.heap.size, 0, none⟩ = some (.int .i64 (bnds r 0).x0) := fun X => X.ok.part.open.1
          have q1 : ∀ X : Fam (Mp w A r wr.heap.size (bnds r 0)), X.W.cell? ⟨wr.heap.size, 1, none⟩ = some (.int .i64 (bnds r 0).y0) := fun X => X.ok.part.open.2.1
          have q2 : ∀ X : Fam (Mp w A r wr.heap.size (bnds r 0)), X.W.cell? ⟨wr.heap.size, 2, none⟩ = some (.int .i64 (bnds r 0).x1) := fun X => X.ok.part.open.2.2.1
          have q3 : ∀ X : Fam (Mp w A r wr.heap.size (bnds r 0)), X.W.cell? ⟨wr.heap.size, 3, none⟩ = some (.int .i64 (bnds r 0).y1) := fun X => X.ok.part.open.2.2.2
          refine wp_region_in (fun X : Fam (Mp w A r wr.heap.size (bnds r 0)) => X.W) (by kernel_rfl) (by kernel_rfl) ⟨⟨_, hP.step (Below.refl _ _).drew⟩, rfl⟩ ?_
          repeat (first | go_big_quiet_step ((first | (go_at_call 75; exact call_in (cV _) (hst _)))) | quiet_step ((first | (go_at_call 75; exact call_in (cV _) (hst _)))))
          refine wpQuiet_nil ?_
          intro w5 hw'
          obtain ⟨⟨_, hS5⟩, hw''⟩ := hw'
          subst hw''
          clear hst hne p0 p1 p2 p3 p4 q0 q1 q2 q3 hP
          go_wp2
          go_ret
          exact ⟨ret_int (by simp [HE.out 0 (by decide) ho]), hS5.ml.below⟩
        | true =>
          rw [hpv] at cV
          cases hq : Pl.eqB (R 0).x0 (R 0).y0 (R 0).x1 (R 0).y1 (bnds r 0).x0 (bnds r 0).y0 (bnds r 0).x1 (bnds r 0).y1 with
          | false =>
            have ho : okO r R D 0 = false := by simp [okO, hpv, hq]
            rw [hq] at heq
            have hst := Fam.next (I := Mp w A r wr.heap.size (bnds r 0)) (fun _ _ a b => a.step b)
            have hne : Nonempty (Fam (Mp w A r wr.heap.size (bnds r 0))) := ⟨⟨_, hP⟩⟩
            have p0 : ∀ X : Fam (Mp w A r wr.heap.size (bnds r 0)), X.W.cell? ⟨w.heap.size, 0, none⟩ = some (.int .i64 (R 0).x0) := fun X => X.ok.ml.bk.cell 0 _ (by rw [HA.out]; rfl)
            have p1 : ∀ X : Fam (Mp w A r wr.heap.size (bnds r 0)), X.W.cell? ⟨w.heap.size, 1, none⟩ = some (.int .i64 (R 0).y0) := fun X => X.ok.ml.bk.cell 1 _ (by rw [HA.out]; rfl)
            have p2 : ∀ X : Fam (Mp w A r wr.heap.size (bnds r 0)), X.W.cell? ⟨w.heap.size, 2, none⟩ = some (.int .i64 (R 0).x1) := fun X => X.ok.ml.bk.cell 2 _ (by rw [HA.out]; rfl)
            have p3 : ∀ X : Fam (Mp w A r wr.heap.size (bnds r 0)), X.W.cell? ⟨w.heap.size, 3, none⟩ = some (.int .i64 (R 0).y1) := fun X => X.ok.ml.bk.cell 3 _ (by rw [HA.out]; rfl)
            have p4 : ∀ X : Fam (Mp w A r wr.heap.size (bnds r 0)), X.W.cell? ⟨w.heap.size, 4, none⟩ = some (.slice (s 0) (D 0).length (m 0)) := fun X => X.ok.ml.bk.cell 4 _ (by rw [HA.out]; rfl)
            have q0 : ∀ X : Fam (Mp w A r wr.heap.size (bnds r 0)), X.W.cell? ⟨wr.heap.size, 0, none⟩ = some (.int .i64 (bnds r 0).x0) := fun X => X.ok.part.open.1
            have q1 : ∀ X : Fam (Mp w A r wr.heap.size (bnds r 0)), X.W.cell? ⟨wr.heap.size, 1, none⟩ = some (.int .i64 (bnds r 0).y0) := fun X => X.ok.part.open.2.1
            have q2 : ∀ X : Fam (Mp w A r wr.heap.size (bnds r 0)), X.W.cell? ⟨wr.heap.size, 2, none⟩ = some (.int .i64 (bnds r 0).x1) := fun X => X.ok.part.open.2.2.1
            have q3 : ∀ X : Fam (Mp w A r wr.heap.size (bnds r 0)), X.W.cell? ⟨wr.heap.size, 3, none⟩ = some (.int .i64 (bnds r 0).y1) := fun X => X.ok.part.open.2.2.2
            refine wp_region_in (fun X : Fam (Mp w A r wr.heap.size (bnds r 0)) => X.W) (by kernel_rfl) (by kernel_rfl) ⟨⟨_, hP.step (Below.refl _ _).drew⟩, rfl⟩ ?_
            repeat (first | go_big_quiet_step ((first | (go_at_call 75; exact call_in (cV _) (hst _)))) | quiet_step ((first | (go_at_call 75; exact call_in (cV _) (hst _)))))
            refine wpQuiet_nil ?_
            intro w5 hw'
            obtain ⟨⟨_, hS5⟩, hw''⟩ := hw'
            subst hw''
            clear hst hne p0 p1 p2 p3 p4 q0 q1 q2 q3 hP
            go_wp2
            go_ret
            exact ⟨ret_int (by simp [HE.out 0 (by decide) ho]), hS5.ml.below⟩
          | true =>
            have ho : okO r R D 0 = true := by simp [okO, hpv, hq]
            rw [hq] at heq
            have hst := Fam.next (I := Mp w A r wr.heap.size (bnds r 0)) (fun _ _ a b => a.step b)
            have hne : Nonempty (Fam (Mp w A r wr.heap.size (bnds r 0))) := ⟨⟨_, hP⟩⟩
            have p0 : ∀ X : Fam (Mp w A r wr.heap.size (bnds r 0)), X.W.cell? ⟨w.heap.size, 0, none⟩ = some (.int .i64 (R 0).x0) := fun X => X.ok.ml.bk.cell 0 _ (by rw [HA.out]; rfl)
            have p1 : ∀ X : Fam (Mp w A r wr.heap.size (bnds r 0)), X.W.cell? ⟨w.heap.size, 1, none⟩ = some (.int .i64 (R 0).y0) := fun X => X.ok.ml.bk.cell 1 _ (by rw [HA.out]; rfl)
            have p2 : ∀ X : Fam (Mp w A r wr.heap.size (bnds r 0)), X.W.cell? ⟨w.heap.size, 2, none⟩ = some (.int .i64 (R 0).x1) := fun X => X.ok.ml.bk.cell 2 _ (by rw [HA.out]; rfl)
            have p3 : ∀ X : Fam (Mp w A r wr.heap.size (bnds r 0)), X.W.cell? ⟨w.heap.size, 3, none⟩ = some (.int .i64 (R 0).y1) := fun X => X.ok.ml.bk.cell 3 _ (by rw [HA.out]; rfl)
            have p4 : ∀ X : Fam (Mp w A r wr.heap.size (bnds r 0)), X.W.cell? ⟨w.heap.size, 4, none⟩ = some (.slice (s 0) (D 0).length (m 0)) := fun X => X.ok.ml.bk.cell 4 _ (by rw [HA.out]; rfl)
            have q0 : ∀ X : Fam (Mp w A r wr.heap.size (bnds r 0)), X.W.cell? ⟨wr.heap.size, 0, none⟩ = some (.int .i64 (bnds r 0).x0) := fun X => X.ok.part.open.1
            have q1 : ∀ X : Fam (Mp w A r wr.heap.size (bnds r 0)), X.W.cell? ⟨wr.heap.size, 1, none⟩ = some (.int .i64 (bnds r 0).y0) := fun X => X.ok.part.open.2.1
            have q2 : ∀ X : Fam (Mp w A r wr.heap.size (bnds r 0)), X.W.cell? ⟨wr.heap.size, 2, none⟩ = some (.int .i64 (bnds r 0).x1) := fun X => X.ok.part.open.2.2.1
            have q3 : ∀ X : Fam (Mp w A r wr.heap.size (bnds r 0)), X.W.cell? ⟨wr.heap.size, 3, none⟩ = some (.int .i64 (bnds r 0).y1) := fun X => X.ok.part.open.2.2.2
            refine wp_region_in (fun X : Fam (Mp w A r wr.heap.size (bnds r 0)) => X.W) (by kernel_rfl) (by kernel_rfl) ⟨⟨_, hP.step (Below.refl _ _).drew⟩, rfl⟩ ?_
            repeat (first | go_big_quiet_step ((first | (go_at_call 75; exact call_in (cV _) (hst _)))) | quiet_step ((first | (go_at_call 75; exact call_in (cV _) (hst _)))))
            refine wpQuiet_nil ?_
            intro w5 hw'
            obtain ⟨⟨_, hS5⟩, hw''⟩ := hw'
            subst hw''
            clear hst hne p0 p1 p2 p3 p4 q0 q1 q2 q3 hP
            have HM : Hid _ := hS5.ml
            have HO : Hid (∀ o, o < 1 → okO r R D o = true) := fun o ho' => if e : o = 0 then e ▸ ho else hall o (by omega)
            clear hS5 hall heq cV
            go_wp2
            go_roundw
            case rel => exact ⟨1, by decide, by go_num, HO.out, HM.out⟩
            case measure => simp [intOf]
      · obtain ⟨W4, hW4⟩ : ∃ W4, W4 = wr.alloc (.cells #[.int .i64 (bnds r 1).x0, .int .i64 (bnds r 1).y0, .int .i64 (bnds r 1).x1, .int .i64 (bnds r 1).y1] 23) := ⟨_, rfl⟩
        have hI : ∀ W, (Instr.index 84 (.agg Q) (.int .i64 1)).run Try.prog W = .ok (.agg #[.int .i64 (bnds r 1).x0, .int .i64 (bnds r 1).y0, .int .i64 (bnds r 1).x1, .int .i64 (bnds r 1).y1]) W := fun W => by rw [HQ.out]; exact idx4 (bnds r) 1 (by decide) W
        go_upto_region 8 with fail
        have hP : Mp w A r wr.heap.size (bnds r 1) (wr.alloc (.cells #[.int .i64 (bnds r 1).x0, .int .i64 (bnds r 1).y0, .int .i64 (bnds r 1).x1, .int .i64 (bnds r 1).y1] 23)) := ⟨hM.step (below_alloc (Below.refl _ _) _), Box.fresh wr _ _ _ _ _⟩
        have cV := fun W => pv_c (R 1).x0 (R 1).y0 (R 1).x1 (R 1).y1 (s 1) (D 1).length (m 1) W
        have heq := fun W => eqR (R 1).x0 (R 1).y0 (R 1).x1 (R 1).y1 (bnds r 1).x0 (bnds r 1).y0 (bnds r 1).x1 (bnds r 1).y1 W
        clear hM hI
        rw [← hW4] at hP
        rw [← hW4]
        clear hW4
        cases hpv : pvB (R 1).x0 (R 1).y0 (R 1).x1 (R 1).y1 (D 1).length with
        | false =>
          have ho : okO r R D 1 = false := by simp [okO, hpv]
          rw [hpv] at cV
          have hst := Fam.next (I := Mp w A r wr.heap.size (bnds r 1)) (fun _ _ a b => a.step b)
          have hne : Nonempty (Fam (Mp w A r wr.heap.size (bnds r 1))) := ⟨⟨_, hP⟩⟩
          have p0 : ∀ X : Fam (Mp w A r wr.heap.size (bnds r 1)), X.W.cell? ⟨w.heap.size, 5, none⟩ = some (.int .i64 (R 1).x0) := fun X => X.ok.ml.bk.cell 5 _ (by rw [HA.out]; rfl)
          have p1 : ∀ X : Fam (Mp w A r wr.heap.size (bnds r 1)), X.W.cell? ⟨w.heap.size, 6, none⟩ = some (.int .i64 (R 1).y0) := fun X => X.ok.ml.bk.cell 6 _ (by rw [HA.out]; rfl)
          have p2 : ∀ X : Fam (Mp w A r wr.heap.size (bnds r 1)), X.W.cell? ⟨w.heap.size, 7, none⟩ = some (.int .i64 (R 1).x1) := fun X => X.ok.ml.bk.cell 7 _ (by rw [HA.out]; rfl)
          have p3 : ∀ X : Fam (Mp w A r wr.heap.size (bnds r 1)), X.W.cell? ⟨w.heap.size, 8, none⟩ = some (.int .i64 (R 1).y1) := fun X => X.ok.ml.bk.cell 8 _ (by rw [HA.out]; rfl)
          have p4 : ∀ X : Fam (Mp w A r wr.heap.size (bnds r 1)), X.W.cell? ⟨w.heap.size, 9, none⟩ = some (.slice (s 1) (D 1).length (m 1)) := fun X => X.ok.ml.bk.cell 9 _ (by rw [HA.out]; rfl)
          have q0 : ∀ X : Fam (Mp w A r wr.heap.size (bnds r 1)), X.W.cell? ⟨wr.heap.size, 0, none⟩ = some (.int .i64 (bnds r 1).x0) := fun X => X.ok.part.open.1
          have q1 : ∀ X : Fam (Mp w A r wr.heap.size (bnds r 1)), X.W.cell? ⟨wr.heap.size, 1, none⟩ = some (.int .i64 (bnds r 1).y0) := fun X => X.ok.part.open.2.1
          have q2 : ∀ X : Fam (Mp w A r wr.heap.size (bnds r 1)), X.W.cell? ⟨wr.heap.size, 2, none⟩ = some (.int .i64 (bnds r 1).x1) := fun X => X.ok.part.open.2.2.1
          have q3 : ∀ X : Fam (Mp w A r wr.heap.size (bnds r 1)), X.W.cell? ⟨wr.heap.size, 3, none⟩ = some (.int .i64 (bnds r 1).y1) := fun X => X.ok.part.open.2.2.2
          refine wp_region_in (fun X : Fam (Mp w A r wr.heap.size (bnds r 1)) => X.W) (by kernel_rfl) (by kernel_rfl) ⟨⟨_, hP.step (Below.refl _ _).drew⟩, rfl⟩ ?_
          repeat (first | go_big_quiet_step ((first | (go_at_call 75; exact call_in (cV _) (hst _)))) | quiet_step ((first | (go_at_call 75; exact call_in (cV _) (hst _)))))
          refine wpQuiet_nil ?_
          intro w5 hw'
          obtain ⟨⟨_, hS5⟩, hw''⟩ := hw'
          subst hw''
          clear hst hne p0 p1 p2 p3 p4 q0 q1 q2 q3 hP
          go_wp2
          go_ret
          exact ⟨ret_int (by simp [HE.out 1 (by decide) ho]), hS5.ml.below⟩
        | true =>
          rw [hpv] at cV
          cases hq : Pl.eqB (R 1).x0 (R 1).y0 (R 1).x1 (R 1).y1 (bnds r 1).x0 (bnds r 1).y0 (bnds r 1).x1 (bnds r 1).y1 with
          | false =>
            have ho : okO r R D 1 = false := by simp [okO, hpv, hq]
            rw [hq] at heq
            have hst := Fam.next (I := Mp w A r wr.heap.size (bnds r 1)) (fun _ _ a b => a.step b)
            have hne : Nonempty (Fam (Mp w A r wr.heap.size (bnds r 1))) := ⟨⟨_, hP⟩⟩
            have p0 : ∀ X : Fam (Mp w A r wr.heap.size (bnds r 1)), X.W.cell? ⟨w.heap.size, 5, none⟩ = some (.int .i64 (R 1).x0) := fun X => X.ok.ml.bk.cell 5 _ (by rw [HA.out]; rfl)
            have p1 : ∀ X : Fam (Mp w A r wr.heap.size (bnds r 1)), X.W.cell? ⟨w.heap.size, 6, none⟩ = some (.int .i64 (R 1).y0) := fun X => X.ok.ml.bk.cell 6 _ (by rw [HA.out]; rfl)
            have p2 : ∀ X : Fam (Mp w A r wr.heap.size (bnds r 1)), X.W.cell? ⟨w.heap.size, 7, none⟩ = some (.int .i64 (R 1).x1) := fun X => X.ok.ml.bk.cell 7 _ (by rw [HA.out]; rfl)
            have p3 : ∀ X : Fam (Mp w A r wr.heap.size (bnds r 1)), X.W.cell? ⟨w.heap.size, 8, none⟩ = some (.int .i64 (R 1).y1) := fun X => X.ok.ml.bk.cell 8 _ (by rw [HA.out]; rfl)
            have p4 : ∀ X : Fam (Mp w A r wr.heap.size (bnds r 1)), X.W.cell? ⟨w.heap.size, 9, none⟩ = some (.slice (s 1) (D 1).length (m 1)) := fun X => X.ok.ml.bk.cell 9 _ (by rw [HA.out]; rfl)
            have q0 : ∀ X : Fam (Mp w A r wr.heap.size (bnds r 1)), X.W.cell? ⟨wr.heap.size, 0, none⟩ = some (.int .i64 (bnds r 1).x0) := fun X => X.ok.part.open.1
            have q1 : ∀ X : Fam (Mp w A r wr.heap.size (bnds r 1)), X.W.cell? ⟨wr.heap.size, 1, none⟩ = some (.int .i64 (bnds r 1).y0) := fun X => X.ok.part.open.2.1
            have q2 : ∀ X : Fam (Mp w A r wr.heap.size (bnds r 1)), X.W.cell? ⟨wr.heap.size, 2, none⟩ = some (.int .i64 (bnds r 1).x1) := fun X => X.ok.part.open.2.2.1
            have q3 : ∀ X : Fam (Mp w A r wr.heap.size (bnds r 1)), X.W.cell? ⟨wr.heap.size, 3, none⟩ = some (.int .i64 (bnds r 1).y1) := fun X => X.ok.part.open.2.2.2
            refine wp_region_in (fun X : Fam (Mp w A r wr.heap.size (bnds r 1)) => X.W) (by kernel_rfl) (by kernel_rfl) ⟨⟨_, hP.step (Below.refl _ _).drew⟩, rfl⟩ ?_
            repeat (first | go_big_quiet_step ((first | (go_at_call 75; exact call_in (cV _) (hst _)))) | quiet_step ((first | (go_at_call 75; exact call_in (cV _) (hst _)))))
            refine wpQuiet_nil ?_
            intro w5 hw'
            obtain ⟨⟨_, hS5⟩, hw''⟩ := hw'
            subst hw''
            clear hst hne p0 p1 p2 p3 p4 q0 q1 q2 q3 hP
            go_wp2
            go_ret
            exact ⟨ret_int (by simp [HE.out 1 (by decide) ho]), hS5.ml.below⟩
          | true =>
            have ho : okO r R D 1 = true := by simp [okO, hpv, hq]
            rw [hq] at heq
            have hst := Fam.next (I := Mp w A r wr.heap.size (bnds r 1)) (fun _ _ a b => a.step b)
            have hne : Nonempty (Fam (Mp w A r wr.heap.size (bnds r 1))) := ⟨⟨_, hP⟩⟩
            have p0 : ∀ X : Fam (Mp w A r wr.heap.size (bnds r 1)), X.W.cell? ⟨w.heap.size, 5, none⟩ = some (.int .i64 (R 1).x0) := fun X => X.ok.ml.bk.cell 5 _ (by rw [HA.out]; rfl)
            have p1 : ∀ X : Fam (Mp w A r wr.heap.size (bnds r 1)), X.W.cell? ⟨w.heap.size, 6, none⟩ = some (.int .i64 (R 1).y0) := fun X => X.ok.ml.bk.cell 6 _ (by rw [HA.out]; rfl)
            have p2 : ∀ X : Fam (Mp w A r wr.heap.size (bnds r 1)), X.W.cell? ⟨w.heap.size, 7, none⟩ = some (.int .i64 (R 1).x1) := fun X => X.ok.ml.bk.cell 7 _ (by rw [HA.out]; rfl)
            have p3 : ∀ X : Fam (Mp w A r wr.heap.size (bnds r 1)), X.W.cell? ⟨w.heap.size, 8, none⟩ = some (.int .i64 (R 1).y1) := fun X => X.ok.ml.bk.cell 8 _ (by rw [HA.out]; rfl)
            have p4 : ∀ X : Fam (Mp w A r wr.heap.size (bnds r 1)), X.W.cell? ⟨w.heap.size, 9, none⟩ = some (.slice (s 1) (D 1).length (m 1)) := fun X => X.ok.ml.bk.cell 9 _ (by rw [HA.out]; rfl)
            have q0 : ∀ X : Fam (Mp w A r wr.heap.size (bnds r 1)), X.W.cell? ⟨wr.heap.size, 0, none⟩ = some (.int .i64 (bnds r 1).x0) := fun X => X.ok.part.open.1
            have q1 : ∀ X : Fam (Mp w A r wr.heap.size (bnds r 1)), X.W.cell? ⟨wr.heap.size, 1, none⟩ = some (.int .i64 (bnds r 1).y0) := fun X => X.ok.part.open.2.1
            have q2 : ∀ X : Fam (Mp w A r wr.heap.size (bnds r 1)), X.W.cell? ⟨wr.heap.size, 2, none⟩ = some (.int .i64 (bnds r 1).x1) := fun X => X.ok.part.open.2.2.1
            have q3 : ∀ X : Fam (Mp w A r wr.heap.size (bnds r 1)), X.W.cell? ⟨wr.heap.size, 3, none⟩ = some (.int .i64 (bnds r 1).y1) := fun X => X.ok.part.open.2.2.2
            refine wp_region_in (fun X : Fam (Mp w A r wr.heap.size (bnds r 1)) => X.W) (by kernel_rfl) (by kernel_rfl) ⟨⟨_, hP.step (Below.refl _ _).drew⟩, rfl⟩ ?_
            repeat (first | go_big_quiet_step ((first | (go_at_call 75; exact call_in (cV _) (hst _)))) | quiet_step ((first | (go_at_call 75; exact call_in (cV _) (hst _)))))
            refine wpQuiet_nil ?_
            intro w5 hw'
            obtain ⟨⟨_, hS5⟩, hw''⟩ := hw'
            subst hw''
            clear hst hne p0 p1 p2 p3 p4 q0 q1 q2 q3 hP
            have HM : Hid _ := hS5.ml
            have HO : Hid (∀ o, o < 2 → okO r R D o = true) := fun o ho' => if e : o = 1 then e ▸ ho else hall o (by omega)
            clear hS5 hall heq cV
            go_wp2
            go_roundw
            case rel => exact ⟨2, by decide, by go_num, HO.out, HM.out⟩
            case measure => simp [intOf]
      · obtain ⟨W4, hW4⟩ : ∃ W4, W4 = wr.alloc (.cells #[.int .i64 (bnds r 2).x0, .int .i64 (bnds r 2).y0, .int .i64 (bnds r 2).x1, .int .i64 (bnds r 2).y1] 23) := ⟨_, rfl⟩
        have hI : ∀ W, (Instr.index 84 (.agg Q) (.int .i64 2)).run Try.prog W = .ok (.agg #[.int .i64 (bnds r 2).x0, .int .i64 (bnds r 2).y0, .int .i64 (bnds r 2).x1, .int .i64 (bnds r 2).y1]) W := fun W => by rw [HQ.out]; exact idx4 (bnds r) 2 (by decide) W
        go_upto_region 8 with fail
        have hP : Mp w A r wr.heap.size (bnds r 2) (wr.alloc (.cells #[.int .i64 (bnds r 2).x0, .int .i64 (bnds r 2).y0, .int .i64 (bnds r 2).x1, .int .i64 (bnds r 2).y1] 23)) := ⟨hM.step (below_alloc (Below.refl _ _) _), Box.fresh wr _ _ _ _ _⟩
        have cV := fun W => pv_c (R 2).x0 (R 2).y0 (R 2).x1 (R 2).y1 (s 2) (D 2).length (m 2) W
        have heq := fun W => eqR (R 2).x0 (R 2).y0 (R 2).x1 (R 2).y1 (bnds r 2).x0 (bnds r 2).y0 (bnds r 2).x1 (bnds r 2).y1 W
        clear hM hI
        rw [← hW4] at hP
        rw [← hW4]
        clear hW4
        cases hpv : pvB (R 2).x0 (R 2).y0 (R 2).x1 (R 2).y1 (D 2).length with
        | false =>
          have ho : okO r R D 2 = false := by simp [okO, hpv]
          rw [hpv] at cV
          have hst := Fam.next (I := Mp w A r wr.heap.size (bnds r 2)) (fun _ _ a b => a.step b)
          have hne : Nonempty (Fam (Mp w A r wr.heap.size (bnds r 2))) := ⟨⟨_, hP⟩⟩
          have p0 : ∀ X : Fam (Mp w A r wr.heap.size (bnds r 2)), X.W.cell? ⟨w.heap.size, 10, none⟩ = some (.int .i64 (R 2).x0) := fun X => X.ok.ml.bk.cell 10 _ (by rw [HA.out]; rfl)
          have p1 : ∀ X : Fam (Mp w A r wr.heap.size (bnds r 2)), X.W.cell? ⟨w.heap.size, 11, none⟩ = some (.int .i64 (R 2).y0) := fun X => X.ok.ml.bk.cell 11 _ (by rw [HA.out]; rfl)
          have p2 : ∀ X : Fam (Mp w A r wr.heap.size (bnds r 2)), X.W.cell? ⟨w.heap.size, 12, none⟩ = some (.int .i64 (R 2).x1) := fun X => X.ok.ml.bk.cell 12 _ (by rw [HA.out]; rfl)
          have p3 : ∀ X : Fam (Mp w A r wr.heap.size (bnds r 2)), X.W.cell? ⟨w.heap.size, 13, none⟩ = some (.int .i64 (R 2).y1) := fun X => X.ok.ml.bk.cell 13 _ (by rw [HA.out]; rfl)
          have p4 : ∀ X : Fam (Mp w A r wr.heap.size (bnds r 2)), X.W.cell? ⟨w.heap.size, 14, none⟩ = some (.slice (s 2) (D 2).length (m 2)) := fun X => X.ok.ml.bk.cell 14 _ (by rw [HA.out]; rfl)
          have q0 : ∀ X : Fam (Mp w A r wr.heap.size (bnds r 2)), X.W.cell? ⟨wr.heap.size, 0, none⟩ = some (.int .i64 (bnds r 2).x0) := fun X => X.ok.part.open.1
          have q1 : ∀ X : Fam (Mp w A r wr.heap.size (bnds r 2)), X.W.cell? ⟨wr.heap.size, 1, none⟩ = some (.int .i64 (bnds r 2).y0) := fun X => X.ok.part.open.2.1
          have q2 : ∀ X : Fam (Mp w A r wr.heap.size (bnds r 2)), X.W.cell? ⟨wr.heap.size, 2, none⟩ = some (.int .i64 (bnds r 2).x1) := fun X => X.ok.part.open.2.2.1
          have q3 : ∀ X : Fam (Mp w A r wr.heap.size (bnds r 2)), X.W.cell? ⟨wr.heap.size, 3, none⟩ = some (.int .i64 (bnds r 2).y1) := fun X => X.ok.part.open.2.2.2
          refine wp_region_in (fun X : Fam (Mp w A r wr.heap.size (bnds r 2)) => X.W) (by kernel_rfl) (by kernel_rfl) ⟨⟨_, hP.step (Below.refl _ _).drew⟩, rfl⟩ ?_
          repeat (first | go_big_quiet_step ((first | (go_at_call 75; exact call_in (cV _) (hst _)))) | quiet_step ((first | (go_at_call 75; exact call_in (cV _) (hst _)))))
          refine wpQuiet_nil ?_
          intro w5 hw'
          obtain ⟨⟨_, hS5⟩, hw''⟩ := hw'
          subst hw''
          clear hst hne p0 p1 p2 p3 p4 q0 q1 q2 q3 hP
          go_wp2
          go_ret
          exact ⟨ret_int (by simp [HE.out 2 (by decide) ho]), hS5.ml.below⟩
        | true =>
          rw [hpv] at cV
          cases hq : Pl.eqB (R 2).x0 (R 2).y0 (R 2).x1 (R 2).y1 (bnds r 2).x0 (bnds r 2).y0 (bnds r 2).x1 (bnds r 2).y1 with
          | false =>
            have ho : okO r R D 2 = false := by simp [okO, hpv, hq]
            rw [hq] at heq
            have hst := Fam.next (I := Mp w A r wr.heap.size (bnds r 2)) (fun _ _ a b => a.step b)
            have hne : Nonempty (Fam (Mp w A r wr.heap.size (bnds r 2))) := ⟨⟨_, hP⟩⟩
            have p0 : ∀ X : Fam (Mp w A r wr.heap.size (bnds r 2)), X.W.cell? ⟨w.heap.size, 10, none⟩ = some (.int .i64 (R 2).x0) := fun X => X.ok.ml.bk.cell 10 _ (by rw [HA.out]; rfl)
            have p1 : ∀ X : Fam (Mp w A r wr.heap.size (bnds r 2)), X.W.cell? ⟨w.heap.size, 11, none⟩ = some (.int .i64 (R 2).y0) := fun X => X.ok.ml.bk.cell 11 _ (by rw [HA.out]; rfl)
            have p2 : ∀ X : Fam (Mp w A r wr.heap.size (bnds r 2)), X.W.cell? ⟨w.heap.size, 12, none⟩ = some (.int .i64 (R 2).x1) := fun X => X.ok.ml.bk.cell 12 _ (by rw [HA.out]; rfl)
            have p3 : ∀ X : Fam (Mp w A r wr.heap.size (bnds r 2)), X.W.cell? ⟨w.heap.size, 13, none⟩ = some (.int .i64 (R 2).y1) := fun X => X.ok.ml.bk.cell 13 _ (by rw [HA.out]; rfl)
            have p4 : ∀ X : Fam (Mp w A r wr.heap.size (bnds r 2)), X.W.cell? ⟨w.heap.size, 14, none⟩ = some (.slice (s 2) (D 2).length (m 2)) := fun X => X.ok.ml.bk.cell 14 _ (by rw [HA.out]; rfl)
            have q0 : ∀ X : Fam (Mp w A r wr.heap.size (bnds r 2)), X.W.cell? ⟨wr.heap.size, 0, none⟩ = some (.int .i64 (bnds r 2).x0) := fun X => X.ok.part.open.1
            have q1 : ∀ X : Fam (Mp w A r wr.heap.size (bnds r 2)), X.W.cell? ⟨wr.heap.size, 1, none⟩ = some (.int .i64 (bnds r 2).y0) := fun X => X.ok.part.open.2.1
            have q2 : ∀ X : Fam (Mp w A r wr.heap.size (bnds r 2)), X.W.cell? ⟨wr.heap.size, 2, none⟩ = some (.int .i64 (bnds r 2).x1) := fun X => X.ok.part.open.2.2.1
            have q3 : ∀ X : Fam (Mp w A r wr.heap.size (bnds r 2)), X.W.cell? ⟨wr.heap.size, 3, none⟩ = some (.int .i64 (bnds r 2).y1) := fun X => X.ok.part.open.2.2.2
            refine wp_region_in (fun X : Fam (Mp w A r wr.heap.size (bnds r 2)) => X.W) (by kernel_rfl) (by kernel_rfl) ⟨⟨_, hP.step (Below.refl _ _).drew⟩, rfl⟩ ?_
            repeat (first | go_big_quiet_step ((first | (go_at_call 75; exact call_in (cV _) (hst _)))) | quiet_step ((first | (go_at_call 75; exact call_in (cV _) (hst _)))))
            refine wpQuiet_nil ?_
            intro w5 hw'
            obtain ⟨⟨_, hS5⟩, hw''⟩ := hw'
            subst hw''
            clear hst hne p0 p1 p2 p3 p4 q0 q1 q2 q3 hP
            go_wp2
            go_ret
            exact ⟨ret_int (by simp [HE.out 2 (by decide) ho]), hS5.ml.below⟩
          | true =>
            have ho : okO r R D 2 = true := by simp [okO, hpv, hq]
            rw [hq] at heq
            have hst := Fam.next (I := Mp w A r wr.heap.size (bnds r 2)) (fun _ _ a b => a.step b)
            have hne : Nonempty (Fam (Mp w A r wr.heap.size (bnds r 2))) := ⟨⟨_, hP⟩⟩
            have p0 : ∀ X : Fam (Mp w A r wr.heap.size (bnds r 2)), X.W.cell? ⟨w.heap.size, 10, none⟩ = some (.int .i64 (R 2).x0) := fun X => X.ok.ml.bk.cell 10 _ (by rw [HA.out]; rfl)
            have p1 : ∀ X : Fam (Mp w A r wr.heap.size (bnds r 2)), X.W.cell? ⟨w.heap.size, 11, none⟩ = some (.int .i64 (R 2).y0) := fun X => X.ok.ml.bk.cell 11 _ (by rw [HA.out]; rfl)
            have p2 : ∀ X : Fam (Mp w A r wr.heap.size (bnds r 2)), X.W.cell? ⟨w.heap.size, 12, none⟩ = some (.int .i64 (R 2).x1) := fun X => X.ok.ml.bk.cell 12 _ (by rw [HA.out]; rfl)
            have p3 : ∀ X : Fam (Mp w A r wr.heap.size (bnds r 2)), X.W.cell? ⟨w.heap.size, 13, none⟩ = some (.int .i64 (R 2).y1) := fun X => X.ok.ml.bk.cell 13 _ (by rw [HA.out]; rfl)
            have p4 : ∀ X : Fam (Mp w A r wr.heap.size (bnds r 2)), X.W.cell? ⟨w.heap.size, 14, none⟩ = some (.slice (s 2) (D 2).length (m 2)) := fun X => X.ok.ml.bk.cell 14 _ (by rw [HA.out]; rfl)
            have q0 : ∀ X : Fam (Mp w A r wr.heap.size (bnds r 2)), X.W.cell? ⟨wr.heap.size, 0, none⟩ = some (.int .i64 (bnds r 2).x0) := fun X => X.ok.part.open.1
            have q1 : ∀ X : Fam (Mp w A r wr.heap.size (bnds r 2)), X.W.cell? ⟨wr.heap.size, 1, none⟩ = some (.int .i64 (bnds r 2).y0) := fun X => X.ok.part.open.2.1
            have q2 : ∀ X : Fam (Mp w A r wr.heap.size (bnds r 2)), X.W.cell? ⟨wr.heap.size, 2, none⟩ = some (.int .i64 (bnds r 2).x1) := fun X => X.ok.part.open.2.2.1
            have q3 : ∀ X : Fam (Mp w A r wr.heap.size (bnds r 2)), X.W.cell? ⟨wr.heap.size, 3, none⟩ = some (.int .i64 (bnds r 2).y1) := fun X => X.ok.part.open.2.2.2
            refine wp_region_in (fun X : Fam (Mp w A r wr.heap.size (bnds r 2)) => X.W) (by kernel_rfl) (by kernel_rfl) ⟨⟨_, hP.step (Below.refl _ _).drew⟩, rfl⟩ ?_
            repeat (first | go_big_quiet_step ((first | (go_at_call 75; exact call_in (cV _) (hst _)))) | quiet_step ((first | (go_at_call 75; exact call_in (cV _) (hst _)))))
            refine wpQuiet_nil ?_
            intro w5 hw'
            obtain ⟨⟨_, hS5⟩, hw''⟩ := hw'
            subst hw''
            clear hst hne p0 p1 p2 p3 p4 q0 q1 q2 q3 hP
            have HM : Hid _ := hS5.ml
            have HO : Hid (∀ o, o < 3 → okO r R D o = true) := fun o ho' => if e : o = 2 then e ▸ ho else hall o (by omega)
            clear hS5 hall heq cV
            go_wp2
            go_roundw
            case rel => exact ⟨3, by decide, by go_num, HO.out, HM.out⟩
            case measure => simp [intOf]
      · obtain ⟨W4, hW4⟩ : ∃ W4, W4 = wr.alloc (.cells #[.int .i64 (bnds r 3).x0, .int .i64 (bnds r 3).y0, .int .i64 (bnds r 3).x1, .int .i64 (bnds r 3).y1] 23) := ⟨_, rfl⟩
        have hI : ∀ W, (Instr.index 84 (.agg Q) (.int .i64 3)).run Try.prog W = .ok (.agg #[.int .i64 (bnds r 3).x0, .int .i64 (bnds r 3).y0, .int .i64 (bnds r 3).x1, .int .i64 (bnds r 3).y1]) W := fun W => by rw [HQ.out]; exact idx4 (bnds r) 3 (by decide) W
        go_upto_region 8 with fail
        have hP : Mp w A r wr.heap.size (bnds r 3) (wr.alloc (.cells #[.int .i64 (bnds r 3).x0, .int .i64 (bnds r 3).y0, .int .i64 (bnds r 3).x1, .int .i64 (bnds r 3).y1] 23)) := ⟨hM.step (below_alloc (Below.refl _ _) _), Box.fresh wr _ _ _ _ _⟩
        have cV := fun W => pv_c (R 3).x0 (R 3).y0 (R 3).x1 (R 3).y1 (s 3) (D 3).length (m 3) W
        have heq := fun W => eqR (R 3).x0 (R 3).y0 (R 3).x1 (R 3).y1 (bnds r 3).x0 (bnds r 3).y0 (bnds r 3).x1 (bnds r 3).y1 W
        clear hM hI
        rw [← hW4] at hP
        rw [← hW4]
        clear hW4
        cases hpv : pvB (R 3).x0 (R 3).y0 (R 3).x1 (R 3).y1 (D 3).length with
        | false =>
          have ho : okO r R D 3 = false := by simp [okO, hpv]
          rw [hpv] at cV
          have hst := Fam.next (I := Mp w A r wr.heap.size (bnds r 3)) (fun _ _ a b => a.step b)
          have hne : Nonempty (Fam (Mp w A r wr.heap.size (bnds r 3))) := ⟨⟨_, hP⟩⟩
          have p0 : ∀ X : Fam (Mp w A r wr.heap.size (bnds r 3)), X.W.cell? ⟨w.heap.size, 15, none⟩ = some (.int .i64 (R 3).x0) := fun X => X.ok.ml.bk.cell 15 _ (by rw [HA.out]; rfl)
          have p1 : ∀ X : Fam (Mp w A r wr.heap.size (bnds r 3)), X.W.cell? ⟨w.heap.size, 16, none⟩ = some (.int .i64 (R 3).y0) := fun X => X.ok.ml.bk.cell 16 _ (by rw [HA.out]; rfl)
          have p2 : ∀ X : Fam (Mp w A r wr.heap.size (bnds r 3)), X.W.cell? ⟨w.heap.size, 17, none⟩ = some (.int .i64 (R 3).x1) := fun X => X.ok.ml.bk.cell 17 _ (by rw [HA.out]; rfl)
          have p3 : ∀ X : Fam (Mp w A r wr.heap.size (bnds r 3)), X.W.cell? ⟨w.heap.size, 18, none⟩ = some (.int .i64 (R 3).y1) := fun X => X.ok.ml.bk.cell 18 _ (by rw [HA.out]; rfl)
          have p4 : ∀ X : Fam (Mp w A r wr.heap.size (bnds r 3)), X.W.cell? ⟨w.heap.size, 19, none⟩ = some (.slice (s 3) (D 3).length (m 3)) := fun X => X.ok.ml.bk.cell 19 _ (by rw [HA.out]; rfl)
          have q0 : ∀ X : Fam (Mp w A r wr.heap.size (bnds r 3)), X.W.cell? ⟨wr.heap.size, 0, none⟩ = some (.int .i64 (bnds r 3).x0) := fun X => X.ok.part.open.1
          have q1 : ∀ X : Fam (Mp w A r wr.heap.size (bnds r 3)), X.W.cell? ⟨wr.heap.size, 1, none⟩ = some (.int .i64 (bnds r 3).y0) := fun X => X.ok.part.open.2.1
          have q2 : ∀ X : Fam (Mp w A r wr.heap.size (bnds r 3)), X.W.cell? ⟨wr.heap.size, 2, none⟩ = some (.int .i64 (bnds r 3).x1) := fun X => X.ok.part.open.2.2.1
          have q3 : ∀ X : Fam (Mp w A r wr.heap.size (bnds r 3)), X.W.cell? ⟨wr.heap.size, 3, none⟩ = some (.int .i64 (bnds r 3).y1) := fun X => X.ok.part.open.2.2.2
          refine wp_region_in (fun X : Fam (Mp w A r wr.heap.size (bnds r 3)) => X.W) (by kernel_rfl) (by kernel_rfl) ⟨⟨_, hP.step (Below.refl _ _).drew⟩, rfl⟩ ?_
          repeat (first | go_big_quiet_step ((first | (go_at_call 75; exact call_in (cV _) (hst _)))) | quiet_step ((first | (go_at_call 75; exact call_in (cV _) (hst _)))))
          refine wpQuiet_nil ?_
          intro w5 hw'
          obtain ⟨⟨_, hS5⟩, hw''⟩ := hw'
          subst hw''
          clear hst hne p0 p1 p2 p3 p4 q0 q1 q2 q3 hP
          go_wp2
          go_ret
          exact ⟨ret_int (by simp [HE.out 3 (by decide) ho]), hS5.ml.below⟩
        | true =>
          rw [hpv] at cV
          cases hq : Pl.eqB (R 3).x0 (R 3).y0 (R 3).x1 (R 3).y1 (bnds r 3).x0 (bnds r 3).y0 (bnds r 3).x1 (bnds r 3).y1 with
          | false =>
            have ho : okO r R D 3 = false := by simp [okO, hpv, hq]
            rw [hq] at heq
            have hst := Fam.next (I := Mp w A r wr.heap.size (bnds r 3)) (fun _ _ a b => a.step b)
            have hne : Nonempty (Fam (Mp w A r wr.heap.size (bnds r 3))) := ⟨⟨_, hP⟩⟩
            have p0 : ∀ X : Fam (Mp w A r wr.heap.size (bnds r 3)), X.W.cell? ⟨w.heap.size, 15, none⟩ = some (.int .i64 (R 3).x0) := fun X => X.ok.ml.bk.cell 15 _ (by rw [HA.out]; rfl)
            have p1 : ∀ X : Fam (Mp w A r wr.heap.size (bnds r 3)), X.W.cell? ⟨w.heap.size, 16, none⟩ = some (.int .i64 (R 3).y0) := fun X => X.ok.ml.bk.cell 16 _ (by rw [HA.out]; rfl)
            have p2 : ∀ X : Fam (Mp w A r wr.heap.size (bnds r 3)), X.W.cell? ⟨w.heap.size, 17, none⟩ = some (.int .i64 (R 3).x1) := fun X => X.ok.ml.bk.cell 17 _ (by rw [HA.out]; rfl)
            have p3 : ∀ X : Fam (Mp w A r wr.heap.size (bnds r 3)), X.W.cell? ⟨w.heap.size, 18, none⟩ = some (.int .i64 (R 3).y1) := fun X => X.ok.ml.bk.cell 18 _ (by rw [HA.out]; rfl)
            have p4 : ∀ X : Fam (Mp w A r wr.heap.size (bnds r 3)), X.W.cell? ⟨w.heap.size, 19, none⟩ = some (.slice (s 3) (D 3).length (m 3)) := fun X => X.ok.ml.bk.cell 19 _ (by rw [HA.out]; rfl)
            have q0 : ∀ X : Fam (Mp w A r wr.heap.size (bnds r 3)), X.W.cell? ⟨wr.heap.size, 0, none⟩ = some (.int .i64 (bnds r 3).x0) := fun X => X.ok.part.open.1
            have q1 : ∀ X : Fam (Mp w A r wr.heap.size (bnds r 3)), X.W.cell? ⟨wr.heap.size, 1, none⟩ = some (.int .i64 (bnds r 3).y0) := fun X => X.ok.part.open.2.1
            have q2 : ∀ X : Fam (Mp w A r wr.heap.size (bnds r 3)), X.W.cell? ⟨wr.heap.size, 2, none⟩ = some (.int .i64 (bnds r 3).x1) := fun X => X.ok.part.open.2.2.1
            have q3 : ∀ X : Fam (Mp w A r wr.heap.size (bnds r 3)), X.W.cell? ⟨wr.heap.size, 3, none⟩ = some (.int .i64 (bnds r 3).y1) := fun X => X.ok.part.open.2.2.2
            refine wp_region_in (fun X : Fam (Mp w A r wr.heap.size (bnds r 3)) => X.W) (by kernel_rfl) (by kernel_rfl) ⟨⟨_, hP.step (Below.refl _ _).drew⟩, rfl⟩ ?_
            repeat (first | go_big_quiet_step ((first | (go_at_call 75; exact call_in (cV _) (hst _)))) | quiet_step ((first | (go_at_call 75; exact call_in (cV _) (hst _)))))
            refine wpQuiet_nil ?_
            intro w5 hw'
            obtain ⟨⟨_, hS5⟩, hw''⟩ := hw'
            subst hw''
            clear hst hne p0 p1 p2 p3 p4 q0 q1 q2 q3 hP
            go_wp2
            go_ret
            exact ⟨ret_int (by simp [HE.out 3 (by decide) ho]), hS5.ml.below⟩
          | true =>
            have ho : okO r R D 3 = true := by simp [okO, hpv, hq]
            rw [hq] at heq
            have hst := Fam.next (I := Mp w A r wr.heap.size (bnds r 3)) (fun _ _ a b => a.step b)
            have hne : Nonempty (Fam (Mp w A r wr.heap.size (bnds r 3))) := ⟨⟨_, hP⟩⟩
            have p0 : ∀ X : Fam (Mp w A r wr.heap.size (bnds r 3)), X.W.cell? ⟨w.heap.size, 15, none⟩ = some (.int .i64 (R 3).x0) := fun X => X.ok.ml.bk.cell 15 _ (by rw [HA.out]; rfl)
            have p1 : ∀ X : Fam (Mp w A r wr.heap.size (bnds r 3)), X.W.cell? ⟨w.heap.size, 16, none⟩ = some (.int .i64 (R 3).y0) := fun X => X.ok.ml.bk.cell 16 _ (by rw [HA.out]; rfl)
            have p2 : ∀ X : Fam (Mp w A r wr.heap.size (bnds r 3)), X.W.cell? ⟨w.heap.size, 17, none⟩ = some (.int .i64 (R 3).x1) := fun X => X.ok.ml.bk.cell 17 _ (by rw [HA.out]; rfl)
            have p3 : ∀ X : Fam (Mp w A r wr.heap.size (bnds r 3)), X.W.cell? ⟨w.heap.size, 18, none⟩ = some (.int .i64 (R 3).y1) := fun X => X.ok.ml.bk.cell 18 _ (by rw [HA.out]; rfl)
            have p4 : ∀ X : Fam (Mp w A r wr.heap.size (bnds r 3)), X.W.cell? ⟨w.heap.size, 19, none⟩ = some (.slice (s 3) (D 3).length (m 3)) := fun X => X.ok.ml.bk.cell 19 _ (by rw [HA.out]; rfl)
            have q0 : ∀ X : Fam (Mp w A r wr.heap.size (bnds r 3)), X.W.cell? ⟨wr.heap.size, 0, none⟩ = some (.int .i64 (bnds r 3).x0) := fun X => X.ok.part.open.1
            have q1 : ∀ X : Fam (Mp w A r wr.heap.size (bnds r 3)), X.W.cell? ⟨wr.heap.size, 1, none⟩ = some (.int .i64 (bnds r 3).y0) := fun X => X.ok.part.open.2.1
            have q2 : ∀ X : Fam (Mp w A r wr.heap.size (bnds r 3)), X.W.cell? ⟨wr.heap.size, 2, none⟩ = some (.int .i64 (bnds r 3).x1) := fun X => X.ok.part.open.2.2.1
            have q3 : ∀ X : Fam (Mp w A r wr.heap.size (bnds r 3)), X.W.cell? ⟨wr.heap.size, 3, none⟩ = some (.int .i64 (bnds r 3).y1) := fun X => X.ok.part.open.2.2.2
            refine wp_region_in (fun X : Fam (Mp w A r wr.heap.size (bnds r 3)) => X.W) (by kernel_rfl) (by kernel_rfl) ⟨⟨_, hP.step (Below.refl _ _).drew⟩, rfl⟩ ?_
            repeat (first | go_big_quiet_step ((first | (go_at_call 75; exact call_in (cV _) (hst _)))) | quiet_step ((first | (go_at_call 75; exact call_in (cV _) (hst _)))))
            refine wpQuiet_nil ?_
            intro w5 hw'
            obtain ⟨⟨_, hS5⟩, hw''⟩ := hw'
            subst hw''
            clear hst hne p0 p1 p2 p3 p4 q0 q1 q2 q3 hP
            have HM : Hid _ := hS5.ml
            have HO : Hid (∀ o, o < 4 → okO r R D o = true) := fun o ho' => if e : o = 3 then e ▸ ho else hall o (by omega)
            clear hS5 hall heq cV
            go_wp2
            go_roundw
            case rel => exact ⟨4, by decide, by go_num, HO.out, HM.out⟩
            case measure => simp [intOf]
    · obtain rfl : k = 4 := Nat.le_antisymm hk4 (Nat.le_of_not_lt hlt)
      clear hk4 hlt
      have HOK : Hid _ := hall
      have HG : Hid (ok4 (fun o => fewB (D o) 281474976710656) = false → mgE r R D kn = 2) := HGG.out (ok4_true hall)
      have HZ : Hid (ok4 (fun o => fewB (D o) 281474976710656) = true → mgE r R D kn = 0) := HG0.out (ok4_true hall)
      clear hall
      go_upto_region 12 with (first | (refine wpList_load_mid rfl 27 (.tmp 3) rfl w.heap.size 0 rfl A.toList _ hM.bk.range Try.underlying27 rfl (by simpa using HAi.out) ?_))
      go_loopw [43] (fun i wr => ∃ k : Nat, k ≤ 4 ∧ i = .int .i64 k ∧ (∀ o, o < k → fewB (D o) 281474976710656 = true) ∧ Ml w A r wr) (fun i _ => 4 - (intOf i).toNat)
      case atStart => exact ⟨0, Nat.zero_le _, rfl, fun o ho => absurd ho (Nat.not_lt_zero _), hM⟩
      case round =>
        obtain ⟨k, hk4, rfl, hall2, hM2⟩ := hrel
        clear hM
        obtain ⟨wr2, rfl⟩ : ∃ wr2, wr2 = wr := ⟨_, rfl⟩
        by_cases hlt : k < 4
        · have hk5 := lt4 hlt
          clear hk4 hlt
          rcases hk5 with rfl | rfl | rfl | rfl
          · have hI : ∀ W, (Instr.index 27 (.agg A) (.int .i64 0)).run Try.prog W = .ok (.agg #[.int .i64 (R 0).x0, .int .i64 (R 0).y0, .int .i64 (R 0).x1, .int .i64 (R 0).y1, .slice (s 0) (D 0).length (m 0)]) W := fun W => by rw [HA.out]; exact idx20 R _ 0 (by decide) W
            have hpk : pvB (R 0).x0 (R 0).y0 (R 0).x1 (R 0).y1 (D 0).length = true := by have := HOK.out 0 (by decide); simp only [okO, Bool.and_eq_true] at this; exact this.1
            have hH3 := (hH 0 (by decide)).below hM2.below (Nat.le_refl _)
            have x4 := QBox.fresh wr2 (R 0).x0 (R 0).y0 (R 0).x1 (R 0).y1 (s 0) (D 0).length (m 0) 26
            have hM4 := hM2.step (below_alloc (Below.refl _ wr2) (.cells #[.int .i64 (R 0).x0, .int .i64 (R 0).y0, .int .i64 (R 0).x1, .int .i64 (R 0).y1, .slice (s 0) (D 0).length (m 0)] 26))
            have cW := within5_q (R 0).x0 (R 0).y0 (R 0).x1 (R 0).y1 281474976710656 (s 0) (m 0) (D 0) (wr2.alloc (.cells #[.int .i64 (R 0).x0, .int .i64 (R 0).y0, .int .i64 (R 0).x1, .int .i64 (R 0).y1, .slice (s 0) (D 0).length (m 0)] 26)) hpk (by decide) (by decide) (hH3.alloc _)
            obtain ⟨y0, y1, y2, y3, y4⟩ := x4.open
            clear hpk hH3
            cases hf : fewB (D 0) 281474976710656 with
            | false =>
              have HE2 : Hid (mgE r R D kn = 2) := by
                have h1 : ok4 (fun o => fewB (D o) 281474976710656) = false := ok4_false (o := 0) (by decide) hf
                exact HG.out h1
              rw [hf] at cW
              go_wp2_with fail
              refine cW.mono ?_
              rintro e w6 ⟨rfl, hb⟩
              have hM6 := hM4.step hb
              clear y0 y1 y2 y3 y4 x4 hM4 hb cW
              go_wp2
              go_ret
              exact ⟨ret_int (by rw [HE2.out]), hM6.below⟩
            | true =>
              rw [hf] at cW
              have HO2 : Hid (∀ o, o < 1 → fewB (D o) 281474976710656 = true) := fun o ho' => if e : o = 0 then e ▸ hf else hall2 o (by omega)
              go_wp2_with fail
              refine cW.mono ?_
              rintro e w6 ⟨rfl, hb⟩
              have HM : Hid _ := hM4.step hb
              clear y0 y1 y2 y3 y4 x4 hM4 hb cW hM2 hall2
              go_wp2
              go_roundw
              case rel => exact ⟨1, by decide, by go_num, HO2.out, HM.out⟩
              case measure => simp [intOf]
          · have hI : ∀ W, (Instr.index 27 (.agg A) (.int .i64 1)).run Try.prog W = .ok (.agg #[.int .i64 (R 1).x0, .int .i64 (R 1).y0, .int .i64 (R 1).x1, .int .i64 (R 1).y1, .slice (s 1) (D 1).length (m 1)]) W := fun W => by rw [HA.out]; exact idx20 R _ 1 (by decide) W
            have hpk : pvB (R 1).x0 (R 1).y0 (R 1).x1 (R 1).y1 (D 1).length = true := by have := HOK.out 1 (by decide); simp only [okO, Bool.and_eq_true] at this; exact this.1
            have hH3 := (hH 1 (by decide)).below hM2.below (Nat.le_refl _)
            have x4 := QBox.fresh wr2 (R 1).x0 (R 1).y0 (R 1).x1 (R 1).y1 (s 1) (D 1).length (m 1) 26
            have hM4 := hM2.step (below_alloc (Below.refl _ wr2) (.cells #[.int .i64 (R 1).x0, .int .i64 (R 1).y0, .int .i64 (R 1).x1, .int .i64 (R 1).y1, .slice (s 1) (D 1).length (m 1)] 26))
            have cW := within5_q (R 1).x0 (R 1).y0 (R 1).x1 (R 1).y1 281474976710656 (s 1) (m 1) (D 1) (wr2.alloc (.cells #[.int .i64 (R 1).x0, .int .i64 (R 1).y0, .int .i64 (R 1).x1, .int .i64 (R 1).y1, .slice (s 1) (D 1).length (m 1)] 26)) hpk (by decide) (by decide) (hH3.alloc _)
            obtain ⟨y0, y1, y2, y3, y4⟩ := x4.open
            clear hpk hH3
            cases hf : fewB (D 1) 281474976710656 with
            | false =>
              have HE2 : Hid (mgE r R D kn = 2) := by
                have h1 : ok4 (fun o => fewB (D o) 281474976710656) = false := ok4_false (o := 1) (by decide) hf
                exact HG.out h1
              rw [hf] at cW
              go_wp2_with fail
              refine cW.mono ?_
              rintro e w6 ⟨rfl, hb⟩
              have hM6 := hM4.step hb
              clear y0 y1 y2 y3 y4 x4 hM4 hb cW
              go_wp2
              go_ret
              exact ⟨ret_int (by rw [HE2.out]), hM6.below⟩
            | true =>
              rw [hf] at cW
              have HO2 : Hid (∀ o, o < 2 → fewB (D o) 281474976710656 = true) := fun o ho' => if e : o = 1 then e ▸ hf else hall2 o (by omega)
              go_wp2_with fail
              refine cW.mono ?_
              rintro e w6 ⟨rfl, hb⟩
              have HM : Hid _ := hM4.step hb
              clear y0 y1 y2 y3 y4 x4 hM4 hb cW hM2 hall2
              go_wp2
              go_roundw
              case rel => exact ⟨2, by decide, by go_num, HO2.out, HM.out⟩
              case measure => simp [intOf]
          · have hI : ∀ W, (Instr.index 27 (.agg A) (.int .i64 2)).run Try.prog W = .ok (.agg #[.int .i64 (R 2).x0, .int .i64 (R 2).y0, .int .i64 (R 2).x1, .int .i64 (R 2).y1, .slice (s 2) (D 2).length (m 2)]) W := fun W => by rw [HA.out]; exact idx20 R _ 2 (by decide) W
            have hpk : pvB (R 2).x0 (R 2).y0 (R 2).x1 (R 2).y1 (D 2).length = true := by have := HOK.out 2 (by decide); simp only [okO, Bool.and_eq_true] at this; exact this.1
            have hH3 := (hH 2 (by decide)).below hM2.below (Nat.le_refl _)
            have x4 := QBox.fresh wr2 (R 2).x0 (R 2).y0 (R 2).x1 (R 2).y1 (s 2) (D 2).length (m 2) 26
            have hM4 := hM2.step (below_alloc (Below.refl _ wr2) (.cells #[.int .i64 (R 2).x0, .int .i64 (R 2).y0, .int .i64 (R 2).x1, .int .i64 (R 2).y1, .slice (s 2) (D 2).length (m 2)] 26))
            have cW := within5_q (R 2).x0 (R 2).y0 (R 2).x1 (R 2).y1 281474976710656 (s 2) (m 2) (D 2) (wr2.alloc (.cells #[.int .i64 (R 2).x0, .int .i64 (R 2).y0, .int .i64 (R 2).x1, .int .i64 (R 2).y1, .slice (s 2) (D 2).length (m 2)] 26)) hpk (by decide) (by decide) (hH3.alloc _)
            obtain ⟨y0, y1, y2, y3, y4⟩ := x4.open
            clear hpk hH3
            cases hf : fewB (D 2) 281474976710656 with
            | false =>
              have HE2 : Hid (mgE r R D kn = 2) := by
                have h1 : ok4 (fun o => fewB (D o) 281474976710656) = false := ok4_false (o := 2) (by decide) hf
                exact HG.out h1
              rw [hf] at cW
              go_wp2_with fail
              refine cW.mono ?_
              rintro e w6 ⟨rfl, hb⟩
              have hM6 := hM4.step hb
              clear y0 y1 y2 y3 y4 x4 hM4 hb cW
              go_wp2
              go_ret
              exact ⟨ret_int (by rw [HE2.out]), hM6.below⟩
            | true =>
              rw [hf] at cW
              have HO2 : Hid (∀ o, o < 3 → fewB (D o) 281474976710656 = true) := fun o ho' => if e : o = 2 then e ▸ hf else hall2 o (by omega)
              go_wp2_with fail
              refine cW.mono ?_
              rintro e w6 ⟨rfl, hb⟩
              have HM : Hid _ := hM4.step hb
              clear y0 y1 y2 y3 y4 x4 hM4 hb cW hM2 hall2
              go_wp2
              go_roundw
              case rel => exact ⟨3, by decide, by go_num, HO2.out, HM.out⟩
              case measure => simp [intOf]
          · have hI : ∀ W, (Instr.index 27 (.agg A) (.int .i64 3)).run Try.prog W = .ok (.agg #[.int .i64 (R 3).x0, .int .i64 (R 3).y0, .int .i64 (R 3).x1, .int .i64 (R 3).y1, .slice (s 3) (D 3).length (m 3)]) W := fun W => by rw [HA.out]; exact idx20 R _ 3 (by decide) W
            have hpk : pvB (R 3).x0 (R 3).y0 (R 3).x1 (R 3).y1 (D 3).length = true := by have := HOK.out 3 (by decide); simp only [okO, Bool.and_eq_true] at this; exact this.1
            have hH3 := (hH 3 (by decide)).below hM2.below (Nat.le_refl _)
            have x4 := QBox.fresh wr2 (R 3).x0 (R 3).y0 (R 3).x1 (R 3).y1 (s 3) (D 3).length (m 3) 26
            have hM4 := hM2.step (below_alloc (Below.refl _ wr2) (.cells #[.int .i64 (R 3).x0, .int .i64 (R 3).y0, .int .i64 (R 3).x1, .int .i64 (R 3).y1, .slice (s 3) (D 3).length (m 3)] 26))
            have cW := within5_q (R 3).x0 (R 3).y0 (R 3).x1 (R 3).y1 281474976710656 (s 3) (m 3) (D 3) (wr2.alloc (.cells #[.int .i64 (R 3).x0, .int .i64 (R 3).y0, .int .i64 (R 3).x1, .int .i64 (R 3).y1, .slice (s 3) (D 3).length (m 3)] 26)) hpk (by decide) (by decide) (hH3.alloc _)
            obtain ⟨y0, y1, y2, y3, y4⟩ := x4.open
            clear hpk hH3
            cases hf : fewB (D 3) 281474976710656 with
            | false =>
              have HE2 : Hid (mgE r R D kn = 2) := by
                have h1 : ok4 (fun o => fewB (D o) 281474976710656) = false := ok4_false (o := 3) (by decide) hf
                exact HG.out h1
              rw [hf] at cW
              go_wp2_with fail
              refine cW.mono ?_
              rintro e w6 ⟨rfl, hb⟩
              have hM6 := hM4.step hb
              clear y0 y1 y2 y3 y4 x4 hM4 hb cW
              go_wp2
              go_ret
              exact ⟨ret_int (by rw [HE2.out]), hM6.below⟩
            | true =>
              rw [hf] at cW
              have HO2 : Hid (∀ o, o < 4 → fewB (D o) 281474976710656 = true) := fun o ho' => if e : o = 3 then e ▸ hf else hall2 o (by omega)
              go_wp2_with fail
              refine cW.mono ?_
              rintro e w6 ⟨rfl, hb⟩
              have HM : Hid _ := hM4.step hb
              clear y0 y1 y2 y3 y4 x4 hM4 hb cW hM2 hall2
              go_wp2
              go_roundw
              case rel => exact ⟨4, by decide, by go_num, HO2.out, HM.out⟩
              case measure => simp [intOf]
        · obtain rfl : k = 4 := Nat.le_antisymm hk4 (Nat.le_of_not_lt hlt)
          have HE2 : Hid (mgE r R D kn = 0) := HZ.out (ok4_true hall2)
          clear hall2
          go_wp2
          go_ret
          exact ⟨ret_int (by rw [HE2.out]), hM2.below⟩
theorem mergeable_q (r : Pl.R) (R : Nat → Pl.R) (D : Nat → List Int) (s : Nat → Option Addr) (m : Nat → Nat) (kn : Int) (A : Array Value) (hA : A = arrP R fun o => .slice (s o) (D o).length (m o)) (w : World) (hH : ∀ o, o < 4 → HoldsI w (s o) (D o)) : Calls Try.prog 61 #[.agg A, .agg #[.int .i64 r.x0, .int .i64 r.y0, .int .i64 r.x1, .int .i64 r.y1], .int .i64 kn] w fun e w' => e = .returned (.int .i64 (mgE r R D kn)) ∧ Below w.heap.size w w' := by
  cases hv : Pl.validB r.x0 r.y0 r.x1 r.y1 with
  | false =>
    have e : mgE r R D kn = 2 := if_neg (by rw [hv]; simp)
    rw [e]
    exact mgb_no1 r R D s m kn A hA w hv
  | true =>
    by_cases ha : Pl.areaI r.x0 r.y0 r.x1 r.y1 ≤ 1048576
    · cases hk : kB kn with
      | false =>
        have e : mgE r R D kn = 3 := by rw [mgE, if_pos ⟨hv, ha⟩, if_neg (by rw [hk]; simp)]
        rw [e]
        exact mgb_no3 r R D s m kn A hA w hv ha hk
      | true => exact mgb_yes r R D s m kn A hA w hv ha hk hH
    · have e : mgE r R D kn = 2 := if_neg (fun q => ha q.2)
      rw [e]
      exact mgb_no2 r R D s m kn A hA w hv (by omega)
end Go.Proofs.Ytoplgnckdmkaoaa

namespace Go.Proofs.Ytoplgnckdmkaoaa
open Go.RowKit

/-- The call returns a plane and an error. -/
def GivesPl (r : Pl.R) (L : List Int) (err : Int) (w : World) (e : Ending) (w' : World) : Prop :=
  ∃ s m, e = .returned (.tuple #[.agg #[.int .i64 r.x0, .int .i64 r.y0, .int .i64 r.x1, .int .i64 r.y1, .slice s L.length m], .int .i64 err]) ∧ HoldsI w' s L ∧ L.length ≤ m ∧ Fresh w s ∧ Below w.heap.size w w'
theorem unC_within {st kn b : Int} {n : Nat} {A B : List (List Int)} (hk : kB kn = true) (hb : 0 ≤ b) (hA : Ex.Wide n A) (hB : Ex.Wide n B) (wA : Ex.within b A.flatten) (wB : Ex.within b B.flatten) : Ex.within (3 * b + 3) (Ex.unC st kn n A B).flatten := by
  intro v hv
  obtain ⟨r, hr, hvr⟩ := List.mem_flatten.1 hv
  obtain ⟨y, _, rfl⟩ := List.mem_map.1 hr
  obtain ⟨c, hc, rfl⟩ := List.mem_map.1 hvr
  obtain ⟨k, hkl, rfl⟩ := List.getElem_of_mem hc
  have hkn : k < n := by
    have := hkl
    rw [List.length_zipWith, Ex.trn_len, Ex.trn_len, Nat.min_self] at this
    exact this
  have e : (List.zipWith (Ex.unF st kn) (Ex.trn n A) (Ex.trn n B))[k] = Ex.unF st kn (colA A k) (colA B k) := by
    have := un_at (b := st) (kn := kn) (A := A) (B := B) hkn
    rw [List.getD_eq_getElem?_getD, List.getElem?_eq_getElem hkl] at this
    exact this
  have hw : Ex.within (3 * b + 3) (Ex.unF st kn (colA A k) (colA B k)) := Ex.inv_fine (k_iff.1 hk) hb (joinL_within hb (col_within hA hkn wA) (col_within hB hkn wB))
  rw [e]
  generalize Ex.unF st kn (colA A k) (colA B k) = U at *
  rcases Nat.lt_or_ge y U.length with q | q
  · rw [List.getD_eq_getElem?_getD, List.getElem?_eq_getElem q]
    exact hw _ (List.getElem_mem q)
  · rw [List.getD_eq_getElem?_getD, List.getElem?_eq_none q]
    simp only [Option.getD_none]
    omega
theorem arrP_ok {r : Pl.R} {R : Nat → Pl.R} {D : Nat → List Int} (V : Nat → Value) (h : ok4 (okO r R D) = true) : arrP R V = arrP (bnds r) V := by
  have e : ∀ o, o < 4 → R o = bnds r o := fun o ho => by
    have := ok4_iff.1 h o ho
    simp only [okO, Bool.and_eq_true] at this
    obtain ⟨h0, h1, h2, h3⟩ := Pl.eq_iff.1 this.2
    cases hR : R o
    cases hB : bnds r o
    simp only [hR, hB] at h0 h1 h2 h3
    rw [h0, h1, h2, h3]
  simp only [arrP, e 0 (by decide), e 1 (by decide), e 2 (by decide), e 3 (by decide)]
/-- The arguments of Merge in memory, and its result. -/
structure KW (w : World) (A : Array Value) (r : Pl.R) (kn : Int) (W : World) : Prop where
  below : Below w.heap.size w W
  bk : Blk W w.heap.size 27 A
  rr : Box W (w.heap.size + 1) r
  kk : Blk W (w.heap.size + 2) 28 #[.int .i64 kn]
  z : QBox W (w.heap.size + 3) ⟨0, 0, 0, 0⟩ (.slice none 0 0)
section
variable {w W : World} {A : Array Value} {r : Pl.R} {kn : Int}
theorem KW.step {W1 : World} (h : KW w A r kn W) (hb : Below W.heap.size W W1) : KW w A r kn W1 := ⟨below_call h.below hb, h.bk.below hb, h.rr.below hb, h.kk.below hb, h.z.below hb⟩
theorem KW.alloc (h : KW w A r kn W) (X : Obj) : KW w A r kn (W.alloc X) := h.step ((Below.refl _ _).alloc (Nat.le_refl _) _)
theorem KW.drew (h : KW w A r kn W) : KW w A r kn W.drew := h.step (Below.refl _ _).drew
theorem KW.but {W1 : World} {B : Nat} (h : KW w A r kn W) (hb : But B W W1) (hB : w.heap.size + 3 < B) : KW w A r kn W1 :=
  ⟨But.below h.below hb (by omega), h.bk.but hb (by omega), h.rr.but hb (by omega), h.kk.but hb (by omega), h.z.but hb (by omega)⟩
theorem KW.far5 (h : KW w A r kn W) {B : Nat} (hB : w.heap.size + 3 < B) (v0 v1 v2 v3 v4 : Value) : KW w A r kn (((((W.setCell ⟨B, 0, none⟩ v0).setCell ⟨B, 1, none⟩ v1).setCell ⟨B, 2, none⟩ v2).setCell ⟨B, 3, none⟩ v3).setCell ⟨B, 4, none⟩ v4) := h.but (but5 _ _ _ _ _) hB
theorem KW.lt (h : KW w A r kn W) : w.heap.size + 3 < W.heap.size := h.z.lt
theorem KW.open20 {D : Nat → List Int} {s : Nat → Option Addr} {m : Nat → Nat} (hA : Hid (A = arrP (bnds r) fun o => .slice (s o) (D o).length (m o))) (h : KW w A r kn W) : W.cell? ⟨w.heap.size, 0, none⟩ = some (.int .i64 (bnds r 0).x0) ∧ W.cell? ⟨w.heap.size, 1, none⟩ = some (.int .i64 (bnds r 0).y0) ∧ W.cell? ⟨w.heap.size, 2, none⟩ = some (.int .i64 (bnds r 0).x1) ∧ W.cell? ⟨w.heap.size, 3, none⟩ = some (.int .i64 (bnds r 0).y1) ∧ W.cell? ⟨w.heap.size, 4, none⟩ = some (.slice (s 0) (D 0).length (m 0)) ∧ W.cell? ⟨w.heap.size, 5, none⟩ = some (.int .i64 (bnds r 1).x0) ∧ W.cell? ⟨w.heap.size, 6, none⟩ = some (.int .i64 (bnds r 1).y0) ∧ W.cell? ⟨w.heap.size, 7, none⟩ = some (.int .i64 (bnds r 1).x1) ∧ W.cell? ⟨w.heap.size, 8, none⟩ = some (.int .i64 (bnds r 1).y1) ∧ W.cell? ⟨w.heap.size, 9, none⟩ = some (.slice (s 1) (D 1).length (m 1)) ∧ W.cell? ⟨w.heap.size, 10, none⟩ = some (.int .i64 (bnds r 2).x0) ∧ W.cell? ⟨w.heap.size, 11, none⟩ = some (.int .i64 (bnds r 2).y0) ∧ W.cell? ⟨w.heap.size, 12, none⟩ = some (.int .i64 (bnds r 2).x1) ∧ W.cell? ⟨w.heap.size, 13, none⟩ = some (.int .i64 (bnds r 2).y1) ∧ W.cell? ⟨w.heap.size, 14, none⟩ = some (.slice (s 2) (D 2).length (m 2)) ∧ W.cell? ⟨w.heap.size, 15, none⟩ = some (.int .i64 (bnds r 3).x0) ∧ W.cell? ⟨w.heap.size, 16, none⟩ = some (.int .i64 (bnds r 3).y0) ∧ W.cell? ⟨w.heap.size, 17, none⟩ = some (.int .i64 (bnds r 3).x1) ∧ W.cell? ⟨w.heap.size, 18, none⟩ = some (.int .i64 (bnds r 3).y1) ∧ W.cell? ⟨w.heap.size, 19, none⟩ = some (.slice (s 3) (D 3).length (m 3)) :=
  ⟨h.bk.cell 0 _ (by rw [hA.out]; rfl), h.bk.cell 1 _ (by rw [hA.out]; rfl), h.bk.cell 2 _ (by rw [hA.out]; rfl), h.bk.cell 3 _ (by rw [hA.out]; rfl), h.bk.cell 4 _ (by rw [hA.out]; rfl), h.bk.cell 5 _ (by rw [hA.out]; rfl), h.bk.cell 6 _ (by rw [hA.out]; rfl), h.bk.cell 7 _ (by rw [hA.out]; rfl), h.bk.cell 8 _ (by rw [hA.out]; rfl), h.bk.cell 9 _ (by rw [hA.out]; rfl), h.bk.cell 10 _ (by rw [hA.out]; rfl), h.bk.cell 11 _ (by rw [hA.out]; rfl), h.bk.cell 12 _ (by rw [hA.out]; rfl), h.bk.cell 13 _ (by rw [hA.out]; rfl), h.bk.cell 14 _ (by rw [hA.out]; rfl), h.bk.cell 15 _ (by rw [hA.out]; rfl), h.bk.cell 16 _ (by rw [hA.out]; rfl), h.bk.cell 17 _ (by rw [hA.out]; rfl), h.bk.cell 18 _ (by rw [hA.out]; rfl), h.bk.cell 19 _ (by rw [hA.out]; rfl)⟩
/-- The halves stand in their variables. -/
structure Fin (w : World) (A : Array Value) (r : Pl.R) (kn : Int) (q1 q2 : Pl.R) (n1 n2 : Nat) (L1 L2 : List Int) (B1 B2 g1 g2 : Nat) (W : World) : Prop where
  kw : KW w A r kn W
  b1 : QBox W B1 q1 (.slice (some ⟨g1, 0, none⟩) n1 n1)
  b2 : QBox W B2 q2 (.slice (some ⟨g2, 0, none⟩) n2 n2)
  r1 : RowAt W g1 L1
  r2 : RowAt W g2 L2
abbrev plC (q : Pl.R) (g n : Nat) : Array Value := #[.int .i64 q.x0, .int .i64 q.y0, .int .i64 q.x1, .int .i64 q.y1, .slice (some ⟨g, 0, none⟩) n n]
variable {q1 q2 : Pl.R} {n1 n2 : Nat} {L1 L2 : List Int} {g1 g2 : Nat}
theorem QBox.fresh' (W : World) (q : Pl.R) (g n : Nat) : QBox (W.alloc (.cells #[.int .i64 q.x0, .int .i64 q.y0, .int .i64 q.x1, .int .i64 q.y1, .slice (some ⟨g, 0, none⟩) n n] 26)) W.heap.size q (.slice (some ⟨g, 0, none⟩) n n) := QBox.fresh W q.x0 q.y0 q.x1 q.y1 (some ⟨g, 0, none⟩) n n 26
theorem fin1 (k : KW w A r kn W) (r1 : RowAt W g1 L1) (r2 : RowAt W g2 L2) : Fin w A r kn q1 q2 n1 n2 L1 L2 W.heap.size (W.heap.size + 1) g1 g2 ((W.alloc (.cells #[.int .i64 q1.x0, .int .i64 q1.y0, .int .i64 q1.x1, .int .i64 q1.y1, .slice (some ⟨g1, 0, none⟩) n1 n1] 26)).alloc (.cells #[.int .i64 q2.x0, .int .i64 q2.y0, .int .i64 q2.x1, .int .i64 q2.y1, .slice (some ⟨g2, 0, none⟩) n2 n2] 26)) :=
  ⟨(k.alloc _).alloc _, (QBox.fresh' W q1 g1 n1).alloc _, QBox.freshAt (W.alloc _) (W.heap.size + 1) (by simp) q2.x0 q2.y0 q2.x1 q2.y1 (some ⟨g2, 0, none⟩) n2 n2 26, (r1.alloc _).alloc _, (r2.alloc _).alloc _⟩
theorem fin2 (k : KW w A r kn W) (r1 : RowAt W g1 L1) (r2 : RowAt W g2 L2) : Fin w A r kn q1 q2 n1 n2 L1 L2 (W.heap.size + 1) W.heap.size g1 g2 ((W.alloc (.cells #[.int .i64 q2.x0, .int .i64 q2.y0, .int .i64 q2.x1, .int .i64 q2.y1, .slice (some ⟨g2, 0, none⟩) n2 n2] 26)).alloc (.cells #[.int .i64 q1.x0, .int .i64 q1.y0, .int .i64 q1.x1, .int .i64 q1.y1, .slice (some ⟨g1, 0, none⟩) n1 n1] 26)) :=
  ⟨(k.alloc _).alloc _, QBox.freshAt (W.alloc _) (W.heap.size + 1) (by simp) q1.x0 q1.y0 q1.x1 q1.y1 (some ⟨g1, 0, none⟩) n1 n1 26, (QBox.fresh' W q2 g2 n2).alloc _, (r1.alloc _).alloc _, (r2.alloc _).alloc _⟩
theorem fin3 (k : KW w A r kn W) (r1 : RowAt W g1 L1) (r2 : RowAt W g2 L2) {B : Nat} {z : Pl.R} {v : Value} (b : QBox W B z v) (hB : w.heap.size + 3 < B) (h1 : g1 ≠ B) (h2 : g2 ≠ B) : Fin w A r kn q1 q2 n1 n2 L1 L2 B W.heap.size g1 g2 ((((((W.setCell ⟨B, 0, none⟩ (.int .i64 q1.x0)).setCell ⟨B, 1, none⟩ (.int .i64 q1.y0)).setCell ⟨B, 2, none⟩ (.int .i64 q1.x1)).setCell ⟨B, 3, none⟩ (.int .i64 q1.y1)).setCell ⟨B, 4, none⟩ (.slice (some ⟨g1, 0, none⟩) n1 n1)).alloc (.cells #[.int .i64 q2.x0, .int .i64 q2.y0, .int .i64 q2.x1, .int .i64 q2.y1, .slice (some ⟨g2, 0, none⟩) n2 n2] 26)) := by
  refine ⟨(k.far5 hB _ _ _ _ _).alloc _, (b.store q1.x0 q1.y0 q1.x1 q1.y1 (.slice (some ⟨g1, 0, none⟩) n1 n1)).alloc _, QBox.freshAt _ W.heap.size (by simp only [World.size_setCell]) q2.x0 q2.y0 q2.x1 q2.y1 (some ⟨g2, 0, none⟩) n2 n2 26, (RowAt.but r1 (but5 _ _ _ _ _) h1).alloc _, (RowAt.but r2 (but5 _ _ _ _ _) h2).alloc _⟩
theorem fin4 (k : KW w A r kn W) (r1 : RowAt W g1 L1) (r2 : RowAt W g2 L2) {B : Nat} {z : Pl.R} {v : Value} (b : QBox W B z v) (hB : w.heap.size + 3 < B) (h1 : g1 ≠ B) (h2 : g2 ≠ B) : Fin w A r kn q1 q2 n1 n2 L1 L2 W.heap.size B g1 g2 ((((((W.setCell ⟨B, 0, none⟩ (.int .i64 q2.x0)).setCell ⟨B, 1, none⟩ (.int .i64 q2.y0)).setCell ⟨B, 2, none⟩ (.int .i64 q2.x1)).setCell ⟨B, 3, none⟩ (.int .i64 q2.y1)).setCell ⟨B, 4, none⟩ (.slice (some ⟨g2, 0, none⟩) n2 n2)).alloc (.cells #[.int .i64 q1.x0, .int .i64 q1.y0, .int .i64 q1.x1, .int .i64 q1.y1, .slice (some ⟨g1, 0, none⟩) n1 n1] 26)) := by
  refine ⟨(k.far5 hB _ _ _ _ _).alloc _, QBox.freshAt _ W.heap.size (by simp only [World.size_setCell]) q1.x0 q1.y0 q1.x1 q1.y1 (some ⟨g1, 0, none⟩) n1 n1 26, (b.store q2.x0 q2.y0 q2.x1 q2.y1 (.slice (some ⟨g2, 0, none⟩) n2 n2)).alloc _, (RowAt.but r1 (but5 _ _ _ _ _) h1).alloc _, (RowAt.but r2 (but5 _ _ _ _ _) h2).alloc _⟩
theorem fin5 (k : KW w A r kn W) (r1 : RowAt W g1 L1) (r2 : RowAt W g2 L2) {B C : Nat} {z z' : Pl.R} {v v' : Value} (b : QBox W B z v) (c : QBox W C z' v') (hB : w.heap.size + 3 < B) (hC : w.heap.size + 3 < C) (hne : B ≠ C) (h1 : g1 ≠ B) (h2 : g2 ≠ B) (h3 : g1 ≠ C) (h4 : g2 ≠ C) : Fin w A r kn q1 q2 n1 n2 L1 L2 B C g1 g2 ((((((((((W.setCell ⟨B, 0, none⟩ (.int .i64 q1.x0)).setCell ⟨B, 1, none⟩ (.int .i64 q1.y0)).setCell ⟨B, 2, none⟩ (.int .i64 q1.x1)).setCell ⟨B, 3, none⟩ (.int .i64 q1.y1)).setCell ⟨B, 4, none⟩ (.slice (some ⟨g1, 0, none⟩) n1 n1)).setCell ⟨C, 0, none⟩ (.int .i64 q2.x0)).setCell ⟨C, 1, none⟩ (.int .i64 q2.y0)).setCell ⟨C, 2, none⟩ (.int .i64 q2.x1)).setCell ⟨C, 3, none⟩ (.int .i64 q2.y1)).setCell ⟨C, 4, none⟩ (.slice (some ⟨g2, 0, none⟩) n2 n2)) := by
  refine ⟨(k.far5 hB _ _ _ _ _).far5 hC _ _ _ _ _, (b.store q1.x0 q1.y0 q1.x1 q1.y1 (.slice (some ⟨g1, 0, none⟩) n1 n1)).far5 hne _ _ _ _ _, (c.far5 (Ne.symm hne) _ _ _ _ _).store q2.x0 q2.y0 q2.x1 q2.y1 (.slice (some ⟨g2, 0, none⟩) n2 n2), RowAt.but (RowAt.but r1 (but5 _ _ _ _ _) h1) (but5 _ _ _ _ _) h3, RowAt.but (RowAt.but r2 (but5 _ _ _ _ _) h2) (but5 _ _ _ _ _) h4⟩
end
set_option maxHeartbeats 4000000 in
theorem mergec_no (r : Pl.R) (R : Nat → Pl.R) (D : Nat → List Int) (s : Nat → Option Addr) (m : Nat → Nat) (kn : Int) (A : Array Value) (hA : A = arrP R fun o => .slice (s o) (D o).length (m o)) (w : World) (hH : ∀ o, o < 4 → HoldsI w (s o) (D o)) (E : Int) (hE : mgE r R D kn = E) (hne : E ≠ 0) :
    Calls Try.prog 17 #[.agg A, .agg #[.int .i64 r.x0, .int .i64 r.y0, .int .i64 r.x1, .int .i64 r.y1], .int .i64 kn] w (GivesPl zR [] E w) := by
  have x0 : KW w A r kn ((((w.alloc (.cells A 27)).alloc (.cells #[.int .i64 r.x0, .int .i64 r.y0, .int .i64 r.x1, .int .i64 r.y1] 23)).alloc (.cells #[.int .i64 kn] 28)).alloc (.cells #[.int .i64 0, .int .i64 0, .int .i64 0, .int .i64 0, .slice none 0 0] 26)) := ⟨below_alloc (below_alloc (below_alloc (below_alloc (Below.refl _ w) _) _) _) _, (((Blk.fresh w 27 A).alloc _).alloc _).alloc _, ((Box.freshAt (w.alloc _) (w.heap.size + 1) (by simp) r.x0 r.y0 r.x1 r.y1 _).alloc _ _).alloc _ _, (Blk.freshAt ((w.alloc _).alloc _) (w.heap.size + 2) (by simp) 28 #[.int .i64 kn]).alloc _, QBox.freshAt (((w.alloc _).alloc _).alloc _) (w.heap.size + 3) (by simp) 0 0 0 0 none 0 0 _⟩
  have HAz : Hid (20 = A.size) := by rw [hA]; rfl
  have HAi : Hid ((Try.prog.info? 27).map (·.size) = some A.size) := by rw [hA]; exact info20
  have cM := mergeable_q r R D s m kn A hA ((((w.alloc (.cells A 27)).alloc (.cells #[.int .i64 r.x0, .int .i64 r.y0, .int .i64 r.x1, .int .i64 r.y1] 23)).alloc (.cells #[.int .i64 kn] 28)).alloc (.cells #[.int .i64 0, .int .i64 0, .int .i64 0, .int .i64 0, .slice none 0 0] 26)) (fun o ho => (hH o ho).below x0.below (Nat.le_refl _))
  rw [hE] at cM
  clear hA hH hE
  have e1 : (E == 0) = false := by rw [beq_eq_false_iff_ne]; exact hne
  have e2 : (E != 0) = true := by simp [hne]
  have e3 : decide (E = 0) = false := by rw [decide_eq_false_iff_not]; exact hne
  clear hne
  go_enter Try.func17, Try.ntmps17
  obtain ⟨c0, c1, c2, c3⟩ := x0.rr.open
  have ck := x0.kk.cell 0 _ rfl
  go_wp2_with (first | (refine wpList_load_mid rfl 27 (.tmp 3) rfl w.heap.size 0 rfl A.toList _ x0.bk.range Try.underlying27 rfl (by simpa using HAi.out) ?_))
  clear c0 c1 c2 c3 ck
  refine cM.mono ?_
  rintro e w1 ⟨rfl, hb⟩
  replace x0 := x0.step hb
  clear hb cM
  have hz := x0.z
  obtain ⟨u0, u1, u2, u3, u4⟩ := hz.open
  have hzf := hz.free
  have HB : Hid _ := x0.below
  clear x0
  go_wp2
  have hst := hz.store 0 0 0 0 (.slice none 0 0)
  obtain ⟨p0, p1, p2, p3, p4⟩ := hst.open
  refine bodyPost_ret (v := .tuple #[.agg #[.int .i64 0, .int .i64 0, .int .i64 0, .int .i64 0, .slice none 0 0], .int .i64 E]) (by simp [results, Try.results17, go_sem, p0, p1, p2, p3, p4]) rfl ⟨none, 0, rfl, .inl rfl, Nat.le_refl _, fresh_none _, below5 HB.out (by omega) _ _ _ _ _⟩
set_option maxHeartbeats 16000000 in
theorem mergec_yes (r : Pl.R) (D : Nat → List Int) (s : Nat → Option Addr) (m : Nat → Nat) (kn : Int) (n h : Nat) (A : Array Value) (hA : A = arrP (bnds r) fun o => .slice (s o) (D o).length (m o)) (w : World) (hH : ∀ o, o < 4 → HoldsI w (s o) (D o)) (hE : mgE r (bnds r) D kn = 0)
    (hv : Pl.validB r.x0 r.y0 r.x1 r.y1 = true) (har : h * n ≤ 1048576) (hn : r.x1 - r.x0 = (n : Int)) (hh : r.y1 - r.y0 = (h : Int)) (hk : kB kn = true) (pv : ∀ o, o < 4 → pvB (bnds r o).x0 (bnds r o).y0 (bnds r o).x1 (bnds r o).y1 (D o).length = true) (fw : ∀ o, o < 4 → fewB (D o) 281474976710656 = true) :
    Calls Try.prog 17 #[.agg A, .agg #[.int .i64 r.x0, .int .i64 r.y0, .int .i64 r.x1, .int .i64 r.y1], .int .i64 kn] w (GivesPl r (Ex.mrg r.x0 r.y0 kn n (Ex.cutR (wdO r.x0 n 0) (D 0) (htO r.y0 h 0)) (Ex.cutR (wdO r.x0 n 1) (D 1) (htO r.y0 h 1)) (Ex.cutR (wdO r.x0 n 2) (D 2) (htO r.y0 h 2)) (Ex.cutR (wdO r.x0 n 3) (D 3) (htO r.y0 h 3))).flatten 0 w) := by
  obtain ⟨v1, v2, v3, v4, v5, v6⟩ := Pl.valid_iff.1 hv
  have len : ∀ o, o < 4 → (D o).length = htO r.y0 h o * wdO r.x0 n o := fun o ho => by
    have h1 := (pv_iff.1 (pv o ho)).2.2
    rw [bnd_area hv hn hh o] at h1
    omega
  have ex2 : (bnds r 2).x0 = (bnds r 0).x0 ∧ (bnds r 2).x1 = (bnds r 0).x1 := by simp [bnds, hv, bndR, orH]
  have ex3 : (bnds r 3).x0 = (bnds r 1).x0 ∧ (bnds r 3).x1 = (bnds r 1).x1 := by simp [bnds, hv, bndR, orH]
  have hval : ∀ o, Pl.validB (bnds r o).x0 r.y0 (bnds r o).x1 r.y1 = true := fun o => by
    obtain ⟨z1, z2, z3, _, _, _⟩ := Pl.valid_iff.1 (bnd_size hv hn hh o).2.2
    exact Pl.valid_iff.2 ⟨z1, z2, z3, v4, v5, v6⟩
  have hle : ∀ o, h * wdO r.x0 n o ≤ 1048576 := fun o => Nat.le_trans (Nat.mul_le_mul (Nat.le_refl _) (wd_le _ n o)) har
  obtain ⟨n0, hn0⟩ : ∃ n0, n0 = h * wdO r.x0 n 0 := ⟨_, rfl⟩
  obtain ⟨n1, hn1⟩ : ∃ n1, n1 = h * wdO r.x0 n 1 := ⟨_, rfl⟩
  obtain ⟨L0, hL0⟩ : ∃ L0, L0 = (Ex.unC r.y0 kn (wdO r.x0 n 0) (Ex.cutR (wdO r.x0 n 0) (D 0) (htO r.y0 h 0)) (Ex.cutR (wdO r.x0 n 2) (D 2) (htO r.y0 h 2))).flatten := ⟨_, rfl⟩
  obtain ⟨L1, hL1⟩ : ∃ L1, L1 = (Ex.unC r.y0 kn (wdO r.x0 n 1) (Ex.cutR (wdO r.x0 n 1) (D 1) (htO r.y0 h 1)) (Ex.cutR (wdO r.x0 n 3) (D 3) (htO r.y0 h 3))).flatten := ⟨_, rfl⟩
  have cL : ∀ W, KW w A r kn W → Calls Try.prog 62 #[.agg #[.int .i64 (bnds r 0).x0, .int .i64 (bnds r 0).y0, .int .i64 (bnds r 0).x1, .int .i64 (bnds r 0).y1, .slice (s 0) (D 0).length (m 0)], .agg #[.int .i64 (bnds r 2).x0, .int .i64 (bnds r 2).y0, .int .i64 (bnds r 2).x1, .int .i64 (bnds r 2).y1, .slice (s 2) (D 2).length (m 2)], .pointer (some ⟨w.heap.size + 1, 0, none⟩), .pointer (some ⟨w.heap.size + 1 + 1, 0, none⟩)] W
      fun e w' => ∃ g, e = .returned (.agg #[.int .i64 (bnds r 0).x0, .int .i64 r.y0, .int .i64 (bnds r 0).x1, .int .i64 r.y1, .slice (some ⟨g, 0, none⟩) n0 n0]) ∧ W.heap.size ≤ g ∧ RowAt w' g L0 ∧ Below W.heap.size W w' := fun W hW => by
    rw [ex2.1, ex2.2]
    have := mcol_q (bnds r 0).x0 (bnds r 0).y0 (bnds r 0).x1 (bnds r 0).y1 (bnds r 2).y0 (bnds r 2).y1 r.x0 r.y0 r.x1 r.y1 kn (Ex.cutR (wdO r.x0 n 0) (D 0) (htO r.y0 h 0)) (Ex.cutR (wdO r.x0 n 2) (D 2) (htO r.y0 h 2)) (s 0) (s 2) (m 0) (m 2) (wdO r.x0 n 0) h (D 0).length (D 2).length (w.heap.size + 1) (w.heap.size + 2) W
      (pv 0 (by decide)) (by have := pv 2 (by decide); rw [ex2.1, ex2.2] at this; exact this) (by rw [Ex.cutR_flat (len 0 (by decide))]) (by rw [Ex.cutR_flat (len 2 (by decide))]) (Ex.cutR_wide (len 0 (by decide))) (Ex.cutR_wide (len 2 (by decide))) (Ex.cutR_len _ _ _) (Ex.cutR_len _ _ _)
      (bnd_size hv hn hh 0).1 (bnd_size hv hn hh 0).2.1 (bnd_size hv hn hh 2).2.1 (hval 0) hh (hle 0) hk (by rw [Ex.cutR_flat (len 0 (by decide))]; exact few_iff.1 (fw 0 (by decide))) (by rw [Ex.cutR_flat (len 2 (by decide))]; exact few_iff.1 (fw 2 (by decide)))
      (by rw [Ex.cutR_flat (len 0 (by decide))]; exact (hH 0 (by decide)).below hW.below (Nat.le_refl _)) (by rw [Ex.cutR_flat (len 2 (by decide))]; exact (hH 2 (by decide)).below hW.below (Nat.le_refl _))
      hW.rr.open.1 hW.rr.open.2.1 hW.rr.open.2.2.1 hW.rr.open.2.2.2 (hW.kk.cell 0 _ rfl)
    rw [← hn0, ← hL0] at this
    exact this
  have cH : ∀ W, KW w A r kn W → Calls Try.prog 62 #[.agg #[.int .i64 (bnds r 1).x0, .int .i64 (bnds r 1).y0, .int .i64 (bnds r 1).x1, .int .i64 (bnds r 1).y1, .slice (s 1) (D 1).length (m 1)], .agg #[.int .i64 (bnds r 3).x0, .int .i64 (bnds r 3).y0, .int .i64 (bnds r 3).x1, .int .i64 (bnds r 3).y1, .slice (s 3) (D 3).length (m 3)], .pointer (some ⟨w.heap.size + 1, 0, none⟩), .pointer (some ⟨w.heap.size + 1 + 1, 0, none⟩)] W
      fun e w' => ∃ g, e = .returned (.agg #[.int .i64 (bnds r 1).x0, .int .i64 r.y0, .int .i64 (bnds r 1).x1, .int .i64 r.y1, .slice (some ⟨g, 0, none⟩) n1 n1]) ∧ W.heap.size ≤ g ∧ RowAt w' g L1 ∧ Below W.heap.size W w' := fun W hW => by
    rw [ex3.1, ex3.2]
    have := mcol_q (bnds r 1).x0 (bnds r 1).y0 (bnds r 1).x1 (bnds r 1).y1 (bnds r 3).y0 (bnds r 3).y1 r.x0 r.y0 r.x1 r.y1 kn (Ex.cutR (wdO r.x0 n 1) (D 1) (htO r.y0 h 1)) (Ex.cutR (wdO r.x0 n 3) (D 3) (htO r.y0 h 3)) (s 1) (s 3) (m 1) (m 3) (wdO r.x0 n 1) h (D 1).length (D 3).length (w.heap.size + 1) (w.heap.size + 2) W
      (pv 1 (by decide)) (by have := pv 3 (by decide); rw [ex3.1, ex3.2] at this; exact this) (by rw [Ex.cutR_flat (len 1 (by decide))]) (by rw [Ex.cutR_flat (len 3 (by decide))]) (Ex.cutR_wide (len 1 (by decide))) (Ex.cutR_wide (len 3 (by decide))) (Ex.cutR_len _ _ _) (Ex.cutR_len _ _ _)
      (bnd_size hv hn hh 1).1 (bnd_size hv hn hh 1).2.1 (bnd_size hv hn hh 3).2.1 (hval 1) hh (hle 1) hk (by rw [Ex.cutR_flat (len 1 (by decide))]; exact few_iff.1 (fw 1 (by decide))) (by rw [Ex.cutR_flat (len 3 (by decide))]; exact few_iff.1 (fw 3 (by decide)))
      (by rw [Ex.cutR_flat (len 1 (by decide))]; exact (hH 1 (by decide)).below hW.below (Nat.le_refl _)) (by rw [Ex.cutR_flat (len 3 (by decide))]; exact (hH 3 (by decide)).below hW.below (Nat.le_refl _))
      hW.rr.open.1 hW.rr.open.2.1 hW.rr.open.2.2.1 hW.rr.open.2.2.2 (hW.kk.cell 0 _ rfl)
    rw [← hn1, ← hL1] at this
    exact this
  have w0 : Ex.within 1125899906842624 L0 := by rw [hL0]; exact within_mono (unC_within hk (show (0 : Int) ≤ 281474976710656 by decide) (Ex.cutR_wide (len 0 (by decide))) (by have := Ex.cutR_wide (len 2 (by decide)); exact this) (by rw [Ex.cutR_flat (len 0 (by decide))]; exact few_iff.1 (fw 0 (by decide))) (by rw [Ex.cutR_flat (len 2 (by decide))]; exact few_iff.1 (fw 2 (by decide)))) (by decide)
  have w1 : Ex.within 1125899906842624 L1 := by rw [hL1]; exact within_mono (unC_within hk (show (0 : Int) ≤ 281474976710656 by decide) (Ex.cutR_wide (len 1 (by decide))) (by have := Ex.cutR_wide (len 3 (by decide)); exact this) (by rw [Ex.cutR_flat (len 1 (by decide))]; exact few_iff.1 (fw 1 (by decide))) (by rw [Ex.cutR_flat (len 3 (by decide))]; exact few_iff.1 (fw 3 (by decide)))) (by decide)
  have hsum : htO r.y0 h 0 + htO r.y0 h 2 = h ∧ htO r.y0 h 1 + htO r.y0 h 3 = h := ⟨(Ex.cnt_next (s := r.y0) (k := h)).2.2.2, (Ex.cnt_next (s := r.y0) (k := h)).2.2.2⟩
  obtain ⟨U0, hU0⟩ : ∃ U0, U0 = Ex.unC r.y0 kn (wdO r.x0 n 0) (Ex.cutR (wdO r.x0 n 0) (D 0) (htO r.y0 h 0)) (Ex.cutR (wdO r.x0 n 2) (D 2) (htO r.y0 h 2)) := ⟨_, rfl⟩
  obtain ⟨U1, hU1⟩ : ∃ U1, U1 = Ex.unC r.y0 kn (wdO r.x0 n 1) (Ex.cutR (wdO r.x0 n 1) (D 1) (htO r.y0 h 1)) (Ex.cutR (wdO r.x0 n 3) (D 3) (htO r.y0 h 3)) := ⟨_, rfl⟩
  have u0 : U0.length = h ∧ Ex.Wide (wdO r.x0 n 0) U0 := by
    rw [hU0]
    refine ⟨by rw [Ex.unC_len, Ex.cutR_len, Ex.cutR_len]; exact hsum.1, fun x hx => ?_⟩
    rw [Ex.trn_mem hx, List.length_zipWith, Ex.trn_len, Ex.trn_len, Nat.min_self]
  have u1 : U1.length = h ∧ Ex.Wide (wdO r.x0 n 1) U1 := by
    rw [hU1]
    refine ⟨by rw [Ex.unC_len, Ex.cutR_len, Ex.cutR_len]; exact hsum.2, fun x hx => ?_⟩
    rw [Ex.trn_mem hx, List.length_zipWith, Ex.trn_len, Ex.trn_len, Nat.min_self]
  have hmrg : Ex.mrg r.x0 r.y0 kn n (Ex.cutR (wdO r.x0 n 0) (D 0) (htO r.y0 h 0)) (Ex.cutR (wdO r.x0 n 1) (D 1) (htO r.y0 h 1)) (Ex.cutR (wdO r.x0 n 2) (D 2) (htO r.y0 h 2)) (Ex.cutR (wdO r.x0 n 3) (D 3) (htO r.y0 h 3)) = Ex.unR r.x0 kn U0 U1 := by
    rw [hU0, hU1]; rfl
  rw [hmrg]
  rw [← hU0] at hL0
  rw [← hU1] at hL1
  have lU0 : U0.flatten.length = n0 := by rw [Ex.flat_len u0.2, u0.1, hn0]
  have lU1 : U1.flatten.length = n1 := by rw [Ex.flat_len u1.2, u1.1, hn1]
  have hpv : ∀ o N, N = h * wdO r.x0 n o → pvB (bnds r o).x0 r.y0 (bnds r o).x1 r.y1 N = true := fun o N hN => by
    refine pv_iff.2 ⟨hval o, ?_, ?_⟩
    · rw [Pl.areaI, if_pos (hval o), (bnd_size hv hn hh o).1, hh, Int.mul_comm, ← Int.natCast_mul]; have := hle o; omega
    · rw [Pl.areaI, if_pos (hval o), (bnd_size hv hn hh o).1, hh, Int.mul_comm, ← Int.natCast_mul, hN]
  have cR : ∀ W g1 g2, RowAt W g1 L0 → RowAt W g2 L1 → Calls Try.prog 67 #[.agg #[.int .i64 (bnds r 0).x0, .int .i64 r.y0, .int .i64 (bnds r 0).x1, .int .i64 r.y1, .slice (some ⟨g1, 0, none⟩) n0 n0], .agg #[.int .i64 (bnds r 1).x0, .int .i64 r.y0, .int .i64 (bnds r 1).x1, .int .i64 r.y1, .slice (some ⟨g2, 0, none⟩) n1 n1], .agg #[.int .i64 r.x0, .int .i64 r.y0, .int .i64 r.x1, .int .i64 r.y1], .int .i64 kn] W
      fun e w' => ∃ s' mm, e = .returned (.agg #[.int .i64 r.x0, .int .i64 r.y0, .int .i64 r.x1, .int .i64 r.y1, .slice s' (Ex.unR r.x0 kn U0 U1).flatten.length mm]) ∧ HoldsI w' s' (Ex.unR r.x0 kn U0 U1).flatten ∧ (Ex.unR r.x0 kn U0 U1).flatten.length ≤ mm ∧ Fresh W s' ∧ Below W.heap.size W w' := fun W g1 g2 q1 q2 =>
    mrows_q (bnds r 0).x0 (bnds r 0).x1 (bnds r 1).x0 (bnds r 1).x1 r.x0 r.y0 r.x1 r.y1 kn U0 U1 (some ⟨g1, 0, none⟩) (some ⟨g2, 0, none⟩) n0 n1 n h n0 n1 W (hpv 0 n0 hn0) (hpv 1 n1 hn1) lU0.symm lU1.symm u0.2 u1.2 u0.1 u1.1 (bnd_size hv hn hh 0).1 (bnd_size hv hn hh 1).1 hv hn hh har hk (hL0 ▸ w0) (hL1 ▸ w1) (Nat.le_refl _) (Nat.le_refl _) (hL0 ▸ q1.holds) (hL1 ▸ q2.holds)
  obtain ⟨UU, hUU⟩ : ∃ UU, UU = (Ex.unR r.x0 kn U0 U1).flatten := ⟨_, rfl⟩
  rw [← hUU] at cR ⊢
  have x0 : KW w A r kn ((((w.alloc (.cells A 27)).alloc (.cells #[.int .i64 r.x0, .int .i64 r.y0, .int .i64 r.x1, .int .i64 r.y1] 23)).alloc (.cells #[.int .i64 kn] 28)).alloc (.cells #[.int .i64 0, .int .i64 0, .int .i64 0, .int .i64 0, .slice none 0 0] 26)) := ⟨below_alloc (below_alloc (below_alloc (below_alloc (Below.refl _ w) _) _) _) _, (((Blk.fresh w 27 A).alloc _).alloc _).alloc _, ((Box.freshAt (w.alloc _) (w.heap.size + 1) (by simp) r.x0 r.y0 r.x1 r.y1 _).alloc _ _).alloc _ _, (Blk.freshAt ((w.alloc _).alloc _) (w.heap.size + 2) (by simp) 28 #[.int .i64 kn]).alloc _, QBox.freshAt (((w.alloc _).alloc _).alloc _) (w.heap.size + 3) (by simp) 0 0 0 0 none 0 0 _⟩
  have HAz : Hid (20 = A.size) := by rw [hA]; rfl
  have HAi : Hid ((Try.prog.info? 27).map (·.size) = some A.size) := by rw [hA]; exact info20
  have cM := mergeable_q r (bnds r) D s m kn A hA ((((w.alloc (.cells A 27)).alloc (.cells #[.int .i64 r.x0, .int .i64 r.y0, .int .i64 r.x1, .int .i64 r.y1] 23)).alloc (.cells #[.int .i64 kn] 28)).alloc (.cells #[.int .i64 0, .int .i64 0, .int .i64 0, .int .i64 0, .slice none 0 0] 26)) (fun o ho => (hH o ho).below x0.below (Nat.le_refl _))
  rw [hE] at cM
  have HA : Hid _ := hA
  clear hA hH hE hv har hn hh pv fw len ex2 ex3 hval hle hn0 hn1 hL0 hL1 w0 w1 hsum hU0 hU1 u0 u1 hmrg lU0 lU1 hpv hUU v1 v2 v3 v4 v5 v6
  go_enter Try.func17, Try.ntmps17
  obtain ⟨c0, c1, c2, c3⟩ := x0.rr.open
  have ck := x0.kk.cell 0 _ rfl
  go_wp2_with (first | (refine wpList_load_mid rfl 27 (.tmp 3) rfl w.heap.size 0 rfl A.toList _ x0.bk.range Try.underlying27 rfl (by simpa using HAi.out) ?_))
  clear c0 c1 c2 c3 ck
  refine cM.mono ?_
  rintro e w1 ⟨rfl, hb⟩
  replace x0 := x0.step hb
  clear hb cM
  go_upto_region 5 with fail
  obtain ⟨W1, hW1⟩ : ∃ W1, W1 = w1 := ⟨_, rfl⟩
  rw [← hW1] at x0 ⊢
  clear hW1
  have hz1 := x0.lt
  have S20 := KW.open20 HA x0
  have hzB : w.heap.size + 3 < W1.heap.size + 1 := Nat.lt_succ_of_lt hz1
  have zF := fun W => QBox.fresh W 0 0 0 0 none 0 0 26
  have zG := fun W : World => QBox.freshAt (W.alloc zeroP) (W.heap.size + 1) (by simp) 0 0 0 0 none 0 0 26
  have hg0 : ∀ (W : World) {k : Nat}, W.drew.heap.size ≤ k → W.heap.size ≤ k := fun _ _ q => q
  have hgA : ∀ (W : World) {k : Nat}, (W.alloc zeroP).drew.heap.size ≤ k → W.heap.size + 1 ≤ k := fun W k q => by simpa using q
  have hgB : ∀ (W : World) {k : Nat}, ((W.alloc zeroP).alloc zeroP).drew.heap.size ≤ k → W.heap.size + 2 ≤ k := fun W k q => by simpa using q
  have hgC : ∀ (W : World) {k : Nat}, (W.alloc zeroP).heap.size ≤ k → W.heap.size + 1 ≤ k := fun W k q => by simpa using q
  have hgD : ∀ (W : World) {k : Nat}, ((W.alloc zeroP).alloc zeroP).heap.size ≤ k → W.heap.size + 2 ≤ k := fun W k q => by simpa using q
  go_cut [10, 11] (fun s10 s11 wx => ∃ B1 B2 g1 g2 : Nat, s10 = .pointer (some ⟨B1, 0, none⟩) ∧ s11 = .pointer (some ⟨B2, 0, none⟩) ∧ Fin w A r kn ⟨(bnds r 0).x0, r.y0, (bnds r 0).x1, r.y1⟩ ⟨(bnds r 1).x0, r.y0, (bnds r 1).x1, r.y1⟩ n0 n1 L0 L1 B1 B2 g1 g2 wx)
  case first =>
    go_region_held3 (fun w' => w'.cell? ⟨w.heap.size, 0, none⟩ = some (.int .i64 (bnds r 0).x0) ∧ w'.cell? ⟨w.heap.size, 1, none⟩ = some (.int .i64 (bnds r 0).y0) ∧ w'.cell? ⟨w.heap.size, 2, none⟩ = some (.int .i64 (bnds r 0).x1) ∧ w'.cell? ⟨w.heap.size, 3, none⟩ = some (.int .i64 (bnds r 0).y1) ∧ w'.cell? ⟨w.heap.size, 4, none⟩ = some (.slice (s 0) (D 0).length (m 0)) ∧ w'.cell? ⟨w.heap.size, 5, none⟩ = some (.int .i64 (bnds r 1).x0) ∧ w'.cell? ⟨w.heap.size, 6, none⟩ = some (.int .i64 (bnds r 1).y0) ∧ w'.cell? ⟨w.heap.size, 7, none⟩ = some (.int .i64 (bnds r 1).x1) ∧ w'.cell? ⟨w.heap.size, 8, none⟩ = some (.int .i64 (bnds r 1).y1) ∧ w'.cell? ⟨w.heap.size, 9, none⟩ = some (.slice (s 1) (D 1).length (m 1)) ∧ w'.cell? ⟨w.heap.size, 10, none⟩ = some (.int .i64 (bnds r 2).x0) ∧ w'.cell? ⟨w.heap.size, 11, none⟩ = some (.int .i64 (bnds r 2).y0) ∧ w'.cell? ⟨w.heap.size, 12, none⟩ = some (.int .i64 (bnds r 2).x1) ∧ w'.cell? ⟨w.heap.size, 13, none⟩ = some (.int .i64 (bnds r 2).y1) ∧ w'.cell? ⟨w.heap.size, 14, none⟩ = some (.slice (s 2) (D 2).length (m 2)) ∧ w'.cell? ⟨w.heap.size, 15, none⟩ = some (.int .i64 (bnds r 3).x0) ∧ w'.cell? ⟨w.heap.size, 16, none⟩ = some (.int .i64 (bnds r 3).y0) ∧ w'.cell? ⟨w.heap.size, 17, none⟩ = some (.int .i64 (bnds r 3).x1) ∧ w'.cell? ⟨w.heap.size, 18, none⟩ = some (.int .i64 (bnds r 3).y1) ∧ w'.cell? ⟨w.heap.size, 19, none⟩ = some (.slice (s 3) (D 3).length (m 3)))
      ((with_reducible refine KW.open20 (kn := kn) HA ?_) <;> (repeat' (first | (with_reducible refine KW.alloc ?_ _) | (with_reducible refine KW.drew ?_) | (with_reducible refine KW.far5 ?_ ?_ _ _ _ _ _) | with_reducible exact k5 | with_reducible exact k4 | with_reducible exact x0 | with_reducible exact hz1 | with_reducible exact hzB | with_reducible exact hzC | with_reducible exact hzD)))
      (first | ((with_reducible refine (cL _ ?_).mono ?_); (first | with_reducible exact x0.drew | with_reducible exact (x0.alloc _).drew | with_reducible exact ((x0.alloc _).alloc _).drew); rintro e w4 ⟨gL, rfl, hgL, rowL, hb⟩; (first | (with_reducible have k4 := x0.drew.step hb; with_reducible have hgL1 : W1.heap.size ≤ gL := hg0 W1 hgL; with_reducible have hs4 : W1.heap.size ≤ w4.heap.size := hg0 W1 hb.size; with_reducible have qa := True.intro; with_reducible have qb := True.intro) | (with_reducible have k4 := (x0.alloc zeroP).drew.step hb; with_reducible have hgL1 : W1.heap.size + 1 ≤ gL := hgA W1 hgL; with_reducible have hs4 : W1.heap.size + 1 ≤ w4.heap.size := hgA W1 hb.size; with_reducible have qa := (zF W1).drew.below hb; with_reducible have qb := True.intro) | (with_reducible have k4 := ((x0.alloc zeroP).alloc zeroP).drew.step hb; with_reducible have hgL1 : W1.heap.size + 2 ≤ gL := hgB W1 hgL; with_reducible have hs4 : W1.heap.size + 2 ≤ w4.heap.size := hgB W1 hb.size; with_reducible have qa := ((zF W1).alloc zeroP).drew.below hb; with_reducible have qb := (zG W1).drew.below hb)); (try (obtain ⟨qa0, qa1, qa2, qa3, qa4⟩ := QBox.open qa; have qaf := QBox.free qa; have qal := QBox.lt qa)); (try (obtain ⟨qb0, qb1, qb2, qb3, qb4⟩ := QBox.open qb; have qbf := QBox.free qb; have qbl := QBox.lt qb)); have hgL2 := rowL.lt; have hzC := k4.lt; have hzD := Nat.lt_succ_of_lt hzC; clear hb hgL) | ((with_reducible refine (cH _ ?_).mono ?_); (first | with_reducible exact k4 | with_reducible exact k4.alloc _ | with_reducible exact (k4.alloc _).alloc _); rintro e w5 ⟨gH, rfl, hgH, rowH, hb⟩; (first | (with_reducible have hb45 : Below w4.heap.size w4 w5 := hb; with_reducible have hgH1 : w4.heap.size ≤ gH := hgH; with_reducible have qc := True.intro; with_reducible have qd := True.intro) | (with_reducible have hb45 : Below w4.heap.size w4 w5 := below_call (below_alloc (Below.refl _ w4) zeroP) hb; with_reducible have hgH1 : w4.heap.size + 1 ≤ gH := hgC w4 hgH; with_reducible have qc := (zF w4).below hb; with_reducible have qd := True.intro) | (with_reducible have hb45 : Below w4.heap.size w4 w5 := below_call (below_alloc (below_alloc (Below.refl _ w4) zeroP) zeroP) hb; with_reducible have hgH1 : w4.heap.size + 2 ≤ gH := hgD w4 hgH; with_reducible have qc := ((zF w4).alloc zeroP).below hb; with_reducible have qd := (zG w4).below hb)); have k5 := k4.step hb45; have rowL5 := rowL.below hb45; have hs5 : w4.heap.size ≤ w5.heap.size := hb45.size; (first | with_reducible have qa5 := QBox.below qa hb45 | have qa5 := True.intro); (first | with_reducible have qb5 := QBox.below qb hb45 | have qb5 := True.intro); (try (obtain ⟨qa0, qa1, qa2, qa3, qa4⟩ := QBox.open qa5; have qaf := QBox.free qa5; have qal := QBox.lt qa5)); (try (obtain ⟨qb0, qb1, qb2, qb3, qb4⟩ := QBox.open qb5; have qbf := QBox.free qb5; have qbl := QBox.lt qb5)); (try (obtain ⟨qc0, qc1, qc2, qc3, qc4⟩ := QBox.open qc; have qcf := QBox.free qc; have qcl := QBox.lt qc)); (try (obtain ⟨qd0, qd1, qd2, qd3, qd4⟩ := QBox.open qd; have qdf := QBox.free qd; have qdl := QBox.lt qd)); clear hb hgH))
    all_goals
      go_wp2_with fail
      go_meet
      refine ⟨_, _, gL, gH, rfl, rfl, ?_⟩
      first
      | (with_reducible refine fin1 (g1 := gL) (g2 := gH) ?_ ?_ ?_)
      | (with_reducible refine fin2 (g1 := gL) (g2 := gH) ?_ ?_ ?_)
      | (with_reducible refine fin5 (g1 := gL) (g2 := gH) (z := ⟨0, 0, 0, 0⟩) (z' := ⟨0, 0, 0, 0⟩) (v := .slice none 0 0) (v' := .slice none 0 0) ?_ ?_ ?_ ?_ ?_ ?_ ?_ ?_ ?_ ?_ ?_ ?_)
      | (with_reducible refine fin3 (g1 := gL) (g2 := gH) (z := ⟨0, 0, 0, 0⟩) (v := .slice none 0 0) ?_ ?_ ?_ ?_ ?_ ?_ ?_)
      | (with_reducible refine fin4 (g1 := gL) (g2 := gH) (z := ⟨0, 0, 0, 0⟩) (v := .slice none 0 0) ?_ ?_ ?_ ?_ ?_ ?_ ?_)
      all_goals first
        | with_reducible exact k5
        | with_reducible exact rowL5
        | with_reducible exact rowH
        | with_reducible exact qa5
        | with_reducible exact qb5
        | with_reducible exact qc
        | with_reducible exact qd
        | with_reducible exact hz1
        | with_reducible exact hzB
        | with_reducible exact hzC
        | with_reducible exact hzD
        | (clear cL cH; omega)
  case rest =>
    obtain ⟨B1, B2, g1, g2, rfl, rfl, F⟩ := hcut
    clear x0 cL cH zF zG hg0 hgA hgB hgC hgD hz1 hzB
    obtain ⟨a0, a1, a2, a3, a4⟩ := F.b1.open
    obtain ⟨b0, b1, b2, b3, b4⟩ := F.b2.open
    obtain ⟨c0, c1, c2, c3⟩ := F.kw.rr.open
    have ck := F.kw.kk.cell 0 _ rfl
    go_wp2_with fail
    refine (cR _ g1 g2 F.r1 F.r2).mono ?_
    rintro e w7 ⟨s', mm, rfl, l7, k7, f7, b7⟩
    have hz := F.kw.z.below b7
    have hf7 : ∀ p, s' = some p → w.heap.size + 3 < p.block := fun p e => by have := f7 p e; have := F.kw.lt; omega
    have HB : Hid _ := below_call F.kw.below b7
    have HL : Hid _ := l7
    clear a0 a1 a2 a3 a4 b0 b1 b2 b3 b4 c0 c1 c2 c3 ck F b7 l7 f7 cR
    obtain ⟨u0, u1, u2, u3, u4⟩ := hz.open
    have hzf := hz.free
    go_wp2
    have hst := hz.store r.x0 r.y0 r.x1 r.y1 (.slice s' UU.length mm)
    obtain ⟨p0, p1, p2, p3, p4⟩ := hst.open
    refine bodyPost_ret (v := .tuple #[.agg #[.int .i64 r.x0, .int .i64 r.y0, .int .i64 r.x1, .int .i64 r.y1, .slice s' UU.length mm], .int .i64 0]) (by simp [results, Try.results17, go_sem, p0, p1, p2, p3, p4]) rfl ⟨s', mm, rfl, ?_, k7, fun p e => by have := hf7 p e; omega, below5 HB.out (by omega) _ _ _ _ _⟩
    exact HoldsI.but HL.out (but5 _ _ _ _ _) (fun p e => by have := hf7 p e; omega)
end Go.Proofs.Ytoplgnckdmkaoaa
