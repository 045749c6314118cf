/-
  For all rectangles r and points p the statement DwtPartitions returns true, and its arguments read afterwards as before.
  Conditions: none beyond those of the given statement.
-/
import Derived.Test.YtnfnidgabgdphaaFrame
import Derived.Test.YtnfnidgabgdphaaOpenP
import Derived.Test.YtnfnidgabgdphaaAwk
import Derived.Test.YtnfnidgabgdphaaLawB5
set_option maxRecDepth 100000
namespace Go.Proofs.Ytnfnidgabgdphaa.dwtPartitions
open Go.ChangeShapes Go.WideShapes Go.ChangeAt Go.RowKit Go.Joins Go.Deep

theorem and1 (x : Int) : bits .and .i64 x 1 = x % 2 := by
  have h1 : (BitVec.ofInt 64 x &&& BitVec.ofInt 64 1).toNat = (x % 18446744073709551616).toNat % 2 := by
    rw [BitVec.toNat_and, BitVec.toNat_ofInt, BitVec.toNat_ofInt, show ((1 : Int) % ((2 ^ 64 : Nat) : Int)).toNat = 1 from by decide, Nat.and_one_is_mod]
    rfl
  show IntKind.i64.wrap ((BitVec.ofInt 64 x &&& BitVec.ofInt 64 1).toNat : Int) = x % 2
  rw [h1, IntWalk.i64_in _ (by omega)]
  omega
theorem fdx (x : Int) : Pl.fd x 2 = x / 2 := by
  unfold Pl.fd
  rw [if_neg (by decide)]
  rcases Int.le_total 0 x with h | h
  · rw [Int.tmod_eq_emod_of_nonneg h, Int.tdiv_eq_ediv_of_nonneg h, if_neg (by omega)]
  · obtain ⟨y, rfl⟩ : ∃ y, x = -y := ⟨-x, by omega⟩
    rw [Int.neg_tmod, Int.neg_tdiv, Int.tmod_eq_emod_of_nonneg (by omega : 0 ≤ y), Int.tdiv_eq_ediv_of_nonneg (by omega : 0 ≤ y)]
    split <;> omega
theorem has_bnd {a b c d x y : Int} {o : Nat} (hv : Pl.validB a b c d = true) (hx : orH o = decide (x % 2 = 1)) (hy : orV o = decide (y % 2 = 1)) : Pl.hasB (bnds ⟨a, b, c, d⟩ o).x0 (bnds ⟨a, b, c, d⟩ o).y0 (bnds ⟨a, b, c, d⟩ o).x1 (bnds ⟨a, b, c, d⟩ o).y1 (x / 2) (y / 2) = Pl.hasB a b c d x y := by
  rw [bnds, if_pos hv, bndR, hx, hy]
  unfold Pl.hasB hfI
  apply decide_eq_decide.2
  by_cases h1 : x % 2 = 1 <;> by_cases h2 : y % 2 = 1 <;> simp only [h1, h2, decide_true, decide_false, if_true, Bool.false_eq_true, if_false] <;> omega
def sm (R : Nat → Pl.R) : Nat → Int
  | 0 => 0
  | j + 1 => sm R j + Pl.areaI (R j).x0 (R j).y0 (R j).x1 (R j).y1
structure Pw (w : World) (B : Nat) (A : Array Value) (r : Pl.R) (x y : Int) (W : World) : Prop where
  below : Below w.heap.size w W
  blk : Blk W B 24 A
  box : Box W w.heap.size r
  pt : PBox W (w.heap.size + 1) x y
theorem Pw.step {w W W1 : World} {B : Nat} {A : Array Value} {r : Pl.R} {x y : Int} (h : Pw w B A r x y W) (hb : Below W.heap.size W W1) : Pw w B A r x y W1 := ⟨below_call h.below hb, h.blk.below hb, h.box.below hb, h.pt.below hb⟩
theorem pbut {g : Nat} {W w1 : World} {B : Nat} {x y : Int} (h : PBox W B x y) (hb : But g W w1) (hN : B ≠ g) : PBox w1 B x y :=
  ⟨(hb.cell (p := ⟨B, _, none⟩) h.lt hN).trans h.c0, (hb.cell (p := ⟨B, _, none⟩) h.lt hN).trans h.c1, Nat.lt_of_lt_of_le h.lt hb.size⟩
set_option maxRecDepth 100000 in
set_option maxHeartbeats 8000000 in
theorem walk (a b c d x y : Int) (x0 : -9223372036854775808 ≤ x) (x1 : x ≤ 9223372036854775807) (y0 : -9223372036854775808 ≤ y) (y1 : y ≤ 9223372036854775807) (w : World) : Calls Try.prog 7 #[.agg #[.int .i64 a, .int .i64 b, .int .i64 c, .int .i64 d], .agg #[.int .i64 x, .int .i64 y]] w fun e w' => e = .returned (.bool true) ∧ Below w.heap.size w w' := by
  have b0 := (Box.fresh w a b c d 23).alloc #[.int .i64 x, .int .i64 y] 43
  have p0 := PBox.freshAt (w.alloc (.cells #[.int .i64 a, .int .i64 b, .int .i64 c, .int .i64 d] 23)) (w.heap.size + 1) (by simp) x y 43
  have B0 := below_alloc (below_alloc (Below.refl w.heap.size w) (.cells #[.int .i64 a, .int .i64 b, .int .i64 c, .int .i64 d] 23)) (.cells #[.int .i64 x, .int .i64 y] 43)
  go_enter Try.func7, Try.ntmps7
  obtain ⟨c0, c1, c2, c3⟩ := b0.open
  go_wp2_with fail
  refine (bands_q a b c d _).mono ?_
  rintro e w1 ⟨rfl, hb⟩
  replace b0 := b0.below hb
  replace p0 := p0.below hb
  replace B0 := below_call B0 hb
  have hB1 : w.heap.size + 1 < w1.heap.size := p0.lt
  obtain ⟨R, hR⟩ : ∃ R, R = bnds ⟨a, b, c, d⟩ := ⟨_, rfl⟩
  rw [← hR]
  have HR : Hid _ := hR
  obtain ⟨A, hA⟩ : ∃ A, A = arr4 R := ⟨_, rfl⟩
  rw [← hA]
  have HA : Hid _ := hA
  have H16 : Hid (16 = A.size) := by rw [hA]; rfl
  have HI : Hid ((Try.prog.info? 24).map (·.size) = some A.size) := by rw [hA]; exact info16
  have hAo : A.all (·.oneCell') = true := by rw [hA]; exact one16 _
  clear hA hR hb c0 c1 c2 c3
  go_upto_region 2 with (first | (refine wpList_store_row rfl 24 (.tmp 5) (.tmp 10) rfl w1.heap.size A rfl rfl 24 _ (Blk.fresh w1 24 #[.int .i64 0, .int .i64 0, .int .i64 0, .int .i64 0, .int .i64 0, .int .i64 0, .int .i64 0, .int .i64 0, .int .i64 0, .int .i64 0, .int .i64 0, .int .i64 0, .int .i64 0, .int .i64 0, .int .i64 0, .int .i64 0]) HI.out H16.out hAo ?_))
  obtain ⟨W2, hW2⟩ : ∃ W2, W2 = (w1.alloc (.cells #[.int .i64 0, .int .i64 0, .int .i64 0, .int .i64 0, .int .i64 0, .int .i64 0, .int .i64 0, .int .i64 0, .int .i64 0, .int .i64 0, .int .i64 0, .int .i64 0, .int .i64 0, .int .i64 0, .int .i64 0, .int .i64 0] 24)).setRow w1.heap.size A := ⟨_, rfl⟩
  have hP : Pw w w1.heap.size A ⟨a, b, c, d⟩ x y W2 := by
    rw [hW2]
    exact ⟨below_row (below_alloc B0 _) B0.size _, (Blk.fresh w1 24 #[.int .i64 0, .int .i64 0, .int .i64 0, .int .i64 0, .int .i64 0, .int .i64 0, .int .i64 0, .int .i64 0, .int .i64 0, .int .i64 0, .int .i64 0, .int .i64 0, .int .i64 0, .int .i64 0, .int .i64 0, .int .i64 0]).row A, (b0.alloc _ _).but (But.setRow _) (by omega), pbut (p0.alloc _) (But.setRow _) (by omega)⟩
  rw [← hW2]
  clear hW2 b0 p0 B0 hAo hB1
  obtain ⟨c0, c1, c2, c3⟩ := hP.box.open
  go_wp2_with fail
  refine (valid_c _ _ _ _ _).mono ?_
  rintro e w3 ⟨rfl, hb⟩
  replace hP := hP.step hb
  clear c0 c1 c2 c3 hb
  cases hv : Pl.validB a b c d with
  | false =>
    have hz : R = fun _ => zR := HR.out.trans (funext fun o => if_neg (by simp [hv]))
    have heq : ∀ W, (Op.equalIn 10000 24 (.agg A) (.agg #[.int .i64 0, .int .i64 0, .int .i64 0, .int .i64 0, .int .i64 0, .int .i64 0, .int .i64 0, .int .i64 0, .int .i64 0, .int .i64 0, .int .i64 0, .int .i64 0, .int .i64 0, .int .i64 0, .int .i64 0, .int .i64 0])).run Try.prog W = .ok true W := fun W => by rw [HA.out, hz]; exact eqA (fun _ => zR) W
    have HB : Hid _ := hP.below
    clear hz
    go_wp2_with (first | (refine wpList_load_mid rfl 24 (.tmp 5) rfl w1.heap.size 0 rfl A.toList _ hP.blk.range Try.underlying24 rfl (by simpa using HI.out) ?_) | (go_at_call 19; (with_reducible refine (awake_c _).mono ?_); rintro e w9 ⟨rfl, hb9⟩))
    go_ret
    exact ⟨rfl, below_call HB.out hb9⟩
  | true =>
    obtain ⟨v1, v2, v3, v4, v5, v6⟩ := Pl.valid_iff.1 hv
    obtain ⟨n, hn⟩ : ∃ n : Nat, c - a = (n : Int) := ⟨(c - a).toNat, by omega⟩
    obtain ⟨h, hh⟩ : ∃ h : Nat, d - b = (h : Int) := ⟨(d - b).toNat, by omega⟩
    have hval : ∀ o, Pl.validB (R o).x0 (R o).y0 (R o).x1 (R o).y1 = true := fun o => by rw [HR.out]; exact (bnd_size hv hn hh o).2.2
    have hAr : ∀ o, Pl.areaI (R o).x0 (R o).y0 (R o).x1 (R o).y1 = ((htO b h o * wdO a n o : Nat) : Int) := fun o => by rw [HR.out]; exact bnd_area hv hn hh o
    have hsum : sm R 4 = Pl.areaI a b c d := by
      have e1 := (Ex.cnt_next (s := a) (k := n)).2.2.2
      have e2 := (Ex.cnt_next (s := b) (k := h)).2.2.2
      simp only [sm, hAr]
      rw [Pl.areaI, if_pos hv, hn, hh, show htO b h 0 = Ex.cntE b h from rfl, show htO b h 1 = Ex.cntE b h from rfl, show htO b h 2 = Ex.cntO b h from rfl, show htO b h 3 = Ex.cntO b h from rfl, show wdO a n 0 = Ex.cntE a n from rfl, show wdO a n 1 = Ex.cntO a n from rfl, show wdO a n 2 = Ex.cntE a n from rfl, show wdO a n 3 = Ex.cntO a n from rfl]
      generalize Ex.cntE a n = p1 at e1 ⊢
      generalize Ex.cntO a n = p2 at e1 ⊢
      generalize Ex.cntE b h = p3 at e2 ⊢
      generalize Ex.cntO b h = p4 at e2 ⊢
      rw [← e1, ← e2]
      push_cast
      simp only [Int.mul_add, Int.add_mul]
      simp only [Int.mul_comm]
      omega
    have hbd : ∀ o, (htO b h o * wdO a n o : Nat) ≤ 16777216 := fun o => by
      have q1 : htO b h o ≤ h := by unfold htO; split <;> first | exact Ex.cnt_le.2 | exact Ex.cnt_le.1
      have q2 : wdO a n o ≤ n := by unfold wdO; split <;> first | exact Ex.cnt_le.2 | exact Ex.cnt_le.1
      have := Nat.mul_le_mul (Nat.le_trans q1 (by omega : h ≤ 4096)) (Nat.le_trans q2 (by omega : n ≤ 4096))
      simpa using this
    have hw : ∀ j, j < 4 → IntKind.i64.wrap (sm R j + Pl.areaI (R j).x0 (R j).y0 (R j).x1 (R j).y1) = sm R (j + 1) := fun j hj => by
      have b0 := hbd 0; have b1 := hbd 1; have b2 := hbd 2; have b3 := hbd 3
      refine IntWalk.i64_in _ ?_
      rcases lt4 hj with rfl | rfl | rfl | rfl <;> simp only [sm, hAr] <;> omega
    have HSM : Hid _ := hsum
    clear hAr hbd hsum v1 v2 v3 v4 v5 v6 hn hh
    go_upto_region 6 with fail
    go_loopw [6, 20] (fun sv i wr => ∃ j : Nat, j ≤ 4 ∧ i = .int .i64 (j : Int) ∧ sv = .int .i64 (sm R j) ∧ Pw w w1.heap.size A ⟨a, b, c, d⟩ x y wr) (fun _ i _ => 4 - (intOf i).toNat)
    case atStart => exact ⟨0, by decide, rfl, rfl, hP⟩
    case round =>
      obtain ⟨j, hj, hi, hs, hS⟩ := hrel
      clear hP
      subst hs
      by_cases hlt : j < 4
      · rcases lt4 hlt with rfl | rfl | rfl | rfl
        · replace hi : _ = Value.int .i64 0 := hi; subst hi
          have q0 := hS.blk.cell 0 (.int .i64 (R 0).x0) (by rw [HA.out]; rfl)
          have q1 := hS.blk.cell 1 (.int .i64 (R 0).y0) (by rw [HA.out]; rfl)
          have q2 := hS.blk.cell 2 (.int .i64 (R 0).x1) (by rw [HA.out]; rfl)
          have q3 := hS.blk.cell 3 (.int .i64 (R 0).y1) (by rw [HA.out]; rfl)
          have ws := hw 0 (by decide)
          go_wp2_with fail
          refine (valid_c _ _ _ _ _).mono ?_
          rw [hval 0]
          rintro e w5 ⟨rfl, hb⟩
          have hS5 := hS.step hb
          clear q0 q1 q2 q3 hS hb
          have q0 := hS5.blk.cell 0 (.int .i64 (R 0).x0) (by rw [HA.out]; rfl)
          have q1 := hS5.blk.cell 1 (.int .i64 (R 0).y0) (by rw [HA.out]; rfl)
          have q2 := hS5.blk.cell 2 (.int .i64 (R 0).x1) (by rw [HA.out]; rfl)
          have q3 := hS5.blk.cell 3 (.int .i64 (R 0).y1) (by rw [HA.out]; rfl)
          go_wp2_with fail
          refine (area_c _ _ _ _ _).mono ?_
          rintro e w6 ⟨rfl, hb⟩
          have HS : Hid _ := hS5.step hb
          clear q0 q1 q2 q3 hS5 hb
          go_wp2
          go_roundw
          case rel => exact ⟨1, by decide, (by first | rfl | go_num), (by first | rfl | (rw [ws]; done) | (simp only [ws]; done)), HS.out⟩
          case measure => first | decide | (simp [intOf]; done) | (simp [intOf]; omega)
        · replace hi : _ = Value.int .i64 1 := hi; subst hi
          have q0 := hS.blk.cell 4 (.int .i64 (R 1).x0) (by rw [HA.out]; rfl)
          have q1 := hS.blk.cell 5 (.int .i64 (R 1).y0) (by rw [HA.out]; rfl)
          have q2 := hS.blk.cell 6 (.int .i64 (R 1).x1) (by rw [HA.out]; rfl)
          have q3 := hS.blk.cell 7 (.int .i64 (R 1).y1) (by rw [HA.out]; rfl)
          have ws := hw 1 (by decide)
          go_wp2_with fail
          refine (valid_c _ _ _ _ _).mono ?_
          rw [hval 1]
          rintro e w5 ⟨rfl, hb⟩
          have hS5 := hS.step hb
          clear q0 q1 q2 q3 hS hb
          have q0 := hS5.blk.cell 4 (.int .i64 (R 1).x0) (by rw [HA.out]; rfl)
          have q1 := hS5.blk.cell 5 (.int .i64 (R 1).y0) (by rw [HA.out]; rfl)
          have q2 := hS5.blk.cell 6 (.int .i64 (R 1).x1) (by rw [HA.out]; rfl)
          have q3 := hS5.blk.cell 7 (.int .i64 (R 1).y1) (by rw [HA.out]; rfl)
          go_wp2_with fail
          refine (area_c _ _ _ _ _).mono ?_
          rintro e w6 ⟨rfl, hb⟩
          have HS : Hid _ := hS5.step hb
          clear q0 q1 q2 q3 hS5 hb
          go_wp2
          go_roundw
          case rel => exact ⟨2, by decide, (by first | rfl | go_num), (by first | rfl | (rw [ws]; done) | (simp only [ws]; done)), HS.out⟩
          case measure => first | decide | (simp [intOf]; done) | (simp [intOf]; omega)
        · replace hi : _ = Value.int .i64 2 := hi; subst hi
          have q0 := hS.blk.cell 8 (.int .i64 (R 2).x0) (by rw [HA.out]; rfl)
          have q1 := hS.blk.cell 9 (.int .i64 (R 2).y0) (by rw [HA.out]; rfl)
          have q2 := hS.blk.cell 10 (.int .i64 (R 2).x1) (by rw [HA.out]; rfl)
          have q3 := hS.blk.cell 11 (.int .i64 (R 2).y1) (by rw [HA.out]; rfl)
          have ws := hw 2 (by decide)
          go_wp2_with fail
          refine (valid_c _ _ _ _ _).mono ?_
          rw [hval 2]
          rintro e w5 ⟨rfl, hb⟩
          have hS5 := hS.step hb
          clear q0 q1 q2 q3 hS hb
          have q0 := hS5.blk.cell 8 (.int .i64 (R 2).x0) (by rw [HA.out]; rfl)
          have q1 := hS5.blk.cell 9 (.int .i64 (R 2).y0) (by rw [HA.out]; rfl)
          have q2 := hS5.blk.cell 10 (.int .i64 (R 2).x1) (by rw [HA.out]; rfl)
          have q3 := hS5.blk.cell 11 (.int .i64 (R 2).y1) (by rw [HA.out]; rfl)
          go_wp2_with fail
          refine (area_c _ _ _ _ _).mono ?_
          rintro e w6 ⟨rfl, hb⟩
          have HS : Hid _ := hS5.step hb
          clear q0 q1 q2 q3 hS5 hb
          go_wp2
          go_roundw
          case rel => exact ⟨3, by decide, (by first | rfl | go_num), (by first | rfl | (rw [ws]; done) | (simp only [ws]; done)), HS.out⟩
          case measure => first | decide | (simp [intOf]; done) | (simp [intOf]; omega)
        · replace hi : _ = Value.int .i64 3 := hi; subst hi
          have q0 := hS.blk.cell 12 (.int .i64 (R 3).x0) (by rw [HA.out]; rfl)
          have q1 := hS.blk.cell 13 (.int .i64 (R 3).y0) (by rw [HA.out]; rfl)
          have q2 := hS.blk.cell 14 (.int .i64 (R 3).x1) (by rw [HA.out]; rfl)
          have q3 := hS.blk.cell 15 (.int .i64 (R 3).y1) (by rw [HA.out]; rfl)
          have ws := hw 3 (by decide)
          go_wp2_with fail
          refine (valid_c _ _ _ _ _).mono ?_
          rw [hval 3]
          rintro e w5 ⟨rfl, hb⟩
          have hS5 := hS.step hb
          clear q0 q1 q2 q3 hS hb
          have q0 := hS5.blk.cell 12 (.int .i64 (R 3).x0) (by rw [HA.out]; rfl)
          have q1 := hS5.blk.cell 13 (.int .i64 (R 3).y0) (by rw [HA.out]; rfl)
          have q2 := hS5.blk.cell 14 (.int .i64 (R 3).x1) (by rw [HA.out]; rfl)
          have q3 := hS5.blk.cell 15 (.int .i64 (R 3).y1) (by rw [HA.out]; rfl)
          go_wp2_with fail
          refine (area_c _ _ _ _ _).mono ?_
          rintro e w6 ⟨rfl, hb⟩
          have HS : Hid _ := hS5.step hb
          clear q0 q1 q2 q3 hS5 hb
          go_wp2
          go_roundw
          case rel => exact ⟨4, by decide, (by first | rfl | go_num), (by first | rfl | (rw [ws]; done) | (simp only [ws]; done)), HS.out⟩
          case measure => first | decide | (simp [intOf]; done) | (simp [intOf]; omega)
      · obtain rfl : j = 4 := by omega
        replace hi : _ = Value.int .i64 4 := hi; subst hi
        rw [HSM.out]
        obtain ⟨c0, c1, c2, c3⟩ := hS.box.open
        go_wp2_with fail
        refine (area_c _ _ _ _ _).mono ?_
        rintro e w4 ⟨rfl, hb⟩
        have hP := hS.step hb
        clear c0 c1 c2 c3 hb hS hw hval
        generalize Pl.areaI a b c d = T at *
        have g1 : (T == T) = true := by simp
        have g2 : (T != T) = false := by simp
        have g3 : decide (T = T) = true := by simp
        have hst := Fam.next (I := Pw w w1.heap.size A ⟨a, b, c, d⟩ x y) (fun _ _ p q => p.step q)
        have hne : Nonempty (Fam (Pw w w1.heap.size A ⟨a, b, c, d⟩ x y)) := ⟨⟨_, hP⟩⟩
        have r0 : ∀ X : Fam (Pw w w1.heap.size A ⟨a, b, c, d⟩ x y), X.W.cell? ⟨w.heap.size, 0, none⟩ = some (.int .i64 a) := fun X => X.ok.box.open.1
        have r1 : ∀ X : Fam (Pw w w1.heap.size A ⟨a, b, c, d⟩ x y), X.W.cell? ⟨w.heap.size, 1, none⟩ = some (.int .i64 b) := fun X => X.ok.box.open.2.1
        have r2 : ∀ X : Fam (Pw w w1.heap.size A ⟨a, b, c, d⟩ x y), X.W.cell? ⟨w.heap.size, 2, none⟩ = some (.int .i64 c) := fun X => X.ok.box.open.2.2.1
        have r3 : ∀ X : Fam (Pw w w1.heap.size A ⟨a, b, c, d⟩ x y), X.W.cell? ⟨w.heap.size, 3, none⟩ = some (.int .i64 d) := fun X => X.ok.box.open.2.2.2
        have t0 : ∀ X : Fam (Pw w w1.heap.size A ⟨a, b, c, d⟩ x y), X.W.cell? ⟨w.heap.size + 1, 0, none⟩ = some (.int .i64 x) := fun X => X.ok.pt.c0
        have t1 : ∀ X : Fam (Pw w w1.heap.size A ⟨a, b, c, d⟩ x y), X.W.cell? ⟨w.heap.size + 1, 1, none⟩ = some (.int .i64 y) := fun X => X.ok.pt.c1
        have cX : ∀ W, Calls Try.prog 30 #[.int .i64 x, .int .i64 2] W fun e w' => e = .returned (.int .i64 (x / 2)) ∧ Below W.heap.size W w' := fun W => fdx x ▸ (fd_c x 2 W x0 x1).mono fun _ _ q => ⟨q.1, q.2 ▸ Below.refl _ _⟩
        have cY : ∀ W, Calls Try.prog 30 #[.int .i64 y, .int .i64 2] W fun e w' => e = .returned (.int .i64 (y / 2)) ∧ Below W.heap.size W w' := fun W => fdx y ▸ (fd_c y 2 W y0 y1).mono fun _ _ q => ⟨q.1, q.2 ▸ Below.refl _ _⟩
        rcases (show x % 2 = 0 ∨ x % 2 = 1 by omega) with hx | hx
        · rcases (show y % 2 = 0 ∨ y % 2 = 1 by omega) with hy | hy
          · have hbx : bits .and .i64 x 1 = 0 := by rw [and1]; omega
            have hby : bits .and .i64 y 1 = 0 := by rw [and1]; omega
            have e0 : orH 0 = decide (x % 2 = 1) := by rw [show orH 0 = false from rfl]; symm; exact decide_eq_false (by omega)
            have e1 : orV 0 = decide (y % 2 = 1) := by rw [show orV 0 = false from rfl]; symm; exact decide_eq_false (by omega)
            have hh5 := has_bnd (o := 0) hv e0 e1
            rw [← HR.out] at hh5
            have cH : ∀ W, Calls Try.prog 29 #[.agg #[.int .i64 (R 0).x0, .int .i64 (R 0).y0, .int .i64 (R 0).x1, .int .i64 (R 0).y1], .agg #[.int .i64 (x / 2), .int .i64 (y / 2)]] W fun e w' => e = .returned (.bool (Pl.hasB a b c d x y)) ∧ Below W.heap.size W w' := fun W => by
              have q := has_c (R 0).x0 (R 0).y0 (R 0).x1 (R 0).y1 (x / 2) (y / 2) W
              rw [hh5] at q
              exact q
            have cK := fun W => has_c a b c d x y W
            have p0 := hP.pt.c0
            have p1 := hP.pt.c1
            go_upto_region 19 with fail
            clear e0 e1 hh5 hbx hby p0 p1
            generalize Pl.hasB a b c d x y = HB at *
            have f1 : (HB == HB) = true := by simp
            have f2 : decide (HB = HB) = true := by simp
            have q0 : ∀ X : Fam (Pw w w1.heap.size A ⟨a, b, c, d⟩ x y), X.W.cell? ⟨w1.heap.size, 0, none⟩ = some (.int .i64 (R 0).x0) := fun X => X.ok.blk.cell 0 _ (by rw [HA.out]; rfl)
            have q1 : ∀ X : Fam (Pw w w1.heap.size A ⟨a, b, c, d⟩ x y), X.W.cell? ⟨w1.heap.size, 1, none⟩ = some (.int .i64 (R 0).y0) := fun X => X.ok.blk.cell 1 _ (by rw [HA.out]; rfl)
            have q2 : ∀ X : Fam (Pw w w1.heap.size A ⟨a, b, c, d⟩ x y), X.W.cell? ⟨w1.heap.size, 2, none⟩ = some (.int .i64 (R 0).x1) := fun X => X.ok.blk.cell 2 _ (by rw [HA.out]; rfl)
            have q3 : ∀ X : Fam (Pw w w1.heap.size A ⟨a, b, c, d⟩ x y), X.W.cell? ⟨w1.heap.size, 3, none⟩ = some (.int .i64 (R 0).y1) := fun X => X.ok.blk.cell 3 _ (by rw [HA.out]; rfl)
            refine wp_region_in (fun X : Fam (Pw w w1.heap.size A ⟨a, b, c, d⟩ x y) => X.W) (by kernel_rfl) (by kernel_rfl) ⟨⟨_, hP.step (Below.refl _ _).drew⟩, rfl⟩ ?_
            repeat (first | go_big_quiet_step ((first | (go_at_call 30; first | (with_reducible exact call_in (cX _) (hst _)) | ((with_reducible show Calls _ _ #[.int .i64 x, _] _ _); exact call_in (cX _) (hst _)) | (with_reducible exact call_in (cY _) (hst _)) | ((with_reducible show Calls _ _ #[.int .i64 y, _] _ _); exact call_in (cY _) (hst _))) | (go_at_call 29; first | (with_reducible exact call_in (cK _) (hst _)) | ((with_reducible show Calls _ _ #[_, .agg #[.int .i64 x, _]] _ _); exact call_in (cK _) (hst _)) | (with_reducible exact call_in (cH _) (hst _)) | ((with_reducible show Calls _ _ #[_, .agg #[.int .i64 (x / 2), _]] _ _); exact call_in (cH _) (hst _))) | (go_at_call 19; exact call_in (awake_c _) (hst _)))) | quiet_step ((first | (go_at_call 30; first | (with_reducible exact call_in (cX _) (hst _)) | ((with_reducible show Calls _ _ #[.int .i64 x, _] _ _); exact call_in (cX _) (hst _)) | (with_reducible exact call_in (cY _) (hst _)) | ((with_reducible show Calls _ _ #[.int .i64 y, _] _ _); exact call_in (cY _) (hst _))) | (go_at_call 29; first | (with_reducible exact call_in (cK _) (hst _)) | ((with_reducible show Calls _ _ #[_, .agg #[.int .i64 x, _]] _ _); exact call_in (cK _) (hst _)) | (with_reducible exact call_in (cH _) (hst _)) | ((with_reducible show Calls _ _ #[_, .agg #[.int .i64 (x / 2), _]] _ _); exact call_in (cH _) (hst _))) | (go_at_call 19; exact call_in (awake_c _) (hst _)))))
            refine wpQuiet_nil ?_
            intro w9 hw'
            obtain ⟨⟨_, hS9⟩, hw''⟩ := hw'
            subst hw''
            clear hst hne r0 r1 r2 r3 t0 t1 q0 q1 q2 q3
            go_wp2
            go_ret
            exact ⟨rfl, hS9.below⟩
          · have hbx : bits .and .i64 x 1 = 0 := by rw [and1]; omega
            have hby : bits .and .i64 y 1 = 1 := by rw [and1]; omega
            have e0 : orH 2 = decide (x % 2 = 1) := by rw [show orH 2 = false from rfl]; symm; exact decide_eq_false (by omega)
            have e1 : orV 2 = decide (y % 2 = 1) := by rw [show orV 2 = true from rfl]; symm; exact decide_eq_true (by omega)
            have hh5 := has_bnd (o := 2) hv e0 e1
            rw [← HR.out] at hh5
            have cH : ∀ W, Calls Try.prog 29 #[.agg #[.int .i64 (R 2).x0, .int .i64 (R 2).y0, .int .i64 (R 2).x1, .int .i64 (R 2).y1], .agg #[.int .i64 (x / 2), .int .i64 (y / 2)]] W fun e w' => e = .returned (.bool (Pl.hasB a b c d x y)) ∧ Below W.heap.size W w' := fun W => by
              have q := has_c (R 2).x0 (R 2).y0 (R 2).x1 (R 2).y1 (x / 2) (y / 2) W
              rw [hh5] at q
              exact q
            have cK := fun W => has_c a b c d x y W
            have p0 := hP.pt.c0
            have p1 := hP.pt.c1
            go_upto_region 19 with fail
            clear e0 e1 hh5 hbx hby p0 p1
            generalize Pl.hasB a b c d x y = HB at *
            have f1 : (HB == HB) = true := by simp
            have f2 : decide (HB = HB) = true := by simp
            have q0 : ∀ X : Fam (Pw w w1.heap.size A ⟨a, b, c, d⟩ x y), X.W.cell? ⟨w1.heap.size, 8, none⟩ = some (.int .i64 (R 2).x0) := fun X => X.ok.blk.cell 8 _ (by rw [HA.out]; rfl)
            have q1 : ∀ X : Fam (Pw w w1.heap.size A ⟨a, b, c, d⟩ x y), X.W.cell? ⟨w1.heap.size, 9, none⟩ = some (.int .i64 (R 2).y0) := fun X => X.ok.blk.cell 9 _ (by rw [HA.out]; rfl)
            have q2 : ∀ X : Fam (Pw w w1.heap.size A ⟨a, b, c, d⟩ x y), X.W.cell? ⟨w1.heap.size, 10, none⟩ = some (.int .i64 (R 2).x1) := fun X => X.ok.blk.cell 10 _ (by rw [HA.out]; rfl)
            have q3 : ∀ X : Fam (Pw w w1.heap.size A ⟨a, b, c, d⟩ x y), X.W.cell? ⟨w1.heap.size, 11, none⟩ = some (.int .i64 (R 2).y1) := fun X => X.ok.blk.cell 11 _ (by rw [HA.out]; rfl)
            refine wp_region_in (fun X : Fam (Pw w w1.heap.size A ⟨a, b, c, d⟩ x y) => X.W) (by kernel_rfl) (by kernel_rfl) ⟨⟨_, hP.step (Below.refl _ _).drew⟩, rfl⟩ ?_
            repeat (first | go_big_quiet_step ((first | (go_at_call 30; first | (with_reducible exact call_in (cX _) (hst _)) | ((with_reducible show Calls _ _ #[.int .i64 x, _] _ _); exact call_in (cX _) (hst _)) | (with_reducible exact call_in (cY _) (hst _)) | ((with_reducible show Calls _ _ #[.int .i64 y, _] _ _); exact call_in (cY _) (hst _))) | (go_at_call 29; first | (with_reducible exact call_in (cK _) (hst _)) | ((with_reducible show Calls _ _ #[_, .agg #[.int .i64 x, _]] _ _); exact call_in (cK _) (hst _)) | (with_reducible exact call_in (cH _) (hst _)) | ((with_reducible show Calls _ _ #[_, .agg #[.int .i64 (x / 2), _]] _ _); exact call_in (cH _) (hst _))) | (go_at_call 19; exact call_in (awake_c _) (hst _)))) | quiet_step ((first | (go_at_call 30; first | (with_reducible exact call_in (cX _) (hst _)) | ((with_reducible show Calls _ _ #[.int .i64 x, _] _ _); exact call_in (cX _) (hst _)) | (with_reducible exact call_in (cY _) (hst _)) | ((with_reducible show Calls _ _ #[.int .i64 y, _] _ _); exact call_in (cY _) (hst _))) | (go_at_call 29; first | (with_reducible exact call_in (cK _) (hst _)) | ((with_reducible show Calls _ _ #[_, .agg #[.int .i64 x, _]] _ _); exact call_in (cK _) (hst _)) | (with_reducible exact call_in (cH _) (hst _)) | ((with_reducible show Calls _ _ #[_, .agg #[.int .i64 (x / 2), _]] _ _); exact call_in (cH _) (hst _))) | (go_at_call 19; exact call_in (awake_c _) (hst _)))))
            refine wpQuiet_nil ?_
            intro w9 hw'
            obtain ⟨⟨_, hS9⟩, hw''⟩ := hw'
            subst hw''
            clear hst hne r0 r1 r2 r3 t0 t1 q0 q1 q2 q3
            go_wp2
            go_ret
            exact ⟨rfl, hS9.below⟩
        · rcases (show y % 2 = 0 ∨ y % 2 = 1 by omega) with hy | hy
          · have hbx : bits .and .i64 x 1 = 1 := by rw [and1]; omega
            have hby : bits .and .i64 y 1 = 0 := by rw [and1]; omega
            have e0 : orH 1 = decide (x % 2 = 1) := by rw [show orH 1 = true from rfl]; symm; exact decide_eq_true (by omega)
            have e1 : orV 1 = decide (y % 2 = 1) := by rw [show orV 1 = false from rfl]; symm; exact decide_eq_false (by omega)
            have hh5 := has_bnd (o := 1) hv e0 e1
            rw [← HR.out] at hh5
            have cH : ∀ W, Calls Try.prog 29 #[.agg #[.int .i64 (R 1).x0, .int .i64 (R 1).y0, .int .i64 (R 1).x1, .int .i64 (R 1).y1], .agg #[.int .i64 (x / 2), .int .i64 (y / 2)]] W fun e w' => e = .returned (.bool (Pl.hasB a b c d x y)) ∧ Below W.heap.size W w' := fun W => by
              have q := has_c (R 1).x0 (R 1).y0 (R 1).x1 (R 1).y1 (x / 2) (y / 2) W
              rw [hh5] at q
              exact q
            have cK := fun W => has_c a b c d x y W
            have p0 := hP.pt.c0
            have p1 := hP.pt.c1
            go_upto_region 19 with fail
            clear e0 e1 hh5 hbx hby p0 p1
            generalize Pl.hasB a b c d x y = HB at *
            have f1 : (HB == HB) = true := by simp
            have f2 : decide (HB = HB) = true := by simp
            have q0 : ∀ X : Fam (Pw w w1.heap.size A ⟨a, b, c, d⟩ x y), X.W.cell? ⟨w1.heap.size, 4, none⟩ = some (.int .i64 (R 1).x0) := fun X => X.ok.blk.cell 4 _ (by rw [HA.out]; rfl)
            have q1 : ∀ X : Fam (Pw w w1.heap.size A ⟨a, b, c, d⟩ x y), X.W.cell? ⟨w1.heap.size, 5, none⟩ = some (.int .i64 (R 1).y0) := fun X => X.ok.blk.cell 5 _ (by rw [HA.out]; rfl)
            have q2 : ∀ X : Fam (Pw w w1.heap.size A ⟨a, b, c, d⟩ x y), X.W.cell? ⟨w1.heap.size, 6, none⟩ = some (.int .i64 (R 1).x1) := fun X => X.ok.blk.cell 6 _ (by rw [HA.out]; rfl)
            have q3 : ∀ X : Fam (Pw w w1.heap.size A ⟨a, b, c, d⟩ x y), X.W.cell? ⟨w1.heap.size, 7, none⟩ = some (.int .i64 (R 1).y1) := fun X => X.ok.blk.cell 7 _ (by rw [HA.out]; rfl)
            refine wp_region_in (fun X : Fam (Pw w w1.heap.size A ⟨a, b, c, d⟩ x y) => X.W) (by kernel_rfl) (by kernel_rfl) ⟨⟨_, hP.step (Below.refl _ _).drew⟩, rfl⟩ ?_
            repeat (first | go_big_quiet_step ((first | (go_at_call 30; first | (with_reducible exact call_in (cX _) (hst _)) | ((with_reducible show Calls _ _ #[.int .i64 x, _] _ _); exact call_in (cX _) (hst _)) | (with_reducible exact call_in (cY _) (hst _)) | ((with_reducible show Calls _ _ #[.int .i64 y, _] _ _); exact call_in (cY _) (hst _))) | (go_at_call 29; first | (with_reducible exact call_in (cK _) (hst _)) | ((with_reducible show Calls _ _ #[_, .agg #[.int .i64 x, _]] _ _); exact call_in (cK _) (hst _)) | (with_reducible exact call_in (cH _) (hst _)) | ((with_reducible show Calls _ _ #[_, .agg #[.int .i64 (x / 2), _]] _ _); exact call_in (cH _) (hst _))) | (go_at_call 19; exact call_in (awake_c _) (hst _)))) | quiet_step ((first | (go_at_call 30; first | (with_reducible exact call_in (cX _) (hst _)) | ((with_reducible show Calls _ _ #[.int .i64 x, _] _ _); exact call_in (cX _) (hst _)) | (with_reducible exact call_in (cY _) (hst _)) | ((with_reducible show Calls _ _ #[.int .i64 y, _] _ _); exact call_in (cY _) (hst _))) | (go_at_call 29; first | (with_reducible exact call_in (cK _) (hst _)) | ((with_reducible show Calls _ _ #[_, .agg #[.int .i64 x, _]] _ _); exact call_in (cK _) (hst _)) | (with_reducible exact call_in (cH _) (hst _)) | ((with_reducible show Calls _ _ #[_, .agg #[.int .i64 (x / 2), _]] _ _); exact call_in (cH _) (hst _))) | (go_at_call 19; exact call_in (awake_c _) (hst _)))))
            refine wpQuiet_nil ?_
            intro w9 hw'
            obtain ⟨⟨_, hS9⟩, hw''⟩ := hw'
            subst hw''
            clear hst hne r0 r1 r2 r3 t0 t1 q0 q1 q2 q3
            go_wp2
            go_ret
            exact ⟨rfl, hS9.below⟩
          · have hbx : bits .and .i64 x 1 = 1 := by rw [and1]; omega
            have hby : bits .and .i64 y 1 = 1 := by rw [and1]; omega
            have e0 : orH 3 = decide (x % 2 = 1) := by rw [show orH 3 = true from rfl]; symm; exact decide_eq_true (by omega)
            have e1 : orV 3 = decide (y % 2 = 1) := by rw [show orV 3 = true from rfl]; symm; exact decide_eq_true (by omega)
            have hh5 := has_bnd (o := 3) hv e0 e1
            rw [← HR.out] at hh5
            have cH : ∀ W, Calls Try.prog 29 #[.agg #[.int .i64 (R 3).x0, .int .i64 (R 3).y0, .int .i64 (R 3).x1, .int .i64 (R 3).y1], .agg #[.int .i64 (x / 2), .int .i64 (y / 2)]] W fun e w' => e = .returned (.bool (Pl.hasB a b c d x y)) ∧ Below W.heap.size W w' := fun W => by
              have q := has_c (R 3).x0 (R 3).y0 (R 3).x1 (R 3).y1 (x / 2) (y / 2) W
              rw [hh5] at q
              exact q
            have cK := fun W => has_c a b c d x y W
            have p0 := hP.pt.c0
            have p1 := hP.pt.c1
            go_upto_region 19 with fail
            clear e0 e1 hh5 hbx hby p0 p1
            generalize Pl.hasB a b c d x y = HB at *
            have f1 : (HB == HB) = true := by simp
            have f2 : decide (HB = HB) = true := by simp
            have q0 : ∀ X : Fam (Pw w w1.heap.size A ⟨a, b, c, d⟩ x y), X.W.cell? ⟨w1.heap.size, 12, none⟩ = some (.int .i64 (R 3).x0) := fun X => X.ok.blk.cell 12 _ (by rw [HA.out]; rfl)
            have q1 : ∀ X : Fam (Pw w w1.heap.size A ⟨a, b, c, d⟩ x y), X.W.cell? ⟨w1.heap.size, 13, none⟩ = some (.int .i64 (R 3).y0) := fun X => X.ok.blk.cell 13 _ (by rw [HA.out]; rfl)
            have q2 : ∀ X : Fam (Pw w w1.heap.size A ⟨a, b, c, d⟩ x y), X.W.cell? ⟨w1.heap.size, 14, none⟩ = some (.int .i64 (R 3).x1) := fun X => X.ok.blk.cell 14 _ (by rw [HA.out]; rfl)
            have q3 : ∀ X : Fam (Pw w w1.heap.size A ⟨a, b, c, d⟩ x y), X.W.cell? ⟨w1.heap.size, 15, none⟩ = some (.int .i64 (R 3).y1) := fun X => X.ok.blk.cell 15 _ (by rw [HA.out]; rfl)
            refine wp_region_in (fun X : Fam (Pw w w1.heap.size A ⟨a, b, c, d⟩ x y) => X.W) (by kernel_rfl) (by kernel_rfl) ⟨⟨_, hP.step (Below.refl _ _).drew⟩, rfl⟩ ?_
            repeat (first | go_big_quiet_step ((first | (go_at_call 30; first | (with_reducible exact call_in (cX _) (hst _)) | ((with_reducible show Calls _ _ #[.int .i64 x, _] _ _); exact call_in (cX _) (hst _)) | (with_reducible exact call_in (cY _) (hst _)) | ((with_reducible show Calls _ _ #[.int .i64 y, _] _ _); exact call_in (cY _) (hst _))) | (go_at_call 29; first | (with_reducible exact call_in (cK _) (hst _)) | ((with_reducible show Calls _ _ #[_, .agg #[.int .i64 x, _]] _ _); exact call_in (cK _) (hst _)) | (with_reducible exact call_in (cH _) (hst _)) | ((with_reducible show Calls _ _ #[_, .agg #[.int .i64 (x / 2), _]] _ _); exact call_in (cH _) (hst _))) | (go_at_call 19; exact call_in (awake_c _) (hst _)))) | quiet_step ((first | (go_at_call 30; first | (with_reducible exact call_in (cX _) (hst _)) | ((with_reducible show Calls _ _ #[.int .i64 x, _] _ _); exact call_in (cX _) (hst _)) | (with_reducible exact call_in (cY _) (hst _)) | ((with_reducible show Calls _ _ #[.int .i64 y, _] _ _); exact call_in (cY _) (hst _))) | (go_at_call 29; first | (with_reducible exact call_in (cK _) (hst _)) | ((with_reducible show Calls _ _ #[_, .agg #[.int .i64 x, _]] _ _); exact call_in (cK _) (hst _)) | (with_reducible exact call_in (cH _) (hst _)) | ((with_reducible show Calls _ _ #[_, .agg #[.int .i64 (x / 2), _]] _ _); exact call_in (cH _) (hst _))) | (go_at_call 19; exact call_in (awake_c _) (hst _)))))
            refine wpQuiet_nil ?_
            intro w9 hw'
            obtain ⟨⟨_, hS9⟩, hw''⟩ := hw'
            subst hw''
            clear hst hne r0 r1 r2 r3 t0 t1 q0 q1 q2 q3
            go_wp2
            go_ret
            exact ⟨rfl, hS9.below⟩

set_option maxRecDepth 100000 in
theorem lifted (os : Os) (started : os.Started) (H : Type) (enc : TypeId × Value → H) :
    ReturnsInHanded {} Try.checked os 7 .any (Rows.dwtPartitionsSpec.pre6 enc Try.prog Try.f7 Rows.dwtPartitionsRow.domain false) (Rows.dwtPartitionsSpec.post enc Try.prog Try.f7 false true false false) := by
  refine returnsInHanded_of_change (C := Try.checked) own started (by kernel_rfl) Try.func7
    (ChangeSpec.witness6 (enc := enc) (C := Try.checked) false ⟨#[], #[.agg #[.int .i64 0, .int .i64 0, .int .i64 0, .int .i64 0], .agg #[.int .i64 0, .int .i64 0]], []⟩ 8 (by kernel_rfl) (by kernel_rfl) (by kernel_rfl) (by kernel_rfl)) ?_
  intro W base args ds gs before hval0 hW _ _
  have hval : ∀ (j : Nat) t v, Try.f7.params[j]? = some t → args[j]? = some v → Value.okWide Try.prog W .any base t v := hval0
  have hW' := hW
  obtain ⟨p, q, hA0, hV, rfl, _, _⟩ := hW
  have hA : DataW.TrodAll enc Try.prog W 0 (fun _ => true) true Try.f7.params.toList args.toList ds p := hA0
  rw [Try.params7] at hA hval
  obtain ⟨v0, vs0, d0, ds0, p0, q0, hargs, rfl, rfl, h0, r0⟩ := trodAll_cons hA
  obtain ⟨v1, vs1, d1, ds1, p1, q1, rfl, rfl, rfl, h1, r1⟩ := trodAll_cons r0
  obtain ⟨rfl, rfl, rfl⟩ := trodAll_nil r1
  obtain rfl : args = #[v0, v1] := by cases args; simp_all
  obtain ⟨rfl, rfl⟩ := trodVars_none hV
  clear hA0 hval0
  simp only [List.append_nil] at hW'
  have l0 : ∀ x ∈ p0, x.block < W.heap.size := fun x hx => hW'.lt x (by simp [hx])
  have l1 : ∀ x ∈ p1, x.block < W.heap.size := fun x hx => hW'.lt x (by simp [hx])
  obtain ⟨a, b, c, d, rfl, w0a, w0b, w0c, w0d⟩ := open_rect (hval 0 23 v0 rfl rfl) h0
  obtain ⟨x, y, rfl, w1x, w1y⟩ := open_point (hval 1 43 v1 rfl rfl) h1
  refine (walk a b c d x y (bounds_i64 w1x).1 (bounds_i64 w1x).2 (bounds_i64 w1y).1 (bounds_i64 w1y).2 W).mono fun e W' ⟨he, hb⟩ => ?_
  subst he
  exact ⟨_, rfl, post_low (pa := p0 ++ (p1 ++ ([]))) (pv := []) hW' (fun _ _ _ => (trodAll_cons_mk (shut_bool Try.underlying4 _) trodAll_mk0)) (fun sp hsp => (trodAll_cons_mk (trod_low laidOut (by kernel_rfl) (of_decide_eq_true (by kernel_rfl)) h0 hb l0 (fun x hx => hsp x (by simp [hx]))) (trodAll_cons_mk (trod_low laidOut (by kernel_rfl) (of_decide_eq_true (by kernel_rfl)) h1 hb l1 (fun x hx => hsp x (by simp [hx]))) trodAll_mk0))) (fun _ _ => rfl) (by simp) hb (ok_one (by kernel_rfl) rfl (okWide_bool_mk Try.underlying4 _))⟩

theorem over : Rows.dwtPartitionsRow.holds Try.pinned (OpenSpec.ofChange Rows.dwtPartitionsSpec) :=
  OpenClaim.holds_of_wide 7 Try.f7 rfl rfl rfl rfl rfl rfl rfl ⟨rfl, rfl, rfl, rfl, rfl⟩ rfl rfl rfl rfl rfl (by kernel_rfl) Try.func7 (by kernel_rfl)
    (of_decide_eq_true (by kernel_rfl)) (by unfold Func.isWrapper; first | (rw [if_pos (by decide +kernel)]; kernel_rfl) | (rw [if_neg (by decide +kernel)]; exact ⟨rfl, rfl⟩))
    (fun os started H enc _ => lifted os started H enc)

theorem proved : Rows.DwtPartitionsSaid :=
  over
#print axioms proved
end Go.Proofs.Ytnfnidgabgdphaa.dwtPartitions
