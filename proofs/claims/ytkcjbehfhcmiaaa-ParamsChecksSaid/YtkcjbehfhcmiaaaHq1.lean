/-
  Layer 23: contract of count at a closure of crowded.
-/
import Derived.Test.YtkcjbehfhcmiaaaHq
set_option maxRecDepth 100000
namespace Go.Proofs.Ytkcjbehfhcmiaaa
open Go.RowKit

set_option maxHeartbeats 8000000 in
theorem count1_c (h : Hp.Hd) (T : Hp.Tls h) (p : Hp.Ps) (s s2 : Option Addr) (m m2 : Nat) (c : Hp.Cm) (hc4 : (1 ≤ c.dx ∧ c.dx ≤ 4096) ∧ 1 ≤ c.dy ∧ c.dy ≤ 4096) (res : Int) (ex ey : Int) (hx : 0 ≤ ex ∧ ex ≤ 12) (hy : 0 ≤ ey ∧ ey ≤ 12) (st : Option Addr) (mt gcm gp gr : Nat) (W : World) (hT : Holds W st (Hp.tl h)) (hc : Blk W gcm 56 #[.int .i64 c.depth, .bool c.sg, .int .i64 c.dx, .int .i64 c.dy]) (hp : Blk W gp 35 (pvA p s m s2 m2)) (hr : Blk W gr 3 #[.int .i64 res]) :
    Calls Try.prog 66 #[.slice st (Hp.tl h).length mt, .int .i64 (Hp.nc h : Int), .agg #[.int .i64 ex, .int .i64 ey], .func (.func 67) #[] #[.pointer (some ⟨gcm, 0, none⟩), .pointer (some ⟨gp, 0, none⟩), .pointer (some ⟨gr, 0, none⟩)]] W (GivesCt (Hp.xsL h (Hp.fRes p res c) ex) (Hp.ysL h (Hp.fRes p res c) ey) W) := by
  obtain ⟨X, hX⟩ : ∃ X, Hp.xsL h (Hp.fRes p res c) ex = X := ⟨_, rfl⟩
  obtain ⟨Y, hY⟩ : ∃ Y, Hp.ysL h (Hp.fRes p res c) ey = Y := ⟨_, rfl⟩
  have F : Hp.Sep (Hp.fRes p res c) := (Hp.sep_smp hc4.1 hc4.2).comp Hp.sep_res
  have HX := Lib.hid (show ∀ k (hk : k < X.length), k < Hp.nr h * Hp.nc h ∧ X[k] = Hp.cellsI (Hp.fRes p res c (Hp.tlN h k)).x0 (Hp.fRes p res c (Hp.tlN h k)).x1 (Pl.pw ex) ∧ Pl.validB (Hp.fRes p res c (Hp.tlN h k)).x0 (Hp.fRes p res c (Hp.tlN h k)).y0 (Hp.fRes p res c (Hp.tlN h k)).x1 (Hp.fRes p res c (Hp.tlN h k)).y1 = true from fun k hk => by
    have hk' : k < Hp.nc h := by rw [← hX] at hk; simpa [Hp.xsL] using hk
    have hlt : k < Hp.nr h * Hp.nc h := Nat.lt_of_lt_of_le hk' (by have := Nat.mul_le_mul_right (Hp.nc h) T.pos.2; omega)
    refine ⟨hlt, ?_, F.v _ (T.valid hlt)⟩
    subst hX
    simp [Hp.xsL])
  have HY := Lib.hid (show ∀ k (hk : k < Y.length), k * Hp.nc h < Hp.nr h * Hp.nc h ∧ Y[k] = Hp.cellsI (Hp.fRes p res c (Hp.tlN h (k * Hp.nc h))).y0 (Hp.fRes p res c (Hp.tlN h (k * Hp.nc h))).y1 (Pl.pw ey) ∧ Pl.validB (Hp.fRes p res c (Hp.tlN h (k * Hp.nc h))).x0 (Hp.fRes p res c (Hp.tlN h (k * Hp.nc h))).y0 (Hp.fRes p res c (Hp.tlN h (k * Hp.nc h))).x1 (Hp.fRes p res c (Hp.tlN h (k * Hp.nc h))).y1 = true from fun k hk => by
    have hk' : k < Hp.nr h := by rw [← hY] at hk; simpa [Hp.ysL] using hk
    have hlt : k * Hp.nc h < Hp.nr h * Hp.nc h := (Nat.mul_lt_mul_right T.pos.1).2 hk'
    refine ⟨hlt, ?_, F.v _ (T.valid hlt)⟩
    subst hY
    simp [Hp.ysL])
  have hXl : X.length = Hp.nc h := by rw [← hX]; simp [Hp.xsL]
  have hYl : Y.length = Hp.nr h := by rw [← hY]; simp [Hp.ysL]
  have hlen : (Hp.tl h).length = Hp.nr h * Hp.nc h := T.len
  have hfew := T.few
  have hpos := T.pos
  have hq : ((Hp.tl h).length : Int).tdiv (Hp.nc h : Int) = (Y.length : Int) := by
    rw [hlen, Int.natCast_mul, Int.tdiv_eq_ediv_of_nonneg (Int.mul_nonneg (by omega) (by omega)), Int.mul_ediv_cancel _ (by omega), hYl]
  have hXs : X.length ≤ 65536 := by rw [hXl]; exact Nat.le_trans (by have := Nat.mul_le_mul_right (Hp.nc h) hpos.2; omega) (Nat.le_trans hfew (by decide))
  have hYs : Y.length ≤ 65536 := by rw [hYl]; exact Nat.le_trans (by have := Nat.mul_le_mul_left (Hp.nr h) hpos.1; omega) (Nat.le_trans hfew (by decide))
  rw [hX, hY, ← hXl]
  rw [← hXl] at hq
  have HT := Lib.hid T
  have HTS := Lib.hid hT
  have HNC := Lib.hid hXl
  have HLN := Lib.hid hlen
  obtain ⟨LEN, hL⟩ : ∃ n, (Hp.tl h).length = n := ⟨_, rfl⟩
  rw [hL] at hq ⊢
  have HL := Lib.hid hL
  have hn0 : ¬ (X.length : Int) = 0 := by rw [hXl]; omega
  have hn1 : ¬ X.length = 0 := by rw [hXl]; omega
  have mx := fun w : World => mk_ints X.length hXs w
  have my := fun w : World => mk_ints Y.length hYs w
  have hwy : IntKind.i64.wrap (Y.length : Int) = (Y.length : Int) := IntWalk.i64_in _ (by omega)
  have hwy2 : wrap64 (Y.length : Int) = (Y.length : Int) := by rw [← IntWalk.i64_left]; exact hwy
  have HC := Lib.hid hc
  have HP := Lib.hid hp
  have HR := Lib.hid hr
  have HFEW := Lib.hid (show LEN ≤ 1024 by rw [← hL, hlen]; exact hfew)
  clear hX hY F hXl hYl hlen hfew hpos T hT hL hc hp hr
  go_enter Try.func66, Try.ntmps66
  go_upto_region 1 with fail
  obtain ⟨WB, hWB⟩ : ∃ x, x = (W.alloc (.cells #[.int .i64 ex, .int .i64 ey] 41)).alloc (.cells #[.slice none 0 0, .slice none 0 0] 82) := ⟨_, rfl⟩
  have hbe : Blk WB W.heap.size 41 #[.int .i64 ex, .int .i64 ey] := by rw [hWB]; exact (Blk.new _ _ _).alloc _
  have hbr : Blk WB (W.heap.size + 1) 82 #[.slice none 0 0, .slice none 0 0] := by
    have := Blk.new (W.alloc (.cells #[.int .i64 ex, .int .i64 ey] 41)) 82 #[.slice none 0 0, .slice none 0 0]
    rw [hWB]; simpa using this
  have hbb : Below W.heap.size W WB := by rw [hWB]; exact below_alloc (below_alloc (Below.refl _ _) (Nat.le_refl _) _) (by simp) _
  have hsz : WB.heap.size = W.heap.size + 1 + 1 := by rw [hWB]; simp
  rw [← hWB]
  have HBE := Lib.hid hbe
  have HBR := Lib.hid hbr
  have HBB := Lib.hid hbb
  have HSZ := Lib.hid hsz
  clear hbe hbr hbb hsz hWB
  go_cut [9] (fun s9 wx => ∃ gc g1 g2, s9 = .pointer (some ⟨gc, 0, none⟩) ∧ Hid (CtS W ex ey gc g1 g2 X Y 0 0 wx))
  case first =>
    go_region_law (fail)
    all_goals
      go_wp2_with fail
      go_meet
      first | (refine ⟨_, WB.heap.size, WB.heap.size + 1, rfl, Lib.hid ⟨(below_alloc (below_alloc (below_alloc HBB.out HBB.out.size _) (by have := HBB.out.size; simp; omega) _) (by have := HBB.out.size; simp; omega) _).drew, ?_, (((HBE.out.alloc _).alloc _).alloc _).drew, (((HBR.out.alloc _).alloc _).alloc _).drew, ?_, ?_, ?_, ?_, ?_⟩⟩ <;> first | (with_reducible exact new1) | (with_reducible exact new2) | (with_reducible exact new3) | (rw [fillL_zero]; refine made_row ?_; first | (with_reducible exact new1) | (with_reducible exact new2) | (with_reducible exact new3)) | (have := HSZ.out; omega))
            | (refine ⟨_, WB.heap.size, WB.heap.size + 1 + 1, rfl, Lib.hid ⟨(below_alloc (below_alloc (below_alloc HBB.out HBB.out.size _) (by have := HBB.out.size; simp; omega) _) (by have := HBB.out.size; simp; omega) _).drew, ?_, (((HBE.out.alloc _).alloc _).alloc _).drew, (((HBR.out.alloc _).alloc _).alloc _).drew, ?_, ?_, ?_, ?_, ?_⟩⟩ <;> first | (with_reducible exact new1) | (with_reducible exact new2) | (with_reducible exact new3) | (rw [fillL_zero]; refine made_row ?_; first | (with_reducible exact new1) | (with_reducible exact new2) | (with_reducible exact new3)) | (have := HSZ.out; omega))
            | (refine ⟨_, WB.heap.size + 1, WB.heap.size, rfl, Lib.hid ⟨(below_alloc (below_alloc (below_alloc HBB.out HBB.out.size _) (by have := HBB.out.size; simp; omega) _) (by have := HBB.out.size; simp; omega) _).drew, ?_, (((HBE.out.alloc _).alloc _).alloc _).drew, (((HBR.out.alloc _).alloc _).alloc _).drew, ?_, ?_, ?_, ?_, ?_⟩⟩ <;> first | (with_reducible exact new1) | (with_reducible exact new2) | (with_reducible exact new3) | (rw [fillL_zero]; refine made_row ?_; first | (with_reducible exact new1) | (with_reducible exact new2) | (with_reducible exact new3)) | (have := HSZ.out; omega))
            | (refine ⟨_, WB.heap.size + 1, WB.heap.size + 1 + 1, rfl, Lib.hid ⟨(below_alloc (below_alloc (below_alloc HBB.out HBB.out.size _) (by have := HBB.out.size; simp; omega) _) (by have := HBB.out.size; simp; omega) _).drew, ?_, (((HBE.out.alloc _).alloc _).alloc _).drew, (((HBR.out.alloc _).alloc _).alloc _).drew, ?_, ?_, ?_, ?_, ?_⟩⟩ <;> first | (with_reducible exact new1) | (with_reducible exact new2) | (with_reducible exact new3) | (rw [fillL_zero]; refine made_row ?_; first | (with_reducible exact new1) | (with_reducible exact new2) | (with_reducible exact new3)) | (have := HSZ.out; omega))
            | (refine ⟨_, WB.heap.size + 1 + 1, WB.heap.size, rfl, Lib.hid ⟨(below_alloc (below_alloc (below_alloc HBB.out HBB.out.size _) (by have := HBB.out.size; simp; omega) _) (by have := HBB.out.size; simp; omega) _).drew, ?_, (((HBE.out.alloc _).alloc _).alloc _).drew, (((HBR.out.alloc _).alloc _).alloc _).drew, ?_, ?_, ?_, ?_, ?_⟩⟩ <;> first | (with_reducible exact new1) | (with_reducible exact new2) | (with_reducible exact new3) | (rw [fillL_zero]; refine made_row ?_; first | (with_reducible exact new1) | (with_reducible exact new2) | (with_reducible exact new3)) | (have := HSZ.out; omega))
            | (refine ⟨_, WB.heap.size + 1 + 1, WB.heap.size + 1, rfl, Lib.hid ⟨(below_alloc (below_alloc (below_alloc HBB.out HBB.out.size _) (by have := HBB.out.size; simp; omega) _) (by have := HBB.out.size; simp; omega) _).drew, ?_, (((HBE.out.alloc _).alloc _).alloc _).drew, (((HBR.out.alloc _).alloc _).alloc _).drew, ?_, ?_, ?_, ?_, ?_⟩⟩ <;> first | (with_reducible exact new1) | (with_reducible exact new2) | (with_reducible exact new3) | (rw [fillL_zero]; refine made_row ?_; first | (with_reducible exact new1) | (with_reducible exact new2) | (with_reducible exact new3)) | (have := HSZ.out; omega))
  case rest =>
    obtain ⟨gc0, g1, g2, rfl, hst⟩ := hcut
    clear mx my HBE HBR HBB HSZ hq
    have z0 := hst.out.bc.get 0 (v := .slice (some ⟨g1, 0, none⟩) X.length X.length) rfl
    go_upto_region 3 with fail
    clear z0
    go_loopw [25] (fun i wr => ∃ k : Nat, k ≤ X.length ∧ i = .int .i64 k ∧ Hid (CtS W ex ey gc0 g1 g2 X Y k 0 wr)) (fun i _ => X.length - (intOf i).toNat)
    case atStart => exact ⟨0, Nat.zero_le _, rfl, hst⟩
    case round =>
      obtain ⟨k, hk, rfl, hs⟩ := hrel
      clear hst
      by_cases hlt : k < X.length
      · have hki : (k : Int) < (X.length : Int) := by omega
        have w2 : IntKind.i64.wrap ((k : Int) + 1) = (k : Int) + 1 := IntWalk.i64_in _ (by omega)
        obtain ⟨hkn, hxk, hvk⟩ := HX.out k hlt
        have wlt2 : k < LEN := by rw [← HL.out, HLN.out]; exact hkn
        have wlt : (k : Int) < (LEN : Int) := Int.ofNat_lt.2 wlt2
        obtain ⟨tb, tof, rfl, t0, t1, t2, t3⟩ := tile_at HT.out HTS.out hkn hs.out.bl
        have cb := clo1 p s s2 m m2 c res (Hp.tlN h k) gcm gp gr wr (HC.out.belowAt hs.out.bl HC.out.lt) (HP.out.belowAt hs.out.bl HP.out.lt) (HR.out.belowAt hs.out.bl HR.out.lt)
        obtain ⟨sa, wa1, wa2, wa3⟩ := pw_facts (e := ex) (m := 12) (by omega) (by omega)
        have wa0 : wrap64 (2 ^ min (ex).toNat 64) = Pl.pw ex := by rw [show min (ex).toNat 64 = (ex).toNat by omega, sa, ← IntWalk.i64_left]; exact wa1
        have wa5 : IntKind.i64.wrap ((2 : Int) ^ (ex).toNat) = Pl.pw ex := by rw [sa]; exact wa1
        have ze1 : 0 ≤ ex := by omega
        have ze2 : ¬ ex < 0 := by omega
        have hfq : (Hp.fRes p res c) (Hp.tlN h k) = Hp.fRes p res c (Hp.tlN h k) := rfl
        generalize (Hp.fRes p res c) (Hp.tlN h k) = Q at *
        dsimp only [rv] at cb
        clear hfq
        obtain ⟨v1, v2, v3, v4, v5, v6⟩ := Pl.valid_iff.1 hvk
        have HXK := Lib.hid hxk
        have kc := fun W1 : World => cells_p Q.x0 Q.x1 (Pl.pw ex) W1 (Pl.pw_pos _) (by omega) (by omega) (by omega) (by omega)
        rw [← hxk] at kc
        generalize Pl.pw ex = PW at *
        clear v1 v2 v3 v4 v5 v6 hvk hxk sa wa1 wa2 wa3 HXK hkn
        go_upto_region 6 with (first | (go_at_call 67; (with_reducible refine cb.mono ?_); rintro e w1 ⟨rfl, hb1⟩; have HSB := Lib.hid (hs.out.below hb1); have HS1 := Lib.hid (HSB.out.alloc (.cells #[.int .i64 Q.x0, .int .i64 Q.y0, .int .i64 Q.x1, .int .i64 Q.y1] 23)); clear hb1) | fail)
        have kc := kc (w1.alloc (.cells #[.int .i64 Q.x0, .int .i64 Q.y0, .int .i64 Q.x1, .int .i64 Q.y1] 23)).drew
        have HKL := Lib.hid hlt
        clear t0 t1 t2 t3 cb
        have HS2 := Lib.hid HS1.out.drew
        have KS := Lib.hid (show (fun w' => w'.cell? ⟨gc0, 0, none⟩ = some (.slice (some ⟨g1, 0, none⟩) X.length X.length) ∧ w'.cell? ⟨w1.heap.size, 0, none⟩ = some (.int .i64 Q.x0) ∧ w'.cell? ⟨w1.heap.size, 2, none⟩ = some (.int .i64 Q.x1) ∧ w'.cell? ⟨W.heap.size, 0, none⟩ = some (.int .i64 ex)) (w1.alloc (.cells #[.int .i64 Q.x0, .int .i64 Q.y0, .int .i64 Q.x1, .int .i64 Q.y1] 23)).drew from ⟨HS2.out.bc.get 0 rfl, by simp, by simp, HS2.out.be.get 0 rfl⟩)
        have hne1 : gc0 ≠ g1 := HS2.out.bc.ne (row_blk HS2.out.r1) (by decide)
        have hne2 : w1.heap.size ≠ g1 := fun e => by have := HSB.out.r1.lt; omega
        have hne3 : W.heap.size ≠ g1 := fun e => by have := HS2.out.b1; omega
        have KL := Lib.hid (show ∀ (w : World) (v : Value), (fun w' => w'.cell? ⟨gc0, 0, none⟩ = some (.slice (some ⟨g1, 0, none⟩) X.length X.length) ∧ w'.cell? ⟨w1.heap.size, 0, none⟩ = some (.int .i64 Q.x0) ∧ w'.cell? ⟨w1.heap.size, 2, none⟩ = some (.int .i64 Q.x1) ∧ w'.cell? ⟨W.heap.size, 0, none⟩ = some (.int .i64 ex)) w → (fun w' => w'.cell? ⟨gc0, 0, none⟩ = some (.slice (some ⟨g1, 0, none⟩) X.length X.length) ∧ w'.cell? ⟨w1.heap.size, 0, none⟩ = some (.int .i64 Q.x0) ∧ w'.cell? ⟨w1.heap.size, 2, none⟩ = some (.int .i64 Q.x1) ∧ w'.cell? ⟨W.heap.size, 0, none⟩ = some (.int .i64 ex)) (w.setCell ⟨g1, k, none⟩ v) from fun w v h => ⟨cell_far _ h.1 hne1, cell_far _ h.2.1 hne2, cell_far _ h.2.2.1 hne2, cell_far _ h.2.2.2 hne3⟩)
        have tk := HS2.out.r1.at (k := k) (by rw [fillL_len _ _ (by omega)]; omega)
        have tf := HS2.out.r1.free k
        generalize (fillL X k)[k]'(by rw [fillL_len _ _ (by omega)]; omega) = old at tk
        clear hne1 hne2 hne3
        refine wp_region_held_drew (S := (fun w' => w'.cell? ⟨gc0, 0, none⟩ = some (.slice (some ⟨g1, 0, none⟩) X.length X.length) ∧ w'.cell? ⟨w1.heap.size, 0, none⟩ = some (.int .i64 Q.x0) ∧ w'.cell? ⟨w1.heap.size, 2, none⟩ = some (.int .i64 Q.x1) ∧ w'.cell? ⟨W.heap.size, 0, none⟩ = some (.int .i64 ex))) (by kernel_rfl) (by (try dsimp only); exact KS.out) (fun hHeld => ?_)
        refine takeD (i := 0) (oi := _) (some 34) (v := ?_) rfl rfl (by kernel_rfl) (by kernel_rfl) (by kernel_rfl) (fun _ _ _ h => h) (Or.inl ⟨by rfl, ?_⟩) (by assumption) ?_
        rotate_left
        · (intro w hSw; (try dsimp only at hSw); go_simp; try with_reducible rfl)
        simp only [Act.put, List.setIfInBounds_toArray, List.set]
        refine takeD (i := 1) (oi := _) (some 35) (v := ?_) rfl rfl (by kernel_rfl) (by kernel_rfl) (by kernel_rfl) (fun _ _ _ h => h) (Or.inl ⟨by rfl, ?_⟩) (by assumption) ?_
        rotate_left
        · (intro w hSw; (try dsimp only at hSw); go_simp; try with_reducible rfl)
        simp only [Act.put, List.setIfInBounds_toArray, List.set]
        refine takeD (i := 2) (oi := _) (some 36) (v := ?_) rfl rfl (by kernel_rfl) (by kernel_rfl) (by kernel_rfl) (fun _ _ _ h => h) (Or.inl ⟨by rfl, ?_⟩) (by assumption) ?_
        rotate_left
        · (intro w hSw; (try dsimp only at hSw); go_simp; try with_reducible rfl)
        simp only [Act.put, List.setIfInBounds_toArray, List.set]
        refine takeD (i := 3) (oi := _) (some 37) (v := ?_) rfl rfl (by kernel_rfl) (by kernel_rfl) (by kernel_rfl) (fun _ _ _ h => h) (Or.inl ⟨by rfl, ?_⟩) (by assumption) ?_
        rotate_left
        · (intro w hSw; (try dsimp only at hSw); go_simp; try with_reducible rfl)
        simp only [Act.put, List.setIfInBounds_toArray, List.set]
        refine takeD (i := 4) (oi := _) (some 38) (v := ?_) rfl rfl (by kernel_rfl) (by kernel_rfl) (by kernel_rfl) (fun _ _ _ h => h) (Or.inl ⟨by rfl, ?_⟩) (by assumption) ?_
        rotate_left
        · (intro w hSw; (try dsimp only at hSw); go_simp; try with_reducible rfl)
        simp only [Act.put, List.setIfInBounds_toArray, List.set]
        refine takeD (i := 5) (oi := _) (some 39) (v := ?_) rfl rfl (by kernel_rfl) (by kernel_rfl) (by kernel_rfl) (fun _ _ _ h => h) (Or.inl ⟨by rfl, ?_⟩) (by assumption) ?_
        rotate_left
        · (intro w hSw; (try dsimp only at hSw); go_simp; try with_reducible rfl)
        simp only [Act.put, List.setIfInBounds_toArray, List.set]
        refine takeD (i := 6) (oi := _) (some 40) (v := ?_) rfl rfl (by kernel_rfl) (by kernel_rfl) (by kernel_rfl) (fun _ _ _ h => h) (Or.inl ⟨by rfl, ?_⟩) (by assumption) ?_
        rotate_left
        · (intro w hSw; (try dsimp only at hSw); go_simp; try with_reducible rfl)
        simp only [Act.put, List.setIfInBounds_toArray, List.set]
        refine takeD (i := 7) (oi := _) (some 41) (v := ?_) rfl rfl (by kernel_rfl) (by kernel_rfl) (by kernel_rfl) (fun _ _ _ h => h) (Or.inl ⟨by rfl, ?_⟩) (by assumption) ?_
        rotate_left
        · (intro w hSw; (try dsimp only at hSw); go_simp; try with_reducible rfl)
        simp only [Act.put, List.setIfInBounds_toArray, List.set]
        refine takeD (i := 8) (oi := _) (some 42) (v := ?_) rfl rfl (by kernel_rfl) (by kernel_rfl) (by kernel_rfl) (fun _ _ _ h => h) (Or.inl ⟨by rfl, ?_⟩) (by assumption) ?_
        rotate_left
        · (intro w hSw; (try dsimp only at hSw); go_simp; try with_reducible rfl)
        simp only [Act.put, List.setIfInBounds_toArray, List.set]
        refine takeD (i := 9) (oi := _) (some 43) (v := ?_) rfl rfl (by kernel_rfl) (by kernel_rfl) (by kernel_rfl) (fun _ _ _ h => h) (Or.inl ⟨by rfl, ?_⟩) (by assumption) ?_
        rotate_left
        · (intro w hSw; (try dsimp only at hSw); go_simp; try with_reducible rfl)
        simp only [Act.put, List.setIfInBounds_toArray, List.set]
        refine wpAnyH_ready (rs := [10]) (by kernel_rfl) (by simp) ?_
        refine AllReadyH.cons (o := _) rfl (fun K hK => ?_) AllReadyH.nil
        (go_simp; go_at_call 65; (with_reducible refine kc.mono ?_); rintro e wn ⟨rfl, rfl⟩)
        refine hK.out _ _ (by (try dsimp only); first | exact hHeld | exact KL.out _ _ hHeld) (fun hHeld => ?_)
        clear hK K
        try simp only [Act.put, List.setIfInBounds_toArray, List.set]
        refine takeD (i := 11) (oi := _) (some 45) (v := ?_) rfl rfl (by kernel_rfl) (by kernel_rfl) (by kernel_rfl) (fun _ _ _ h => h) (Or.inl ⟨by rfl, ?_⟩) (by assumption) ?_
        rotate_left
        · (intro w hSw; (try dsimp only at hSw); go_simp; try with_reducible rfl)
        simp only [Act.put, List.setIfInBounds_toArray, List.set]
        refine wpAnyH_ready (rs := [12]) (by kernel_rfl) (by simp) ?_
        refine AllReadyH.cons (o := _) rfl (fun K hK => ?_) AllReadyH.nil
        go_simp
        refine hK.out _ _ (by (try dsimp only); first | exact hHeld | exact KL.out _ _ hHeld) (fun hHeld => ?_)
        clear hK K
        try simp only [Act.put, List.setIfInBounds_toArray, List.set]
        refine wpAnyH_done (by kernel_rfl) ?_ _
        clear hHeld tk tf
        have HFIN := Lib.hid (HS2.out.set1 HKL.out)
        go_wp2_with fail
        go_roundw
        case rel => exact ⟨k + 1, by omega, by go_num, HFIN⟩
        case measure => simp [intOf]; omega
      · obtain rfl : k = X.length := by omega
        have z1 := hs.out.bc.get 1 (v := .slice (some ⟨g2, 0, none⟩) Y.length Y.length) rfl
        go_upto_region 9 with fail
        clear z1
        have hs0 := hs
        clear hs hk
        go_loopw [50] (fun i wr2 => ∃ k : Nat, k ≤ Y.length ∧ i = .int .i64 k ∧ Hid (CtS W ex ey gc0 g1 g2 X Y X.length k wr2)) (fun i _ => Y.length - (intOf i).toNat)
        case atStart => exact ⟨0, Nat.zero_le _, rfl, hs0⟩
        case round =>
          obtain ⟨k, hk, rfl, hs⟩ := hrel
          clear hs0
          by_cases hlt2 : k < Y.length
          · have hki : (k : Int) < (Y.length : Int) := by omega
            have w2 : IntKind.i64.wrap ((k : Int) + 1) = (k : Int) + 1 := IntWalk.i64_in _ (by omega)
            obtain ⟨hkn, hxk, hvk⟩ := HY.out k hlt2
            obtain ⟨tn, hTN, wm, wlt, wlt2⟩ := tile_mul HNC.out hkn (HL.out.symm.trans HLN.out) HFEW.out
            rw [hTN] at hkn hxk hvk
            clear hTN
            obtain ⟨tb, tof, rfl, t0, t1, t2, t3⟩ := tile_at HT.out HTS.out hkn hs.out.bl
            have cb := clo1 p s s2 m m2 c res (Hp.tlN h tn) gcm gp gr wr (HC.out.belowAt hs.out.bl HC.out.lt) (HP.out.belowAt hs.out.bl HP.out.lt) (HR.out.belowAt hs.out.bl HR.out.lt)
            obtain ⟨sa, wa1, wa2, wa3⟩ := pw_facts (e := ey) (m := 12) (by omega) (by omega)
            have wa0 : wrap64 (2 ^ min (ey).toNat 64) = Pl.pw ey := by rw [show min (ey).toNat 64 = (ey).toNat by omega, sa, ← IntWalk.i64_left]; exact wa1
            have wa5 : IntKind.i64.wrap ((2 : Int) ^ (ey).toNat) = Pl.pw ey := by rw [sa]; exact wa1
            have ze1 : 0 ≤ ey := by omega
            have ze2 : ¬ ey < 0 := by omega
            have hfq : (Hp.fRes p res c) (Hp.tlN h tn) = Hp.fRes p res c (Hp.tlN h tn) := rfl
            generalize (Hp.fRes p res c) (Hp.tlN h tn) = Q at *
            dsimp only [rv] at cb
            clear hfq
            obtain ⟨v1, v2, v3, v4, v5, v6⟩ := Pl.valid_iff.1 hvk
            have HXK := Lib.hid hxk
            have kc := fun W1 : World => cells_p Q.y0 Q.y1 (Pl.pw ey) W1 (Pl.pw_pos _) (by omega) (by omega) (by omega) (by omega)
            rw [← hxk] at kc
            generalize Pl.pw ey = PW at *
            clear v1 v2 v3 v4 v5 v6 hvk hxk sa wa1 wa2 wa3 HXK hkn
            go_upto_region 12 with (first | (go_at_call 67; (with_reducible refine cb.mono ?_); rintro e w1 ⟨rfl, hb1⟩; have HSB := Lib.hid (hs.out.below hb1); have HS1 := Lib.hid (HSB.out.alloc (.cells #[.int .i64 Q.x0, .int .i64 Q.y0, .int .i64 Q.x1, .int .i64 Q.y1] 23)); clear hb1) | fail)
            have kc := kc (w1.alloc (.cells #[.int .i64 Q.x0, .int .i64 Q.y0, .int .i64 Q.x1, .int .i64 Q.y1] 23)).drew
            have HKL := Lib.hid hlt2
            clear t0 t1 t2 t3 cb
            have HS2 := Lib.hid HS1.out.drew
            have KS := Lib.hid (show (fun w' => w'.cell? ⟨gc0, 1, none⟩ = some (.slice (some ⟨g2, 0, none⟩) Y.length Y.length) ∧ w'.cell? ⟨w1.heap.size, 1, none⟩ = some (.int .i64 Q.y0) ∧ w'.cell? ⟨w1.heap.size, 3, none⟩ = some (.int .i64 Q.y1) ∧ w'.cell? ⟨W.heap.size, 1, none⟩ = some (.int .i64 ey)) (w1.alloc (.cells #[.int .i64 Q.x0, .int .i64 Q.y0, .int .i64 Q.x1, .int .i64 Q.y1] 23)).drew from ⟨HS2.out.bc.get 1 rfl, by simp, by simp, HS2.out.be.get 1 rfl⟩)
            have hne1 : gc0 ≠ g2 := HS2.out.bc.ne (row_blk HS2.out.r2) (by decide)
            have hne2 : w1.heap.size ≠ g2 := fun e => by have := HSB.out.r2.lt; omega
            have hne3 : W.heap.size ≠ g2 := fun e => by have := HS2.out.b2; omega
            have KL := Lib.hid (show ∀ (w : World) (v : Value), (fun w' => w'.cell? ⟨gc0, 1, none⟩ = some (.slice (some ⟨g2, 0, none⟩) Y.length Y.length) ∧ w'.cell? ⟨w1.heap.size, 1, none⟩ = some (.int .i64 Q.y0) ∧ w'.cell? ⟨w1.heap.size, 3, none⟩ = some (.int .i64 Q.y1) ∧ w'.cell? ⟨W.heap.size, 1, none⟩ = some (.int .i64 ey)) w → (fun w' => w'.cell? ⟨gc0, 1, none⟩ = some (.slice (some ⟨g2, 0, none⟩) Y.length Y.length) ∧ w'.cell? ⟨w1.heap.size, 1, none⟩ = some (.int .i64 Q.y0) ∧ w'.cell? ⟨w1.heap.size, 3, none⟩ = some (.int .i64 Q.y1) ∧ w'.cell? ⟨W.heap.size, 1, none⟩ = some (.int .i64 ey)) (w.setCell ⟨g2, k, none⟩ v) from fun w v h => ⟨cell_far _ h.1 hne1, cell_far _ h.2.1 hne2, cell_far _ h.2.2.1 hne2, cell_far _ h.2.2.2 hne3⟩)
            have tk := HS2.out.r2.at (k := k) (by rw [fillL_len _ _ (by omega)]; omega)
            have tf := HS2.out.r2.free k
            generalize (fillL Y k)[k]'(by rw [fillL_len _ _ (by omega)]; omega) = old at tk
            clear hne1 hne2 hne3
            refine wp_region_held_drew (S := (fun w' => w'.cell? ⟨gc0, 1, none⟩ = some (.slice (some ⟨g2, 0, none⟩) Y.length Y.length) ∧ w'.cell? ⟨w1.heap.size, 1, none⟩ = some (.int .i64 Q.y0) ∧ w'.cell? ⟨w1.heap.size, 3, none⟩ = some (.int .i64 Q.y1) ∧ w'.cell? ⟨W.heap.size, 1, none⟩ = some (.int .i64 ey))) (by kernel_rfl) (by (try dsimp only); exact KS.out) (fun hHeld => ?_)
            refine takeD (i := 0) (oi := _) (some 61) (v := ?_) rfl rfl (by kernel_rfl) (by kernel_rfl) (by kernel_rfl) (fun _ _ _ h => h) (Or.inl ⟨by rfl, ?_⟩) (by assumption) ?_
            rotate_left
            · (intro w hSw; (try dsimp only at hSw); go_simp; try with_reducible rfl)
            simp only [Act.put, List.setIfInBounds_toArray, List.set]
            refine takeD (i := 1) (oi := _) (some 62) (v := ?_) rfl rfl (by kernel_rfl) (by kernel_rfl) (by kernel_rfl) (fun _ _ _ h => h) (Or.inl ⟨by rfl, ?_⟩) (by assumption) ?_
            rotate_left
            · (intro w hSw; (try dsimp only at hSw); go_simp; try with_reducible rfl)
            simp only [Act.put, List.setIfInBounds_toArray, List.set]
            refine takeD (i := 2) (oi := _) (some 63) (v := ?_) rfl rfl (by kernel_rfl) (by kernel_rfl) (by kernel_rfl) (fun _ _ _ h => h) (Or.inl ⟨by rfl, ?_⟩) (by assumption) ?_
            rotate_left
            · (intro w hSw; (try dsimp only at hSw); go_simp; try with_reducible rfl)
            simp only [Act.put, List.setIfInBounds_toArray, List.set]
            refine takeD (i := 3) (oi := _) (some 64) (v := ?_) rfl rfl (by kernel_rfl) (by kernel_rfl) (by kernel_rfl) (fun _ _ _ h => h) (Or.inl ⟨by rfl, ?_⟩) (by assumption) ?_
            rotate_left
            · (intro w hSw; (try dsimp only at hSw); go_simp; try with_reducible rfl)
            simp only [Act.put, List.setIfInBounds_toArray, List.set]
            refine takeD (i := 4) (oi := _) (some 65) (v := ?_) rfl rfl (by kernel_rfl) (by kernel_rfl) (by kernel_rfl) (fun _ _ _ h => h) (Or.inl ⟨by rfl, ?_⟩) (by assumption) ?_
            rotate_left
            · (intro w hSw; (try dsimp only at hSw); go_simp; try with_reducible rfl)
            simp only [Act.put, List.setIfInBounds_toArray, List.set]
            refine takeD (i := 5) (oi := _) (some 66) (v := ?_) rfl rfl (by kernel_rfl) (by kernel_rfl) (by kernel_rfl) (fun _ _ _ h => h) (Or.inl ⟨by rfl, ?_⟩) (by assumption) ?_
            rotate_left
            · (intro w hSw; (try dsimp only at hSw); go_simp; try with_reducible rfl)
            simp only [Act.put, List.setIfInBounds_toArray, List.set]
            refine takeD (i := 6) (oi := _) (some 67) (v := ?_) rfl rfl (by kernel_rfl) (by kernel_rfl) (by kernel_rfl) (fun _ _ _ h => h) (Or.inl ⟨by rfl, ?_⟩) (by assumption) ?_
            rotate_left
            · (intro w hSw; (try dsimp only at hSw); go_simp; try with_reducible rfl)
            simp only [Act.put, List.setIfInBounds_toArray, List.set]
            refine takeD (i := 7) (oi := _) (some 68) (v := ?_) rfl rfl (by kernel_rfl) (by kernel_rfl) (by kernel_rfl) (fun _ _ _ h => h) (Or.inl ⟨by rfl, ?_⟩) (by assumption) ?_
            rotate_left
            · (intro w hSw; (try dsimp only at hSw); go_simp; try with_reducible rfl)
            simp only [Act.put, List.setIfInBounds_toArray, List.set]
            refine takeD (i := 8) (oi := _) (some 69) (v := ?_) rfl rfl (by kernel_rfl) (by kernel_rfl) (by kernel_rfl) (fun _ _ _ h => h) (Or.inl ⟨by rfl, ?_⟩) (by assumption) ?_
            rotate_left
            · (intro w hSw; (try dsimp only at hSw); go_simp; try with_reducible rfl)
            simp only [Act.put, List.setIfInBounds_toArray, List.set]
            refine takeD (i := 9) (oi := _) (some 70) (v := ?_) rfl rfl (by kernel_rfl) (by kernel_rfl) (by kernel_rfl) (fun _ _ _ h => h) (Or.inl ⟨by rfl, ?_⟩) (by assumption) ?_
            rotate_left
            · (intro w hSw; (try dsimp only at hSw); go_simp; try with_reducible rfl)
            simp only [Act.put, List.setIfInBounds_toArray, List.set]
            refine wpAnyH_ready (rs := [10]) (by kernel_rfl) (by simp) ?_
            refine AllReadyH.cons (o := _) rfl (fun K hK => ?_) AllReadyH.nil
            (go_simp; go_at_call 65; (with_reducible refine kc.mono ?_); rintro e wn ⟨rfl, rfl⟩)
            refine hK.out _ _ (by (try dsimp only); first | exact hHeld | exact KL.out _ _ hHeld) (fun hHeld => ?_)
            clear hK K
            try simp only [Act.put, List.setIfInBounds_toArray, List.set]
            refine takeD (i := 11) (oi := _) (some 72) (v := ?_) rfl rfl (by kernel_rfl) (by kernel_rfl) (by kernel_rfl) (fun _ _ _ h => h) (Or.inl ⟨by rfl, ?_⟩) (by assumption) ?_
            rotate_left
            · (intro w hSw; (try dsimp only at hSw); go_simp; try with_reducible rfl)
            simp only [Act.put, List.setIfInBounds_toArray, List.set]
            refine wpAnyH_ready (rs := [12]) (by kernel_rfl) (by simp) ?_
            refine AllReadyH.cons (o := _) rfl (fun K hK => ?_) AllReadyH.nil
            go_simp
            refine hK.out _ _ (by (try dsimp only); first | exact hHeld | exact KL.out _ _ hHeld) (fun hHeld => ?_)
            clear hK K
            try simp only [Act.put, List.setIfInBounds_toArray, List.set]
            refine wpAnyH_done (by kernel_rfl) ?_ _
            clear hHeld tk tf
            have HFIN := Lib.hid (HS2.out.set2 HKL.out)
            go_wp2_with fail
            go_roundw
            case rel => exact ⟨k + 1, by omega, by go_num, HFIN⟩
            case measure => simp [intOf]; omega
          · obtain rfl : k = Y.length := by omega
            obtain ⟨z0, z1⟩ := hs.out.bc.two
            obtain ⟨y0, y1⟩ := hs.out.br.two
            have yf := hs.out.br.free
            go_wp2_with fail
            refine bodyPost_ret (results_ct rfl _ rfl (hs.out.br.set2 _ _)) rfl ?_
            have r1 := hs.out.r1
            have r2 := hs.out.r2
            rw [fillL_all] at r1 r2
            exact ⟨g1, g2, rfl, (r1.far _ _ (by have := hs.out.b1; show g1 ≠ W.heap.size + 1; omega)).far _ _ (by have := hs.out.b1; show g1 ≠ W.heap.size + 1; omega), (r2.far _ _ (by have := hs.out.b2; show g2 ≠ W.heap.size + 1; omega)).far _ _ (by have := hs.out.b2; show g2 ≠ W.heap.size + 1; omega), by have := hs.out.b1; omega, by have := hs.out.b2; omega, below2 hs.out.bl (by omega) _ _⟩
end Go.Proofs.Ytkcjbehfhcmiaaa
