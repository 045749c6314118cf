/-
  The examples of the chapter of layer 7 hold.
-/
import Derived.Test.YtadkcgpkbcgeoaaCoT
import Derived.Test.YtadkcgpkbcgeoaaEx02
set_option maxRecDepth 100000
namespace Go.Proofs.Ytadkcgpkbcgeoaa
open Go.RowKit

set_option maxHeartbeats 400000 in
theorem rp_err (t bd E : Int) (a : Option Addr) (n m : Nat) (fv : Value) (w : World) (hE : ¬ E = 0) (hT : Calls Try.prog 90 #[.int .i64 t, .slice a n m, .int .i64 bd] w fun e w' => e = .returned (.int .i64 E) ∧ Below w.heap.size w w') :
    Calls Try.prog 64 #[.int .i64 t, .slice a n m, .int .i64 bd, fv] w fun e w' => e = .returned (.tuple #[.slice none 0 0, .int .i64 E]) ∧ Below w.heap.size w w' := by
  go_enter Try.func64, Try.ntmps64
  go_wp2_with fail
  refine hT.mono ?_
  rintro e w1 ⟨rfl, hb⟩
  clear hT
  go_wp2
  go_ret2
  exact ⟨rfl, hb⟩
set_option maxHeartbeats 400000 in
theorem ap_err (t E : Int) (a : Option Addr) (n m : Nat) (w : World) (hE : ¬ E = 0) (hT : Calls Try.prog 90 #[.int .i64 t, .slice a n m, .int .i64 1048576] w fun e w' => e = .returned (.int .i64 E) ∧ Below w.heap.size w w') :
    Calls Try.prog 27 #[.int .i64 t, .slice a n m] w fun e w' => e = .returned (.tuple #[.slice none 0 0, .int .i64 E]) ∧ Below w.heap.size w w' := by
  have hR := fun fv => rp_err t 1048576 E a n m fv w hE hT
  go_enter Try.func27, Try.ntmps27
  go_wp2_with fail
  refine (hR _).mono ?_
  rintro e w1 ⟨rfl, hb⟩
  clear hR hT
  go_wp2
  go_ret2
  exact ⟨rfl, hb⟩
theorem e7f1 (w : World) : Calls Try.prog 22 #[.int .i64 1, .int .i64 10, .int .i64 20, .int .i64 5] w fun e w' => e = .returned (.tuple #[.int .i64 13, .int .i64 (-15), .int .i64 (-10)]) ∧ Below w.heap.size w w' := by
  have h := Fw_q 1 10 20 5 w (fun _ => by decide)
  rw [show Co.fwY 1 10 20 5 = 13 by decide, show Co.fwU 1 10 20 5 = (-15) by decide, show Co.fwV 1 10 20 5 = (-10) by decide] at h
  exact h
theorem e7i1 (w : World) : Calls Try.prog 24 #[.int .i64 1, .int .i64 13, .int .i64 (-15), .int .i64 (-10)] w fun e w' => e = .returned (.tuple #[.int .i64 10, .int .i64 20, .int .i64 5]) ∧ Below w.heap.size w w' := by
  have h := Iv_q 1 13 (-15) (-10) w (fun _ => by decide)
  rw [show Co.ivA 1 13 (-15) (-10) = 10 by decide, show Co.ivB 1 13 (-15) (-10) = 20 by decide, show Co.ivC 1 13 (-15) (-10) = 5 by decide] at h
  exact h
theorem e7f2 (w : World) : Calls Try.prog 22 #[.int .i64 2, .int .i64 10, .int .i64 20, .int .i64 5] w fun e w' => e = .returned (.tuple #[.int .i64 13, .int .i64 5, .int .i64 13]) ∧ Below w.heap.size w w' := by
  have h := Fw_q 2 10 20 5 w (fun _ => by decide)
  rw [show Co.fwY 2 10 20 5 = 13 by decide, show Co.fwU 2 10 20 5 = 5 by decide, show Co.fwV 2 10 20 5 = 13 by decide] at h
  exact h
theorem e7i2 (w : World) : Calls Try.prog 24 #[.int .i64 2, .int .i64 13, .int .i64 5, .int .i64 13] w fun e w' => e = .returned (.tuple #[.int .i64 10, .int .i64 20, .int .i64 5]) ∧ Below w.heap.size w w' := by
  have h := Iv_q 2 13 5 13 w (fun _ => by decide)
  rw [show Co.ivA 2 13 5 13 = 10 by decide, show Co.ivB 2 13 5 13 = 20 by decide, show Co.ivC 2 13 5 13 = 5 by decide] at h
  exact h
theorem e7s1 (g : Nat) (w : World) (hH : HoldsI w (some ⟨g, 0, none⟩) [0, 128, 255]) : Calls Try.prog 35 #[.agg #[.int .i64 0, .int .i64 0, .int .i64 3, .int .i64 1, .slice (some ⟨g, 0, none⟩) 3 3], .agg #[.int .i64 8, .bool false, .int .i64 1, .int .i64 1]] w fun e w' => ∃ t n, e = .returned (.tuple #[.agg #[.int .i64 0, .int .i64 0, .int .i64 3, .int .i64 1, .slice t 3 n], .int .i64 0]) ∧ HoldsI w' t [-128, 0, 127] ∧ Below w.heap.size w w' := by
  have h := sh_yes 0 0 3 1 8 1 1 false (some ⟨g, 0, none⟩) 3 [0, 128, 255] w hH (by decide) (by decide) (by decide) (fun q => by simp at q)
  rw [show addL (-(Co.offC false 8)) [0, 128, 255] = [-128, 0, 127] by decide] at h
  exact h.mono (by rintro e w' ⟨t, n, rfl, h1, h2, h3⟩; exact ⟨t, n, rfl, h1, h2⟩)
theorem e7u1 (g : Nat) (w : World) (hH : HoldsI w (some ⟨g, 0, none⟩) [-200, 0, 500]) : Calls Try.prog 38 #[.agg #[.int .i64 0, .int .i64 0, .int .i64 3, .int .i64 1, .slice (some ⟨g, 0, none⟩) 3 3], .agg #[.int .i64 8, .bool false, .int .i64 1, .int .i64 1]] w fun e w' => ∃ t n, e = .returned (.tuple #[.agg #[.int .i64 0, .int .i64 0, .int .i64 3, .int .i64 1, .slice t 3 n], .int .i64 0]) ∧ HoldsI w' t [0, 128, 255] ∧ Below w.heap.size w w' := by
  have h := us_yes 0 0 3 1 8 1 1 false (some ⟨g, 0, none⟩) 3 [-200, 0, 500] w hH (by decide) (by decide)
  rw [show addL (Co.offC false 8) (clipL (Co.rgL false 8 - Co.offC false 8) (Co.rgH false 8 - Co.offC false 8) [-200, 0, 500]) = [0, 128, 255] by decide] at h
  exact h.mono (by rintro e w' ⟨t, n, rfl, h1, h2, h3⟩; exact ⟨t, n, rfl, h1, h2⟩)
theorem e7s2 (g : Nat) (w : World) (hH : HoldsI w (some ⟨g, 0, none⟩) [0, 1, 256]) : Calls Try.prog 35 #[.agg #[.int .i64 0, .int .i64 0, .int .i64 3, .int .i64 1, .slice (some ⟨g, 0, none⟩) 3 3], .agg #[.int .i64 8, .bool false, .int .i64 1, .int .i64 1]] w fun e w' => ∃ t n, e = .returned (.tuple #[.agg #[.int .i64 0, .int .i64 0, .int .i64 0, .int .i64 0, .slice t 0 n], .int .i64 2]) ∧ HoldsI w' t [] ∧ Below w.heap.size w w' := by
  have h := sh_no3 0 0 3 1 8 1 1 false (some ⟨g, 0, none⟩) 3 [0, 1, 256] w hH (by decide) (by decide) (by decide)
  exact h.mono (by rintro e w' ⟨t, n, rfl, h1, h2, h3⟩; exact ⟨t, n, rfl, h1, h2⟩)
def pnN : Pn := ⟨⟨0, 0, 0, 0⟩, none, [], 0⟩
def pnO : Pn := ⟨⟨1, 0, 1, 0⟩, none, [], 0⟩
theorem pls2 (w : World) (B : Nat) (hB : B = w.heap.size) (t : TypeId) : HoldsP (w.alloc (.cells #[.int .i64 0, .int .i64 0, .int .i64 0, .int .i64 0, .slice none 0 0, .int .i64 0, .int .i64 0, .int .i64 0, .int .i64 0, .slice none 0 0] t)) (some ⟨B, 0, none⟩) [pnN, pnN] := by
  subst hB
  refine .inr ⟨w.heap.size, 0, rfl, fun k hk => ?_⟩
  match k, hk with
  | 0, _ => simp [PlAt, RectAt, pnN]
  | 1, _ => simp [PlAt, RectAt, pnN]
theorem pls3 (w : World) (B : Nat) (hB : B = w.heap.size) (t : TypeId) : HoldsP (w.alloc (.cells #[.int .i64 0, .int .i64 0, .int .i64 0, .int .i64 0, .slice none 0 0, .int .i64 1, .int .i64 0, .int .i64 1, .int .i64 0, .slice none 0 0, .int .i64 0, .int .i64 0, .int .i64 0, .int .i64 0, .slice none 0 0] t)) (some ⟨B, 0, none⟩) [pnN, pnO, pnN] := by
  subst hB
  refine .inr ⟨w.heap.size, 0, rfl, fun k hk => ?_⟩
  match k, hk with
  | 0, _ => simp [PlAt, RectAt, pnN]
  | 1, _ => simp [PlAt, RectAt, pnO]
  | 2, _ => simp [PlAt, RectAt, pnN]
theorem e7a1 (a : Option Addr) (w : World) (h : HoldsP w a [pnN, pnN]) : Calls Try.prog 27 #[.int .i64 1, .slice a 2 2] w fun e w' => e = .returned (.tuple #[.slice none 0 0, .int .i64 4]) ∧ Below w.heap.size w w' :=
  ap_err 1 4 a 2 2 w (by decide) (tf_no3 1 1048576 [pnN, pnN] a 2 w (by decide) h (by decide) (by decide) (by decide) (by decide))
theorem e7a2 (a : Option Addr) (w : World) (h : HoldsP w a [pnN, pnO, pnN]) : Calls Try.prog 27 #[.int .i64 1, .slice a 3 3] w fun e w' => e = .returned (.tuple #[.slice none 0 0, .int .i64 1]) ∧ Below w.heap.size w w' :=
  ap_err 1 1 a 3 3 w (by decide) (tf_no4 1 1048576 [pnN, pnO, pnN] a 3 w (by decide) h (by decide) (by decide) (by decide) (by decide) (by decide))
theorem e7b1 (w : World) : Calls Try.prog 40 #[.int .i64 0, .int .i64 8] w fun e w' => e = .returned (.int .i64 128) ∧ w' = w := by
  have h := bd_q 0 8 w
  rw [show Co.bdC 0 8 = 128 by decide] at h
  exact h
theorem e7b2 (w : World) : Calls Try.prog 40 #[.int .i64 1, .int .i64 8] w fun e w' => e = .returned (.int .i64 256) ∧ w' = w := by
  have h := bd_q 1 8 w
  rw [show Co.bdC 1 8 = 256 by decide] at h
  exact h
set_option maxRecDepth 100000 in
set_option maxHeartbeats 8000000 in
theorem example07_c (w : World) : Calls Try.prog 21 #[] w fun e w' => e = .returned (.bool true) ∧ Below w.heap.size w w' := by
  go_enter Try.func21, Try.ntmps21
  have B := Below.refl w.heap.size w
  go_wp2_with fail
  refine (e7f1 _).mono ?_
  rintro e w1 ⟨rfl, hb⟩
  replace B := below_call B hb
  clear hb
  go_wp2_with fail
  refine (e7i1 _).mono ?_
  rintro e w2 ⟨rfl, hb⟩
  replace B := below_call B hb
  clear hb
  go_wp2_with fail
  refine (e7f2 _).mono ?_
  rintro e w3 ⟨rfl, hb⟩
  replace B := below_call B hb
  clear hb
  go_wp2_with fail
  refine (e7i2 _).mono ?_
  rintro e w4 ⟨rfl, hb⟩
  replace B := below_call B hb
  clear hb
  go_upto_region 11 with fail
  have kk := (CBox.fresh w4 8 false 1 1 42).alloc (.cells #[.int .i64 0, .int .i64 0, .int .i64 3, .int .i64 1] 37)
  have rr := Box.freshAt (w4.alloc (.cells #[.int .i64 8, .bool false, .int .i64 1, .int .i64 1] 42)) (w4.heap.size + 1) (by simp) 0 0 3 1 37
  replace B := below_alloc (below_alloc B (.cells #[.int .i64 8, .bool false, .int .i64 1, .int .i64 1] 42)) (.cells #[.int .i64 0, .int .i64 0, .int .i64 3, .int .i64 1] 37)
  obtain ⟨k0, k1, k2, k3⟩ := kk.open
  obtain ⟨r0, r1, r2, r3⟩ := rr.open
  obtain ⟨h0, h1, h2, h3⟩ := (kk.alloc (.cells #[.int .i64 0, .int .i64 128, .int .i64 255] 3)).open
  go_wp2_with fail
  clear k0 k1 k2 k3 r0 r1 r2 r3
  clear h0 h1 h2 h3
  have nl := holds_new ((w4.alloc (.cells #[.int .i64 8, .bool false, .int .i64 1, .int .i64 1] 42)).alloc (.cells #[.int .i64 0, .int .i64 0, .int .i64 3, .int .i64 1] 37)) (w4.heap.size + 2) (by simp) [0, 128, 255] _ rfl
  refine (e7s1 _ _ nl).mono ?_
  rintro e w5 ⟨st, sn, rfl, ls, hb⟩
  clear nl
  replace kk := (kk.alloc _).below hb
  replace rr := (rr.allocC _).below hb
  replace B := below_call (below_alloc B _) hb
  clear hb
  replace kk := kk.alloc (.cells #[.int .i64 0, .int .i64 0, .int .i64 3, .int .i64 1, .slice st 3 sn] 40)
  replace rr := rr.allocC (.cells #[.int .i64 0, .int .i64 0, .int .i64 3, .int .i64 1, .slice st 3 sn] 40)
  replace ls := ls.alloc (.cells #[.int .i64 0, .int .i64 0, .int .i64 3, .int .i64 1, .slice st 3 sn] 40)
  replace B := below_alloc B (.cells #[.int .i64 0, .int .i64 0, .int .i64 3, .int .i64 1, .slice st 3 sn] 40)
  have qs := QBox.fresh w5 0 0 3 1 st 3 sn 40
  obtain ⟨k0, k1, k2, k3⟩ := kk.open
  obtain ⟨r0, r1, r2, r3⟩ := rr.open
  obtain ⟨h0, h1, h2, h3⟩ := (kk.alloc (.cells #[.int .i64 (-200), .int .i64 0, .int .i64 500] 3)).open
  go_wp2_with fail
  clear k0 k1 k2 k3 r0 r1 r2 r3
  clear h0 h1 h2 h3
  have nl := holds_new (w5.alloc (.cells #[.int .i64 0, .int .i64 0, .int .i64 3, .int .i64 1, .slice st 3 sn] 40)) (w5.heap.size + 1) (by simp) [-200, 0, 500] _ rfl
  refine (e7u1 _ _ nl).mono ?_
  rintro e w6 ⟨ut, un, rfl, lu, hb⟩
  clear nl
  replace kk := (kk.alloc _).below hb
  replace rr := (rr.allocC _).below hb
  replace ls := (ls.alloc _).call hb
  replace qs := (qs.alloc _).below hb
  replace B := below_call (below_alloc B _) hb
  clear hb
  replace kk := kk.alloc (.cells #[.int .i64 0, .int .i64 0, .int .i64 3, .int .i64 1, .slice ut 3 un] 40)
  replace rr := rr.allocC (.cells #[.int .i64 0, .int .i64 0, .int .i64 3, .int .i64 1, .slice ut 3 un] 40)
  replace ls := ls.alloc (.cells #[.int .i64 0, .int .i64 0, .int .i64 3, .int .i64 1, .slice ut 3 un] 40)
  replace qs := qs.alloc (.cells #[.int .i64 0, .int .i64 0, .int .i64 3, .int .i64 1, .slice ut 3 un] 40)
  replace lu := lu.alloc (.cells #[.int .i64 0, .int .i64 0, .int .i64 3, .int .i64 1, .slice ut 3 un] 40)
  replace B := below_alloc B (.cells #[.int .i64 0, .int .i64 0, .int .i64 3, .int .i64 1, .slice ut 3 un] 40)
  have qu := QBox.fresh w6 0 0 3 1 ut 3 un 40
  obtain ⟨k0, k1, k2, k3⟩ := kk.open
  obtain ⟨r0, r1, r2, r3⟩ := rr.open
  obtain ⟨h0, h1, h2, h3⟩ := (kk.alloc (.cells #[.int .i64 0, .int .i64 1, .int .i64 256] 3)).open
  go_wp2_with fail
  clear k0 k1 k2 k3 r0 r1 r2 r3
  clear h0 h1 h2 h3
  have nl := holds_new (w6.alloc (.cells #[.int .i64 0, .int .i64 0, .int .i64 3, .int .i64 1, .slice ut 3 un] 40)) (w6.heap.size + 1) (by simp) [0, 1, 256] _ rfl
  refine (e7s2 _ _ nl).mono ?_
  rintro e w7 ⟨vt, vn, rfl, lv, hb⟩
  clear nl
  replace kk := (kk.alloc _).below hb
  replace rr := (rr.allocC _).below hb
  replace ls := (ls.alloc _).call hb
  replace qs := (qs.alloc _).below hb
  replace lu := (lu.alloc _).call hb
  replace qu := (qu.alloc _).below hb
  replace B := below_call (below_alloc B _) hb
  clear hb
  clear lv
  replace kk := kk.alloc (.cells #[.int .i64 0, .int .i64 0, .int .i64 0, .int .i64 0, .slice vt 0 vn] 40)
  replace rr := rr.allocC (.cells #[.int .i64 0, .int .i64 0, .int .i64 0, .int .i64 0, .slice vt 0 vn] 40)
  replace ls := ls.alloc (.cells #[.int .i64 0, .int .i64 0, .int .i64 0, .int .i64 0, .slice vt 0 vn] 40)
  replace qs := qs.alloc (.cells #[.int .i64 0, .int .i64 0, .int .i64 0, .int .i64 0, .slice vt 0 vn] 40)
  replace lu := lu.alloc (.cells #[.int .i64 0, .int .i64 0, .int .i64 0, .int .i64 0, .slice vt 0 vn] 40)
  replace qu := qu.alloc (.cells #[.int .i64 0, .int .i64 0, .int .i64 0, .int .i64 0, .slice vt 0 vn] 40)
  replace B := below_alloc B (.cells #[.int .i64 0, .int .i64 0, .int .i64 0, .int .i64 0, .slice vt 0 vn] 40)
  clear kk rr
  obtain ⟨g0, g1, g2, g3, g4⟩ := qs.open
  go_wp2_with fail
  clear g0 g1 g2 g3 g4
  have nl := holds_new (w7.alloc (.cells #[.int .i64 0, .int .i64 0, .int .i64 0, .int .i64 0, .slice vt 0 vn] 40)) (w7.heap.size + 1) (by simp) [-128, 0, 127] _ rfl
  refine (ints_t [-128, 0, 127] 3 rfl (by decide) _ _ _ _ _ (ls.alloc _) nl).mono ?_
  rintro e w8 ⟨rfl, hb⟩
  clear nl
  replace ls := (ls.alloc _).call hb
  replace qs := (qs.alloc _).below hb
  replace lu := (lu.alloc _).call hb
  replace qu := (qu.alloc _).below hb
  replace B := below_call (below_alloc B _) hb
  clear hb
  clear qs ls
  obtain ⟨g0, g1, g2, g3, g4⟩ := qu.open
  go_wp2_with fail
  clear g0 g1 g2 g3 g4
  have nl := holds_new w8 w8.heap.size (by simp) [0, 128, 255] _ rfl
  refine (ints_t [0, 128, 255] 3 rfl (by decide) _ _ _ _ _ (lu.alloc _) nl).mono ?_
  rintro e w9 ⟨rfl, hb⟩
  clear nl
  replace lu := (lu.alloc _).call hb
  replace qu := (qu.alloc _).below hb
  replace B := below_call (below_alloc B _) hb
  clear hb
  clear qu lu
  go_upto_region 18 with fail
  have qn := (QBox.fresh w9 0 0 0 0 none 0 0 40).alloc (.cells #[.int .i64 1, .int .i64 0, .int .i64 1, .int .i64 0, .slice none 0 0] 40)
  have qo := QBox.freshAt (w9.alloc (.cells #[.int .i64 0, .int .i64 0, .int .i64 0, .int .i64 0, .slice none 0 0] 40)) (w9.heap.size + 1) (by simp) 1 0 1 0 none 0 0 40
  replace B := below_alloc (below_alloc B (.cells #[.int .i64 0, .int .i64 0, .int .i64 0, .int .i64 0, .slice none 0 0] 40)) (.cells #[.int .i64 1, .int .i64 0, .int .i64 1, .int .i64 0, .slice none 0 0] 40)
  obtain ⟨g0, g1, g2, g3, g4⟩ := qn.open
  obtain ⟨f0, f1, f2, f3, f4⟩ := qo.open
  go_wp2_with fail
  clear g0 g1 g2 g3 g4 f0 f1 f2 f3 f4
  refine (e7a1 _ _ (pls2 ((w9.alloc (.cells #[.int .i64 0, .int .i64 0, .int .i64 0, .int .i64 0, .slice none 0 0] 40)).alloc (.cells #[.int .i64 1, .int .i64 0, .int .i64 1, .int .i64 0, .slice none 0 0] 40)) (w9.heap.size + 2) (by simp) _)).mono ?_
  rintro e w10 ⟨rfl, hb⟩
  replace qn := (qn.alloc _).below hb
  replace qo := (qo.alloc _).below hb
  replace B := below_call (below_alloc B _) hb
  clear hb
  obtain ⟨g0, g1, g2, g3, g4⟩ := qn.open
  obtain ⟨f0, f1, f2, f3, f4⟩ := qo.open
  go_wp2_with fail
  clear g0 g1 g2 g3 g4 f0 f1 f2 f3 f4
  refine (e7a2 _ _ (pls3 w10 w10.heap.size (by simp) _)).mono ?_
  rintro e w11 ⟨rfl, hb⟩
  replace qn := (qn.alloc _).below hb
  replace qo := (qo.alloc _).below hb
  replace B := below_call (below_alloc B _) hb
  clear hb
  clear qn qo
  go_wp2_with (go_at_call 40; (first | (with_reducible refine (e7b1 _).mono ?_) | (with_reducible refine (e7b2 _).mono ?_)); rintro e wn ⟨rfl, hw⟩; replace hw := hw.symm; subst hw)
  go_ret
  exact ⟨rfl, B⟩
end Go.Proofs.Ytadkcgpkbcgeoaa
