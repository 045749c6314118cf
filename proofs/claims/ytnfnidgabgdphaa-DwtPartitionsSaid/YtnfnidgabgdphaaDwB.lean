/-
  The subbands of a rectangle, as the reference of layer 5 returns them.
-/
import Derived.Test.YtnfnidgabgdphaaDwA
import Derived.Deep.MidRow
set_option maxRecDepth 100000
namespace Go.Proofs.Ytnfnidgabgdphaa
open Go.RowKit

theorem arr4_get (f : Nat → Pl.R) : arr4 f = #[.int .i64 (f 0).x0, .int .i64 (f 0).y0, .int .i64 (f 0).x1, .int .i64 (f 0).y1, .int .i64 (f 1).x0, .int .i64 (f 1).y0, .int .i64 (f 1).x1, .int .i64 (f 1).y1, .int .i64 (f 2).x0, .int .i64 (f 2).y0, .int .i64 (f 2).x1, .int .i64 (f 2).y1, .int .i64 (f 3).x0, .int .i64 (f 3).y0, .int .i64 (f 3).x1, .int .i64 (f 3).y1] := rfl
def zR : Pl.R := ⟨0, 0, 0, 0⟩
theorem info16 : (Try.prog.info? 24).map (·.size) = some 16 := by kernel_rfl
theorem Blk.row {w : World} {B : Nat} {T : TypeId} {cs : Array Value} (h : Blk w B T cs) (cs' : Array Value) : Blk (w.setRow B cs') B T cs' := setRow_heap w B cs cs' T _ h
theorem Blk.range {w : World} {B : Nat} {T : TypeId} {cs : Array Value} (h : Blk w B T cs) : w.rangeAt B 0 cs.toList := fun j v hv => by
  rw [Nat.zero_add]
  exact h.cell j v (by simpa using hv)
theorem one16 (f : Nat → Pl.R) : (arr4 f).all (·.oneCell') = true := by simp [arr4_get, Value.oneCell']
theorem below_row {w W : World} {B : Nat} (h : Below w.heap.size w W) (hB : w.heap.size ≤ B) (cs' : Array Value) : Below w.heap.size w (W.setRow B cs') := below_setRow h hB _
/-- The first k of four rectangles are written. -/
def bndsK (r : Pl.R) (k o : Nat) : Pl.R := if o < k then bndR r o else zR
set_option maxRecDepth 100000 in
set_option maxHeartbeats 4000000 in
theorem bands_r (a b c d : Int) (w : World) : Calls Try.prog 18 #[.agg #[.int .i64 a, .int .i64 b, .int .i64 c, .int .i64 d]] w fun e w' => e = .returned (.agg (arr4 (bnds ⟨a, b, c, d⟩))) ∧ Below w.heap.size w w' := by
  have B0 := Below.refl w.heap.size w
  have x1 := ((Blk.fresh w 23 #[.int .i64 a, .int .i64 b, .int .i64 c, .int .i64 d]).alloc (.cells (arr4 fun _ => zR) 24)).alloc (.cells (arr4 fun _ => zR) 24)
  have x2 := (Blk.freshAt (w.alloc (.cells #[.int .i64 a, .int .i64 b, .int .i64 c, .int .i64 d] 23)) (w.heap.size + 1) (by simp) 24 (arr4 fun _ => zR)).alloc (.cells (arr4 fun _ => zR) 24)
  have x3 := Blk.freshAt ((w.alloc (.cells #[.int .i64 a, .int .i64 b, .int .i64 c, .int .i64 d] 23)).alloc (.cells (arr4 fun _ => zR) 24)) (w.heap.size + 1 + 1) (by simp) 24 (arr4 fun _ => zR)
  have B1 := below_alloc (below_alloc (below_alloc B0 (.cells #[.int .i64 a, .int .i64 b, .int .i64 c, .int .i64 d] 23)) (.cells (arr4 fun _ => zR) 24)) (.cells (arr4 fun _ => zR) 24)
  clear B0
  go_enter Try.func18, Try.ntmps18
  go_wp2_with fail
  refine (valid_r _ _ _ _ _).mono ?_
  rintro e w1 ⟨rfl, hb⟩
  replace x1 := x1.below hb
  replace x2 := x2.below hb
  replace x3 := x3.below hb
  replace B1 := below_call B1 hb
  clear hb
  cases hv : Pl.validB a b c d with
  | false =>
    have hz : bnds ⟨a, b, c, d⟩ = fun _ => zR := funext fun o => if_neg (by simp [hv])
    go_wp2_with (first | (refine wpList_load_mid rfl 24 (.tmp 3) rfl (w.heap.size + 1 + 1) 0 rfl (arr4 fun _ => zR).toList _ x3.range Try.underlying24 rfl info16 ?_) | (refine wpList_store_row rfl 24 (.tmp 2) (.tmp 11) rfl (w.heap.size + 1) (arr4 fun _ => zR) rfl rfl 24 _ x2 info16 rfl (one16 _) ?_))
    refine bodyPost_ret (results_cell_row rfl _ _ (w.heap.size + 1) 24 (arr4 fun _ => zR) (0, 0) _ rfl (x2.row _) Try.underlying24 rfl info16) rfl ⟨by rw [hz], below_row B1 (Nat.le_succ _) _⟩
  | true =>
    obtain ⟨v1, v2, v3, v4, v5, v6⟩ := Pl.valid_iff.1 hv
    go_wp2_with fail
    go_loopw [4, 5, 6] (fun i _ _ wr => ∃ k : Nat, k ≤ 4 ∧ i = .int .i64 k ∧ Blk wr (w.heap.size + 1 + 1) 24 (arr4 (bndsK ⟨a, b, c, d⟩ k)) ∧ Blk wr w.heap.size 23 #[.int .i64 a, .int .i64 b, .int .i64 c, .int .i64 d] ∧ Blk wr (w.heap.size + 1) 24 (arr4 fun _ => zR) ∧ Below w.heap.size w wr) (fun i _ _ _ => 4 - (intOf i).toNat)
    case atStart => exact ⟨0, by omega, rfl, x3, x1, x2, B1⟩
    case round =>
      obtain ⟨k, hk, rfl, y3, y1, y2, B⟩ := hrel
      clear x1 x2 x3 B1
      have a0 := y1.cell 0 _ rfl
      have a1 := y1.cell 1 _ rfl
      have a2 := y1.cell 2 _ rfl
      have a3 := y1.cell 3 _ rfl
      by_cases hlt : k < 4
      · have hk4 : k = 0 ∨ k = 1 ∨ k = 2 ∨ k = 3 := by omega
        clear hk hlt
        rcases hk4 with rfl | rfl | rfl | rfl
        · have q0 := y3.cell 0 _ rfl
          have q1 := y3.cell 1 _ rfl
          have q2 := y3.cell 2 _ rfl
          have q3 := y3.cell 3 _ rfl
          have z0 := y3.free 0
          have z1 := y3.free 1
          have z2 := y3.free 2
          have z3 := y3.free 3
          have s3 := ((((y3.drew.set 0 (.int .i64 (hfI a false))).set 1 (.int .i64 (hfI b false))).set 2 (.int .i64 (hfI c false))).set 3 (.int .i64 (hfI d false)))
          have s1 := ((((y1.drew.far ⟨(w.heap.size + 1 + 1), 0, none⟩ (.int .i64 (hfI a false)) (by simp; omega)).far ⟨(w.heap.size + 1 + 1), 1, none⟩ (.int .i64 (hfI b false)) (by simp; omega)).far ⟨(w.heap.size + 1 + 1), 2, none⟩ (.int .i64 (hfI c false)) (by simp; omega)).far ⟨(w.heap.size + 1 + 1), 3, none⟩ (.int .i64 (hfI d false)) (by simp; omega))
          have s2 := ((((y2.drew.far ⟨(w.heap.size + 1 + 1), 0, none⟩ (.int .i64 (hfI a false)) (by simp)).far ⟨(w.heap.size + 1 + 1), 1, none⟩ (.int .i64 (hfI b false)) (by simp)).far ⟨(w.heap.size + 1 + 1), 2, none⟩ (.int .i64 (hfI c false)) (by simp)).far ⟨(w.heap.size + 1 + 1), 3, none⟩ (.int .i64 (hfI d false)) (by simp))
          have sB := ((((B.drew.setCell (p := ⟨(w.heap.size + 1 + 1), 0, none⟩) (Nat.le_trans (Nat.le_succ _) (Nat.le_succ _)) (.int .i64 (hfI a false))).setCell (p := ⟨(w.heap.size + 1 + 1), 1, none⟩) (Nat.le_trans (Nat.le_succ _) (Nat.le_succ _)) (.int .i64 (hfI b false))).setCell (p := ⟨(w.heap.size + 1 + 1), 2, none⟩) (Nat.le_trans (Nat.le_succ _) (Nat.le_succ _)) (.int .i64 (hfI c false))).setCell (p := ⟨(w.heap.size + 1 + 1), 3, none⟩) (Nat.le_trans (Nat.le_succ _) (Nat.le_succ _)) (.int .i64 (hfI d false)))
          have H3 : Hid (Blk _ _ 24 (arr4 (bndsK ⟨a, b, c, d⟩ 1))) := s3
          have H1 : Hid _ := s1
          have H2 : Hid _ := s2
          have HB : Hid _ := sB
          clear s1 s2 s3 sB y1 y2 y3 B
          go_upto_region 9 with fail
          refine wp_region_still_tail 19 (by kernel_rfl) (by kernel_rfl) ?_
          simp only [List.take_succ_cons, List.take_zero, List.drop_succ_cons, List.drop_zero]
          repeat (first | still_step | still_call (half_r _ _ (by omega) (by omega) _))
          refine wpStill_nil ?_
          go_wp2
          go_roundw
          case rel => exact ⟨1, by omega, by go_num, H3.out, H1.out, H2.out, HB.out⟩
          case measure => simp [intOf]
        · have q0 := y3.cell 4 _ rfl
          have q1 := y3.cell 5 _ rfl
          have q2 := y3.cell 6 _ rfl
          have q3 := y3.cell 7 _ rfl
          have z0 := y3.free 4
          have z1 := y3.free 5
          have z2 := y3.free 6
          have z3 := y3.free 7
          have s3 := ((((y3.drew.set 4 (.int .i64 (hfI a true))).set 5 (.int .i64 (hfI b false))).set 6 (.int .i64 (hfI c true))).set 7 (.int .i64 (hfI d false)))
          have s1 := ((((y1.drew.far ⟨(w.heap.size + 1 + 1), 4, none⟩ (.int .i64 (hfI a true)) (by simp; omega)).far ⟨(w.heap.size + 1 + 1), 5, none⟩ (.int .i64 (hfI b false)) (by simp; omega)).far ⟨(w.heap.size + 1 + 1), 6, none⟩ (.int .i64 (hfI c true)) (by simp; omega)).far ⟨(w.heap.size + 1 + 1), 7, none⟩ (.int .i64 (hfI d false)) (by simp; omega))
          have s2 := ((((y2.drew.far ⟨(w.heap.size + 1 + 1), 4, none⟩ (.int .i64 (hfI a true)) (by simp)).far ⟨(w.heap.size + 1 + 1), 5, none⟩ (.int .i64 (hfI b false)) (by simp)).far ⟨(w.heap.size + 1 + 1), 6, none⟩ (.int .i64 (hfI c true)) (by simp)).far ⟨(w.heap.size + 1 + 1), 7, none⟩ (.int .i64 (hfI d false)) (by simp))
          have sB := ((((B.drew.setCell (p := ⟨(w.heap.size + 1 + 1), 4, none⟩) (Nat.le_trans (Nat.le_succ _) (Nat.le_succ _)) (.int .i64 (hfI a true))).setCell (p := ⟨(w.heap.size + 1 + 1), 5, none⟩) (Nat.le_trans (Nat.le_succ _) (Nat.le_succ _)) (.int .i64 (hfI b false))).setCell (p := ⟨(w.heap.size + 1 + 1), 6, none⟩) (Nat.le_trans (Nat.le_succ _) (Nat.le_succ _)) (.int .i64 (hfI c true))).setCell (p := ⟨(w.heap.size + 1 + 1), 7, none⟩) (Nat.le_trans (Nat.le_succ _) (Nat.le_succ _)) (.int .i64 (hfI d false)))
          have H3 : Hid (Blk _ _ 24 (arr4 (bndsK ⟨a, b, c, d⟩ 2))) := s3
          have H1 : Hid _ := s1
          have H2 : Hid _ := s2
          have HB : Hid _ := sB
          clear s1 s2 s3 sB y1 y2 y3 B
          go_upto_region 9 with fail
          refine wp_region_still_tail 19 (by kernel_rfl) (by kernel_rfl) ?_
          simp only [List.take_succ_cons, List.take_zero, List.drop_succ_cons, List.drop_zero]
          repeat (first | still_step | still_call (half_r _ _ (by omega) (by omega) _))
          refine wpStill_nil ?_
          go_wp2
          go_roundw
          case rel => exact ⟨2, by omega, by go_num, H3.out, H1.out, H2.out, HB.out⟩
          case measure => simp [intOf]
        · have q0 := y3.cell 8 _ rfl
          have q1 := y3.cell 9 _ rfl
          have q2 := y3.cell 10 _ rfl
          have q3 := y3.cell 11 _ rfl
          have z0 := y3.free 8
          have z1 := y3.free 9
          have z2 := y3.free 10
          have z3 := y3.free 11
          have s3 := ((((y3.drew.set 8 (.int .i64 (hfI a false))).set 9 (.int .i64 (hfI b true))).set 10 (.int .i64 (hfI c false))).set 11 (.int .i64 (hfI d true)))
          have s1 := ((((y1.drew.far ⟨(w.heap.size + 1 + 1), 8, none⟩ (.int .i64 (hfI a false)) (by simp; omega)).far ⟨(w.heap.size + 1 + 1), 9, none⟩ (.int .i64 (hfI b true)) (by simp; omega)).far ⟨(w.heap.size + 1 + 1), 10, none⟩ (.int .i64 (hfI c false)) (by simp; omega)).far ⟨(w.heap.size + 1 + 1), 11, none⟩ (.int .i64 (hfI d true)) (by simp; omega))
          have s2 := ((((y2.drew.far ⟨(w.heap.size + 1 + 1), 8, none⟩ (.int .i64 (hfI a false)) (by simp)).far ⟨(w.heap.size + 1 + 1), 9, none⟩ (.int .i64 (hfI b true)) (by simp)).far ⟨(w.heap.size + 1 + 1), 10, none⟩ (.int .i64 (hfI c false)) (by simp)).far ⟨(w.heap.size + 1 + 1), 11, none⟩ (.int .i64 (hfI d true)) (by simp))
          have sB := ((((B.drew.setCell (p := ⟨(w.heap.size + 1 + 1), 8, none⟩) (Nat.le_trans (Nat.le_succ _) (Nat.le_succ _)) (.int .i64 (hfI a false))).setCell (p := ⟨(w.heap.size + 1 + 1), 9, none⟩) (Nat.le_trans (Nat.le_succ _) (Nat.le_succ _)) (.int .i64 (hfI b true))).setCell (p := ⟨(w.heap.size + 1 + 1), 10, none⟩) (Nat.le_trans (Nat.le_succ _) (Nat.le_succ _)) (.int .i64 (hfI c false))).setCell (p := ⟨(w.heap.size + 1 + 1), 11, none⟩) (Nat.le_trans (Nat.le_succ _) (Nat.le_succ _)) (.int .i64 (hfI d true)))
          have H3 : Hid (Blk _ _ 24 (arr4 (bndsK ⟨a, b, c, d⟩ 3))) := s3
          have H1 : Hid _ := s1
          have H2 : Hid _ := s2
          have HB : Hid _ := sB
          clear s1 s2 s3 sB y1 y2 y3 B
          go_upto_region 9 with fail
          refine wp_region_still_tail 19 (by kernel_rfl) (by kernel_rfl) ?_
          simp only [List.take_succ_cons, List.take_zero, List.drop_succ_cons, List.drop_zero]
          repeat (first | still_step | still_call (half_r _ _ (by omega) (by omega) _))
          refine wpStill_nil ?_
          go_wp2
          go_roundw
          case rel => exact ⟨3, by omega, by go_num, H3.out, H1.out, H2.out, HB.out⟩
          case measure => simp [intOf]
        · have q0 := y3.cell 12 _ rfl
          have q1 := y3.cell 13 _ rfl
          have q2 := y3.cell 14 _ rfl
          have q3 := y3.cell 15 _ rfl
          have z0 := y3.free 12
          have z1 := y3.free 13
          have z2 := y3.free 14
          have z3 := y3.free 15
          have s3 := ((((y3.drew.set 12 (.int .i64 (hfI a true))).set 13 (.int .i64 (hfI b true))).set 14 (.int .i64 (hfI c true))).set 15 (.int .i64 (hfI d true)))
          have s1 := ((((y1.drew.far ⟨(w.heap.size + 1 + 1), 12, none⟩ (.int .i64 (hfI a true)) (by simp; omega)).far ⟨(w.heap.size + 1 + 1), 13, none⟩ (.int .i64 (hfI b true)) (by simp; omega)).far ⟨(w.heap.size + 1 + 1), 14, none⟩ (.int .i64 (hfI c true)) (by simp; omega)).far ⟨(w.heap.size + 1 + 1), 15, none⟩ (.int .i64 (hfI d true)) (by simp; omega))
          have s2 := ((((y2.drew.far ⟨(w.heap.size + 1 + 1), 12, none⟩ (.int .i64 (hfI a true)) (by simp)).far ⟨(w.heap.size + 1 + 1), 13, none⟩ (.int .i64 (hfI b true)) (by simp)).far ⟨(w.heap.size + 1 + 1), 14, none⟩ (.int .i64 (hfI c true)) (by simp)).far ⟨(w.heap.size + 1 + 1), 15, none⟩ (.int .i64 (hfI d true)) (by simp))
          have sB := ((((B.drew.setCell (p := ⟨(w.heap.size + 1 + 1), 12, none⟩) (Nat.le_trans (Nat.le_succ _) (Nat.le_succ _)) (.int .i64 (hfI a true))).setCell (p := ⟨(w.heap.size + 1 + 1), 13, none⟩) (Nat.le_trans (Nat.le_succ _) (Nat.le_succ _)) (.int .i64 (hfI b true))).setCell (p := ⟨(w.heap.size + 1 + 1), 14, none⟩) (Nat.le_trans (Nat.le_succ _) (Nat.le_succ _)) (.int .i64 (hfI c true))).setCell (p := ⟨(w.heap.size + 1 + 1), 15, none⟩) (Nat.le_trans (Nat.le_succ _) (Nat.le_succ _)) (.int .i64 (hfI d true)))
          have H3 : Hid (Blk _ _ 24 (arr4 (bndsK ⟨a, b, c, d⟩ 4))) := s3
          have H1 : Hid _ := s1
          have H2 : Hid _ := s2
          have HB : Hid _ := sB
          clear s1 s2 s3 sB y1 y2 y3 B
          go_upto_region 9 with fail
          refine wp_region_still_tail 19 (by kernel_rfl) (by kernel_rfl) ?_
          simp only [List.take_succ_cons, List.take_zero, List.drop_succ_cons, List.drop_zero]
          repeat (first | still_step | still_call (half_r _ _ (by omega) (by omega) _))
          refine wpStill_nil ?_
          go_wp2
          go_roundw
          case rel => exact ⟨4, by omega, by go_num, H3.out, H1.out, H2.out, HB.out⟩
          case measure => simp [intOf]
      · obtain rfl : k = 4 := by omega
        have hz : arr4 (bnds ⟨a, b, c, d⟩) = arr4 (bndsK ⟨a, b, c, d⟩ 4) := by simp [arr4_get, bnds, bndsK, hv]
        go_wp2_with (first | (refine wpList_load_mid rfl 24 (.tmp 3) rfl (w.heap.size + 1 + 1) 0 rfl (arr4 (bndsK ⟨a, b, c, d⟩ 4)).toList _ y3.range Try.underlying24 rfl info16 ?_) | (refine wpList_store_row rfl 24 (.tmp 2) (.tmp 47) rfl (w.heap.size + 1) (arr4 (bndsK ⟨a, b, c, d⟩ 4)) rfl rfl 24 _ y2 info16 rfl (one16 _) ?_))
        refine bodyPost_ret (results_cell_row rfl _ _ (w.heap.size + 1) 24 (arr4 (bndsK ⟨a, b, c, d⟩ 4)) (0, 0) _ rfl (y2.row _) Try.underlying24 rfl info16) rfl ⟨by rw [hz], below_row B (Nat.le_succ _) _⟩
end Go.Proofs.Ytnfnidgabgdphaa
