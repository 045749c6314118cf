/-
  The subbands of a rectangle, as code and reference of layer 5 return them.
-/
import Derived.Test.YtkcjbehfhcmiaaaKt
import Derived.Test.YtkcjbehfhcmiaaaRegs
import Derived.Test.YtkcjbehfhcmiaaaRectF
import Derived.Test.YtkcjbehfhcmiaaaHp
import Derived.Deep.MidRow
set_option maxRecDepth 100000
namespace Go.Proofs.Ytkcjbehfhcmiaaa
namespace Dw
open Go.RowKit
theorem below_alloc {a W : World} (h : Below a.heap.size a W) (X : Obj) : Below a.heap.size a (W.alloc X) := h.alloc h.size X
theorem below_call {a W w1 : World} (h : Below a.heap.size a W) (hb : Below W.heap.size W w1) : Below a.heap.size a w1 := bcall h hb h.size
def Blk (w : World) (B : Nat) (T : TypeId) (cs : Array Value) : Prop := w.heap[B]? = some (.cells cs T)
theorem Blk.lt {w : World} {B : Nat} {T : TypeId} {cs : Array Value} (h : Blk w B T cs) : B < w.heap.size := (Array.getElem?_eq_some_iff.1 h).1
theorem Blk.below {w w1 : World} {B : Nat} {T : TypeId} {cs : Array Value} (h : Blk w B T cs) (hb : Below w.heap.size w w1) : Blk w1 B T cs := (hb.block B h.lt).trans h
theorem Blk.alloc {w : World} {B : Nat} {T : TypeId} {cs : Array Value} (h : Blk w B T cs) (X : Obj) : Blk (w.alloc X) B T cs := h.below ((Below.refl _ _).alloc (Nat.le_refl _) _)
theorem Blk.drew {w : World} {B : Nat} {T : TypeId} {cs : Array Value} (h : Blk w B T cs) : Blk w.drew B T cs := h
theorem Blk.drewN {w : World} {B : Nat} {T : TypeId} {cs : Array Value} (h : Blk w B T cs) (q : Nat) : Blk (w.drewN q) B T cs := h
theorem Blk.fresh (w : World) (T : TypeId) (cs : Array Value) : Blk (w.alloc (.cells cs T)) w.heap.size T cs := heap_alloc_new w _
theorem Blk.freshAt (w : World) (B : Nat) (hB : B = w.heap.size) (T : TypeId) (cs : Array Value) : Blk (w.alloc (.cells cs T)) B T cs := hB ▸ heap_alloc_new w _
theorem Blk.cell {w : World} {B : Nat} {T : TypeId} {cs : Array Value} (h : Blk w B T cs) (i : Nat) (v : Value) (hv : cs[i]? = some v) : w.cell? ⟨B, i, none⟩ = some v := by
  unfold Blk at h
  simp [World.cell?, h, hv]
theorem Blk.free {w : World} {B : Nat} {T : TypeId} {cs : Array Value} (h : Blk w B T cs) (i : Nat) : w.frozen? ⟨B, i, none⟩ = false := by
  unfold Blk at h
  simp [World.frozen?, h]
theorem Blk.set {w : World} {B : Nat} {T : TypeId} {cs : Array Value} (h : Blk w B T cs) (i : Nat) (v : Value) : Blk (w.setCell ⟨B, i, none⟩ v) B T (cs.setIfInBounds i v) := by
  unfold Blk at *
  simp only [World.setCell, Array.getElem?_modify, if_true, h, Option.map_some]
  rfl
theorem Blk.far {w : World} {B : Nat} {T : TypeId} {cs : Array Value} (h : Blk w B T cs) (a : Addr) (v : Value) (hn : B ≠ a.block) : Blk (w.setCell a v) B T cs := (Below.heap_setCell _ _ _ _ hn).trans h

/-! Four rectangles -/
def rcs (r : Pl.R) : List Value := [.int .i64 r.x0, .int .i64 r.y0, .int .i64 r.x1, .int .i64 r.y1]
def arr4 (f : Nat → Pl.R) : Array Value := (rcs (f 0) ++ rcs (f 1) ++ rcs (f 2) ++ rcs (f 3)).toArray
def hfI (a : Int) (b : Bool) : Int := if b then a / 2 else (a + 1) / 2
def orH (o : Nat) : Bool := o == 1 || o == 3
def orV (o : Nat) : Bool := o == 2 || o == 3
def bndR (r : Pl.R) (o : Nat) : Pl.R := ⟨hfI r.x0 (orH o), hfI r.y0 (orV o), hfI r.x1 (orH o), hfI r.y1 (orV o)⟩
def bnds (r : Pl.R) (o : Nat) : Pl.R := if Pl.validB r.x0 r.y0 r.x1 r.y1 = true then bndR r o else ⟨0, 0, 0, 0⟩
theorem half_r (a : Int) (b : Bool) (h0 : 0 ≤ a) (h1 : a ≤ 1000000) (w : World) : Calls Try.prog 109 #[.int .i64 a, .bool b] w fun e w' => e = .returned (.int .i64 (hfI a b)) ∧ w' = w := by
  have w1 : IntKind.i64.wrap (a + 1) = a + 1 := IntWalk.i64_in _ (by omega)
  have t1 : (a + 1).tdiv 2 = (a + 1) / 2 := Int.tdiv_eq_ediv_of_nonneg (by omega)
  have t2 : a.tdiv 2 = a / 2 := Int.tdiv_eq_ediv_of_nonneg (by omega)
  have w2 : IntKind.i64.wrap ((a + 1) / 2) = (a + 1) / 2 := IntWalk.i64_in _ (by omega)
  have w3 : IntKind.i64.wrap (a / 2) = a / 2 := IntWalk.i64_in _ (by omega)
  cases b with
  | true =>
    go_enter Try.func109, Try.ntmps109
    go_wp2
    go_ret
    exact ⟨rfl, rfl⟩
  | false =>
    go_enter Try.func109, Try.ntmps109
    go_wp2
    go_ret
    exact ⟨rfl, rfl⟩
theorem arr4_get (f : Nat → Pl.R) : arr4 f = #[.int .i64 (f 0).x0, .int .i64 (f 0).y0, .int .i64 (f 0).x1, .int .i64 (f 0).y1, .int .i64 (f 1).x0, .int .i64 (f 1).y0, .int .i64 (f 1).x1, .int .i64 (f 1).y1, .int .i64 (f 2).x0, .int .i64 (f 2).y0, .int .i64 (f 2).x1, .int .i64 (f 2).y1, .int .i64 (f 3).x0, .int .i64 (f 3).y0, .int .i64 (f 3).x1, .int .i64 (f 3).y1] := rfl
def zR : Pl.R := ⟨0, 0, 0, 0⟩
theorem info16 : (Try.prog.info? 106).map (·.size) = some 16 := by kernel_rfl
theorem Blk.row {w : World} {B : Nat} {T : TypeId} {cs : Array Value} (h : Blk w B T cs) (cs' : Array Value) : Blk (w.setRow B cs') B T cs' := setRow_heap w B cs cs' T _ h
theorem Blk.range {w : World} {B : Nat} {T : TypeId} {cs : Array Value} (h : Blk w B T cs) : w.rangeAt B 0 cs.toList := fun j v hv => by
  rw [Nat.zero_add]
  exact h.cell j v (by simpa using hv)
theorem one16 (f : Nat → Pl.R) : (arr4 f).all (·.oneCell') = true := by simp [arr4_get, Value.oneCell']
theorem below_row {w W : World} {B : Nat} (h : Below w.heap.size w W) (hB : w.heap.size ≤ B) (cs' : Array Value) : Below w.heap.size w (W.setRow B cs') := below_setRow h hB _
/-- The first k of four rectangles are written. -/
def bndsK (r : Pl.R) (k o : Nat) : Pl.R := if o < k then bndR r o else zR
set_option maxRecDepth 100000 in
set_option maxHeartbeats 4000000 in
theorem bands_r (a b c d : Int) (w : World) : Calls Try.prog 104 #[.agg #[.int .i64 a, .int .i64 b, .int .i64 c, .int .i64 d]] w fun e w' => e = .returned (.agg (arr4 (bnds ⟨a, b, c, d⟩))) ∧ Below w.heap.size w w' := by
  have B0 := Below.refl w.heap.size w
  have x1 := ((Blk.fresh w 23 #[.int .i64 a, .int .i64 b, .int .i64 c, .int .i64 d]).alloc (.cells (arr4 fun _ => zR) 106)).alloc (.cells (arr4 fun _ => zR) 106)
  have x2 := (Blk.freshAt (w.alloc (.cells #[.int .i64 a, .int .i64 b, .int .i64 c, .int .i64 d] 23)) (w.heap.size + 1) (by simp) 106 (arr4 fun _ => zR)).alloc (.cells (arr4 fun _ => zR) 106)
  have x3 := Blk.freshAt ((w.alloc (.cells #[.int .i64 a, .int .i64 b, .int .i64 c, .int .i64 d] 23)).alloc (.cells (arr4 fun _ => zR) 106)) (w.heap.size + 1 + 1) (by simp) 106 (arr4 fun _ => zR)
  have B1 := below_alloc (below_alloc (below_alloc B0 (.cells #[.int .i64 a, .int .i64 b, .int .i64 c, .int .i64 d] 23)) (.cells (arr4 fun _ => zR) 106)) (.cells (arr4 fun _ => zR) 106)
  clear B0
  go_enter Try.func104, Try.ntmps104
  go_wp2_with fail
  refine (valid_r _ _ _ _ _).mono ?_
  rintro e w1 ⟨rfl, hb⟩
  replace x1 := x1.below hb
  replace x2 := x2.below hb
  replace x3 := x3.below hb
  replace B1 := below_call B1 hb
  clear hb
  cases hv : Pl.validB a b c d with
  | false =>
    have hz : bnds ⟨a, b, c, d⟩ = fun _ => zR := funext fun o => if_neg (by simp [hv])
    go_wp2_with (first | (refine wpList_load_mid rfl 106 (.tmp 3) rfl (w.heap.size + 1 + 1) 0 rfl (arr4 fun _ => zR).toList _ x3.range Try.underlying106 rfl info16 ?_) | (refine wpList_store_row rfl 106 (.tmp 2) (.tmp 11) rfl (w.heap.size + 1) (arr4 fun _ => zR) rfl rfl 106 _ x2 info16 rfl (one16 _) ?_))
    refine bodyPost_ret (results_cell_row rfl _ _ (w.heap.size + 1) 106 (arr4 fun _ => zR) (0, 0) _ rfl (x2.row _) Try.underlying106 rfl info16) rfl ⟨by rw [hz], below_row B1 (Nat.le_succ _) _⟩
  | true =>
    obtain ⟨v1, v2, v3, v4, v5, v6⟩ := Pl.valid_iff.1 hv
    go_wp2_with fail
    go_loopw [4, 5, 6] (fun i _ _ wr => ∃ k : Nat, k ≤ 4 ∧ i = .int .i64 k ∧ Blk wr (w.heap.size + 1 + 1) 106 (arr4 (bndsK ⟨a, b, c, d⟩ k)) ∧ Blk wr w.heap.size 23 #[.int .i64 a, .int .i64 b, .int .i64 c, .int .i64 d] ∧ Blk wr (w.heap.size + 1) 106 (arr4 fun _ => zR) ∧ Below w.heap.size w wr) (fun i _ _ _ => 4 - (intOf i).toNat)
    case atStart => exact ⟨0, by omega, rfl, x3, x1, x2, B1⟩
    case round =>
      obtain ⟨k, hk, rfl, y3, y1, y2, B⟩ := hrel
      clear x1 x2 x3 B1
      have a0 := y1.cell 0 _ rfl
      have a1 := y1.cell 1 _ rfl
      have a2 := y1.cell 2 _ rfl
      have a3 := y1.cell 3 _ rfl
      by_cases hlt : k < 4
      · have hk4 : k = 0 ∨ k = 1 ∨ k = 2 ∨ k = 3 := by omega
        clear hk hlt
        rcases hk4 with rfl | rfl | rfl | rfl
        · have q0 := y3.cell 0 _ rfl
          have q1 := y3.cell 1 _ rfl
          have q2 := y3.cell 2 _ rfl
          have q3 := y3.cell 3 _ rfl
          have z0 := y3.free 0
          have z1 := y3.free 1
          have z2 := y3.free 2
          have z3 := y3.free 3
          have s3 := ((((y3.drew.set 0 (.int .i64 (hfI a false))).set 1 (.int .i64 (hfI b false))).set 2 (.int .i64 (hfI c false))).set 3 (.int .i64 (hfI d false)))
          have s1 := ((((y1.drew.far ⟨(w.heap.size + 1 + 1), 0, none⟩ (.int .i64 (hfI a false)) (by simp; omega)).far ⟨(w.heap.size + 1 + 1), 1, none⟩ (.int .i64 (hfI b false)) (by simp; omega)).far ⟨(w.heap.size + 1 + 1), 2, none⟩ (.int .i64 (hfI c false)) (by simp; omega)).far ⟨(w.heap.size + 1 + 1), 3, none⟩ (.int .i64 (hfI d false)) (by simp; omega))
          have s2 := ((((y2.drew.far ⟨(w.heap.size + 1 + 1), 0, none⟩ (.int .i64 (hfI a false)) (by simp)).far ⟨(w.heap.size + 1 + 1), 1, none⟩ (.int .i64 (hfI b false)) (by simp)).far ⟨(w.heap.size + 1 + 1), 2, none⟩ (.int .i64 (hfI c false)) (by simp)).far ⟨(w.heap.size + 1 + 1), 3, none⟩ (.int .i64 (hfI d false)) (by simp))
          have sB := ((((B.drew.setCell (p := ⟨(w.heap.size + 1 + 1), 0, none⟩) (Nat.le_trans (Nat.le_succ _) (Nat.le_succ _)) (.int .i64 (hfI a false))).setCell (p := ⟨(w.heap.size + 1 + 1), 1, none⟩) (Nat.le_trans (Nat.le_succ _) (Nat.le_succ _)) (.int .i64 (hfI b false))).setCell (p := ⟨(w.heap.size + 1 + 1), 2, none⟩) (Nat.le_trans (Nat.le_succ _) (Nat.le_succ _)) (.int .i64 (hfI c false))).setCell (p := ⟨(w.heap.size + 1 + 1), 3, none⟩) (Nat.le_trans (Nat.le_succ _) (Nat.le_succ _)) (.int .i64 (hfI d false)))
          have H3 : Hid (Blk _ _ 106 (arr4 (bndsK ⟨a, b, c, d⟩ 1))) := s3
          have H1 : Hid _ := s1
          have H2 : Hid _ := s2
          have HB : Hid _ := sB
          clear s1 s2 s3 sB y1 y2 y3 B
          go_upto_region 9 with fail
          refine wp_region_still_tail 19 (by kernel_rfl) (by kernel_rfl) ?_
          simp only [List.take_succ_cons, List.take_zero, List.drop_succ_cons, List.drop_zero]
          repeat (first | still_step | still_call (half_r _ _ (by omega) (by omega) _))
          refine wpStill_nil ?_
          go_wp2
          go_roundw
          case rel => exact ⟨1, by omega, by go_num, H3.out, H1.out, H2.out, HB.out⟩
          case measure => simp [intOf]
        · have q0 := y3.cell 4 _ rfl
          have q1 := y3.cell 5 _ rfl
          have q2 := y3.cell 6 _ rfl
          have q3 := y3.cell 7 _ rfl
          have z0 := y3.free 4
          have z1 := y3.free 5
          have z2 := y3.free 6
          have z3 := y3.free 7
          have s3 := ((((y3.drew.set 4 (.int .i64 (hfI a true))).set 5 (.int .i64 (hfI b false))).set 6 (.int .i64 (hfI c true))).set 7 (.int .i64 (hfI d false)))
          have s1 := ((((y1.drew.far ⟨(w.heap.size + 1 + 1), 4, none⟩ (.int .i64 (hfI a true)) (by simp; omega)).far ⟨(w.heap.size + 1 + 1), 5, none⟩ (.int .i64 (hfI b false)) (by simp; omega)).far ⟨(w.heap.size + 1 + 1), 6, none⟩ (.int .i64 (hfI c true)) (by simp; omega)).far ⟨(w.heap.size + 1 + 1), 7, none⟩ (.int .i64 (hfI d false)) (by simp; omega))
          have s2 := ((((y2.drew.far ⟨(w.heap.size + 1 + 1), 4, none⟩ (.int .i64 (hfI a true)) (by simp)).far ⟨(w.heap.size + 1 + 1), 5, none⟩ (.int .i64 (hfI b false)) (by simp)).far ⟨(w.heap.size + 1 + 1), 6, none⟩ (.int .i64 (hfI c true)) (by simp)).far ⟨(w.heap.size + 1 + 1), 7, none⟩ (.int .i64 (hfI d false)) (by simp))
          have sB := ((((B.drew.setCell (p := ⟨(w.heap.size + 1 + 1), 4, none⟩) (Nat.le_trans (Nat.le_succ _) (Nat.le_succ _)) (.int .i64 (hfI a true))).setCell (p := ⟨(w.heap.size + 1 + 1), 5, none⟩) (Nat.le_trans (Nat.le_succ _) (Nat.le_succ _)) (.int .i64 (hfI b false))).setCell (p := ⟨(w.heap.size + 1 + 1), 6, none⟩) (Nat.le_trans (Nat.le_succ _) (Nat.le_succ _)) (.int .i64 (hfI c true))).setCell (p := ⟨(w.heap.size + 1 + 1), 7, none⟩) (Nat.le_trans (Nat.le_succ _) (Nat.le_succ _)) (.int .i64 (hfI d false)))
          have H3 : Hid (Blk _ _ 106 (arr4 (bndsK ⟨a, b, c, d⟩ 2))) := s3
          have H1 : Hid _ := s1
          have H2 : Hid _ := s2
          have HB : Hid _ := sB
          clear s1 s2 s3 sB y1 y2 y3 B
          go_upto_region 9 with fail
          refine wp_region_still_tail 19 (by kernel_rfl) (by kernel_rfl) ?_
          simp only [List.take_succ_cons, List.take_zero, List.drop_succ_cons, List.drop_zero]
          repeat (first | still_step | still_call (half_r _ _ (by omega) (by omega) _))
          refine wpStill_nil ?_
          go_wp2
          go_roundw
          case rel => exact ⟨2, by omega, by go_num, H3.out, H1.out, H2.out, HB.out⟩
          case measure => simp [intOf]
        · have q0 := y3.cell 8 _ rfl
          have q1 := y3.cell 9 _ rfl
          have q2 := y3.cell 10 _ rfl
          have q3 := y3.cell 11 _ rfl
          have z0 := y3.free 8
          have z1 := y3.free 9
          have z2 := y3.free 10
          have z3 := y3.free 11
          have s3 := ((((y3.drew.set 8 (.int .i64 (hfI a false))).set 9 (.int .i64 (hfI b true))).set 10 (.int .i64 (hfI c false))).set 11 (.int .i64 (hfI d true)))
          have s1 := ((((y1.drew.far ⟨(w.heap.size + 1 + 1), 8, none⟩ (.int .i64 (hfI a false)) (by simp; omega)).far ⟨(w.heap.size + 1 + 1), 9, none⟩ (.int .i64 (hfI b true)) (by simp; omega)).far ⟨(w.heap.size + 1 + 1), 10, none⟩ (.int .i64 (hfI c false)) (by simp; omega)).far ⟨(w.heap.size + 1 + 1), 11, none⟩ (.int .i64 (hfI d true)) (by simp; omega))
          have s2 := ((((y2.drew.far ⟨(w.heap.size + 1 + 1), 8, none⟩ (.int .i64 (hfI a false)) (by simp)).far ⟨(w.heap.size + 1 + 1), 9, none⟩ (.int .i64 (hfI b true)) (by simp)).far ⟨(w.heap.size + 1 + 1), 10, none⟩ (.int .i64 (hfI c false)) (by simp)).far ⟨(w.heap.size + 1 + 1), 11, none⟩ (.int .i64 (hfI d true)) (by simp))
          have sB := ((((B.drew.setCell (p := ⟨(w.heap.size + 1 + 1), 8, none⟩) (Nat.le_trans (Nat.le_succ _) (Nat.le_succ _)) (.int .i64 (hfI a false))).setCell (p := ⟨(w.heap.size + 1 + 1), 9, none⟩) (Nat.le_trans (Nat.le_succ _) (Nat.le_succ _)) (.int .i64 (hfI b true))).setCell (p := ⟨(w.heap.size + 1 + 1), 10, none⟩) (Nat.le_trans (Nat.le_succ _) (Nat.le_succ _)) (.int .i64 (hfI c false))).setCell (p := ⟨(w.heap.size + 1 + 1), 11, none⟩) (Nat.le_trans (Nat.le_succ _) (Nat.le_succ _)) (.int .i64 (hfI d true)))
          have H3 : Hid (Blk _ _ 106 (arr4 (bndsK ⟨a, b, c, d⟩ 3))) := s3
          have H1 : Hid _ := s1
          have H2 : Hid _ := s2
          have HB : Hid _ := sB
          clear s1 s2 s3 sB y1 y2 y3 B
          go_upto_region 9 with fail
          refine wp_region_still_tail 19 (by kernel_rfl) (by kernel_rfl) ?_
          simp only [List.take_succ_cons, List.take_zero, List.drop_succ_cons, List.drop_zero]
          repeat (first | still_step | still_call (half_r _ _ (by omega) (by omega) _))
          refine wpStill_nil ?_
          go_wp2
          go_roundw
          case rel => exact ⟨3, by omega, by go_num, H3.out, H1.out, H2.out, HB.out⟩
          case measure => simp [intOf]
        · have q0 := y3.cell 12 _ rfl
          have q1 := y3.cell 13 _ rfl
          have q2 := y3.cell 14 _ rfl
          have q3 := y3.cell 15 _ rfl
          have z0 := y3.free 12
          have z1 := y3.free 13
          have z2 := y3.free 14
          have z3 := y3.free 15
          have s3 := ((((y3.drew.set 12 (.int .i64 (hfI a true))).set 13 (.int .i64 (hfI b true))).set 14 (.int .i64 (hfI c true))).set 15 (.int .i64 (hfI d true)))
          have s1 := ((((y1.drew.far ⟨(w.heap.size + 1 + 1), 12, none⟩ (.int .i64 (hfI a true)) (by simp; omega)).far ⟨(w.heap.size + 1 + 1), 13, none⟩ (.int .i64 (hfI b true)) (by simp; omega)).far ⟨(w.heap.size + 1 + 1), 14, none⟩ (.int .i64 (hfI c true)) (by simp; omega)).far ⟨(w.heap.size + 1 + 1), 15, none⟩ (.int .i64 (hfI d true)) (by simp; omega))
          have s2 := ((((y2.drew.far ⟨(w.heap.size + 1 + 1), 12, none⟩ (.int .i64 (hfI a true)) (by simp)).far ⟨(w.heap.size + 1 + 1), 13, none⟩ (.int .i64 (hfI b true)) (by simp)).far ⟨(w.heap.size + 1 + 1), 14, none⟩ (.int .i64 (hfI c true)) (by simp)).far ⟨(w.heap.size + 1 + 1), 15, none⟩ (.int .i64 (hfI d true)) (by simp))
          have sB := ((((B.drew.setCell (p := ⟨(w.heap.size + 1 + 1), 12, none⟩) (Nat.le_trans (Nat.le_succ _) (Nat.le_succ _)) (.int .i64 (hfI a true))).setCell (p := ⟨(w.heap.size + 1 + 1), 13, none⟩) (Nat.le_trans (Nat.le_succ _) (Nat.le_succ _)) (.int .i64 (hfI b true))).setCell (p := ⟨(w.heap.size + 1 + 1), 14, none⟩) (Nat.le_trans (Nat.le_succ _) (Nat.le_succ _)) (.int .i64 (hfI c true))).setCell (p := ⟨(w.heap.size + 1 + 1), 15, none⟩) (Nat.le_trans (Nat.le_succ _) (Nat.le_succ _)) (.int .i64 (hfI d true)))
          have H3 : Hid (Blk _ _ 106 (arr4 (bndsK ⟨a, b, c, d⟩ 4))) := s3
          have H1 : Hid _ := s1
          have H2 : Hid _ := s2
          have HB : Hid _ := sB
          clear s1 s2 s3 sB y1 y2 y3 B
          go_upto_region 9 with fail
          refine wp_region_still_tail 19 (by kernel_rfl) (by kernel_rfl) ?_
          simp only [List.take_succ_cons, List.take_zero, List.drop_succ_cons, List.drop_zero]
          repeat (first | still_step | still_call (half_r _ _ (by omega) (by omega) _))
          refine wpStill_nil ?_
          go_wp2
          go_roundw
          case rel => exact ⟨4, by omega, by go_num, H3.out, H1.out, H2.out, HB.out⟩
          case measure => simp [intOf]
      · obtain rfl : k = 4 := by omega
        have hz : arr4 (bnds ⟨a, b, c, d⟩) = arr4 (bndsK ⟨a, b, c, d⟩ 4) := by simp [arr4_get, bnds, bndsK, hv]
        go_wp2_with (first | (refine wpList_load_mid rfl 106 (.tmp 3) rfl (w.heap.size + 1 + 1) 0 rfl (arr4 (bndsK ⟨a, b, c, d⟩ 4)).toList _ y3.range Try.underlying106 rfl info16 ?_) | (refine wpList_store_row rfl 106 (.tmp 2) (.tmp 47) rfl (w.heap.size + 1) (arr4 (bndsK ⟨a, b, c, d⟩ 4)) rfl rfl 106 _ y2 info16 rfl (one16 _) ?_))
        refine bodyPost_ret (results_cell_row rfl _ _ (w.heap.size + 1) 106 (arr4 (bndsK ⟨a, b, c, d⟩ 4)) (0, 0) _ rfl (y2.row _) Try.underlying106 rfl info16) rfl ⟨by rw [hz], below_row B (Nat.le_succ _) _⟩
set_option maxHeartbeats 400000 in
theorem across_q (a b c d a' b' c' d' : Int) (w : World) :
    Calls Try.prog 108 #[.agg #[.int .i64 a, .int .i64 b, .int .i64 c, .int .i64 d], .agg #[.int .i64 a', .int .i64 b', .int .i64 c', .int .i64 d']] w fun e w' => e = .returned (.agg #[.int .i64 a, .int .i64 b', .int .i64 c, .int .i64 d']) ∧ Below w.heap.size w w' := by
  go_enter Try.func108, Try.ntmps108
  go_wp2
  refine bodyPost_ret (v := .agg #[.int .i64 a, .int .i64 b', .int .i64 c, .int .i64 d']) (by simp [results, Try.results108, go_sem]) rfl ⟨rfl, ?_⟩
  (repeat (first | exact Below.refl _ _ | (refine Below.setCell ?_ (by simp <;> omega) _) | (refine Below.alloc ?_ (by simp <;> omega) _)))

theorem cd2 {a : Int} (h : 0 ≤ a) : Pl.cd a 2 = hfI a false := by
  have t1 : a.tmod 2 = a % 2 := Int.tmod_eq_emod_of_nonneg h
  have t2 : a.tdiv 2 = a / 2 := Int.tdiv_eq_ediv_of_nonneg h
  rw [Pl.cd, if_neg (by decide), t1, t2, hfI]
  split <;> simp <;> omega
theorem fd2 {a : Int} (h : 0 ≤ a) : Pl.fd a 2 = hfI a true := by
  have t1 : a.tmod 2 = a % 2 := Int.tmod_eq_emod_of_nonneg h
  have t2 : a.tdiv 2 = a / 2 := Int.tdiv_eq_ediv_of_nonneg h
  rw [Pl.fd, if_neg (by decide), t1, t2, hfI]
  rw [if_neg (by omega)]
  simp
/-- The worlds of the last statement of Bands: the two rectangles lie, and the result's block. -/
structure BdW (w : World) (L H : Nat) (lo hi : Pl.R) (W : World) : Prop where
  below : Below w.heap.size w W
  low : Box W L lo
  high : Box W H hi
  res : Blk W (w.heap.size + 1) 106 (arr4 fun _ => zR)
theorem BdW.step {w W W1 : World} {L H : Nat} {lo hi : Pl.R} (h : BdW w L H lo hi W) (hb : Below W.heap.size W W1) : BdW w L H lo hi W1 := ⟨below_call h.below hb, h.low.below hb, h.high.below hb, h.res.below hb⟩
structure BdF (w : World) (L H : Nat) (lo hi : Pl.R) where
  W : World
  ok : BdW w L H lo hi W
set_option maxHeartbeats 4000000 in
theorem bands_q (a b c d : Int) (w : World) : Calls Try.prog 101 #[.agg #[.int .i64 a, .int .i64 b, .int .i64 c, .int .i64 d]] w fun e w' => e = .returned (.agg (arr4 (bnds ⟨a, b, c, d⟩))) ∧ Below w.heap.size w w' := by
  have x1 := (Box.fresh w a b c d 23).alloc (arr4 fun _ => zR) 106
  have x2 := Blk.freshAt (w.alloc (.cells #[.int .i64 a, .int .i64 b, .int .i64 c, .int .i64 d] 23)) (w.heap.size + 1) (by simp) 106 (arr4 fun _ => zR)
  have B1 := below_alloc (below_alloc (Below.refl w.heap.size w) (.cells #[.int .i64 a, .int .i64 b, .int .i64 c, .int .i64 d] 23)) (.cells (arr4 fun _ => zR) 106)
  go_enter Try.func101, Try.ntmps101
  obtain ⟨c0, c1, c2, c3⟩ := x1.open
  go_wp2_with fail
  clear c0 c1 c2 c3
  refine (valid_c _ _ _ _ _).mono ?_
  rintro e w1 ⟨rfl, hb⟩
  replace x1 := x1.below hb
  replace x2 := x2.below hb
  replace B1 := below_call B1 hb
  clear hb
  cases hv : Pl.validB a b c d with
  | false =>
    have hz : bnds ⟨a, b, c, d⟩ = fun _ => zR := funext fun o => if_neg (by simp [hv])
    go_wp2_with (first | (refine wpList_store_row rfl 106 (.tmp 2) (.tmp 8) rfl (w.heap.size + 1) (arr4 fun _ => zR) rfl rfl 106 _ x2 info16 rfl (one16 _) ?_))
    refine bodyPost_ret (results_cell_row rfl _ _ (w.heap.size + 1) 106 (arr4 fun _ => zR) (0, 0) _ rfl (x2.row _) Try.underlying106 rfl info16) rfl ⟨by rw [hz], below_row B1 (Nat.le_succ _) _⟩
  | true =>
    obtain ⟨v1, v2, v3, v4, v5, v6⟩ := Pl.valid_iff.1 hv
    have hR : Pl.redR a b c d 2 2 = ⟨hfI a false, hfI b false, hfI c false, hfI d false⟩ := by
      rw [Pl.redR, if_pos ⟨hv, by decide, by decide⟩, cd2 (by omega), cd2 (by omega), cd2 (by omega), cd2 (by omega)]
    obtain ⟨c0, c1, c2, c3⟩ := x1.open
    go_wp2_with fail
    clear c0 c1 c2 c3
    refine (red_c _ _ _ _ _ _ _).mono ?_
    rw [hR]
    rintro e w2 ⟨rfl, hb⟩
    replace x1 := x1.below hb
    replace x2 := x2.below hb
    replace B1 := below_call B1 hb
    clear hb hR
    go_upto_region 4 with fail
    obtain ⟨W3, hW3⟩ : ∃ W3, W3 = w2.alloc (.cells #[.int .i64 (hfI a false), .int .i64 (hfI b false), .int .i64 (hfI c false), .int .i64 (hfI d false)] 23) := ⟨_, rfl⟩
    have y1 : Box W3 w.heap.size ⟨a, b, c, d⟩ := hW3 ▸ x1.alloc _ _
    have y2 : Blk W3 (w.heap.size + 1) 106 (arr4 fun _ => zR) := hW3 ▸ x2.alloc _
    have y3 : Box W3 w2.heap.size ⟨hfI a false, hfI b false, hfI c false, hfI d false⟩ := hW3 ▸ Box.fresh w2 _ _ _ _ _
    have B3 : Below w.heap.size w W3 := hW3 ▸ below_alloc B1 _
    rw [← hW3]
    clear hW3 x1 x2 B1
    obtain ⟨c0, c1, c2, c3⟩ := y1.open
    go_cut [4] (fun s4 wx => ∃ g : Nat, s4 = .pointer (some ⟨g, 0, none⟩) ∧ BdW w w2.heap.size g ⟨hfI a false, hfI b false, hfI c false, hfI d false⟩ ⟨Pl.fd a 2, Pl.fd b 2, Pl.fd c 2, Pl.fd d 2⟩ wx)
    case first =>
      go_region_held3 (fun w' => w'.cell? ⟨w.heap.size, 0, none⟩ = some (.int .i64 a) ∧ w'.cell? ⟨w.heap.size, 1, none⟩ = some (.int .i64 b) ∧ w'.cell? ⟨w.heap.size, 2, none⟩ = some (.int .i64 c) ∧ w'.cell? ⟨w.heap.size, 3, none⟩ = some (.int .i64 d))
        (first | assumption | (simp [World.cell?_alloc_some, c0, c1, c2, c3]; done))
        (first | (go_at_call 57; (with_reducible refine (fd_c _ _ _ (by omega) (by omega)).mono ?_); rintro e w3 ⟨rfl, rfl⟩))
      all_goals
        go_wp2_with fail
        go_meet
        exact ⟨W3.heap.size, rfl, below_alloc B3.drew _, (y3.alloc _ _).drew, (Box.fresh W3 _ _ _ _ _).drew, (y2.alloc _).drew⟩
    case rest =>
      obtain ⟨g, rfl, hS⟩ := hcut
      rw [fd2 (by omega), fd2 (by omega), fd2 (by omega), fd2 (by omega)] at hS
      clear c0 c1 c2 c3 y1 y2 y3 B3
      have hst : ∀ (X : BdF w w2.heap.size g ⟨hfI a false, hfI b false, hfI c false, hfI d false⟩ ⟨hfI a true, hfI b true, hfI c true, hfI d true⟩) (w' : World), Below X.W.heap.size X.W w' → ∃ Y : BdF w w2.heap.size g ⟨hfI a false, hfI b false, hfI c false, hfI d false⟩ ⟨hfI a true, hfI b true, hfI c true, hfI d true⟩, w' = Y.W := fun X w' hb => ⟨⟨w', X.ok.step hb⟩, rfl⟩
      have hne : Nonempty (BdF w w2.heap.size g ⟨hfI a false, hfI b false, hfI c false, hfI d false⟩ ⟨hfI a true, hfI b true, hfI c true, hfI d true⟩) := ⟨⟨_, hS⟩⟩
      have l0 : ∀ X : BdF w w2.heap.size g ⟨hfI a false, hfI b false, hfI c false, hfI d false⟩ ⟨hfI a true, hfI b true, hfI c true, hfI d true⟩, X.W.cell? ⟨w2.heap.size, 0, none⟩ = some (.int .i64 (hfI a false)) := fun X => X.ok.low.open.1
      have l1 : ∀ X : BdF w w2.heap.size g ⟨hfI a false, hfI b false, hfI c false, hfI d false⟩ ⟨hfI a true, hfI b true, hfI c true, hfI d true⟩, X.W.cell? ⟨w2.heap.size, 1, none⟩ = some (.int .i64 (hfI b false)) := fun X => X.ok.low.open.2.1
      have l2 : ∀ X : BdF w w2.heap.size g ⟨hfI a false, hfI b false, hfI c false, hfI d false⟩ ⟨hfI a true, hfI b true, hfI c true, hfI d true⟩, X.W.cell? ⟨w2.heap.size, 2, none⟩ = some (.int .i64 (hfI c false)) := fun X => X.ok.low.open.2.2.1
      have l3 : ∀ X : BdF w w2.heap.size g ⟨hfI a false, hfI b false, hfI c false, hfI d false⟩ ⟨hfI a true, hfI b true, hfI c true, hfI d true⟩, X.W.cell? ⟨w2.heap.size, 3, none⟩ = some (.int .i64 (hfI d false)) := fun X => X.ok.low.open.2.2.2
      have h0 : ∀ X : BdF w w2.heap.size g ⟨hfI a false, hfI b false, hfI c false, hfI d false⟩ ⟨hfI a true, hfI b true, hfI c true, hfI d true⟩, X.W.cell? ⟨g, 0, none⟩ = some (.int .i64 (hfI a true)) := fun X => X.ok.high.open.1
      have h1 : ∀ X : BdF w w2.heap.size g ⟨hfI a false, hfI b false, hfI c false, hfI d false⟩ ⟨hfI a true, hfI b true, hfI c true, hfI d true⟩, X.W.cell? ⟨g, 1, none⟩ = some (.int .i64 (hfI b true)) := fun X => X.ok.high.open.2.1
      have h2 : ∀ X : BdF w w2.heap.size g ⟨hfI a false, hfI b false, hfI c false, hfI d false⟩ ⟨hfI a true, hfI b true, hfI c true, hfI d true⟩, X.W.cell? ⟨g, 2, none⟩ = some (.int .i64 (hfI c true)) := fun X => X.ok.high.open.2.2.1
      have h3 : ∀ X : BdF w w2.heap.size g ⟨hfI a false, hfI b false, hfI c false, hfI d false⟩ ⟨hfI a true, hfI b true, hfI c true, hfI d true⟩, X.W.cell? ⟨g, 3, none⟩ = some (.int .i64 (hfI d true)) := fun X => X.ok.high.open.2.2.2
      go_upto_region 5 with fail
      refine wp_region_qt (fun w' => ∃ X : BdF w w2.heap.size g ⟨hfI a false, hfI b false, hfI c false, hfI d false⟩ ⟨hfI a true, hfI b true, hfI c true, hfI d true⟩, w' = X.W) 9 (by kernel_rfl) (by kernel_rfl) ⟨⟨_, hS.step (Below.refl _ _).drew⟩, rfl⟩ ?_
      simp only [List.take_succ_cons, List.take_zero, List.drop_succ_cons, List.drop_zero]
      repeat (first | go_big_quiet_step ((first | (go_at_call 108; exact call_in (across_q _ _ _ _ _ _ _ _ _) (hst _)))) | quiet_step ((first | (go_at_call 108; exact call_in (across_q _ _ _ _ _ _ _ _ _) (hst _)))))
      refine wpQuiet_nil ?_
      intro w5 hw'
      obtain ⟨⟨_, hS5⟩, hw''⟩ := hw'
      subst hw''
      clear hst hne l0 l1 l2 l3 h0 h1 h2 h3 hS
      have x2 := hS5.res
      have hz : bnds ⟨a, b, c, d⟩ = bndR ⟨a, b, c, d⟩ := funext fun o => if_pos hv
      go_wp2_with (first | (refine wpList_store_row rfl 106 (.tmp 2) (.tmp 32) rfl (w.heap.size + 1) (arr4 (bndR ⟨a, b, c, d⟩)) rfl rfl 106 _ x2 info16 rfl (one16 _) ?_))
      refine bodyPost_ret (results_cell_row rfl _ _ (w.heap.size + 1) 106 (arr4 (bndR ⟨a, b, c, d⟩)) (0, 0) _ rfl (x2.row _) Try.underlying106 rfl info16) rfl ⟨by rw [hz], below_row hS5.below (Nat.le_succ _) _⟩
end Dw
end Go.Proofs.Ytkcjbehfhcmiaaa
