/-
  Split of the code of layer 5: its errors; the sizes of subbands.
  Split of the code of layer 5, where it gives the four planes.
-/
import Derived.Test.YtnfnidgabgdphaaDcE
import Derived.Test.YtnfnidgabgdphaaDwH
set_option maxRecDepth 100000
namespace Go.Proofs.Ytnfnidgabgdphaa
open Go.RowKit

set_option maxHeartbeats 4000000 in
theorem splitc_no1 (a b c d kn : Int) (l : List Int) (s : Option Addr) (m : Nat) (w : World) (hp : pvB a b c d l.length = false) :
    Calls Try.prog 21 #[.agg #[.int .i64 a, .int .i64 b, .int .i64 c, .int .i64 d, .slice s l.length m], .int .i64 kn] w (GivesP4 (fun _ => zR) (fun _ => []) 1 w) := by
  have x0 := (((Blk.fresh w 30 #[.int .i64 a, .int .i64 b, .int .i64 c, .int .i64 d, .slice s l.length m]).alloc (.cells #[.int .i64 kn] 31)).alloc (.cells #[.int .i64 0, .int .i64 0, .int .i64 0, .int .i64 0, .slice none 0 0, .int .i64 0, .int .i64 0, .int .i64 0, .int .i64 0, .slice none 0 0, .int .i64 0, .int .i64 0, .int .i64 0, .int .i64 0, .slice none 0 0, .int .i64 0, .int .i64 0, .int .i64 0, .int .i64 0, .slice none 0 0] 33)).alloc (.cells #[.int .i64 0, .int .i64 0, .int .i64 0, .int .i64 0, .slice none 0 0, .int .i64 0, .int .i64 0, .int .i64 0, .int .i64 0, .slice none 0 0, .int .i64 0, .int .i64 0, .int .i64 0, .int .i64 0, .slice none 0 0, .int .i64 0, .int .i64 0, .int .i64 0, .int .i64 0, .slice none 0 0] 33)
  have x1 := ((Blk.freshAt (w.alloc (.cells #[.int .i64 a, .int .i64 b, .int .i64 c, .int .i64 d, .slice s l.length m] 30)) (w.heap.size + 1) (by simp) 31 #[.int .i64 kn]).alloc (.cells #[.int .i64 0, .int .i64 0, .int .i64 0, .int .i64 0, .slice none 0 0, .int .i64 0, .int .i64 0, .int .i64 0, .int .i64 0, .slice none 0 0, .int .i64 0, .int .i64 0, .int .i64 0, .int .i64 0, .slice none 0 0, .int .i64 0, .int .i64 0, .int .i64 0, .int .i64 0, .slice none 0 0] 33)).alloc (.cells #[.int .i64 0, .int .i64 0, .int .i64 0, .int .i64 0, .slice none 0 0, .int .i64 0, .int .i64 0, .int .i64 0, .int .i64 0, .slice none 0 0, .int .i64 0, .int .i64 0, .int .i64 0, .int .i64 0, .slice none 0 0, .int .i64 0, .int .i64 0, .int .i64 0, .int .i64 0, .slice none 0 0] 33)
  have x2 := (Blk.freshAt ((w.alloc (.cells #[.int .i64 a, .int .i64 b, .int .i64 c, .int .i64 d, .slice s l.length m] 30)).alloc (.cells #[.int .i64 kn] 31)) (w.heap.size + 2) (by simp) 33 #[.int .i64 0, .int .i64 0, .int .i64 0, .int .i64 0, .slice none 0 0, .int .i64 0, .int .i64 0, .int .i64 0, .int .i64 0, .slice none 0 0, .int .i64 0, .int .i64 0, .int .i64 0, .int .i64 0, .slice none 0 0, .int .i64 0, .int .i64 0, .int .i64 0, .int .i64 0, .slice none 0 0]).alloc (.cells #[.int .i64 0, .int .i64 0, .int .i64 0, .int .i64 0, .slice none 0 0, .int .i64 0, .int .i64 0, .int .i64 0, .int .i64 0, .slice none 0 0, .int .i64 0, .int .i64 0, .int .i64 0, .int .i64 0, .slice none 0 0, .int .i64 0, .int .i64 0, .int .i64 0, .int .i64 0, .slice none 0 0] 33)
  have x3 := Blk.freshAt (((w.alloc (.cells #[.int .i64 a, .int .i64 b, .int .i64 c, .int .i64 d, .slice s l.length m] 30)).alloc (.cells #[.int .i64 kn] 31)).alloc (.cells #[.int .i64 0, .int .i64 0, .int .i64 0, .int .i64 0, .slice none 0 0, .int .i64 0, .int .i64 0, .int .i64 0, .int .i64 0, .slice none 0 0, .int .i64 0, .int .i64 0, .int .i64 0, .int .i64 0, .slice none 0 0, .int .i64 0, .int .i64 0, .int .i64 0, .int .i64 0, .slice none 0 0] 33)) (w.heap.size + 3) (by simp) 33 #[.int .i64 0, .int .i64 0, .int .i64 0, .int .i64 0, .slice none 0 0, .int .i64 0, .int .i64 0, .int .i64 0, .int .i64 0, .slice none 0 0, .int .i64 0, .int .i64 0, .int .i64 0, .int .i64 0, .slice none 0 0, .int .i64 0, .int .i64 0, .int .i64 0, .int .i64 0, .slice none 0 0]
  have B := below_alloc (below_alloc (below_alloc (below_alloc (Below.refl _ w) (.cells #[.int .i64 a, .int .i64 b, .int .i64 c, .int .i64 d, .slice s l.length m] 30)) (.cells #[.int .i64 kn] 31)) (.cells #[.int .i64 0, .int .i64 0, .int .i64 0, .int .i64 0, .slice none 0 0, .int .i64 0, .int .i64 0, .int .i64 0, .int .i64 0, .slice none 0 0, .int .i64 0, .int .i64 0, .int .i64 0, .int .i64 0, .slice none 0 0, .int .i64 0, .int .i64 0, .int .i64 0, .int .i64 0, .slice none 0 0] 33)) (.cells #[.int .i64 0, .int .i64 0, .int .i64 0, .int .i64 0, .slice none 0 0, .int .i64 0, .int .i64 0, .int .i64 0, .int .i64 0, .slice none 0 0, .int .i64 0, .int .i64 0, .int .i64 0, .int .i64 0, .slice none 0 0, .int .i64 0, .int .i64 0, .int .i64 0, .int .i64 0, .slice none 0 0] 33)
  go_enter Try.func21, Try.ntmps21
  have y0 := x0.cell 0 _ rfl
  have y1 := x0.cell 1 _ rfl
  have y2 := x0.cell 2 _ rfl
  have y3 := x0.cell 3 _ rfl
  have y4 := x0.cell 4 _ rfl
  have yk := x1.cell 0 _ rfl
  go_wp2_with fail
  clear y0 y1 y2 y3 y4 yk
  refine (pv_c _ _ _ _ _ _ _ _).mono ?_
  rintro e wa ⟨rfl, hb⟩
  replace x0 := x0.below hb
  replace x1 := x1.below hb
  replace x2 := x2.below hb
  replace x3 := x3.below hb
  replace B := below_call B hb
  clear hb
  have y0 := x0.cell 0 _ rfl
  have y1 := x0.cell 1 _ rfl
  have y2 := x0.cell 2 _ rfl
  have y3 := x0.cell 3 _ rfl
  have y4 := x0.cell 4 _ rfl
  have yk := x1.cell 0 _ rfl
  go_wp2_with (first | (refine wpList_load_mid rfl 33 (.tmp 6) rfl (w.heap.size + 3) 0 rfl (Array.toList #[.int .i64 0, .int .i64 0, .int .i64 0, .int .i64 0, .slice none 0 0, .int .i64 0, .int .i64 0, .int .i64 0, .int .i64 0, .slice none 0 0, .int .i64 0, .int .i64 0, .int .i64 0, .int .i64 0, .slice none 0 0, .int .i64 0, .int .i64 0, .int .i64 0, .int .i64 0, .slice none 0 0]) _ x3.range Try.underlying33 rfl info20 ?_) | (refine wpList_store_row rfl 33 (.tmp 4) (.tmp 16) rfl (w.heap.size + 2) #[.int .i64 0, .int .i64 0, .int .i64 0, .int .i64 0, .slice none 0 0, .int .i64 0, .int .i64 0, .int .i64 0, .int .i64 0, .slice none 0 0, .int .i64 0, .int .i64 0, .int .i64 0, .int .i64 0, .slice none 0 0, .int .i64 0, .int .i64 0, .int .i64 0, .int .i64 0, .slice none 0 0] rfl rfl 33 _ x2 info20 rfl (by simp [Value.oneCell']) ?_))
  have g1 : Blk (wa.setRow (w.heap.size + 2) #[.int .i64 0, .int .i64 0, .int .i64 0, .int .i64 0, .slice none 0 0, .int .i64 0, .int .i64 0, .int .i64 0, .int .i64 0, .slice none 0 0, .int .i64 0, .int .i64 0, .int .i64 0, .int .i64 0, .slice none 0 0, .int .i64 0, .int .i64 0, .int .i64 0, .int .i64 0, .slice none 0 0]) (w.heap.size + 2) 33 #[.int .i64 0, .int .i64 0, .int .i64 0, .int .i64 0, .slice none 0 0, .int .i64 0, .int .i64 0, .int .i64 0, .int .i64 0, .slice none 0 0, .int .i64 0, .int .i64 0, .int .i64 0, .int .i64 0, .slice none 0 0, .int .i64 0, .int .i64 0, .int .i64 0, .int .i64 0, .slice none 0 0] := x2.row _
  have hld := run_loadVar_mid (P := Try.prog) (wa.setRow (w.heap.size + 2) #[.int .i64 0, .int .i64 0, .int .i64 0, .int .i64 0, .slice none 0 0, .int .i64 0, .int .i64 0, .int .i64 0, .int .i64 0, .slice none 0 0, .int .i64 0, .int .i64 0, .int .i64 0, .int .i64 0, .slice none 0 0, .int .i64 0, .int .i64 0, .int .i64 0, .int .i64 0, .slice none 0 0]) (w.heap.size + 2) 0 33 (Array.toList #[.int .i64 0, .int .i64 0, .int .i64 0, .int .i64 0, .slice none 0 0, .int .i64 0, .int .i64 0, .int .i64 0, .int .i64 0, .slice none 0 0, .int .i64 0, .int .i64 0, .int .i64 0, .int .i64 0, .slice none 0 0, .int .i64 0, .int .i64 0, .int .i64 0, .int .i64 0, .slice none 0 0]) _ g1.range Try.underlying33 rfl info20
  refine bodyPost_ret (v := .tuple #[.agg #[.int .i64 0, .int .i64 0, .int .i64 0, .int .i64 0, .slice none 0 0, .int .i64 0, .int .i64 0, .int .i64 0, .int .i64 0, .slice none 0 0, .int .i64 0, .int .i64 0, .int .i64 0, .int .i64 0, .slice none 0 0, .int .i64 0, .int .i64 0, .int .i64 0, .int .i64 0, .slice none 0 0], .int .i64 1]) ?_ rfl ⟨fun _ => none, fun _ => 0, rfl, fun o _ => ⟨.inl rfl, Nat.le_refl _, fun _ => rfl, fresh_none _⟩, below_row B (by omega) _⟩
  rw [results_cell_tmp rfl]
  simp [asAddr, Result.andThen, hld]
set_option maxHeartbeats 4000000 in
theorem splitc_no2 (a b c d kn : Int) (l : List Int) (s : Option Addr) (m : Nat) (w : World) (hp : pvB a b c d l.length = true) (hk : kB kn = false) :
    Calls Try.prog 21 #[.agg #[.int .i64 a, .int .i64 b, .int .i64 c, .int .i64 d, .slice s l.length m], .int .i64 kn] w (GivesP4 (fun _ => zR) (fun _ => []) 3 w) := by
  have x0 := (((Blk.fresh w 30 #[.int .i64 a, .int .i64 b, .int .i64 c, .int .i64 d, .slice s l.length m]).alloc (.cells #[.int .i64 kn] 31)).alloc (.cells #[.int .i64 0, .int .i64 0, .int .i64 0, .int .i64 0, .slice none 0 0, .int .i64 0, .int .i64 0, .int .i64 0, .int .i64 0, .slice none 0 0, .int .i64 0, .int .i64 0, .int .i64 0, .int .i64 0, .slice none 0 0, .int .i64 0, .int .i64 0, .int .i64 0, .int .i64 0, .slice none 0 0] 33)).alloc (.cells #[.int .i64 0, .int .i64 0, .int .i64 0, .int .i64 0, .slice none 0 0, .int .i64 0, .int .i64 0, .int .i64 0, .int .i64 0, .slice none 0 0, .int .i64 0, .int .i64 0, .int .i64 0, .int .i64 0, .slice none 0 0, .int .i64 0, .int .i64 0, .int .i64 0, .int .i64 0, .slice none 0 0] 33)
  have x1 := ((Blk.freshAt (w.alloc (.cells #[.int .i64 a, .int .i64 b, .int .i64 c, .int .i64 d, .slice s l.length m] 30)) (w.heap.size + 1) (by simp) 31 #[.int .i64 kn]).alloc (.cells #[.int .i64 0, .int .i64 0, .int .i64 0, .int .i64 0, .slice none 0 0, .int .i64 0, .int .i64 0, .int .i64 0, .int .i64 0, .slice none 0 0, .int .i64 0, .int .i64 0, .int .i64 0, .int .i64 0, .slice none 0 0, .int .i64 0, .int .i64 0, .int .i64 0, .int .i64 0, .slice none 0 0] 33)).alloc (.cells #[.int .i64 0, .int .i64 0, .int .i64 0, .int .i64 0, .slice none 0 0, .int .i64 0, .int .i64 0, .int .i64 0, .int .i64 0, .slice none 0 0, .int .i64 0, .int .i64 0, .int .i64 0, .int .i64 0, .slice none 0 0, .int .i64 0, .int .i64 0, .int .i64 0, .int .i64 0, .slice none 0 0] 33)
  have x2 := (Blk.freshAt ((w.alloc (.cells #[.int .i64 a, .int .i64 b, .int .i64 c, .int .i64 d, .slice s l.length m] 30)).alloc (.cells #[.int .i64 kn] 31)) (w.heap.size + 2) (by simp) 33 #[.int .i64 0, .int .i64 0, .int .i64 0, .int .i64 0, .slice none 0 0, .int .i64 0, .int .i64 0, .int .i64 0, .int .i64 0, .slice none 0 0, .int .i64 0, .int .i64 0, .int .i64 0, .int .i64 0, .slice none 0 0, .int .i64 0, .int .i64 0, .int .i64 0, .int .i64 0, .slice none 0 0]).alloc (.cells #[.int .i64 0, .int .i64 0, .int .i64 0, .int .i64 0, .slice none 0 0, .int .i64 0, .int .i64 0, .int .i64 0, .int .i64 0, .slice none 0 0, .int .i64 0, .int .i64 0, .int .i64 0, .int .i64 0, .slice none 0 0, .int .i64 0, .int .i64 0, .int .i64 0, .int .i64 0, .slice none 0 0] 33)
  have x3 := Blk.freshAt (((w.alloc (.cells #[.int .i64 a, .int .i64 b, .int .i64 c, .int .i64 d, .slice s l.length m] 30)).alloc (.cells #[.int .i64 kn] 31)).alloc (.cells #[.int .i64 0, .int .i64 0, .int .i64 0, .int .i64 0, .slice none 0 0, .int .i64 0, .int .i64 0, .int .i64 0, .int .i64 0, .slice none 0 0, .int .i64 0, .int .i64 0, .int .i64 0, .int .i64 0, .slice none 0 0, .int .i64 0, .int .i64 0, .int .i64 0, .int .i64 0, .slice none 0 0] 33)) (w.heap.size + 3) (by simp) 33 #[.int .i64 0, .int .i64 0, .int .i64 0, .int .i64 0, .slice none 0 0, .int .i64 0, .int .i64 0, .int .i64 0, .int .i64 0, .slice none 0 0, .int .i64 0, .int .i64 0, .int .i64 0, .int .i64 0, .slice none 0 0, .int .i64 0, .int .i64 0, .int .i64 0, .int .i64 0, .slice none 0 0]
  have B := below_alloc (below_alloc (below_alloc (below_alloc (Below.refl _ w) (.cells #[.int .i64 a, .int .i64 b, .int .i64 c, .int .i64 d, .slice s l.length m] 30)) (.cells #[.int .i64 kn] 31)) (.cells #[.int .i64 0, .int .i64 0, .int .i64 0, .int .i64 0, .slice none 0 0, .int .i64 0, .int .i64 0, .int .i64 0, .int .i64 0, .slice none 0 0, .int .i64 0, .int .i64 0, .int .i64 0, .int .i64 0, .slice none 0 0, .int .i64 0, .int .i64 0, .int .i64 0, .int .i64 0, .slice none 0 0] 33)) (.cells #[.int .i64 0, .int .i64 0, .int .i64 0, .int .i64 0, .slice none 0 0, .int .i64 0, .int .i64 0, .int .i64 0, .int .i64 0, .slice none 0 0, .int .i64 0, .int .i64 0, .int .i64 0, .int .i64 0, .slice none 0 0, .int .i64 0, .int .i64 0, .int .i64 0, .int .i64 0, .slice none 0 0] 33)
  go_enter Try.func21, Try.ntmps21
  have y0 := x0.cell 0 _ rfl
  have y1 := x0.cell 1 _ rfl
  have y2 := x0.cell 2 _ rfl
  have y3 := x0.cell 3 _ rfl
  have y4 := x0.cell 4 _ rfl
  have yk := x1.cell 0 _ rfl
  go_wp2_with fail
  clear y0 y1 y2 y3 y4 yk
  refine (pv_c _ _ _ _ _ _ _ _).mono ?_
  rintro e wa ⟨rfl, hb⟩
  replace x0 := x0.below hb
  replace x1 := x1.below hb
  replace x2 := x2.below hb
  replace x3 := x3.below hb
  replace B := below_call B hb
  clear hb
  have y0 := x0.cell 0 _ rfl
  have y1 := x0.cell 1 _ rfl
  have y2 := x0.cell 2 _ rfl
  have y3 := x0.cell 3 _ rfl
  have y4 := x0.cell 4 _ rfl
  have yk := x1.cell 0 _ rfl
  go_wp2_with (first | (go_at_call 64; refine (known_q _ _).mono ?_; rintro e wn ⟨rfl, rfl⟩) | (refine wpList_load_mid rfl 33 (.tmp 6) rfl (w.heap.size + 3) 0 rfl (Array.toList #[.int .i64 0, .int .i64 0, .int .i64 0, .int .i64 0, .slice none 0 0, .int .i64 0, .int .i64 0, .int .i64 0, .int .i64 0, .slice none 0 0, .int .i64 0, .int .i64 0, .int .i64 0, .int .i64 0, .slice none 0 0, .int .i64 0, .int .i64 0, .int .i64 0, .int .i64 0, .slice none 0 0]) _ x3.range Try.underlying33 rfl info20 ?_) | (refine wpList_store_row rfl 33 (.tmp 4) (.tmp 21) rfl (w.heap.size + 2) #[.int .i64 0, .int .i64 0, .int .i64 0, .int .i64 0, .slice none 0 0, .int .i64 0, .int .i64 0, .int .i64 0, .int .i64 0, .slice none 0 0, .int .i64 0, .int .i64 0, .int .i64 0, .int .i64 0, .slice none 0 0, .int .i64 0, .int .i64 0, .int .i64 0, .int .i64 0, .slice none 0 0] rfl rfl 33 _ x2 info20 rfl (by simp [Value.oneCell']) ?_))
  have g1 : Blk (wa.setRow (w.heap.size + 2) #[.int .i64 0, .int .i64 0, .int .i64 0, .int .i64 0, .slice none 0 0, .int .i64 0, .int .i64 0, .int .i64 0, .int .i64 0, .slice none 0 0, .int .i64 0, .int .i64 0, .int .i64 0, .int .i64 0, .slice none 0 0, .int .i64 0, .int .i64 0, .int .i64 0, .int .i64 0, .slice none 0 0]) (w.heap.size + 2) 33 #[.int .i64 0, .int .i64 0, .int .i64 0, .int .i64 0, .slice none 0 0, .int .i64 0, .int .i64 0, .int .i64 0, .int .i64 0, .slice none 0 0, .int .i64 0, .int .i64 0, .int .i64 0, .int .i64 0, .slice none 0 0, .int .i64 0, .int .i64 0, .int .i64 0, .int .i64 0, .slice none 0 0] := x2.row _
  have hld := run_loadVar_mid (P := Try.prog) (wa.setRow (w.heap.size + 2) #[.int .i64 0, .int .i64 0, .int .i64 0, .int .i64 0, .slice none 0 0, .int .i64 0, .int .i64 0, .int .i64 0, .int .i64 0, .slice none 0 0, .int .i64 0, .int .i64 0, .int .i64 0, .int .i64 0, .slice none 0 0, .int .i64 0, .int .i64 0, .int .i64 0, .int .i64 0, .slice none 0 0]) (w.heap.size + 2) 0 33 (Array.toList #[.int .i64 0, .int .i64 0, .int .i64 0, .int .i64 0, .slice none 0 0, .int .i64 0, .int .i64 0, .int .i64 0, .int .i64 0, .slice none 0 0, .int .i64 0, .int .i64 0, .int .i64 0, .int .i64 0, .slice none 0 0, .int .i64 0, .int .i64 0, .int .i64 0, .int .i64 0, .slice none 0 0]) _ g1.range Try.underlying33 rfl info20
  refine bodyPost_ret (v := .tuple #[.agg #[.int .i64 0, .int .i64 0, .int .i64 0, .int .i64 0, .slice none 0 0, .int .i64 0, .int .i64 0, .int .i64 0, .int .i64 0, .slice none 0 0, .int .i64 0, .int .i64 0, .int .i64 0, .int .i64 0, .slice none 0 0, .int .i64 0, .int .i64 0, .int .i64 0, .int .i64 0, .slice none 0 0], .int .i64 3]) ?_ rfl ⟨fun _ => none, fun _ => 0, rfl, fun o _ => ⟨.inl rfl, Nat.le_refl _, fun _ => rfl, fresh_none _⟩, below_row B (by omega) _⟩
  rw [results_cell_tmp rfl]
  simp [asAddr, Result.andThen, hld]
set_option maxHeartbeats 4000000 in
theorem splitc_no3 (a b c d kn : Int) (l : List Int) (s : Option Addr) (m : Nat) (w : World) (hp : pvB a b c d l.length = true) (hk : kB kn = true) (hf : fewB l 35184372088832 = false) (hH : HoldsI w s l) :
    Calls Try.prog 21 #[.agg #[.int .i64 a, .int .i64 b, .int .i64 c, .int .i64 d, .slice s l.length m], .int .i64 kn] w (GivesP4 (fun _ => zR) (fun _ => []) 2 w) := by
  have x0 := (((Blk.fresh w 30 #[.int .i64 a, .int .i64 b, .int .i64 c, .int .i64 d, .slice s l.length m]).alloc (.cells #[.int .i64 kn] 31)).alloc (.cells #[.int .i64 0, .int .i64 0, .int .i64 0, .int .i64 0, .slice none 0 0, .int .i64 0, .int .i64 0, .int .i64 0, .int .i64 0, .slice none 0 0, .int .i64 0, .int .i64 0, .int .i64 0, .int .i64 0, .slice none 0 0, .int .i64 0, .int .i64 0, .int .i64 0, .int .i64 0, .slice none 0 0] 33)).alloc (.cells #[.int .i64 0, .int .i64 0, .int .i64 0, .int .i64 0, .slice none 0 0, .int .i64 0, .int .i64 0, .int .i64 0, .int .i64 0, .slice none 0 0, .int .i64 0, .int .i64 0, .int .i64 0, .int .i64 0, .slice none 0 0, .int .i64 0, .int .i64 0, .int .i64 0, .int .i64 0, .slice none 0 0] 33)
  have x1 := ((Blk.freshAt (w.alloc (.cells #[.int .i64 a, .int .i64 b, .int .i64 c, .int .i64 d, .slice s l.length m] 30)) (w.heap.size + 1) (by simp) 31 #[.int .i64 kn]).alloc (.cells #[.int .i64 0, .int .i64 0, .int .i64 0, .int .i64 0, .slice none 0 0, .int .i64 0, .int .i64 0, .int .i64 0, .int .i64 0, .slice none 0 0, .int .i64 0, .int .i64 0, .int .i64 0, .int .i64 0, .slice none 0 0, .int .i64 0, .int .i64 0, .int .i64 0, .int .i64 0, .slice none 0 0] 33)).alloc (.cells #[.int .i64 0, .int .i64 0, .int .i64 0, .int .i64 0, .slice none 0 0, .int .i64 0, .int .i64 0, .int .i64 0, .int .i64 0, .slice none 0 0, .int .i64 0, .int .i64 0, .int .i64 0, .int .i64 0, .slice none 0 0, .int .i64 0, .int .i64 0, .int .i64 0, .int .i64 0, .slice none 0 0] 33)
  have x2 := (Blk.freshAt ((w.alloc (.cells #[.int .i64 a, .int .i64 b, .int .i64 c, .int .i64 d, .slice s l.length m] 30)).alloc (.cells #[.int .i64 kn] 31)) (w.heap.size + 2) (by simp) 33 #[.int .i64 0, .int .i64 0, .int .i64 0, .int .i64 0, .slice none 0 0, .int .i64 0, .int .i64 0, .int .i64 0, .int .i64 0, .slice none 0 0, .int .i64 0, .int .i64 0, .int .i64 0, .int .i64 0, .slice none 0 0, .int .i64 0, .int .i64 0, .int .i64 0, .int .i64 0, .slice none 0 0]).alloc (.cells #[.int .i64 0, .int .i64 0, .int .i64 0, .int .i64 0, .slice none 0 0, .int .i64 0, .int .i64 0, .int .i64 0, .int .i64 0, .slice none 0 0, .int .i64 0, .int .i64 0, .int .i64 0, .int .i64 0, .slice none 0 0, .int .i64 0, .int .i64 0, .int .i64 0, .int .i64 0, .slice none 0 0] 33)
  have x3 := Blk.freshAt (((w.alloc (.cells #[.int .i64 a, .int .i64 b, .int .i64 c, .int .i64 d, .slice s l.length m] 30)).alloc (.cells #[.int .i64 kn] 31)).alloc (.cells #[.int .i64 0, .int .i64 0, .int .i64 0, .int .i64 0, .slice none 0 0, .int .i64 0, .int .i64 0, .int .i64 0, .int .i64 0, .slice none 0 0, .int .i64 0, .int .i64 0, .int .i64 0, .int .i64 0, .slice none 0 0, .int .i64 0, .int .i64 0, .int .i64 0, .int .i64 0, .slice none 0 0] 33)) (w.heap.size + 3) (by simp) 33 #[.int .i64 0, .int .i64 0, .int .i64 0, .int .i64 0, .slice none 0 0, .int .i64 0, .int .i64 0, .int .i64 0, .int .i64 0, .slice none 0 0, .int .i64 0, .int .i64 0, .int .i64 0, .int .i64 0, .slice none 0 0, .int .i64 0, .int .i64 0, .int .i64 0, .int .i64 0, .slice none 0 0]
  have B := below_alloc (below_alloc (below_alloc (below_alloc (Below.refl _ w) (.cells #[.int .i64 a, .int .i64 b, .int .i64 c, .int .i64 d, .slice s l.length m] 30)) (.cells #[.int .i64 kn] 31)) (.cells #[.int .i64 0, .int .i64 0, .int .i64 0, .int .i64 0, .slice none 0 0, .int .i64 0, .int .i64 0, .int .i64 0, .int .i64 0, .slice none 0 0, .int .i64 0, .int .i64 0, .int .i64 0, .int .i64 0, .slice none 0 0, .int .i64 0, .int .i64 0, .int .i64 0, .int .i64 0, .slice none 0 0] 33)) (.cells #[.int .i64 0, .int .i64 0, .int .i64 0, .int .i64 0, .slice none 0 0, .int .i64 0, .int .i64 0, .int .i64 0, .int .i64 0, .slice none 0 0, .int .i64 0, .int .i64 0, .int .i64 0, .int .i64 0, .slice none 0 0, .int .i64 0, .int .i64 0, .int .i64 0, .int .i64 0, .slice none 0 0] 33)
  have lH := (((hH.alloc (.cells #[.int .i64 a, .int .i64 b, .int .i64 c, .int .i64 d, .slice s l.length m] 30)).alloc (.cells #[.int .i64 kn] 31)).alloc (.cells #[.int .i64 0, .int .i64 0, .int .i64 0, .int .i64 0, .slice none 0 0, .int .i64 0, .int .i64 0, .int .i64 0, .int .i64 0, .slice none 0 0, .int .i64 0, .int .i64 0, .int .i64 0, .int .i64 0, .slice none 0 0, .int .i64 0, .int .i64 0, .int .i64 0, .int .i64 0, .slice none 0 0] 33)).alloc (.cells #[.int .i64 0, .int .i64 0, .int .i64 0, .int .i64 0, .slice none 0 0, .int .i64 0, .int .i64 0, .int .i64 0, .int .i64 0, .slice none 0 0, .int .i64 0, .int .i64 0, .int .i64 0, .int .i64 0, .slice none 0 0, .int .i64 0, .int .i64 0, .int .i64 0, .int .i64 0, .slice none 0 0] 33)
  go_enter Try.func21, Try.ntmps21
  have y0 := x0.cell 0 _ rfl
  have y1 := x0.cell 1 _ rfl
  have y2 := x0.cell 2 _ rfl
  have y3 := x0.cell 3 _ rfl
  have y4 := x0.cell 4 _ rfl
  have yk := x1.cell 0 _ rfl
  go_wp2_with fail
  clear y0 y1 y2 y3 y4 yk
  refine (pv_c _ _ _ _ _ _ _ _).mono ?_
  rintro e wa ⟨rfl, hb⟩
  replace x0 := x0.below hb
  replace x1 := x1.below hb
  replace x2 := x2.below hb
  replace x3 := x3.below hb
  replace lH := lH.call hb
  replace B := below_call B hb
  clear hb
  have cW := within5_q a b c d 35184372088832 s m l wa hp (by decide) (by decide) lH
  rw [hf] at cW
  clear hf lH
  have y0 := x0.cell 0 _ rfl
  have y1 := x0.cell 1 _ rfl
  have y2 := x0.cell 2 _ rfl
  have y3 := x0.cell 3 _ rfl
  have y4 := x0.cell 4 _ rfl
  have yk := x1.cell 0 _ rfl
  go_wp2_with (first | (go_at_call 64; refine (known_q _ _).mono ?_; rintro e wn ⟨rfl, rfl⟩) | (go_at_call 65; (with_reducible refine cW.mono ?_); rintro e wb ⟨rfl, hb⟩; replace x2 := x2.below hb; replace x3 := x3.below hb; replace B := below_call B hb; clear hb) | (refine wpList_load_mid rfl 33 (.tmp 6) rfl (w.heap.size + 3) 0 rfl (Array.toList #[.int .i64 0, .int .i64 0, .int .i64 0, .int .i64 0, .slice none 0 0, .int .i64 0, .int .i64 0, .int .i64 0, .int .i64 0, .slice none 0 0, .int .i64 0, .int .i64 0, .int .i64 0, .int .i64 0, .slice none 0 0, .int .i64 0, .int .i64 0, .int .i64 0, .int .i64 0, .slice none 0 0]) _ x3.range Try.underlying33 rfl info20 ?_) | (refine wpList_store_row rfl 33 (.tmp 4) (.tmp 26) rfl (w.heap.size + 2) #[.int .i64 0, .int .i64 0, .int .i64 0, .int .i64 0, .slice none 0 0, .int .i64 0, .int .i64 0, .int .i64 0, .int .i64 0, .slice none 0 0, .int .i64 0, .int .i64 0, .int .i64 0, .int .i64 0, .slice none 0 0, .int .i64 0, .int .i64 0, .int .i64 0, .int .i64 0, .slice none 0 0] rfl rfl 33 _ x2 info20 rfl (by simp [Value.oneCell']) ?_))
  have g1 : Blk (wb.setRow (w.heap.size + 2) #[.int .i64 0, .int .i64 0, .int .i64 0, .int .i64 0, .slice none 0 0, .int .i64 0, .int .i64 0, .int .i64 0, .int .i64 0, .slice none 0 0, .int .i64 0, .int .i64 0, .int .i64 0, .int .i64 0, .slice none 0 0, .int .i64 0, .int .i64 0, .int .i64 0, .int .i64 0, .slice none 0 0]) (w.heap.size + 2) 33 #[.int .i64 0, .int .i64 0, .int .i64 0, .int .i64 0, .slice none 0 0, .int .i64 0, .int .i64 0, .int .i64 0, .int .i64 0, .slice none 0 0, .int .i64 0, .int .i64 0, .int .i64 0, .int .i64 0, .slice none 0 0, .int .i64 0, .int .i64 0, .int .i64 0, .int .i64 0, .slice none 0 0] := x2.row _
  have hld := run_loadVar_mid (P := Try.prog) (wb.setRow (w.heap.size + 2) #[.int .i64 0, .int .i64 0, .int .i64 0, .int .i64 0, .slice none 0 0, .int .i64 0, .int .i64 0, .int .i64 0, .int .i64 0, .slice none 0 0, .int .i64 0, .int .i64 0, .int .i64 0, .int .i64 0, .slice none 0 0, .int .i64 0, .int .i64 0, .int .i64 0, .int .i64 0, .slice none 0 0]) (w.heap.size + 2) 0 33 (Array.toList #[.int .i64 0, .int .i64 0, .int .i64 0, .int .i64 0, .slice none 0 0, .int .i64 0, .int .i64 0, .int .i64 0, .int .i64 0, .slice none 0 0, .int .i64 0, .int .i64 0, .int .i64 0, .int .i64 0, .slice none 0 0, .int .i64 0, .int .i64 0, .int .i64 0, .int .i64 0, .slice none 0 0]) _ g1.range Try.underlying33 rfl info20
  refine bodyPost_ret (v := .tuple #[.agg #[.int .i64 0, .int .i64 0, .int .i64 0, .int .i64 0, .slice none 0 0, .int .i64 0, .int .i64 0, .int .i64 0, .int .i64 0, .slice none 0 0, .int .i64 0, .int .i64 0, .int .i64 0, .int .i64 0, .slice none 0 0, .int .i64 0, .int .i64 0, .int .i64 0, .int .i64 0, .slice none 0 0], .int .i64 2]) ?_ rfl ⟨fun _ => none, fun _ => 0, rfl, fun o _ => ⟨.inl rfl, Nat.le_refl _, fun _ => rfl, fresh_none _⟩, below_row B (by omega) _⟩
  rw [results_cell_tmp rfl]
  simp [asAddr, Result.andThen, hld]

/-! The sizes of subbands -/
theorem hf_cnt {a : Int} {n : Nat} (h0 : 0 ≤ a) (h1 : a ≤ 4096) (hn : n ≤ 4096) : hfI (a + (n : Int)) false - hfI a false = (Ex.cntE a n : Int) ∧ hfI (a + (n : Int)) true - hfI a true = (Ex.cntO a n : Int) := by
  obtain ⟨e1, e2⟩ := ce_cnt h0 h1 hn
  rw [coI, if_pos ⟨h0, h1, by omega, by omega⟩] at e2
  rw [ceI, if_pos ⟨h0, h1, by omega, by omega⟩] at e1 e2
  simp only [hfI]
  refine ⟨?_, ?_⟩
  · simp; omega
  · simp; omega
def wdO (a : Int) (n o : Nat) : Nat := if orH o then Ex.cntO a n else Ex.cntE a n
def htO (b : Int) (h o : Nat) : Nat := if orV o then Ex.cntO b h else Ex.cntE b h
theorem bnd_size {a b c d : Int} {n h : Nat} (hv : Pl.validB a b c d = true) (hn : c - a = (n : Int)) (hh : d - b = (h : Int)) (o : Nat) :
    (bnds ⟨a, b, c, d⟩ o).x1 - (bnds ⟨a, b, c, d⟩ o).x0 = (wdO a n o : Int) ∧ (bnds ⟨a, b, c, d⟩ o).y1 - (bnds ⟨a, b, c, d⟩ o).y0 = (htO b h o : Int) ∧ Pl.validB (bnds ⟨a, b, c, d⟩ o).x0 (bnds ⟨a, b, c, d⟩ o).y0 (bnds ⟨a, b, c, d⟩ o).x1 (bnds ⟨a, b, c, d⟩ o).y1 = true := by
  obtain ⟨v1, v2, v3, v4, v5, v6⟩ := Pl.valid_iff.1 hv
  have e : bnds ⟨a, b, c, d⟩ o = bndR ⟨a, b, c, d⟩ o := if_pos hv
  rw [e]
  obtain ⟨x1, x2⟩ := hf_cnt (a := a) (n := n) v1 (by omega) (by omega)
  obtain ⟨y1, y2⟩ := hf_cnt (a := b) (n := h) v4 (by omega) (by omega)
  rw [show a + (n : Int) = c by omega] at x1 x2
  rw [show b + (h : Int) = d by omega] at y1 y2
  refine ⟨?_, ?_, Pl.valid_iff.2 ?_⟩
  · simp only [bndR, wdO]
    cases orH o
    · simpa using x1
    · simpa using x2
  · simp only [bndR, htO]
    cases orV o
    · simpa using y1
    · simpa using y2
  · simp only [bndR, hfI]
    cases orH o <;> cases orV o <;> simp <;> omega
theorem wd_le (a : Int) (n o : Nat) : wdO a n o ≤ n := by
  have := Ex.cnt_le (s := a) (n := n)
  unfold wdO
  split <;> omega
theorem bnd_area {a b c d : Int} {n h : Nat} (hv : Pl.validB a b c d = true) (hn : c - a = (n : Int)) (hh : d - b = (h : Int)) (o : Nat) :
    Pl.areaI (bnds ⟨a, b, c, d⟩ o).x0 (bnds ⟨a, b, c, d⟩ o).y0 (bnds ⟨a, b, c, d⟩ o).x1 (bnds ⟨a, b, c, d⟩ o).y1 = ((htO b h o * wdO a n o : Nat) : Int) := by
  obtain ⟨e1, e2, e3⟩ := bnd_size hv hn hh o
  rw [Pl.areaI, if_pos e3, e1, e2, Int.mul_comm, ← Int.natCast_mul]
theorem bnd_area_le {a b c d : Int} {n h : Nat} {l : List Int} (hp : pvB a b c d l.length = true) (hn : c - a = (n : Int)) (hh : d - b = (h : Int)) (o : Nat) : htO b h o * wdO a n o ≤ 1048576 := by
  obtain ⟨hv, ha, he⟩ := pv_iff.1 hp
  have h1 : Pl.areaI a b c d = ((h * n : Nat) : Int) := by rw [Pl.areaI, if_pos hv, hn, hh, Int.mul_comm, ← Int.natCast_mul]
  have h2 : htO b h o * wdO a n o ≤ h * n := Nat.mul_le_mul (wd_le b h (if orV o then 1 else 0) |> fun q => by
    have := Ex.cnt_le (s := b) (n := h)
    unfold htO
    split <;> omega) (wd_le a n o)
  omega
end Go.Proofs.Ytnfnidgabgdphaa
namespace Go.Proofs.Ytnfnidgabgdphaa
open Go.RowKit

theorem half_pv {a b c d : Int} {n h : Nat} {l : List Int} (hp : pvB a b c d l.length = true) (hn : c - a = (n : Int)) (hh : d - b = (h : Int)) (o : Nat) {N : Nat} (hN : N = h * wdO a n o) : pvB (bnds ⟨a, b, c, d⟩ o).x0 b (bnds ⟨a, b, c, d⟩ o).x1 d N = true := by
  obtain ⟨hv, ha, he⟩ := pv_iff.1 hp
  obtain ⟨v1, v2, v3, v4, v5, v6⟩ := Pl.valid_iff.1 hv
  obtain ⟨e1, _, e3⟩ := bnd_size hv hn hh o
  obtain ⟨z1, z2, z3, _, _, _⟩ := Pl.valid_iff.1 e3
  have hv2 : Pl.validB (bnds ⟨a, b, c, d⟩ o).x0 b (bnds ⟨a, b, c, d⟩ o).x1 d = true := Pl.valid_iff.2 ⟨z1, z2, z3, v4, v5, v6⟩
  have h1 : Pl.areaI a b c d = ((h * n : Nat) : Int) := by rw [Pl.areaI, if_pos hv, hn, hh, Int.mul_comm, ← Int.natCast_mul]
  have h2 : Pl.areaI (bnds ⟨a, b, c, d⟩ o).x0 b (bnds ⟨a, b, c, d⟩ o).x1 d = ((h * wdO a n o : Nat) : Int) := by rw [Pl.areaI, if_pos hv2, e1, hh, Int.mul_comm, ← Int.natCast_mul]
  have h3 : h * wdO a n o ≤ h * n := Nat.mul_le_mul (Nat.le_refl _) (wd_le a n o)
  refine pv_iff.2 ⟨hv2, ?_, ?_⟩
  · rw [h2]; omega
  · rw [h2, hN]
theorem band_wide {a b kn : Int} {n h : Nat} {P : List (List Int)} (_hW : Ex.Wide n P) (hP : P.length = h) (o : Nat) (ho : o < 4) : Ex.Wide (wdO a n o) (bandQ a b kn n P o) ∧ (bandQ a b kn n P o).length = htO b h o := by
  have l1 : (Ex.lowR a kn P).length = h := by rw [Ex.lowR, List.length_map, hP]
  have l2 : (Ex.highR a kn P).length = h := by rw [Ex.highR, List.length_map, hP]
  rcases lt4 ho with rfl | rfl | rfl | rfl
  · exact ⟨Ex.lowC_wide _ _ _ _, by show (Ex.lowC b kn _ _).length = Ex.cntE b h; rw [Ex.lowC_len, l1]⟩
  · exact ⟨Ex.lowC_wide _ _ _ _, by show (Ex.lowC b kn _ _).length = Ex.cntE b h; rw [Ex.lowC_len, l2]⟩
  · exact ⟨Ex.highC_wide _ _ _ _, by show (Ex.highC b kn _ _).length = Ex.cntO b h; rw [Ex.highC_len, l1]⟩
  · exact ⟨Ex.highC_wide _ _ _ _, by show (Ex.highC b kn _ _).length = Ex.cntO b h; rw [Ex.highC_len, l2]⟩
theorem band_len {a b kn : Int} {n h : Nat} {P : List (List Int)} (hW : Ex.Wide n P) (hP : P.length = h) (o : Nat) (ho : o < 4) : (bandQ a b kn n P o).flatten.length = htO b h o * wdO a n o := by
  obtain ⟨h1, h2⟩ := band_wide (a := a) (b := b) (kn := kn) hW hP o ho
  rw [Ex.flat_len h1, h2]
theorem idx4 (R : Nat → Pl.R) (k : Nat) (hk : k < 4) (W : World) : (Instr.index 24 (.agg (arr4 R)) (.int .i64 (k : Int))).run Try.prog W = .ok (.agg #[.int .i64 (R k).x0, .int .i64 (R k).y0, .int .i64 (R k).x1, .int .i64 (R k).y1]) W := by
  rcases lt4 hk with rfl | rfl | rfl | rfl <;> kernel_rfl
/-- New, at the rectangle of a subband. -/
theorem new_band {a b c d : Int} {n h : Nat} {l : List Int} (hp : pvB a b c d l.length = true) (hn : c - a = (n : Int)) (hh : d - b = (h : Int)) (o : Nat) (w : World) :
    Calls Try.prog 66 #[.agg #[.int .i64 (bnds ⟨a, b, c, d⟩ o).x0, .int .i64 (bnds ⟨a, b, c, d⟩ o).y0, .int .i64 (bnds ⟨a, b, c, d⟩ o).x1, .int .i64 (bnds ⟨a, b, c, d⟩ o).y1]] w fun e w' => ∃ g,
      e = .returned (.tuple #[.agg #[.int .i64 (bnds ⟨a, b, c, d⟩ o).x0, .int .i64 (bnds ⟨a, b, c, d⟩ o).y0, .int .i64 (bnds ⟨a, b, c, d⟩ o).x1, .int .i64 (bnds ⟨a, b, c, d⟩ o).y1, .slice (some ⟨g, 0, none⟩) (htO b h o * wdO a n o) (htO b h o * wdO a n o)], .int .i64 0]) ∧
      w.heap.size ≤ g ∧ RowAt w' g (List.replicate (htO b h o * wdO a n o) 0) ∧ Below w.heap.size w w' := by
  have hv := (pv_iff.1 hp).1
  have e := bnd_area hv hn hh o
  have hA := bnd_area_le hp hn hh o
  refine (new_own _ _ _ _ w (bnd_size hv hn hh o).2.2 (by rw [e]; omega)).mono ?_
  rintro e' w' ⟨g, rfl, h1, h2, h3⟩
  rw [e, Int.toNat_natCast] at h2
  exact ⟨g, by rw [e, Int.toNat_natCast, List.length_replicate], h1, h2, h3⟩
/-- The four planes while they are made. -/
structure Nw (w W3 : World) (PC KC Z : Array Value) (R : Nat → Pl.R) (D : Nat → Nat) (k : Nat) (V : Nat → Value) (G : Nat → Nat) (W : World) : Prop where
  below : Below w.heap.size w W
  x0 : Blk W w.heap.size 30 PC
  x1 : Blk W (w.heap.size + 1) 31 KC
  x2 : Blk W (w.heap.size + 2) 33 Z
  bk : Blk W (w.heap.size + 3) 33 (arrP (upK R k) V)
  val : ∀ o, o < k → V o = .slice (some ⟨G o, 0, none⟩) (D o) (D o)
  rest : ∀ o, k ≤ o → V o = .slice none 0 0
  rows : ∀ o, o < k → W3.heap.size ≤ G o ∧ RowAt W (G o) (List.replicate (D o) 0)
  apart : ∀ o o', o < k → o' < k → o ≠ o' → G o ≠ G o'
  big : w.heap.size + 3 < W3.heap.size ∧ W3.heap.size ≤ W.heap.size
theorem Nw.step {w W3 W W1 : World} {PC KC Z : Array Value} {R : Nat → Pl.R} {D : Nat → Nat} {k : Nat} {V : Nat → Value} {G : Nat → Nat} (h : Nw w W3 PC KC Z R D k V G W) (hb : Below W.heap.size W W1) : Nw w W3 PC KC Z R D k V G W1 :=
  ⟨below_call h.below hb, h.x0.below hb, h.x1.below hb, h.x2.below hb, h.bk.below hb, h.val, h.rest, fun o ho => ⟨(h.rows o ho).1, (h.rows o ho).2.below hb⟩, h.apart, h.big.1, Nat.le_trans h.big.2 hb.size⟩
theorem but5k {W : World} {b : Nat} (i0 i1 i2 i3 i4 : Nat) (v0 v1 v2 v3 v4 : Value) : But b W (((((W.setCell ⟨b, i0, none⟩ v0).setCell ⟨b, i1, none⟩ v1).setCell ⟨b, i2, none⟩ v2).setCell ⟨b, i3, none⟩ v3).setCell ⟨b, i4, none⟩ v4) :=
  but_cell (but_cell (but_cell (but_cell (but_cell (But.of (Below.refl _ _)) _ _) _ _) _ _) _ _) _ _
theorem Nw.next {w W3 W : World} {PC KC Z : Array Value} {R : Nat → Pl.R} {D : Nat → Nat} {k : Nat} {V : Nat → Value} {G : Nat → Nat} (h : Nw w W3 PC KC Z R D k V G W) (hk : k < 4) (g : Nat) (hg : W3.heap.size ≤ g) (hrow : RowAt W g (List.replicate (D k) 0)) (hne : ∀ o, o < k → G o ≠ g) :
    Nw w W3 PC KC Z R D (k + 1) (fun i => if i = k then .slice (some ⟨g, 0, none⟩) (D k) (D k) else V i) (fun i => if i = k then g else G i)
      (((((W.setCell ⟨w.heap.size + 3, 5 * k, none⟩ (.int .i64 (R k).x0)).setCell ⟨w.heap.size + 3, 5 * k + 1, none⟩ (.int .i64 (R k).y0)).setCell ⟨w.heap.size + 3, 5 * k + 2, none⟩ (.int .i64 (R k).x1)).setCell ⟨w.heap.size + 3, 5 * k + 3, none⟩ (.int .i64 (R k).y1)).setCell ⟨w.heap.size + 3, 5 * k + 4, none⟩ (.slice (some ⟨g, 0, none⟩) (D k) (D k))) := by
  have hb := but5k (W := W) (b := w.heap.size + 3) (5 * k) (5 * k + 1) (5 * k + 2) (5 * k + 3) (5 * k + 4) (.int .i64 (R k).x0) (.int .i64 (R k).y0) (.int .i64 (R k).x1) (.int .i64 (R k).y1) (.slice (some ⟨g, 0, none⟩) (D k) (D k))
  have b1 := h.big
  refine ⟨But.below h.below hb (by omega), h.x0.but hb (by omega), h.x1.but hb (by omega), h.x2.but hb (by omega), blkP_data (blkP_rect R V k hk h.bk) k hk _, fun o ho => ?_, fun o ho => ?_, fun o ho => ?_, fun o o' ho ho' hn => ?_, h.big.1, Nat.le_trans h.big.2 hb.size⟩
  · by_cases e : o = k
    · subst e; simp
    · rw [if_neg e, if_neg e]; exact h.val o (by omega)
  · rw [if_neg (by omega)]; exact h.rest o (by omega)
  · by_cases e : o = k
    · subst e; rw [if_pos rfl]; exact ⟨hg, hrow.but hb (by omega)⟩
    · rw [if_neg e]
      have := h.rows o (by omega)
      exact ⟨this.1, this.2.but hb (by omega)⟩
  · show (if o = k then g else G o) ≠ if o' = k then g else G o'
    by_cases e : o = k
    · rw [if_pos e, if_neg (by omega)]; exact (hne o' (by omega)).symm
    · rw [if_neg e]
      by_cases e' : o' = k
      · rw [if_pos e']; exact hne o (by omega)
      · rw [if_neg e']; exact h.apart o o' (by omega) (by omega) hn
set_option maxHeartbeats 8000000 in
theorem splitc_yes (a b c d kn : Int) (l : List Int) (s : Option Addr) (m n h : Nat) (w : World) (hp : pvB a b c d l.length = true) (hk : kB kn = true) (hf : fewB l 35184372088832 = true) (hm : l.length ≤ m) (hH : HoldsI w s l) (hn : c - a = (n : Int)) (hh : d - b = (h : Int)) :
    Calls Try.prog 21 #[.agg #[.int .i64 a, .int .i64 b, .int .i64 c, .int .i64 d, .slice s l.length m], .int .i64 kn] w (GivesP4 (bnds ⟨a, b, c, d⟩) (fun o => (bandQ a b kn n (Ex.cutR n l h) o).flatten) 0 w) := by
  have x0 := (((Blk.fresh w 30 #[.int .i64 a, .int .i64 b, .int .i64 c, .int .i64 d, .slice s l.length m]).alloc (.cells #[.int .i64 kn] 31)).alloc (.cells #[.int .i64 0, .int .i64 0, .int .i64 0, .int .i64 0, .slice none 0 0, .int .i64 0, .int .i64 0, .int .i64 0, .int .i64 0, .slice none 0 0, .int .i64 0, .int .i64 0, .int .i64 0, .int .i64 0, .slice none 0 0, .int .i64 0, .int .i64 0, .int .i64 0, .int .i64 0, .slice none 0 0] 33)).alloc (.cells #[.int .i64 0, .int .i64 0, .int .i64 0, .int .i64 0, .slice none 0 0, .int .i64 0, .int .i64 0, .int .i64 0, .int .i64 0, .slice none 0 0, .int .i64 0, .int .i64 0, .int .i64 0, .int .i64 0, .slice none 0 0, .int .i64 0, .int .i64 0, .int .i64 0, .int .i64 0, .slice none 0 0] 33)
  have x1 := ((Blk.freshAt (w.alloc (.cells #[.int .i64 a, .int .i64 b, .int .i64 c, .int .i64 d, .slice s l.length m] 30)) (w.heap.size + 1) (by simp) 31 #[.int .i64 kn]).alloc (.cells #[.int .i64 0, .int .i64 0, .int .i64 0, .int .i64 0, .slice none 0 0, .int .i64 0, .int .i64 0, .int .i64 0, .int .i64 0, .slice none 0 0, .int .i64 0, .int .i64 0, .int .i64 0, .int .i64 0, .slice none 0 0, .int .i64 0, .int .i64 0, .int .i64 0, .int .i64 0, .slice none 0 0] 33)).alloc (.cells #[.int .i64 0, .int .i64 0, .int .i64 0, .int .i64 0, .slice none 0 0, .int .i64 0, .int .i64 0, .int .i64 0, .int .i64 0, .slice none 0 0, .int .i64 0, .int .i64 0, .int .i64 0, .int .i64 0, .slice none 0 0, .int .i64 0, .int .i64 0, .int .i64 0, .int .i64 0, .slice none 0 0] 33)
  have x2 := (Blk.freshAt ((w.alloc (.cells #[.int .i64 a, .int .i64 b, .int .i64 c, .int .i64 d, .slice s l.length m] 30)).alloc (.cells #[.int .i64 kn] 31)) (w.heap.size + 2) (by simp) 33 #[.int .i64 0, .int .i64 0, .int .i64 0, .int .i64 0, .slice none 0 0, .int .i64 0, .int .i64 0, .int .i64 0, .int .i64 0, .slice none 0 0, .int .i64 0, .int .i64 0, .int .i64 0, .int .i64 0, .slice none 0 0, .int .i64 0, .int .i64 0, .int .i64 0, .int .i64 0, .slice none 0 0]).alloc (.cells #[.int .i64 0, .int .i64 0, .int .i64 0, .int .i64 0, .slice none 0 0, .int .i64 0, .int .i64 0, .int .i64 0, .int .i64 0, .slice none 0 0, .int .i64 0, .int .i64 0, .int .i64 0, .int .i64 0, .slice none 0 0, .int .i64 0, .int .i64 0, .int .i64 0, .int .i64 0, .slice none 0 0] 33)
  have x3 := Blk.freshAt (((w.alloc (.cells #[.int .i64 a, .int .i64 b, .int .i64 c, .int .i64 d, .slice s l.length m] 30)).alloc (.cells #[.int .i64 kn] 31)).alloc (.cells #[.int .i64 0, .int .i64 0, .int .i64 0, .int .i64 0, .slice none 0 0, .int .i64 0, .int .i64 0, .int .i64 0, .int .i64 0, .slice none 0 0, .int .i64 0, .int .i64 0, .int .i64 0, .int .i64 0, .slice none 0 0, .int .i64 0, .int .i64 0, .int .i64 0, .int .i64 0, .slice none 0 0] 33)) (w.heap.size + 3) (by simp) 33 #[.int .i64 0, .int .i64 0, .int .i64 0, .int .i64 0, .slice none 0 0, .int .i64 0, .int .i64 0, .int .i64 0, .int .i64 0, .slice none 0 0, .int .i64 0, .int .i64 0, .int .i64 0, .int .i64 0, .slice none 0 0, .int .i64 0, .int .i64 0, .int .i64 0, .int .i64 0, .slice none 0 0]
  have B := below_alloc (below_alloc (below_alloc (below_alloc (Below.refl _ w) (.cells #[.int .i64 a, .int .i64 b, .int .i64 c, .int .i64 d, .slice s l.length m] 30)) (.cells #[.int .i64 kn] 31)) (.cells #[.int .i64 0, .int .i64 0, .int .i64 0, .int .i64 0, .slice none 0 0, .int .i64 0, .int .i64 0, .int .i64 0, .int .i64 0, .slice none 0 0, .int .i64 0, .int .i64 0, .int .i64 0, .int .i64 0, .slice none 0 0, .int .i64 0, .int .i64 0, .int .i64 0, .int .i64 0, .slice none 0 0] 33)) (.cells #[.int .i64 0, .int .i64 0, .int .i64 0, .int .i64 0, .slice none 0 0, .int .i64 0, .int .i64 0, .int .i64 0, .int .i64 0, .slice none 0 0, .int .i64 0, .int .i64 0, .int .i64 0, .int .i64 0, .slice none 0 0, .int .i64 0, .int .i64 0, .int .i64 0, .int .i64 0, .slice none 0 0] 33)
  have lH := (((hH.alloc (.cells #[.int .i64 a, .int .i64 b, .int .i64 c, .int .i64 d, .slice s l.length m] 30)).alloc (.cells #[.int .i64 kn] 31)).alloc (.cells #[.int .i64 0, .int .i64 0, .int .i64 0, .int .i64 0, .slice none 0 0, .int .i64 0, .int .i64 0, .int .i64 0, .int .i64 0, .slice none 0 0, .int .i64 0, .int .i64 0, .int .i64 0, .int .i64 0, .slice none 0 0, .int .i64 0, .int .i64 0, .int .i64 0, .int .i64 0, .slice none 0 0] 33)).alloc (.cells #[.int .i64 0, .int .i64 0, .int .i64 0, .int .i64 0, .slice none 0 0, .int .i64 0, .int .i64 0, .int .i64 0, .int .i64 0, .slice none 0 0, .int .i64 0, .int .i64 0, .int .i64 0, .int .i64 0, .slice none 0 0, .int .i64 0, .int .i64 0, .int .i64 0, .int .i64 0, .slice none 0 0] 33)
  obtain ⟨A, hA⟩ : ∃ A, A = arr4 (bnds ⟨a, b, c, d⟩) := ⟨_, rfl⟩
  have cB := fun W => bands_q a b c d W
  rw [← hA] at cB
  have HA : Hid _ := hA
  clear hA
  have HF : Hid _ := hf
  go_enter Try.func21, Try.ntmps21
  have y0 := x0.cell 0 _ rfl
  have y1 := x0.cell 1 _ rfl
  have y2 := x0.cell 2 _ rfl
  have y3 := x0.cell 3 _ rfl
  have y4 := x0.cell 4 _ rfl
  have yk := x1.cell 0 _ rfl
  go_wp2_with fail
  clear y0 y1 y2 y3 y4 yk
  refine (pv_c _ _ _ _ _ _ _ _).mono ?_
  rintro e wa ⟨rfl, hb⟩
  replace x0 := x0.below hb
  replace x1 := x1.below hb
  replace x2 := x2.below hb
  replace x3 := x3.below hb
  replace lH := lH.call hb
  replace B := below_call B hb
  clear hb
  have cW := within5_q a b c d 35184372088832 s m l wa hp (by decide) (by decide) lH
  rw [hf] at cW
  clear hf
  have y0 := x0.cell 0 _ rfl
  have y1 := x0.cell 1 _ rfl
  have y2 := x0.cell 2 _ rfl
  have y3 := x0.cell 3 _ rfl
  have y4 := x0.cell 4 _ rfl
  have yk := x1.cell 0 _ rfl
  go_upto_region 8 with (first | (go_at_call 64; refine (known_q _ _).mono ?_; rintro e wn ⟨rfl, rfl⟩) | (go_at_call 65; (with_reducible refine cW.mono ?_); rintro e wb ⟨rfl, hb⟩; replace x0 := x0.below hb; replace x1 := x1.below hb; replace x2 := x2.below hb; replace x3 := x3.below hb; replace lH := lH.call hb; replace B := below_call B hb; clear hb))
  clear y0 y1 y2 y3 y4 yk
  have y0 := x0.cell 0 _ rfl
  have y1 := x0.cell 1 _ rfl
  have y2 := x0.cell 2 _ rfl
  have y3 := x0.cell 3 _ rfl
  have y4 := x0.cell 4 _ rfl
  have yk := x1.cell 0 _ rfl
  go_wp2_with fail
  clear y0 y1 y2 y3 y4 yk
  refine (cB _).mono ?_
  rintro e w3 ⟨rfl, hb⟩
  replace x0 := x0.below hb
  replace x1 := x1.below hb
  replace x2 := x2.below hb
  replace x3 := x3.below hb
  replace lH := lH.call hb
  replace B := below_call B hb
  clear hb
  clear cB cW
  have hX0 : Nw w w3 #[.int .i64 a, .int .i64 b, .int .i64 c, .int .i64 d, .slice s l.length m] #[.int .i64 kn] #[.int .i64 0, .int .i64 0, .int .i64 0, .int .i64 0, .slice none 0 0, .int .i64 0, .int .i64 0, .int .i64 0, .int .i64 0, .slice none 0 0, .int .i64 0, .int .i64 0, .int .i64 0, .int .i64 0, .slice none 0 0, .int .i64 0, .int .i64 0, .int .i64 0, .int .i64 0, .slice none 0 0] (bnds ⟨a, b, c, d⟩) (fun o => htO b h o * wdO a n o) 0 (fun _ => .slice none 0 0) (fun _ => 0) w3 :=
    ⟨B, x0, x1, x2, x3, fun o ho => absurd ho (Nat.not_lt_zero _), fun _ _ => rfl, fun o ho => absurd ho (Nat.not_lt_zero _), fun o _ ho => absurd ho (Nat.not_lt_zero _), x3.lt, Nat.le_refl _⟩
  clear x0 x1 x2 x3 B
  go_upto_region 9 with fail
  go_loopw [30] (fun i wr => ∃ (k : Nat) (V : Nat → Value) (G : Nat → Nat), k ≤ 4 ∧ i = .int .i64 k ∧ Nw w w3 #[.int .i64 a, .int .i64 b, .int .i64 c, .int .i64 d, .slice s l.length m] #[.int .i64 kn] #[.int .i64 0, .int .i64 0, .int .i64 0, .int .i64 0, .slice none 0 0, .int .i64 0, .int .i64 0, .int .i64 0, .int .i64 0, .slice none 0 0, .int .i64 0, .int .i64 0, .int .i64 0, .int .i64 0, .slice none 0 0, .int .i64 0, .int .i64 0, .int .i64 0, .int .i64 0, .slice none 0 0] (bnds ⟨a, b, c, d⟩) (fun o => htO b h o * wdO a n o) k V G wr) (fun i _ => 4 - (intOf i).toNat)
  case atStart => exact ⟨0, _, _, Nat.zero_le _, rfl, hX0⟩
  case round =>
    obtain ⟨k, V, G, hk4, rfl, hX⟩ := hrel
    clear hX0
    by_cases hlt : k < 4
    · have hk5 := lt4 hlt
      clear hk4 hlt
      rcases hk5 with rfl | rfl | rfl | rfl
      · have hI : ∀ W, (Instr.index 24 (.agg A) (.int .i64 0)).run Try.prog W = .ok (.agg #[.int .i64 ((bnds ⟨a, b, c, d⟩) 0).x0, .int .i64 ((bnds ⟨a, b, c, d⟩) 0).y0, .int .i64 ((bnds ⟨a, b, c, d⟩) 0).x1, .int .i64 ((bnds ⟨a, b, c, d⟩) 0).y1]) W := fun W => by rw [HA.out]; exact idx4 (bnds ⟨a, b, c, d⟩) 0 (by decide) W
        have hXa := hX.step ((Below.refl _ _).alloc (Nat.le_refl _) (.cells #[.int .i64 ((bnds ⟨a, b, c, d⟩) 0).x0, .int .i64 ((bnds ⟨a, b, c, d⟩) 0).y0, .int .i64 ((bnds ⟨a, b, c, d⟩) 0).x1, .int .i64 ((bnds ⟨a, b, c, d⟩) 0).y1] 23))
        go_upto_region 11 with fail
        obtain ⟨W4, hW4⟩ : ∃ W4, W4 = wr.alloc (.cells #[.int .i64 ((bnds ⟨a, b, c, d⟩) 0).x0, .int .i64 ((bnds ⟨a, b, c, d⟩) 0).y0, .int .i64 ((bnds ⟨a, b, c, d⟩) 0).x1, .int .i64 ((bnds ⟨a, b, c, d⟩) 0).y1] 23) := ⟨_, rfl⟩
        have x8 : Blk W4 wr.heap.size 23 #[.int .i64 ((bnds ⟨a, b, c, d⟩) 0).x0, .int .i64 ((bnds ⟨a, b, c, d⟩) 0).y0, .int .i64 ((bnds ⟨a, b, c, d⟩) 0).x1, .int .i64 ((bnds ⟨a, b, c, d⟩) 0).y1] := hW4 ▸ Blk.fresh wr 23 #[.int .i64 ((bnds ⟨a, b, c, d⟩) 0).x0, .int .i64 ((bnds ⟨a, b, c, d⟩) 0).y0, .int .i64 ((bnds ⟨a, b, c, d⟩) 0).x1, .int .i64 ((bnds ⟨a, b, c, d⟩) 0).y1]
        rw [← hW4] at hXa
        rw [← hW4]
        clear hW4 hX
        have z0 := x8.cell 0 _ rfl
        have z1 := x8.cell 1 _ rfl
        have z2 := x8.cell 2 _ rfl
        have z3 := x8.cell 3 _ rfl
        go_wp2_with fail
        refine (new_band hp hn hh 0 _).mono ?_
        rintro e w5 ⟨g, rfl, hg, row, hb⟩
        have hX1 := hXa.step hb
        have hng : ∀ o, o < 0 → G o ≠ g := fun o ho => by
          have := (hXa.rows o ho).2.lt
          omega
        clear z0 z1 z2 z3 x8 hb
        have q0 := hX1.bk.cell 0 _ rfl
        have f0 := hX1.bk.free 0
        have q1 := hX1.bk.cell 1 _ rfl
        have f1 := hX1.bk.free 1
        have q2 := hX1.bk.cell 2 _ rfl
        have f2 := hX1.bk.free 2
        have q3 := hX1.bk.cell 3 _ rfl
        have f3 := hX1.bk.free 3
        have q4 := hX1.bk.cell 4 _ rfl
        have f4 := hX1.bk.free 4
        have hX2 := hX1.next (by decide) g (by have := hXa.big; omega) row hng
        have HX : Hid _ := hX2
        clear hXa hX1 hX2 row hng hg
        go_wp2
        go_roundw
        case rel => exact ⟨1, _, _, by decide, by go_num, HX.out⟩
        case measure => simp [intOf]
      · have hI : ∀ W, (Instr.index 24 (.agg A) (.int .i64 1)).run Try.prog W = .ok (.agg #[.int .i64 ((bnds ⟨a, b, c, d⟩) 1).x0, .int .i64 ((bnds ⟨a, b, c, d⟩) 1).y0, .int .i64 ((bnds ⟨a, b, c, d⟩) 1).x1, .int .i64 ((bnds ⟨a, b, c, d⟩) 1).y1]) W := fun W => by rw [HA.out]; exact idx4 (bnds ⟨a, b, c, d⟩) 1 (by decide) W
        have hXa := hX.step ((Below.refl _ _).alloc (Nat.le_refl _) (.cells #[.int .i64 ((bnds ⟨a, b, c, d⟩) 1).x0, .int .i64 ((bnds ⟨a, b, c, d⟩) 1).y0, .int .i64 ((bnds ⟨a, b, c, d⟩) 1).x1, .int .i64 ((bnds ⟨a, b, c, d⟩) 1).y1] 23))
        go_upto_region 11 with fail
        obtain ⟨W4, hW4⟩ : ∃ W4, W4 = wr.alloc (.cells #[.int .i64 ((bnds ⟨a, b, c, d⟩) 1).x0, .int .i64 ((bnds ⟨a, b, c, d⟩) 1).y0, .int .i64 ((bnds ⟨a, b, c, d⟩) 1).x1, .int .i64 ((bnds ⟨a, b, c, d⟩) 1).y1] 23) := ⟨_, rfl⟩
        have x8 : Blk W4 wr.heap.size 23 #[.int .i64 ((bnds ⟨a, b, c, d⟩) 1).x0, .int .i64 ((bnds ⟨a, b, c, d⟩) 1).y0, .int .i64 ((bnds ⟨a, b, c, d⟩) 1).x1, .int .i64 ((bnds ⟨a, b, c, d⟩) 1).y1] := hW4 ▸ Blk.fresh wr 23 #[.int .i64 ((bnds ⟨a, b, c, d⟩) 1).x0, .int .i64 ((bnds ⟨a, b, c, d⟩) 1).y0, .int .i64 ((bnds ⟨a, b, c, d⟩) 1).x1, .int .i64 ((bnds ⟨a, b, c, d⟩) 1).y1]
        rw [← hW4] at hXa
        rw [← hW4]
        clear hW4 hX
        have z0 := x8.cell 0 _ rfl
        have z1 := x8.cell 1 _ rfl
        have z2 := x8.cell 2 _ rfl
        have z3 := x8.cell 3 _ rfl
        go_wp2_with fail
        refine (new_band hp hn hh 1 _).mono ?_
        rintro e w5 ⟨g, rfl, hg, row, hb⟩
        have hX1 := hXa.step hb
        have hng : ∀ o, o < 1 → G o ≠ g := fun o ho => by
          have := (hXa.rows o ho).2.lt
          omega
        clear z0 z1 z2 z3 x8 hb
        have q0 := hX1.bk.cell 5 _ rfl
        have f0 := hX1.bk.free 5
        have q1 := hX1.bk.cell 6 _ rfl
        have f1 := hX1.bk.free 6
        have q2 := hX1.bk.cell 7 _ rfl
        have f2 := hX1.bk.free 7
        have q3 := hX1.bk.cell 8 _ rfl
        have f3 := hX1.bk.free 8
        have q4 := hX1.bk.cell 9 _ rfl
        have f4 := hX1.bk.free 9
        have hX2 := hX1.next (by decide) g (by have := hXa.big; omega) row hng
        have HX : Hid _ := hX2
        clear hXa hX1 hX2 row hng hg
        go_wp2
        go_roundw
        case rel => exact ⟨2, _, _, by decide, by go_num, HX.out⟩
        case measure => simp [intOf]
      · have hI : ∀ W, (Instr.index 24 (.agg A) (.int .i64 2)).run Try.prog W = .ok (.agg #[.int .i64 ((bnds ⟨a, b, c, d⟩) 2).x0, .int .i64 ((bnds ⟨a, b, c, d⟩) 2).y0, .int .i64 ((bnds ⟨a, b, c, d⟩) 2).x1, .int .i64 ((bnds ⟨a, b, c, d⟩) 2).y1]) W := fun W => by rw [HA.out]; exact idx4 (bnds ⟨a, b, c, d⟩) 2 (by decide) W
        have hXa := hX.step ((Below.refl _ _).alloc (Nat.le_refl _) (.cells #[.int .i64 ((bnds ⟨a, b, c, d⟩) 2).x0, .int .i64 ((bnds ⟨a, b, c, d⟩) 2).y0, .int .i64 ((bnds ⟨a, b, c, d⟩) 2).x1, .int .i64 ((bnds ⟨a, b, c, d⟩) 2).y1] 23))
        go_upto_region 11 with fail
        obtain ⟨W4, hW4⟩ : ∃ W4, W4 = wr.alloc (.cells #[.int .i64 ((bnds ⟨a, b, c, d⟩) 2).x0, .int .i64 ((bnds ⟨a, b, c, d⟩) 2).y0, .int .i64 ((bnds ⟨a, b, c, d⟩) 2).x1, .int .i64 ((bnds ⟨a, b, c, d⟩) 2).y1] 23) := ⟨_, rfl⟩
        have x8 : Blk W4 wr.heap.size 23 #[.int .i64 ((bnds ⟨a, b, c, d⟩) 2).x0, .int .i64 ((bnds ⟨a, b, c, d⟩) 2).y0, .int .i64 ((bnds ⟨a, b, c, d⟩) 2).x1, .int .i64 ((bnds ⟨a, b, c, d⟩) 2).y1] := hW4 ▸ Blk.fresh wr 23 #[.int .i64 ((bnds ⟨a, b, c, d⟩) 2).x0, .int .i64 ((bnds ⟨a, b, c, d⟩) 2).y0, .int .i64 ((bnds ⟨a, b, c, d⟩) 2).x1, .int .i64 ((bnds ⟨a, b, c, d⟩) 2).y1]
        rw [← hW4] at hXa
        rw [← hW4]
        clear hW4 hX
        have z0 := x8.cell 0 _ rfl
        have z1 := x8.cell 1 _ rfl
        have z2 := x8.cell 2 _ rfl
        have z3 := x8.cell 3 _ rfl
        go_wp2_with fail
        refine (new_band hp hn hh 2 _).mono ?_
        rintro e w5 ⟨g, rfl, hg, row, hb⟩
        have hX1 := hXa.step hb
        have hng : ∀ o, o < 2 → G o ≠ g := fun o ho => by
          have := (hXa.rows o ho).2.lt
          omega
        clear z0 z1 z2 z3 x8 hb
        have q0 := hX1.bk.cell 10 _ rfl
        have f0 := hX1.bk.free 10
        have q1 := hX1.bk.cell 11 _ rfl
        have f1 := hX1.bk.free 11
        have q2 := hX1.bk.cell 12 _ rfl
        have f2 := hX1.bk.free 12
        have q3 := hX1.bk.cell 13 _ rfl
        have f3 := hX1.bk.free 13
        have q4 := hX1.bk.cell 14 _ rfl
        have f4 := hX1.bk.free 14
        have hX2 := hX1.next (by decide) g (by have := hXa.big; omega) row hng
        have HX : Hid _ := hX2
        clear hXa hX1 hX2 row hng hg
        go_wp2
        go_roundw
        case rel => exact ⟨3, _, _, by decide, by go_num, HX.out⟩
        case measure => simp [intOf]
      · have hI : ∀ W, (Instr.index 24 (.agg A) (.int .i64 3)).run Try.prog W = .ok (.agg #[.int .i64 ((bnds ⟨a, b, c, d⟩) 3).x0, .int .i64 ((bnds ⟨a, b, c, d⟩) 3).y0, .int .i64 ((bnds ⟨a, b, c, d⟩) 3).x1, .int .i64 ((bnds ⟨a, b, c, d⟩) 3).y1]) W := fun W => by rw [HA.out]; exact idx4 (bnds ⟨a, b, c, d⟩) 3 (by decide) W
        have hXa := hX.step ((Below.refl _ _).alloc (Nat.le_refl _) (.cells #[.int .i64 ((bnds ⟨a, b, c, d⟩) 3).x0, .int .i64 ((bnds ⟨a, b, c, d⟩) 3).y0, .int .i64 ((bnds ⟨a, b, c, d⟩) 3).x1, .int .i64 ((bnds ⟨a, b, c, d⟩) 3).y1] 23))
        go_upto_region 11 with fail
        obtain ⟨W4, hW4⟩ : ∃ W4, W4 = wr.alloc (.cells #[.int .i64 ((bnds ⟨a, b, c, d⟩) 3).x0, .int .i64 ((bnds ⟨a, b, c, d⟩) 3).y0, .int .i64 ((bnds ⟨a, b, c, d⟩) 3).x1, .int .i64 ((bnds ⟨a, b, c, d⟩) 3).y1] 23) := ⟨_, rfl⟩
        have x8 : Blk W4 wr.heap.size 23 #[.int .i64 ((bnds ⟨a, b, c, d⟩) 3).x0, .int .i64 ((bnds ⟨a, b, c, d⟩) 3).y0, .int .i64 ((bnds ⟨a, b, c, d⟩) 3).x1, .int .i64 ((bnds ⟨a, b, c, d⟩) 3).y1] := hW4 ▸ Blk.fresh wr 23 #[.int .i64 ((bnds ⟨a, b, c, d⟩) 3).x0, .int .i64 ((bnds ⟨a, b, c, d⟩) 3).y0, .int .i64 ((bnds ⟨a, b, c, d⟩) 3).x1, .int .i64 ((bnds ⟨a, b, c, d⟩) 3).y1]
        rw [← hW4] at hXa
        rw [← hW4]
        clear hW4 hX
        have z0 := x8.cell 0 _ rfl
        have z1 := x8.cell 1 _ rfl
        have z2 := x8.cell 2 _ rfl
        have z3 := x8.cell 3 _ rfl
        go_wp2_with fail
        refine (new_band hp hn hh 3 _).mono ?_
        rintro e w5 ⟨g, rfl, hg, row, hb⟩
        have hX1 := hXa.step hb
        have hng : ∀ o, o < 3 → G o ≠ g := fun o ho => by
          have := (hXa.rows o ho).2.lt
          omega
        clear z0 z1 z2 z3 x8 hb
        have q0 := hX1.bk.cell 15 _ rfl
        have f0 := hX1.bk.free 15
        have q1 := hX1.bk.cell 16 _ rfl
        have f1 := hX1.bk.free 16
        have q2 := hX1.bk.cell 17 _ rfl
        have f2 := hX1.bk.free 17
        have q3 := hX1.bk.cell 18 _ rfl
        have f3 := hX1.bk.free 18
        have q4 := hX1.bk.cell 19 _ rfl
        have f4 := hX1.bk.free 19
        have hX2 := hX1.next (by decide) g (by have := hXa.big; omega) row hng
        have HX : Hid _ := hX2
        clear hXa hX1 hX2 row hng hg
        go_wp2
        go_roundw
        case rel => exact ⟨4, _, _, by decide, by go_num, HX.out⟩
        case measure => simp [intOf]
    · obtain rfl : k = 4 := Nat.le_antisymm hk4 (Nat.le_of_not_lt hlt)
      clear hk4 hlt
      obtain ⟨W4, rfl⟩ : ∃ W4, W4 = wr := ⟨_, rfl⟩
      have lA := hH.below hX.below (Nat.le_refl _)
      have hv := (pv_iff.1 hp).1
      have hlen : l.length = h * n := by
        have h1 : Pl.areaI a b c d = ((h * n : Nat) : Int) := by rw [Pl.areaI, if_pos hv, hn, hh, Int.mul_comm, ← Int.natCast_mul]
        have := (pv_iff.1 hp).2.2
        omega
      have cR := splitRows_q a b c d kn l s m n h W4 hp hk HF.out hm lA hn hh
      obtain ⟨P, hP⟩ : ∃ P, P = Ex.cutR n l h := ⟨_, rfl⟩
      have HP : Hid _ := hP
      rw [← hP] at cR
      have hPl : P.length = h := by rw [hP]; exact Ex.cutR_len _ _ _
      have hPw : Ex.Wide n P := hP ▸ Ex.cutR_wide hlen
      have hPf : Ex.within 35184372088832 P.flatten := by rw [hP, Ex.cutR_flat hlen]; exact few_iff.1 HF.out
      obtain ⟨hwL, hwH⟩ := rows_within (s := a) hk (show (0 : Int) ≤ 35184372088832 by decide) hPf
      have hLw := Ex.lowR_wide (s := a) (k := kn) hPw
      have hHw := Ex.highR_wide (s := a) (k := kn) hPw
      have hLl : (Ex.lowR a kn P).length = h := by rw [Ex.lowR, List.length_map, hPl]
      have hHl : (Ex.highR a kn P).length = h := by rw [Ex.highR, List.length_map, hPl]
      obtain ⟨L, hL⟩ : ∃ L, L = (Ex.lowR a kn P).flatten := ⟨_, rfl⟩
      obtain ⟨H, hHd⟩ : ∃ H, H = (Ex.highR a kn P).flatten := ⟨_, rfl⟩
      have nL : L.length = h * wdO a n 0 := by rw [hL, Ex.flat_len hLw, hLl]; rfl
      have nH : H.length = h * wdO a n 1 := by rw [hHd, Ex.flat_len hHw, hHl]; rfl
      rw [← hL, ← hHd] at cR
      have pL := half_pv hp hn hh 0 nL
      have pH := half_pv hp hn hh 1 nH
      have HC : Hid _ := (⟨hPl, hPw, hwL, hwH, hLw, hHw, hLl, hHl, hL, hHd, pL, pH⟩ : _ ∧ _ ∧ _ ∧ _ ∧ _ ∧ _ ∧ _ ∧ _ ∧ _ ∧ _ ∧ _ ∧ _)
      clear hP hlen hPl hPw hPf hwL hwH hLw hHw hLl hHl hL hHd nL nH pL pH
      have y0 := hX.x0.cell 0 _ rfl
      have y1 := hX.x0.cell 1 _ rfl
      have y2 := hX.x0.cell 2 _ rfl
      have y3 := hX.x0.cell 3 _ rfl
      have y4 := hX.x0.cell 4 _ rfl
      have yk := hX.x1.cell 0 _ rfl
      go_upto_region 15 with (first | (go_at_call 71; (with_reducible refine cR.mono ?_); rintro e w7 ⟨s1, m1, s2, m2, rfl, a1, a2, hb7, k1, k2, f1, f2⟩))
      clear y0 y1 y2 y3 y4 yk cR
      obtain ⟨W15, hW15⟩ : ∃ W15, W15 = (w7.alloc (.cells #[.int .i64 ((bnds ⟨a, b, c, d⟩) 0).x0, .int .i64 b, .int .i64 ((bnds ⟨a, b, c, d⟩) 0).x1, .int .i64 d, .slice s1 L.length m1] 30)).alloc (.cells #[.int .i64 ((bnds ⟨a, b, c, d⟩) 1).x0, .int .i64 b, .int .i64 ((bnds ⟨a, b, c, d⟩) 1).x1, .int .i64 d, .slice s2 H.length m2] 30) := ⟨_, rfl⟩
      have hX8 := ((hX.step hb7).step (below_alloc (Below.refl _ w7) (.cells #[.int .i64 ((bnds ⟨a, b, c, d⟩) 0).x0, .int .i64 b, .int .i64 ((bnds ⟨a, b, c, d⟩) 0).x1, .int .i64 d, .slice s1 L.length m1] 30))).step (below_alloc (Below.refl _ _) (.cells #[.int .i64 ((bnds ⟨a, b, c, d⟩) 1).x0, .int .i64 b, .int .i64 ((bnds ⟨a, b, c, d⟩) 1).x1, .int .i64 d, .slice s2 H.length m2] 30))
      have q10 := (QBox.fresh w7 ((bnds ⟨a, b, c, d⟩) 0).x0 b ((bnds ⟨a, b, c, d⟩) 0).x1 d s1 L.length m1 30).alloc (.cells #[.int .i64 ((bnds ⟨a, b, c, d⟩) 1).x0, .int .i64 b, .int .i64 ((bnds ⟨a, b, c, d⟩) 1).x1, .int .i64 d, .slice s2 H.length m2] 30)
      have q11 := QBox.freshAt (w7.alloc (.cells #[.int .i64 ((bnds ⟨a, b, c, d⟩) 0).x0, .int .i64 b, .int .i64 ((bnds ⟨a, b, c, d⟩) 0).x1, .int .i64 d, .slice s1 L.length m1] 30)) (w7.heap.size + 1) (by simp) ((bnds ⟨a, b, c, d⟩) 1).x0 b ((bnds ⟨a, b, c, d⟩) 1).x1 d s2 H.length m2 30
      have l1 := (a1.alloc (.cells #[.int .i64 ((bnds ⟨a, b, c, d⟩) 0).x0, .int .i64 b, .int .i64 ((bnds ⟨a, b, c, d⟩) 0).x1, .int .i64 d, .slice s1 L.length m1] 30)).alloc (.cells #[.int .i64 ((bnds ⟨a, b, c, d⟩) 1).x0, .int .i64 b, .int .i64 ((bnds ⟨a, b, c, d⟩) 1).x1, .int .i64 d, .slice s2 H.length m2] 30)
      have l2 := (a2.alloc (.cells #[.int .i64 ((bnds ⟨a, b, c, d⟩) 0).x0, .int .i64 b, .int .i64 ((bnds ⟨a, b, c, d⟩) 0).x1, .int .i64 d, .slice s1 L.length m1] 30)).alloc (.cells #[.int .i64 ((bnds ⟨a, b, c, d⟩) 1).x0, .int .i64 b, .int .i64 ((bnds ⟨a, b, c, d⟩) 1).x1, .int .i64 d, .slice s2 H.length m2] 30)
      rw [← hW15] at hX8 q10 q11 l1 l2
      rw [← hW15]
      have ge : ∀ o, o < 4 → w.heap.size + 3 < G o := fun o ho => by have := (hX8.rows o ho).1; have := hX8.big; omega
      have gf : ∀ o, o < 4 → G o < W4.heap.size := fun o ho => (hX.rows o ho).2.lt
      have hlt7 : W4.heap.size ≤ w7.heap.size := hb7.size
      clear hW15 hX hb7 a1 a2
      obtain ⟨hPl, hPw, hwL, hwH, hLw, hHw, hLl, hHl, hL, hHd, pL, pH⟩ := HC.out
      have ex2 : ((bnds ⟨a, b, c, d⟩) 2).x0 = ((bnds ⟨a, b, c, d⟩) 0).x0 ∧ ((bnds ⟨a, b, c, d⟩) 2).x1 = ((bnds ⟨a, b, c, d⟩) 0).x1 ∧ ((bnds ⟨a, b, c, d⟩) 3).x0 = ((bnds ⟨a, b, c, d⟩) 1).x0 ∧ ((bnds ⟨a, b, c, d⟩) 3).x1 = ((bnds ⟨a, b, c, d⟩) 1).x1 := by
        simp [bnds, hv, bndR, orH]
      have hcs : ∀ o, o < 4 → V o = .slice (some ⟨G o, 0, none⟩) (htO b h o * wdO a n o) (htO b h o * wdO a n o) := hX8.val
      have c02 := cl02_q ((bnds ⟨a, b, c, d⟩) 0).x0 b ((bnds ⟨a, b, c, d⟩) 0).x1 d ((bnds ⟨a, b, c, d⟩) 0).y0 ((bnds ⟨a, b, c, d⟩) 0).y1 ((bnds ⟨a, b, c, d⟩) 2).y0 ((bnds ⟨a, b, c, d⟩) 2).y1 kn (Ex.lowR a kn P) s1 m1 (wdO a n 0) h L.length (w.heap.size + 1) (w.heap.size + 3) (G 0) (G 2) (htO b h 0 * wdO a n 0) (htO b h 2 * wdO a n 2) (htO b h 0 * wdO a n 0) (htO b h 2 * wdO a n 2) (arrP (upK (bnds ⟨a, b, c, d⟩) 4) V) W15 pL (by rw [hL]) hLw hLl (bnd_size hv hn hh 0).1 hh hk (within_mono hwL (by decide)) (by rw [← hL]; exact l1) (fun p e => by have := f1 p e; have := gf 0 (by decide); have := gf 2 (by decide); omega) (hX8.x1.cell 0 _ rfl) hX8.bk (by have := ge 0 (by decide); omega) (by have := ge 2 (by decide); omega) (by have := ge 0 (by decide); omega) (by have := ge 2 (by decide); omega) (hX8.apart 0 2 (by decide) (by decide) (by decide))
        rfl rfl rfl rfl (by rw [← hcs 0 (by decide)]; rfl) (by rw [← ex2.1]; rfl) rfl (by rw [← ex2.2.1]; rfl) rfl (by rw [← hcs 2 (by decide)]; rfl) rfl rfl (hX8.rows 0 (by decide)).2 (hX8.rows 2 (by decide)).2
      clear hPl hPw hwL hwH hLw hHw hLl hHl hL hHd pL pH
      obtain ⟨y0, y1, y2, y3, y4⟩ := q10.open
      go_upto_region 16 with (first | (go_at_call 67; (with_reducible refine c02.mono ?_); rintro e w16 ⟨rfl, b16, r0, r2⟩))
      clear y0 y1 y2 y3 y4 c02
      obtain ⟨hPl, hPw, hwL, hwH, hLw, hHw, hLl, hHl, hL, hHd, pL, pH⟩ := HC.out
      have n0 := ge 0 (by decide)
      have n1 := ge 1 (by decide)
      have n2 := ge 2 (by decide)
      have n3 := ge 3 (by decide)
      have z0 := gf 0 (by decide)
      have z2 := gf 2 (by decide)
      have x1' := b16.blk hX8.x1 (by omega) (by omega)
      have x2' := b16.blk hX8.x2 (by omega) (by omega)
      have bk' := b16.blk hX8.bk (by omega) (by omega)
      have q11' : Blk w16 (w7.heap.size + 1) 30 #[] → True := fun _ => trivial
      have l2' := b16.holds l2 (fun p e => by have := f2 p e; omega)
      have r1' := b16.row (hX8.rows 1 (by decide)).2 (hX8.apart 1 0 (by decide) (by decide) (by decide)) (hX8.apart 1 2 (by decide) (by decide) (by decide))
      have r3' := b16.row (hX8.rows 3 (by decide)).2 (hX8.apart 3 0 (by decide) (by decide) (by decide)) (hX8.apart 3 2 (by decide) (by decide) (by decide))
      have B16 := But2.below hX8.below b16 (by omega) (by omega)
      have c13 := cl13_q ((bnds ⟨a, b, c, d⟩) 1).x0 b ((bnds ⟨a, b, c, d⟩) 1).x1 d ((bnds ⟨a, b, c, d⟩) 1).y0 ((bnds ⟨a, b, c, d⟩) 1).y1 ((bnds ⟨a, b, c, d⟩) 3).y0 ((bnds ⟨a, b, c, d⟩) 3).y1 kn (Ex.highR a kn P) s2 m2 (wdO a n 1) h H.length (w.heap.size + 1) (w.heap.size + 3) (G 1) (G 3) (htO b h 1 * wdO a n 1) (htO b h 3 * wdO a n 3) (htO b h 1 * wdO a n 1) (htO b h 3 * wdO a n 3) (arrP (upK (bnds ⟨a, b, c, d⟩) 4) V) w16 pH (by rw [hHd]) hHw hHl (bnd_size hv hn hh 1).1 hh hk (within_mono hwH (by decide)) (by rw [← hHd]; exact l2') (fun p e => by have := f2 p e; have := gf 1 (by decide); have := gf 3 (by decide); omega) (x1'.cell 0 _ rfl) bk' (by omega) (by omega) (by omega) (by omega) (hX8.apart 1 3 (by decide) (by decide) (by decide))
        rfl rfl rfl rfl (by rw [← hcs 1 (by decide)]; rfl) (by rw [← ex2.2.2.1]; rfl) rfl (by rw [← ex2.2.2.2]; rfl) rfl (by rw [← hcs 3 (by decide)]; rfl) rfl rfl r1' r3'
      clear hPl hPw hwL hwH hLw hHw hLl hHl hL hHd pL pH q11'
      have u11 := q11.open
      have t11 : ∀ j, w16.cell? ⟨w7.heap.size + 1, j, none⟩ = W15.cell? ⟨w7.heap.size + 1, j, none⟩ := fun j => b16.cell (p := ⟨_, j, none⟩) q11.lt (by show w7.heap.size + 1 ≠ G 0; omega) (by show w7.heap.size + 1 ≠ G 2; omega)
      have y0 := (t11 0).trans u11.1
      have y1 := (t11 1).trans u11.2.1
      have y2 := (t11 2).trans u11.2.2.1
      have y3 := (t11 3).trans u11.2.2.2.1
      have y4 := (t11 4).trans u11.2.2.2.2
      clear t11 u11
      go_upto_region 17 with (first | (go_at_call 67; (with_reducible refine c13.mono ?_); rintro e w17 ⟨rfl, b17, r1, r3⟩))
      clear y0 y1 y2 y3 y4 c13
      have m1 := gf 1 (by decide)
      have m3 := gf 3 (by decide)
      have x3' := b17.blk x2' (by omega) (by omega)
      have bk3 := b17.blk bk' (by omega) (by omega)
      have r0' := b17.row r0 (hX8.apart 0 1 (by decide) (by decide) (by decide)) (hX8.apart 0 3 (by decide) (by decide) (by decide))
      have r2' := b17.row r2 (hX8.apart 2 1 (by decide) (by decide) (by decide)) (hX8.apart 2 3 (by decide) (by decide) (by decide))
      have B17 := But2.below B16 b17 (by omega) (by omega)
      obtain ⟨hPl, hPw, hwL, hwH, hLw, hHw, hLl, hHl, hL, hHd, pL, pH⟩ := HC.out
      obtain ⟨Vf, hVf⟩ : ∃ Vf : Array Value, Vf = arrP (bnds ⟨a, b, c, d⟩) (fun o => .slice (some ⟨G o, 0, none⟩) (bandQ a b kn n P o).flatten.length (bandQ a b kn n P o).flatten.length) := ⟨_, rfl⟩
      have hVe : arrP (upK (bnds ⟨a, b, c, d⟩) 4) V = Vf := by
        rw [hVf]
        simp only [arrP, hcs 0 (by decide), hcs 1 (by decide), hcs 2 (by decide), hcs 3 (by decide), band_len (a := a) (b := b) (kn := kn) hPw hPl 0 (by decide), band_len (a := a) (b := b) (kn := kn) hPw hPl 1 (by decide), band_len (a := a) (b := b) (kn := kn) hPw hPl 2 (by decide), band_len (a := a) (b := b) (kn := kn) hPw hPl 3 (by decide)]
        rfl
      rw [hVe] at bk3
      have hV20 : (Try.prog.info? 33).map (·.size) = some Vf.size := by rw [hVf]; exact info20
      have hVz : 20 = Vf.size := by rw [hVf]; rfl
      have hVo : Vf.all (·.oneCell') = true := by rw [hVf]; simp [arrP_get, Value.oneCell']
      have HVz : Hid _ := hVz
      have HVf : Hid _ := hVf
      have HR0 : Hid (RowAt w17 (G 0) (bandQ a b kn n P 0).flatten) := r0'
      have HR1 : Hid (RowAt w17 (G 1) (bandQ a b kn n P 1).flatten) := r1
      have HR2 : Hid (RowAt w17 (G 2) (bandQ a b kn n P 2).flatten) := r2'
      have HR3 : Hid (RowAt w17 (G 3) (bandQ a b kn n P 3).flatten) := r3
      clear hVz hVf hVe hPl hPw hwL hwH hLw hHw hLl hHl hL hHd pL pH r0' r1 r2' r3 r0 r2 r1' r3' l1 l2 l2' q10 q11 x1' x2' bk' b16 b17
      go_wp2_with (first | (refine wpList_load_mid rfl 33 (.tmp 6) rfl (w.heap.size + 3) 0 rfl Vf.toList _ bk3.range Try.underlying33 rfl (by simpa using hV20) ?_) | (refine wpList_store_row rfl 33 (.tmp 4) (.tmp 55) rfl (w.heap.size + 2) Vf rfl rfl 33 _ x3' hV20 HVz.out hVo ?_))
      have hld := run_loadVar_mid (P := Try.prog) (w17.setRow (w.heap.size + 2) Vf) (w.heap.size + 2) 0 33 Vf.toList _ (Blk.range (x3'.row Vf)) Try.underlying33 rfl (by simpa using hV20)
      refine bodyPost_ret (v := .tuple #[.agg Vf, .int .i64 0]) ?_ rfl ?_
      · rw [results_cell_tmp rfl]
        simp [asAddr, Result.andThen, hld]
      · have big := hX8.big.1
        rw [HP.out] at *
        refine ⟨fun o => some ⟨G o, 0, none⟩, fun o => (bandQ a b kn n (Ex.cutR n l h) o).flatten.length, ?_, fun o ho => ⟨?_, Nat.le_refl _, fun e => (by cases e), ?_⟩, below_row B17 (by omega) _⟩
        · rw [HVf.out, HP.out]
        · have hf : Fresh w3 (some ⟨G o, 0, none⟩) := fresh_some (hX8.rows o ho).1
          refine HoldsI.rowW ?_ hf (by omega) Vf
          rcases lt4 ho with rfl | rfl | rfl | rfl
          · exact HP.out ▸ HR0.out.holds
          · exact HP.out ▸ HR1.out.holds
          · exact HP.out ▸ HR2.out.holds
          · exact HP.out ▸ HR3.out.holds
        · exact fresh_some (by have := ge o ho; omega)
end Go.Proofs.Ytnfnidgabgdphaa
