/-
  Split of the reference of layer 5 where it returns an error.
-/
import Derived.Test.YtnfnidgabgdphaaDwG
set_option maxRecDepth 100000
namespace Go.Proofs.Ytnfnidgabgdphaa
open Go.RowKit

set_option maxRecDepth 100000 in
set_option maxHeartbeats 4000000 in
theorem split5_no1 (a b c d kn : Int) (l : List Int) (s : Option Addr) (m : Nat) (w : World) (hp : pvB a b c d l.length = false) :
    Calls Try.prog 22 #[.agg #[.int .i64 a, .int .i64 b, .int .i64 c, .int .i64 d, .slice s l.length m], .int .i64 kn] w (GivesP4 (fun _ => zR) (fun _ => []) 1 w) := by
  have x0 := (Blk.fresh w 30 #[.int .i64 a, .int .i64 b, .int .i64 c, .int .i64 d, .slice s l.length m]).alloc (.cells (arrP (fun _ => zR) fun _ => .slice none 0 0) 33)
  have x1 := Blk.freshAt (w.alloc (.cells #[.int .i64 a, .int .i64 b, .int .i64 c, .int .i64 d, .slice s l.length m] 30)) (w.heap.size + 1) (by simp) 33 (arrP (fun _ => zR) fun _ => .slice none 0 0)
  have B := below_alloc (below_alloc (Below.refl _ w) (.cells #[.int .i64 a, .int .i64 b, .int .i64 c, .int .i64 d, .slice s l.length m] 30)) (.cells (arrP (fun _ => zR) fun _ => .slice none 0 0) 33)
  go_enter Try.func22, Try.ntmps22
  go_wp2_with fail
  refine (pv_r _ _ _ _ _ _ _ _).mono ?_
  rintro e wa ⟨rfl, hb⟩
  replace x0 := x0.below hb
  replace x1 := x1.below hb
  replace B := below_call B hb
  clear hb
  have y4 := x0.cell 4 _ rfl
  go_wp2_with (first | (refine wpList_store_row rfl 33 (.tmp 4) (.tmp 20) rfl (w.heap.size + 1) #[.int .i64 0, .int .i64 0, .int .i64 0, .int .i64 0, .slice none 0 0, .int .i64 0, .int .i64 0, .int .i64 0, .int .i64 0, .slice none 0 0, .int .i64 0, .int .i64 0, .int .i64 0, .int .i64 0, .slice none 0 0, .int .i64 0, .int .i64 0, .int .i64 0, .int .i64 0, .slice none 0 0] rfl rfl 33 _ x1 info20 rfl (by simp [Value.oneCell']) ?_))
  have g1 : Blk (wa.setRow (w.heap.size + 1) #[.int .i64 0, .int .i64 0, .int .i64 0, .int .i64 0, .slice none 0 0, .int .i64 0, .int .i64 0, .int .i64 0, .int .i64 0, .slice none 0 0, .int .i64 0, .int .i64 0, .int .i64 0, .int .i64 0, .slice none 0 0, .int .i64 0, .int .i64 0, .int .i64 0, .int .i64 0, .slice none 0 0]) (w.heap.size + 1) 33 #[.int .i64 0, .int .i64 0, .int .i64 0, .int .i64 0, .slice none 0 0, .int .i64 0, .int .i64 0, .int .i64 0, .int .i64 0, .slice none 0 0, .int .i64 0, .int .i64 0, .int .i64 0, .int .i64 0, .slice none 0 0, .int .i64 0, .int .i64 0, .int .i64 0, .int .i64 0, .slice none 0 0] := x1.row _
  have hld := run_loadVar_mid (P := Try.prog) (wa.setRow (w.heap.size + 1) #[.int .i64 0, .int .i64 0, .int .i64 0, .int .i64 0, .slice none 0 0, .int .i64 0, .int .i64 0, .int .i64 0, .int .i64 0, .slice none 0 0, .int .i64 0, .int .i64 0, .int .i64 0, .int .i64 0, .slice none 0 0, .int .i64 0, .int .i64 0, .int .i64 0, .int .i64 0, .slice none 0 0]) (w.heap.size + 1) 0 33 (Array.toList #[.int .i64 0, .int .i64 0, .int .i64 0, .int .i64 0, .slice none 0 0, .int .i64 0, .int .i64 0, .int .i64 0, .int .i64 0, .slice none 0 0, .int .i64 0, .int .i64 0, .int .i64 0, .int .i64 0, .slice none 0 0, .int .i64 0, .int .i64 0, .int .i64 0, .int .i64 0, .slice none 0 0]) _ g1.range Try.underlying33 rfl info20
  refine bodyPost_ret (v := .tuple #[.agg #[.int .i64 0, .int .i64 0, .int .i64 0, .int .i64 0, .slice none 0 0, .int .i64 0, .int .i64 0, .int .i64 0, .int .i64 0, .slice none 0 0, .int .i64 0, .int .i64 0, .int .i64 0, .int .i64 0, .slice none 0 0, .int .i64 0, .int .i64 0, .int .i64 0, .int .i64 0, .slice none 0 0], .int .i64 1]) ?_ rfl ⟨fun _ => none, fun _ => 0, rfl, fun o _ => ⟨.inl rfl, Nat.le_refl _, fun _ => rfl, fresh_none _⟩, below_row B (Nat.le_succ _) _⟩
  rw [results_cell_tmp rfl]
  simp [asAddr, Result.andThen, hld]
set_option maxRecDepth 100000 in
set_option maxHeartbeats 4000000 in
theorem split5_no2 (a b c d kn : Int) (l : List Int) (s : Option Addr) (m : Nat) (w : World) (hp : pvB a b c d l.length = true) (hk : kB kn = false) :
    Calls Try.prog 22 #[.agg #[.int .i64 a, .int .i64 b, .int .i64 c, .int .i64 d, .slice s l.length m], .int .i64 kn] w (GivesP4 (fun _ => zR) (fun _ => []) 3 w) := by
  have x0 := (Blk.fresh w 30 #[.int .i64 a, .int .i64 b, .int .i64 c, .int .i64 d, .slice s l.length m]).alloc (.cells (arrP (fun _ => zR) fun _ => .slice none 0 0) 33)
  have x1 := Blk.freshAt (w.alloc (.cells #[.int .i64 a, .int .i64 b, .int .i64 c, .int .i64 d, .slice s l.length m] 30)) (w.heap.size + 1) (by simp) 33 (arrP (fun _ => zR) fun _ => .slice none 0 0)
  have B := below_alloc (below_alloc (Below.refl _ w) (.cells #[.int .i64 a, .int .i64 b, .int .i64 c, .int .i64 d, .slice s l.length m] 30)) (.cells (arrP (fun _ => zR) fun _ => .slice none 0 0) 33)
  go_enter Try.func22, Try.ntmps22
  go_wp2_with fail
  refine (pv_r _ _ _ _ _ _ _ _).mono ?_
  rintro e wa ⟨rfl, hb⟩
  replace x0 := x0.below hb
  replace x1 := x1.below hb
  replace B := below_call B hb
  clear hb
  have y4 := x0.cell 4 _ rfl
  go_wp2_with (first | (go_at_call 73; refine ((kn5_r _ _).mono fun _ _ x => (⟨x.1, x.2.symm⟩ : _ ∧ _)).mono ?_; rintro e wn ⟨rfl, rfl⟩) | (refine wpList_store_row rfl 33 (.tmp 4) (.tmp 24) rfl (w.heap.size + 1) #[.int .i64 0, .int .i64 0, .int .i64 0, .int .i64 0, .slice none 0 0, .int .i64 0, .int .i64 0, .int .i64 0, .int .i64 0, .slice none 0 0, .int .i64 0, .int .i64 0, .int .i64 0, .int .i64 0, .slice none 0 0, .int .i64 0, .int .i64 0, .int .i64 0, .int .i64 0, .slice none 0 0] rfl rfl 33 _ x1 info20 rfl (by simp [Value.oneCell']) ?_))
  have g1 : Blk (wa.setRow (w.heap.size + 1) #[.int .i64 0, .int .i64 0, .int .i64 0, .int .i64 0, .slice none 0 0, .int .i64 0, .int .i64 0, .int .i64 0, .int .i64 0, .slice none 0 0, .int .i64 0, .int .i64 0, .int .i64 0, .int .i64 0, .slice none 0 0, .int .i64 0, .int .i64 0, .int .i64 0, .int .i64 0, .slice none 0 0]) (w.heap.size + 1) 33 #[.int .i64 0, .int .i64 0, .int .i64 0, .int .i64 0, .slice none 0 0, .int .i64 0, .int .i64 0, .int .i64 0, .int .i64 0, .slice none 0 0, .int .i64 0, .int .i64 0, .int .i64 0, .int .i64 0, .slice none 0 0, .int .i64 0, .int .i64 0, .int .i64 0, .int .i64 0, .slice none 0 0] := x1.row _
  have hld := run_loadVar_mid (P := Try.prog) (wa.setRow (w.heap.size + 1) #[.int .i64 0, .int .i64 0, .int .i64 0, .int .i64 0, .slice none 0 0, .int .i64 0, .int .i64 0, .int .i64 0, .int .i64 0, .slice none 0 0, .int .i64 0, .int .i64 0, .int .i64 0, .int .i64 0, .slice none 0 0, .int .i64 0, .int .i64 0, .int .i64 0, .int .i64 0, .slice none 0 0]) (w.heap.size + 1) 0 33 (Array.toList #[.int .i64 0, .int .i64 0, .int .i64 0, .int .i64 0, .slice none 0 0, .int .i64 0, .int .i64 0, .int .i64 0, .int .i64 0, .slice none 0 0, .int .i64 0, .int .i64 0, .int .i64 0, .int .i64 0, .slice none 0 0, .int .i64 0, .int .i64 0, .int .i64 0, .int .i64 0, .slice none 0 0]) _ g1.range Try.underlying33 rfl info20
  refine bodyPost_ret (v := .tuple #[.agg #[.int .i64 0, .int .i64 0, .int .i64 0, .int .i64 0, .slice none 0 0, .int .i64 0, .int .i64 0, .int .i64 0, .int .i64 0, .slice none 0 0, .int .i64 0, .int .i64 0, .int .i64 0, .int .i64 0, .slice none 0 0, .int .i64 0, .int .i64 0, .int .i64 0, .int .i64 0, .slice none 0 0], .int .i64 3]) ?_ rfl ⟨fun _ => none, fun _ => 0, rfl, fun o _ => ⟨.inl rfl, Nat.le_refl _, fun _ => rfl, fresh_none _⟩, below_row B (Nat.le_succ _) _⟩
  rw [results_cell_tmp rfl]
  simp [asAddr, Result.andThen, hld]
set_option maxRecDepth 100000 in
set_option maxHeartbeats 4000000 in
theorem split5_no3 (a b c d kn : Int) (l : List Int) (s : Option Addr) (m : Nat) (w : World) (hp : pvB a b c d l.length = true) (hk : kB kn = true) (hf : fewB l 35184372088832 = false) (hl : l.length ≤ 140737488351232) (hH : HoldsI w s l) :
    Calls Try.prog 22 #[.agg #[.int .i64 a, .int .i64 b, .int .i64 c, .int .i64 d, .slice s l.length m], .int .i64 kn] w (GivesP4 (fun _ => zR) (fun _ => []) 2 w) := by
  have x0 := (Blk.fresh w 30 #[.int .i64 a, .int .i64 b, .int .i64 c, .int .i64 d, .slice s l.length m]).alloc (.cells (arrP (fun _ => zR) fun _ => .slice none 0 0) 33)
  have x1 := Blk.freshAt (w.alloc (.cells #[.int .i64 a, .int .i64 b, .int .i64 c, .int .i64 d, .slice s l.length m] 30)) (w.heap.size + 1) (by simp) 33 (arrP (fun _ => zR) fun _ => .slice none 0 0)
  have B := below_alloc (below_alloc (Below.refl _ w) (.cells #[.int .i64 a, .int .i64 b, .int .i64 c, .int .i64 d, .slice s l.length m] 30)) (.cells (arrP (fun _ => zR) fun _ => .slice none 0 0) 33)
  have lH := (hH.alloc (.cells #[.int .i64 a, .int .i64 b, .int .i64 c, .int .i64 d, .slice s l.length m] 30)).alloc (.cells (arrP (fun _ => zR) fun _ => .slice none 0 0) 33)
  go_enter Try.func22, Try.ntmps22
  go_wp2_with fail
  refine (pv_r _ _ _ _ _ _ _ _).mono ?_
  rintro e wa ⟨rfl, hb⟩
  replace x0 := x0.below hb
  replace x1 := x1.below hb
  replace B := below_call B hb
  have cA := (abv_r l 35184372088832 s m wa (by decide) (by decide) hl (lH.call hb)).mono fun _ _ x => (⟨x.1, x.2.symm⟩ : _ ∧ wa = _)
  rw [hf] at cA
  clear hf lH
  clear hb
  have y4 := x0.cell 4 _ rfl
  go_wp2_with (first | (go_at_call 73; refine ((kn5_r _ _).mono fun _ _ x => (⟨x.1, x.2.symm⟩ : _ ∧ _)).mono ?_; rintro e wn ⟨rfl, rfl⟩) | (go_at_call 74; (with_reducible refine cA.mono ?_); rintro e wn ⟨rfl, rfl⟩) | (refine wpList_store_row rfl 33 (.tmp 4) (.tmp 28) rfl (w.heap.size + 1) #[.int .i64 0, .int .i64 0, .int .i64 0, .int .i64 0, .slice none 0 0, .int .i64 0, .int .i64 0, .int .i64 0, .int .i64 0, .slice none 0 0, .int .i64 0, .int .i64 0, .int .i64 0, .int .i64 0, .slice none 0 0, .int .i64 0, .int .i64 0, .int .i64 0, .int .i64 0, .slice none 0 0] rfl rfl 33 _ x1 info20 rfl (by simp [Value.oneCell']) ?_))
  have g1 : Blk (wa.setRow (w.heap.size + 1) #[.int .i64 0, .int .i64 0, .int .i64 0, .int .i64 0, .slice none 0 0, .int .i64 0, .int .i64 0, .int .i64 0, .int .i64 0, .slice none 0 0, .int .i64 0, .int .i64 0, .int .i64 0, .int .i64 0, .slice none 0 0, .int .i64 0, .int .i64 0, .int .i64 0, .int .i64 0, .slice none 0 0]) (w.heap.size + 1) 33 #[.int .i64 0, .int .i64 0, .int .i64 0, .int .i64 0, .slice none 0 0, .int .i64 0, .int .i64 0, .int .i64 0, .int .i64 0, .slice none 0 0, .int .i64 0, .int .i64 0, .int .i64 0, .int .i64 0, .slice none 0 0, .int .i64 0, .int .i64 0, .int .i64 0, .int .i64 0, .slice none 0 0] := x1.row _
  have hld := run_loadVar_mid (P := Try.prog) (wa.setRow (w.heap.size + 1) #[.int .i64 0, .int .i64 0, .int .i64 0, .int .i64 0, .slice none 0 0, .int .i64 0, .int .i64 0, .int .i64 0, .int .i64 0, .slice none 0 0, .int .i64 0, .int .i64 0, .int .i64 0, .int .i64 0, .slice none 0 0, .int .i64 0, .int .i64 0, .int .i64 0, .int .i64 0, .slice none 0 0]) (w.heap.size + 1) 0 33 (Array.toList #[.int .i64 0, .int .i64 0, .int .i64 0, .int .i64 0, .slice none 0 0, .int .i64 0, .int .i64 0, .int .i64 0, .int .i64 0, .slice none 0 0, .int .i64 0, .int .i64 0, .int .i64 0, .int .i64 0, .slice none 0 0, .int .i64 0, .int .i64 0, .int .i64 0, .int .i64 0, .slice none 0 0]) _ g1.range Try.underlying33 rfl info20
  refine bodyPost_ret (v := .tuple #[.agg #[.int .i64 0, .int .i64 0, .int .i64 0, .int .i64 0, .slice none 0 0, .int .i64 0, .int .i64 0, .int .i64 0, .int .i64 0, .slice none 0 0, .int .i64 0, .int .i64 0, .int .i64 0, .int .i64 0, .slice none 0 0, .int .i64 0, .int .i64 0, .int .i64 0, .int .i64 0, .slice none 0 0], .int .i64 2]) ?_ rfl ⟨fun _ => none, fun _ => 0, rfl, fun o _ => ⟨.inl rfl, Nat.le_refl _, fun _ => rfl, fresh_none _⟩, below_row B (Nat.le_succ _) _⟩
  rw [results_cell_tmp rfl]
  simp [asAddr, Result.andThen, hld]
end Go.Proofs.Ytnfnidgabgdphaa
