/-
  Layer 27: Read with a state that is none.
-/
import Derived.Test.YtpnnmibdboelpaaCw
set_option maxRecDepth 100000
namespace Go.Proofs.Ytpnnmibdboelpaa
open Go.RowKit

theorem made_nil (w : World) : Calls Try.prog 35 #[.pointer none] w fun e w' => e = .returned (.bool false) ∧ w = w' := by
  go_enter Try.func35, Try.ntmps35
  go_wp2_with fail
  go_ret
  exact ⟨rfl, rfl⟩
theorem eql_nil (w : World) (a : Addr) : (binOp .eql 43 (.pointer none) (.pointer (some a))).run Try.prog w = .ok (.bool false) w := by
  have h : ∀ d : Nat, (Op.equalIn (d + 1) 43 (.pointer none) (.pointer (some a))).run Try.prog w = .ok false w := fun d => by
    simp [Op.equalIn, run_underlying Try.underlying43]
  simp only [binOp]
  simp [Op.equal, Op.maxDepth, h 9999]
theorem made_zero (g : Nat) (w : World) (h : w.cell? ⟨g, 0, none⟩ = some (.pointer none)) : Calls Try.prog 35 #[.pointer (some ⟨g, 0, none⟩)] w fun e w' => e = .returned (.bool false) ∧ w = w' := by
  have q := eql_nil w ⟨g, 0, none⟩
  go_enter Try.func35, Try.ntmps35
  go_wp2_with fail
  go_ret
  exact ⟨rfl, rfl⟩
theorem clone_no (p : Option Addr) (w : World) (h : p = none ∨ ∃ g, p = some ⟨g, 0, none⟩ ∧ w.cell? ⟨g, 0, none⟩ = some (.pointer none)) : Calls Try.prog 29 #[.pointer p] w fun e w' => e = .returned (.pointer none) ∧ w = w' := by
  have k : Calls Try.prog 35 #[.pointer p] w fun e w' => e = .returned (.bool false) ∧ w = w' := by
    rcases h with rfl | ⟨g, rfl, h⟩
    · exact made_nil w
    · exact made_zero g w h
  clear h
  go_enter Try.func29, Try.ntmps29
  go_wp2_with (first | (go_at_call 35; (with_reducible refine k.mono ?_); rintro e wn ⟨rfl, rfl⟩) | fail)
  go_ret
  exact ⟨rfl, rfl⟩
def pk0 : Array Value := #[.int .i64 0, .int .i64 0, .int .i64 0, .int .i64 0, .slice none 0 0, .slice none 0 0]
theorem results_p3 {fn : Func} {p u v x : Tmp} (h : fn.results = #[.cell p 29, .tmp u, .tmp v, .tmp x]) (tmps : Array Value) {W : World} {g : Nat} {a b c d e f y1 y2 y3 : Value} (hp : tmps.getD p undef = .pointer (some ⟨g, 0, none⟩)) (hu : tmps.getD u undef = y1) (hv : tmps.getD v undef = y2) (hx : tmps.getD x undef = y3) (B : Blk W g 29 #[a, b, c, d, e, f]) :
    (results fn tmps).run Try.prog W = .ok (.tuple #[.agg #[a, b, c, d, e, f], y1, y2, y3]) W := by
  have e0 : (results fn tmps).run Try.prog W = ((asAddr (tmps.getD p undef)).run Try.prog W).andThen fun a w₁ => ((loadVar 29 a).run Try.prog w₁).andThen fun vv w₂ => .ok (.tuple #[vv, tmps.getD u undef, tmps.getD v undef, tmps.getD x undef]) w₂ := by
    simp only [results, h]
    simp [Sem.run_bind, Result.andThen]
  rw [e0, hp, hu, hv, hx]
  have ea : (asAddr (.pointer (some ⟨g, 0, none⟩))).run Try.prog W = .ok (⟨g, 0, none⟩ : Addr) W := rfl
  rw [ea]
  simp only [Result.andThen]
  obtain ⟨c0, c1, c2, c3, c4, c5⟩ := load_pkt B
  have l : (loadVar 29 ⟨g, 0, none⟩).run Try.prog W = .ok (.agg #[a, b, c, d, e, f]) W := by
    simp [loadVar, go_sem, c0, c1, c2, c3, c4, c5]
  rw [l]
theorem Blk.set6 {w : World} {g : Nat} {t : TypeId} {a b c d e f : Value} (h : Blk w g t #[a, b, c, d, e, f]) (u v x y z t' : Value) :
    Blk ((((((w.setCell ⟨g, 0, none⟩ u).setCell ⟨g, 1, none⟩ v).setCell ⟨g, 2, none⟩ x).setCell ⟨g, 3, none⟩ y).setCell ⟨g, 4, none⟩ z).setCell ⟨g, 5, none⟩ t') g t #[u, v, x, y, z, t'] := (((((h.set 0 u).set 1 v).set 2 x).set 3 y).set 4 z).set 5 t'
set_option maxHeartbeats 2000000 in
theorem read_no (s : Option Addr) (n m : Nat) (a q : Int) (p : Option Addr) (w : World) (h : p = none ∨ ∃ g, p = some ⟨g, 0, none⟩ ∧ g < w.heap.size ∧ w.cell? ⟨g, 0, none⟩ = some (.pointer none)) :
    Calls Try.prog 18 #[.slice s n m, .int .i64 a, .pointer p, .agg #[.int .i64 0, .int .i64 0, .int .i64 0, .int .i64 1], .bool false, .bool false, .int .i64 q] w fun e w' => e = .returned (.tuple #[.agg pk0, .slice none 0 0, .int .i64 0, .int .i64 6]) ∧ Below w.heap.size w w' := by
  unfold pk0
  obtain ⟨W0, hW0⟩ : ∃ W0, W0 = (w.alloc (.cells #[.int .i64 0, .int .i64 0, .int .i64 0, .int .i64 1] 27)).alloc (.cells pk0 29) := ⟨_, rfl⟩
  have HB := Lib.hid (show Below w.heap.size w W0 by rw [hW0]; exact ((Below.refl _ _).alloc (Nat.le_refl _) _).alloc (by simp) _)
  have HK := Lib.hid (show Blk W0 (w.heap.size + 1) 29 pk0 by
    rw [hW0]
    have := Blk.new (w.alloc (.cells #[.int .i64 0, .int .i64 0, .int .i64 0, .int .i64 1] 27)) 29 pk0
    simpa using this)
  unfold pk0 at HK hW0
  have HW0 := Lib.hid hW0
  have kc := clone_no p W0 (by
    rcases h with rfl | ⟨g, rfl, hg, h⟩
    · exact .inl rfl
    · refine .inr ⟨g, rfl, ?_⟩
      rw [← h]
      unfold World.cell?
      rw [HB.out.block g hg])
  obtain ⟨c0, c1, c2, c3, c4, c5⟩ := load_pkt HK.out
  have f0 := HK.out.free 0
  have f1 := HK.out.free 1
  have f2 := HK.out.free 2
  have f3 := HK.out.free 3
  have f4 := HK.out.free 4
  have f5 := HK.out.free 5
  clear h hW0
  go_enter Try.func18, Try.ntmps18
  go_upto_region 1 with fail
  rw [← HW0.out]
  go_wp2_with (first | (go_at_call 29; (with_reducible refine kc.mono ?_); rintro e wn ⟨rfl, rfl⟩) | fail)
  refine bodyPost_ret (results_p3 rfl _ rfl rfl rfl rfl (HK.out.set6 _ _ _ _ _ _)) rfl ?_
  exact ⟨rfl, (((((HB.out.setCell (by simp) _).setCell (by simp) _).setCell (by simp) _).setCell (by simp) _).setCell (by simp) _).setCell (by simp) _⟩
set_option maxHeartbeats 2000000 in
theorem samePkt0 (w : World) : Calls Try.prog 19 #[.agg pk0, .agg pk0] w fun e w' => e = .returned (.bool true) ∧ Below w.heap.size w w' := by
  unfold pk0
  obtain ⟨W0, hW0⟩ : ∃ W0, W0 = (w.alloc (.cells pk0 29)).alloc (.cells pk0 29) := ⟨_, rfl⟩
  have HB := Lib.hid (show Below w.heap.size w W0 by rw [hW0]; exact ((Below.refl _ _).alloc (Nat.le_refl _) _).alloc (by simp) _)
  have HK := Lib.hid (show Blk W0 w.heap.size 29 pk0 by rw [hW0]; exact (Blk.new _ _ _).alloc _)
  have HK2 := Lib.hid (show Blk W0 (w.heap.size + 1) 29 pk0 by
    rw [hW0]
    have := Blk.new (w.alloc (.cells pk0 29)) 29 pk0
    simpa using this)
  unfold pk0 at HK HK2 hW0
  have HW0 := Lib.hid hW0
  have ks : Calls Try.prog 13 #[.slice none 0 0, .slice none 0 0] W0 fun e w' => e = .returned (.bool true) ∧ W0 = w' := same_c [] none none 0 0 W0 (.inl rfl) (.inl rfl)
  obtain ⟨c0, c1, c2, c3, c4, c5⟩ := load_pkt HK.out
  obtain ⟨d0, d1, d2, d3, d4, d5⟩ := load_pkt HK2.out
  clear hW0
  go_enter Try.func19, Try.ntmps19
  go_upto_region 1 with fail
  rw [← HW0.out]
  go_wp2_with (first | (go_at_call 13; (with_reducible refine ks.mono ?_); rintro e wn ⟨rfl, rfl⟩) | fail)
  go_ret
  exact ⟨rfl, HB.out⟩
end Go.Proofs.Ytpnnmibdboelpaa
