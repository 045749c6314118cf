/-
  Contract of the code of layer 5: Bands.
-/
import Derived.Test.YtnfnidgabgdphaaDcA
import Derived.Test.YtnfnidgabgdphaaIn
set_option maxRecDepth 100000
namespace Go.Proofs.Ytnfnidgabgdphaa
open Go.RowKit

theorem cd2 {a : Int} (h : 0 ≤ a) : Pl.cd a 2 = hfI a false := by
  have t1 : a.tmod 2 = a % 2 := Int.tmod_eq_emod_of_nonneg h
  have t2 : a.tdiv 2 = a / 2 := Int.tdiv_eq_ediv_of_nonneg h
  rw [Pl.cd, if_neg (by decide), t1, t2, hfI]
  split <;> simp <;> omega
theorem fd2 {a : Int} (h : 0 ≤ a) : Pl.fd a 2 = hfI a true := by
  have t1 : a.tmod 2 = a % 2 := Int.tmod_eq_emod_of_nonneg h
  have t2 : a.tdiv 2 = a / 2 := Int.tdiv_eq_ediv_of_nonneg h
  rw [Pl.fd, if_neg (by decide), t1, t2, hfI]
  rw [if_neg (by omega)]
  simp
/-- The worlds of the last statement of Bands: the two rectangles lie, and the result's block. -/
structure BdW (w : World) (L H : Nat) (lo hi : Pl.R) (W : World) : Prop where
  below : Below w.heap.size w W
  low : Box W L lo
  high : Box W H hi
  res : Blk W (w.heap.size + 1) 24 (arr4 fun _ => zR)
theorem BdW.step {w W W1 : World} {L H : Nat} {lo hi : Pl.R} (h : BdW w L H lo hi W) (hb : Below W.heap.size W W1) : BdW w L H lo hi W1 := ⟨below_call h.below hb, h.low.below hb, h.high.below hb, h.res.below hb⟩
structure BdF (w : World) (L H : Nat) (lo hi : Pl.R) where
  W : World
  ok : BdW w L H lo hi W
set_option maxHeartbeats 4000000 in
theorem bands_q (a b c d : Int) (w : World) : Calls Try.prog 17 #[.agg #[.int .i64 a, .int .i64 b, .int .i64 c, .int .i64 d]] w fun e w' => e = .returned (.agg (arr4 (bnds ⟨a, b, c, d⟩))) ∧ Below w.heap.size w w' := by
  have x1 := (Box.fresh w a b c d 23).alloc (arr4 fun _ => zR) 24
  have x2 := Blk.freshAt (w.alloc (.cells #[.int .i64 a, .int .i64 b, .int .i64 c, .int .i64 d] 23)) (w.heap.size + 1) (by simp) 24 (arr4 fun _ => zR)
  have B1 := below_alloc (below_alloc (Below.refl w.heap.size w) (.cells #[.int .i64 a, .int .i64 b, .int .i64 c, .int .i64 d] 23)) (.cells (arr4 fun _ => zR) 24)
  go_enter Try.func17, Try.ntmps17
  obtain ⟨c0, c1, c2, c3⟩ := x1.open
  go_wp2_with fail
  clear c0 c1 c2 c3
  refine (valid_c _ _ _ _ _).mono ?_
  rintro e w1 ⟨rfl, hb⟩
  replace x1 := x1.below hb
  replace x2 := x2.below hb
  replace B1 := below_call B1 hb
  clear hb
  cases hv : Pl.validB a b c d with
  | false =>
    have hz : bnds ⟨a, b, c, d⟩ = fun _ => zR := funext fun o => if_neg (by simp [hv])
    go_wp2_with (first | (refine wpList_store_row rfl 24 (.tmp 2) (.tmp 8) rfl (w.heap.size + 1) (arr4 fun _ => zR) rfl rfl 24 _ x2 info16 rfl (one16 _) ?_))
    refine bodyPost_ret (results_cell_row rfl _ _ (w.heap.size + 1) 24 (arr4 fun _ => zR) (0, 0) _ rfl (x2.row _) Try.underlying24 rfl info16) rfl ⟨by rw [hz], below_row B1 (Nat.le_succ _) _⟩
  | true =>
    obtain ⟨v1, v2, v3, v4, v5, v6⟩ := Pl.valid_iff.1 hv
    have hR : Pl.redR a b c d 2 2 = ⟨hfI a false, hfI b false, hfI c false, hfI d false⟩ := by
      rw [Pl.redR, if_pos ⟨hv, by decide, by decide⟩, cd2 (by omega), cd2 (by omega), cd2 (by omega), cd2 (by omega)]
    obtain ⟨c0, c1, c2, c3⟩ := x1.open
    go_wp2_with fail
    clear c0 c1 c2 c3
    refine (red_c _ _ _ _ _ _ _).mono ?_
    rw [hR]
    rintro e w2 ⟨rfl, hb⟩
    replace x1 := x1.below hb
    replace x2 := x2.below hb
    replace B1 := below_call B1 hb
    clear hb hR
    go_upto_region 4 with fail
    obtain ⟨W3, hW3⟩ : ∃ W3, W3 = w2.alloc (.cells #[.int .i64 (hfI a false), .int .i64 (hfI b false), .int .i64 (hfI c false), .int .i64 (hfI d false)] 23) := ⟨_, rfl⟩
    have y1 : Box W3 w.heap.size ⟨a, b, c, d⟩ := hW3 ▸ x1.alloc _ _
    have y2 : Blk W3 (w.heap.size + 1) 24 (arr4 fun _ => zR) := hW3 ▸ x2.alloc _
    have y3 : Box W3 w2.heap.size ⟨hfI a false, hfI b false, hfI c false, hfI d false⟩ := hW3 ▸ Box.fresh w2 _ _ _ _ _
    have B3 : Below w.heap.size w W3 := hW3 ▸ below_alloc B1 _
    rw [← hW3]
    clear hW3 x1 x2 B1
    obtain ⟨c0, c1, c2, c3⟩ := y1.open
    go_cut [4] (fun s4 wx => ∃ g : Nat, s4 = .pointer (some ⟨g, 0, none⟩) ∧ BdW w w2.heap.size g ⟨hfI a false, hfI b false, hfI c false, hfI d false⟩ ⟨Pl.fd a 2, Pl.fd b 2, Pl.fd c 2, Pl.fd d 2⟩ wx)
    case first =>
      go_region_held3 (fun w' => w'.cell? ⟨w.heap.size, 0, none⟩ = some (.int .i64 a) ∧ w'.cell? ⟨w.heap.size, 1, none⟩ = some (.int .i64 b) ∧ w'.cell? ⟨w.heap.size, 2, none⟩ = some (.int .i64 c) ∧ w'.cell? ⟨w.heap.size, 3, none⟩ = some (.int .i64 d))
        (first | assumption | (simp [World.cell?_alloc_some, c0, c1, c2, c3]; done))
        (first | (go_at_call 30; (with_reducible refine (fd_c _ _ _ (by omega) (by omega)).mono ?_); rintro e w3 ⟨rfl, rfl⟩))
      all_goals
        go_wp2_with fail
        go_meet
        exact ⟨W3.heap.size, rfl, below_alloc B3.drew _, (y3.alloc _ _).drew, (Box.fresh W3 _ _ _ _ _).drew, (y2.alloc _).drew⟩
    case rest =>
      obtain ⟨g, rfl, hS⟩ := hcut
      rw [fd2 (by omega), fd2 (by omega), fd2 (by omega), fd2 (by omega)] at hS
      clear c0 c1 c2 c3 y1 y2 y3 B3
      have hst : ∀ (X : BdF w w2.heap.size g ⟨hfI a false, hfI b false, hfI c false, hfI d false⟩ ⟨hfI a true, hfI b true, hfI c true, hfI d true⟩) (w' : World), Below X.W.heap.size X.W w' → ∃ Y : BdF w w2.heap.size g ⟨hfI a false, hfI b false, hfI c false, hfI d false⟩ ⟨hfI a true, hfI b true, hfI c true, hfI d true⟩, w' = Y.W := fun X w' hb => ⟨⟨w', X.ok.step hb⟩, rfl⟩
      have hne : Nonempty (BdF w w2.heap.size g ⟨hfI a false, hfI b false, hfI c false, hfI d false⟩ ⟨hfI a true, hfI b true, hfI c true, hfI d true⟩) := ⟨⟨_, hS⟩⟩
      have l0 : ∀ X : BdF w w2.heap.size g ⟨hfI a false, hfI b false, hfI c false, hfI d false⟩ ⟨hfI a true, hfI b true, hfI c true, hfI d true⟩, X.W.cell? ⟨w2.heap.size, 0, none⟩ = some (.int .i64 (hfI a false)) := fun X => X.ok.low.open.1
      have l1 : ∀ X : BdF w w2.heap.size g ⟨hfI a false, hfI b false, hfI c false, hfI d false⟩ ⟨hfI a true, hfI b true, hfI c true, hfI d true⟩, X.W.cell? ⟨w2.heap.size, 1, none⟩ = some (.int .i64 (hfI b false)) := fun X => X.ok.low.open.2.1
      have l2 : ∀ X : BdF w w2.heap.size g ⟨hfI a false, hfI b false, hfI c false, hfI d false⟩ ⟨hfI a true, hfI b true, hfI c true, hfI d true⟩, X.W.cell? ⟨w2.heap.size, 2, none⟩ = some (.int .i64 (hfI c false)) := fun X => X.ok.low.open.2.2.1
      have l3 : ∀ X : BdF w w2.heap.size g ⟨hfI a false, hfI b false, hfI c false, hfI d false⟩ ⟨hfI a true, hfI b true, hfI c true, hfI d true⟩, X.W.cell? ⟨w2.heap.size, 3, none⟩ = some (.int .i64 (hfI d false)) := fun X => X.ok.low.open.2.2.2
      have h0 : ∀ X : BdF w w2.heap.size g ⟨hfI a false, hfI b false, hfI c false, hfI d false⟩ ⟨hfI a true, hfI b true, hfI c true, hfI d true⟩, X.W.cell? ⟨g, 0, none⟩ = some (.int .i64 (hfI a true)) := fun X => X.ok.high.open.1
      have h1 : ∀ X : BdF w w2.heap.size g ⟨hfI a false, hfI b false, hfI c false, hfI d false⟩ ⟨hfI a true, hfI b true, hfI c true, hfI d true⟩, X.W.cell? ⟨g, 1, none⟩ = some (.int .i64 (hfI b true)) := fun X => X.ok.high.open.2.1
      have h2 : ∀ X : BdF w w2.heap.size g ⟨hfI a false, hfI b false, hfI c false, hfI d false⟩ ⟨hfI a true, hfI b true, hfI c true, hfI d true⟩, X.W.cell? ⟨g, 2, none⟩ = some (.int .i64 (hfI c true)) := fun X => X.ok.high.open.2.2.1
      have h3 : ∀ X : BdF w w2.heap.size g ⟨hfI a false, hfI b false, hfI c false, hfI d false⟩ ⟨hfI a true, hfI b true, hfI c true, hfI d true⟩, X.W.cell? ⟨g, 3, none⟩ = some (.int .i64 (hfI d true)) := fun X => X.ok.high.open.2.2.2
      go_upto_region 5 with fail
      refine wp_region_qt (fun w' => ∃ X : BdF w w2.heap.size g ⟨hfI a false, hfI b false, hfI c false, hfI d false⟩ ⟨hfI a true, hfI b true, hfI c true, hfI d true⟩, w' = X.W) 9 (by kernel_rfl) (by kernel_rfl) ⟨⟨_, hS.step (Below.refl _ _).drew⟩, rfl⟩ ?_
      simp only [List.take_succ_cons, List.take_zero, List.drop_succ_cons, List.drop_zero]
      repeat (first | go_big_quiet_step ((first | (go_at_call 60; exact call_in (across_q _ _ _ _ _ _ _ _ _) (hst _)))) | quiet_step ((first | (go_at_call 60; exact call_in (across_q _ _ _ _ _ _ _ _ _) (hst _)))))
      refine wpQuiet_nil ?_
      intro w5 hw'
      obtain ⟨⟨_, hS5⟩, hw''⟩ := hw'
      subst hw''
      clear hst hne l0 l1 l2 l3 h0 h1 h2 h3 hS
      have x2 := hS5.res
      have hz : bnds ⟨a, b, c, d⟩ = bndR ⟨a, b, c, d⟩ := funext fun o => if_pos hv
      go_wp2_with (first | (refine wpList_store_row rfl 24 (.tmp 2) (.tmp 32) rfl (w.heap.size + 1) (arr4 (bndR ⟨a, b, c, d⟩)) rfl rfl 24 _ x2 info16 rfl (one16 _) ?_))
      refine bodyPost_ret (results_cell_row rfl _ _ (w.heap.size + 1) 24 (arr4 (bndR ⟨a, b, c, d⟩)) (0, 0) _ rfl (x2.row _) Try.underlying24 rfl info16) rfl ⟨by rw [hz], below_row hS5.below (Nat.le_succ _) _⟩
end Go.Proofs.Ytnfnidgabgdphaa
