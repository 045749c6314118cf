/-
  Layer 23: contracts of known, Precinct, blockExponents, precinctsFit; of layer 6: Count, exists, first.
-/
import Derived.Test.YtkcjbehfhcmiaaaHc
set_option maxRecDepth 100000
namespace Go.Proofs.Ytkcjbehfhcmiaaa
open Go.RowKit

theorem results_p1 {fn : Func} {p : Tmp} (h : fn.results = #[.cell p 41]) (tmps : Array Value) {W : World} {g : Nat} {a b : Value} (hp : tmps.getD p undef = .pointer (some ⟨g, 0, none⟩)) (B : Blk W g 41 #[a, b]) :
    (results fn tmps).run Try.prog W = .ok (.agg #[a, b]) W := by
  have e : (asAddr (.pointer (some ⟨g, 0, none⟩))).run Try.prog W = .ok (⟨g, 0, none⟩ : Addr) W := rfl
  have k : (results fn tmps).run Try.prog W = ((asAddr (tmps.getD p undef)).run Try.prog W).andThen fun a w₁ => (loadVar 41 a).run Try.prog w₁ := by
    simp only [results, h]
    simp [Sem.run_bind, Result.andThen]
  rw [k, hp, e]
  simp only [Result.andThen]
  rw [load_point B]
theorem below2 {B b : Nat} {a w : World} (h : Below B a w) (hb : B ≤ b) (v0 v1 : Value) : Below B a ((w.setCell ⟨b, 0, none⟩ v0).setCell ⟨b, 1, none⟩ v1) := (h.setCell hb _).setCell hb _
theorem within_one_k (lo hi x : Int) (W : World) (B : Nat) (hB : B = W.heap.size) : Calls Try.prog 61 #[.int .i64 lo, .int .i64 hi, .slice (some ⟨B, 0, none⟩) 1 1] (W.alloc (.cells #[.int .i64 x] 27)) fun e w' => e = .returned (.bool (Hp.inB lo hi x)) ∧ w' = W.alloc (.cells #[.int .i64 x] 27) := by
  subst hB
  rw [← Hp.all_one]
  refine within_k lo hi [x] _ 1 _ (by simp) (.inr ⟨W.heap.size, 0, rfl, fun k hk => ?_⟩)
  obtain rfl : k = 0 := by simpa using hk
  simp
theorem within_one_t (lo hi x : Int) (W : World) (B : Nat) (hB : B = W.heap.size) : Calls Try.prog 62 #[.int .i64 lo, .int .i64 hi, .slice (some ⟨B, 0, none⟩) 1 1] (W.alloc (.cells #[.int .i64 x] 28)) fun e w' => e = .returned (.bool (Hp.inB lo hi x)) ∧ w' = W.alloc (.cells #[.int .i64 x] 28) := by
  subst hB
  rw [← Hp.all_one]
  refine within_t lo hi [x] _ 1 _ (by simp) (.inr ⟨W.heap.size, 0, rfl, fun k hk => ?_⟩)
  obtain rfl : k = 0 := by simpa using hk
  simp
theorem within_one_o (lo hi x : Int) (W : World) (B : Nat) (hB : B = W.heap.size) : Calls Try.prog 63 #[.int .i64 lo, .int .i64 hi, .slice (some ⟨B, 0, none⟩) 1 1] (W.alloc (.cells #[.int .i64 x] 30)) fun e w' => e = .returned (.bool (Hp.inB lo hi x)) ∧ w' = W.alloc (.cells #[.int .i64 x] 30) := by
  subst hB
  rw [← Hp.all_one]
  refine within_o lo hi [x] _ 1 _ (by simp) (.inr ⟨W.heap.size, 0, rfl, fun k hk => ?_⟩)
  obtain rfl : k = 0 := by simpa using hk
  simp
set_option maxHeartbeats 4000000 in
theorem known_c (p : Hp.Ps) (s s2 : Option Addr) (m m2 : Nat) (W : World) : Calls Try.prog 30 #[.agg (pvA p s m s2 m2)] W fun e w' => e = .returned (.bool (Hp.knB p)) ∧ Below W.heap.size W w' := by
  obtain ⟨WB, hWB⟩ : ∃ ww, ww = (W.alloc (.cells (pvA p s m s2 m2) 35)) := ⟨_, rfl⟩
  have hb0 : Below W.heap.size W WB := by rw [hWB]; exact (below_alloc (Below.refl _ W) (Nat.le_refl _) _)
  have B0 := Lib.hid hb0
  have hP : Blk WB (W.heap.size) 35 (pvA p s m s2 m2) := by
    have := Blk.new (W) 35 (pvA p s m s2 m2)
    rw [hWB]
    exact (show Blk _ (W.heap.size) _ _ by simpa using this)
  have HP0 := Lib.hid hP
  have HWB := Lib.hid hWB
  clear hb0 hWB hP
  have HP1 := Lib.hid (HP0.out.alloc (.cells #[.int .i64 p.kern] 27))
  have HP2 := Lib.hid (HP1.out.alloc (.cells #[.int .i64 p.col] 28))
  have B1 := Lib.hid (below_alloc B0.out B0.out.size (.cells #[.int .i64 p.kern] 27))
  have B2 := Lib.hid (below_alloc B1.out B1.out.size (.cells #[.int .i64 p.col] 28))
  have B3 := Lib.hid (below_alloc B2.out B2.out.size (.cells #[.int .i64 p.ord] 30))
  have hs : WB.heap.size = W.heap.size + 1 := by rw [HWB.out]; simp
  have k1 := within_one_k 1 3 p.kern WB (W.heap.size + 1) hs.symm
  have k2 := within_one_t 0 2 p.col (WB.alloc (.cells #[.int .i64 p.kern] 27)) (W.heap.size + 1 + 1) (by simp [hs])
  have k3 := within_one_o 1 5 p.ord ((WB.alloc (.cells #[.int .i64 p.kern] 27)).alloc (.cells #[.int .i64 p.col] 28)) (W.heap.size + 1 + 1 + 1) (by simp [hs])
  have p2 := HP1.out.get 2 (v := .int .i64 p.col) rfl
  have q6 := HP2.out.get 6 (v := .int .i64 p.ord) rfl
  rw [HWB.out] at k1 k2 k3 p2 q6
  clear hs
  unfold pvA at k1 k2 k3 p2 q6 ⊢
  have HK := Lib.hid (show Hp.knB p = (Hp.inB 1 3 p.kern && (Hp.inB 0 2 p.col && Hp.inB 1 5 p.ord)) from rfl)
  cases h1 : Hp.inB 1 3 p.kern with
  | false =>
    rw [show Hp.knB p = false by rw [HK.out, h1]; rfl]
    rw [h1] at k1
    clear h1 HK
    go_enter Try.func30, Try.ntmps30
    go_wp2_with (first | (go_at_call 61; (with_reducible refine k1.mono ?_); rintro e wn ⟨rfl, rfl⟩) | (go_at_call 62; (with_reducible refine k2.mono ?_); rintro e wn ⟨rfl, rfl⟩) | (go_at_call 63; (with_reducible refine k3.mono ?_); rintro e wn ⟨rfl, rfl⟩) | fail)
    go_ret
    exact ⟨rfl, HWB.out ▸ B1.out⟩
  | true =>
    rw [h1] at k1
    cases h2 : Hp.inB 0 2 p.col with
    | false =>
      rw [show Hp.knB p = false by rw [HK.out, h1, h2]; rfl]
      rw [h2] at k2
      clear h1 h2 HK
      go_enter Try.func30, Try.ntmps30
      go_wp2_with (first | (go_at_call 61; (with_reducible refine k1.mono ?_); rintro e wn ⟨rfl, rfl⟩) | (go_at_call 62; (with_reducible refine k2.mono ?_); rintro e wn ⟨rfl, rfl⟩) | (go_at_call 63; (with_reducible refine k3.mono ?_); rintro e wn ⟨rfl, rfl⟩) | fail)
      go_ret
      exact ⟨rfl, HWB.out ▸ B2.out⟩
    | true =>
      rw [show Hp.knB p = Hp.inB 1 5 p.ord by rw [HK.out, h1, h2]; rfl]
      rw [h2] at k2
      clear h1 h2 HK
      generalize Hp.inB 1 5 p.ord = bo at *
      go_enter Try.func30, Try.ntmps30
      go_wp2_with (first | (go_at_call 61; (with_reducible refine k1.mono ?_); rintro e wn ⟨rfl, rfl⟩) | (go_at_call 62; (with_reducible refine k2.mono ?_); rintro e wn ⟨rfl, rfl⟩) | (go_at_call 63; (with_reducible refine k3.mono ?_); rintro e wn ⟨rfl, rfl⟩) | fail)
      go_ret
      exact ⟨rfl, HWB.out ▸ B3.out⟩
set_option maxHeartbeats 4000000 in
theorem precinct_p (p : Hp.Ps) (s s2 : Option Addr) (m m2 : Nat) (res : Int) (W : World) (hP : HoldsP W s p.prec) : Calls Try.prog 13 #[.agg (pvA p s m s2 m2), .int .i64 res] W fun e w' => e = .returned (.agg #[.int .i64 (Hp.precM p res).x, .int .i64 (Hp.precM p res).y]) ∧ Below W.heap.size W w' := by
  obtain ⟨WB, hWB⟩ : ∃ ww, ww = ((W.alloc (.cells (pvA p s m s2 m2) 35)).alloc (.cells #[.int .i64 0, .int .i64 0] 41)) := ⟨_, rfl⟩
  have hb0 : Below W.heap.size W WB := by rw [hWB]; exact (below_alloc (below_alloc (Below.refl _ W) (Nat.le_refl _) _) (by simp <;> omega) _)
  have B0 := Lib.hid hb0
  have hP : Blk WB (W.heap.size) 35 (pvA p s m s2 m2) := by
    have := Blk.new (W) 35 (pvA p s m s2 m2)
    rw [hWB]
    exact ((show Blk _ (W.heap.size) _ _ by simpa using this)).alloc _
  have HP0 := Lib.hid hP
  have hY : Blk WB (W.heap.size + 1) 41 #[.int .i64 0, .int .i64 0] := by
    have := Blk.new ((W.alloc (.cells (pvA p s m s2 m2) 35))) 41 #[.int .i64 0, .int .i64 0]
    rw [hWB]
    exact (show Blk _ (W.heap.size + 1) _ _ by simpa using this)
  have HY0 := Lib.hid hY
  have HWB := Lib.hid hWB
  clear hb0 hWB hP hY
  have hP1 := HP0.out.alloc (.cells #[.int .i64 res] 3)
  have hY1 := HY0.out.alloc (.cells #[.int .i64 res] 3)
  have B1 := below_alloc B0.out B0.out.size (.cells #[.int .i64 res] 3)
  have hs : WB.heap.size = W.heap.size + 1 + 1 := by rw [HWB.out]; simp
  have kw0 := within_oneB 0 p.lev res WB (W.heap.size + 1 + 1) hs.symm
  have kw := kw0.mono (R' := fun e w' => e = .returned (.bool (Hp.inB 0 p.lev res)) ∧ Below W.heap.size W w' ∧ Blk w' (W.heap.size + 1) 41 #[.int .i64 0, .int .i64 0] ∧ w'.cell? ⟨W.heap.size, 5, none⟩ = some (.slice s p.prec.length m)) (by rintro e w' ⟨rfl, rfl⟩; exact ⟨rfl, B1, hY1, hP1.get 5 rfl⟩)
  clear kw0 hP1 hY1 B1 hs
  rw [HWB.out] at kw
  clear B0 HP0 HY0 HWB
  unfold pvA at kw ⊢
  have HM := Lib.hid (show Hp.precM p res = if res < 0 ∨ p.lev < res then Hp.zP else if p.prec.length = 0 then ⟨12, 12⟩ else if (p.prec.length : Int) ≤ res then Hp.zP else p.prec.getD res.toNat Hp.zP from rfl)
  cases h1 : Hp.inB 0 p.lev res with
  | false =>
    rw [show Hp.precM p res = ⟨0, 0⟩ by rw [HM.out, if_pos (Hp.in_not.1 h1)]; rfl]
    rw [h1] at kw
    clear h1 HM
    go_enter Try.func13, Try.ntmps13
    go_wp2_with (first | (go_at_call 41; (with_reducible refine kw.mono ?_); rintro e wn ⟨rfl, hBn, hYn, p5⟩; obtain ⟨y0, y1⟩ := hYn.two; have yf := hYn.free; have HYn := Lib.hid hYn; have BN := Lib.hid hBn; clear hYn hBn) | fail)
    refine bodyPost_ret (results_p1 rfl _ rfl (HYn.out.set2 _ _)) rfl ?_
    exact ⟨rfl, below2 BN.out (by omega) _ _⟩
  | true =>
    have g1 : ¬ (res < 0 ∨ p.lev < res) := by have := Hp.in_iff.1 h1; omega
    have g0 : 0 ≤ res := by omega
    rw [h1] at kw
    by_cases h2 : p.prec.length = 0
    · rw [show Hp.precM p res = ⟨12, 12⟩ by rw [HM.out, if_neg g1, if_pos h2]]
      have t1 : ((p.prec.length : Int) == 0) = true := by simp [h2]
      have t2 : (p.prec.length == 0) = true := by simp [h2]
      clear h1 HM g1 h2
      go_enter Try.func13, Try.ntmps13
      go_wp2_with (first | (go_at_call 41; (with_reducible refine kw.mono ?_); rintro e wn ⟨rfl, hBn, hYn, p5⟩; obtain ⟨y0, y1⟩ := hYn.two; have yf := hYn.free; have HYn := Lib.hid hYn; have BN := Lib.hid hBn; clear hYn hBn) | fail)
      refine bodyPost_ret (results_p1 rfl _ rfl (HYn.out.set2 _ _)) rfl ?_
      exact ⟨rfl, below2 BN.out (by omega) _ _⟩
    · have t1 : ((p.prec.length : Int) == 0) = false := by simp [h2]
      have t2 : (p.prec.length == 0) = false := by simp [h2]
      by_cases h3 : (p.prec.length : Int) ≤ res
      · rw [show Hp.precM p res = ⟨0, 0⟩ by rw [HM.out, if_neg g1, if_neg h2, if_pos h3]; rfl]
        clear h1 HM g1 h2
        go_enter Try.func13, Try.ntmps13
        go_wp2_with (first | (go_at_call 41; (with_reducible refine kw.mono ?_); rintro e wn ⟨rfl, hBn, hYn, p5⟩; obtain ⟨y0, y1⟩ := hYn.two; have yf := hYn.free; have HYn := Lib.hid hYn; have BN := Lib.hid hBn; clear hYn hBn) | fail)
        refine bodyPost_ret (results_p1 rfl _ rfl (HYn.out.set2 _ _)) rfl ?_
        exact ⟨rfl, below2 BN.out (by omega) _ _⟩
      · obtain ⟨k, rfl⟩ : ∃ k : Nat, res = k := ⟨res.toNat, by omega⟩
        have hk : k < p.prec.length := by omega
        have HE := Lib.hid (show Hp.precM p k = p.prec[k] by rw [HM.out, if_neg g1, if_neg h2, if_neg h3]; simp [List.getD_eq_getElem?_getD, hk])
        rw [HE.out]
        rcases hP with q | ⟨b, o, rfl, hr⟩
        · rw [q] at hk; simp at hk
        have HPT := Lib.hid (hr k hk)
        generalize p.prec[k] = V at *
        clear h1 HM HE hr g1 h2
        go_enter Try.func13, Try.ntmps13
        go_wp2_with (first | (go_at_call 41; (with_reducible refine kw.mono ?_); rintro e wn ⟨rfl, hBn, hYn, p5⟩; obtain ⟨y0, y1⟩ := hYn.two; have yf := hYn.free; obtain ⟨c0, c1⟩ := HPT.out.below hBn (Nat.le_refl _); have HYn := Lib.hid hYn; have BN := Lib.hid hBn; clear hYn hBn) | fail)
        refine bodyPost_ret (results_p1 rfl _ rfl (HYn.out.set2 _ _)) rfl ?_
        exact ⟨rfl, below2 BN.out (by omega) _ _⟩
end Go.Proofs.Ytkcjbehfhcmiaaa
