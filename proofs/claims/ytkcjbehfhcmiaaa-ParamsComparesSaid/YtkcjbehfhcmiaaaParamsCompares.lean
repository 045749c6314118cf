/-
  For all headers and parameters the statement ParamsCompares returns true.
  Conditions: none beyond those of the given statement.
-/
import Derived.Test.YtkcjbehfhcmiaaaHz2
import Derived.Test.YtkcjbehfhcmiaaaHg
import Derived.Test.YtkcjbehfhcmiaaaJp
import Derived.Test.YtkcjbehfhcmiaaaJs
import Derived.Test.YtkcjbehfhcmiaaaJt
import Derived.Test.YtkcjbehfhcmiaaaJuA
import Derived.Test.YtkcjbehfhcmiaaaJuB
import Derived.Test.YtkcjbehfhcmiaaaJo
import Derived.Test.YtkcjbehfhcmiaaaJe
import Derived.Deep.MidRow
set_option maxRecDepth 100000
namespace Go.Proofs.Ytkcjbehfhcmiaaa
open Go.RowKit

theorem rsamePs_c (p q : Hp.Ps) (s s' s2 s2' : Option Addr) (m m' m2 m2' : Nat) (W : World) (l1 : p.prec.length ≤ 4398046511104) (l1' : q.prec.length ≤ 4398046511104) (l2 : p.steps.length ≤ 4398046511104) (l2' : q.steps.length ≤ 4398046511104) (hP : HoldsP W s p.prec) (hP' : HoldsP W s' q.prec) (hS : HoldsI W s2 p.steps) (hS' : HoldsI W s2' q.steps) :
    Calls Try.prog 23 #[.agg (pvA p s m s2 m2), .agg (pvA q s' m' s2' m2')] W fun e w' => e = .returned (.bool (eqPs p q)) ∧ Below W.heap.size W w' := by
  by_cases h0 : (p.kern = q.kern ∧ p.lev = q.lev ∧ p.col = q.col)
  case neg =>
    have z : eqPs p q = false := by
      cases hz : eqPs p q with
      | false => rfl
      | true =>
        unfold eqPs at hz
        simp only [Bool.and_eq_true, decide_eq_true_eq] at hz
        exact absurd (by
          obtain ⟨z0, z1, z2, z3, z4, z5, z6, z7, z8, z9, z10, z11, z12, z13, z14⟩ := (show _ ∧ _ ∧ _ ∧ _ ∧ _ ∧ _ ∧ _ ∧ _ ∧ _ ∧ _ ∧ _ ∧ _ ∧ _ ∧ _ ∧ _ by simpa only [and_assoc] using hz)
          first | exact ⟨z0, z1, z2⟩) h0
    rw [z]
    exact rsP_no0 p q s s' s2 s2' m m' m2 m2' W l1 l1' l2 l2'  h0 hP hP' hS hS'
  case pos =>
    obtain ⟨e0, e1, e2⟩ := h0
    by_cases h1 : (p.bx = q.bx ∧ p.yb = q.yb ∧ p.ord = q.ord)
    case neg =>
      have z : eqPs p q = false := by
        cases hz : eqPs p q with
        | false => rfl
        | true =>
          unfold eqPs at hz
          simp only [Bool.and_eq_true, decide_eq_true_eq] at hz
          exact absurd (by
            obtain ⟨z0, z1, z2, z3, z4, z5, z6, z7, z8, z9, z10, z11, z12, z13, z14⟩ := (show _ ∧ _ ∧ _ ∧ _ ∧ _ ∧ _ ∧ _ ∧ _ ∧ _ ∧ _ ∧ _ ∧ _ ∧ _ ∧ _ ∧ _ by simpa only [and_assoc] using hz)
            first | exact ⟨z3, z4, z6⟩) h1
      rw [z]
      exact rsP_no1 p q s s' s2 s2' m m' m2 m2' W l1 l1' l2 l2' e0 e1 e2 h1 hP hP' hS hS'
    case pos =>
      obtain ⟨e3, e4, e5⟩ := h1
      by_cases h2 : (p.lay = q.lay ∧ eqM p q = true ∧ p.dv = q.dv)
      case neg =>
        have z : eqPs p q = false := by
          cases hz : eqPs p q with
          | false => rfl
          | true =>
            unfold eqPs at hz
            simp only [Bool.and_eq_true, decide_eq_true_eq] at hz
            exact absurd (by
              obtain ⟨z0, z1, z2, z3, z4, z5, z6, z7, z8, z9, z10, z11, z12, z13, z14⟩ := (show _ ∧ _ ∧ _ ∧ _ ∧ _ ∧ _ ∧ _ ∧ _ ∧ _ ∧ _ ∧ _ ∧ _ ∧ _ ∧ _ ∧ _ by simpa only [and_assoc] using hz)
              first | exact ⟨z7, z8, z9⟩) h2
        rw [z]
        exact rsP_no2 p q s s' s2 s2' m m' m2 m2' W l1 l1' l2 l2' e0 e1 e2 e3 e4 e5 h2 hP hP' hS hS'
      case pos =>
        obtain ⟨e6, e7, e8⟩ := h2
        by_cases h3 : (p.sy = q.sy ∧ p.fe = q.fe ∧ p.dead = q.dead)
        case neg =>
          have z : eqPs p q = false := by
            cases hz : eqPs p q with
            | false => rfl
            | true =>
              unfold eqPs at hz
              simp only [Bool.and_eq_true, decide_eq_true_eq] at hz
              exact absurd (by
                obtain ⟨z0, z1, z2, z3, z4, z5, z6, z7, z8, z9, z10, z11, z12, z13, z14⟩ := (show _ ∧ _ ∧ _ ∧ _ ∧ _ ∧ _ ∧ _ ∧ _ ∧ _ ∧ _ ∧ _ ∧ _ ∧ _ ∧ _ ∧ _ by simpa only [and_assoc] using hz)
                first | exact ⟨z10, z11, z13⟩) h3
          rw [z]
          exact rsP_no3 p q s s' s2 s2' m m' m2 m2' W l1 l1' l2 l2' e0 e1 e2 e3 e4 e5 e6 e7 e8 h3 hP hP' hS hS'
        case pos =>
          obtain ⟨e9, e10, e11⟩ := h3
          by_cases h4 : (p.sh = q.sh ∧ p.prec.length = q.prec.length ∧ p.steps.length = q.steps.length)
          case neg =>
            have z : eqPs p q = false := by
              cases hz : eqPs p q with
              | false => rfl
              | true =>
                unfold eqPs at hz
                simp only [Bool.and_eq_true, decide_eq_true_eq] at hz
                exact absurd (by
                  obtain ⟨z0, z1, z2, z3, z4, z5, z6, z7, z8, z9, z10, z11, z12, z13, z14⟩ := (show _ ∧ _ ∧ _ ∧ _ ∧ _ ∧ _ ∧ _ ∧ _ ∧ _ ∧ _ ∧ _ ∧ _ ∧ _ ∧ _ ∧ _ by simpa only [and_assoc] using hz)
                  first | exact ⟨z14, congrArg List.length z5, congrArg List.length z12⟩) h4
            rw [z]
            exact rsP_no4 p q s s' s2 s2' m m' m2 m2' W l1 l1' l2 l2' e0 e1 e2 e3 e4 e5 e6 e7 e8 e9 e10 e11 h4 hP hP' hS hS'
          case pos =>
            obtain ⟨e12, e13, e14⟩ := h4
            have z : eqPs p q = (decide (p.prec = q.prec) && decide (p.steps = q.steps)) := by
              unfold eqPs
              simp only [e0, e1, e2, e3, e4, e5, e6, e7, e8, e9, e10, e11, e12, decide_true, Bool.and_true, Bool.true_and]
            rw [z]
            exact rsP_yes p q s s' s2 s2' m m' m2 m2' W l1 l1' l2 l2' e0 e1 e2 e3 e4 e5 e6 e7 e8 e9 e10 e11 e12 e13 e14 hP hP' hS hS'
set_option maxHeartbeats 8000000 in
theorem same_c (a b : Hp.Hd) (sa sb : Option Addr) (ma mb : Nat) (p q : Hp.Ps) (s s' s2 s2' : Option Addr) (m m' m2 m2' : Nat) (W : World) (l1 : p.prec.length ≤ 4398046511104) (l1' : q.prec.length ≤ 4398046511104) (l2 : p.steps.length ≤ 4398046511104) (l2' : q.steps.length ≤ 4398046511104) (hP : HoldsP W s p.prec) (hP' : HoldsP W s' q.prec) (hS : HoldsI W s2 p.steps) (hS' : HoldsI W s2' q.steps) (la : a.cs.length ≤ 4398046511104) (lb : b.cs.length ≤ 4398046511104) (hC : HoldsC W sa a.cs) (hC' : HoldsC W sb b.cs) :
    Calls Try.prog 19 #[.agg (hvA a sa ma), .agg (hvA b sb mb), .agg (pvA p s m s2 m2), .agg (pvA q s' m' s2' m2')] W fun e w' => e = .returned (.tuple #[.bool (eqHd a b), .bool (eqPs p q)]) ∧ Below W.heap.size W w' := by
  obtain ⟨WB, hWB⟩ : ∃ ww, ww = ((((W.alloc (.cells (hvA a sa ma) 26)).alloc (.cells (hvA b sb mb) 26)).alloc (.cells (pvA p s m s2 m2) 35)).alloc (.cells (pvA q s' m' s2' m2') 35)) := ⟨_, rfl⟩
  have hb0 : Below W.heap.size W WB := by rw [hWB]; exact below_alloc (below_alloc (below_alloc (below_alloc (Below.refl _ W) (Nat.le_refl _) _) (by simp) _) (by simp <;> omega) _) (by simp <;> omega) _
  have n1 := Blk.new W 26 (hvA a sa ma)
  have n2 := Blk.new (W.alloc (.cells (hvA a sa ma) 26)) 26 (hvA b sb mb)
  have n3 := Blk.new ((W.alloc (.cells (hvA a sa ma) 26)).alloc (.cells (hvA b sb mb) 26)) 35 (pvA p s m s2 m2)
  have n4 := Blk.new (((W.alloc (.cells (hvA a sa ma) 26)).alloc (.cells (hvA b sb mb) 26)).alloc (.cells (pvA p s m s2 m2) 35)) 35 (pvA q s' m' s2' m2')
  have q1 : Blk WB W.heap.size 26 (hvA a sa ma) := by rw [hWB]; exact ((n1.alloc _).alloc _).alloc _
  have q2 : Blk WB (W.heap.size + 1) 26 (hvA b sb mb) := by rw [hWB]; exact ((show Blk _ (W.heap.size + 1) _ _ by simpa using n2).alloc _).alloc _
  have q3 : Blk WB (W.heap.size + 1 + 1) 35 (pvA p s m s2 m2) := by rw [hWB]; exact (show Blk _ (W.heap.size + 1 + 1) _ _ by simpa using n3).alloc _
  have q4 : Blk WB (W.heap.size + 1 + 1 + 1) 35 (pvA q s' m' s2' m2') := by rw [hWB]; exact (show Blk _ (W.heap.size + 1 + 1 + 1) _ _ by simpa using n4)
  have A0 := Lib.hid (show (Below W.heap.size W WB.drew ∧ HoldsC WB.drew sa a.cs ∧ HoldsC WB.drew sb b.cs ∧ HoldsP WB.drew s p.prec ∧ HoldsP WB.drew s' q.prec ∧ HoldsI WB.drew s2 p.steps ∧ HoldsI WB.drew s2' q.steps) ∧ Blk WB.drew W.heap.size 26 (hvA a sa ma) ∧ Blk WB.drew (W.heap.size + 1) 26 (hvA b sb mb) ∧ Blk WB.drew (W.heap.size + 1 + 1) 35 (pvA p s m s2 m2) ∧ Blk WB.drew (W.heap.size + 1 + 1 + 1) 35 (pvA q s' m' s2' m2') from
    ⟨⟨hb0.drew, hC.below hb0.drew (Nat.le_refl _), hC'.below hb0.drew (Nat.le_refl _), hP.below hb0.drew (Nat.le_refl _), hP'.below hb0.drew (Nat.le_refl _), hS.below hb0.drew (Nat.le_refl _), hS'.below hb0.drew (Nat.le_refl _)⟩, q1.drew, q2.drew, q3.drew, q4.drew⟩)
  have HW2 := hWB
  clear n1 n2 n3 n4 q1 q2 q3 q4 hb0 hWB hC hC' hP hP' hS hS'
  unfold hvA pvA at HW2
  show Calls Try.prog 19 #[.agg #[.int .i64 a.a, .int .i64 a.b, .int .i64 a.c, .int .i64 a.d, .int .i64 a.tw, .int .i64 a.th, .slice sa a.cs.length ma], .agg #[.int .i64 b.a, .int .i64 b.b, .int .i64 b.c, .int .i64 b.d, .int .i64 b.tw, .int .i64 b.th, .slice sb b.cs.length mb], .agg #[.int .i64 p.kern, .int .i64 p.lev, .int .i64 p.col, .int .i64 p.bx, .int .i64 p.yb, .slice s p.prec.length m, .int .i64 p.ord, .int .i64 p.lay, .bool p.m0, .bool p.m1, .bool p.m2, .bool p.m3, .bool p.m4, .bool p.dv, .bool p.sy, .bool p.fe, .slice s2 p.steps.length m2, .int .i64 p.dead, .int .i64 p.sh], .agg #[.int .i64 q.kern, .int .i64 q.lev, .int .i64 q.col, .int .i64 q.bx, .int .i64 q.yb, .slice s' q.prec.length m', .int .i64 q.ord, .int .i64 q.lay, .bool q.m0, .bool q.m1, .bool q.m2, .bool q.m3, .bool q.m4, .bool q.dv, .bool q.sy, .bool q.fe, .slice s2' q.steps.length m2', .int .i64 q.dead, .int .i64 q.sh]] W _
  go_enter Try.func19, Try.ntmps19
  go_upto_region 1 with fail
  rw [← HW2]
  clear HW2
  refine wp_region_held_drew (S := (fun w => (Below W.heap.size W w ∧ HoldsC w sa a.cs ∧ HoldsC w sb b.cs ∧ HoldsP w s p.prec ∧ HoldsP w s' q.prec ∧ HoldsI w s2 p.steps ∧ HoldsI w s2' q.steps) ∧ Blk w W.heap.size 26 (hvA a sa ma) ∧ Blk w (W.heap.size + 1) 26 (hvA b sb mb) ∧ Blk w (W.heap.size + 1 + 1) 35 (pvA p s m s2 m2) ∧ Blk w (W.heap.size + 1 + 1 + 1) 35 (pvA q s' m' s2' m2'))) (by kernel_rfl) (by (try dsimp only); exact A0.out) (fun hHeld => ?_)
  refine takeD (i := 0) (oi := _) (some 10) (v := .agg (hvA a sa ma)) rfl rfl (by kernel_rfl) (by kernel_rfl) (by kernel_rfl) (fun _ _ _ h => h) (yieldsIf_load_mid (by rfl) 26 (.tmp 4) rfl W.heap.size 0 rfl (hvA a sa ma).toList _ (fun w hw => hw.2.1.range) Try.underlying26 rfl info7) (by assumption) ?_
  simp only [Act.put, List.setIfInBounds_toArray, List.set]
  refine takeD (i := 1) (oi := _) (some 11) (v := .agg (hvA b sb mb)) rfl rfl (by kernel_rfl) (by kernel_rfl) (by kernel_rfl) (fun _ _ _ h => h) (yieldsIf_load_mid (by rfl) 26 (.tmp 5) rfl (W.heap.size + 1) 0 rfl (hvA b sb mb).toList _ (fun w hw => hw.2.2.1.range) Try.underlying26 rfl info7) (by assumption) ?_
  simp only [Act.put, List.setIfInBounds_toArray, List.set]
  refine takeD (i := 3) (oi := _) (some 13) (v := .agg (pvA p s m s2 m2)) rfl rfl (by kernel_rfl) (by kernel_rfl) (by kernel_rfl) (fun _ _ _ h => h) (yieldsIf_load_mid (by rfl) 35 (.tmp 6) rfl (W.heap.size + 1 + 1) 0 rfl (pvA p s m s2 m2).toList _ (fun w hw => hw.2.2.2.1.range) Try.underlying35 rfl info19) (by assumption) ?_
  simp only [Act.put, List.setIfInBounds_toArray, List.set]
  refine takeD (i := 4) (oi := _) (some 14) (v := .agg (pvA q s' m' s2' m2')) rfl rfl (by kernel_rfl) (by kernel_rfl) (by kernel_rfl) (fun _ _ _ h => h) (yieldsIf_load_mid (by rfl) 35 (.tmp 7) rfl (W.heap.size + 1 + 1 + 1) 0 rfl (pvA q s' m' s2' m2').toList _ (fun w hw => hw.2.2.2.2.range) Try.underlying35 rfl info19) (by assumption) ?_
  simp only [Act.put, List.setIfInBounds_toArray, List.set]
  refine wpAnyH_ready (rs := [2]) (by kernel_rfl) (by simp) ?_
  refine AllReadyH.cons (o := _) rfl (fun K hK => ?_) AllReadyH.nil
  (go_simp; go_at_call 49; (with_reducible refine (sameHd_c a b sa sb ma mb _ la lb hHeld.1.2.1 hHeld.1.2.2.1).mono ?_); rintro e wn ⟨rfl, hbn⟩)
  refine hK.out _ _ (by (try dsimp only); first | exact hHeld | exact ⟨⟨hHeld.1.1.trans (hbn.mono hHeld.1.1.size), hHeld.1.2.1.below hbn (Nat.le_refl _), hHeld.1.2.2.1.below hbn (Nat.le_refl _), hHeld.1.2.2.2.1.below hbn (Nat.le_refl _), hHeld.1.2.2.2.2.1.below hbn (Nat.le_refl _), hHeld.1.2.2.2.2.2.1.below hbn (Nat.le_refl _), hHeld.1.2.2.2.2.2.2.below hbn (Nat.le_refl _)⟩, hHeld.2.1.below hbn, hHeld.2.2.1.below hbn, hHeld.2.2.2.1.below hbn, hHeld.2.2.2.2.below hbn⟩) (fun hHeld => ?_)
  clear hK K
  try simp only [Act.put, List.setIfInBounds_toArray, List.set]
  refine wpAnyH_ready (rs := [5]) (by kernel_rfl) (by simp) ?_
  refine AllReadyH.cons (o := _) rfl (fun K hK => ?_) AllReadyH.nil
  (go_simp; go_at_call 50; (with_reducible refine (samePs_c p q s s' s2 s2' m m' m2 m2' _ l1 l1' l2 l2' hHeld.1.2.2.2.1 hHeld.1.2.2.2.2.1 hHeld.1.2.2.2.2.2.1 hHeld.1.2.2.2.2.2.2).mono ?_); rintro e wn ⟨rfl, hbn⟩)
  refine hK.out _ _ (by (try dsimp only); first | exact hHeld | exact ⟨⟨hHeld.1.1.trans (hbn.mono hHeld.1.1.size), hHeld.1.2.1.below hbn (Nat.le_refl _), hHeld.1.2.2.1.below hbn (Nat.le_refl _), hHeld.1.2.2.2.1.below hbn (Nat.le_refl _), hHeld.1.2.2.2.2.1.below hbn (Nat.le_refl _), hHeld.1.2.2.2.2.2.1.below hbn (Nat.le_refl _), hHeld.1.2.2.2.2.2.2.below hbn (Nat.le_refl _)⟩, hHeld.2.1.below hbn, hHeld.2.2.1.below hbn, hHeld.2.2.2.1.below hbn, hHeld.2.2.2.2.below hbn⟩) (fun hHeld => ?_)
  clear hK K
  try simp only [Act.put, List.setIfInBounds_toArray, List.set]
  refine takeD (i := 6) (oi := _) (some 8) (v := ?_) rfl rfl (by kernel_rfl) (by kernel_rfl) (by kernel_rfl) (fun _ _ _ h => h) (Or.inl ⟨by rfl, ?_⟩) (by assumption) ?_
  rotate_left
  · (intro w hSw; (try dsimp only at hSw); go_simp; try with_reducible rfl)
  simp only [Act.put, List.setIfInBounds_toArray, List.set]
  refine takeD (i := 7) (oi := _) (some 9) (v := ?_) rfl rfl (by kernel_rfl) (by kernel_rfl) (by kernel_rfl) (fun _ _ _ h => h) (Or.inl ⟨by rfl, ?_⟩) (by assumption) ?_
  rotate_left
  · (intro w hSw; (try dsimp only at hSw); go_simp; try with_reducible rfl)
  simp only [Act.put, List.setIfInBounds_toArray, List.set]
  refine wpAnyH_done (by kernel_rfl) ?_ _
  have HB := Lib.hid hHeld.1.1
  clear hHeld A0
  go_wp2_with fail
  go_ret2
  exact ⟨rfl, HB.out⟩
set_option maxHeartbeats 8000000 in
theorem rsame_c (a b : Hp.Hd) (sa sb : Option Addr) (ma mb : Nat) (p q : Hp.Ps) (s s' s2 s2' : Option Addr) (m m' m2 m2' : Nat) (W : World) (l1 : p.prec.length ≤ 4398046511104) (l1' : q.prec.length ≤ 4398046511104) (l2 : p.steps.length ≤ 4398046511104) (l2' : q.steps.length ≤ 4398046511104) (hP : HoldsP W s p.prec) (hP' : HoldsP W s' q.prec) (hS : HoldsI W s2 p.steps) (hS' : HoldsI W s2' q.steps) (la : a.cs.length ≤ 4398046511104) (lb : b.cs.length ≤ 4398046511104) (hC : HoldsC W sa a.cs) (hC' : HoldsC W sb b.cs) :
    Calls Try.prog 20 #[.agg (hvA a sa ma), .agg (hvA b sb mb), .agg (pvA p s m s2 m2), .agg (pvA q s' m' s2' m2')] W fun e w' => e = .returned (.tuple #[.bool (eqHd a b), .bool (eqPs p q)]) ∧ Below W.heap.size W w' := by
  obtain ⟨WB, hWB⟩ : ∃ ww, ww = ((((W.alloc (.cells (hvA a sa ma) 26)).alloc (.cells (hvA b sb mb) 26)).alloc (.cells (pvA p s m s2 m2) 35)).alloc (.cells (pvA q s' m' s2' m2') 35)) := ⟨_, rfl⟩
  have hb0 : Below W.heap.size W WB := by rw [hWB]; exact below_alloc (below_alloc (below_alloc (below_alloc (Below.refl _ W) (Nat.le_refl _) _) (by simp) _) (by simp <;> omega) _) (by simp <;> omega) _
  have n1 := Blk.new W 26 (hvA a sa ma)
  have n2 := Blk.new (W.alloc (.cells (hvA a sa ma) 26)) 26 (hvA b sb mb)
  have n3 := Blk.new ((W.alloc (.cells (hvA a sa ma) 26)).alloc (.cells (hvA b sb mb) 26)) 35 (pvA p s m s2 m2)
  have n4 := Blk.new (((W.alloc (.cells (hvA a sa ma) 26)).alloc (.cells (hvA b sb mb) 26)).alloc (.cells (pvA p s m s2 m2) 35)) 35 (pvA q s' m' s2' m2')
  have q1 : Blk WB W.heap.size 26 (hvA a sa ma) := by rw [hWB]; exact ((n1.alloc _).alloc _).alloc _
  have q2 : Blk WB (W.heap.size + 1) 26 (hvA b sb mb) := by rw [hWB]; exact ((show Blk _ (W.heap.size + 1) _ _ by simpa using n2).alloc _).alloc _
  have q3 : Blk WB (W.heap.size + 1 + 1) 35 (pvA p s m s2 m2) := by rw [hWB]; exact (show Blk _ (W.heap.size + 1 + 1) _ _ by simpa using n3).alloc _
  have q4 : Blk WB (W.heap.size + 1 + 1 + 1) 35 (pvA q s' m' s2' m2') := by rw [hWB]; exact (show Blk _ (W.heap.size + 1 + 1 + 1) _ _ by simpa using n4)
  have A0 := Lib.hid (show (Below W.heap.size W WB.drew ∧ HoldsC WB.drew sa a.cs ∧ HoldsC WB.drew sb b.cs ∧ HoldsP WB.drew s p.prec ∧ HoldsP WB.drew s' q.prec ∧ HoldsI WB.drew s2 p.steps ∧ HoldsI WB.drew s2' q.steps) ∧ Blk WB.drew W.heap.size 26 (hvA a sa ma) ∧ Blk WB.drew (W.heap.size + 1) 26 (hvA b sb mb) ∧ Blk WB.drew (W.heap.size + 1 + 1) 35 (pvA p s m s2 m2) ∧ Blk WB.drew (W.heap.size + 1 + 1 + 1) 35 (pvA q s' m' s2' m2') from
    ⟨⟨hb0.drew, hC.below hb0.drew (Nat.le_refl _), hC'.below hb0.drew (Nat.le_refl _), hP.below hb0.drew (Nat.le_refl _), hP'.below hb0.drew (Nat.le_refl _), hS.below hb0.drew (Nat.le_refl _), hS'.below hb0.drew (Nat.le_refl _)⟩, q1.drew, q2.drew, q3.drew, q4.drew⟩)
  have HW2 := hWB
  clear n1 n2 n3 n4 q1 q2 q3 q4 hb0 hWB hC hC' hP hP' hS hS'
  unfold hvA pvA at HW2
  show Calls Try.prog 20 #[.agg #[.int .i64 a.a, .int .i64 a.b, .int .i64 a.c, .int .i64 a.d, .int .i64 a.tw, .int .i64 a.th, .slice sa a.cs.length ma], .agg #[.int .i64 b.a, .int .i64 b.b, .int .i64 b.c, .int .i64 b.d, .int .i64 b.tw, .int .i64 b.th, .slice sb b.cs.length mb], .agg #[.int .i64 p.kern, .int .i64 p.lev, .int .i64 p.col, .int .i64 p.bx, .int .i64 p.yb, .slice s p.prec.length m, .int .i64 p.ord, .int .i64 p.lay, .bool p.m0, .bool p.m1, .bool p.m2, .bool p.m3, .bool p.m4, .bool p.dv, .bool p.sy, .bool p.fe, .slice s2 p.steps.length m2, .int .i64 p.dead, .int .i64 p.sh], .agg #[.int .i64 q.kern, .int .i64 q.lev, .int .i64 q.col, .int .i64 q.bx, .int .i64 q.yb, .slice s' q.prec.length m', .int .i64 q.ord, .int .i64 q.lay, .bool q.m0, .bool q.m1, .bool q.m2, .bool q.m3, .bool q.m4, .bool q.dv, .bool q.sy, .bool q.fe, .slice s2' q.steps.length m2', .int .i64 q.dead, .int .i64 q.sh]] W _
  go_enter Try.func20, Try.ntmps20
  go_upto_region 1 with fail
  rw [← HW2]
  clear HW2
  refine wp_region_held_drew (S := (fun w => (Below W.heap.size W w ∧ HoldsC w sa a.cs ∧ HoldsC w sb b.cs ∧ HoldsP w s p.prec ∧ HoldsP w s' q.prec ∧ HoldsI w s2 p.steps ∧ HoldsI w s2' q.steps) ∧ Blk w W.heap.size 26 (hvA a sa ma) ∧ Blk w (W.heap.size + 1) 26 (hvA b sb mb) ∧ Blk w (W.heap.size + 1 + 1) 35 (pvA p s m s2 m2) ∧ Blk w (W.heap.size + 1 + 1 + 1) 35 (pvA q s' m' s2' m2'))) (by kernel_rfl) (by (try dsimp only); exact A0.out) (fun hHeld => ?_)
  refine takeD (i := 0) (oi := _) (some 10) (v := .agg (hvA a sa ma)) rfl rfl (by kernel_rfl) (by kernel_rfl) (by kernel_rfl) (fun _ _ _ h => h) (yieldsIf_load_mid (by rfl) 26 (.tmp 4) rfl W.heap.size 0 rfl (hvA a sa ma).toList _ (fun w hw => hw.2.1.range) Try.underlying26 rfl info7) (by assumption) ?_
  simp only [Act.put, List.setIfInBounds_toArray, List.set]
  refine takeD (i := 1) (oi := _) (some 11) (v := .agg (hvA b sb mb)) rfl rfl (by kernel_rfl) (by kernel_rfl) (by kernel_rfl) (fun _ _ _ h => h) (yieldsIf_load_mid (by rfl) 26 (.tmp 5) rfl (W.heap.size + 1) 0 rfl (hvA b sb mb).toList _ (fun w hw => hw.2.2.1.range) Try.underlying26 rfl info7) (by assumption) ?_
  simp only [Act.put, List.setIfInBounds_toArray, List.set]
  refine takeD (i := 3) (oi := _) (some 13) (v := .agg (pvA p s m s2 m2)) rfl rfl (by kernel_rfl) (by kernel_rfl) (by kernel_rfl) (fun _ _ _ h => h) (yieldsIf_load_mid (by rfl) 35 (.tmp 6) rfl (W.heap.size + 1 + 1) 0 rfl (pvA p s m s2 m2).toList _ (fun w hw => hw.2.2.2.1.range) Try.underlying35 rfl info19) (by assumption) ?_
  simp only [Act.put, List.setIfInBounds_toArray, List.set]
  refine takeD (i := 4) (oi := _) (some 14) (v := .agg (pvA q s' m' s2' m2')) rfl rfl (by kernel_rfl) (by kernel_rfl) (by kernel_rfl) (fun _ _ _ h => h) (yieldsIf_load_mid (by rfl) 35 (.tmp 7) rfl (W.heap.size + 1 + 1 + 1) 0 rfl (pvA q s' m' s2' m2').toList _ (fun w hw => hw.2.2.2.2.range) Try.underlying35 rfl info19) (by assumption) ?_
  simp only [Act.put, List.setIfInBounds_toArray, List.set]
  refine wpAnyH_ready (rs := [2]) (by kernel_rfl) (by simp) ?_
  refine AllReadyH.cons (o := _) rfl (fun K hK => ?_) AllReadyH.nil
  (go_simp; go_at_call 22; (with_reducible refine (rsameHd_c a b sa sb ma mb _ la lb hHeld.1.2.1 hHeld.1.2.2.1).mono ?_); rintro e wn ⟨rfl, hbn⟩)
  refine hK.out _ _ (by (try dsimp only); first | exact hHeld | exact ⟨⟨hHeld.1.1.trans (hbn.mono hHeld.1.1.size), hHeld.1.2.1.below hbn (Nat.le_refl _), hHeld.1.2.2.1.below hbn (Nat.le_refl _), hHeld.1.2.2.2.1.below hbn (Nat.le_refl _), hHeld.1.2.2.2.2.1.below hbn (Nat.le_refl _), hHeld.1.2.2.2.2.2.1.below hbn (Nat.le_refl _), hHeld.1.2.2.2.2.2.2.below hbn (Nat.le_refl _)⟩, hHeld.2.1.below hbn, hHeld.2.2.1.below hbn, hHeld.2.2.2.1.below hbn, hHeld.2.2.2.2.below hbn⟩) (fun hHeld => ?_)
  clear hK K
  try simp only [Act.put, List.setIfInBounds_toArray, List.set]
  refine wpAnyH_ready (rs := [5]) (by kernel_rfl) (by simp) ?_
  refine AllReadyH.cons (o := _) rfl (fun K hK => ?_) AllReadyH.nil
  (go_simp; go_at_call 23; (with_reducible refine (rsamePs_c p q s s' s2 s2' m m' m2 m2' _ l1 l1' l2 l2' hHeld.1.2.2.2.1 hHeld.1.2.2.2.2.1 hHeld.1.2.2.2.2.2.1 hHeld.1.2.2.2.2.2.2).mono ?_); rintro e wn ⟨rfl, hbn⟩)
  refine hK.out _ _ (by (try dsimp only); first | exact hHeld | exact ⟨⟨hHeld.1.1.trans (hbn.mono hHeld.1.1.size), hHeld.1.2.1.below hbn (Nat.le_refl _), hHeld.1.2.2.1.below hbn (Nat.le_refl _), hHeld.1.2.2.2.1.below hbn (Nat.le_refl _), hHeld.1.2.2.2.2.1.below hbn (Nat.le_refl _), hHeld.1.2.2.2.2.2.1.below hbn (Nat.le_refl _), hHeld.1.2.2.2.2.2.2.below hbn (Nat.le_refl _)⟩, hHeld.2.1.below hbn, hHeld.2.2.1.below hbn, hHeld.2.2.2.1.below hbn, hHeld.2.2.2.2.below hbn⟩) (fun hHeld => ?_)
  clear hK K
  try simp only [Act.put, List.setIfInBounds_toArray, List.set]
  refine takeD (i := 6) (oi := _) (some 8) (v := ?_) rfl rfl (by kernel_rfl) (by kernel_rfl) (by kernel_rfl) (fun _ _ _ h => h) (Or.inl ⟨by rfl, ?_⟩) (by assumption) ?_
  rotate_left
  · (intro w hSw; (try dsimp only at hSw); go_simp; try with_reducible rfl)
  simp only [Act.put, List.setIfInBounds_toArray, List.set]
  refine takeD (i := 7) (oi := _) (some 9) (v := ?_) rfl rfl (by kernel_rfl) (by kernel_rfl) (by kernel_rfl) (fun _ _ _ h => h) (Or.inl ⟨by rfl, ?_⟩) (by assumption) ?_
  rotate_left
  · (intro w hSw; (try dsimp only at hSw); go_simp; try with_reducible rfl)
  simp only [Act.put, List.setIfInBounds_toArray, List.set]
  refine wpAnyH_done (by kernel_rfl) ?_ _
  have HB := Lib.hid hHeld.1.1
  clear hHeld A0
  go_wp2_with fail
  go_ret2
  exact ⟨rfl, HB.out⟩
end Go.Proofs.Ytkcjbehfhcmiaaa
namespace Go.Proofs.Ytkcjbehfhcmiaaa
open Go.ChangeShapes Go.WideShapes Go.ChangeAt Go.RowKit Go.Joins Go.Deep

theorem open_headerF {H : Type} {enc : TypeId × Value → H} {w : World} {fuel : Nat} {c0 c1 c2 c3 c4 c5 c6 : Value} {x : DataW H × List MemPlace}
    (hf : DataW.trod enc Try.prog w 0 (fun _ => true) true fuel 26 [c0, c1, c2, c3, c4, c5, c6] = some x) :
    ∃ (hd : Hp.Hd) (s : Option Addr) (m : Nat), (c0 = .int .i64 hd.a ∧ c1 = .int .i64 hd.b ∧ c2 = .int .i64 hd.c ∧ c3 = .int .i64 hd.d ∧ c4 = .int .i64 hd.tw ∧ c5 = .int .i64 hd.th ∧ c6 = .slice s hd.cs.length m) ∧ HoldsC w s hd.cs := by
  obtain ⟨d, p⟩ := x
  obtain ⟨xs, n, _, _, _, hl, hg⟩ := DataW.trod_struct Try.underlying26 hf
  have hx : ∀ j, j < 4 → ∃ y, xs[j]? = some y := fun j hj => ⟨_, List.getElem?_eq_getElem (by rw [hl]; exact hj)⟩
  obtain ⟨y0, e0⟩ := hx 0 (by decide)
  obtain ⟨y1, e1⟩ := hx 1 (by decide)
  obtain ⟨y2, e2⟩ := hx 2 (by decide)
  obtain ⟨y3, e3⟩ := hx 3 (by decide)
  have t0 : DataW.trod enc Try.prog w 0 (fun _ => true) true n 23 [c0, c1, c2, c3] = some y0 := (hg 0 _ rfl).trans e0
  have t1 : DataW.trod enc Try.prog w 0 (fun _ => true) true n 3 [c4] = some y1 := (hg 1 _ rfl).trans e1
  have t2 : DataW.trod enc Try.prog w 0 (fun _ => true) true n 3 [c5] = some y2 := (hg 2 _ rfl).trans e2
  have t3 : DataW.trod enc Try.prog w 0 (fun _ => true) true n 24 [c6] = some y3 := (hg 3 _ rfl).trans e3
  obtain ⟨a, b, c, d', rfl, rfl, rfl, rfl⟩ := open_rectF t0
  obtain ⟨tw, f1, _, _⟩ := DataW.trod_int Try.underlying3 t1
  obtain ⟨th, f2, _, _⟩ := DataW.trod_int Try.underlying3 t2
  simp at f1 f2
  subst f1 f2
  obtain ⟨s, l, m, rfl, hC, _, _⟩ := open_comps2 t3
  exact ⟨⟨a, b, c, d', tw, th, l⟩, s, m, ⟨rfl, rfl, rfl, rfl, rfl, rfl, rfl⟩, hC⟩
theorem open_paramsF {H : Type} {enc : TypeId × Value → H} {w : World} {fuel : Nat} {c0 c1 c2 c3 c4 c5 c6 c7 c8 c9 c10 c11 c12 c13 c14 c15 c16 c17 c18 : Value} {x : DataW H × List MemPlace}
    (hf : DataW.trod enc Try.prog w 0 (fun _ => true) true fuel 35 [c0, c1, c2, c3, c4, c5, c6, c7, c8, c9, c10, c11, c12, c13, c14, c15, c16, c17, c18] = some x) :
    ∃ (q : Hp.Ps) (s : Option Addr) (m : Nat) (s2 : Option Addr) (m2 : Nat), (c0 = .int .i64 q.kern ∧ c1 = .int .i64 q.lev ∧ c2 = .int .i64 q.col ∧ c3 = .int .i64 q.bx ∧ c4 = .int .i64 q.yb ∧ c5 = .slice s q.prec.length m ∧ c6 = .int .i64 q.ord ∧ c7 = .int .i64 q.lay ∧ c8 = .bool q.m0 ∧ c9 = .bool q.m1 ∧ c10 = .bool q.m2 ∧ c11 = .bool q.m3 ∧ c12 = .bool q.m4 ∧ c13 = .bool q.dv ∧ c14 = .bool q.sy ∧ c15 = .bool q.fe ∧ c16 = .slice s2 q.steps.length m2 ∧ c17 = .int .i64 q.dead ∧ c18 = .int .i64 q.sh) ∧ HoldsP w s q.prec ∧ HoldsI w s2 q.steps := by
  obtain ⟨d, p⟩ := x
  obtain ⟨xs, n, _, _, _, hl, hg⟩ := DataW.trod_struct Try.underlying35 hf
  have hx : ∀ j, j < 15 → ∃ y, xs[j]? = some y := fun j hj => ⟨_, List.getElem?_eq_getElem (by rw [hl]; exact hj)⟩
  obtain ⟨y0, e0⟩ := hx 0 (by decide)
  have t0 : DataW.trod enc Try.prog w 0 (fun _ => true) true n 27 [c0] = some y0 := (hg 0 _ rfl).trans e0
  obtain ⟨y1, e1⟩ := hx 1 (by decide)
  have t1 : DataW.trod enc Try.prog w 0 (fun _ => true) true n 3 [c1] = some y1 := (hg 1 _ rfl).trans e1
  obtain ⟨y2, e2⟩ := hx 2 (by decide)
  have t2 : DataW.trod enc Try.prog w 0 (fun _ => true) true n 28 [c2] = some y2 := (hg 2 _ rfl).trans e2
  obtain ⟨y3, e3⟩ := hx 3 (by decide)
  have t3 : DataW.trod enc Try.prog w 0 (fun _ => true) true n 3 [c3] = some y3 := (hg 3 _ rfl).trans e3
  obtain ⟨y4, e4⟩ := hx 4 (by decide)
  have t4 : DataW.trod enc Try.prog w 0 (fun _ => true) true n 3 [c4] = some y4 := (hg 4 _ rfl).trans e4
  obtain ⟨y5, e5⟩ := hx 5 (by decide)
  have t5 : DataW.trod enc Try.prog w 0 (fun _ => true) true n 29 [c5] = some y5 := (hg 5 _ rfl).trans e5
  obtain ⟨y6, e6⟩ := hx 6 (by decide)
  have t6 : DataW.trod enc Try.prog w 0 (fun _ => true) true n 30 [c6] = some y6 := (hg 6 _ rfl).trans e6
  obtain ⟨y7, e7⟩ := hx 7 (by decide)
  have t7 : DataW.trod enc Try.prog w 0 (fun _ => true) true n 3 [c7] = some y7 := (hg 7 _ rfl).trans e7
  obtain ⟨y8, e8⟩ := hx 8 (by decide)
  have t8 : DataW.trod enc Try.prog w 0 (fun _ => true) true n 32 [c8, c9, c10, c11, c12] = some y8 := (hg 8 _ rfl).trans e8
  obtain ⟨y9, e9⟩ := hx 9 (by decide)
  have t9 : DataW.trod enc Try.prog w 0 (fun _ => true) true n 4 [c13] = some y9 := (hg 9 _ rfl).trans e9
  obtain ⟨y10, e10⟩ := hx 10 (by decide)
  have t10 : DataW.trod enc Try.prog w 0 (fun _ => true) true n 4 [c14] = some y10 := (hg 10 _ rfl).trans e10
  obtain ⟨y11, e11⟩ := hx 11 (by decide)
  have t11 : DataW.trod enc Try.prog w 0 (fun _ => true) true n 4 [c15] = some y11 := (hg 11 _ rfl).trans e11
  obtain ⟨y12, e12⟩ := hx 12 (by decide)
  have t12 : DataW.trod enc Try.prog w 0 (fun _ => true) true n 33 [c16] = some y12 := (hg 12 _ rfl).trans e12
  obtain ⟨y13, e13⟩ := hx 13 (by decide)
  have t13 : DataW.trod enc Try.prog w 0 (fun _ => true) true n 3 [c17] = some y13 := (hg 13 _ rfl).trans e13
  obtain ⟨y14, e14⟩ := hx 14 (by decide)
  have t14 : DataW.trod enc Try.prog w 0 (fun _ => true) true n 3 [c18] = some y14 := (hg 14 _ rfl).trans e14
  obtain ⟨kern, f0, _, _⟩ := DataW.trod_int Try.underlying27 t0
  simp at f0
  subst f0
  obtain ⟨lev, f1, _, _⟩ := DataW.trod_int Try.underlying3 t1
  simp at f1
  subst f1
  obtain ⟨col, f2, _, _⟩ := DataW.trod_int Try.underlying28 t2
  simp at f2
  subst f2
  obtain ⟨bx, f3, _, _⟩ := DataW.trod_int Try.underlying3 t3
  simp at f3
  subst f3
  obtain ⟨yb, f4, _, _⟩ := DataW.trod_int Try.underlying3 t4
  simp at f4
  subst f4
  obtain ⟨s, lp, m, rfl, hP, _, _⟩ := open_pts t5
  obtain ⟨ord, f6, _, _⟩ := DataW.trod_int Try.underlying30 t6
  simp at f6
  subst f6
  obtain ⟨lay, f7, _, _⟩ := DataW.trod_int Try.underlying3 t7
  simp at f7
  subst f7
  obtain ⟨z0, z1, z2, z3, z4, rfl, rfl, rfl, rfl, rfl⟩ := open_modeF t8
  obtain ⟨dv, f9, _⟩ := DataW.trod_bool Try.underlying4 t9
  simp at f9
  subst f9
  obtain ⟨sy, f10, _⟩ := DataW.trod_bool Try.underlying4 t10
  simp at f10
  subst f10
  obtain ⟨fe, f11, _⟩ := DataW.trod_bool Try.underlying4 t11
  simp at f11
  subst f11
  obtain ⟨s2, ls, m2, rfl, hS, _, _, _⟩ := open_ints13 t12
  obtain ⟨dead, f13, _, _⟩ := DataW.trod_int Try.underlying3 t13
  simp at f13
  subst f13
  obtain ⟨sh, f14, _, _⟩ := DataW.trod_int Try.underlying3 t14
  simp at f14
  subst f14
  exact ⟨⟨kern, lev, col, bx, yb, lp, ord, lay, z0, z1, z2, z3, z4, dv, sy, fe, ls, dead, sh⟩, s, m, s2, m2, ⟨rfl, rfl, rfl, rfl, rfl, rfl, rfl, rfl, rfl, rfl, rfl, rfl, rfl, rfl, rfl, rfl, rfl, rfl, rfl⟩, hP, hS⟩
def prA (a b : Hp.Hd) (p q : Hp.Ps) (sa : Option Addr) (ma : Nat) (sb : Option Addr) (mb : Nat) (s : Option Addr) (m : Nat) (s2 : Option Addr) (m2 : Nat) (s' : Option Addr) (m' : Nat) (s2' : Option Addr) (m2' : Nat) : Array Value := #[.int .i64 a.a, .int .i64 a.b, .int .i64 a.c, .int .i64 a.d, .int .i64 a.tw, .int .i64 a.th, .slice sa a.cs.length ma, .int .i64 b.a, .int .i64 b.b, .int .i64 b.c, .int .i64 b.d, .int .i64 b.tw, .int .i64 b.th, .slice sb b.cs.length mb, .int .i64 p.kern, .int .i64 p.lev, .int .i64 p.col, .int .i64 p.bx, .int .i64 p.yb, .slice s p.prec.length m, .int .i64 p.ord, .int .i64 p.lay, .bool p.m0, .bool p.m1, .bool p.m2, .bool p.m3, .bool p.m4, .bool p.dv, .bool p.sy, .bool p.fe, .slice s2 p.steps.length m2, .int .i64 p.dead, .int .i64 p.sh, .int .i64 q.kern, .int .i64 q.lev, .int .i64 q.col, .int .i64 q.bx, .int .i64 q.yb, .slice s' q.prec.length m', .int .i64 q.ord, .int .i64 q.lay, .bool q.m0, .bool q.m1, .bool q.m2, .bool q.m3, .bool q.m4, .bool q.dv, .bool q.sy, .bool q.fe, .slice s2' q.steps.length m2', .int .i64 q.dead, .int .i64 q.sh]
theorem arr52 (T : Array Value) (h : T.size = 52) : ∃ v0 v1 v2 v3 v4 v5 v6 v7 v8 v9 v10 v11 v12 v13 v14 v15 v16 v17 v18 v19 v20 v21 v22 v23 v24 v25 v26 v27 v28 v29 v30 v31 v32 v33 v34 v35 v36 v37 v38 v39 v40 v41 v42 v43 v44 v45 v46 v47 v48 v49 v50 v51, T = #[v0, v1, v2, v3, v4, v5, v6, v7, v8, v9, v10, v11, v12, v13, v14, v15, v16, v17, v18, v19, v20, v21, v22, v23, v24, v25, v26, v27, v28, v29, v30, v31, v32, v33, v34, v35, v36, v37, v38, v39, v40, v41, v42, v43, v44, v45, v46, v47, v48, v49, v50, v51] := by
  obtain ⟨l⟩ := T
  match l, h with
  | v0 :: v1 :: v2 :: v3 :: v4 :: v5 :: v6 :: v7 :: v8 :: v9 :: v10 :: v11 :: v12 :: v13 :: v14 :: v15 :: v16 :: v17 :: v18 :: v19 :: v20 :: v21 :: v22 :: v23 :: v24 :: v25 :: rest, h =>
    match rest, h with
    | [v26, v27, v28, v29, v30, v31, v32, v33, v34, v35, v36, v37, v38, v39, v40, v41, v42, v43, v44, v45, v46, v47, v48, v49, v50, v51], _ => exact ⟨v0, v1, v2, v3, v4, v5, v6, v7, v8, v9, v10, v11, v12, v13, v14, v15, v16, v17, v18, v19, v20, v21, v22, v23, v24, v25, v26, v27, v28, v29, v30, v31, v32, v33, v34, v35, v36, v37, v38, v39, v40, v41, v42, v43, v44, v45, v46, v47, v48, v49, v50, v51, rfl⟩
theorem open_pair {H : Type} {enc : TypeId × Value → H} {w : World} {r : Reach} {b0 : Nat} {v : Value} {d : DataW H} {pl : List MemPlace}
    (hv : Value.okWide Try.prog w r b0 47 v) (h : DataW.Trod enc Try.prog w 0 (fun _ => true) true 47 v d pl) :
    ∃ (a b : Hp.Hd) (p q : Hp.Ps) (sa : Option Addr) (ma : Nat) (sb : Option Addr) (mb : Nat) (s : Option Addr) (m : Nat) (s2 : Option Addr) (m2 : Nat) (s' : Option Addr) (m' : Nat) (s2' : Option Addr) (m2' : Nat), v = .agg (prA a b p q sa ma sb mb s m s2 m2 s' m' s2' m2') ∧ HoldsC w sa a.cs ∧ HoldsC w sb b.cs ∧ HoldsP w s p.prec ∧ HoldsI w s2 p.steps ∧ HoldsP w s' q.prec ∧ HoldsI w s2' q.steps := by
  obtain ⟨cs, rfl, hsz⟩ := okWide_struct Try.underlying47 hv
  obtain ⟨c0, c1, c2, c3, c4, c5, c6, c7, c8, c9, c10, c11, c12, c13, c14, c15, c16, c17, c18, c19, c20, c21, c22, c23, c24, c25, c26, c27, c28, c29, c30, c31, c32, c33, c34, c35, c36, c37, c38, c39, c40, c41, c42, c43, c44, c45, c46, c47, c48, c49, c50, c51, rfl⟩ := arr52 _ (hsz.trans (by kernel_rfl))
  obtain ⟨fuel, hf⟩ := h
  obtain ⟨xs, n, _, _, _, hl, hg⟩ := DataW.trod_struct Try.underlying47 hf
  have hx : ∀ j, j < 4 → ∃ y, xs[j]? = some y := fun j hj => ⟨_, List.getElem?_eq_getElem (by rw [hl]; exact hj)⟩
  obtain ⟨y0, e0⟩ := hx 0 (by decide)
  obtain ⟨y1, e1⟩ := hx 1 (by decide)
  obtain ⟨y2, e2⟩ := hx 2 (by decide)
  obtain ⟨y3, e3⟩ := hx 3 (by decide)
  have t0 : DataW.trod enc Try.prog w 0 (fun _ => true) true n 26 [c0, c1, c2, c3, c4, c5, c6] = some y0 := (hg 0 _ rfl).trans e0
  have t1 : DataW.trod enc Try.prog w 0 (fun _ => true) true n 26 [c7, c8, c9, c10, c11, c12, c13] = some y1 := (hg 1 _ rfl).trans e1
  have t2 : DataW.trod enc Try.prog w 0 (fun _ => true) true n 35 [c14, c15, c16, c17, c18, c19, c20, c21, c22, c23, c24, c25, c26, c27, c28, c29, c30, c31, c32] = some y2 := (hg 2 _ rfl).trans e2
  have t3 : DataW.trod enc Try.prog w 0 (fun _ => true) true n 35 [c33, c34, c35, c36, c37, c38, c39, c40, c41, c42, c43, c44, c45, c46, c47, c48, c49, c50, c51] = some y3 := (hg 3 _ rfl).trans e3
  obtain ⟨a, sa, ma, ⟨rfl, rfl, rfl, rfl, rfl, rfl, rfl⟩, hA⟩ := open_headerF t0
  obtain ⟨b, sb, mb, ⟨rfl, rfl, rfl, rfl, rfl, rfl, rfl⟩, hB⟩ := open_headerF t1
  obtain ⟨p, s, m, s2, m2, ⟨rfl, rfl, rfl, rfl, rfl, rfl, rfl, rfl, rfl, rfl, rfl, rfl, rfl, rfl, rfl, rfl, rfl, rfl, rfl⟩, hP, hS⟩ := open_paramsF t2
  obtain ⟨q, s', m', s2', m2', ⟨rfl, rfl, rfl, rfl, rfl, rfl, rfl, rfl, rfl, rfl, rfl, rfl, rfl, rfl, rfl, rfl, rfl, rfl, rfl⟩, hP', hS'⟩ := open_paramsF t3
  exact ⟨a, b, p, q, sa, ma, sb, mb, s, m, s2, m2, s', m', s2', m2', rfl, hA, hB, hP, hS, hP', hS'⟩
section
variable {w : World} {g : Nat} {a b : Hp.Hd} {p q : Hp.Ps} {sa : Option Addr} {ma : Nat} {sb : Option Addr} {mb : Nat} {s : Option Addr} {m : Nat} {s2 : Option Addr} {m2 : Nat} {s' : Option Addr} {m' : Nat} {s2' : Option Addr} {m2' : Nat}
theorem pr0 (h : Blk w g 47 (prA a b p q sa ma sb mb s m s2 m2 s' m' s2' m2')) : w.rangeAt g 0 (hvA a sa ma).toList := fun j v hv => by
  match j, hv with
  | 0, hv => simp [hvA] at hv; subst hv; exact h.get 0 rfl
  | 1, hv => simp [hvA] at hv; subst hv; exact h.get 1 rfl
  | 2, hv => simp [hvA] at hv; subst hv; exact h.get 2 rfl
  | 3, hv => simp [hvA] at hv; subst hv; exact h.get 3 rfl
  | 4, hv => simp [hvA] at hv; subst hv; exact h.get 4 rfl
  | 5, hv => simp [hvA] at hv; subst hv; exact h.get 5 rfl
  | 6, hv => simp [hvA] at hv; subst hv; exact h.get 6 rfl
theorem pr1 (h : Blk w g 47 (prA a b p q sa ma sb mb s m s2 m2 s' m' s2' m2')) : w.rangeAt g 7 (hvA b sb mb).toList := fun j v hv => by
  match j, hv with
  | 0, hv => simp [hvA] at hv; subst hv; exact h.get 7 rfl
  | 1, hv => simp [hvA] at hv; subst hv; exact h.get 8 rfl
  | 2, hv => simp [hvA] at hv; subst hv; exact h.get 9 rfl
  | 3, hv => simp [hvA] at hv; subst hv; exact h.get 10 rfl
  | 4, hv => simp [hvA] at hv; subst hv; exact h.get 11 rfl
  | 5, hv => simp [hvA] at hv; subst hv; exact h.get 12 rfl
  | 6, hv => simp [hvA] at hv; subst hv; exact h.get 13 rfl
theorem pr2 (h : Blk w g 47 (prA a b p q sa ma sb mb s m s2 m2 s' m' s2' m2')) : w.rangeAt g 14 (pvA p s m s2 m2).toList := fun j v hv => by
  match j, hv with
  | 0, hv => simp [pvA] at hv; subst hv; exact h.get 14 rfl
  | 1, hv => simp [pvA] at hv; subst hv; exact h.get 15 rfl
  | 2, hv => simp [pvA] at hv; subst hv; exact h.get 16 rfl
  | 3, hv => simp [pvA] at hv; subst hv; exact h.get 17 rfl
  | 4, hv => simp [pvA] at hv; subst hv; exact h.get 18 rfl
  | 5, hv => simp [pvA] at hv; subst hv; exact h.get 19 rfl
  | 6, hv => simp [pvA] at hv; subst hv; exact h.get 20 rfl
  | 7, hv => simp [pvA] at hv; subst hv; exact h.get 21 rfl
  | 8, hv => simp [pvA] at hv; subst hv; exact h.get 22 rfl
  | 9, hv => simp [pvA] at hv; subst hv; exact h.get 23 rfl
  | 10, hv => simp [pvA] at hv; subst hv; exact h.get 24 rfl
  | 11, hv => simp [pvA] at hv; subst hv; exact h.get 25 rfl
  | 12, hv => simp [pvA] at hv; subst hv; exact h.get 26 rfl
  | 13, hv => simp [pvA] at hv; subst hv; exact h.get 27 rfl
  | 14, hv => simp [pvA] at hv; subst hv; exact h.get 28 rfl
  | 15, hv => simp [pvA] at hv; subst hv; exact h.get 29 rfl
  | 16, hv => simp [pvA] at hv; subst hv; exact h.get 30 rfl
  | 17, hv => simp [pvA] at hv; subst hv; exact h.get 31 rfl
  | 18, hv => simp [pvA] at hv; subst hv; exact h.get 32 rfl
theorem pr3 (h : Blk w g 47 (prA a b p q sa ma sb mb s m s2 m2 s' m' s2' m2')) : w.rangeAt g 33 (pvA q s' m' s2' m2').toList := fun j v hv => by
  match j, hv with
  | 0, hv => simp [pvA] at hv; subst hv; exact h.get 33 rfl
  | 1, hv => simp [pvA] at hv; subst hv; exact h.get 34 rfl
  | 2, hv => simp [pvA] at hv; subst hv; exact h.get 35 rfl
  | 3, hv => simp [pvA] at hv; subst hv; exact h.get 36 rfl
  | 4, hv => simp [pvA] at hv; subst hv; exact h.get 37 rfl
  | 5, hv => simp [pvA] at hv; subst hv; exact h.get 38 rfl
  | 6, hv => simp [pvA] at hv; subst hv; exact h.get 39 rfl
  | 7, hv => simp [pvA] at hv; subst hv; exact h.get 40 rfl
  | 8, hv => simp [pvA] at hv; subst hv; exact h.get 41 rfl
  | 9, hv => simp [pvA] at hv; subst hv; exact h.get 42 rfl
  | 10, hv => simp [pvA] at hv; subst hv; exact h.get 43 rfl
  | 11, hv => simp [pvA] at hv; subst hv; exact h.get 44 rfl
  | 12, hv => simp [pvA] at hv; subst hv; exact h.get 45 rfl
  | 13, hv => simp [pvA] at hv; subst hv; exact h.get 46 rfl
  | 14, hv => simp [pvA] at hv; subst hv; exact h.get 47 rfl
  | 15, hv => simp [pvA] at hv; subst hv; exact h.get 48 rfl
  | 16, hv => simp [pvA] at hv; subst hv; exact h.get 49 rfl
  | 17, hv => simp [pvA] at hv; subst hv; exact h.get 50 rfl
  | 18, hv => simp [pvA] at hv; subst hv; exact h.get 51 rfl
end
end Go.Proofs.Ytkcjbehfhcmiaaa
namespace Go.Proofs.Ytkcjbehfhcmiaaa.paramsCompares
open Go.ChangeShapes Go.WideShapes Go.ChangeAt Go.RowKit Go.Joins Go.Deep

/-- What the walk keeps in memory. -/
structure PaS (W : World) (a b : Hp.Hd) (p q : Hp.Ps) (sa : Option Addr) (ma : Nat) (sb : Option Addr) (mb : Nat) (s : Option Addr) (m : Nat) (s2 : Option Addr) (m2 : Nat) (s' : Option Addr) (m' : Nat) (s2' : Option Addr) (m2' : Nat) (w : World) : Prop where
  bl : Below W.heap.size W w
  bx : Blk w W.heap.size 47 (prA a b p q sa ma sb mb s m s2 m2 s' m' s2' m2')
  hA : HoldsC w sa a.cs
  hB : HoldsC w sb b.cs
  hP : HoldsP w s p.prec
  hS : HoldsI w s2 p.steps
  hP' : HoldsP w s' q.prec
  hS' : HoldsI w s2' q.steps
theorem PaS.below {W w w' : World} {a b : Hp.Hd} {p q : Hp.Ps} {sa : Option Addr} {ma : Nat} {sb : Option Addr} {mb : Nat} {s : Option Addr} {m : Nat} {s2 : Option Addr} {m2 : Nat} {s' : Option Addr} {m' : Nat} {s2' : Option Addr} {m2' : Nat} (z : PaS W a b p q sa ma sb mb s m s2 m2 s' m' s2' m2' w) (hb : Below w.heap.size w w') : PaS W a b p q sa ma sb mb s m s2 m2 s' m' s2' m2' w' :=
  ⟨z.bl.trans (hb.mono z.bl.size), z.bx.below hb, z.hA.below hb (Nat.le_refl _), z.hB.below hb (Nat.le_refl _), z.hP.below hb (Nat.le_refl _), z.hS.below hb (Nat.le_refl _), z.hP'.below hb (Nat.le_refl _), z.hS'.below hb (Nat.le_refl _)⟩
set_option maxHeartbeats 8000000 in
theorem walk (a b : Hp.Hd) (p q : Hp.Ps) (sa : Option Addr) (ma : Nat) (sb : Option Addr) (mb : Nat) (s : Option Addr) (m : Nat) (s2 : Option Addr) (m2 : Nat) (s' : Option Addr) (m' : Nat) (s2' : Option Addr) (m2' : Nat) (W : World) (hA : HoldsC W sa a.cs) (hB : HoldsC W sb b.cs) (hP : HoldsP W s p.prec) (hS : HoldsI W s2 p.steps) (hP' : HoldsP W s' q.prec) (hS' : HoldsI W s2' q.steps) :
    Calls Try.prog 5 #[.agg (prA a b p q sa ma sb mb s m s2 m2 s' m' s2' m2')] W fun e w' => e = .returned (.bool true) ∧ Below W.heap.size W w' := by
  obtain ⟨WB, hWB⟩ : ∃ ww, ww = (W.alloc (.cells (prA a b p q sa ma sb mb s m s2 m2 s' m' s2' m2') 47)) := ⟨_, rfl⟩
  have hb0 : Below W.heap.size W WB := by rw [hWB]; exact (below_alloc (Below.refl _ W) (Nat.le_refl _) _)
  have hH : Blk WB W.heap.size 47 (prA a b p q sa ma sb mb s m s2 m2 s' m' s2' m2') := by rw [hWB]; exact Blk.new W _ _
  have A0 := Lib.hid (show PaS W a b p q sa ma sb mb s m s2 m2 s' m' s2' m2' WB from ⟨hb0, hH, hA.below hb0 (Nat.le_refl _), hB.below hb0 (Nat.le_refl _), hP.below hb0 (Nat.le_refl _), hS.below hb0 (Nat.le_refl _), hP'.below hb0 (Nat.le_refl _), hS'.below hb0 (Nat.le_refl _)⟩)
  have KF1 := Lib.hid (fun w : World => few_c a p sa s s2 ma m m2 w)
  have KF2 := Lib.hid (fun w : World => few_c b q sb s' s2' mb m' m2' w)
  have HW2 := hWB
  clear hb0 hH hWB hA hB hP hS hP' hS'
  unfold prA at HW2 ⊢
  by_cases f1 : fewB a p = true
  case neg =>
    have f1 : fewB a p = false := by simpa using f1
    rw [f1] at KF1
    clear f1 KF2
    go_enter Try.func5, Try.ntmps5
    go_upto_region 1 with fail
    rw [← HW2]
    clear HW2
    go_wp2_with (first | (refine wpList_load_mid rfl 26 (.tmp 7) rfl W.heap.size 0 rfl (hvA a sa ma).toList _ (pr0 A0.out.bx) Try.underlying26 rfl info7 ?_) | (refine wpList_load_mid rfl 35 (.tmp 9) rfl W.heap.size 14 rfl (pvA p s m s2 m2).toList _ (pr2 A0.out.bx) Try.underlying35 rfl info19 ?_) | (go_at_call 9; (with_reducible refine (KF1.out _).mono ?_); rintro e w1 ⟨rfl, hb⟩; have A1 := Lib.hid (A0.out.below hb); clear hb) | (go_at_call 10; (with_reducible refine (awake23_c _).mono ?_); rintro e w2 ⟨rfl, hb⟩; have B2 := Lib.hid (A1.out.below hb).bl; clear hb) | fail)
    go_ret
    exact ⟨rfl, B2.out⟩
  case pos =>
    rw [f1] at KF1
    by_cases f2 : fewB b q = true
    case neg =>
      have f2 : fewB b q = false := by simpa using f2
      rw [f2] at KF2
      clear f1 f2
      go_enter Try.func5, Try.ntmps5
      go_upto_region 1 with fail
      rw [← HW2]
      clear HW2
      go_wp2_with (first | (refine wpList_load_mid rfl 26 (.tmp 7) rfl W.heap.size 0 rfl (hvA a sa ma).toList _ (pr0 A0.out.bx) Try.underlying26 rfl info7 ?_) | (refine wpList_load_mid rfl 35 (.tmp 9) rfl W.heap.size 14 rfl (pvA p s m s2 m2).toList _ (pr2 A0.out.bx) Try.underlying35 rfl info19 ?_) | (refine load_mid_g (by rfl) 26 (.tmp 14) rfl W.heap.size 7 rfl (hvA b sb mb).toList _ (pr1 A1.out.bx) Try.underlying26 rfl info7 ?_) | (refine load_mid_g (by rfl) 35 (.tmp 16) rfl W.heap.size 33 rfl (pvA q s' m' s2' m2').toList _ (pr3 A1.out.bx) Try.underlying35 rfl info19 ?_) | (go_at_call 9; (with_reducible refine (KF1.out _).mono ?_); rintro e w1 ⟨rfl, hb⟩; have A1 := Lib.hid (A0.out.below hb); clear hb) | (go_at_call 9; (with_reducible refine (KF2.out _).mono ?_); rintro e w2 ⟨rfl, hb⟩; have A2 := Lib.hid (A1.out.below hb); clear hb) | (go_at_call 10; (with_reducible refine (awake23_c _).mono ?_); rintro e w3 ⟨rfl, hb⟩; have B3 := Lib.hid (A2.out.below hb).bl; clear hb) | fail)
      go_ret
      exact ⟨rfl, B3.out⟩
    case pos =>
      rw [f2] at KF2
      have l1 := of_decide_eq_true (show decide (a.cs.length ≤ 10 ∧ p.steps.length ≤ 40 ∧ p.prec.length ≤ 40) = true from f1)
      have l2 := of_decide_eq_true (show decide (b.cs.length ≤ 10 ∧ q.steps.length ≤ 40 ∧ q.prec.length ≤ 40) = true from f2)
      have KS := Lib.hid (fun (w : World) (z : PaS W a b p q sa ma sb mb s m s2 m2 s' m' s2' m2' w) => same_c a b sa sb ma mb p q s s' s2 s2' m m' m2 m2' w (by omega) (by omega) (by omega) (by omega) z.hP z.hP' z.hS z.hS' (by omega) (by omega) z.hA z.hB)
      have KR := Lib.hid (fun (w : World) (z : PaS W a b p q sa ma sb mb s m s2 m2 s' m' s2' m2' w) => rsame_c a b sa sb ma mb p q s s' s2 s2' m m' m2 m2' w (by omega) (by omega) (by omega) (by omega) z.hP z.hP' z.hS z.hS' (by omega) (by omega) z.hA z.hB)
      generalize eqHd a b = EH at *
      generalize eqPs p q = EP at *
      have s1 : (EH == EH) = true := by simp
      have s3 : (EP == EP) = true := by simp
      clear f1 f2 l1 l2
      go_enter Try.func5, Try.ntmps5
      go_upto_region 1 with fail
      rw [← HW2]
      clear HW2
      go_upto_region 3 with (first | (refine wpList_load_mid rfl 26 (.tmp 7) rfl W.heap.size 0 rfl (hvA a sa ma).toList _ (pr0 A0.out.bx) Try.underlying26 rfl info7 ?_) | (refine wpList_load_mid rfl 35 (.tmp 9) rfl W.heap.size 14 rfl (pvA p s m s2 m2).toList _ (pr2 A0.out.bx) Try.underlying35 rfl info19 ?_) | (refine load_mid_g (by rfl) 26 (.tmp 14) rfl W.heap.size 7 rfl (hvA b sb mb).toList _ (pr1 A1.out.bx) Try.underlying26 rfl info7 ?_) | (refine load_mid_g (by rfl) 35 (.tmp 16) rfl W.heap.size 33 rfl (pvA q s' m' s2' m2').toList _ (pr3 A1.out.bx) Try.underlying35 rfl info19 ?_) | (go_at_call 9; (with_reducible refine (KF1.out _).mono ?_); rintro e w1 ⟨rfl, hb⟩; have A1 := Lib.hid (A0.out.below hb); clear hb) | (go_at_call 9; (with_reducible refine (KF2.out _).mono ?_); rintro e w2 ⟨rfl, hb⟩; have A2 := Lib.hid (A1.out.below hb); clear hb) | fail)
      clear A0 A1 KF1 KF2
      go_upto_region 4 with (first | (refine wpList_load_mid rfl 26 (.tmp 23) rfl W.heap.size 0 rfl (hvA a sa ma).toList _ (pr0 A2.out.bx) Try.underlying26 rfl info7 ?_) | (refine wpList_load_mid rfl 26 (.tmp 25) rfl W.heap.size 7 rfl (hvA b sb mb).toList _ (pr1 A2.out.bx) Try.underlying26 rfl info7 ?_) | (refine wpList_load_mid rfl 35 (.tmp 27) rfl W.heap.size 14 rfl (pvA p s m s2 m2).toList _ (pr2 A2.out.bx) Try.underlying35 rfl info19 ?_) | (refine wpList_load_mid rfl 35 (.tmp 29) rfl W.heap.size 33 rfl (pvA q s' m' s2' m2').toList _ (pr3 A2.out.bx) Try.underlying35 rfl info19 ?_) | (go_at_call 19; (with_reducible refine (KS.out _ A2.out).mono ?_); rintro e w3 ⟨rfl, hb⟩; have A3 := Lib.hid (A2.out.below hb); clear hb) | fail)
      clear A2 KS
      go_upto_region 5 with (first | (refine wpList_load_mid rfl 26 (.tmp 35) rfl W.heap.size 0 rfl (hvA a sa ma).toList _ (pr0 A3.out.bx) Try.underlying26 rfl info7 ?_) | (refine wpList_load_mid rfl 26 (.tmp 37) rfl W.heap.size 7 rfl (hvA b sb mb).toList _ (pr1 A3.out.bx) Try.underlying26 rfl info7 ?_) | (refine wpList_load_mid rfl 35 (.tmp 39) rfl W.heap.size 14 rfl (pvA p s m s2 m2).toList _ (pr2 A3.out.bx) Try.underlying35 rfl info19 ?_) | (refine wpList_load_mid rfl 35 (.tmp 41) rfl W.heap.size 33 rfl (pvA q s' m' s2' m2').toList _ (pr3 A3.out.bx) Try.underlying35 rfl info19 ?_) | (go_at_call 20; (with_reducible refine (KR.out _ A3.out).mono ?_); rintro e w4 ⟨rfl, hb⟩; have A4 := Lib.hid (A3.out.below hb); clear hb) | fail)
      clear A3 KR
      go_wp2_with (first | (go_at_call 10; (with_reducible refine (awake23_c _).mono ?_); rintro e w5 ⟨rfl, hb⟩; have B5 := Lib.hid (A4.out.below hb).bl; clear hb) | fail)
      go_ret
      exact ⟨rfl, B5.out⟩

set_option maxRecDepth 100000 in
theorem lifted (os : Os) (started : os.Started) (H : Type) (enc : TypeId × Value → H) :
    ReturnsInHanded {} Try.checked os 5 .any (Rows.paramsComparesSpec.pre6 enc Try.prog Try.f5 Rows.paramsComparesRow.domain false) (Rows.paramsComparesSpec.post enc Try.prog Try.f5 false true false false) := by
  refine returnsInHanded_of_change (C := Try.checked) own started (by kernel_rfl) Try.func5
    (ChangeSpec.witness6 (enc := enc) (C := Try.checked) false ⟨#[], #[.agg #[.int .i64 0, .int .i64 0, .int .i64 0, .int .i64 0, .int .i64 0, .int .i64 0, .slice none 0 0, .int .i64 0, .int .i64 0, .int .i64 0, .int .i64 0, .int .i64 0, .int .i64 0, .slice none 0 0, .int .i64 0, .int .i64 0, .int .i64 0, .int .i64 0, .int .i64 0, .slice none 0 0, .int .i64 0, .int .i64 0, .bool false, .bool false, .bool false, .bool false, .bool false, .bool false, .bool false, .bool false, .slice none 0 0, .int .i64 0, .int .i64 0, .int .i64 0, .int .i64 0, .int .i64 0, .int .i64 0, .int .i64 0, .slice none 0 0, .int .i64 0, .int .i64 0, .bool false, .bool false, .bool false, .bool false, .bool false, .bool false, .bool false, .bool false, .slice none 0 0, .int .i64 0, .int .i64 0]], []⟩ 8 (by kernel_rfl) (by kernel_rfl) (by kernel_rfl) (by kernel_rfl)) ?_
  intro W base args ds gs before hval0 hW _ _
  have hval : ∀ (j : Nat) t v, Try.f5.params[j]? = some t → args[j]? = some v → Value.okWide Try.prog W .any base t v := hval0
  have hW' := hW
  obtain ⟨p, q, hA0, hV, rfl, _, _⟩ := hW
  have hA : DataW.TrodAll enc Try.prog W 0 (fun _ => true) true Try.f5.params.toList args.toList ds p := hA0
  rw [Try.params5] at hA hval
  obtain ⟨v0, vs0, d0, ds0, p0, q0, hargs, rfl, rfl, h0, r0⟩ := trodAll_cons hA
  obtain ⟨rfl, rfl, rfl⟩ := trodAll_nil r0
  obtain rfl : args = #[v0] := by cases args; simp_all
  obtain ⟨rfl, rfl⟩ := trodVars_none hV
  clear hA0 hval0
  simp only [List.append_nil] at hW'
  have l0 : ∀ x ∈ p0, x.block < W.heap.size := fun x hx => hW'.lt x (by simp [hx])
  obtain ⟨pa, pb, pp, pq, sa, ma, sb, mb, sp, mp, sp2, mp2, sq, mq, sq2, mq2, rfl, hA0, hB0, hP0, hS0, hP1, hS1⟩ := open_pair (hval 0 47 v0 rfl rfl) h0
  refine (walk pa pb pp pq sa ma sb mb sp mp sp2 mp2 sq mq sq2 mq2 W hA0 hB0 hP0 hS0 hP1 hS1).mono fun e W' ⟨he, hb⟩ => ?_
  subst he
  exact ⟨_, rfl, post_low (pa := p0 ++ ([])) (pv := []) hW' (fun _ _ _ => (trodAll_cons_mk (shut_bool Try.underlying4 _) trodAll_mk0)) (fun sp hsp => (trodAll_cons_mk (trod_low laidOut (by kernel_rfl) (of_decide_eq_true (by kernel_rfl)) h0 hb l0 (fun x hx => hsp x (by simp [hx]))) trodAll_mk0)) (fun _ _ => rfl) (by simp) hb (ok_one (by kernel_rfl) rfl (okWide_bool_mk Try.underlying4 _))⟩

theorem over : Rows.paramsComparesRow.holds Try.pinned (OpenSpec.ofChange Rows.paramsComparesSpec) :=
  OpenClaim.holds_of_wide 5 Try.f5 rfl rfl rfl rfl rfl rfl rfl ⟨rfl, rfl, rfl, rfl, rfl⟩ rfl rfl rfl rfl rfl (by kernel_rfl) Try.func5 (by kernel_rfl)
    (of_decide_eq_true (by kernel_rfl)) (by unfold Func.isWrapper; first | (rw [if_pos (by decide +kernel)]; kernel_rfl) | (rw [if_neg (by decide +kernel)]; exact ⟨rfl, rfl⟩))
    (fun os started H enc _ => lifted os started H enc)

theorem proved : Rows.ParamsComparesSaid :=
  over
#print axioms proved
end Go.Proofs.Ytkcjbehfhcmiaaa.paramsCompares
