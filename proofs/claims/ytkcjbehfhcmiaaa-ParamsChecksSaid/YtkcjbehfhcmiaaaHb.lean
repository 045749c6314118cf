/-
  Layer 23: contracts of within, samples and cells.
-/
import Derived.Test.YtkcjbehfhcmiaaaHa
import Derived.Test.YtkcjbehfhcmiaaaRectC
set_option maxRecDepth 100000
namespace Go.Proofs.Ytkcjbehfhcmiaaa
open Go.RowKit

theorem all_no {lo hi : Int} {l : List Int} {k : Nat} (hk : k < l.length) (h : l[k] < lo ∨ hi < l[k]) : Hp.allB lo hi l = false := by
  rw [Hp.allB, List.all_eq_false]
  exact ⟨l[k], List.getElem_mem hk, by rw [Hp.in_not.2 h]; decide⟩
theorem all_yes {lo hi : Int} {l : List Int} (h : ∀ j (hj : j < l.length), j < l.length → Hp.inB lo hi l[j] = true) : Hp.allB lo hi l = true := by
  rw [Hp.allB, List.all_eq_true]
  intro x hx
  obtain ⟨j, hj, rfl⟩ := List.getElem_of_mem hx
  exact h j hj hj
set_option maxHeartbeats 1000000 in
theorem within_i (lo hi : Int) (l : List Int) (s : Option Addr) (m : Nat) (W : World) (hl : l.length ≤ 4398046511104) (hH : HoldsI W s l) :
    Calls Try.prog 41 #[.int .i64 lo, .int .i64 hi, .slice s l.length m] W fun e w' => e = .returned (.bool (Hp.allB lo hi l)) ∧ w' = W := by
  go_enter Try.func41, Try.ntmps41
  go_wp2_with fail
  go_loopw [8, 11] (fun _ i wr => ∃ k : Nat, k ≤ l.length ∧ i = .int .i64 k ∧ (∀ j (hj : j < l.length), j < k → Hp.inB lo hi l[j] = true) ∧ W = wr) (fun _ i _ => l.length - (intOf i).toNat)
  case atStart => exact ⟨0, Nat.zero_le _, rfl, fun j _ h => absurd h (Nat.not_lt_zero _), rfl⟩
  case round =>
    obtain ⟨k, hk, rfl, hall, rfl⟩ := hrel
    have HA : Hid _ := hall
    clear hall
    by_cases hlt : k < l.length
    · rcases hH with rfl | ⟨bb, off, rfl, hr⟩
      · simp at hlt
      have y0 := hr k hlt
      have hki : (k : Int) < (l.length : Int) := by omega
      have w2 : IntKind.i64.wrap ((k : Int) + 1) = (k : Int) + 1 := IntWalk.i64_in _ (by omega)
      have HF : Hid (l[k] < lo ∨ hi < l[k] → Hp.allB lo hi l = false) := all_no hlt
      have HV : Hid (lo ≤ l[k] → l[k] ≤ hi → ∀ j (hj : j < l.length), j < k + 1 → Hp.inB lo hi l[j] = true) := fun a c j hj hjk => if e : j = k then by subst e; exact Hp.in_iff.2 ⟨a, c⟩ else HA.out j hj (by omega)
      generalize l[k] = V at *
      by_cases h1 : V < lo
      · have hf := Lib.hid (HF.out (.inl h1))
        clear HF HV HA
        go_wp2_with fail
        go_ret
        exact ⟨congrArg (fun b => Ending.returned (.bool b)) hf.out.symm, rfl⟩
      · by_cases h2 : hi < V
        · have hf := Lib.hid (HF.out (.inr h2))
          clear HF HV HA
          go_wp2_with fail
          go_ret
          exact ⟨congrArg (fun b => Ending.returned (.bool b)) hf.out.symm, rfl⟩
        · have HN : Hid _ := HV.out (by omega) (by omega)
          clear HF HV HA
          go_wp2_with fail
          go_roundw
          case rel => exact ⟨k + 1, by omega, by go_num, HN.out, by first | trivial | rfl⟩
          case measure => simp [intOf]; omega
    · obtain rfl : k = l.length := by omega
      have hf := Lib.hid (all_yes fun j hj => HA.out j hj)
      clear HA
      go_wp2
      go_ret
      exact ⟨congrArg (fun b => Ending.returned (.bool b)) hf.out.symm, rfl⟩
set_option maxHeartbeats 1000000 in
theorem within_k (lo hi : Int) (l : List Int) (s : Option Addr) (m : Nat) (W : World) (hl : l.length ≤ 4398046511104) (hH : HoldsI W s l) :
    Calls Try.prog 61 #[.int .i64 lo, .int .i64 hi, .slice s l.length m] W fun e w' => e = .returned (.bool (Hp.allB lo hi l)) ∧ w' = W := by
  go_enter Try.func61, Try.ntmps61
  go_wp2_with fail
  go_loopw [8, 11] (fun _ i wr => ∃ k : Nat, k ≤ l.length ∧ i = .int .i64 k ∧ (∀ j (hj : j < l.length), j < k → Hp.inB lo hi l[j] = true) ∧ W = wr) (fun _ i _ => l.length - (intOf i).toNat)
  case atStart => exact ⟨0, Nat.zero_le _, rfl, fun j _ h => absurd h (Nat.not_lt_zero _), rfl⟩
  case round =>
    obtain ⟨k, hk, rfl, hall, rfl⟩ := hrel
    have HA : Hid _ := hall
    clear hall
    by_cases hlt : k < l.length
    · rcases hH with rfl | ⟨bb, off, rfl, hr⟩
      · simp at hlt
      have y0 := hr k hlt
      have hki : (k : Int) < (l.length : Int) := by omega
      have w2 : IntKind.i64.wrap ((k : Int) + 1) = (k : Int) + 1 := IntWalk.i64_in _ (by omega)
      have HF : Hid (l[k] < lo ∨ hi < l[k] → Hp.allB lo hi l = false) := all_no hlt
      have HV : Hid (lo ≤ l[k] → l[k] ≤ hi → ∀ j (hj : j < l.length), j < k + 1 → Hp.inB lo hi l[j] = true) := fun a c j hj hjk => if e : j = k then by subst e; exact Hp.in_iff.2 ⟨a, c⟩ else HA.out j hj (by omega)
      generalize l[k] = V at *
      by_cases h1 : V < lo
      · have hf := Lib.hid (HF.out (.inl h1))
        clear HF HV HA
        go_wp2_with fail
        go_ret
        exact ⟨congrArg (fun b => Ending.returned (.bool b)) hf.out.symm, rfl⟩
      · by_cases h2 : hi < V
        · have hf := Lib.hid (HF.out (.inr h2))
          clear HF HV HA
          go_wp2_with fail
          go_ret
          exact ⟨congrArg (fun b => Ending.returned (.bool b)) hf.out.symm, rfl⟩
        · have HN : Hid _ := HV.out (by omega) (by omega)
          clear HF HV HA
          go_wp2_with fail
          go_roundw
          case rel => exact ⟨k + 1, by omega, by go_num, HN.out, by first | trivial | rfl⟩
          case measure => simp [intOf]; omega
    · obtain rfl : k = l.length := by omega
      have hf := Lib.hid (all_yes fun j hj => HA.out j hj)
      clear HA
      go_wp2
      go_ret
      exact ⟨congrArg (fun b => Ending.returned (.bool b)) hf.out.symm, rfl⟩
set_option maxHeartbeats 1000000 in
theorem within_t (lo hi : Int) (l : List Int) (s : Option Addr) (m : Nat) (W : World) (hl : l.length ≤ 4398046511104) (hH : HoldsI W s l) :
    Calls Try.prog 62 #[.int .i64 lo, .int .i64 hi, .slice s l.length m] W fun e w' => e = .returned (.bool (Hp.allB lo hi l)) ∧ w' = W := by
  go_enter Try.func62, Try.ntmps62
  go_wp2_with fail
  go_loopw [8, 11] (fun _ i wr => ∃ k : Nat, k ≤ l.length ∧ i = .int .i64 k ∧ (∀ j (hj : j < l.length), j < k → Hp.inB lo hi l[j] = true) ∧ W = wr) (fun _ i _ => l.length - (intOf i).toNat)
  case atStart => exact ⟨0, Nat.zero_le _, rfl, fun j _ h => absurd h (Nat.not_lt_zero _), rfl⟩
  case round =>
    obtain ⟨k, hk, rfl, hall, rfl⟩ := hrel
    have HA : Hid _ := hall
    clear hall
    by_cases hlt : k < l.length
    · rcases hH with rfl | ⟨bb, off, rfl, hr⟩
      · simp at hlt
      have y0 := hr k hlt
      have hki : (k : Int) < (l.length : Int) := by omega
      have w2 : IntKind.i64.wrap ((k : Int) + 1) = (k : Int) + 1 := IntWalk.i64_in _ (by omega)
      have HF : Hid (l[k] < lo ∨ hi < l[k] → Hp.allB lo hi l = false) := all_no hlt
      have HV : Hid (lo ≤ l[k] → l[k] ≤ hi → ∀ j (hj : j < l.length), j < k + 1 → Hp.inB lo hi l[j] = true) := fun a c j hj hjk => if e : j = k then by subst e; exact Hp.in_iff.2 ⟨a, c⟩ else HA.out j hj (by omega)
      generalize l[k] = V at *
      by_cases h1 : V < lo
      · have hf := Lib.hid (HF.out (.inl h1))
        clear HF HV HA
        go_wp2_with fail
        go_ret
        exact ⟨congrArg (fun b => Ending.returned (.bool b)) hf.out.symm, rfl⟩
      · by_cases h2 : hi < V
        · have hf := Lib.hid (HF.out (.inr h2))
          clear HF HV HA
          go_wp2_with fail
          go_ret
          exact ⟨congrArg (fun b => Ending.returned (.bool b)) hf.out.symm, rfl⟩
        · have HN : Hid _ := HV.out (by omega) (by omega)
          clear HF HV HA
          go_wp2_with fail
          go_roundw
          case rel => exact ⟨k + 1, by omega, by go_num, HN.out, by first | trivial | rfl⟩
          case measure => simp [intOf]; omega
    · obtain rfl : k = l.length := by omega
      have hf := Lib.hid (all_yes fun j hj => HA.out j hj)
      clear HA
      go_wp2
      go_ret
      exact ⟨congrArg (fun b => Ending.returned (.bool b)) hf.out.symm, rfl⟩
set_option maxHeartbeats 1000000 in
theorem within_o (lo hi : Int) (l : List Int) (s : Option Addr) (m : Nat) (W : World) (hl : l.length ≤ 4398046511104) (hH : HoldsI W s l) :
    Calls Try.prog 63 #[.int .i64 lo, .int .i64 hi, .slice s l.length m] W fun e w' => e = .returned (.bool (Hp.allB lo hi l)) ∧ w' = W := by
  go_enter Try.func63, Try.ntmps63
  go_wp2_with fail
  go_loopw [8, 11] (fun _ i wr => ∃ k : Nat, k ≤ l.length ∧ i = .int .i64 k ∧ (∀ j (hj : j < l.length), j < k → Hp.inB lo hi l[j] = true) ∧ W = wr) (fun _ i _ => l.length - (intOf i).toNat)
  case atStart => exact ⟨0, Nat.zero_le _, rfl, fun j _ h => absurd h (Nat.not_lt_zero _), rfl⟩
  case round =>
    obtain ⟨k, hk, rfl, hall, rfl⟩ := hrel
    have HA : Hid _ := hall
    clear hall
    by_cases hlt : k < l.length
    · rcases hH with rfl | ⟨bb, off, rfl, hr⟩
      · simp at hlt
      have y0 := hr k hlt
      have hki : (k : Int) < (l.length : Int) := by omega
      have w2 : IntKind.i64.wrap ((k : Int) + 1) = (k : Int) + 1 := IntWalk.i64_in _ (by omega)
      have HF : Hid (l[k] < lo ∨ hi < l[k] → Hp.allB lo hi l = false) := all_no hlt
      have HV : Hid (lo ≤ l[k] → l[k] ≤ hi → ∀ j (hj : j < l.length), j < k + 1 → Hp.inB lo hi l[j] = true) := fun a c j hj hjk => if e : j = k then by subst e; exact Hp.in_iff.2 ⟨a, c⟩ else HA.out j hj (by omega)
      generalize l[k] = V at *
      by_cases h1 : V < lo
      · have hf := Lib.hid (HF.out (.inl h1))
        clear HF HV HA
        go_wp2_with fail
        go_ret
        exact ⟨congrArg (fun b => Ending.returned (.bool b)) hf.out.symm, rfl⟩
      · by_cases h2 : hi < V
        · have hf := Lib.hid (HF.out (.inr h2))
          clear HF HV HA
          go_wp2_with fail
          go_ret
          exact ⟨congrArg (fun b => Ending.returned (.bool b)) hf.out.symm, rfl⟩
        · have HN : Hid _ := HV.out (by omega) (by omega)
          clear HF HV HA
          go_wp2_with fail
          go_roundw
          case rel => exact ⟨k + 1, by omega, by go_num, HN.out, by first | trivial | rfl⟩
          case measure => simp [intOf]; omega
    · obtain rfl : k = l.length := by omega
      have hf := Lib.hid (all_yes fun j hj => HA.out j hj)
      clear HA
      go_wp2
      go_ret
      exact ⟨congrArg (fun b => Ending.returned (.bool b)) hf.out.symm, rfl⟩
set_option maxHeartbeats 1000000 in
theorem samples_c (r : Pl.R) (c : Hp.Cm) (W : World) : Calls Try.prog 69 #[.agg #[.int .i64 r.x0, .int .i64 r.y0, .int .i64 r.x1, .int .i64 r.y1], .agg #[.int .i64 c.depth, .bool c.sg, .int .i64 c.dx, .int .i64 c.dy]] W fun e w' => e = .returned (.agg (rv (Hp.smp r c))) ∧ Below W.heap.size W w' := by
  obtain ⟨WB, hWB⟩ : ∃ ww, ww = (((W.alloc (.cells #[.int .i64 r.x0, .int .i64 r.y0, .int .i64 r.x1, .int .i64 r.y1] 23)).alloc (.cells #[.int .i64 c.depth, .bool c.sg, .int .i64 c.dx, .int .i64 c.dy] 56)).alloc (.cells #[.int .i64 0, .int .i64 0, .int .i64 0, .int .i64 0] 23)) := ⟨_, rfl⟩
  have hb0 : Below W.heap.size W WB := by rw [hWB]; exact (below_alloc (below_alloc (below_alloc (Below.refl _ W) (Nat.le_refl _) _) (by simp <;> omega) _) (by simp <;> omega) _)
  have B0 := Lib.hid hb0
  have hX : Blk WB (W.heap.size) 23 #[.int .i64 r.x0, .int .i64 r.y0, .int .i64 r.x1, .int .i64 r.y1] := by
    have := Blk.new (W) 23 #[.int .i64 r.x0, .int .i64 r.y0, .int .i64 r.x1, .int .i64 r.y1]
    rw [hWB]
    exact (((show Blk _ (W.heap.size) _ _ by simpa using this)).alloc _).alloc _
  have HX0 := Lib.hid hX
  have hC : Blk WB (W.heap.size + 1) 56 #[.int .i64 c.depth, .bool c.sg, .int .i64 c.dx, .int .i64 c.dy] := by
    have := Blk.new ((W.alloc (.cells #[.int .i64 r.x0, .int .i64 r.y0, .int .i64 r.x1, .int .i64 r.y1] 23))) 56 #[.int .i64 c.depth, .bool c.sg, .int .i64 c.dx, .int .i64 c.dy]
    rw [hWB]
    exact ((show Blk _ (W.heap.size + 1) _ _ by simpa using this)).alloc _
  have HC0 := Lib.hid hC
  have hY : Blk WB (W.heap.size + 2) 23 #[.int .i64 0, .int .i64 0, .int .i64 0, .int .i64 0] := by
    have := Blk.new (((W.alloc (.cells #[.int .i64 r.x0, .int .i64 r.y0, .int .i64 r.x1, .int .i64 r.y1] 23)).alloc (.cells #[.int .i64 c.depth, .bool c.sg, .int .i64 c.dx, .int .i64 c.dy] 56))) 23 #[.int .i64 0, .int .i64 0, .int .i64 0, .int .i64 0]
    rw [hWB]
    exact (show Blk _ (W.heap.size + 2) _ _ by simpa using this)
  have HY0 := Lib.hid hY
  have HWB := Lib.hid hWB
  clear hb0 hWB hX hC hY
  have kr := red_c r.x0 r.y0 r.x1 r.y1 c.dx c.dy WB
  rw [HWB.out] at kr
  have hs : Pl.redR r.x0 r.y0 r.x1 r.y1 c.dx c.dy = Hp.smp r c := rfl
  rw [hs] at kr
  clear hs
  generalize Hp.smp r c = Q at *
  go_enter Try.func69, Try.ntmps69
  go_wp2_with (first | (go_at_call 29; (with_reducible refine kr.mono ?_); rintro e w1 ⟨rfl, hb1⟩; have hb := (show Below WB.heap.size WB w1 by rw [HWB.out]; exact hb1); clear hb1; have B1 := Lib.hid (B0.out.trans (hb.mono B0.out.size)); have HX1 := Lib.hid (HX0.out.below hb); have HC1 := Lib.hid (HC0.out.below hb); have HY1 := Lib.hid (HY0.out.below hb); obtain ⟨x0, x1, x2, x3⟩ := HX1.out.four; obtain ⟨c0, c1, c2, c3⟩ := HC1.out.four; obtain ⟨y0, y1, y2, y3⟩ := HY1.out.four; have yf := HY1.out.free; clear hb) | fail)
  refine bodyPost_ret (results_r rfl _ rfl (HY1.out.set4 _ _ _ _)) rfl ?_
  exact ⟨rfl, below4 B1.out (by omega) _ _ _ _⟩
theorem cd_in {a w : Int} (hw : 1 ≤ w) (h0 : 0 ≤ a) (h1 : a ≤ 4096) : 0 ≤ Pl.cd a w ∧ Pl.cd a w ≤ 4096 ∧ 0 ≤ Pl.fd a w ∧ Pl.fd a w ≤ 4096 := by
  obtain ⟨a1, a2, a3⟩ := Pl.cd_val hw h0
  have b1 := Pl.fd_nonneg hw h0
  have b2 : 0 ≤ a / w := Int.ediv_nonneg h0 (by omega)
  have b3 : a / w ≤ a := Int.ediv_le_self _ h0
  refine ⟨a3, ?_, by omega, by omega⟩
  rcases Int.lt_or_le 0 (Pl.cd a w) with h | h
  · have : 1 * (Pl.cd a w - 1) ≤ w * (Pl.cd a w - 1) := Int.mul_le_mul_of_nonneg_right hw (by omega)
    have e : w * (Pl.cd a w - 1) = w * Pl.cd a w - w := by rw [Int.mul_sub, Int.mul_one]
    rw [e] at this
    omega
  · omega
set_option maxHeartbeats 1000000 in
theorem cells_p (a c s : Int) (W : World) (hs : 1 ≤ s) (h0 : 0 ≤ a) (h1 : a ≤ 4096) (h2 : 0 ≤ c) (h3 : c ≤ 4096) : Calls Try.prog 65 #[.int .i64 a, .int .i64 c, .int .i64 s] W fun e w' => e = .returned (.int .i64 (Hp.cellsI a c s)) ∧ w' = W := by
  have k1 := cd_cs c s W (by omega) (by omega)
  have k2 := fd_cs a s W (by omega) (by omega)
  have b1 := cd_in hs h0 h1
  have b2 := cd_in hs h2 h3
  by_cases h : c ≤ a
  · have e : Hp.cellsI a c s = 0 := if_pos h
    rw [e]
    clear k1 k2 b1 b2 e
    go_enter Try.func65, Try.ntmps65
    go_wp2_with fail
    go_ret
    exact ⟨rfl, rfl⟩
  · have e : Hp.cellsI a c s = Pl.cd c s - Pl.fd a s := if_neg h
    rw [e]
    clear e
    generalize Pl.cd c s = C at *
    generalize Pl.fd a s = A at *
    have w1 : IntKind.i64.wrap (C - A) = C - A := IntWalk.i64_in _ (by omega)
    clear b1 b2
    go_enter Try.func65, Try.ntmps65
    go_wp2_with (first | (go_at_call 58; (with_reducible refine k1.mono ?_); rintro e wn ⟨rfl, rfl⟩) | (go_at_call 57; (with_reducible refine k2.mono ?_); rintro e wn ⟨rfl, rfl⟩) | fail)
    go_ret
    exact ⟨rfl, rfl⟩
end Go.Proofs.Ytkcjbehfhcmiaaa
