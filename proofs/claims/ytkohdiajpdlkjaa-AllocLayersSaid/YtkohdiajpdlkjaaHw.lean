/-
  Layer 20: contracts of the scalar functions, of IsSorted, of both Valids and both Steepers.
-/
import Derived.Test.YtkohdiajpdlkjaaHn
import Derived.Test.YtkohdiajpdlkjaaObj6
import Derived.Lib.Hide
set_option maxRecDepth 100000
namespace Go.Proofs.Ytkohdiajpdlkjaa
open Go.RowKit

theorem drewN_below (w : World) (n : Nat) : Below w.heap.size w (w.drewN n) := by
  induction n with
  | zero => exact Below.refl _ _
  | succ n ih => exact ih.drew
theorem HoldsI.at {w : World} {s : Option Addr} {l : List Int} (h : HoldsI w s l) {k : Nat} (hk : k < l.length) : ∃ b off, s = some ⟨b, off, none⟩ ∧ w.cell? ⟨b, off + k, none⟩ = some (.int .i64 (l.getD k 0)) := by
  rcases h with rfl | ⟨b, off, rfl, hr⟩
  · simp at hk
  · refine ⟨b, off, rfl, ?_⟩
    rw [hr k hk]
    simp [List.getD, hk]
theorem HoldsI.of {w : World} {b off : Nat} {l : List Int} (h : HoldsI w (some ⟨b, off, none⟩) l) {k : Nat} (hk : k < l.length) : w.cell? ⟨b, off + k, none⟩ = some (.int .i64 (l.getD k 0)) := by
  rw [holdsI_at h hk]
  simp [List.getD, hk]
theorem isdist_c (d : Int) (W : World) : Calls Try.prog 35 #[.int .i64 d] W fun e w' => e = .returned (.bool (decide (okD d))) ∧ w' = W := by
  by_cases h1 : 0 ≤ d
  · by_cases h2 : d ≤ 70368744177664
    · rw [decide_eq_true (show okD d from ⟨h1, h2⟩)]
      go_enter Try.func35, Try.ntmps35
      go_wp2_with fail
      go_ret
      exact ⟨by first | rfl | simpa using h2, rfl⟩
    · rw [decide_eq_false (show ¬ okD d from fun h => h2 h.2)]
      go_enter Try.func35, Try.ntmps35
      go_wp2_with fail
      go_ret
      exact ⟨by first | rfl | simpa using h2, rfl⟩
  · rw [decide_eq_false (show ¬ okD d from fun h => h1 h.1)]
    go_enter Try.func35, Try.ntmps35
    go_wp2_with fail
    go_ret
    exact ⟨by first | rfl | simpa using h1, rfl⟩
theorem israte_c (d : Int) (W : World) : Calls Try.prog 39 #[.int .i64 d] W fun e w' => e = .returned (.bool (decide (okR d))) ∧ w' = W := by
  by_cases h1 : 0 ≤ d
  · by_cases h2 : d ≤ 65535
    · rw [decide_eq_true (show okR d from ⟨h1, h2⟩)]
      go_enter Try.func39, Try.ntmps39
      go_wp2_with fail
      go_ret
      exact ⟨by first | rfl | simpa using h2, rfl⟩
    · rw [decide_eq_false (show ¬ okR d from fun h => h2 h.2)]
      go_enter Try.func39, Try.ntmps39
      go_wp2_with fail
      go_ret
      exact ⟨by first | rfl | simpa using h2, rfl⟩
  · rw [decide_eq_false (show ¬ okR d from fun h => h1 h.1)]
    go_enter Try.func39, Try.ntmps39
    go_wp2_with fail
    go_ret
    exact ⟨by first | rfl | simpa using h1, rfl⟩
theorem ranged_c (d r : Int) (W : World) : Calls Try.prog 33 #[.int .i64 d, .int .i64 r] W fun e w' => e = .returned (.bool (decide (okD d ∧ okR r))) ∧ w' = W := by
  obtain ⟨z, hz⟩ : ∃ z, z = decide (okD d ∧ okR r) := ⟨_, rfl⟩
  rw [← hz]
  have HZ := Lib.hid hz
  clear hz
  have key : (decide (0 ≤ d) && decide (d ≤ 70368744177664) && decide (0 ≤ r) && decide (r ≤ 65535)) = z := by
    rw [HZ.out, Bool.eq_iff_iff]
    simp only [Bool.and_eq_true, decide_eq_true_eq]
    unfold okD okR
    omega
  by_cases h1 : 0 ≤ d
  · by_cases h2 : d ≤ 70368744177664
    · by_cases h3 : 0 ≤ r
      · rw [decide_eq_true h1, decide_eq_true h2, decide_eq_true h3] at key
        have KEY := Lib.hid key
        clear key
        go_enter Try.func33, Try.ntmps33
        go_wp2_with fail
        go_ret
        exact ⟨by rw [← KEY.out]; simp, rfl⟩
      · rw [decide_eq_false h3] at key
        have KEY := Lib.hid key
        clear key
        go_enter Try.func33, Try.ntmps33
        go_wp2_with fail
        go_ret
        exact ⟨by rw [← KEY.out]; simp, rfl⟩
    · rw [decide_eq_false h2] at key
      have KEY := Lib.hid key
      clear key
      go_enter Try.func33, Try.ntmps33
      go_wp2_with fail
      go_ret
      exact ⟨by rw [← KEY.out]; simp, rfl⟩
  · rw [decide_eq_false h1] at key
    have KEY := Lib.hid key
    clear key
    go_enter Try.func33, Try.ntmps33
    go_wp2_with fail
    go_ret
    exact ⟨by rw [← KEY.out]; simp, rfl⟩
theorem isnan_c (x : Int) (W : World) : Calls Try.prog 46 #[.int .i64 x] W fun e w' => e = .returned (.bool false) ∧ w' = W := by
  have hxx : (x != x) = false := by simp
  go_enter Try.func46, Try.ntmps46
  go_wp2_with fail
  go_ret
  exact ⟨by first | rfl | simp, rfl⟩
theorem less_c (x y : Int) (W : World) : Calls Try.prog 41 #[.int .i64 x, .int .i64 y] W fun e w' => e = .returned (.bool (decide (x < y))) ∧ w' = W := by
  have k1 := isnan_c x
  go_enter Try.func41, Try.ntmps41
  go_wp2_with (first | (go_at_call 46; (with_reducible refine (k1 _).mono ?_); rintro e wn ⟨rfl, rfl⟩))
  go_ret
  exact ⟨by first | rfl | simp, rfl⟩
theorem compare_c (x y : Int) (W : World) : Calls Try.prog 40 #[.int .i64 x, .int .i64 y] W fun e w' => e = .returned (.int .i64 (cmpI x y)) ∧ w' = W := by
  have k1 := isnan_c x
  have k2 := isnan_c y
  by_cases h1 : x < y
  · have e : cmpI x y = -1 := by unfold cmpI; rw [if_pos h1]
    rw [e]; clear e
    go_enter Try.func40, Try.ntmps40
    go_wp2_with (first | (go_at_call 46; (with_reducible refine (k1 _).mono ?_); rintro e wn ⟨rfl, rfl⟩) | (go_at_call 46; (with_reducible refine (k2 _).mono ?_); rintro e wn ⟨rfl, rfl⟩))
    go_ret
    exact ⟨rfl, rfl⟩
  · by_cases h2 : y < x
    · have e : cmpI x y = 1 := by unfold cmpI; rw [if_neg h1, if_pos h2]
      rw [e]; clear e
      go_enter Try.func40, Try.ntmps40
      go_wp2_with (first | (go_at_call 46; (with_reducible refine (k1 _).mono ?_); rintro e wn ⟨rfl, rfl⟩) | (go_at_call 46; (with_reducible refine (k2 _).mono ?_); rintro e wn ⟨rfl, rfl⟩))
      go_ret
      exact ⟨rfl, rfl⟩
    · have e : cmpI x y = 0 := by unfold cmpI; rw [if_neg h1, if_neg h2]
      rw [e]; clear e
      go_enter Try.func40, Try.ntmps40
      go_wp2_with (first | (go_at_call 46; (with_reducible refine (k1 _).mono ?_); rintro e wn ⟨rfl, rfl⟩) | (go_at_call 46; (with_reducible refine (k2 _).mono ?_); rintro e wn ⟨rfl, rfl⟩))
      go_ret
      exact ⟨rfl, rfl⟩
theorem asc_drop {l : List Int} (k : Nat) (hk : k + 1 = l.length) (h : ∀ j, 0 < j → j < l.length → l.getD (j - 1) 0 ≤ l.getD j 0) : Asc l := by
  intro i hi
  have := h (i + 1) (by omega) (by omega)
  simpa using this
set_option maxHeartbeats 1000000 in
theorem sorted_c (l : List Int) (s : Option Addr) (m : Nat) (W : World) (hH : HoldsI W s l) (hl : l.length ≤ 1000000000) : Calls Try.prog 34 #[.slice s l.length m] W fun e w' => e = .returned (.bool (decide (Asc l))) ∧ Below W.heap.size W w' := by
  obtain ⟨z, hz⟩ : ∃ z, z = decide (Asc l) := ⟨_, rfl⟩
  rw [← hz]
  have HZ := Lib.hid hz
  have HH := Lib.hid hH
  have HL := Lib.hid hl
  have w1 : IntKind.i64.wrap ((l.length : Int) - 1) = (l.length : Int) - 1 := by rw [IntWalk.i64_left]; unfold wrap64; omega
  clear hz hH hl
  go_enter Try.func34, Try.ntmps34
  go_wp2_with fail
  clear w1
  go_loopw [3] (fun i wr => ∃ k : Nat, k ≤ l.length ∧ i = .int .i64 ((k : Int) - 1) ∧ Hid (∀ j, k ≤ j → 0 < j → j < l.length → l.getD (j - 1) 0 ≤ l.getD j 0) ∧ Hid (Below W.heap.size W wr)) (fun i _ => (intOf i + 1).toNat)
  case atStart => exact ⟨l.length, Nat.le_refl _, rfl, fun j h1 _ h2 => absurd h2 (by omega), Below.refl _ _⟩
  case round =>
    obtain ⟨k, hk, rfl, hA, hW⟩ := hrel
    by_cases h2 : 2 ≤ k
    · obtain ⟨k, rfl⟩ : ∃ n, k = n + 2 := ⟨k - 2, by omega⟩
      obtain ⟨K, hK⟩ : ∃ K, K = k + 1 := ⟨_, rfl⟩
      have hlt : K < l.length := by omega
      obtain ⟨g, off, rfl, hc⟩ := (HH.out.call hW.out).at hlt
      have hc2 := (HH.out.call hW.out).of (show k < l.length by omega)
      have e1 : ((k + 2 : Nat) : Int) - 1 = (K : Int) := by omega
      rw [e1]
      have gt : (0 : Int) < (K : Int) := by omega
      have e2 : IntKind.i64.wrap ((K : Int) - 1) = (k : Int) := by have := HL.out; rw [IntWalk.i64_left]; unfold wrap64; omega
      have kl := less_c (l.getD K 0) (l.getD k 0)
      have HLT := Lib.hid hlt
      have HK := Lib.hid hK
      have b1 : (0 : Int) ≤ (K : Int) := by omega
      have b2 : (K : Int) < (l.length : Int) := by omega
      have b3 : (0 : Int) ≤ (k : Int) := by omega
      have b4 : (k : Int) < (l.length : Int) := by omega
      by_cases ha : l.getD K 0 < l.getD k 0
      · have hz : z = false := by
          rw [HZ.out, decide_eq_false]
          intro h
          have := h k (by omega)
          rw [← hK] at this
          omega
        rw [decide_eq_true ha] at kl
        clear ha hk hA HZ e1 hK
        subst hz
        generalize l.getD K 0 = x at *
        generalize l.getD k 0 = y at *
        go_wp2_with fail
        go_quiet ((go_at_call 41; exact Calls.quiet_of_same (kl _)))
        go_wp2_with fail
        go_ret
        exact ⟨rfl, below_call hW.out (drewN_below _ _)⟩
      · have HA2 := Lib.hid ha
        rw [decide_eq_false ha] at kl
        clear ha hk e1 hK
        generalize hx : l.getD K 0 = x at *
        generalize hy : l.getD k 0 = y at *
        have HX := Lib.hid hx
        have HY := Lib.hid hy
        clear hx hy
        go_wp2_with fail
        go_quiet ((go_at_call 41; exact Calls.quiet_of_same (kl _)))
        go_wp2_with fail
        go_roundw
        case rel => exact ⟨K, by have := HLT.out; omega, by rw [HK.out]; go_num, fun j h1 h3 h4 => by
          have hK := HK.out
          rcases Nat.lt_or_ge j (k + 2) with h | h
          · obtain rfl : j = K := by omega
            rw [show j - 1 = k by omega, HX.out, HY.out]; have := HA2.out; omega
          · exact hA.out j h h3 h4, below_call hW.out (drewN_below _ _)⟩
        case measure => have := HK.out; simp [intOf]; omega
    · have hz : z = true := by
        rw [HZ.out, decide_eq_true]
        intro i hi
        have := hA.out (i + 1) (by omega) (by omega) (by omega)
        simpa using this
      have gt : ¬ (0 : Int) < (k : Int) - 1 := by omega
      subst hz
      clear hA HZ
      go_wp2_with fail
      go_ret
      exact ⟨rfl, hW.out⟩
end Go.Proofs.Ytkohdiajpdlkjaa
