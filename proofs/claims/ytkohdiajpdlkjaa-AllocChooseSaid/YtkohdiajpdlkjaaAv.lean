/-
  Layer 21: contracts of check and of the reference's ValidCurves.
-/
import Derived.Test.YtkohdiajpdlkjaaAe
import Derived.Test.YtkohdiajpdlkjaaIc
import Derived.Laws.MakeOwn
set_option maxRecDepth 100000
namespace Go.Proofs.Ytkohdiajpdlkjaa
open Go.RowKit

theorem check_big (a : Option Addr) (m n : Nat) (W : World) (hn : 65536 < n) : Calls Try.prog 19 #[.slice a n m] W fun e w' => e = .returned (.int .i64 5) ∧ w' = W := by
  have h1 : (65536 : Int) < (n : Int) := by omega
  go_enter Try.func19, Try.ntmps19
  go_wp2_with fail
  go_ret
  exact ⟨rfl, rfl⟩
set_option maxHeartbeats 1000000 in
/-- The error of curves. -/
theorem check_c (a : Option Addr) (m n : Nat) (cs : List Cv) (W : World) (hC : HoldsCv W a cs) (hn : n = cs.length) (hn2 : n ≤ 65536) (z : Int) (hz : (okC cs → z = 0) ∧ (¬ okC cs → z = 1)) :
    Calls Try.prog 19 #[.slice a n m] W fun e w' => e = .returned (.int .i64 z) ∧ Below W.heap.size W w' := by
  have HC := Lib.hid hC
  have HN := Lib.hid hn
  have HZ := Lib.hid hz
  have HN2 := Lib.hid hn2
  have hn3 : ¬ (65536 : Int) < (n : Int) := by omega
  clear hC hz hn hn2
  go_enter Try.func19, Try.ntmps19
  go_wp2_with fail
  go_loopw [10] (fun i wr => ∃ k : Nat, k ≤ n ∧ i = .int .i64 (k : Int) ∧ Hid (Below W.heap.size W wr) ∧ Hid (∀ j, j < k → VP (cs.getD j ([], [])).1 (cs.getD j ([], [])).2)) (fun i _ => n - (intOf i).toNat)
  case atStart => exact ⟨0, Nat.zero_le _, rfl, Lib.hid (Below.refl _ _), Lib.hid (fun j hj => absurd hj (Nat.not_lt_zero _))⟩
  case round =>
    obtain ⟨k, hk, rfl, hB, hV⟩ := hrel
    obtain ⟨w0, rfl⟩ : ∃ w0 : World, w0 = wr := ⟨_, rfl⟩
    have hn9 := HN2.out
    by_cases hlt : k < n
    · obtain ⟨b, off, sr, sd, mr, md, rfl, c0, c1, hR, hD⟩ := HC.out.at (show k < cs.length by have := HN.out; omega)
      have hblt := cell_lt' c0
      replace c0 := (hB.out.cell (p := ⟨b, off + k * 2, none⟩) hblt).trans c0
      replace c1 := (hB.out.cell (p := ⟨b, off + k * 2 + 1, none⟩) hblt).trans c1
      obtain ⟨R, D, hRD⟩ : ∃ R D, cs.getD k ([], []) = (R, D) := ⟨_, _, rfl⟩
      rw [hRD] at c0 c1 hR hD
      dsimp only at c0 c1 hR hD
      have HRD := Lib.hid hRD
      replace hR := hR.below hB.out (Nat.le_refl _)
      replace hD := hD.below hB.out (Nat.le_refl _)
      obtain ⟨r, hr⟩ : ∃ r, r = R.length := ⟨_, rfl⟩
      obtain ⟨d, hd⟩ : ∃ d, d = D.length := ⟨_, rfl⟩
      rw [← hr] at c0
      rw [← hd] at c1
      have wA := (Below.refl w0.heap.size w0).alloc (Nat.le_refl _) (.cells #[.slice sr r mr, .slice sd d md] 37)
      have kv := hvalid_c R D r d mr md sr sd _ (hR.below wA (Nat.le_refl _)) (hD.below wA (Nat.le_refl _)) hr hd
      have WA := Lib.hid wA
      clear hR hD hRD hr hd wA hblt
      by_cases hv : VP R D
      · rw [decide_eq_true hv] at kv
        have HV := Lib.hid hv
        clear hv
        go_wp2_with (first | (go_at_call 26; (with_reducible refine kv.mono ?_); rintro e w1 ⟨rfl, hb1⟩; have B1 := Lib.hid (WA.out.trans (hb1.mono WA.out.size)); clear hb1) | fail)
        go_roundw
        case rel => exact ⟨k + 1, by omega, by go_num, Lib.hid (hB.out.trans (B1.out.mono hB.out.size)), Lib.hid (fun j hj => by
          rcases Nat.lt_or_ge j k with h | h
          · exact hV.out j h
          · obtain rfl : j = k := by omega
            rw [HRD.out]; exact HV.out)⟩
        case measure => simp [intOf]; omega
      · rw [decide_eq_false hv] at kv
        have HV := Lib.hid hv
        clear hv
        go_wp2_with (first | (go_at_call 26; (with_reducible refine kv.mono ?_); rintro e w1 ⟨rfl, hb1⟩; have B1 := Lib.hid (WA.out.trans (hb1.mono WA.out.size)); clear hb1) | fail)
        go_ret
        exact ⟨by rw [HZ.out.2 (fun h => HV.out (by have := h.2 k (by have := HN.out; omega); rw [HRD.out] at this; exact this))]; rfl, hB.out.trans (B1.out.mono hB.out.size)⟩
    · obtain rfl : k = n := by omega
      go_wp2_with fail
      go_ret
      exact ⟨by rw [HZ.out.1 ⟨by have := HN.out; have := HN2.out; omega, fun i hi => hV.out i (by have := HN.out; omega)⟩]; rfl, hB.out⟩

theorem vcurves_big (a : Option Addr) (m n : Nat) (W : World) (hn : 65536 < n) : Calls Try.prog 17 #[.slice a n m] W fun e w' => e = .returned (.int .i64 5) ∧ w' = W := by
  have h1 : (65536 : Int) < (n : Int) := by omega
  go_enter Try.func17, Try.ntmps17
  go_wp2_with fail
  go_ret
  exact ⟨rfl, rfl⟩
set_option maxHeartbeats 1000000 in
/-- The same of the reference. -/
theorem vcurves_c (a : Option Addr) (m n : Nat) (cs : List Cv) (W : World) (hC : HoldsCv W a cs) (hn : n = cs.length) (hn2 : n ≤ 65536) (z : Int) (hz : (okC cs → z = 0) ∧ (¬ okC cs → z = 1)) :
    Calls Try.prog 17 #[.slice a n m] W fun e w' => e = .returned (.int .i64 z) ∧ Below W.heap.size W w' := by
  have HC := Lib.hid hC
  have HN := Lib.hid hn
  have HZ := Lib.hid hz
  have HN2 := Lib.hid hn2
  have hn3 : ¬ (65536 : Int) < (n : Int) := by omega
  clear hC hz hn hn2
  go_enter Try.func17, Try.ntmps17
  go_wp2_with fail
  go_loopw [10] (fun i wr => ∃ k : Nat, k ≤ n ∧ i = .int .i64 (k : Int) ∧ Hid (Below W.heap.size W wr) ∧ Hid (∀ j, j < k → VP (cs.getD j ([], [])).1 (cs.getD j ([], [])).2)) (fun i _ => n - (intOf i).toNat)
  case atStart => exact ⟨0, Nat.zero_le _, rfl, Lib.hid (Below.refl _ _), Lib.hid (fun j hj => absurd hj (Nat.not_lt_zero _))⟩
  case round =>
    obtain ⟨k, hk, rfl, hB, hV⟩ := hrel
    obtain ⟨w0, rfl⟩ : ∃ w0 : World, w0 = wr := ⟨_, rfl⟩
    have hn9 := HN2.out
    by_cases hlt : k < n
    · obtain ⟨b, off, sr, sd, mr, md, rfl, c0, c1, hR, hD⟩ := HC.out.at (show k < cs.length by have := HN.out; omega)
      have hblt := cell_lt' c0
      replace c0 := (hB.out.cell (p := ⟨b, off + k * 2, none⟩) hblt).trans c0
      replace c1 := (hB.out.cell (p := ⟨b, off + k * 2 + 1, none⟩) hblt).trans c1
      obtain ⟨R, D, hRD⟩ : ∃ R D, cs.getD k ([], []) = (R, D) := ⟨_, _, rfl⟩
      rw [hRD] at c0 c1 hR hD
      dsimp only at c0 c1 hR hD
      have HRD := Lib.hid hRD
      replace hR := hR.below hB.out (Nat.le_refl _)
      replace hD := hD.below hB.out (Nat.le_refl _)
      obtain ⟨r, hr⟩ : ∃ r, r = R.length := ⟨_, rfl⟩
      obtain ⟨d, hd⟩ : ∃ d, d = D.length := ⟨_, rfl⟩
      rw [← hr] at c0
      rw [← hd] at c1
      have wA := (Below.refl w0.heap.size w0).alloc (Nat.le_refl _) (.cells #[.slice sr r mr, .slice sd d md] 37)
      have kv := zvalid_c R D r d mr md sr sd _ (hR.below wA (Nat.le_refl _)) (hD.below wA (Nat.le_refl _)) hr hd
      have WA := Lib.hid wA
      clear hR hD hRD hr hd wA hblt
      by_cases hv : VP R D
      · rw [decide_eq_true hv] at kv
        have HV := Lib.hid hv
        clear hv
        go_wp2_with (first | (go_at_call 14; (with_reducible refine kv.mono ?_); rintro e w1 ⟨rfl, hb1⟩; have B1 := Lib.hid (WA.out.trans (hb1.mono WA.out.size)); clear hb1) | fail)
        go_roundw
        case rel => exact ⟨k + 1, by omega, by go_num, Lib.hid (hB.out.trans (B1.out.mono hB.out.size)), Lib.hid (fun j hj => by
          rcases Nat.lt_or_ge j k with h | h
          · exact hV.out j h
          · obtain rfl : j = k := by omega
            rw [HRD.out]; exact HV.out)⟩
        case measure => simp [intOf]; omega
      · rw [decide_eq_false hv] at kv
        have HV := Lib.hid hv
        clear hv
        go_wp2_with (first | (go_at_call 14; (with_reducible refine kv.mono ?_); rintro e w1 ⟨rfl, hb1⟩; have B1 := Lib.hid (WA.out.trans (hb1.mono WA.out.size)); clear hb1) | fail)
        go_ret
        exact ⟨by rw [HZ.out.2 (fun h => HV.out (by have := h.2 k (by have := HN.out; omega); rw [HRD.out] at this; exact this))]; rfl, hB.out.trans (B1.out.mono hB.out.size)⟩
    · obtain rfl : k = n := by omega
      go_wp2_with fail
      go_ret
      exact ⟨by rw [HZ.out.1 ⟨by have := HN.out; have := HN2.out; omega, fun i hi => hV.out i (by have := HN.out; omega)⟩]; rfl, hB.out⟩
end Go.Proofs.Ytkohdiajpdlkjaa
