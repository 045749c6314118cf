/-
  bits of layer 11's law.
-/
import Derived.Test.YtbaappodeicomaaDoorLa
import Derived.Test.YtbaappodeicomaaDoorFrameP
set_option maxRecDepth 100000
namespace Go.Proofs.YtbaappodeicomaaDoor
open Go.RowKit

def symsB (l : List (Int × Int)) (n : Int) : Bool := decide (l.length ≤ 2000 ∧ 1 ≤ n ∧ n ≤ 64) && l.all fun y => decide (0 ≤ y.1) && decide (y.1 < n) && decide (0 ≤ y.2) && decide (y.2 ≤ 1)
def symsP (l : List (Int × Int)) (n : Int) : Prop := ∀ y ∈ l, 0 ≤ y.1 ∧ y.1 < n ∧ 0 ≤ y.2 ∧ y.2 ≤ 1
theorem symsB_iff (l : List (Int × Int)) (n : Int) : symsB l n = true ↔ (l.length ≤ 2000 ∧ 1 ≤ n ∧ n ≤ 64) ∧ symsP l n := by
  unfold symsB symsP
  simp only [Bool.and_eq_true, decide_eq_true_eq, List.all_eq_true]
  refine and_congr_right fun _ => ⟨fun h y hy => ?_, fun h y hy => ?_⟩
  · have := h y hy; omega
  · have := h y hy; omega
theorem symsB_no {l : List (Int × Int)} {n : Int} (h : ¬ ((l.length ≤ 2000 ∧ 1 ≤ n ∧ n ≤ 64) ∧ symsP l n)) : symsB l n = false := by
  rw [← Bool.not_eq_true, symsB_iff]; exact h
theorem symsP_sym {l : List (Int × Int)} {n : Nat} (h : symsP l n) : ∀ y ∈ l, Am.sym n y := fun y hy => by
  have := h y hy
  unfold Am.sym Am.bit; omega
set_option maxHeartbeats 2000000 in
theorem bits11_c (l : List (Int × Int)) (s : Option Addr) (m : Nat) (n : Int) (w : World) (hH : HoldsP w s l) : Calls Tryd.prog 40 #[.slice s l.length m, .int .i64 n] w fun e w' => e = .returned (.bool (symsB l n)) ∧ w = w' := by
  have HH := Lib.hid hH
  clear hH
  go_enter Tryd.func40, Tryd.ntmps40
  go_wp2_with fail
  go_loop [5] (fun i => ∃ k : Nat, k ≤ l.length ∧ k ≤ 2000 ∧ i = .int .i64 (k : Int) ∧ Hid (∀ j (_ : j < l.length), j < k → 0 ≤ l[j].1 ∧ l[j].1 < n ∧ 0 ≤ l[j].2 ∧ l[j].2 ≤ 1)) (fun i => 2000 - (intOf i).toNat)
  case atStart => exact ⟨0, Nat.zero_le _, by omega, rfl, fun j _ h => by omega⟩
  case round =>
    obtain ⟨k, hk, hk2, rfl, hR⟩ := hrel
    by_cases hlt : k < l.length
    · by_cases h2 : k < 2000
      · obtain ⟨b, off, rfl, c0, c1⟩ := HH.out.at hlt
        obtain ⟨x, hx⟩ : ∃ x, x = l[k].1 := ⟨_, rfl⟩
        obtain ⟨y, hy⟩ : ∃ y, y = l[k].2 := ⟨_, rfl⟩
        rw [← hx] at c0
        rw [← hy] at c1
        have HX := Lib.hid hx
        have HY := Lib.hid hy
        have hno : Hid (¬ (0 ≤ x ∧ x < n ∧ 0 ≤ y ∧ y ≤ 1) → symsB l n = false) := fun hc => by
          refine symsB_no ?_
          rintro ⟨_, hb⟩
          have := hb _ (List.getElem_mem hlt)
          rw [← HX.out, ← HY.out] at this
          exact hc this
        clear hx hy
        by_cases h0 : x < 0
        · have hf : Hid (symsB l n = false) := hno.out (by omega)
          go_wp2_with fail
          go_ret
          exact ⟨by rw [hf.out]; rfl, rfl⟩
        by_cases h1 : n ≤ x
        · have hf : Hid (symsB l n = false) := hno.out (by omega)
          go_wp2_with fail
          go_ret
          exact ⟨by rw [hf.out]; rfl, rfl⟩
        by_cases h3 : y < 0
        · have hf : Hid (symsB l n = false) := hno.out (by omega)
          go_wp2_with fail
          go_ret
          exact ⟨by rw [hf.out]; rfl, rfl⟩
        by_cases h4 : 1 < y
        · have hf : Hid (symsB l n = false) := hno.out (by omega)
          go_wp2_with fail
          go_ret
          exact ⟨by rw [hf.out]; rfl, rfl⟩
        · go_wp2_with fail
          go_round
          case rel =>
            refine ⟨k + 1, by omega, by omega, by go_num, fun j hj hjk => ?_⟩
            by_cases he : j = k
            · subst he
              rw [← HX.out, ← HY.out]; omega
            · exact hR.out j hj (by omega)
          case measure => simp [intOf]; omega
      · have hf : Hid (symsB l n = false) := symsB_no (by omega)
        have h9 : ¬ ((l.length : Int) ≤ 2000) := by omega
        have h8 : (k : Int) = 2000 := by omega
        go_wp2_with fail
        go_ret
        exact ⟨by rw [hf.out]; rfl, rfl⟩
    · obtain rfl : k = l.length := by omega
      have hP : Hid (symsP l n) := fun y hy => by
        obtain ⟨j, hj, rfl⟩ := List.mem_iff_getElem.1 hy
        exact hR.out j hj hj
      by_cases h1 : 1 ≤ n
      · by_cases h2 : n ≤ 64
        · have hf : Hid (symsB l n = true) := (symsB_iff l n).2 ⟨⟨hk2, h1, h2⟩, hP.out⟩
          go_wp2_with fail
          go_ret
          exact ⟨by rw [hf.out]; rfl, rfl⟩
        · have hf : Hid (symsB l n = false) := symsB_no (by omega)
          go_wp2_with fail
          go_ret
          exact ⟨by rw [hf.out]; rfl, rfl⟩
      · have hf : Hid (symsB l n = false) := symsB_no (by omega)
        go_wp2_with fail
        go_ret
        exact ⟨by rw [hf.out]; rfl, rfl⟩
end Go.Proofs.YtbaappodeicomaaDoor
