/-
  Layer 28: contracts of isBytes, Known, Bare and ReadUint, code and reference.
-/
import Derived.Test.YtagfmmkhgggfmaaMb
set_option maxRecDepth 100000
namespace Go.Proofs.Ytagfmmkhgggfmaa
open Go.RowKit

theorem or_low64 (v x : Int) (h0 : 0 ≤ v) (h1 : v < 36028797018963968) (hx : 0 ≤ x ∧ x ≤ 255) : bits .or .i64 (v * 256) x = v * 256 + x := by
  obtain ⟨k, rfl⟩ : ∃ k : Nat, v = k := ⟨v.toNat, by omega⟩
  obtain ⟨c, rfl⟩ : ∃ c : Nat, x = c := ⟨x.toNat, by omega⟩
  have h2 : (BitVec.ofInt 64 ((k : Int) * 256) ||| BitVec.ofInt 64 (c : Int)).toNat = 256 * k + c := by
    rw [BitVec.toNat_or, BitVec.toNat_ofInt, BitVec.toNat_ofInt]
    have e1 : ((k : Int) * 256 % ((2 ^ 64 : Nat) : Int)).toNat = 2 ^ 8 * k := by omega
    have e2 : ((c : Int) % ((2 ^ 64 : Nat) : Int)).toNat = c := by omega
    rw [e1, e2, ← Nat.two_pow_add_eq_or_of_lt (by omega) k]
  show IntKind.i64.wrap ((BitVec.ofInt 64 ((k : Int) * 256) ||| BitVec.ofInt 64 (c : Int)).toNat : Int) = _
  rw [h2, IntWalk.i64_in _ (by omega)]
  omega
theorem isBytes_c (n : Int) (w : World) : Calls Try.prog 31 #[.int .i64 n] w fun e w' => e = .returned (.bool (Mk.isN n)) ∧ w = w' := by
  by_cases h1 : 1 ≤ n
  · by_cases h2 : n ≤ 4
    · have e : Mk.isN n = true := by simp [Mk.isN, h1, h2]
      rw [e]; clear e
      go_enter Try.func31, Try.ntmps31
      go_wp2_with fail
      go_ret
      exact ⟨rfl, rfl⟩
    · have e : Mk.isN n = false := by simp [Mk.isN]; omega
      rw [e]; clear e
      have d2 : decide (n ≤ 4) = false := decide_eq_false h2
      go_enter Try.func31, Try.ntmps31
      go_wp2_with fail
      go_ret
      exact ⟨rfl, rfl⟩
  · have e : Mk.isN n = false := by simp [Mk.isN]; omega
    rw [e]; clear e
    have d1 : decide (1 ≤ n) = false := decide_eq_false h1
    go_enter Try.func31, Try.ntmps31
    go_wp2_with fail
    go_ret
    exact ⟨rfl, rfl⟩
theorem bare_forms (c : Int) : (Mk.bare c = true ∧ (c = 65440 ∨ c = 65458 ∨ c = 65455)) ∨ (Mk.bare c = false ∧ c ≠ 65440 ∧ c ≠ 65458 ∧ c ≠ 65455) := by
  by_cases h1 : c = 65440
  · left; subst h1; exact ⟨rfl, by omega⟩
  · by_cases h2 : c = 65458
    · left; subst h2; exact ⟨rfl, by omega⟩
    · by_cases h3 : c = 65455
      · left; subst h3; exact ⟨rfl, by omega⟩
      · right; exact ⟨by simp [Mk.bare, h1, h2, h3], h1, h2, h3⟩
theorem bare_c (c : Int) (w : World) : Calls Try.prog 12 #[.int .i64 c] w fun e w' => e = .returned (.bool (Mk.bare c)) ∧ w = w' := by
  rcases bare_forms c with ⟨e, h | h | h⟩ | ⟨e, h1, h2, h3⟩
  all_goals (rw [e]; clear e)
  all_goals (try subst h)
  · go_enter Try.func12, Try.ntmps12
    go_wp2_with fail
    go_ret
    exact ⟨rfl, rfl⟩
  · go_enter Try.func12, Try.ntmps12
    go_wp2_with fail
    go_ret
    exact ⟨rfl, rfl⟩
  · go_enter Try.func12, Try.ntmps12
    go_wp2_with fail
    go_ret
    exact ⟨rfl, rfl⟩
  · have d1 : (c == 65440) = false := by simpa using h1
    have d2 : (c == 65458) = false := by simpa using h2
    have d3 : (c == 65455) = false := by simpa using h3
    go_enter Try.func12, Try.ntmps12
    go_wp2_with fail
    go_ret
    exact ⟨rfl, rfl⟩
theorem rbare_c (c : Int) (w : World) : Calls Try.prog 13 #[.int .i64 c] w fun e w' => e = .returned (.bool (Mk.bare c)) ∧ w = w' := by
  rcases bare_forms c with ⟨e, h | h | h⟩ | ⟨e, h1, h2, h3⟩
  all_goals (rw [e]; clear e)
  all_goals (try subst h)
  · go_enter Try.func13, Try.ntmps13
    go_wp2_with fail
    go_ret
    exact ⟨rfl, rfl⟩
  · go_enter Try.func13, Try.ntmps13
    go_wp2_with fail
    go_ret
    exact ⟨rfl, rfl⟩
  · go_enter Try.func13, Try.ntmps13
    go_wp2_with fail
    go_ret
    exact ⟨rfl, rfl⟩
  · have d1 : (c == 65440) = false := by simpa using h1
    have d2 : (c == 65458) = false := by simpa using h2
    have d3 : (c == 65455) = false := by simpa using h3
    go_enter Try.func13, Try.ntmps13
    go_wp2_with fail
    go_ret
    exact ⟨rfl, rfl⟩
theorem known_forms (c : Int) : (Mk.known c = true ∧ (c = 65440 ∨ c = 65441 ∨ c = 65442 ∨ c = 65443 ∨ c = 65444 ∨ c = 65445 ∨ c = 65455 ∨ c = 65456 ∨ c = 65457 ∨ c = 65458)) ∨
    (Mk.known c = false ∧ (c < 65440 ∨ (65445 < c ∧ c < 65455) ∨ 65458 < c)) := by
  by_cases h : c < 65440 ∨ (65445 < c ∧ c < 65455) ∨ 65458 < c
  · right; refine ⟨?_, h⟩
    have : ¬ (Mk.known c = true) := by simp [Mk.known]; omega
    simpa using this
  · left
    refine ⟨by simp [Mk.known]; omega, by omega⟩
theorem known_c (c : Int) (w : World) : Calls Try.prog 10 #[.int .i64 c] w fun e w' => e = .returned (.bool (Mk.known c)) ∧ w = w' := by
  rcases known_forms c with ⟨e, h | h | h | h | h | h | h | h | h | h⟩ | ⟨e, h⟩
  case inr =>
    rw [e]; clear e
    have d0 : (c == 65440) = false := by simp; omega
    have d1 : (c == 65441) = false := by simp; omega
    have d2 : (c == 65442) = false := by simp; omega
    have d3 : (c == 65443) = false := by simp; omega
    have d4 : (c == 65444) = false := by simp; omega
    have d5 : (c == 65445) = false := by simp; omega
    have d6 : (c == 65455) = false := by simp; omega
    have d7 : (c == 65456) = false := by simp; omega
    have d8 : (c == 65457) = false := by simp; omega
    have d9 : (c == 65458) = false := by simp; omega
    clear h
    go_enter Try.func10, Try.ntmps10
    go_wp2_with fail
    go_ret
    exact ⟨rfl, rfl⟩
  all_goals
    subst h
    go_enter Try.func10, Try.ntmps10
    go_wp2_with fail
    go_ret
    exact ⟨rfl, rfl⟩
theorem rknown_c (c : Int) (w : World) : Calls Try.prog 11 #[.int .i64 c] w fun e w' => e = .returned (.bool (Mk.known c)) ∧ w = w' := by
  rcases known_forms c with ⟨e, h | h | h | h | h | h | h | h | h | h⟩ | ⟨e, h⟩
  case inr =>
    rw [e]; clear e
    rcases h with h | ⟨h, h2⟩ | h
    · have d0 : decide (65440 ≤ c) = false := by simp; omega
      have d6 : (c == 65455) = false := by simp; omega
      have d7 : decide (65456 ≤ c) = false := by simp; omega
      go_enter Try.func11, Try.ntmps11
      go_wp2_with fail
      go_ret
      exact ⟨rfl, rfl⟩
    · have d0 : decide (65440 ≤ c) = true := by simp; omega
      have d5 : decide (c ≤ 65445) = false := by simp; omega
      have d6 : (c == 65455) = false := by simp; omega
      have d7 : decide (65456 ≤ c) = false := by simp; omega
      go_enter Try.func11, Try.ntmps11
      go_wp2_with fail
      go_ret
      exact ⟨rfl, rfl⟩
    · have d0 : decide (65440 ≤ c) = true := by simp; omega
      have d5 : decide (c ≤ 65445) = false := by simp; omega
      have d6 : (c == 65455) = false := by simp; omega
      have d7 : decide (65456 ≤ c) = true := by simp; omega
      have d8 : decide (c ≤ 65458) = false := by simp; omega
      go_enter Try.func11, Try.ntmps11
      go_wp2_with fail
      go_ret
      exact ⟨rfl, rfl⟩
  all_goals
    subst h
    go_enter Try.func11, Try.ntmps11
    go_wp2_with fail
    go_ret
    exact ⟨rfl, rfl⟩
end Go.Proofs.Ytagfmmkhgggfmaa
