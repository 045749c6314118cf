/-
  What each call of the reference of layer 4 returns and leaves.
-/
import Derived.Test.YtnfnidgabgdphaaExtR
import Derived.Test.YtnfnidgabgdphaaLift
import Derived.Laws.AppendOwnNone
set_option maxRecDepth 100000
namespace Go.Proofs.Ytnfnidgabgdphaa
open Go.RowKit

def fewB (l : List Int) (b : Int) : Bool := l.all fun v => decide (-b ≤ v ∧ v ≤ b)
theorem few_iff {l : List Int} {b : Int} : fewB l b = true ↔ Ex.within b l := by simp [fewB, Ex.within]
theorem few_all {l : List Int} {b : Int} (h : ∀ j (hj : j < l.length), -b ≤ l[j] ∧ l[j] ≤ b) : fewB l b = true := few_iff.2 fun v hv => by
  obtain ⟨j, hj, rfl⟩ := List.getElem_of_mem hv
  exact h j hj
theorem few_none {l : List Int} {b : Int} {j : Nat} (hj : j < l.length) (h : b < l[j] ∨ l[j] < -b) : fewB l b = false := by
  rw [Bool.eq_false_iff, Ne, few_iff]
  intro hw
  have := hw _ (List.getElem_mem hj)
  omega
set_option maxHeartbeats 1000000 in
theorem few_r (l : List Int) (b : Int) (s : Option Addr) (m : Nat) (w : World) (hb : 0 ≤ b) (hb' : b ≤ 4611686018427387904) (hl : l.length ≤ 140737488351232) (hH : HoldsI w s l) :
    Calls Try.prog 119 #[.slice s l.length m, .int .i64 b] w fun e w' => e = .returned (.bool (fewB l b)) ∧ w = w' := by
  have w1 : IntKind.i64.wrap (-b) = -b := IntWalk.i64_in _ (by omega)
  go_enter Try.func119, Try.ntmps119
  go_wp2_with fail
  go_loopw [9] (fun i wr => ∃ k : Nat, k ≤ l.length ∧ i = .int .i64 k ∧ (∀ j (hj : j < l.length), j < k → -b ≤ l[j] ∧ l[j] ≤ b) ∧ w = wr) (fun i _ => l.length - (intOf i).toNat)
  case atStart => exact ⟨0, Nat.zero_le _, rfl, fun j _ h => absurd h (Nat.not_lt_zero _), rfl⟩
  case round =>
    obtain ⟨k, hk, rfl, hall, rfl⟩ := hrel
    have HA : Hid _ := hall
    clear hall
    by_cases hlt : k < l.length
    · rcases hH with rfl | ⟨bb, off, rfl, hr⟩
      · simp at hlt
      have y0 := hr k hlt
      have hki : (k : Int) < (l.length : Int) := by omega
      have w2 : IntKind.i64.wrap ((k : Int) + 1) = (k : Int) + 1 := IntWalk.i64_in _ (by omega)
      have HF : Hid (b < l[k] ∨ l[k] < -b → fewB l b = false) := few_none hlt
      have HV : Hid (¬ b < l[k] → ¬ l[k] < -b → ∀ j (hj : j < l.length), j < k + 1 → -b ≤ l[j] ∧ l[j] ≤ b) := fun a c j hj hjk => if e : j = k then by subst e; omega else HA.out j hj (by omega)
      generalize l[k] = V at *
      by_cases h1 : b < V
      · have hf := HF.out (.inl h1)
        clear HF HV HA
        go_wp2
        go_ret
        exact ⟨ret_bool (by first | exact Iff.rfl | rw [hf]), rfl⟩
      · by_cases h2 : V < -b
        · have hf := HF.out (.inr h2)
          clear HF HV HA
          go_wp2
          go_ret
          exact ⟨ret_bool (by first | exact Iff.rfl | rw [hf]), rfl⟩
        · have HN : Hid _ := HV.out h1 h2
          clear HF HV HA
          go_wp2
          go_roundw
          case rel => exact ⟨k + 1, by omega, by go_num, HN.out, by first | trivial | rfl⟩
          case measure => simp [intOf]; omega
    · obtain rfl : k = l.length := by omega
      have hf := few_all fun j hj => HA.out j hj hj
      clear HA
      go_wp2
      go_ret
      exact ⟨ret_bool (by first | exact Iff.rfl | rw [hf]), rfl⟩
def kB (k : Int) : Bool := decide (k = 1 ∨ k = 2 ∨ k = 3)
theorem k_iff {k : Int} : kB k = true ↔ (k = 1 ∨ k = 2 ∨ k = 3) := by simp [kB]
set_option maxHeartbeats 1000000 in
theorem vk_r (k : Int) (w : World) : Calls Try.prog 118 #[.int .i64 k] w fun e w' => e = .returned (.bool (kB k)) ∧ w = w' := by
  by_cases h1 : k = 1
  · subst h1
    go_enter Try.func118, Try.ntmps118
    go_wp2
    go_ret
    exact ⟨rfl, rfl⟩
  · by_cases h2 : k = 2
    · subst h2
      go_enter Try.func118, Try.ntmps118
      go_wp2
      go_ret
      exact ⟨rfl, rfl⟩
    · by_cases h3 : k = 3
      · subst h3
        go_enter Try.func118, Try.ntmps118
        go_wp2
        go_ret
        exact ⟨rfl, rfl⟩
      · go_enter Try.func118, Try.ntmps118
        go_wp2
        all_goals
          go_ret
          exact ⟨ret_bool (by simp [kB, h1, h2, h3]), rfl⟩
theorem fdv_eq {a b : Int} (hb : 0 < b) : (a.tmod b < 0 → a.tdiv b - 1 = a / b) ∧ (¬ a.tmod b < 0 → a.tdiv b = a / b) := by
  have h0 := Int.emod_nonneg a (show b ≠ 0 by omega)
  have h1 := Int.emod_lt_of_pos a hb
  have hs := Int.sign_eq_one_of_pos hb
  rw [Int.tdiv_eq_ediv, Int.tmod_eq_emod, hs]
  split <;> omega
set_option maxHeartbeats 1000000 in
theorem fdv_r (a b : Int) (w : World) (hb : b = 2 ∨ b = 4 ∨ b = 16) (h0 : -4611686018427387904 ≤ a) (h1 : a ≤ 4611686018427387904) :
    Calls Try.prog 143 #[.int .i64 a, .int .i64 b] w fun e w' => e = .returned (.int .i64 (a / b)) ∧ w = w' := by
  have hb0 : 0 < b := by omega
  obtain ⟨e1, e2⟩ := fdv_eq (a := a) hb0
  have hbd : -4611686018427387904 ≤ a / b ∧ a / b ≤ 4611686018427387904 := by rcases hb with rfl | rfl | rfl <;> omega
  obtain ⟨Q, hQ⟩ : ∃ Q, a / b = Q := ⟨_, rfl⟩
  obtain ⟨D, hD⟩ : ∃ D, a.tdiv b = D := ⟨_, rfl⟩
  obtain ⟨T, hT⟩ : ∃ T, a.tmod b = T := ⟨_, rfl⟩
  rw [hQ] at e1 e2 hbd
  rw [hQ]
  rw [hD] at e1 e2
  rw [hT] at e1 e2
  have hbn : ¬ b = 0 := by omega
  clear hb
  by_cases hm : T < 0
  · have e3 := e1 hm
    have w1 : IntKind.i64.wrap (D - 1) = Q := by rw [IntWalk.i64_in _ (by omega)]; exact e3
    have w1' : wrap64 (D - 1) = Q := by rw [IntWalk.wrap64_in _ ⟨by omega, by omega⟩]; exact e3
    have w2 : IntKind.i64.wrap D = D := IntWalk.i64_in _ (by omega)
    clear e1 e2 e3 hQ
    go_enter Try.func143, Try.ntmps143
    go_wp2
    go_ret
    exact ⟨rfl, rfl⟩
  · have e3 := e2 hm
    subst e3
    have w2 : IntKind.i64.wrap D = D := IntWalk.i64_in _ (by omega)
    clear e1 e2 hQ
    go_enter Try.func143, Try.ntmps143
    go_wp2
    go_ret
    exact ⟨rfl, rfl⟩

set_option maxHeartbeats 1000000 in
theorem ex_r (l : List Int) (st i : Int) (s : Option Addr) (m : Nat) (w : World) (h0 : 0 ≤ st) (h1 : st ≤ 4096) (hn : 0 < l.length) (hn' : l.length ≤ 4096) (hi : -100 ≤ i) (hi' : i ≤ 10000) (hH : HoldsI w s l) :
    Calls Try.prog 142 #[.slice s l.length m, .int .i64 st, .int .i64 i] w fun e w' => e = .returned (.int .i64 (Ex.ex st l i)) ∧ w = w' := by
  have w1 : IntKind.i64.wrap (st + (l.length : Int)) = st + (l.length : Int) := IntWalk.i64_in _ (by omega)
  have hm : mirV i st (st + (l.length : Int)) = Ex.mirI i st (st + (l.length : Int)) := if_pos ⟨by omega, vi_iff.2 (by omega), vi_iff.2 (by omega), vi_iff.2 (by omega)⟩
  obtain ⟨m0, m1⟩ := Ex.mir_mem (i := i) (lo := st) (hi := st + (l.length : Int)) (by omega)
  obtain ⟨J, hJ⟩ : ∃ J, Ex.mirI i st (st + (l.length : Int)) = J := ⟨_, rfl⟩
  rw [hJ] at hm m0 m1
  obtain ⟨k, hk⟩ : ∃ k : Nat, J - st = (k : Int) := ⟨(J - st).toNat, by omega⟩
  have hkl : k < l.length := by omega
  have hki : (k : Int) < (l.length : Int) := by omega
  have w2 : IntKind.i64.wrap (J - st) = (k : Int) := by rw [IntWalk.i64_in _ (by omega)]; exact hk
  have hx : Ex.ex st l i = l[k] := by rw [Ex.ex, hJ, show J = st + (k : Int) by omega, Ex.sg_at hkl]
  rcases hH with rfl | ⟨bb, off, rfl, hr⟩
  · simp at hkl
  have y0 := hr k hkl
  rw [hx]
  clear hx hJ hk m0 m1
  go_enter Try.func142, Try.ntmps142
  go_wp2_with (go_at_call 149; refine (mir_r _ _ _ _).mono ?_; rintro e wn ⟨rfl, rfl⟩)
  go_ret
  exact ⟨rfl, rfl⟩
set_option maxRecDepth 100000 in
set_option maxHeartbeats 1000000 in
theorem pred_r (l : List Int) (st i k : Int) (s : Option Addr) (m : Nat) (w : World) (hk : k = 1 ∨ k = 2 ∨ k = 3) (h0 : 0 ≤ st) (h1 : st ≤ 4096) (hn : 0 < l.length) (hn' : l.length ≤ 4096) (hi : 0 ≤ i) (hi' : i ≤ 9000) (hw : Ex.within 4503599627370496 l) (hH : HoldsI w s l) :
    Calls Try.prog 120 #[.slice s l.length m, .int .i64 st, .int .i64 i, .int .i64 k] w fun e w' => e = .returned (.int .i64 (Ex.predF (Ex.ex st l) i k)) ∧ w = w' := by
  have w1 : IntKind.i64.wrap (i - 1) = i - 1 := IntWalk.i64_in _ (by omega)
  have b1 := Ex.ex_bd (s := st) hn hw (i - 1)
  have c1 := ex_r l st (i - 1) s m w h0 h1 hn hn' (by omega) (by omega) hH
  obtain ⟨a1, e1⟩ : ∃ a1, Ex.ex st l (i - 1) = a1 := ⟨_, rfl⟩
  rw [e1] at b1 c1
  have w2 : IntKind.i64.wrap (i + 1) = i + 1 := IntWalk.i64_in _ (by omega)
  have b2 := Ex.ex_bd (s := st) hn hw (i + 1)
  have c2 := ex_r l st (i + 1) s m w h0 h1 hn hn' (by omega) (by omega) hH
  obtain ⟨a2, e2⟩ : ∃ a2, Ex.ex st l (i + 1) = a2 := ⟨_, rfl⟩
  rw [e2] at b2 c2
  have w3 : IntKind.i64.wrap (i - 3) = i - 3 := IntWalk.i64_in _ (by omega)
  have b3 := Ex.ex_bd (s := st) hn hw (i - 3)
  have c3 := ex_r l st (i - 3) s m w h0 h1 hn hn' (by omega) (by omega) hH
  obtain ⟨a3, e3⟩ : ∃ a3, Ex.ex st l (i - 3) = a3 := ⟨_, rfl⟩
  rw [e3] at b3 c3
  have w4 : IntKind.i64.wrap (i + 3) = i + 3 := IntWalk.i64_in _ (by omega)
  have b4 := Ex.ex_bd (s := st) hn hw (i + 3)
  have c4 := ex_r l st (i + 3) s m w h0 h1 hn hn' (by omega) (by omega) hH
  obtain ⟨a4, e4⟩ : ∃ a4, Ex.ex st l (i + 3) = a4 := ⟨_, rfl⟩
  rw [e4] at b4 c4
  rw [Ex.predF, e1, e2, e3, e4]
  clear e1 e2 e3 e4 h0 h1 hn hn' hi hi' hw hH
  rcases hk with rfl | rfl | rfl
  · rw [if_pos rfl]
    go_enter Try.func120, Try.ntmps120
    go_wp2_with (first | (go_at_call 142; with_reducible refine (c1).mono ?_; rintro e wn ⟨rfl, rfl⟩))
    go_ret
    exact ⟨rfl, rfl⟩
  · rw [if_neg (by decide), if_pos rfl]
    have v0 : IntKind.i64.wrap (a1 + a2) = a1 + a2 := IntWalk.i64_in _ (by omega)
    have v0' : wrap64 (a1 + a2) = a1 + a2 := IntWalk.wrap64_in _ ⟨by omega, by omega⟩
    go_enter Try.func120, Try.ntmps120
    go_wp2_with (first | (go_at_call 142; with_reducible refine (c1).mono ?_; rintro e wn ⟨rfl, rfl⟩) | (go_at_call 142; with_reducible refine (c2).mono ?_; rintro e wn ⟨rfl, rfl⟩) | (go_at_call 143; refine (fdv_r _ _ _ (.inl rfl) (by omega) (by omega)).mono ?_; rintro e wn ⟨rfl, rfl⟩))
    go_ret
    exact ⟨rfl, rfl⟩
  · rw [if_neg (by decide), if_neg (by decide)]
    have v0 : IntKind.i64.wrap (a1 + a2) = a1 + a2 := IntWalk.i64_in _ (by omega)
    have v0' : wrap64 (a1 + a2) = a1 + a2 := IntWalk.wrap64_in _ ⟨by omega, by omega⟩
    have v1 : IntKind.i64.wrap (9 * (a1 + a2)) = 9 * (a1 + a2) := IntWalk.i64_in _ (by omega)
    have v1' : wrap64 (9 * (a1 + a2)) = 9 * (a1 + a2) := IntWalk.wrap64_in _ ⟨by omega, by omega⟩
    have v2 : IntKind.i64.wrap (a3 + a4) = a3 + a4 := IntWalk.i64_in _ (by omega)
    have v2' : wrap64 (a3 + a4) = a3 + a4 := IntWalk.wrap64_in _ ⟨by omega, by omega⟩
    have v3 : IntKind.i64.wrap (9 * (a1 + a2) - (a3 + a4)) = 9 * (a1 + a2) - (a3 + a4) := IntWalk.i64_in _ (by omega)
    have v3' : wrap64 (9 * (a1 + a2) - (a3 + a4)) = 9 * (a1 + a2) - (a3 + a4) := IntWalk.wrap64_in _ ⟨by omega, by omega⟩
    have v4 : IntKind.i64.wrap (9 * (a1 + a2) - (a3 + a4) + 8) = 9 * (a1 + a2) - (a3 + a4) + 8 := IntWalk.i64_in _ (by omega)
    have v4' : wrap64 (9 * (a1 + a2) - (a3 + a4) + 8) = 9 * (a1 + a2) - (a3 + a4) + 8 := IntWalk.wrap64_in _ ⟨by omega, by omega⟩
    go_enter Try.func120, Try.ntmps120
    go_wp2_with (first | (go_at_call 142; with_reducible refine (c1).mono ?_; rintro e wn ⟨rfl, rfl⟩) | (go_at_call 142; with_reducible refine (c2).mono ?_; rintro e wn ⟨rfl, rfl⟩) | (go_at_call 142; with_reducible refine (c3).mono ?_; rintro e wn ⟨rfl, rfl⟩) | (go_at_call 142; with_reducible refine (c4).mono ?_; rintro e wn ⟨rfl, rfl⟩) | (go_at_call 143; refine (fdv_r _ _ _ (.inr (.inr rfl)) (by omega) (by omega)).mono ?_; rintro e wn ⟨rfl, rfl⟩))
    go_ret
    exact ⟨rfl, rfl⟩
set_option maxRecDepth 100000 in
set_option maxHeartbeats 1000000 in
theorem upd_r (l : List Int) (st i k : Int) (s : Option Addr) (m : Nat) (w : World) (hk : k = 1 ∨ k = 2 ∨ k = 3) (h0 : 0 ≤ st) (h1 : st ≤ 4096) (hn : 0 < l.length) (hn' : l.length ≤ 4096) (hi : 0 ≤ i) (hi' : i ≤ 9000) (hw : Ex.within 4503599627370496 l) (hH : HoldsI w s l) :
    Calls Try.prog 121 #[.slice s l.length m, .int .i64 st, .int .i64 i, .int .i64 k] w fun e w' => e = .returned (.int .i64 (Ex.updF (Ex.ex st l) i k)) ∧ w = w' := by
  have w1 : IntKind.i64.wrap (i - 1) = i - 1 := IntWalk.i64_in _ (by omega)
  have b1 := Ex.ex_bd (s := st) hn hw (i - 1)
  have c1 := ex_r l st (i - 1) s m w h0 h1 hn hn' (by omega) (by omega) hH
  obtain ⟨a1, e1⟩ : ∃ a1, Ex.ex st l (i - 1) = a1 := ⟨_, rfl⟩
  rw [e1] at b1 c1
  have w2 : IntKind.i64.wrap (i + 1) = i + 1 := IntWalk.i64_in _ (by omega)
  have b2 := Ex.ex_bd (s := st) hn hw (i + 1)
  have c2 := ex_r l st (i + 1) s m w h0 h1 hn hn' (by omega) (by omega) hH
  obtain ⟨a2, e2⟩ : ∃ a2, Ex.ex st l (i + 1) = a2 := ⟨_, rfl⟩
  rw [e2] at b2 c2
  rw [Ex.updF, e1, e2]
  clear e1 e2 h0 h1 hn hn' hi hi' hw hH
  rcases hk with rfl | rfl | rfl
  · rw [if_pos rfl]
    go_enter Try.func121, Try.ntmps121
    go_wp2_with (first | (go_at_call 142; with_reducible refine (c2).mono ?_; rintro e wn ⟨rfl, rfl⟩) | (go_at_call 143; refine (fdv_r _ _ _ (.inl rfl) (by omega) (by omega)).mono ?_; rintro e wn ⟨rfl, rfl⟩))
    go_ret
    exact ⟨rfl, rfl⟩
  · rw [if_neg (by decide)]
    have v0 : IntKind.i64.wrap (a1 + a2) = a1 + a2 := IntWalk.i64_in _ (by omega)
    have v0' : wrap64 (a1 + a2) = a1 + a2 := IntWalk.wrap64_in _ ⟨by omega, by omega⟩
    have v1 : IntKind.i64.wrap (a1 + a2 + 2) = a1 + a2 + 2 := IntWalk.i64_in _ (by omega)
    have v1' : wrap64 (a1 + a2 + 2) = a1 + a2 + 2 := IntWalk.wrap64_in _ ⟨by omega, by omega⟩
    go_enter Try.func121, Try.ntmps121
    go_wp2_with (first | (go_at_call 142; with_reducible refine (c1).mono ?_; rintro e wn ⟨rfl, rfl⟩) | (go_at_call 142; with_reducible refine (c2).mono ?_; rintro e wn ⟨rfl, rfl⟩) | (go_at_call 143; refine (fdv_r _ _ _ (.inr (.inl rfl)) (by omega) (by omega)).mono ?_; rintro e wn ⟨rfl, rfl⟩))
    go_ret
    exact ⟨rfl, rfl⟩
  · rw [if_neg (by decide)]
    have v0 : IntKind.i64.wrap (a1 + a2) = a1 + a2 := IntWalk.i64_in _ (by omega)
    have v0' : wrap64 (a1 + a2) = a1 + a2 := IntWalk.wrap64_in _ ⟨by omega, by omega⟩
    have v1 : IntKind.i64.wrap (a1 + a2 + 2) = a1 + a2 + 2 := IntWalk.i64_in _ (by omega)
    have v1' : wrap64 (a1 + a2 + 2) = a1 + a2 + 2 := IntWalk.wrap64_in _ ⟨by omega, by omega⟩
    go_enter Try.func121, Try.ntmps121
    go_wp2_with (first | (go_at_call 142; with_reducible refine (c1).mono ?_; rintro e wn ⟨rfl, rfl⟩) | (go_at_call 142; with_reducible refine (c2).mono ?_; rintro e wn ⟨rfl, rfl⟩) | (go_at_call 143; refine (fdv_r _ _ _ (.inr (.inl rfl)) (by omega) (by omega)).mono ?_; rintro e wn ⟨rfl, rfl⟩))
    go_ret
    exact ⟨rfl, rfl⟩
end Go.Proofs.Ytnfnidgabgdphaa
