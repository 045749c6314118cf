/-
  Layer 27: contracts of isSeq, isOffset, number, put and check.
-/
import Derived.Test.YtpnnmibdboelpaaCc
set_option maxRecDepth 100000
namespace Go.Proofs.Ytpnnmibdboelpaa
open Go.RowKit

/-- The check byte of bytes. -/
def chk (l : List Int) : Int := l.foldl (fun a b => a + b) 0 % 256
theorem chk_snoc (l : List Int) (x : Int) : chk (l ++ [x]) = (chk l + x) % 256 := by
  unfold chk
  rw [List.foldl_append]
  simp only [List.foldl_cons, List.foldl_nil]
  omega
theorem chk_bd (l : List Int) : 0 ≤ chk l ∧ chk l < 256 := by unfold chk; omega
def seqB (n : Int) : Bool := decide (0 ≤ n) && decide (n ≤ 65535)
theorem isSeq_c (n : Int) (w : World) : Calls Try.prog 20 #[.int .i64 n] w fun e w' => e = .returned (.bool (seqB n)) ∧ w = w' := by
  by_cases h1 : 0 ≤ n
  · by_cases h2 : n ≤ 65535
    · have e : seqB n = true := by simp [seqB, h1, h2]
      rw [e]; clear e
      go_enter Try.func20, Try.ntmps20
      go_wp2_with fail
      go_ret
      exact ⟨rfl, rfl⟩
    · have e : seqB n = false := by simp [seqB]; omega
      rw [e]; clear e
      have d2 : decide (n ≤ 65535) = false := decide_eq_false h2
      go_enter Try.func20, Try.ntmps20
      go_wp2_with fail
      go_ret
      exact ⟨rfl, rfl⟩
  · have e : seqB n = false := by simp [seqB]; omega
    rw [e]; clear e
    have d1 : decide (0 ≤ n) = false := decide_eq_false h1
    go_enter Try.func20, Try.ntmps20
    go_wp2_with fail
    go_ret
    exact ⟨rfl, rfl⟩
def offB (L : Nat) (a : Int) : Bool := decide (0 ≤ a) && decide (a ≤ L)
theorem isOffset_c (s : Option Addr) (L m : Nat) (a : Int) (w : World) : Calls Try.prog 28 #[.slice s L m, .int .i64 a] w fun e w' => e = .returned (.bool (offB L a)) ∧ w = w' := by
  by_cases h1 : 0 ≤ a
  · by_cases h2 : a ≤ L
    · have e : offB L a = true := by simp [offB, h1, h2]
      rw [e]; clear e
      go_enter Try.func28, Try.ntmps28
      go_wp2_with fail
      go_ret
      exact ⟨rfl, rfl⟩
    · have e : offB L a = false := by simp [offB]; omega
      rw [e]; clear e
      have d2 : decide (a ≤ L) = false := decide_eq_false h2
      go_enter Try.func28, Try.ntmps28
      go_wp2_with fail
      go_ret
      exact ⟨rfl, rfl⟩
  · have e : offB L a = false := by simp [offB]; omega
    rw [e]; clear e
    have d1 : decide (0 ≤ a) = false := decide_eq_false h1
    go_enter Try.func28, Try.ntmps28
    go_wp2_with fail
    go_ret
    exact ⟨rfl, rfl⟩
theorem num_take {bs : List Int} {k : Nat} (hk : k < bs.length) : Mk.num (bs.take (k + 1)) = Mk.num (bs.take k) * 256 + bs[k] := by
  rw [List.take_succ_eq_append_getElem hk, Mk.num_snoc]
theorem num_sm {bs : List Int} (h : Mk.bytes bs) (hl : bs.length ≤ 4) (k : Nat) : 0 ≤ Mk.num (bs.take k) ∧ Mk.num (bs.take k) < 4294967296 := by
  have := Mk.num_bd (Mk.bytes_take h k)
  refine ⟨this.1, Int.lt_of_lt_of_le this.2 ?_⟩
  have e : (bs.take k).length ≤ 4 := by simp; omega
  generalize (bs.take k).length = m at *
  match m, e with
  | 0, _ => decide
  | 1, _ => decide
  | 2, _ => decide
  | 3, _ => decide
  | 4, _ => decide
set_option maxHeartbeats 1000000 in
theorem number_c (bs : List Int) (s : Option Addr) (m : Nat) (w : World) (hH : HoldsB w s bs) (hB : Mk.bytes bs) (hl : bs.length ≤ 4) :
    Calls Try.prog 34 #[.slice s bs.length m] w fun e w' => e = .returned (.int .i64 (Mk.num bs)) ∧ w = w' := by
  have HH := Lib.hid hH
  have HB := Lib.hid hB
  have HD := Lib.hid (fun k => num_sm (bs := bs) hB hl k)
  clear hH hB
  go_enter Try.func34, Try.ntmps34
  go_wp2_with fail
  go_loop [3, 8] (fun r i => ∃ k : Nat, k ≤ bs.length ∧ i = .int .i64 (k : Int) ∧ r = .int .i64 (Mk.num (bs.take k))) (fun _ i => bs.length - (intOf i).toNat)
  case atStart => exact ⟨0, Nat.zero_le _, rfl, rfl⟩
  case round =>
    obtain ⟨k, hk, rfl, rfl⟩ := hrel
    by_cases hlt : k < bs.length
    · obtain ⟨b, off, rfl, hc⟩ : ∃ b off, s = some ⟨b, off, none⟩ ∧ ∀ k (_ : k < bs.length), w.cell? ⟨b, off + k, none⟩ = some (.int .u8 bs[k]) := by
        rcases HH.out with h | h
        · exfalso; rw [h] at hlt; simp at hlt
        · exact h
      replace hc := hc k hlt
      have hb := HB.out bs[k] (List.getElem_mem _)
      have HX := Lib.hid (num_take hlt)
      have hd := HD.out k
      have ho := or_low64 _ _ hd.1 (show Mk.num (bs.take k) < 36028797018963968 by omega) hb
      generalize bs[k] = x at *
      generalize Mk.num (bs.take k) = y at *
      go_wp2_with fail
      go_round
      case rel => exact ⟨k + 1, by omega, by go_num, by rw [HX.out]⟩
      case measure => simp [intOf]; omega
    · obtain rfl : k = bs.length := by omega
      rw [List.take_length]
      go_wp2_with fail
      go_ret
      exact ⟨rfl, rfl⟩
set_option maxHeartbeats 1000000 in
theorem check_c (bs : List Int) (s : Option Addr) (m : Nat) (w : World) (hH : HoldsB w s bs) (hB : Mk.bytes bs) (h10 : 10 ≤ bs.length) (hm : bs.length ≤ m) :
    Calls Try.prog 33 #[.slice s bs.length m] w fun e w' => e = .returned (.int .u8 (chk (bs.take 10))) ∧ w = w' := by
  have HH := Lib.hid hH
  have HB := Lib.hid hB
  have hm10 : 10 ≤ m := by omega
  have hT := Lib.hid (show (bs.take 10).take 10 = bs.take 10 by rw [List.take_take, Nat.min_self])
  clear hH hB
  go_enter Try.func33, Try.ntmps33
  go_wp2_with fail
  go_loop [3, 9] (fun r i => ∃ k : Nat, k ≤ 10 ∧ i = .int .i64 (k : Int) ∧ r = .int .u8 (chk ((bs.take 10).take k))) (fun _ i => 10 - (intOf i).toNat)
  case atStart => exact ⟨0, Nat.zero_le _, rfl, rfl⟩
  case round =>
    obtain ⟨k, hk, rfl, rfl⟩ := hrel
    by_cases hlt : k < 10
    · obtain ⟨b, off, rfl, hc⟩ : ∃ b off, s = some ⟨b, off, none⟩ ∧ ∀ k (_ : k < bs.length), w.cell? ⟨b, off + k, none⟩ = some (.int .u8 bs[k]) := by
        rcases HH.out with h | h
        · exfalso; rw [h] at h10; simp at h10
        · exact h
      replace hc := hc k (by omega)
      have hb := HB.out bs[k] (List.getElem_mem _)
      have HX := Lib.hid (show chk ((bs.take 10).take (k + 1)) = (chk ((bs.take 10).take k) + bs[k]) % 256 by
        rw [List.take_succ_eq_append_getElem (show k < (bs.take 10).length by simp; omega), chk_snoc, List.getElem_take])
      have hd := chk_bd ((bs.take 10).take k)
      generalize bs[k] = x at *
      generalize chk ((bs.take 10).take k) = y at *
      go_wp2_with fail
      go_round
      case rel => exact ⟨k + 1, by omega, by go_num, by rw [HX.out]⟩
      case measure => simp [intOf]; omega
    · obtain rfl : k = 10 := by omega
      rw [hT.out]
      go_wp2_with fail
      go_ret
      exact ⟨rfl, rfl⟩
set_option maxHeartbeats 1000000 in
theorem rcheck_c (bs : List Int) (s : Option Addr) (m : Nat) (a : Nat) (w : World) (hH : HoldsB w s bs) (hB : Mk.bytes bs) (h10 : a + 10 ≤ bs.length) (hl : bs.length ≤ 1000000) :
    Calls Try.prog 23 #[.slice s bs.length m, .int .i64 (a : Int)] w fun e w' => e = .returned (.int .u8 (chk ((bs.drop a).take 10))) ∧ w = w' := by
  have HH := Lib.hid hH
  have HB := Lib.hid hB
  have hT := Lib.hid (show ((bs.drop a).take 10).take 10 = (bs.drop a).take 10 by rw [List.take_take, Nat.min_self])
  clear hH hB
  go_enter Try.func23, Try.ntmps23
  go_wp2_with fail
  go_loop [5, 6] (fun r i => ∃ k : Nat, k ≤ 10 ∧ i = .int .i64 (k : Int) ∧ r = .int .u8 (chk (((bs.drop a).take 10).take k))) (fun _ i => 10 - (intOf i).toNat)
  case atStart => exact ⟨0, Nat.zero_le _, rfl, rfl⟩
  case round =>
    obtain ⟨k, hk, rfl, rfl⟩ := hrel
    by_cases hlt : k < 10
    · obtain ⟨b, off, rfl, hc⟩ : ∃ b off, s = some ⟨b, off, none⟩ ∧ ∀ k (_ : k < bs.length), w.cell? ⟨b, off + k, none⟩ = some (.int .u8 bs[k]) := by
        rcases HH.out with h | h
        · exfalso; rw [h] at h10; simp at h10
        · exact h
      replace hc := hc (a + k) (by omega)
      have hb := HB.out bs[a + k] (List.getElem_mem _)
      have HX := Lib.hid (show chk (((bs.drop a).take 10).take (k + 1)) = (chk (((bs.drop a).take 10).take k) + bs[a + k]) % 256 by
        rw [List.take_succ_eq_append_getElem (show k < ((bs.drop a).take 10).length by simp; omega), chk_snoc, List.getElem_take, List.getElem_drop])
      have hd := chk_bd (((bs.drop a).take 10).take k)
      have hi1 : a + k < bs.length := by omega
      have hi2 : (a : Int) + (k : Int) < (bs.length : Int) := by omega
      have hi3 : ((a : Int) + (k : Int)).toNat = a + k := by omega
      generalize bs[a + k] = x at *
      generalize chk (((bs.drop a).take 10).take k) = y at *
      go_wp2_with fail
      go_round
      case rel => exact ⟨k + 1, by omega, by go_num, by rw [HX.out]⟩
      case measure => simp [intOf]; omega
    · obtain rfl : k = 10 := by omega
      rw [hT.out]
      go_wp2_with fail
      go_ret
      exact ⟨rfl, rfl⟩
end Go.Proofs.Ytpnnmibdboelpaa
