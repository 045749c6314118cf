/-
  Layer 28: contracts of ReadUint, code and reference, and of digits.
-/
import Derived.Test.YtagfmmkhgggfmaaMc
set_option maxRecDepth 100000
namespace Go.Proofs.Ytagfmmkhgggfmaa
open Go.RowKit

def GivesN (x y : Int) (w : World) (e : Ending) (w' : World) : Prop := e = .returned (.tuple #[.int .i64 x, .int .i64 y]) ∧ w = w'
theorem rd_cases (bs : List Int) (a n : Int) : (Mk.isN n = false ∧ Mk.rdE bs a n = 2 ∧ Mk.rdV bs a n = 0) ∨ (Mk.isN n = true ∧ a < 0 ∧ Mk.rdE bs a n = 2 ∧ Mk.rdV bs a n = 0) ∨ (Mk.isN n = true ∧ (bs.length : Int) < a ∧ Mk.rdE bs a n = 2 ∧ Mk.rdV bs a n = 0) ∨
    (Mk.isN n = true ∧ 0 ≤ a ∧ a ≤ bs.length ∧ (bs.length : Int) - a < n ∧ Mk.rdE bs a n = 7 ∧ Mk.rdV bs a n = 0) ∨
    (Mk.isN n = true ∧ 0 ≤ a ∧ a ≤ bs.length ∧ n ≤ (bs.length : Int) - a ∧ Mk.rdE bs a n = 0 ∧ Mk.rdV bs a n = Mk.num ((bs.drop a.toNat).take n.toNat)) := by
  unfold Mk.rdV
  cases h : Mk.isN n
  · left
    have : Mk.rdE bs a n = 2 := by rw [Mk.rdE, if_pos (.inl h)]
    simp [this]
  · right
    by_cases h1 : a < 0
    · left
      have : Mk.rdE bs a n = 2 := by rw [Mk.rdE, if_pos (.inr (.inl h1))]
      simp [this, h1]
    · right
      by_cases h2 : (bs.length : Int) < a
      · left
        have : Mk.rdE bs a n = 2 := by rw [Mk.rdE, if_pos (.inr (.inr h2))]
        simp [this, h2]
      · right
        have hn : ¬ (Mk.isN n = false ∨ a < 0 ∨ a > bs.length) := by rw [h]; simp; omega
        by_cases h3 : n > (bs.length : Int) - a
        · left
          have : Mk.rdE bs a n = 7 := by rw [Mk.rdE, if_neg hn, if_pos h3]
          simp [this]; omega
        · right
          have : Mk.rdE bs a n = 0 := by rw [Mk.rdE, if_neg hn, if_neg h3]
          simp [this]; omega
theorem isN_bd {n : Int} (h : Mk.isN n = true) : 1 ≤ n ∧ n ≤ 4 := by simpa [Mk.isN] using h
theorem num_step {bs : List Int} {a k n : Nat} (hk : k < n) (ha : a + n ≤ bs.length) : Mk.num (((bs.drop a).take n).take (k + 1)) = Mk.num (((bs.drop a).take n).take k) * 256 + bs.getD (a + k) 0 := by
  rw [List.take_succ_eq_append_getElem (by simp; omega), Mk.num_snoc]
  congr 1
  rw [List.getElem_take, List.getElem_drop, List.getD_eq_getElem?_getD, List.getElem?_eq_getElem (by omega)]
  rfl
theorem num_small {bs : List Int} (h : Mk.bytes bs) {k : Nat} (hk : k ≤ 4) : 0 ≤ Mk.num (bs.take k) ∧ Mk.num (bs.take k) < 4294967296 := by
  have := Mk.num_bd (Mk.bytes_take h k)
  refine ⟨this.1, Int.lt_of_lt_of_le this.2 ?_⟩
  have e : (bs.take k).length ≤ 4 := by simp; omega
  generalize (bs.take k).length = m at *
  match m, e with
  | 0, _ => decide
  | 1, _ => decide
  | 2, _ => decide
  | 3, _ => decide
  | 4, _ => decide
set_option maxHeartbeats 1000000 in
theorem readUint_c (bs : List Int) (s : Option Addr) (m : Nat) (a n : Int) (w : World) (hH : HoldsB w s bs) (hB : Mk.bytes bs) (hm : bs.length ≤ m) (hl : m ≤ maxLen) :
    Calls Try.prog 25 #[.slice s bs.length m, .int .i64 a, .int .i64 n] w (GivesN (Mk.rdV bs a n) (Mk.rdE bs a n) w) := by
  have hbn := isBytes_c n w
  unfold maxLen at hl
  rcases rd_cases bs a n with ⟨h, e, v⟩ | ⟨h, h1, e, v⟩ | ⟨h, h1, e, v⟩ | ⟨h, h1, h2, h3, e, v⟩ | ⟨h, h1, h2, h3, e, v⟩
  · rw [e, v]; rw [h] at hbn; clear e v h
    go_enter Try.func25, Try.ntmps25
    go_wp2_with (first | (go_at_call 31; (with_reducible refine hbn.mono ?_); rintro e wn ⟨rfl, rfl⟩) | fail)
    go_ret2
    exact ⟨rfl, rfl⟩
  · rw [e, v]; rw [h] at hbn; clear e v h
    have d1 : decide (a < 0) = true := decide_eq_true (by omega)
    go_enter Try.func25, Try.ntmps25
    go_wp2_with (first | (go_at_call 31; (with_reducible refine hbn.mono ?_); rintro e wn ⟨rfl, rfl⟩) | fail)
    go_ret2
    exact ⟨rfl, rfl⟩
  · rw [e, v]; rw [h] at hbn; clear e v h
    have d1 : decide (a < 0) = false := decide_eq_false (by omega)
    have d2 : decide ((bs.length : Int) < a) = true := decide_eq_true (by omega)
    go_enter Try.func25, Try.ntmps25
    go_wp2_with (first | (go_at_call 31; (with_reducible refine hbn.mono ?_); rintro e wn ⟨rfl, rfl⟩) | fail)
    go_ret2
    exact ⟨rfl, rfl⟩
  · have hnb := isN_bd h
    rw [e, v]; rw [h] at hbn; clear e v h
    have d1 : decide (a < 0) = false := decide_eq_false (by omega)
    have d2 : decide ((bs.length : Int) < a) = false := decide_eq_false (by omega)
    have d3 : decide ((bs.length : Int) - a < n) = true := decide_eq_true (by omega)
    go_enter Try.func25, Try.ntmps25
    go_wp2_with (first | (go_at_call 31; (with_reducible refine hbn.mono ?_); rintro e wn ⟨rfl, rfl⟩) | fail)
    go_ret2
    exact ⟨rfl, rfl⟩
  · have hnb := isN_bd h
    rw [e, v]; rw [h] at hbn; clear e v h
    obtain ⟨A, rfl⟩ : ∃ A : Nat, a = A := ⟨a.toNat, by omega⟩
    obtain ⟨N, rfl⟩ : ∃ N : Nat, n = N := ⟨n.toNat, by omega⟩
    have hAN : A + N ≤ bs.length := by omega
    have hN : 1 ≤ N ∧ N ≤ 4 := by omega
    clear h1 h2 h3 hnb
    obtain ⟨b, off, rfl, hr⟩ : ∃ b off, s = some ⟨b, off, none⟩ ∧ ∀ k (_ : k < bs.length), w.cell? ⟨b, off + k, none⟩ = some (.int .u8 bs[k]) := by
      rcases hH with rfl | q
      · exfalso; simp only [List.length_nil] at hAN; omega
      · exact q
    have HR := Lib.hid hr
    have HS := Lib.hid (fun k (hk : k < N) => num_step (bs := bs) (a := A) (k := k) (n := N) hk hAN)
    have HD := Lib.hid (fun k (hk : k ≤ 4) => num_small (bs := (bs.drop A).take N) (Mk.bytes_take (Mk.bytes_drop hB _) _) hk)
    have HW := Lib.hid (show ((bs.drop A).take N).take N = (bs.drop A).take N by rw [List.take_take, Nat.min_self])
    have hGB := Lib.hid hB
    clear hr hB hH
    have d1 : decide ((A : Int) < 0) = false := decide_eq_false (by omega)
    have d2 : decide ((bs.length : Int) < A) = false := decide_eq_false (by omega)
    have d2' : decide (bs.length < A) = false := decide_eq_false (by omega)
    have d3 : decide ((bs.length : Int) - A < N) = false := decide_eq_false (by omega)
    have e0 : ((A : Int) + (N : Int)).toNat - A = N := by omega
    have e1 : ((N : Int)).toNat = N := by omega
    have e2 : ((A : Int)).toNat = A := by omega
    rw [e1, e2]
    go_enter Try.func25, Try.ntmps25
    go_upto_region 6 with (first | (go_at_call 31; (with_reducible refine hbn.mono ?_); rintro e wn ⟨rfl, rfl⟩) | fail)
    go_wp2_with fail
    go_loop [8, 39] (fun v i => ∃ k : Nat, k ≤ N ∧ i = .int .i64 (k : Int) ∧ v = .int .i64 (Mk.num (((bs.drop A).take N).take k))) (fun _ i => N - (intOf i).toNat)
    case atStart => exact ⟨0, Nat.zero_le _, rfl, rfl⟩
    case round =>
      obtain ⟨k, hk, rfl, rfl⟩ := hrel
      by_cases hlt : k < N
      · have hc := HR.out (A + k) (by omega)
        have hb := hGB.out bs[A + k] (List.getElem_mem _)
        have hs := HS.out k hlt
        rw [List.getD_eq_getElem?_getD, List.getElem?_eq_getElem (show A + k < bs.length by omega), Option.getD_some] at hs
        have hd := HD.out k (by omega)
        have ho := or_low64 _ _ hd.1 (show Mk.num (((bs.drop A).take N).take k) < 36028797018963968 by omega) hb
        have HX := Lib.hid hs
        rw [← Nat.add_assoc] at hc
        clear hs
        generalize bs[A + k] = x at *
        generalize Mk.num (((bs.drop A).take N).take k) = y at *
        go_wp2_with fail
        go_round
        case rel => exact ⟨k + 1, by omega, by go_num, by rw [HX.out]⟩
        case measure => simp [intOf]; omega
      · obtain rfl : k = N := by omega
        rw [HW.out]
        go_wp2_with fail
        go_ret2
        exact ⟨rfl, rfl⟩
set_option maxHeartbeats 1000000 in
theorem rreadUint_c (bs : List Int) (s : Option Addr) (m : Nat) (a n : Int) (w : World) (hH : HoldsB w s bs) (hB : Mk.bytes bs) (hm : bs.length ≤ m) (hl : m ≤ maxLen) :
    Calls Try.prog 26 #[.slice s bs.length m, .int .i64 a, .int .i64 n] w (GivesN (Mk.rdV bs a n) (Mk.rdE bs a n) w) := by
  unfold maxLen at hl
  rcases rd_cases bs a n with ⟨h, e, v⟩ | ⟨h, h1, e, v⟩ | ⟨h, h1, e, v⟩ | ⟨h, h1, h2, h3, e, v⟩ | ⟨h, h1, h2, h3, e, v⟩
  · rw [e, v]; clear e v
    by_cases h0 : n < 1
    · have d1 : decide (n < 1) = true := decide_eq_true (by omega)
      clear h
      go_enter Try.func26, Try.ntmps26
      go_wp2_with fail
      go_ret2
      exact ⟨rfl, rfl⟩
    · have d1 : decide (n < 1) = false := decide_eq_false (by omega)
      have d2 : decide (4 < n) = true := by simp [Mk.isN] at h; simp; omega
      clear h
      go_enter Try.func26, Try.ntmps26
      go_wp2_with fail
      go_ret2
      exact ⟨rfl, rfl⟩
  · have hnb := isN_bd h
    rw [e, v]; clear e v h
    have d1 : decide (n < 1) = false := decide_eq_false (by omega)
    have d2 : decide (4 < n) = false := decide_eq_false (by omega)
    have d3 : decide (a < 0) = true := decide_eq_true (by omega)
    go_enter Try.func26, Try.ntmps26
    go_wp2_with fail
    go_ret2
    exact ⟨rfl, rfl⟩
  · have hnb := isN_bd h
    rw [e, v]; clear e v h
    have d1 : decide (n < 1) = false := decide_eq_false (by omega)
    have d2 : decide (4 < n) = false := decide_eq_false (by omega)
    have d3 : decide (a < 0) = false := decide_eq_false (by omega)
    have d4 : decide ((bs.length : Int) < a) = true := decide_eq_true (by omega)
    go_enter Try.func26, Try.ntmps26
    go_wp2_with fail
    go_ret2
    exact ⟨rfl, rfl⟩
  · have hnb := isN_bd h
    rw [e, v]; clear e v h
    have d1 : decide (n < 1) = false := decide_eq_false (by omega)
    have d2 : decide (4 < n) = false := decide_eq_false (by omega)
    have d3 : decide (a < 0) = false := decide_eq_false (by omega)
    have d4 : decide ((bs.length : Int) < a) = false := decide_eq_false (by omega)
    have d5 : decide ((bs.length : Int) - a < n) = true := decide_eq_true (by omega)
    go_enter Try.func26, Try.ntmps26
    go_wp2_with fail
    go_ret2
    exact ⟨rfl, rfl⟩
  · have hnb := isN_bd h
    rw [e, v]; clear e v h
    obtain ⟨A, rfl⟩ : ∃ A : Nat, a = A := ⟨a.toNat, by omega⟩
    obtain ⟨N, rfl⟩ : ∃ N : Nat, n = N := ⟨n.toNat, by omega⟩
    have hAN : A + N ≤ bs.length := by omega
    have hN : 1 ≤ N ∧ N ≤ 4 := by omega
    clear h1 h2 h3 hnb
    obtain ⟨b, off, rfl, hr⟩ : ∃ b off, s = some ⟨b, off, none⟩ ∧ ∀ k (_ : k < bs.length), w.cell? ⟨b, off + k, none⟩ = some (.int .u8 bs[k]) := by
      rcases hH with rfl | q
      · exfalso; simp only [List.length_nil] at hAN; omega
      · exact q
    have HR := Lib.hid hr
    have HS := Lib.hid (fun k (hk : k < N) => num_step (bs := bs) (a := A) (k := k) (n := N) hk hAN)
    have HD := Lib.hid (fun k (hk : k ≤ 4) => num_small (bs := (bs.drop A).take N) (Mk.bytes_take (Mk.bytes_drop hB _) _) hk)
    have HW := Lib.hid (show ((bs.drop A).take N).take N = (bs.drop A).take N by rw [List.take_take, Nat.min_self])
    have hGB := Lib.hid hB
    clear hr hB hH
    have d1 : decide ((N : Int) < 1) = false := decide_eq_false (by omega)
    have d1' : decide (N < 1) = false := decide_eq_false (by omega)
    have d1'' : decide (N = 0) = false := decide_eq_false (by omega)
    have d2 : decide ((4 : Int) < N) = false := decide_eq_false (by omega)
    have d2'' : decide (4 < N) = false := decide_eq_false (by omega)
    have d3 : decide ((A : Int) < 0) = false := decide_eq_false (by omega)
    have d4 : decide ((bs.length : Int) < A) = false := decide_eq_false (by omega)
    have d4' : decide (bs.length < A) = false := decide_eq_false (by omega)
    have d5 : decide ((bs.length : Int) - A < N) = false := decide_eq_false (by omega)
    have e1 : ((N : Int)).toNat = N := by omega
    have e2 : ((A : Int)).toNat = A := by omega
    rw [e1, e2]
    go_enter Try.func26, Try.ntmps26
    go_wp2_with fail
    go_loop [8, 9] (fun v i => ∃ k : Nat, k ≤ N ∧ i = .int .i64 (k : Int) ∧ v = .int .i64 (Mk.num (((bs.drop A).take N).take k))) (fun _ i => N - (intOf i).toNat)
    case atStart => exact ⟨0, Nat.zero_le _, rfl, rfl⟩
    case round =>
      obtain ⟨k, hk, rfl, rfl⟩ := hrel
      by_cases hlt : k < N
      · have hc := HR.out (A + k) (by omega)
        have hb := hGB.out bs[A + k] (List.getElem_mem _)
        have hs := HS.out k hlt
        rw [List.getD_eq_getElem?_getD, List.getElem?_eq_getElem (show A + k < bs.length by omega), Option.getD_some] at hs
        have hd := HD.out k (by omega)
        have ho := or_low64 _ _ hd.1 (show Mk.num (((bs.drop A).take N).take k) < 36028797018963968 by omega) hb
        have HX := Lib.hid hs
        have hi : A + k < bs.length := by omega
        have hi2 : ((A : Int) + (k : Int)) < (bs.length : Int) := by omega
        have hi3 : ((A : Int) + (k : Int)).toNat = A + k := by omega
        clear hs
        generalize bs[A + k] = x at *
        generalize Mk.num (((bs.drop A).take N).take k) = y at *
        go_wp2_with fail
        go_round
        case rel => exact ⟨k + 1, by omega, by go_num, by rw [HX.out]⟩
        case measure => simp [intOf]; omega
      · obtain rfl : k = N := by omega
        rw [HW.out]
        go_wp2_with fail
        go_ret2
        exact ⟨rfl, rfl⟩
/-- The digits, the last k of them written. -/
def fillD (v : Int) (n k : Nat) : List Int := List.replicate (n - k) 0 ++ (Mk.dg v n).drop (n - k)
theorem fillD_len (v : Int) (n k : Nat) (h : k ≤ n) : (fillD v n k).length = n := by
  rw [fillD, List.length_append, List.length_replicate, List.length_drop, Mk.dg_len]
  omega
theorem fillD_all (v : Int) (n : Nat) : fillD v n n = Mk.dg v n := by simp [fillD]
theorem fillD_zero (v : Int) (n : Nat) : fillD v n 0 = List.replicate n 0 := by
  have : (Mk.dg v n).drop n = [] := by rw [List.drop_eq_nil_iff, Mk.dg_len]; omega
  simp [fillD, this]
theorem fillD_next (v : Int) (n k : Nat) (h : k < n) : (fillD v n k).set (n - 1 - k) (v / 256 ^ k % 256) = fillD v n (k + 1) := by
  apply List.ext_getElem?
  intro i
  rw [List.getElem?_set]
  have hg := fun j (hj : j < n) => Mk.dg_get v n j hj
  unfold fillD
  by_cases h1 : n - 1 - k = i
  · subst h1
    have e : n - 1 - (n - 1 - k) = k := by omega
    rw [if_pos rfl, if_pos (by simp [Mk.dg_len]; omega), List.getElem?_append_right (by simp; omega), List.getElem?_drop, hg _ (by simp only [List.length_replicate]; omega)]
    simp only [List.length_replicate]
    rw [show n - 1 - (n - (k + 1) + (n - 1 - k - (n - (k + 1)))) = k by omega]
  · rw [if_neg h1]
    by_cases h2 : i < n - (k + 1)
    · rw [List.getElem?_append_left (by simp; omega), List.getElem?_append_left (by simp; omega)]
      rw [List.getElem?_replicate, List.getElem?_replicate, if_pos (by omega), if_pos (by omega)]
    · by_cases h3 : i < n
      · rw [List.getElem?_append_right (by simp; omega), List.getElem?_append_right (by simp; omega), List.getElem?_drop, List.getElem?_drop]
        simp only [List.length_replicate]
        congr 1; omega
      · rw [List.getElem?_eq_none (by simp [Mk.dg_len]; omega), List.getElem?_eq_none (by simp [Mk.dg_len]; omega)]
end Go.Proofs.Ytagfmmkhgggfmaa
