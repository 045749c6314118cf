/-
  Layer 27: contract of the reference's Checksum.
-/
import Derived.Test.YtpnnmibdboelpaaCb
set_option maxRecDepth 100000
namespace Go.Proofs.Ytpnnmibdboelpaa
open Go.RowKit

theorem i64_nat (a b : Nat) (ha : a < 4611686018427387904) (hb : b < 4611686018427387904) :
    bits .xor .i64 (a : Int) (b : Int) = ((a ^^^ b : Nat) : Int) ∧ bits .and .i64 (a : Int) (b : Int) = ((a &&& b : Nat) : Int) := by
  have e1 : (BitVec.ofInt 64 (a : Int)).toNat = a := by rw [BitVec.toNat_ofInt]; omega
  have e2 : (BitVec.ofInt 64 (b : Int)).toNat = b := by rw [BitVec.toNat_ofInt]; omega
  constructor
  · show IntKind.i64.wrap ((BitVec.ofInt 64 (a : Int) ^^^ BitVec.ofInt 64 (b : Int)).toNat : Int) = _
    rw [BitVec.toNat_xor, e1, e2]
    have : a ^^^ b < 2 ^ 62 := Nat.xor_lt_two_pow (by omega) (by omega)
    rw [IntWalk.i64_in _ (by omega)]
  · show IntKind.i64.wrap ((BitVec.ofInt 64 (a : Int) &&& BitVec.ofInt 64 (b : Int)).toNat : Int) = _
    rw [BitVec.toNat_and, e1, e2]
    have : a &&& b ≤ a := Nat.and_le_left
    rw [IntWalk.i64_in _ (by omega)]
theorem and_one (a : Nat) (ha : a < 4611686018427387904) : bits .and .i64 (a : Int) 1 = ((a % 2 : Nat) : Int) := by
  have := (i64_nat a 1 ha (by omega)).2
  rw [Nat.and_one_is_mod] at this
  exact this
theorem and_16 (a : Nat) (ha : a < 4611686018427387904) : bits .and .i64 (a : Int) 65535 = ((a % 65536 : Nat) : Int) := by
  have := (i64_nat a 65535 ha (by omega)).2
  rw [show a &&& 65535 = a % 2 ^ 16 from Nat.and_two_pow_sub_one_eq_mod a 16] at this
  exact this
theorem bit1_val {q b : Nat} (hq : q < 65536) (hb : b < 2) : ((q / 32768 ^^^ b = 1 ∧ Ck.bit1 q b = (2 * q % 65536) ^^^ 4129) ∨ (q / 32768 ^^^ b = 0 ∧ Ck.bit1 q b = 2 * q % 65536)) := by
  have h1 : q / 32768 ^^^ b < 2 := Ck.xor_lt 1 (by omega) hb
  have h2 : q / 32768 ^^^ b = 1 ∨ q / 32768 ^^^ b = 0 := by omega
  unfold Ck.bit1
  rcases h2 with h | h
  · left; rw [h]; exact ⟨rfl, rfl⟩
  · right
    rw [h]
    refine ⟨rfl, ?_⟩
    show 2 * q % 65536 ^^^ 0 = _
    exact Nat.xor_zero _
set_option maxHeartbeats 1000000 in
theorem rchecksum_c (bs : List Int) (s : Option Addr) (m : Nat) (w : World) (hH : HoldsB w s bs) (hB : Mk.bytes bs) (hl : bs.length ≤ 1000000) :
    Calls Try.prog 10 #[.slice s bs.length m] w fun e w' => e = .returned (.int .i64 (Ck.crc bs)) ∧ w = w' := by
  have HH := Lib.hid hH
  have HB := Lib.hid hB
  clear hH hB
  rw [show Ck.crc bs = (Ck.crcN bs : Int) from rfl]
  go_enter Try.func10, Try.ntmps10
  go_wp2_with fail
  go_loop [3, 10] (fun r i => ∃ k : Nat, k ≤ bs.length ∧ i = .int .i64 (k : Int) ∧ r = .int .i64 (Ck.crcN (bs.take k) : Int)) (fun _ i => bs.length - (intOf i).toNat)
  case atStart => exact ⟨0, Nat.zero_le _, rfl, rfl⟩
  case round =>
    obtain ⟨k, hk, rfl, rfl⟩ := hrel
    by_cases hlt : k < bs.length
    · obtain ⟨b, off, rfl, hc⟩ : ∃ b off, s = some ⟨b, off, none⟩ ∧ ∀ k (_ : k < bs.length), w.cell? ⟨b, off + k, none⟩ = some (.int .u8 bs[k]) := by
        rcases HH.out with h | h
        · exfalso; rw [h] at hlt; simp at hlt
        · exact h
      replace hc := hc k hlt
      have hb := HB.out bs[k] (List.getElem_mem _)
      have hs : Ck.crcN (bs.take (k + 1)) = Ck.step8 (Ck.crcN (bs.take k)) bs[k].toNat := by rw [List.take_succ_eq_append_getElem hlt, Ck.crcN_snoc]
      have hr := Ck.crcN_lt (bs.take k)
      have HX := Lib.hid hs
      clear hs
      generalize bs[k] = x at *
      generalize Ck.crcN (bs.take k) = r at *
      obtain ⟨y, rfl⟩ : ∃ y : Nat, x = y := ⟨x.toNat, by omega⟩
      rw [Int.toNat_natCast] at HX
      go_wp2_with fail
      go_loop [3, 6] (fun r' i => ∃ (K q : Nat), K ≤ 8 ∧ q < 65536 ∧ i = .int .i64 ((K : Int) - 1) ∧ r' = .int .i64 (q : Int) ∧ Hid (Ck.steps q y K = Ck.step8 r y)) (fun _ i => (intOf i + 1).toNat)
      case atStart => exact ⟨8, r, by omega, hr, rfl, rfl, Lib.hid rfl⟩
      case round =>
        obtain ⟨K, q, hK, hq, rfl, rfl, hS⟩ := hrel
        cases K with
        | zero =>
          have e0 : ((0 : Nat) : Int) - 1 = -1 := rfl
          rw [e0]
          go_wp2_with fail
          go_round
          case rel => exact ⟨k + 1, by omega, by go_num, by rw [HX.out, ← hS.out]; rfl⟩
          case measure => first | (simp [intOf]; done) | (simp [intOf]; omega)
        | succ K =>
          have e0 : (((K + 1 : Nat) : Int) - 1) = (K : Int) := by omega
          rw [e0]
          have hyk : y / 2 ^ K < 4611686018427387904 := Nat.lt_of_le_of_lt (Nat.div_le_self _ _) (by omega)
          have hA : bits .and .i64 ((y : Int) / 2 ^ K) 1 = ((y / 2 ^ K % 2 : Nat) : Int) := by
            have := and_one (y / 2 ^ K) hyk
            rw [← this]; norm_cast
          have hM : bits .and .i64 ((q : Int) * 2) 65535 = ((2 * q % 65536 : Nat) : Int) := by
            have := and_16 (2 * q) (by omega)
            rw [← this, show ((2 * q : Nat) : Int) = (q : Int) * 2 by omega]
          have hb2 : y / 2 ^ K % 2 < 2 := Nat.mod_lt _ (by omega)
          have hX0 := (i64_nat (q / 32768) (y / 2 ^ K % 2) (by omega) (by omega)).1
          rw [show ((q / 32768 : Nat) : Int) = (q : Int) / 32768 by omega] at hX0
          have hst : Ck.steps q y (K + 1) = Ck.steps (Ck.bit1 q (y / 2 ^ K % 2)) y K := rfl
          have HST := Lib.hid hst
          have hlt1 := Ck.bit1_lt q (y / 2 ^ K % 2)
          have hv := bit1_val hq hb2
          clear hst
          generalize y / 2 ^ K % 2 = bb at *
          have hlm : 2 * q % 65536 < 65536 := Nat.mod_lt _ (by omega)
          have hP := (i64_nat (2 * q % 65536) 4129 (by omega) (by omega)).1
          have HBL := Lib.hid hlt1
          rcases hv with ⟨h1, h2⟩ | ⟨h1, h2⟩
          · rw [h1] at hX0
            have H2 := Lib.hid h2
            clear h1 h2 hlt1 hb2 hyk
            generalize 2 * q % 65536 = z at *
            go_wp2_with fail
            rw [show ((4129 : Nat) : Int) = 4129 from rfl] at hP
            rw [hP]
            go_round
            case rel => exact ⟨K, z ^^^ 4129, by omega, by rw [← H2.out]; exact HBL.out, rfl, rfl, Lib.hid (by rw [← hS.out, HST.out, H2.out])⟩
            case measure => first | (simp [intOf]; done) | (simp [intOf]; omega)
          · rw [h1] at hX0
            have H2 := Lib.hid h2
            clear h1 h2 hlt1 hb2 hyk hP
            generalize 2 * q % 65536 = z at *
            go_wp2_with fail
            go_round
            case rel => exact ⟨K, z, by omega, hlm, rfl, rfl, Lib.hid (by rw [← hS.out, HST.out, H2.out])⟩
            case measure => first | (simp [intOf]; done) | (simp [intOf]; omega)
    · obtain rfl : k = bs.length := by omega
      have hr := Ck.crcN_lt bs
      rw [List.take_length]
      go_wp2_with fail
      go_ret
      exact ⟨rfl, rfl⟩
end Go.Proofs.Ytpnnmibdboelpaa
