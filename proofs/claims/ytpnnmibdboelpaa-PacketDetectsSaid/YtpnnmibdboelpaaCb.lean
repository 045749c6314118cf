/-
  Layer 27: contracts of Checksum, code and reference.
-/
import Derived.Test.YtpnnmibdboelpaaPa
import Derived.Test.YtpnnmibdboelpaaCa
set_option maxRecDepth 100000
namespace Go.Proofs.Ytpnnmibdboelpaa
open Go.RowKit

theorem cval (r y : Nat) (hr : r < 65536) (hy : y < 256) :
    bits .xor .u16 (bits .xor .u16 (bits .xor .u16 (IntKind.u16.wrap ((r : Int) * 256)) (IntKind.u16.wrap (IntKind.u16.wrap (bits .xor .u8 (bits .xor .u8 ((r : Int) / 256) (y : Int)) (bits .xor .u8 ((r : Int) / 256) (y : Int) / 16)) * 4096)))
      (IntKind.u16.wrap (IntKind.u16.wrap (bits .xor .u8 (bits .xor .u8 ((r : Int) / 256) (y : Int)) (bits .xor .u8 ((r : Int) / 256) (y : Int) / 16)) * 32)))
      (IntKind.u16.wrap (bits .xor .u8 (bits .xor .u8 ((r : Int) / 256) (y : Int)) (bits .xor .u8 ((r : Int) / 256) (y : Int) / 16))) = (Ck.cstep r y : Int) := by
  have e1 : (r : Int) / 256 = ((r / 256 : Nat) : Int) := by omega
  rw [e1, u8_xor_nat _ _ (by omega) hy]
  have hg : (r / 256) ^^^ y < 256 := Ck.xor_lt 8 (by omega) hy
  unfold Ck.cstep
  generalize (r / 256) ^^^ y = g at *
  have e2 : (g : Int) / 16 = ((g / 16 : Nat) : Int) := by omega
  rw [e2, u8_xor_nat _ _ hg (by omega)]
  have hf : g ^^^ g / 16 < 256 := Ck.xor_lt 8 hg (by omega)
  generalize g ^^^ g / 16 = f at *
  have w1 : IntKind.u16.wrap (f : Int) = (f : Int) := by rw [IntKind.wrap_u16]; omega
  have w2 : IntKind.u16.wrap ((f : Int) * 4096) = ((f * 4096 % 65536 : Nat) : Int) := by rw [IntKind.wrap_u16]; omega
  have w3 : IntKind.u16.wrap ((f : Int) * 32) = ((f * 32 % 65536 : Nat) : Int) := by rw [IntKind.wrap_u16]; omega
  have w4 : IntKind.u16.wrap ((r : Int) * 256) = ((r * 256 % 65536 : Nat) : Int) := by rw [IntKind.wrap_u16]; omega
  rw [w1, w2, w3, w4]
  have a1 : r * 256 % 65536 < 65536 := Nat.mod_lt _ (by omega)
  have a2 : f * 4096 % 65536 < 65536 := Nat.mod_lt _ (by omega)
  have a3 : f * 32 % 65536 < 65536 := Nat.mod_lt _ (by omega)
  generalize r * 256 % 65536 = x1 at *
  generalize f * 4096 % 65536 = x2 at *
  generalize f * 32 % 65536 = x3 at *
  rw [u16_xor_nat _ _ a1 a2, u16_xor_nat _ _ (Ck.xor_lt 16 a1 a2) a3, u16_xor_nat _ _ (Ck.xor_lt 16 (Ck.xor_lt 16 a1 a2) a3) (by omega)]
set_option maxHeartbeats 1000000 in
theorem checksum_c (bs : List Int) (s : Option Addr) (m : Nat) (w : World) (hH : HoldsB w s bs) (hB : Mk.bytes bs) (hl : bs.length ≤ 1000000) :
    Calls Try.prog 9 #[.slice s bs.length m] w fun e w' => e = .returned (.int .i64 (Ck.crc bs)) ∧ w = w' := by
  have HH := Lib.hid hH
  have HB := Lib.hid hB
  clear hH hB
  rw [show Ck.crc bs = (Ck.crcN bs : Int) from rfl]
  go_enter Try.func9, Try.ntmps9
  go_wp2_with fail
  go_loop [3, 10] (fun r i => ∃ k : Nat, k ≤ bs.length ∧ i = .int .i64 (k : Int) ∧ r = .int .u16 (Ck.crcN (bs.take k) : Int)) (fun _ i => bs.length - (intOf i).toNat)
  case atStart => exact ⟨0, Nat.zero_le _, rfl, rfl⟩
  case round =>
    obtain ⟨k, hk, rfl, rfl⟩ := hrel
    by_cases hlt : k < bs.length
    · obtain ⟨b, off, rfl, hc⟩ : ∃ b off, s = some ⟨b, off, none⟩ ∧ ∀ k (_ : k < bs.length), w.cell? ⟨b, off + k, none⟩ = some (.int .u8 bs[k]) := by
        rcases HH.out with h | h
        · exfalso; rw [h] at hlt; simp at hlt
        · exact h
      replace hc := hc k hlt
      have hb := HB.out bs[k] (List.getElem_mem _)
      have hs : Ck.crcN (bs.take (k + 1)) = Ck.step8 (Ck.crcN (bs.take k)) bs[k].toNat := by rw [List.take_succ_eq_append_getElem hlt, Ck.crcN_snoc]
      have hr := Ck.crcN_lt (bs.take k)
      rw [Ck.step_eq hr (by omega)] at hs
      have HX := Lib.hid hs
      clear hs
      generalize bs[k] = x at *
      generalize Ck.crcN (bs.take k) = r at *
      obtain ⟨y, rfl⟩ : ∃ y : Nat, x = y := ⟨x.toNat, by omega⟩
      rw [Int.toNat_natCast] at HX
      go_wp2_with fail
      rw [cval r y hr (by omega)]
      go_round
      case rel => exact ⟨k + 1, by omega, by go_num, by rw [HX.out]⟩
      case measure => simp [intOf]; omega
    · obtain rfl : k = bs.length := by omega
      have hr := Ck.crcN_lt bs
      rw [List.take_length]
      go_wp2_with fail
      go_ret
      exact ⟨rfl, rfl⟩
end Go.Proofs.Ytpnnmibdboelpaa
