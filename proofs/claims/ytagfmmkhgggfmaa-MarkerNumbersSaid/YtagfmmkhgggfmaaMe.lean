/-
  Layer 28: contract of digits; of the library's Grow at no list, and of Concat over lists of bytes in memory.
-/
import Derived.Test.YtagfmmkhgggfmaaMd
set_option maxRecDepth 100000
namespace Go.Proofs.Ytagfmmkhgggfmaa
open Go.RowKit

def blkB (l : List Int) : Array Value := (l.map (Value.int .u8)).toArray
theorem blkB_set (l : List Int) (k : Nat) (x : Int) : (blkB l).setIfInBounds k (.int .u8 x) = blkB (l.set k x) := by simp [blkB, List.map_set]
theorem made8 (n : Nat) : madeCells #[.int .u8 0] n = blkB (List.replicate n 0) := by
  apply Array.ext
  · simp [madeCells, blkB]
  · intro i h1 h2
    simp [madeCells, blkB, Nat.mod_one]
def zU (n : Nat) : Obj := .cells (madeCells #[.int .u8 0] n) 5
theorem mkU (n : Nat) (hn : n ≤ 1000000000) (W : World) : (Instr.makeSlice 24 (.int .i64 (n : Int)) (.int .i64 (n : Int))).run Try.prog W = .ok (.slice (some ⟨W.heap.size, 0, none⟩) n n) (W.alloc (zU n)) := by
  obtain ⟨i0, hi, hz0, hz1, hz2⟩ := info_parts info8
  have hr := run_make (P := Try.prog) W 24 5 i0 _ Try.underlying24 hi hz0 .i64 .i64 n n (by omega) (Int.le_refl _) (by rw [hz2]; omega) (by omega)
  rw [hz1, Int.toNat_natCast, Nat.mul_one] at hr
  exact hr
theorem zU_blk (w : World) (n : Nat) : Blk (w.alloc (zU n)) w.heap.size 5 (blkB (List.replicate n 0)) := by
  rw [← made8]; exact Blk.new _ _ _
theorem blk_own {w : World} {B g : Nat} {l : List Int} (h : Blk w g 5 (blkB l)) (hB : B ≤ g) (hl : l.length ≤ maxLen) : w.ownsRow B 5 1 (.slice (some ⟨g, 0, none⟩) l.length l.length) l.length (l.map (Value.int .u8)) := by
  refine ⟨by simp, .inr ⟨g, l.length, blkB l, rfl, hB, h, Nat.le_refl _, hl, by simp [blkB], ?_⟩⟩
  rw [Nat.mul_one, blkB, List.take_of_length_le (by simp)]
structure Dgs (w : World) (v : Int) (n k : Nat) (wr : World) : Prop where
  blk : Blk wr w.heap.size 5 (blkB (fillD v n k))
  below : Below w.heap.size w wr
theorem pow_shr (k : Nat) : (256 : Int) ^ k = 2 ^ (8 * k) := by rw [Int.pow_mul]; rfl
set_option maxHeartbeats 1000000 in
theorem digits_c (v : Int) (n : Nat) (w : World) (hn : 1 ≤ n ∧ n ≤ 4) :
    Calls Try.prog 27 #[.int .i64 v, .int .i64 (n : Int)] w (GivesB (Mk.dg v n) w) := by
  have hmk := mkU n (by omega)
  have HI : Hid (Dgs w v n 0 (w.alloc (zU n))) := Lib.hid ⟨by rw [fillD_zero]; exact zU_blk w n, (Below.refl _ _).alloc (Nat.le_refl _) _⟩
  have hz : Hid (∃ z, z = zU n) := ⟨_, rfl⟩
  generalize zU n = Z at *
  go_enter Try.func27, Try.ntmps27
  go_upto_region 2 with fail
  generalize w.alloc Z = W0 at *
  clear hmk hz
  go_wp2_with fail
  go_loopw [6, 11] (fun _ i wr => ∃ k : Nat, k ≤ n ∧ i = .int .i64 (k : Int) ∧ Hid (Dgs w v n k wr)) (fun _ i _ => n - (intOf i).toNat)
  case atStart => exact ⟨0, Nat.zero_le _, rfl, HI⟩
  case round =>
    obtain ⟨k, hk, rfl, hT⟩ := hrel
    clear HI
    by_cases hlt : k < n
    · have hc := hT.out.blk.cell (n - 1 - k)
      obtain ⟨x, hx⟩ : ∃ x, (fillD v n k)[n - 1 - k]? = some x := ⟨_, List.getElem?_eq_getElem (by rw [fillD_len _ _ _ hk]; omega)⟩
      rw [blkB, List.getElem?_toArray, List.getElem?_map, hx] at hc
      have hf := hT.out.blk.free (n - 1 - k)
      have hT2 : Hid (Dgs w v n (k + 1) (wr.setCell ⟨w.heap.size, n - 1 - k, none⟩ (.int .u8 (v / 2 ^ (8 * k) % 256)))) := by
        apply Lib.hid
        rw [← pow_shr]
        refine ⟨?_, hT.out.below.setCell (Nat.le_refl _) _⟩
        have := hT.out.blk.set (n - 1 - k) (.int .u8 (v / 256 ^ k % 256))
        rw [blkB_set, fillD_next _ _ _ hlt] at this
        exact this
      have w1 : IntKind.i64.wrap (8 * (k : Int)) = 8 * k := IntWalk.i64_in _ (by omega)
      have w2 : IntKind.i64.wrap ((n : Int) - 1) = ((n - 1 : Nat) : Int) := by rw [IntWalk.i64_in _ (by omega)]; omega
      have w3 : IntKind.i64.wrap (((n - 1 : Nat) : Int) - k) = ((n - 1 - k : Nat) : Int) := by rw [IntWalk.i64_in _ (by omega)]; omega
      have hi : n - 1 - k < n := by omega
      clear hx hT
      generalize n - 1 - k = j at *
      go_wp2_with fail
      go_roundw
      case rel => exact ⟨k + 1, by omega, by go_num, hT2⟩
      case measure => simp [intOf]; omega
    · obtain rfl : k = n := by omega
      go_wp2_with fail
      go_ret
      refine ⟨_, rfl, ?_, hT.out.below⟩
      have := hT.out.blk
      rw [fillD_all] at this
      have h2 := blk_own this (Nat.le_refl _) (by rw [Mk.dg_len]; unfold maxLen; omega)
      rw [Mk.dg_len] at h2 ⊢
      exact h2
end Go.Proofs.Ytagfmmkhgggfmaa
