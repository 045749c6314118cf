/-
  Layer 27: contract of put: a number into bytes of a block.
-/
import Derived.Test.YtpnnmibdboelpaaCd
set_option maxRecDepth 100000
namespace Go.Proofs.Ytpnnmibdboelpaa
open Go.RowKit

/-- Only one block of old memory is changed. -/
structure On (g : Nat) (w w' : World) : Prop where
  os : w'.os = w.os
  tape : w'.tape = w.tape
  output : w'.output = w.output
  size : w.heap.size ≤ w'.heap.size
  block : ∀ k, k < w.heap.size → k ≠ g → w'.heap[k]? = w.heap[k]?
theorem On.refl (g : Nat) (w : World) : On g w w := ⟨rfl, rfl, rfl, Nat.le_refl _, fun _ _ _ => rfl⟩
theorem On.trans {g : Nat} {w w1 w2 : World} (h : On g w w1) (h' : On g w1 w2) : On g w w2 :=
  ⟨h'.os.trans h.os, h'.tape.trans h.tape, h'.output.trans h.output, Nat.le_trans h.size h'.size, fun k hk hn => (h'.block k (Nat.lt_of_lt_of_le hk h.size) hn).trans (h.block k hk hn)⟩
theorem On.set {g : Nat} {w w1 : World} (h : On g w w1) (i : Nat) (u : Value) : On g w (w1.setCell ⟨g, i, none⟩ u) :=
  ⟨h.os, h.tape, h.output, by have := h.size; simpa [World.setCell] using this, fun k hk hn => (Below.heap_setCell _ _ _ _ (by simpa using hn)).trans (h.block k hk hn)⟩
theorem On.of_below {g : Nat} {w w1 : World} (h : Below w.heap.size w w1) : On g w w1 := ⟨h.os, h.tape, h.output, h.size, fun k hk _ => h.block k hk⟩
theorem On.below {g B : Nat} {w w1 : World} (h : On g w w1) (hB : B ≤ g) (hs : B ≤ w.heap.size) : Below B w w1 := ⟨h.os, h.tape, h.output, h.size, fun k hk => h.block k (by omega) (by omega)⟩
theorem On.blk {g k : Nat} {w w1 : World} {t : TypeId} {cs : Array Value} (h : On g w w1) (hb : Blk w k t cs) (hn : k ≠ g) : Blk w1 k t cs := (h.block k hb.lt hn).trans hb
theorem On.cell {g : Nat} {w w1 : World} {b o : Nat} {v : Value} (h : On g w w1) (hc : w.cell? ⟨b, o, none⟩ = some v) (hn : b ≠ g) : w1.cell? ⟨b, o, none⟩ = some v :=
  (World.cell?_of_block (w := w) (a := ⟨b, o, none⟩) (h.block b (cell_lt hc) hn)).trans hc
theorem On.drew {g : Nat} {w w1 : World} (h : On g w w1) : On g w w1.drew := ⟨h.os, h.tape, h.output, h.size, h.block⟩
/-- n digits of a number, laid over a list. -/
def pt (l : List Int) (off : Nat) (v : Int) (n : Nat) : List Int := l.take off ++ (Mk.dg v n ++ l.drop (off + n))
def ptK (l : List Int) (off : Nat) (v : Int) (n k : Nat) : List Int := l.take (off + (n - k)) ++ ((Mk.dg v n).drop (n - k) ++ l.drop (off + n))
theorem pt_len (l : List Int) (off : Nat) (v : Int) (n : Nat) (h : off + n ≤ l.length) : (pt l off v n).length = l.length := by simp [pt, Mk.dg_len]; omega
theorem ptK_len (l : List Int) (off : Nat) (v : Int) (n k : Nat) (hk : k ≤ n) (h : off + n ≤ l.length) : (ptK l off v n k).length = l.length := by simp [ptK, Mk.dg_len]; omega
theorem ptK_zero (l : List Int) (off : Nat) (v : Int) (n : Nat) : ptK l off v n 0 = l := by
  have : (Mk.dg v n).drop n = [] := by rw [List.drop_eq_nil_iff, Mk.dg_len]; omega
  simp [ptK, this]
theorem ptK_all (l : List Int) (off : Nat) (v : Int) (n : Nat) : ptK l off v n n = pt l off v n := by simp [ptK, pt]
theorem get3 {α : Type} (A B C : List α) (i : Nat) : (A ++ (B ++ C))[i]? = if i < A.length then A[i]? else if i < A.length + B.length then B[i - A.length]? else C[i - A.length - B.length]? := by
  by_cases h1 : i < A.length
  · rw [if_pos h1, List.getElem?_append_left h1]
  · rw [if_neg h1, List.getElem?_append_right (by omega)]
    by_cases h2 : i < A.length + B.length
    · rw [if_pos h2, List.getElem?_append_left (by omega)]
    · rw [if_neg h2, List.getElem?_append_right (by omega)]
theorem ptK_next (l : List Int) (off : Nat) (v : Int) (n k : Nat) (hk : k < n) (h : off + n ≤ l.length) : (ptK l off v n k).set (off + (n - 1 - k)) (v / 2 ^ (8 * k) % 256) = ptK l off v n (k + 1) := by
  rw [← pow_shr]
  apply List.ext_getElem?
  intro i
  have h1 := ptK_len l off v n k (by omega) h
  have hd := Mk.dg_get v n (n - 1 - k) (by omega)
  rw [show n - 1 - (n - 1 - k) = k by omega] at hd
  have l1 : (l.take (off + (n - k))).length = off + (n - k) := by simp; omega
  have l2 : (l.take (off + (n - (k + 1)))).length = off + (n - (k + 1)) := by simp; omega
  have l3 : ((Mk.dg v n).drop (n - k)).length = k := by simp [Mk.dg_len]; omega
  have l4 : ((Mk.dg v n).drop (n - (k + 1))).length = k + 1 := by simp [Mk.dg_len]; omega
  rw [List.getElem?_set]
  by_cases e : off + (n - 1 - k) = i
  · rw [if_pos e, if_pos (by rw [h1]; omega)]
    subst e
    unfold ptK
    rw [get3, l2, l4, if_neg (by omega), if_pos (by omega), List.getElem?_drop]
    rw [show n - (k + 1) + (off + (n - 1 - k) - (off + (n - (k + 1)))) = n - 1 - k by omega, hd]
  · rw [if_neg e]
    unfold ptK
    rw [get3, get3, l1, l2, l3, l4]
    by_cases a1 : i < off + (n - (k + 1))
    · rw [if_pos (by omega), if_pos a1, List.getElem?_take_of_lt (by omega), List.getElem?_take_of_lt (by omega)]
    · rw [if_neg (by omega), if_neg a1]
      by_cases a2 : i < off + n
      · rw [if_pos (by omega), if_pos (by omega), List.getElem?_drop, List.getElem?_drop]
        congr 1; omega
      · rw [if_neg (by omega), if_neg (by omega)]
        congr 1; omega
/-- What put leaves. -/
def GivesPut (g : Nat) (l : List Int) (w : World) (e : Ending) (w' : World) : Prop := e = .returned (.tuple #[]) ∧ Blk w' g 5 (blkB l) ∧ On g w w'
structure PutK (g : Nat) (l : List Int) (off : Nat) (v : Int) (n k : Nat) (w wr : World) : Prop where
  blk : Blk wr g 5 (blkB (ptK l off v n k))
  on : On g w wr
set_option maxHeartbeats 1000000 in
theorem put_c (l : List Int) (g off n m : Nat) (v : Int) (w : World) (hB : Blk w g 5 (blkB l)) (hn : n ≤ 4) (hl : off + n ≤ l.length) :
    Calls Try.prog 21 #[.slice (some ⟨g, off, none⟩) n m, .int .i64 v] w (GivesPut g (pt l off v n) w) := by
  have HI := Lib.hid (show PutK g l off v n 0 w w from ⟨by rw [ptK_zero]; exact hB, On.refl _ _⟩)
  clear hB
  go_enter Try.func21, Try.ntmps21
  go_wp2_with fail
  go_loopw [4, 7] (fun _ i wr => ∃ k : Nat, k ≤ n ∧ i = .int .i64 (k : Int) ∧ Hid (PutK g l off v n k w wr)) (fun _ i _ => n - (intOf i).toNat)
  case atStart => exact ⟨0, Nat.zero_le _, rfl, HI⟩
  case round =>
    obtain ⟨k, hk, rfl, hT⟩ := hrel
    clear HI
    by_cases hlt : k < n
    · have hc := hT.out.blk.cell (off + (n - 1 - k))
      obtain ⟨x, hx⟩ : ∃ x, (ptK l off v n k)[off + (n - 1 - k)]? = some x := ⟨_, List.getElem?_eq_getElem (by rw [ptK_len _ _ _ _ _ hk hl]; omega)⟩
      rw [blkB, List.getElem?_toArray, List.getElem?_map, hx] at hc
      have hf := hT.out.blk.free (off + (n - 1 - k))
      have hT2 : Hid (PutK g l off v n (k + 1) w (wr.setCell ⟨g, off + (n - 1 - k), none⟩ (.int .u8 (v / 2 ^ (8 * k) % 256)))) := by
        apply Lib.hid
        refine ⟨?_, hT.out.on.set _ _⟩
        have := hT.out.blk.set (off + (n - 1 - k)) (.int .u8 (v / 2 ^ (8 * k) % 256))
        rw [blkB_set, ptK_next _ _ _ _ _ hlt hl] at this
        exact this
      have w1 : IntKind.i64.wrap (8 * (k : Int)) = 8 * k := IntWalk.i64_in _ (by omega)
      have w2 : IntKind.i64.wrap ((n : Int) - 1) = ((n - 1 : Nat) : Int) := by rw [IntWalk.i64_in _ (by omega)]; omega
      have w3 : IntKind.i64.wrap (((n - 1 : Nat) : Int) - k) = ((n - 1 - k : Nat) : Int) := by rw [IntWalk.i64_in _ (by omega)]; omega
      have hi : n - 1 - k < n := by omega
      clear hx hT
      generalize n - 1 - k = j at *
      go_wp2_with fail
      go_roundw
      case rel => exact ⟨k + 1, by omega, by go_num, hT2⟩
      case measure => simp [intOf]; omega
    · obtain rfl : k = n := by omega
      have hz := hT.out.blk
      rw [ptK_all] at hz
      have HZ := Lib.hid hz
      clear hz
      go_wp2_with fail
      go_end0
      exact ⟨rfl, HZ.out, hT.out.on⟩
end Go.Proofs.Ytpnnmibdboelpaa
