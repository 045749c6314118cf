/-
  Contracts of the library's Grow at no list of bytes, and of Concat over lists of bytes in memory.
-/
import Derived.Test.YtagfmmkhgggfmaaMe
set_option maxRecDepth 100000
namespace Go.Proofs.Ytagfmmkhgggfmaa
open Go.RowKit

set_option maxHeartbeats 4000000 in
theorem grow8_n (n : Nat) (hn : n ≤ 1000000000) (W : World) : Calls Try.prog 32 #[.slice none 0 0, .int .i64 (n : Int)] W fun e w' => ∃ v, e = .returned v ∧ w'.ownsRow W.heap.size 5 1 v 0 [] ∧ Below W.heap.size W w' := by
  by_cases h0 : n = 0
  · subst h0
    refine Calls.mono (R := fun e w' => e = .returned (.slice none 0 0) ∧ w' = W) ?_ (fun e w' h => ⟨_, h.1, World.ownsRow_nil _ _ _ _, by rw [h.2]; exact Below.refl _ _⟩)
    go_enter Try.func32, Try.ntmps32
    go_wp2_with fail
    go_ret
    exact ⟨rfl, rfl⟩
  · obtain ⟨i0, hi, hz0, hz1, hz2⟩ := info_parts info8
    have hrz : ∀ ty, (Builtin.append_ #[24, 3] ty #[.slice none 0 0, .int .i64 (n : Int)]).run Try.prog W =
        .ok (.slice (some ⟨W.heap.size, 0, none⟩) (0 + n) (grownCap W (0 + n) 0 5)) (W.drew.alloc (.cells ((#[] : Array Value) ++ Builtin.zeroCells (Value.int .u8 0).cells n ++ Builtin.zeroCells (Value.int .u8 0).cells (grownCap W (0 + n) 0 5 - (0 + n))) 5)) := fun ty => by
      have hold : (Builtin.firstCells i0.size 0 (.slice none 0 0)).run Try.prog W.drew = .ok ([] : List Value).toArray W.drew := run_firstCells_none W.drew i0.size 0 0 0
      exact Lib.run_append_grow_zeros W 24 3 ty 5 i0 _ .i64 .i64 Try.underlying24 Try.underlying3 hi hz0 none 0 0 [] hold n (by omega) (by omega) (by omega) (by omega) (by rw [hz2]; omega) (growslice_fits (by omega) (by rw [hz2]; omega))
    rw [Nat.zero_add] at hrz
    have hGn : n ≤ grownCap W n 0 5 := grownCap_ge W _ _ _
    have hG63 : grownCap W n 0 5 ≤ 9223372036854775807 := by
      have := grownCap_le_maxLen W n 0 5 (by unfold maxLen; omega)
      unfold maxLen at this
      omega
    generalize grownCap W n 0 5 = G at *
    have hsz : ((#[] : Array Value) ++ Builtin.zeroCells (Value.int .u8 0).cells n ++ Builtin.zeroCells (Value.int .u8 0).cells (G - n)).size = G * 1 := by
      rw [Array.size_append, Array.size_append, size_zeroCells, size_zeroCells]
      show 0 + n * 1 + (G - n) * 1 = G * 1
      omega
    have hGm : G ≤ maxLen := by unfold maxLen at *; omega
    generalize ((#[] : Array Value) ++ Builtin.zeroCells (Value.int .u8 0).cells n ++ Builtin.zeroCells (Value.int .u8 0).cells (G - n)) = cur at *
    refine Calls.mono (R := fun e w' => e = .returned (.slice (some ⟨W.heap.size, 0, none⟩) 0 G) ∧ w' = (W.alloc (.cells cur 5)).drew) ?_ ?_
    · have hp : (0 : Int) < (n : Int) := by omega
      have h2 : wrap64 (n : Int) = (n : Int) := by unfold wrap64; omega
      clear hi hz0 hz1 hz2 hsz hGm
      go_enter Try.func32, Try.ntmps32
      go_wp2_with (at_builtin; refine Lib.wpList_append_run _ rfl _ _ _ _ rfl _ _ rfl rfl _ _ (hrz _) ?_)
      all_goals
        go_ret
        exact ⟨rfl, rfl⟩
    · rintro e w' ⟨he, rfl⟩
      refine ⟨_, he, ?_, ((Below.refl _ W).alloc (Nat.le_refl _) _).drew⟩
      exact ⟨rfl, .inr ⟨W.heap.size, G, cur, rfl, Nat.le_refl _, Array.getElem?_push_size, Nat.zero_le _, hGm, hsz, by simp⟩⟩
/-- A block of slices of bytes. -/
structure Lb (w : World) (G : Nat) (vs : List Value) (ls : List (List Int)) : Prop where
  blk : Blk w G 24 vs.toArray
  len : vs.length = ls.length
  els : ∀ i, i < vs.length → ∃ s m, vs.getD i undef = .slice s (ls.getD i []).length m ∧ HoldsB w s (ls.getD i []) ∧ (s = none → ls.getD i [] = [] ∧ m = 0)
theorem Lb.call {w w1 : World} {G : Nat} {vs : List Value} {ls : List (List Int)} (h : Lb w G vs ls) (hb : Below w.heap.size w w1) : Lb w1 G vs ls := ⟨h.blk.below hb, h.len, fun i hi => by
  obtain ⟨s, m, h1, h2, h3⟩ := h.els i hi
  exact ⟨s, m, h1, h2.call hb, h3⟩⟩
theorem Lb.cell {w : World} {G : Nat} {vs : List Value} {ls : List (List Int)} (h : Lb w G vs ls) {i : Nat} (hi : i < vs.length) : w.cell? ⟨G, i, none⟩ = some (vs.getD i undef) := by
  rw [h.blk.cell i, List.getD_eq_getElem?_getD]
  simp [hi]
/-- The steps of the first k lists. -/
def flL (ls : List (List Int)) (k : Nat) : List Int := (ls.take k).flatten
theorem flL_succ (ls : List (List Int)) (k : Nat) (h : k < ls.length) : flL ls (k + 1) = flL ls k ++ ls.getD k [] := by
  unfold flL
  rw [List.take_succ_eq_append_getElem h, List.flatten_append, List.getD_eq_getElem?_getD, List.getElem?_eq_getElem h]
  simp
theorem flL_le (ls : List (List Int)) (k : Nat) : (flL ls k).length ≤ ls.flatten.length := by
  unfold flL
  have : ls.flatten = (ls.take k).flatten ++ (ls.drop k).flatten := by rw [← List.flatten_append, List.take_append_drop]
  rw [this, List.length_append]
  omega
theorem flL_all (ls : List (List Int)) : flL ls ls.length = ls.flatten := by unfold flL; rw [List.take_length]
set_option maxHeartbeats 4000000 in
theorem concat8_c (G m n : Nat) (vs : List Value) (ls : List (List Int)) (W : World) (hL : Lb W G vs ls) (hn : n = vs.length) (hn2 : n ≤ 1000000000) (ht : ls.flatten.length ≤ 1000000000) :
    Calls Try.prog 28 #[.slice (some ⟨G, 0, none⟩) n m] W (GivesB ls.flatten W) := by
  have HL := Lib.hid hL
  have HT := Lib.hid ht
  have HN := Lib.hid hn
  have hlen : n = ls.length := hn.trans hL.len
  have HLEN := Lib.hid hlen
  obtain ⟨i0, hi, hz0, hz1, hz2⟩ := info_parts info8
  clear hL ht hn hlen
  go_enter Try.func28, Try.ntmps28
  go_wp2_with fail
  go_loopw [3, 11] (fun z i wr => ∃ k : Nat, k ≤ n ∧ i = .int .i64 (k : Int) ∧ z = .int .i64 ((flL ls k).length : Int) ∧ Hid (wr = W)) (fun _ i _ => n - (intOf i).toNat)
  case atStart => exact ⟨0, Nat.zero_le _, rfl, rfl, rfl⟩
  case round =>
    obtain ⟨k, hk, rfl, rfl, hw⟩ := hrel
    have hw2 := hw.out
    subst hw2
    clear hw
    by_cases hlt : k < n
    · have hc := HL.out.cell (show k < vs.length by have := HN.out; omega)
      have hs := flL_succ ls k (by have := HLEN.out; omega)
      have hle := flL_le ls (k + 1)
      have e1 : (flL ls (k + 1)).length = (flL ls k).length + (ls.getD k []).length := by rw [hs, List.length_append]
      obtain ⟨z1, hz1'⟩ : ∃ z1, z1 = (flL ls (k + 1)).length := ⟨_, rfl⟩
      have HZ1 := Lib.hid hz1'
      have hi2 : (k : Int) < (n : Int) := by omega
      obtain ⟨g, c, hf, -, -⟩ := HL.out.els k (show k < vs.length by have := HN.out; omega)
      · rw [hf] at hc
        generalize (ls.getD k []).length = q at *
        generalize (flL ls k).length = z0 at *
        have w1 : IntKind.i64.wrap ((z0 : Int) + (q : Int)) = (z1 : Int) := by have := HT.out; rw [IntWalk.i64_left]; unfold wrap64; omega
        have zn : ¬ ((z1 : Int) < 0) := by omega
        clear hs hle e1 hz1' hf
        go_wp2_with fail
        go_roundw
        case rel => exact ⟨k + 1, by omega, by go_num, by rw [← HZ1.out], (by first | exact Lib.hid rfl | exact Lib.hid trivial)⟩
        case measure => simp [intOf]; omega
    · obtain rfl : k = n := by omega
      obtain ⟨w0, rfl⟩ : ∃ w0 : World, w0 = wr := ⟨_, rfl⟩
      have hz := flL_le ls k
      have kg := grow8_n (flL ls k).length (by have := HT.out; omega) w0
      clear hz
      go_wp2_with (first | (go_at_call 32; (with_reducible refine kg.mono ?_); rintro e w2 ⟨v2, rfl, ho2, hb2⟩; have HO2 := Lib.hid ho2; have HB2 := Lib.hid hb2; clear ho2 hb2) | fail)
      clear kg
      go_loopw [6, 27] (fun z i wq => ∃ j : Nat, j ≤ k ∧ i = .int .i64 (j : Int) ∧ Hid (wq.ownsRow w0.heap.size 5 1 z (flL ls j).length ((flL ls j).map (Value.int .u8))) ∧ Hid (Below w0.heap.size w0 wq)) (fun _ i _ => k - (intOf i).toNat)
      case atStart => exact ⟨0, Nat.zero_le _, rfl, by simpa [flL] using HO2, HB2⟩
      case round =>
        obtain ⟨j, hj, rfl, hO, hB⟩ := hrel
        clear HO2 HB2
        by_cases hlt : j < k
        · have HLQ := Lib.hid (HL.out.call hB.out)
          have hjv : j < vs.length := by have := HN.out; omega
          have hc := HLQ.out.cell hjv
          have hs := flL_succ ls j (by have := HLEN.out; omega)
          have hle := flL_le ls (j + 1)
          have HS := Lib.hid hs
          have e1 : (flL ls (j + 1)).length = (flL ls j).length + (ls.getD j []).length := by rw [hs, List.length_append]
          have HE := Lib.hid e1
          have HLE := Lib.hid hle
          have hi2 : (j : Int) < (k : Int) := by omega
          obtain ⟨sj, c, hf, hcs, hsn⟩ := HLQ.out.els j hjv
          rcases sj with _ | p
          · obtain ⟨h0, rfl⟩ := hsn rfl
            rw [hf, h0] at hc
            have H0 := Lib.hid h0
            clear hs hle e1 hf h0 hjv hsn hcs
            go_wp2_with (at_builtin; refine wpList_append_own_none rfl _ _ 24 rfl w0.heap.size 5 i0 1 Try.underlying24 hi _ _ _ rfl hO.out rfl ?_)
            go_wp2_with fail
            go_roundw
            case rel => exact ⟨j + 1, by omega, by go_num, by rw [HS.out, H0.out, List.append_nil]; exact hO, hB⟩
            case measure => simp [intOf]; omega
          · rw [hf] at hc
            have HCS := Lib.hid (holdsB_list hcs)
            clear hs hle e1 hf hcs hjv hsn
            generalize hq : ls.getD j [] = q at *
            have HQ := Lib.hid hq
            clear hq
            go_wp2_with (first | (at_builtin; refine wpList_append_own _ rfl _ _ 24 rfl w0.heap.size 5 i0 (.int .u8 0) 1 1 Try.underlying24 hi hz0 hz1 hz2 rfl (by decide) _ _ _ rfl hO.out p q.length c (q.map (Value.int .u8)) rfl (by simp) HCS.out ?c2 ?c3 ?c4 ?c5 ?_))
            case c2 => exact one8 q
            case c3 => have := HE.out; have := HLE.out; have := HT.out; unfold maxLen; omega
            case c4 => have := HE.out; have := HLE.out; have := HT.out; omega
            case c5 => exact hB.out.size
            intro v' w8 hown8 hgrow8 _
            rw [← HE.out, ← List.map_append, ← HS.out] at hown8
            have HO8 := Lib.hid hown8
            have HB8 := Lib.hid (hB.out.grown hgrow8 hB.out.size (fun k hk => (hO.out.lt k hk).1))
            clear hown8 hgrow8
            go_wp2_with fail
            go_roundw
            case rel => exact ⟨j + 1, by omega, by go_num, HO8, HB8⟩
            case measure => simp [intOf]; omega
        · obtain rfl : j = k := by omega
          go_wp2_with fail
          go_ret
          have e := flL_all ls
          rw [← HLEN.out] at e
          exact ⟨_, rfl, by rw [← e]; exact hO.out, hB.out⟩
end Go.Proofs.Ytagfmmkhgggfmaa
