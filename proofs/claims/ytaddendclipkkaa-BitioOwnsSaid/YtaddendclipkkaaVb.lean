/-
  The reference's Bytes of layer 9; SameBytes.
-/
import Derived.Test.YtaddendclipkkaaVa
import Derived.Laws.BytesArg
set_option maxRecDepth 100000
namespace Go.Proofs.Ytaddendclipkkaa
open Go.RowKit

/-- What Bytes of the reference returns. -/
def VBytes (l : List Int) (w : World) (e : Ending) (w' : World) : Prop := ∃ s m, e = .returned (.slice s (Bi.enc l).length m) ∧ HoldsB w' s (Bi.enc l) ∧ Below w.heap.size w w'
theorem HoldsB.lastc {w : World} {s : Option Addr} {bs : List Int} (h : HoldsB w s bs) (hn : 0 < bs.length) : ∃ b off, s = some ⟨b, off, none⟩ ∧ w.cell? ⟨b, off + (bs.length - 1), none⟩ = some (.int .u8 (Bi.lst bs)) :=
  h.last (n := bs.length - 1) (by omega)
structure Vst (w : World) (l : List Int) (a : Nat) (bs : List Int) (v : Value) (W : World) : Prop where
  own : W.ownsRow w.heap.size 5 1 v bs.length (bs.map (Value.int .u8))
  below : Below w.heap.size w W
  eq : bs = (Bi.st (l.take a)).1
  full : a ≤ l.length → (Bi.st (l.take a)).2 = 0
  le : bs.length ≤ l.length
theorem st_le (l : List Int) (a : Nat) : (Bi.st (l.take a)).1.length ≤ l.length := Nat.le_trans (Bi.st_len _) (by simp; omega)
theorem pow8 {k : Nat} (h : k ≤ 8) : (1 : Int) ≤ 2 ^ k ∧ (2 : Int) ^ k ≤ 256 := by
  have e : (2 : Int) ^ k = ((2 ^ k : Nat) : Int) := by simp
  have h1 : 2 ^ k ≤ 2 ^ 8 := Nat.pow_le_pow_right (by omega) h
  have h2 : 0 < 2 ^ k := Nat.two_pow_pos k
  rw [e]; omega
theorem holdsI_own {w : World} {base n : Nat} {v : Value} {l : List Int} (h : w.ownsRow base 3 1 v n (l.map (Value.int .i64))) : ∃ s m, v = .slice s l.length m ∧ HoldsI w s l ∧ l.length ≤ m := by
  obtain ⟨_, (⟨rfl, rfl⟩ | ⟨g, m, pad, rfl, _, hr, hm⟩)⟩ := rowP_own h
  · exact ⟨none, 0, rfl, .inl rfl, Nat.zero_le _⟩
  · exact ⟨_, m, rfl, hr.holds, hm⟩
/-- What one byte more gives. -/
def Vnext (l : List Int) (a : Nat) (bs : List Int) (N : Nat) (Y : Int) : Prop :=
  bs ++ [Y] = (Bi.st (l.take (a + N))).1 ∧ (a + N ≤ l.length → (Bi.st (l.take (a + N))).2 = 0)
theorem vnext {w W : World} {l bs : List Int} {a N : Nat} {v : Value} (h : Vst w l a bs v W) (ha : a < l.length) (hN : Bi.wd bs = N) : Vnext l a bs N (Bi.hv (l.drop a) N) := by
  have := Bi.st_chunk ha (h.full (by omega))
  rw [← h.eq, hN] at this
  exact ⟨this.1.symm, this.2⟩
set_option maxHeartbeats 4000000 in
theorem vst_next {w W W2 : World} {l bs : List Int} {a N : Nat} {v v' : Value} {Y : Int} {X : Obj} (h : Vst w l a bs v W) (hn : Vnext l a bs N Y) (hown : W2.ownsRow w.heap.size 5 1 v' (bs.length + 1) (bs.map (Value.int .u8) ++ [.int .u8 Y])) (hg : (W.alloc X).grownBy W2 v.ownBlock) : Vst w l (a + N) (bs ++ [Y]) v' W2 :=
  ⟨by simpa using hown, (h.below.alloc h.below.size X).grown hg (by have := h.below.size; simp; omega) (fun k hk => (h.own.lt k hk).1), hn.1, hn.2, by rw [hn.1]; exact st_le _ _⟩
theorem vbytes_c (w : World) (B b : Nat) (l : List Int) (hV : Vr w B b l) (hl : Bi.bits l) (hc : l.length + 70000 ≤ 1000000000) : Calls Try.prog 24 #[.pointer (some ⟨b, 0, none⟩)] w (VBytes l w) := by
  obtain ⟨sv, h⟩ := hV
  have hlt := h.blk.lt
  have c0 : w.cell? ⟨b, 0, none⟩ = some (.bool true) := h.blk.cell 0
  have c1 : w.cell? ⟨b, 1, none⟩ = some sv := h.blk.cell 1
  obtain ⟨s, m, rfl, hH, hm⟩ := holdsI_own h.own
  have HH := Lib.hid hH
  clear h hH
  obtain ⟨i0, hi, hz0, hz1, hz2⟩ := info_parts info8
  go_enter Try.func24, Try.ntmps24
  go_wp2_with fail
  go_loopw [3, 4] (fun v at_ wr => ∃ (a : Nat) (bs : List Int), at_ = .int .i64 (a : Int) ∧ Vst w l a bs v wr ∧ a ≤ l.length + 8) (fun _ at_ _ => l.length - (intOf at_).toNat)
  case atStart => exact ⟨0, [], rfl, ⟨World.ownsRow_nil _ _ _ _, Below.refl _ _, rfl, fun _ => rfl, Nat.zero_le _⟩, by omega⟩
  case round =>
    obtain ⟨a, bs, rfl, hS, ha8⟩ := hrel
    have d0 : wr.cell? ⟨b, 1, none⟩ = some (.slice s l.length m) := (hS.below.cell (p := ⟨b, 1, none⟩) hlt).trans c1
    have hHr := HH.out.call hS.below
    obtain ⟨_, s3, m3, rfl, hB3, ⟨hm3, hm3'⟩, hs3⟩ := HoldsB.of_own hS.own
    have hbl := hS.le
    have hO := hS.own
    have hsz := hS.below.size
    have HS := Lib.hid hS
    clear hS c0 c1
    by_cases hlt2 : a < l.length
    · obtain ⟨g, off, rfl, hcells⟩ : ∃ g off, s = some ⟨g, off, none⟩ ∧ ∀ k (hk : k < l.length), wr.cell? ⟨g, off + k, none⟩ = some (.int .i64 l[k]) := by
        rcases hHr with rfl | ⟨g, off, rfl, hr⟩
        · simp at hlt2
        · exact ⟨g, off, rfl, hr⟩
      have hld : Bi.bits (l.drop a) := fun x hx => hl x (List.mem_of_mem_drop hx)
      rcases Nat.eq_zero_or_pos bs.length with hb0 | hb1
      · obtain rfl := List.length_eq_zero_iff.1 hb0
        have HWD : Hid (Bi.wd [] = 8) := rfl
        clear hb0
        go_wp2_with fail
        go_loop [4, 6, 7] (fun at_ v_ k_ => ∃ k : Nat, k ≤ 8 ∧ at_ = .int .i64 ((a + k : Nat) : Int) ∧ v_ = .int .i64 (Bi.hv (l.drop a) k) ∧ k_ = .int .i64 (k : Int)) (fun _ _ k_ => 8 - (intOf k_).toNat)
        case atStart => exact ⟨0, by omega, rfl, rfl, rfl⟩
        case round =>
          obtain ⟨k, hk, rfl, rfl, rfl⟩ := hrel
          have hvb := Bi.hv_bd hld k
          have hp2 := pow8 (k := k) (by omega)
          by_cases hkn : k < 8
          · by_cases hin : a + k < l.length
            · have hx : Hid (Bi.hv (l.drop a) (k + 1) = Bi.hv (l.drop a) k * 2 + l[a + k]) := by
                show 2 * Bi.hv (l.drop a) k + (l.drop a).getD k 0 = _
                rw [List.getD_eq_getElem?_getD, List.getElem?_drop, List.getElem?_eq_getElem hin, Int.mul_comm]
                rfl
              have hbit := hl l[a + k] (List.getElem_mem _)
              unfold Bi.bit at hbit
              have hbb : 0 ≤ l[a + k] ∧ l[a + k] ≤ 1 := by omega
              clear hbit
              go_wp2_with fail
              go_round
              case rel => exact ⟨k + 1, by omega, by go_num, by rw [hx.out], by go_num⟩
              case measure => simp [intOf]; omega
            · have hx : Hid (Bi.hv (l.drop a) (k + 1) = Bi.hv (l.drop a) k * 2) := by
                show 2 * Bi.hv (l.drop a) k + (l.drop a).getD k 0 = _
                rw [List.getD_eq_getElem?_getD, List.getElem?_drop, List.getElem?_eq_none (by omega), Int.mul_comm]
                exact Int.add_zero _
              go_wp2_with fail
              go_round
              case rel => exact ⟨k + 1, by omega, by go_num, by rw [hx.out], by go_num⟩
              case measure => simp [intOf]; omega
          · obtain rfl : k = 8 := by omega
            have hvu : IntKind.u8.wrap (Bi.hv (l.drop a) 8) = Bi.hv (l.drop a) 8 := by rw [IntKind.wrap_u8]; omega
            have hmod : Bi.hv (l.drop a) 8 % 256 = Bi.hv (l.drop a) 8 := Int.emod_eq_of_lt (by omega) (by omega)
            have HY : Hid (Vnext l a [] 8 (Bi.hv (l.drop a) 8)) := vnext HS.out hlt2 HWD.out
            generalize Bi.hv (l.drop a) 8 = Y at *
            have hbl1 : 0 < l.length := by omega
            go_wp2_with (first | (at_builtin; refine wpList_append_own_at _ rfl _ _ 22 rfl w.heap.size 5 i0 (.int .u8 0) 1 1 Try.underlying22 hi hz0 hz1 hz2 rfl (by decide) _ _ _ rfl (own_below hO ((Below.refl _ _).alloc (Nat.le_refl _) _)) ⟨wr.heap.size, 0, none⟩ 1 1 [.int .u8 Y] rfl rfl (one_new8 _ _ _) (oneOne8 _) (by unfold maxLen; first | omega | (simp; omega)) (by first | omega | (simp; omega)) (by simp; omega) ?_))
            intro v' w2 hown hgrow _ hat
            have hnx := vst_next HS.out HY.out (by simpa using hown) hgrow
            have HNX := Lib.hid hnx
            clear hnx hown hgrow hat hmod hvu
            go_wp2_with fail
            go_roundw
            case rel => exact ⟨a + 8, _, by go_num, HNX.out, by omega⟩
            case measure => simp [intOf]; omega
      · obtain ⟨b1, off1, rfl, hlast⟩ := hB3.lastc hb1
        obtain ⟨n, hn⟩ : ∃ n, bs.length = n + 1 := ⟨bs.length - 1, by omega⟩
        rw [hn, Nat.add_sub_cancel] at hlast
        by_cases hff : Bi.lst bs = 255
        · have HWD : Hid (Bi.wd bs = 7) := by show _ = _; simp [Bi.wd, hff]
          rw [hff] at hlast
          have HLN := Lib.hid hn
          have hnl : n + 1 ≤ l.length := by omega
          have hnm : n + 1 ≤ m3 := by omega
          rw [hn] at hO
          rw [hn]
          clear hB3 hb1 hn hff hHr
          go_wp2_with fail
          go_loop [4, 6, 7] (fun at_ v_ k_ => ∃ k : Nat, k ≤ 7 ∧ at_ = .int .i64 ((a + k : Nat) : Int) ∧ v_ = .int .i64 (Bi.hv (l.drop a) k) ∧ k_ = .int .i64 (k : Int)) (fun _ _ k_ => 7 - (intOf k_).toNat)
          case atStart => exact ⟨0, by omega, rfl, rfl, rfl⟩
          case round =>
            obtain ⟨k, hk, rfl, rfl, rfl⟩ := hrel
            have hvb := Bi.hv_bd hld k
            have hp2 := pow8 (k := k) (by omega)
            by_cases hkn : k < 7
            · by_cases hin : a + k < l.length
              · have hx : Hid (Bi.hv (l.drop a) (k + 1) = Bi.hv (l.drop a) k * 2 + l[a + k]) := by
                  show 2 * Bi.hv (l.drop a) k + (l.drop a).getD k 0 = _
                  rw [List.getD_eq_getElem?_getD, List.getElem?_drop, List.getElem?_eq_getElem hin, Int.mul_comm]
                  rfl
                have hbit := hl l[a + k] (List.getElem_mem _)
                unfold Bi.bit at hbit
                have hbb : 0 ≤ l[a + k] ∧ l[a + k] ≤ 1 := by omega
                clear hbit
                go_wp2_with fail
                go_round
                case rel => exact ⟨k + 1, by omega, by go_num, by rw [hx.out], by go_num⟩
                case measure => simp [intOf]; omega
              · have hx : Hid (Bi.hv (l.drop a) (k + 1) = Bi.hv (l.drop a) k * 2) := by
                  show 2 * Bi.hv (l.drop a) k + (l.drop a).getD k 0 = _
                  rw [List.getD_eq_getElem?_getD, List.getElem?_drop, List.getElem?_eq_none (by omega), Int.mul_comm]
                  exact Int.add_zero _
                go_wp2_with fail
                go_round
                case rel => exact ⟨k + 1, by omega, by go_num, by rw [hx.out], by go_num⟩
                case measure => simp [intOf]; omega
            · obtain rfl : k = 7 := by omega
              have hvu : IntKind.u8.wrap (Bi.hv (l.drop a) 7) = Bi.hv (l.drop a) 7 := by rw [IntKind.wrap_u8]; omega
              have hmod : Bi.hv (l.drop a) 7 % 256 = Bi.hv (l.drop a) 7 := Int.emod_eq_of_lt (by omega) (by omega)
              have HY : Hid (Vnext l a bs 7 (Bi.hv (l.drop a) 7)) := vnext HS.out hlt2 HWD.out
              generalize Bi.hv (l.drop a) 7 = Y at *
              have hbl1 : 0 < l.length := by omega
              go_wp2_with (first | (at_builtin; refine wpList_append_own_at _ rfl _ _ 22 rfl w.heap.size 5 i0 (.int .u8 0) 1 1 Try.underlying22 hi hz0 hz1 hz2 rfl (by decide) _ _ _ rfl (own_below hO ((Below.refl _ _).alloc (Nat.le_refl _) _)) ⟨wr.heap.size, 0, none⟩ 1 1 [.int .u8 Y] rfl rfl (one_new8 _ _ _) (oneOne8 _) (by unfold maxLen; first | omega | (simp; omega)) (by first | omega | (simp; omega)) (by simp; omega) ?_))
              intro v' w2 hown hgrow _ hat
              have hnx := vst_next HS.out HY.out (by rw [HLN.out]; exact hown) hgrow
              have HNX := Lib.hid hnx
              clear hnx hown hgrow hat hmod hvu
              go_wp2_with fail
              go_roundw
              case rel => exact ⟨a + 7, _, by go_num, HNX.out, by omega⟩
              case measure => simp [intOf]; omega
        · have HWD : Hid (Bi.wd bs = 8) := by show _ = _; simp [Bi.wd, hff]
          have hq : (Bi.lst bs == 255) = false := by simpa using hff
          have HLN := Lib.hid hn
          have hnl : n + 1 ≤ l.length := by omega
          have hnm : n + 1 ≤ m3 := by omega
          rw [hn] at hO
          rw [hn]
          clear hB3 hb1 hn hff hHr
          go_wp2_with fail
          go_loop [4, 6, 7] (fun at_ v_ k_ => ∃ k : Nat, k ≤ 8 ∧ at_ = .int .i64 ((a + k : Nat) : Int) ∧ v_ = .int .i64 (Bi.hv (l.drop a) k) ∧ k_ = .int .i64 (k : Int)) (fun _ _ k_ => 8 - (intOf k_).toNat)
          case atStart => exact ⟨0, by omega, rfl, rfl, rfl⟩
          case round =>
            obtain ⟨k, hk, rfl, rfl, rfl⟩ := hrel
            have hvb := Bi.hv_bd hld k
            have hp2 := pow8 (k := k) (by omega)
            by_cases hkn : k < 8
            · by_cases hin : a + k < l.length
              · have hx : Hid (Bi.hv (l.drop a) (k + 1) = Bi.hv (l.drop a) k * 2 + l[a + k]) := by
                  show 2 * Bi.hv (l.drop a) k + (l.drop a).getD k 0 = _
                  rw [List.getD_eq_getElem?_getD, List.getElem?_drop, List.getElem?_eq_getElem hin, Int.mul_comm]
                  rfl
                have hbit := hl l[a + k] (List.getElem_mem _)
                unfold Bi.bit at hbit
                have hbb : 0 ≤ l[a + k] ∧ l[a + k] ≤ 1 := by omega
                clear hbit
                go_wp2_with fail
                go_round
                case rel => exact ⟨k + 1, by omega, by go_num, by rw [hx.out], by go_num⟩
                case measure => simp [intOf]; omega
              · have hx : Hid (Bi.hv (l.drop a) (k + 1) = Bi.hv (l.drop a) k * 2) := by
                  show 2 * Bi.hv (l.drop a) k + (l.drop a).getD k 0 = _
                  rw [List.getD_eq_getElem?_getD, List.getElem?_drop, List.getElem?_eq_none (by omega), Int.mul_comm]
                  exact Int.add_zero _
                go_wp2_with fail
                go_round
                case rel => exact ⟨k + 1, by omega, by go_num, by rw [hx.out], by go_num⟩
                case measure => simp [intOf]; omega
            · obtain rfl : k = 8 := by omega
              have hvu : IntKind.u8.wrap (Bi.hv (l.drop a) 8) = Bi.hv (l.drop a) 8 := by rw [IntKind.wrap_u8]; omega
              have hmod : Bi.hv (l.drop a) 8 % 256 = Bi.hv (l.drop a) 8 := Int.emod_eq_of_lt (by omega) (by omega)
              have HY : Hid (Vnext l a bs 8 (Bi.hv (l.drop a) 8)) := vnext HS.out hlt2 HWD.out
              generalize Bi.hv (l.drop a) 8 = Y at *
              have hbl1 : 0 < l.length := by omega
              go_wp2_with (first | (at_builtin; refine wpList_append_own_at _ rfl _ _ 22 rfl w.heap.size 5 i0 (.int .u8 0) 1 1 Try.underlying22 hi hz0 hz1 hz2 rfl (by decide) _ _ _ rfl (own_below hO ((Below.refl _ _).alloc (Nat.le_refl _) _)) ⟨wr.heap.size, 0, none⟩ 1 1 [.int .u8 Y] rfl rfl (one_new8 _ _ _) (oneOne8 _) (by unfold maxLen; first | omega | (simp; omega)) (by first | omega | (simp; omega)) (by simp; omega) ?_))
              intro v' w2 hown hgrow _ hat
              have hnx := vst_next HS.out HY.out (by rw [HLN.out]; exact hown) hgrow
              have HNX := Lib.hid hnx
              clear hnx hown hgrow hat hmod hvu
              go_wp2_with fail
              go_roundw
              case rel => exact ⟨a + 8, _, by go_num, HNX.out, by omega⟩
              case measure => simp [intOf]; omega
    · have hE : Hid (Bi.enc l = Bi.fin bs) := by
        show Bi.fin _ = _
        rw [HS.out.eq, List.take_of_length_le (by omega)]
      rcases Nat.eq_zero_or_pos bs.length with hb0 | hb1
      · obtain rfl := List.length_eq_zero_iff.1 hb0
        clear hb0
        go_wp2_with fail
        go_ret
        exact ⟨s3, m3, by rw [hE.out]; rfl, by rw [hE.out]; exact hB3, HS.out.below⟩
      · obtain ⟨b1, off1, rfl, hlast⟩ := hB3.lastc hb1
        obtain ⟨n, hn⟩ : ∃ n, bs.length = n + 1 := ⟨bs.length - 1, by omega⟩
        rw [hn, Nat.add_sub_cancel] at hlast
        by_cases hff : Bi.lst bs = 255
        · have hE2 : Hid (Bi.enc l = bs ++ [0]) := by show _ = _; rw [hE.out, Bi.fin, if_pos hff]
          rw [hff] at hlast
          have HLN := Lib.hid hn
          have hnl : n + 1 ≤ l.length := by omega
          have hnm : n + 1 ≤ m3 := by omega
          rw [hn] at hO
          rw [hn]
          clear hB3 hb1 hn hff
          go_wp2_with (first | (at_builtin; refine wpList_append_own_at _ rfl _ _ 22 rfl w.heap.size 5 i0 (.int .u8 0) 1 1 Try.underlying22 hi hz0 hz1 hz2 rfl (by decide) _ _ _ rfl (own_below hO ((Below.refl _ _).alloc (Nat.le_refl _) _)) ⟨wr.heap.size, 0, none⟩ 1 1 [.int .u8 0] rfl rfl (one_new8 _ _ _) (oneOne8 _) (by unfold maxLen; omega) (by omega) (by simp; omega) ?_))
          intro v' w2 hown hgrow _ hat
          have hbw : Below w.heap.size w w2 := (HS.out.below.alloc hsz _).grown hgrow (by simp; omega) (fun k hk => (hO.lt k hk).1)
          have hown2 : w2.ownsRow w.heap.size 5 1 v' (n + 1 + 1) ((bs ++ [0]).map (Value.int .u8)) := by rw [List.map_append]; exact hown
          obtain ⟨hl5, s5, m5, rfl, hH5, _⟩ := HoldsB.of_own hown2
          have HL5 := Lib.hid hl5
          have HH5 := Lib.hid hH5
          have HB5 := Lib.hid hbw
          clear hown hown2 hgrow hat hl5 hH5 hbw
          go_wp2_with fail
          go_ret
          exact ⟨s5, m5, by rw [hE2.out]; rfl, by rw [hE2.out]; exact HH5.out, HB5.out⟩
        · have hE2 : Hid (Bi.enc l = bs) := by show _ = _; rw [hE.out, Bi.fin, if_neg hff]
          have hq : (Bi.lst bs == 255) = false := by simpa using hff
          have HLN := Lib.hid hn
          have hnl : n + 1 ≤ l.length := by omega
          have hnm : n + 1 ≤ m3 := by omega
          have HB3 := Lib.hid hB3
          rw [hn]
          clear hb1 hn hff hB3
          go_wp2_with fail
          go_ret
          exact ⟨_, m3, by rw [hE2.out, HLN.out]; rfl, by rw [hE2.out]; exact HB3.out, HS.out.below⟩
theorem conv_b (W : World) (l : List Int) (s : Option Addr) (m : Nat) (h : HoldsB W s l) : (convert 22 9 (.slice s l.length m)).run Try.prog W = .ok (.string (strOfNums l)) W := by
  rcases h with rfl | ⟨b, off, rfl, hr⟩
  · cases s with
    | none => exact run_convert_bytes_nil W 22 5 Try.underlying22 Try.underlying5 _ _ 9 Try.underlying9
    | some ad =>
      rw [run_convert_bytes_string W 22 9 5 _ _ _ Try.underlying22 Try.underlying5 Try.underlying9]
      have hl : (loadCells ad 0).run Try.prog W = .ok (([] : List Int).map (Value.int .u8)).toArray W := by
        have := run_loadCells_list (P := Try.prog) W ad [] (fun j v hj => by simp at hj)
        simpa using this
      rw [List.length_nil, run_bytesToString W ad 0 m [] hl]
      rfl
  · exact run_convert_bytes_arg W 22 5 Try.underlying22 Try.underlying5 b off l.length m l rfl (fun i hi => by rw [hr i hi]; simp [List.getD_eq_getElem?_getD, hi]) 9 Try.underlying9
theorem same_t (w : World) (l : List Int) (s t : Option Addr) (n m k : Nat) (hn : n = l.length) (ha : HoldsB w s l) (hb : HoldsB w t l) :
    Calls Try.prog 23 #[.slice s n m, .slice t n k] w fun e w' => e = .returned (.bool true) ∧ w = w' := by
  subst hn
  have h1 := conv_b w l s m ha
  have h2 := conv_b w l t k hb
  generalize l.length = n at *
  clear ha hb
  go_enter Try.func23, Try.ntmps23
  go_wp2_with fail
  go_ret
  exact ⟨rfl, rfl⟩
end Go.Proofs.Ytaddendclipkkaa
