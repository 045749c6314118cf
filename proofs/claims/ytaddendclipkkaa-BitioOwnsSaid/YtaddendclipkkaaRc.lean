/-
  The code's reader of layer 9: Align.
-/
import Derived.Test.YtaddendclipkkaaRb
set_option maxRecDepth 100000
namespace Go.Proofs.Ytaddendclipkkaa
open Go.RowKit

/-- What Align gives: the number, the error, the place. -/
def alR (bs : List Int) (t : Nat) : Int × Int × Nat :=
  if t % 8 = 0 then
    (if Bi.lst (bs.take (t / 8)) = 255 then (if t / 8 = bs.length then (0, 7, t) else if bs.getD (t / 8) 0 = 0 then (((t / 8 + 1 : Nat) : Int), 0, 8 * (t / 8 + 1)) else (0, 8, t)) else (((t / 8 : Nat) : Int), 0, t))
  else if bs.getD (t / 8) 0 % 2 ^ (8 - t % 8) = 0 then (((t / 8 + 1 : Nat) : Int), 0, 8 * (t / 8 + 1)) else (0, 8, t)
theorem and_low {x : Int} {q : Nat} (h : 0 ≤ x ∧ x ≤ 255) (hq : q ≤ 7) : bits .and .u8 x (2 ^ q - 1) = x % 2 ^ q := by
  obtain ⟨k, rfl⟩ : ∃ k : Nat, x = k := ⟨x.toNat, by omega⟩
  have hp := pow8 (k := q) (by omega)
  have e : (2 : Int) ^ q = ((2 ^ q : Nat) : Int) := by simp
  have e2 : (2 : Int) ^ q - 1 = ((2 ^ q - 1 : Nat) : Int) := by rw [e] at hp ⊢; omega
  have h7 : 2 ^ q ≤ 2 ^ 7 := Nat.pow_le_pow_right (by omega) hq
  rw [e2, u8_and_nat _ _ (by omega) (by omega), Nat.and_two_pow_sub_one_eq_mod, e]
  omega
theorem al_b (w : World) (B a : Nat) (bs : List Int) (t k q : Nat) (hR : Rd w B a bs t) (hl : bs.length ≤ 100000000) (ht : t + q = 8 * k + 8) (hq : 0 < q) (hq7 : q < 8) (hk : k < bs.length) (hx : 0 ≤ bs[k] ∧ bs[k] ≤ 255) (hz : bs[k] % 2 ^ q ≠ 0) :
    Calls Try.prog 47 #[.pointer (some ⟨a, 0, none⟩)] w (RGives B a bs t 0 8 w) := by
  have HR := Lib.hid hR
  obtain ⟨sv, h⟩ := hR
  have c0 : w.cell? ⟨a, 0, none⟩ = some (.pointer (some ⟨a, 0, none⟩)) := h.blk.cell 0
  have c1 : w.cell? ⟨a, 1, none⟩ = some sv := h.blk.cell 1
  have c2 : w.cell? ⟨a, 2, none⟩ = some (.int .i64 t) := h.blk.cell 2
  have f := h.blk.free
  obtain ⟨_, s, m, rfl, hH, ⟨hm, _⟩, _⟩ := HoldsB.of_own h.own
  obtain ⟨b, rfl, hc8, _, ⟨cs, hB8⟩, _⟩ := own_at h.own k hk
  have hcell : w.cell? ⟨b, k, none⟩ = some (.int .u8 bs[k]) := by rw [hc8]; simp
  have hne : a ≠ b := h.blk.ne hB8 (by decide)
  have hne' : b ≠ a := fun e => hne e.symm
  clear hc8 hB8
  have e1 : ((t : Int) + 7) / 8 = (k : Int) + 1 := by omega
  have e2 : 8 * ((k : Int) + 1) - (t : Int) = (q : Int) := by omega
  have e3 : (0 : Int) < (q : Int) := by omega
  have e31 : decide ((0 : Int) < (q : Int)) = true := decide_eq_true e3
  have hp := pow8 (k := q) (by omega)
  have hp7 : (2 : Int) ^ q ≤ 128 := by
    have e : (2 : Int) ^ q = ((2 ^ q : Nat) : Int) := by simp
    have h7 : 2 ^ q ≤ 2 ^ 7 := Nat.pow_le_pow_right (by omega) (by omega)
    rw [e]; omega
  have ha := and_low (q := q) hx (by omega)
  have e4 : IntKind.u8.wrap (2 ^ q) = 2 ^ q := by rw [IntKind.wrap_u8]; omega
  have e5 : IntKind.u8.wrap (2 ^ q - 1) = 2 ^ q - 1 := by rw [IntKind.wrap_u8]; omega
  have e6 : IntKind.i64.wrap (k : Int) = (k : Int) := IntWalk.i64_in _ (by omega)
  have e7 : IntKind.i64.wrap ((k : Int) + 1 - 1) = (k : Int) := by rw [show (k : Int) + 1 - 1 = k by omega]; exact e6
  have e8 : (k : Int) < (bs.length : Int) := by omega
  have e9 : (0 : Int) ≤ (k : Int) := by omega
  have hzz : (bs[k] % 2 ^ q != 0) = true := by simpa using hz
  have ht1 : t ≤ 800000008 := by omega
  clear h ht f hz
  go_enter Try.func47, Try.ntmps47
  go_wp2_with (first | (go_at_call 48; refine (rmade_y _ _ c0).mono ?_; rintro e wn ⟨rfl, rfl⟩))
  go_quiet (fail)
  go_wp2_with fail
  go_ret2
  exact ⟨rfl, HR.out.drewN _⟩
theorem al_z (w : World) (B a : Nat) (bs : List Int) (t k q : Nat) (hR : Rd w B a bs t) (hl : bs.length ≤ 100000000) (ht : t + q = 8 * k + 8) (hq : 0 < q) (hq7 : q < 8) (hk : k < bs.length) (hx : 0 ≤ bs[k] ∧ bs[k] ≤ 255) (hz : bs[k] % 2 ^ q = 0) (hs : Bi.lst (bs.take (k + 1)) ≠ 255) :
    Calls Try.prog 47 #[.pointer (some ⟨a, 0, none⟩)] w (RGives B a bs (8 * (k + 1)) ((k : Int) + 1) 0 w) := by
  have HR := Lib.hid hR
  obtain ⟨sv, h⟩ := hR
  have c0 : w.cell? ⟨a, 0, none⟩ = some (.pointer (some ⟨a, 0, none⟩)) := h.blk.cell 0
  have c1 : w.cell? ⟨a, 1, none⟩ = some sv := h.blk.cell 1
  have c2 : w.cell? ⟨a, 2, none⟩ = some (.int .i64 t) := h.blk.cell 2
  have f := h.blk.free
  obtain ⟨_, s, m, rfl, hH, ⟨hm, _⟩, _⟩ := HoldsB.of_own h.own
  obtain ⟨b, rfl, hc8, _, ⟨cs, hB8⟩, _⟩ := own_at h.own k hk
  have hcell : w.cell? ⟨b, k, none⟩ = some (.int .u8 bs[k]) := by rw [hc8]; simp
  have hne : a ≠ b := h.blk.ne hB8 (by decide)
  have hne' : b ≠ a := fun e => hne e.symm
  clear hc8 hB8
  have e1 : ((t : Int) + 7) / 8 = (k : Int) + 1 := by omega
  have e2 : 8 * ((k : Int) + 1) - (t : Int) = (q : Int) := by omega
  have e3 : (0 : Int) < (q : Int) := by omega
  have e31 : decide ((0 : Int) < (q : Int)) = true := decide_eq_true e3
  have hp := pow8 (k := q) (by omega)
  have hp7 : (2 : Int) ^ q ≤ 128 := by
    have e : (2 : Int) ^ q = ((2 ^ q : Nat) : Int) := by simp
    have h7 : 2 ^ q ≤ 2 ^ 7 := Nat.pow_le_pow_right (by omega) (by omega)
    rw [e]; omega
  have ha := and_low (q := q) hx (by omega)
  have e4 : IntKind.u8.wrap (2 ^ q) = 2 ^ q := by rw [IntKind.wrap_u8]; omega
  have e5 : IntKind.u8.wrap (2 ^ q - 1) = 2 ^ q - 1 := by rw [IntKind.wrap_u8]; omega
  have e6 : IntKind.i64.wrap (k : Int) = (k : Int) := IntWalk.i64_in _ (by omega)
  have e7 : IntKind.i64.wrap ((k : Int) + 1 - 1) = (k : Int) := by rw [show (k : Int) + 1 - 1 = k by omega]; exact e6
  have e8 : (k : Int) < (bs.length : Int) := by omega
  have e9 : (0 : Int) ≤ (k : Int) := by omega
  have hzz : (bs[k] % 2 ^ q != 0) = false := by simpa using hz
  have ht1 : t ≤ 800000008 := by omega
  have hst := fun (W : World) (hb : HoldsB W (some ⟨b, 0, none⟩) bs) => stuffed_k (bs.take (k + 1)) (k + 1) (by simp; omega) (some ⟨b, 0, none⟩) m W (hb.take (k + 1)) (by omega)
  have hsf : sfB (bs.take (k + 1)) = false := by simpa [sfB] using hs
  rw [hsf] at hst
  have hHn := fun nq => hst _ (hH.call (below_drewN w nq))
  have HST := Lib.hid hHn
  clear h ht hz hst hsf hs hHn
  go_enter Try.func47, Try.ntmps47
  go_wp2_with (first | (go_at_call 48; refine (rmade_y _ _ c0).mono ?_; rintro e wn ⟨rfl, rfl⟩))
  go_quiet (fail)
  have HT := HST.out nq
  rw [e1]
  clear e1 e2 e7
  go_wp2_with (first | (go_at_call 49; refine HT.mono ?_; rintro e wn ⟨rfl, rfl⟩))
  go_ret2
  exact ⟨rfl, rget_end HR.out nq _ _ (by omega)⟩
theorem al_n (w : World) (B a : Nat) (bs : List Int) (t n : Nat) (hR : Rd w B a bs t) (hl : bs.length ≤ 100000000) (ht : t = 8 * n) (hn : n ≤ bs.length) (hs : Bi.lst (bs.take n) ≠ 255) :
    Calls Try.prog 47 #[.pointer (some ⟨a, 0, none⟩)] w (RGives B a bs t n 0 w) := by
  have HR := Lib.hid hR
  obtain ⟨sv, h⟩ := hR
  have c0 : w.cell? ⟨a, 0, none⟩ = some (.pointer (some ⟨a, 0, none⟩)) := h.blk.cell 0
  have c1 : w.cell? ⟨a, 1, none⟩ = some sv := h.blk.cell 1
  have c2 : w.cell? ⟨a, 2, none⟩ = some (.int .i64 t) := h.blk.cell 2
  have f := h.blk.free
  obtain ⟨_, s, m, rfl, hH, ⟨hm, _⟩, _⟩ := HoldsB.of_own h.own
  have e1 : ((t : Int) + 7) / 8 = (n : Int) := by omega
  have e2 : 8 * (n : Int) - (t : Int) = 0 := by omega
  have ht1 : t ≤ 800000008 := by omega
  have hst := fun (W : World) (hb : HoldsB W s bs) => stuffed_k (bs.take (n)) (n) (by simp; omega) s m W (hb.take (n)) (by omega)
  have hsf : sfB (bs.take (n)) = false := by simpa [sfB] using hs
  rw [hsf] at hst
  have hHn := fun nq => hst _ (hH.call (below_drewN w nq))
  have HST := Lib.hid hHn
  clear h ht hst hsf hs hHn
  go_enter Try.func47, Try.ntmps47
  go_wp2_with (first | (go_at_call 48; refine (rmade_y _ _ c0).mono ?_; rintro e wn ⟨rfl, rfl⟩))
  go_quiet (fail)
  have HT := HST.out nq
  rw [e1]
  clear e1
  go_wp2_with (first | (go_at_call 49; refine HT.mono ?_; rintro e wn ⟨rfl, rfl⟩))
  go_ret2
  exact ⟨rfl, rget_end HR.out nq _ _ (by omega)⟩
theorem al_t (w : World) (B a : Nat) (bs : List Int) (t n : Nat) (hR : Rd w B a bs t) (hl : bs.length ≤ 100000000) (ht : t = 8 * n) (hn : n = bs.length) (hs : Bi.lst (bs.take n) = 255) :
    Calls Try.prog 47 #[.pointer (some ⟨a, 0, none⟩)] w (RGives B a bs t 0 7 w) := by
  have HR := Lib.hid hR
  obtain ⟨sv, h⟩ := hR
  have c0 : w.cell? ⟨a, 0, none⟩ = some (.pointer (some ⟨a, 0, none⟩)) := h.blk.cell 0
  have c1 : w.cell? ⟨a, 1, none⟩ = some sv := h.blk.cell 1
  have c2 : w.cell? ⟨a, 2, none⟩ = some (.int .i64 t) := h.blk.cell 2
  have f := h.blk.free
  obtain ⟨_, s, m, rfl, hH, ⟨hm, _⟩, _⟩ := HoldsB.of_own h.own
  have e1 : ((t : Int) + 7) / 8 = (n : Int) := by omega
  have e2 : 8 * (n : Int) - (t : Int) = 0 := by omega
  have ht1 : t ≤ 800000008 := by omega
  have hst := fun (W : World) (hb : HoldsB W s bs) => stuffed_k (bs.take (n)) (n) (by simp; omega) s m W (hb.take (n)) (by omega)
  have hsf : sfB (bs.take (n)) = true := by simpa [sfB] using hs
  rw [hsf] at hst
  have hHn := fun nq => hst _ (hH.call (below_drewN w nq))
  have HST := Lib.hid hHn
  clear h ht hst hsf hs hHn
  subst hn
  go_enter Try.func47, Try.ntmps47
  go_wp2_with (first | (go_at_call 48; refine (rmade_y _ _ c0).mono ?_; rintro e wn ⟨rfl, rfl⟩))
  go_quiet (fail)
  have HT := HST.out nq
  rw [e1]
  clear e1
  go_wp2_with (first | (go_at_call 49; refine HT.mono ?_; rintro e wn ⟨rfl, rfl⟩))
  go_ret2
  exact ⟨rfl, HR.out.drewN _⟩
theorem al_s (w : World) (B a : Nat) (bs : List Int) (t k : Nat) (hR : Rd w B a bs t) (hl : bs.length ≤ 100000000) (ht : t = 8 * k) (hk : k < bs.length) (hs : Bi.lst (bs.take k) = 255) (hx : bs[k] ≠ 0) :
    Calls Try.prog 47 #[.pointer (some ⟨a, 0, none⟩)] w (RGives B a bs t 0 8 w) := by
  have HR := Lib.hid hR
  obtain ⟨sv, h⟩ := hR
  have c0 : w.cell? ⟨a, 0, none⟩ = some (.pointer (some ⟨a, 0, none⟩)) := h.blk.cell 0
  have c1 : w.cell? ⟨a, 1, none⟩ = some sv := h.blk.cell 1
  have c2 : w.cell? ⟨a, 2, none⟩ = some (.int .i64 t) := h.blk.cell 2
  have f := h.blk.free
  obtain ⟨_, s, m, rfl, hH, ⟨hm, _⟩, _⟩ := HoldsB.of_own h.own
  obtain ⟨b, rfl, hc8, _, ⟨cs, hB8⟩, _⟩ := own_at h.own k hk
  have hcell : w.cell? ⟨b, k, none⟩ = some (.int .u8 bs[k]) := by rw [hc8]; simp
  have hne : a ≠ b := h.blk.ne hB8 (by decide)
  have hne' : b ≠ a := fun e => hne e.symm
  clear hc8 hB8
  have e1 : ((t : Int) + 7) / 8 = (k : Int) := by omega
  have e2 : 8 * (k : Int) - (t : Int) = 0 := by omega
  have e8 : ((k : Int) == (bs.length : Int)) = false := by simp; omega
  have e9 : (bs[k] != 0) = true := by simpa using hx
  have ht1 : t ≤ 800000008 := by omega
  have hst := fun (W : World) (hb : HoldsB W (some ⟨b, 0, none⟩) bs) => stuffed_k (bs.take (k)) (k) (by simp; omega) (some ⟨b, 0, none⟩) m W (hb.take (k)) (by omega)
  have hsf : sfB (bs.take (k)) = true := by simpa [sfB] using hs
  rw [hsf] at hst
  have hHn := fun nq => hst _ (hH.call (below_drewN w nq))
  have HST := Lib.hid hHn
  clear h ht hst hsf hs hHn hx
  go_enter Try.func47, Try.ntmps47
  go_wp2_with (first | (go_at_call 48; refine (rmade_y _ _ c0).mono ?_; rintro e wn ⟨rfl, rfl⟩))
  go_quiet (fail)
  have HT := HST.out nq
  rw [e1]
  clear e1
  go_wp2_with (first | (go_at_call 49; refine HT.mono ?_; rintro e wn ⟨rfl, rfl⟩))
  go_ret2
  exact ⟨rfl, HR.out.drewN _⟩
theorem al_k (w : World) (B a : Nat) (bs : List Int) (t k : Nat) (hR : Rd w B a bs t) (hl : bs.length ≤ 100000000) (ht : t = 8 * k) (hk : k < bs.length) (hs : Bi.lst (bs.take k) = 255) (hx : bs[k] = 0) :
    Calls Try.prog 47 #[.pointer (some ⟨a, 0, none⟩)] w (RGives B a bs (8 * (k + 1)) ((k : Int) + 1) 0 w) := by
  have HR := Lib.hid hR
  obtain ⟨sv, h⟩ := hR
  have c0 : w.cell? ⟨a, 0, none⟩ = some (.pointer (some ⟨a, 0, none⟩)) := h.blk.cell 0
  have c1 : w.cell? ⟨a, 1, none⟩ = some sv := h.blk.cell 1
  have c2 : w.cell? ⟨a, 2, none⟩ = some (.int .i64 t) := h.blk.cell 2
  have f := h.blk.free
  obtain ⟨_, s, m, rfl, hH, ⟨hm, _⟩, _⟩ := HoldsB.of_own h.own
  obtain ⟨b, rfl, hc8, _, ⟨cs, hB8⟩, _⟩ := own_at h.own k hk
  have hcell : w.cell? ⟨b, k, none⟩ = some (.int .u8 bs[k]) := by rw [hc8]; simp
  have hne : a ≠ b := h.blk.ne hB8 (by decide)
  have hne' : b ≠ a := fun e => hne e.symm
  clear hc8 hB8
  have e1 : ((t : Int) + 7) / 8 = (k : Int) := by omega
  have e2 : 8 * (k : Int) - (t : Int) = 0 := by omega
  have e8 : ((k : Int) == (bs.length : Int)) = false := by simp; omega
  have e9 : (bs[k] != 0) = false := by simpa using hx
  have ht1 : t ≤ 800000008 := by omega
  have hst := fun (W : World) (hb : HoldsB W (some ⟨b, 0, none⟩) bs) => stuffed_k (bs.take (k)) (k) (by simp; omega) (some ⟨b, 0, none⟩) m W (hb.take (k)) (by omega)
  have hsf : sfB (bs.take (k)) = true := by simpa [sfB] using hs
  rw [hsf] at hst
  have hHn := fun nq => hst _ (hH.call (below_drewN w nq))
  have HST := Lib.hid hHn
  clear h ht hst hsf hs hHn hx
  go_enter Try.func47, Try.ntmps47
  go_wp2_with (first | (go_at_call 48; refine (rmade_y _ _ c0).mono ?_; rintro e wn ⟨rfl, rfl⟩))
  go_quiet (fail)
  have HT := HST.out nq
  rw [e1]
  clear e1 e2
  go_wp2_with (first | (go_at_call 49; refine HT.mono ?_; rintro e wn ⟨rfl, rfl⟩))
  go_ret2
  exact ⟨rfl, rget_end HR.out nq _ _ (by omega)⟩
theorem lst_take {bs : List Int} {k : Nat} (hk : k < bs.length) : Bi.lst (bs.take (k + 1)) = bs[k] := by
  rw [List.take_succ_eq_append_getElem hk, Bi.lst_snoc]
theorem align_c (w : World) (B a : Nat) (bs : List Int) (t : Nat) (hR : Rd w B a bs t) (ht : t ≤ 8 * bs.length) (hb : Bi.bytes bs) (hl : bs.length ≤ 100000000) :
    Calls Try.prog 47 #[.pointer (some ⟨a, 0, none⟩)] w (RGives B a bs (alR bs t).2.2 (alR bs t).1 (alR bs t).2.1 w) := by
  obtain ⟨n, hn⟩ : ∃ n, n = t / 8 := ⟨_, rfl⟩
  unfold alR
  rw [← hn]
  by_cases hr : t % 8 = 0
  · rw [if_pos hr]
    have ht8 : t = 8 * n := by omega
    by_cases hs : Bi.lst (bs.take n) = 255
    · rw [if_pos hs]
      by_cases he : n = bs.length
      · rw [if_pos he]; exact al_t w B a bs t n hR hl ht8 he hs
      · rw [if_neg he]
        have hnl : n < bs.length := by omega
        have eD : bs.getD n 0 = bs[n] := by rw [List.getD_eq_getElem?_getD, List.getElem?_eq_getElem hnl]; rfl
        rw [eD]
        by_cases hx : bs[n] = 0
        · rw [if_pos hx]; exact al_k w B a bs t n hR hl ht8 hnl hs hx
        · rw [if_neg hx]; exact al_s w B a bs t n hR hl ht8 hnl hs hx
    · rw [if_neg hs]; exact al_n w B a bs t n hR hl ht8 (by omega) hs
  · rw [if_neg hr]
    have hnl : n < bs.length := by omega
    have eD : bs.getD n 0 = bs[n] := by rw [List.getD_eq_getElem?_getD, List.getElem?_eq_getElem hnl]; rfl
    have hx := hb bs[n] (List.getElem_mem _)
    rw [eD]
    by_cases hz : bs[n] % 2 ^ (8 - t % 8) = 0
    · rw [if_pos hz]
      refine al_z w B a bs t n (8 - t % 8) hR hl (by omega) (by omega) (by omega) hnl hx hz ?_
      rw [lst_take hnl]
      intro e
      rw [e] at hz
      have h9 : t % 8 = 1 ∨ t % 8 = 2 ∨ t % 8 = 3 ∨ t % 8 = 4 ∨ t % 8 = 5 ∨ t % 8 = 6 ∨ t % 8 = 7 := by omega
      rcases h9 with h | h | h | h | h | h | h <;> rw [h] at hz <;> revert hz <;> decide
    · rw [if_neg hz]; exact al_b w B a bs t n (8 - t % 8) hR hl (by omega) (by omega) (by omega) hnl hx hz
end Go.Proofs.Ytaddendclipkkaa
