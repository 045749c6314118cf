/-
  The code's reader of layer 12; the reference's writer and reader; same.
-/
import Derived.Test.YtbaappodeicomaaDoorTw
set_option maxRecDepth 100000
namespace Go.Proofs.YtbaappodeicomaaDoor
open Go.RowKit

/-- The code's reader at a block: its bytes, how often Get was called. -/
structure RrC (w : World) (B a : Nat) (sv : Value) (bs : List Int) (t : Nat) : Prop where
  core : Core w B a 91 #[sv, .int .i64 (t : Int), .pointer (some ⟨a, 0, none⟩)]
  own : w.ownsRow B 5 1 sv bs.length (bs.map (Value.int .u8))
def Rr (w : World) (B a : Nat) (bs : List Int) (t : Nat) : Prop := ∃ sv, RrC w B a sv bs t
section
variable {w w1 : World} {B B' a b t : Nat} {bs : List Int}
theorem Rr.lt (h : Rr w B a bs t) : a < w.heap.size := h.elim fun _ h => h.core.lt
theorem Rr.ge (h : Rr w B a bs t) : B ≤ a := h.elim fun _ h => h.core.ge
theorem Rr.fl (h : Rr w B a bs t) : ∀ k, Fp w a k → k < w.heap.size := h.elim fun _ h => h.core.fl
theorem Rr.fp (h : Rr w B a bs t) : ∀ k, Fp w a k → B ≤ k ∧ k < w.heap.size := h.elim fun _ h => h.core.fp
theorem Rr.out (h : Rr w B a bs t) (k : Kp a w w1) : Below B w w1 := h.elim fun _ h => h.core.out k
theorem Rr.keep (h : Rr w B a bs t) (hk : ∀ k, Fp w a k → w1.heap[k]? = w.heap[k]?) : Rr w1 B a bs t := by
  obtain ⟨sv, h⟩ := h
  exact ⟨sv, h.core.keep hk, own_keep h.own fun k ho => hk k (h.core.of (i := 0) rfl ho)⟩
theorem Rr.below (h : Rr w B a bs t) (hb : Below w.heap.size w w1) : Rr w1 B a bs t := h.keep fun k hk => hb.block k (h.fl k hk)
theorem Rr.kp (h : Rr w B b bs t) (hd : Dj w a b) (hk : Kp a w w1) : Rr w1 B b bs t ∧ Dj w1 a b := ⟨h.keep (hd.kp hk h.fl).2, (hd.kp hk h.fl).1⟩
theorem Rr.lower (h : Rr w B a bs t) (hB : B' ≤ B) : Rr w B' a bs t := by
  obtain ⟨sv, h⟩ := h
  exact ⟨sv, h.core.lower hB, own_lower h.own hB⟩
end
/-- After a call of a reader. -/
def RrGives (B a : Nat) (bs : List Int) (t : Nat) (v : Int) (w : World) (e : Ending) (w' : World) : Prop := e = .returned (.int .i64 v) ∧ Rr w' B a bs t ∧ Kp a w w'
theorem rnew_c (w : World) (bs : List Int) (s : Option Addr) (m : Nat) (hH : HoldsB w s bs) (hs : s = none → bs = [] ∧ m = 0) (hl : bs.length ≤ 1000000000) :
    Calls Tryd.prog 53 #[.slice s bs.length m] w fun e w' => ∃ a, e = .returned (.pointer (some ⟨a, 0, none⟩)) ∧ Rr w' w.heap.size a bs 0 ∧ Below w.heap.size w w' := by
  have hc := clone_c w bs s m hH hs hl
  clear hH hs
  go_enter Tryd.func53, Tryd.ntmps53
  go_wp2_with fail
  refine hc.mono ?_
  rintro e w1 ⟨v, rfl, ho, hb⟩
  have HO := Lib.hid ho
  have HB := Lib.hid hb
  obtain ⟨_, s', m', rfl, _, _, _⟩ := HoldsB.of_own ho
  clear ho hb hc
  go_wp2_with fail
  go_ret
  have b1 := Blk.new w1 91 #[.slice s' bs.length m', .int .i64 0, .pointer (some ⟨w1.heap.size, 0, none⟩)]
  have o1 := own_keep HO.out (w1 := w1.alloc (.cells #[.slice s' bs.length m', .int .i64 0, .pointer (some ⟨w1.heap.size, 0, none⟩)] 91)) (fun k hk => by
    obtain ⟨_, ds, h⟩ := own_foot HO.out hk
    exact Below.heap_alloc _ _ k h.lt)
  exact ⟨_, rfl, ⟨.slice s' bs.length m', core_one (i := 0) (e := 5) HB.out.size b1 (by decide) rfl o1 (rest3 rfl rfl), o1⟩, HB.out.alloc HB.out.size _⟩
theorem rat_c (w : World) (B a : Nat) (bs : List Int) (t : Nat) (h : Rr w B a bs t) : Calls Tryd.prog 57 #[.pointer (some ⟨a, 0, none⟩)] w fun e w' => e = .returned (.int .i64 (t : Int)) ∧ w = w' := by
  obtain ⟨sv, h⟩ := h
  have c1 : w.cell? ⟨a, 1, none⟩ = some (.int .i64 (t : Int)) := h.core.blk.cell 1
  have c2 : w.cell? ⟨a, 2, none⟩ = some (.pointer (some ⟨a, 0, none⟩)) := h.core.blk.cell 2
  clear h
  go_enter Tryd.func57, Tryd.ntmps57
  go_wp2_with (first | (go_at_call 81; refine (rmade_y _ _ c2).mono ?_; rintro e wn ⟨rfl, rfl⟩))
  go_ret
  exact ⟨rfl, rfl⟩
theorem rstep {w : World} {B a : Nat} {bs : List Int} {t : Nat} (h : Rr w B a bs t) (k : Nat) : Rr ((w.drewN k).setCell ⟨a, 1, none⟩ (.int .i64 ((t : Int) + 1))) B a bs (t + 1) ∧ Kp a w ((w.drewN k).setCell ⟨a, 1, none⟩ (.int .i64 ((t : Int) + 1))) := by
  obtain ⟨sv, h⟩ := h
  have D := drewN_below w k
  have C0 := h.core.keep (w1 := w.drewN k) (fun j hj => D.block j (h.core.fl j hj))
  have N1 := C0.num 1 (.int .i64 ((t : Int) + 1)) rfl
  have hne := own_blk_ne h.own h.core.blk (by decide)
  have O0 := own_keep (w1 := w.drewN k) h.own (fun j hj => D.block j (h.core.fl j (h.core.of (i := 0) rfl hj)))
  have O1 := own_far O0 ⟨a, 1, none⟩ (.int .i64 ((t : Int) + 1)) hne
  exact ⟨⟨sv, by simpa using N1.1, O1⟩, (Kp.of_below D h.core.lt).trans N1.2⟩
theorem and1_u8 (x : Int) (h : 0 ≤ x ∧ x ≤ 255) : bits .and .u8 x 1 = x % 2 := by
  obtain ⟨k, rfl⟩ : ∃ k : Nat, x = k := ⟨x.toNat, by omega⟩
  have := u8_and_nat k 1 (by omega) (by omega)
  rw [Nat.and_one_is_mod] at this
  simpa using this
theorem div_bd {x : Int} (h : 0 ≤ x ∧ x ≤ 255) (r : Nat) : 0 ≤ x / 2 ^ r ∧ x / 2 ^ r ≤ 255 := by
  have hp : (2 : Int) ^ r = ((2 ^ r : Nat) : Int) := by simp
  have h1 : 0 < 2 ^ r := Nat.two_pow_pos r
  obtain ⟨k, rfl⟩ : ∃ k : Nat, x = k := ⟨x.toNat, by omega⟩
  rw [hp]
  have : k / 2 ^ r ≤ k := Nat.div_le_self _ _
  have e : (k : Int) / ((2 ^ r : Nat) : Int) = ((k / 2 ^ r : Nat) : Int) := by simp
  rw [e]
  exact ⟨Int.natCast_nonneg _, Int.le_trans (Int.ofNat_le.2 this) h.2⟩
theorem rget_c (w : World) (B a : Nat) (bs : List Int) (t : Nat) (h : Rr w B a bs t) (hb : Am.bytes bs) (ht : t + 1 ≤ 1000000000) :
    Calls Tryd.prog 55 #[.pointer (some ⟨a, 0, none⟩)] w (RrGives B a bs (t + 1) (Pk.bitAt bs t) w) := by
  have H := Lib.hid h
  obtain ⟨sv, h⟩ := h
  have c0 : w.cell? ⟨a, 0, none⟩ = some sv := h.core.blk.cell 0
  have c1 : w.cell? ⟨a, 1, none⟩ = some (.int .i64 (t : Int)) := h.core.blk.cell 1
  have c2 : w.cell? ⟨a, 2, none⟩ = some (.pointer (some ⟨a, 0, none⟩)) := h.core.blk.cell 2
  have f := h.core.blk.free
  have hs := step_c w a t c1 f (by omega)
  unfold Stepped at hs
  obtain ⟨q, hq⟩ : ∃ q, q = t / 8 := ⟨_, rfl⟩
  obtain ⟨r, hr⟩ : ∃ r, r = 7 - t % 8 := ⟨_, rfl⟩
  rw [← hq, ← hr] at hs
  have hV : Hid (Pk.bitAt bs t = bs.getD q 0 / 2 ^ r % 2) := by show _ = _; rw [hq, hr]; rfl
  have hr7 : r ≤ 7 := by omega
  have hq9 : q ≤ 1000000000 := by omega
  by_cases hlt : q < bs.length
  · obtain ⟨_, s, m, rfl, hH, ⟨hm, _⟩, _⟩ := HoldsB.of_own h.own
    obtain ⟨g, off, rfl, hc⟩ := hH.at hlt
    have hx := hb _ (List.getElem_mem hlt)
    have ex : bs.getD q 0 = bs[q] := by rw [List.getD_eq_getElem?_getD, List.getElem?_eq_getElem hlt]; rfl
    rw [← ex] at hx
    have hga := own_blk_ne h.own h.core.blk (by decide)
    have hga' : g ≠ a := by simpa [Value.ownBlock] using hga
    have hc1 : ∀ k : Nat, ((w.drewN k).setCell ⟨a, 1, none⟩ (.int .i64 ((t : Int) + 1))).cell? ⟨g, off + q, none⟩ = some (.int .u8 (bs.getD q 0)) := fun k => by
      refine cell_far _ ?_ hga'
      exact ((drewN_below w k).cell (p := ⟨g, off + q, none⟩) (cell_lt hc)).trans hc
    have hxb : 0 ≤ bs.getD q 0 ∧ bs.getD q 0 ≤ 255 := hx
    generalize bs.getD q 0 = x at *
    have hdv := div_bd hxb r
    have ha1 := and1_u8 (x / 2 ^ r) hdv
    have HQ := Lib.hid hq
    have HR := Lib.hid hr
    clear h hq hr hb hH hc hx ex hga
    go_enter Tryd.func55, Tryd.ntmps55
    go_wp2_with (first | (go_at_call 81; refine (rmade_y _ _ c2).mono ?_; rintro e wn ⟨rfl, rfl⟩) | (go_at_call 80; refine hs.mono ?_; rintro e wn ⟨rfl, k, rfl⟩; have hck := hc1 k))
    go_ret
    have R := rstep H.out k
    exact ⟨by rw [hV.out]; rfl, R.1, R.2⟩
  · have hz : Hid (Pk.bitAt bs t = 0) := by
      show _ = _
      rw [hV.out, Am.getD_over (by omega)]
      simp
    obtain ⟨_, s, m, rfl, _, _, _⟩ := HoldsB.of_own h.own
    have hge : bs.length ≤ q := by omega
    clear h hq hr hb hlt
    go_enter Tryd.func55, Tryd.ntmps55
    go_wp2_with (first | (go_at_call 81; refine (rmade_y _ _ c2).mono ?_; rintro e wn ⟨rfl, rfl⟩) | (go_at_call 80; refine hs.mono ?_; rintro e wn ⟨rfl, k, rfl⟩))
    go_ret
    have R := rstep H.out k
    exact ⟨by rw [hz.out]; rfl, R.1, R.2⟩
theorem same12_t (w : World) (l : List Int) (s t : Option Addr) (n m k : Nat) (hn : n = l.length) (ha : HoldsB w s l) (hb : HoldsB w t l) (hl : l.length ≤ 1000000000) :
    Calls Tryd.prog 46 #[.slice s n m, .slice t n k] w fun e w' => e = .returned (.bool true) ∧ Below w.heap.size w w' := by
  subst hn
  have HA := Lib.hid ha
  have HB := Lib.hid hb
  clear ha hb
  go_enter Tryd.func46, Tryd.ntmps46
  go_wp2_with fail
  go_loopw [13] (fun i wr => ∃ j : Nat, j ≤ l.length ∧ i = .int .i64 (j : Int) ∧ Below w.heap.size w wr) (fun i _ => l.length - (intOf i).toNat)
  case atStart => exact ⟨0, Nat.zero_le _, rfl, Below.refl _ _⟩
  case round =>
    obtain ⟨j, hj, rfl, hW⟩ := hrel
    by_cases hlt : j < l.length
    · obtain ⟨g, off, rfl, hc⟩ := (HA.out.call hW).at hlt
      obtain ⟨g2, off2, rfl, hc2⟩ := (HB.out.call hW).at hlt
      generalize l.getD j 0 = x at *
      have hxx : (x != x) = false := by simp
      go_wp2_with fail
      go_quiet (fail)
      go_wp2_with fail
      go_roundw
      case rel => exact ⟨j + 1, by omega, by go_num, hW.trans ((drewN_below wr nq).mono hW.size)⟩
      case measure => simp [intOf]; omega
    · obtain rfl : j = l.length := by omega
      go_wp2_with fail
      go_ret
      exact ⟨rfl, hW⟩
end Go.Proofs.YtbaappodeicomaaDoor
