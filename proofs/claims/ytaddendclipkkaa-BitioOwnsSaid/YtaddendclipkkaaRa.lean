/-
  The code's reader of layer 9 in memory: NewReader, made, Get.
-/
import Derived.Test.YtaddendclipkkaaVb
set_option maxRecDepth 100000
namespace Go.Proofs.Ytaddendclipkkaa
open Go.RowKit

/-- The code's reader at a block: the row of its bytes, its place. -/
structure RdC (w : World) (B a : Nat) (sv : Value) (bs : List Int) (t : Nat) : Prop where
  ge : B ≤ a
  blk : Blk w a 82 #[.pointer (some ⟨a, 0, none⟩), sv, .int .i64 t]
  own : w.ownsRow B 5 1 sv bs.length (bs.map (Value.int .u8))
def Rd (w : World) (B a : Nat) (bs : List Int) (t : Nat) : Prop := ∃ sv, RdC w B a sv bs t
theorem Rd.made {w : World} {B a : Nat} {bs : List Int} {t : Nat} (h : Rd w B a bs t) : w.cell? ⟨a, 0, none⟩ = some (.pointer (some ⟨a, 0, none⟩)) := h.elim fun _ h => h.blk.cell 0
theorem Rd.lt {w : World} {B a : Nat} {bs : List Int} {t : Nat} (h : Rd w B a bs t) : a < w.heap.size := h.elim fun _ h => h.blk.lt
theorem Rd.ge {w : World} {B a : Nat} {bs : List Int} {t : Nat} (h : Rd w B a bs t) : B ≤ a := h.elim fun _ h => h.ge
theorem Rd.foot {w : World} {B a : Nat} {bs : List Int} {t : Nat} (h : Rd w B a bs t) (k : Nat) (hk : Fp w a k) : B ≤ k ∧ k < w.heap.size := by
  obtain ⟨sv, h⟩ := h
  rcases hk with rfl | ⟨v, hv, hk⟩
  · exact ⟨h.ge, h.blk.lt⟩
  · rw [show w.cell? ⟨a, 1, none⟩ = some sv from h.blk.cell 1] at hv
    obtain rfl := Option.some.inj hv
    exact h.own.lt k hk
theorem Rd.out {w w1 : World} {B a : Nat} {bs : List Int} {t : Nat} (h : Rd w B a bs t) (k : Kp a w w1) : Below B w w1 := k.below (fun i hi => (h.foot i hi).1) (by have := h.ge; have := h.lt; omega)
theorem Rd.keep {w w1 : World} {B a : Nat} {bs : List Int} {t : Nat} (h : Rd w B a bs t) (hk : ∀ k, Fp w a k → w1.heap[k]? = w.heap[k]?) : Rd w1 B a bs t := by
  obtain ⟨sv, h⟩ := h
  refine ⟨sv, h.ge, (hk a (.inl rfl)).trans h.blk, ?_⟩
  obtain ⟨h1, h2⟩ := h.own
  refine ⟨h1, ?_⟩
  rcases h2 with h2 | ⟨g, cap, cur, hv, h3, h4, h5⟩
  · exact .inl h2
  · exact .inr ⟨g, cap, cur, hv, h3, (hk g (.inr ⟨sv, h.blk.cell 1, by rw [hv]; rfl⟩)).trans h4, h5⟩
theorem Rd.below {w w1 : World} {B a : Nat} {bs : List Int} {t : Nat} (h : Rd w B a bs t) (hb : Below w.heap.size w w1) : Rd w1 B a bs t := h.keep fun k hk => hb.block k (h.foot k hk).2
/-- A reader that is set to a place. -/
theorem Rd.setAt {w : World} {B a : Nat} {bs : List Int} {t : Nat} (h : Rd w B a bs t) (t' : Nat) : Rd (w.setCell ⟨a, 2, none⟩ (.int .i64 t')) B a bs t' ∧ Kp a w (w.setCell ⟨a, 2, none⟩ (.int .i64 t')) := by
  obtain ⟨sv, h⟩ := h
  exact ⟨⟨sv, h.ge, h.blk.set 2 _, own_far h.own ⟨a, 2, none⟩ _ (own_blk_ne h.own h.blk (by decide))⟩, (Kp.refl a w).set h.blk.lt (by decide) _⟩
theorem below_drewN (w : World) (n : Nat) : Below w.heap.size w (w.drewN n) := by
  induction n with
  | zero => exact Below.refl _ _
  | succ n ih => exact ih.drew
theorem Rd.drewN {w : World} {B a : Nat} {bs : List Int} {t : Nat} (h : Rd w B a bs t) (n : Nat) : Rd (w.drewN n) B a bs t ∧ Kp a w (w.drewN n) := ⟨h.below (below_drewN w n), Kp.of_below (below_drewN w n) h.lt⟩
/-- After a call of a reader. -/
def RGives (B a : Nat) (bs : List Int) (t : Nat) (v c : Int) (w : World) (e : Ending) (w' : World) : Prop := e = .returned (.tuple #[.int .i64 v, .int .i64 c]) ∧ Rd w' B a bs t ∧ Kp a w w'
theorem ptrR (w : World) (a : Addr) : (binOp .eql 26 (.pointer (some a)) (.pointer (some a))).run Try.prog w = .ok (.bool true) w := by
  obtain ⟨j, hj⟩ : ∃ j, Try.prog.info? 82 = some j := ⟨_, rfl⟩
  exact run_eql_ptr_same w a (te := 82) Try.underlying26 hj
theorem ptrRz (w : World) (a : Addr) : (binOp .eql 26 (.pointer none) (.pointer (some a))).run Try.prog w = .ok (.bool false) w := by
  have h : ∀ d : Nat, (Op.equalIn (d + 1) 26 (.pointer none) (.pointer (some a))).run Try.prog w = .ok false w := fun d => by
    simp [Op.equalIn, run_underlying (P := Try.prog) (t := 26) Try.underlying26]
  simp only [binOp]
  simp [Op.equal, Op.maxDepth, h 9999]
theorem rmade_y (a : Nat) (w : World) (h0 : w.cell? ⟨a, 0, none⟩ = some (.pointer (some ⟨a, 0, none⟩))) : Calls Try.prog 48 #[.pointer (some ⟨a, 0, none⟩)] w fun e w' => e = .returned (.bool true) ∧ w = w' := by
  have hp := fun W => ptrR W ⟨a, 0, none⟩
  go_enter Try.func48, Try.ntmps48
  go_wp2_with fail
  go_ret
  exact ⟨rfl, rfl⟩
theorem rmade_n (w : World) : Calls Try.prog 48 #[.pointer none] w fun e w' => e = .returned (.bool false) ∧ w = w' := by
  go_enter Try.func48, Try.ntmps48
  go_wp2_with fail
  go_ret
  exact ⟨rfl, rfl⟩
theorem rmade_z (a : Nat) (w : World) (h0 : w.cell? ⟨a, 0, none⟩ = some (.pointer none)) : Calls Try.prog 48 #[.pointer (some ⟨a, 0, none⟩)] w fun e w' => e = .returned (.bool false) ∧ w = w' := by
  have hp := fun W => ptrRz W ⟨a, 0, none⟩
  go_enter Try.func48, Try.ntmps48
  go_wp2_with fail
  go_ret
  exact ⟨rfl, rfl⟩
theorem HoldsB.take {w : World} {s : Option Addr} {bs : List Int} (h : HoldsB w s bs) (n : Nat) : HoldsB w s (bs.take n) := by
  rcases h with rfl | ⟨b, off, rfl, hr⟩
  · exact .inl (by simp)
  · refine .inr ⟨b, off, rfl, fun k hk => ?_⟩
    simp at hk
    rw [hr k (by omega)]
    simp
theorem stuffed_k (bs : List Int) (n : Nat) (hn : bs.length = n) (s : Option Addr) (m : Nat) (w : World) (hH : HoldsB w s bs) (hl : n ≤ 1000000000) :
    Calls Try.prog 49 #[.slice s n m] w fun e w' => e = .returned (.bool (sfB bs)) ∧ w = w' := by
  subst hn; exact stuffed_c bs s m w hH hl
theorem and1_u8 (x : Int) (h : 0 ≤ x ∧ x ≤ 255) : bits .and .u8 x 1 = x % 2 := by
  obtain ⟨k, rfl⟩ : ∃ k : Nat, x = k := ⟨x.toNat, by omega⟩
  have := u8_and_nat k 1 (by omega) (by omega)
  rw [Nat.and_one_is_mod] at this
  simpa using this
theorem rget_end {w : World} {B a : Nat} {bs : List Int} {t : Nat} (h : Rd w B a bs t) (n t' : Nat) (x : Int) (hx : x = t') : Rd ((w.drewN n).setCell ⟨a, 2, none⟩ (.int .i64 x)) B a bs t' ∧ Kp a w ((w.drewN n).setCell ⟨a, 2, none⟩ (.int .i64 x)) := by
  subst hx
  exact ⟨((h.drewN n).1.setAt t').1, (h.drewN n).2.trans ((h.drewN n).1.setAt t').2⟩
theorem get_t (w : World) (B a : Nat) (bs : List Int) (t : Nat) (hR : Rd w B a bs t) (ht : t / 8 = bs.length) (hl : bs.length ≤ 100000000) (ht2 : t ≤ 8 * bs.length) :
    Calls Try.prog 16 #[.pointer (some ⟨a, 0, none⟩)] w (RGives B a bs t 0 7 w) := by
  have HR := Lib.hid hR
  obtain ⟨sv, h⟩ := hR
  have c0 : w.cell? ⟨a, 0, none⟩ = some (.pointer (some ⟨a, 0, none⟩)) := h.blk.cell 0
  have c1 : w.cell? ⟨a, 1, none⟩ = some sv := h.blk.cell 1
  have c2 : w.cell? ⟨a, 2, none⟩ = some (.int .i64 t) := h.blk.cell 2
  have f := h.blk.free
  obtain ⟨_, s, m, rfl, _, _, _⟩ := HoldsB.of_own h.own
  have e1 : Int.tdiv (t : Int) 8 = (bs.length : Int) := by rw [Int.tdiv_eq_ediv_of_nonneg (by omega)]; omega
  have e2 : IntKind.i64.wrap (bs.length : Int) = (bs.length : Int) := IntWalk.i64_in _ (by omega)
  clear h ht f
  go_enter Try.func16, Try.ntmps16
  go_wp2_with (first | (go_at_call 48; refine (rmade_y _ _ c0).mono ?_; rintro e wn ⟨rfl, rfl⟩))
  go_quiet (fail)
  go_wp2_with fail
  go_ret2
  exact ⟨rfl, HR.out.drewN _⟩
theorem get_s (w : World) (B a : Nat) (bs : List Int) (t n : Nat) (hR : Rd w B a bs t) (ht : t = 8 * n) (hn : n < bs.length) (hs : Bi.lst (bs.take n) = 255) (hx : 128 ≤ bs[n]) (hl : bs.length ≤ 100000000) :
    Calls Try.prog 16 #[.pointer (some ⟨a, 0, none⟩)] w (RGives B a bs t 0 8 w) := by
  have HR := Lib.hid hR
  obtain ⟨sv, h⟩ := hR
  have c0 : w.cell? ⟨a, 0, none⟩ = some (.pointer (some ⟨a, 0, none⟩)) := h.blk.cell 0
  have c1 : w.cell? ⟨a, 1, none⟩ = some sv := h.blk.cell 1
  have c2 : w.cell? ⟨a, 2, none⟩ = some (.int .i64 t) := h.blk.cell 2
  have f := h.blk.free
  obtain ⟨_, s, m, rfl, hH, ⟨hm, _⟩, _⟩ := HoldsB.of_own h.own
  have hst := fun (W : World) (hb : HoldsB W s bs) => stuffed_k (bs.take n) n (by simp; omega) s m W (hb.take n) (by omega)
  have hsf : sfB (bs.take n) = true := by simpa [sfB] using hs
  rw [hsf] at hst
  have e1 : Int.tdiv (t : Int) 8 = (n : Int) := by rw [Int.tdiv_eq_ediv_of_nonneg (by omega)]; omega
  have e2 : IntKind.i64.wrap (n : Int) = (n : Int) := IntWalk.i64_in _ (by omega)
  have e3 : (t : Int) % 8 = 0 := by omega
  have e4 : ((n : Int) == (bs.length : Int)) = false := by simp; omega
  obtain ⟨b, off, rfl, hcell⟩ : ∃ b off, s = some ⟨b, off, none⟩ ∧ w.cell? ⟨b, off + n, none⟩ = some (.int .u8 bs[n]) := by
    rcases hH with rfl | ⟨b, off, rfl, hr⟩
    · simp at hn
    · exact ⟨b, off, rfl, hr n hn⟩
  have hdc : decide ((128 : Int) ≤ bs[n]) = true := decide_eq_true hx
  have ht1 : t ≤ 800000000 := by omega
  have HST := Lib.hid (fun W h => hst W h)
  clear h ht f hst hsf hs
  go_enter Try.func16, Try.ntmps16
  go_wp2_with (first | (go_at_call 48; refine (rmade_y _ _ c0).mono ?_; rintro e wn ⟨rfl, rfl⟩))
  go_quiet (fail)
  have hHn := hH.call (below_drewN w nq)
  have HT := HST.out _ hHn
  clear e1
  go_wp2_with (first | (go_at_call 49; refine HT.mono ?_; rintro e wn ⟨rfl, rfl⟩))
  go_ret2
  exact ⟨rfl, HR.out.drewN _⟩
theorem get_k (w : World) (B a : Nat) (bs : List Int) (t n : Nat) (hR : Rd w B a bs t) (ht : t = 8 * n) (hn : n < bs.length) (hs : Bi.lst (bs.take n) = 255) (hx : bs[n] < 128) (hx0 : 0 ≤ bs[n]) (hl : bs.length ≤ 100000000) :
    Calls Try.prog 16 #[.pointer (some ⟨a, 0, none⟩)] w (RGives B a bs (t + 2) (bs[n] / 64 % 2) 0 w) := by
  have HR := Lib.hid hR
  obtain ⟨sv, h⟩ := hR
  have c0 : w.cell? ⟨a, 0, none⟩ = some (.pointer (some ⟨a, 0, none⟩)) := h.blk.cell 0
  have c1 : w.cell? ⟨a, 1, none⟩ = some sv := h.blk.cell 1
  have c2 : w.cell? ⟨a, 2, none⟩ = some (.int .i64 t) := h.blk.cell 2
  have f := h.blk.free
  obtain ⟨_, s, m, rfl, hH, ⟨hm, _⟩, _⟩ := HoldsB.of_own h.own
  have hst := fun (W : World) (hb : HoldsB W s bs) => stuffed_k (bs.take n) n (by simp; omega) s m W (hb.take n) (by omega)
  have hsf : sfB (bs.take n) = true := by simpa [sfB] using hs
  rw [hsf] at hst
  have e1 : Int.tdiv (t : Int) 8 = (n : Int) := by rw [Int.tdiv_eq_ediv_of_nonneg (by omega)]; omega
  have e2 : IntKind.i64.wrap (n : Int) = (n : Int) := IntWalk.i64_in _ (by omega)
  have e3 : (t : Int) % 8 = 0 := by omega
  have e4 : ((n : Int) == (bs.length : Int)) = false := by simp; omega
  obtain ⟨b, rfl, hc8, _, ⟨cs, hB8⟩, _⟩ := own_at h.own n hn
  have hcell : w.cell? ⟨b, n, none⟩ = some (.int .u8 bs[n]) := by rw [hc8]; simp
  have hne : a ≠ b := h.blk.ne hB8 (by decide)
  have hne' : b ≠ a := fun e => hne e.symm
  clear hc8 hB8
  have hdc : decide ((128 : Int) ≤ bs[n]) = false := decide_eq_false (by omega)
  have hga := and1_u8 (bs[n] / 64) (by omega)
  have e5 : ((t : Int) + 1) % 8 = 1 := by omega
  have ff : ∀ i, w.frozen? ⟨a, i, none⟩ = false := f
  have e7 : IntKind.u8.wrap (bs[n] / 64 % 2) = bs[n] / 64 % 2 := by rw [IntKind.wrap_u8]; omega
  generalize bs[n] = X at *
  have ht1 : t ≤ 800000000 := by omega
  have HST := Lib.hid (fun W h => hst W h)
  clear h ht f hst hsf hs
  go_enter Try.func16, Try.ntmps16
  go_wp2_with (first | (go_at_call 48; refine (rmade_y _ _ c0).mono ?_; rintro e wn ⟨rfl, rfl⟩))
  go_quiet (fail)
  have hHn := hH.call (below_drewN w nq)
  have HT := HST.out _ hHn
  clear e1
  go_wp2_with (first | (go_at_call 49; refine HT.mono ?_; rintro e wn ⟨rfl, rfl⟩))
  go_ret2
  exact ⟨rfl, rget_end HR.out nq _ _ (by omega)⟩
theorem get_0 (w : World) (B a : Nat) (bs : List Int) (t n : Nat) (hR : Rd w B a bs t) (ht : t = 8 * n) (hn : n < bs.length) (hs : Bi.lst (bs.take n) ≠ 255) (hx : 0 ≤ bs[n] ∧ bs[n] ≤ 255) (hl : bs.length ≤ 100000000) :
    Calls Try.prog 16 #[.pointer (some ⟨a, 0, none⟩)] w (RGives B a bs (t + 1) (bs[n] / 128 % 2) 0 w) := by
  have HR := Lib.hid hR
  obtain ⟨sv, h⟩ := hR
  have c0 : w.cell? ⟨a, 0, none⟩ = some (.pointer (some ⟨a, 0, none⟩)) := h.blk.cell 0
  have c1 : w.cell? ⟨a, 1, none⟩ = some sv := h.blk.cell 1
  have c2 : w.cell? ⟨a, 2, none⟩ = some (.int .i64 t) := h.blk.cell 2
  have f := h.blk.free
  obtain ⟨_, s, m, rfl, hH, ⟨hm, _⟩, _⟩ := HoldsB.of_own h.own
  have hst := fun (W : World) (hb : HoldsB W s bs) => stuffed_k (bs.take n) n (by simp; omega) s m W (hb.take n) (by omega)
  have hsf : sfB (bs.take n) = false := by simpa [sfB] using hs
  rw [hsf] at hst
  have e1 : Int.tdiv (t : Int) 8 = (n : Int) := by rw [Int.tdiv_eq_ediv_of_nonneg (by omega)]; omega
  have e2 : IntKind.i64.wrap (n : Int) = (n : Int) := IntWalk.i64_in _ (by omega)
  have e3 : (t : Int) % 8 = 0 := by omega
  have e4 : ((n : Int) == (bs.length : Int)) = false := by simp; omega
  obtain ⟨b, rfl, hc8, _, ⟨cs, hB8⟩, _⟩ := own_at h.own n hn
  have hcell : w.cell? ⟨b, n, none⟩ = some (.int .u8 bs[n]) := by rw [hc8]; simp
  have hne : a ≠ b := h.blk.ne hB8 (by decide)
  have hne' : b ≠ a := fun e => hne e.symm
  clear hc8 hB8
  have hga := and1_u8 (bs[n] / 128) (by omega)
  have ff : ∀ i, w.frozen? ⟨a, i, none⟩ = false := f
  have e7 : IntKind.u8.wrap (bs[n] / 128 % 2) = bs[n] / 128 % 2 := by rw [IntKind.wrap_u8]; omega
  generalize bs[n] = X at *
  have ht1 : t ≤ 800000000 := by omega
  have HST := Lib.hid (fun W h => hst W h)
  clear h ht f hst hsf hs
  go_enter Try.func16, Try.ntmps16
  go_wp2_with (first | (go_at_call 48; refine (rmade_y _ _ c0).mono ?_; rintro e wn ⟨rfl, rfl⟩))
  go_quiet (fail)
  have hHn := hH.call (below_drewN w nq)
  have HT := HST.out _ hHn
  clear e1
  go_wp2_with (first | (go_at_call 49; refine HT.mono ?_; rintro e wn ⟨rfl, rfl⟩))
  go_ret2
  exact ⟨rfl, rget_end HR.out nq _ _ (by omega)⟩
theorem get_r (w : World) (B a : Nat) (bs : List Int) (t n r : Nat) (hR : Rd w B a bs t) (ht : t = 8 * n + r) (hr0 : 0 < r) (hr8 : r < 8) (hn : n < bs.length) (hx : 0 ≤ bs[n] ∧ bs[n] ≤ 255) (hl : bs.length ≤ 100000000) :
    Calls Try.prog 16 #[.pointer (some ⟨a, 0, none⟩)] w (RGives B a bs (t + 1) (bs[n] / 2 ^ (7 - r) % 2) 0 w) := by
  have HR := Lib.hid hR
  obtain ⟨sv, h⟩ := hR
  have c0 : w.cell? ⟨a, 0, none⟩ = some (.pointer (some ⟨a, 0, none⟩)) := h.blk.cell 0
  have c1 : w.cell? ⟨a, 1, none⟩ = some sv := h.blk.cell 1
  have c2 : w.cell? ⟨a, 2, none⟩ = some (.int .i64 t) := h.blk.cell 2
  have f := h.blk.free
  obtain ⟨_, s, m, rfl, hH, ⟨hm, _⟩, _⟩ := HoldsB.of_own h.own
  have e1 : Int.tdiv (t : Int) 8 = (n : Int) := by rw [Int.tdiv_eq_ediv_of_nonneg (by omega)]; omega
  have e2 : IntKind.i64.wrap (n : Int) = (n : Int) := IntWalk.i64_in _ (by omega)
  have e3 : (t : Int) % 8 = (r : Int) := by omega
  have e31 : ((r : Int) == 0) = false := by simp; omega
  have hp := pow8 (k := 7 - r) (by omega)
  have hX : 0 ≤ bs[n] / 2 ^ (7 - r) ∧ bs[n] / 2 ^ (7 - r) ≤ 255 := ⟨Int.ediv_nonneg hx.1 (by omega), Int.le_trans (Int.ediv_le_self _ hx.1) hx.2⟩
  have e4 : ((n : Int) == (bs.length : Int)) = false := by simp; omega
  obtain ⟨b, rfl, hc8, _, ⟨cs, hB8⟩, _⟩ := own_at h.own n hn
  have hcell : w.cell? ⟨b, n, none⟩ = some (.int .u8 bs[n]) := by rw [hc8]; simp
  have hne : a ≠ b := h.blk.ne hB8 (by decide)
  have hne' : b ≠ a := fun e => hne e.symm
  clear hc8 hB8
  have hga := and1_u8 (bs[n] / 2 ^ (7 - r)) hX
  have ff : ∀ i, w.frozen? ⟨a, i, none⟩ = false := f
  have e7 : IntKind.u8.wrap (bs[n] / 2 ^ (7 - r) % 2) = bs[n] / 2 ^ (7 - r) % 2 := by rw [IntKind.wrap_u8]; omega
  generalize bs[n] = X at *
  have ht1 : t ≤ 800000000 := by omega
  clear h ht f
  go_enter Try.func16, Try.ntmps16
  go_wp2_with (first | (go_at_call 48; refine (rmade_y _ _ c0).mono ?_; rintro e wn ⟨rfl, rfl⟩))
  go_quiet (fail)
  clear e1
  go_wp2_with fail
  go_ret2
  exact ⟨rfl, rget_end HR.out nq _ _ (by omega)⟩
theorem get_c (w : World) (B a : Nat) (bs : List Int) (t : Nat) (hR : Rd w B a bs t) (ht : t ≤ 8 * bs.length) (hb : Bi.bytes bs) (hl : bs.length ≤ 100000000) :
    Calls Try.prog 16 #[.pointer (some ⟨a, 0, none⟩)] w (RGives B a bs (Bi.gN bs t) (Bi.gR bs t) (Bi.gE bs t) w) := by
  by_cases h0 : t / 8 = bs.length
  · have e : Bi.gE bs t = 7 := by simp [Bi.gE, h0]
    have := get_t w B a bs t hR h0 hl ht
    simpa [Bi.gN, Bi.gR, e] using this
  obtain ⟨n, hn⟩ : ∃ n, n = t / 8 := ⟨_, rfl⟩
  have hnl : n < bs.length := by omega
  have hx := hb bs[n] (List.getElem_mem _)
  have eD : bs[t / 8]?.getD 0 = bs[n] := by rw [← hn, List.getElem?_eq_getElem hnl]; rfl
  by_cases hr : t % 8 = 0
  · have ht8 : t = 8 * n := by omega
    by_cases hs : Bi.lst (bs.take n) = 255
    · have eS : Bi.gS bs t = true := by simp [Bi.gS, hr, ← hn, hs]
      by_cases h1 : 128 ≤ bs[n]
      · have e : Bi.gE bs t = 8 := by simp [Bi.gE, h0, eS, eD, h1]
        have := get_s w B a bs t n hR ht8 hnl hs h1 hl
        simpa [Bi.gN, Bi.gR, e] using this
      · have e : Bi.gE bs t = 0 := by simp [Bi.gE, h0, eD]; omega
        have := get_k w B a bs t n hR ht8 hnl hs (by omega) hx.1 hl
        have e2 : (t + 1) % 8 = 1 := by omega
        simpa [Bi.gN, Bi.gR, Bi.gV, Bi.gA, e, eS, eD, e2] using this
    · have eS : Bi.gS bs t = false := by simp [Bi.gS, ← hn, hs]
      have e : Bi.gE bs t = 0 := by simp [Bi.gE, h0, eS]
      have := get_0 w B a bs t n hR ht8 hnl hs hx hl
      simpa [Bi.gN, Bi.gR, Bi.gV, Bi.gA, e, eS, eD, hr] using this
  · have eS : Bi.gS bs t = false := by simp [Bi.gS, hr]
    have e : Bi.gE bs t = 0 := by simp [Bi.gE, h0, eS]
    have := get_r w B a bs t n (t % 8) hR (by omega) (by omega) (by omega) hnl hx hl
    simpa [Bi.gN, Bi.gR, Bi.gV, Bi.gA, e, eS, eD] using this
theorem or1 {x b : Int} (h0 : 0 ≤ x) (h1 : x < 1099511627776) (hb : Bi.bit b) : bits .or .i64 (x * 2) b = x * 2 + b := by
  obtain ⟨k, rfl⟩ : ∃ k : Nat, x = k := ⟨x.toNat, by omega⟩
  obtain ⟨c, rfl⟩ : ∃ c : Nat, b = c := ⟨b.toNat, by unfold Bi.bit at hb; omega⟩
  have hc : c < 2 := by unfold Bi.bit at hb; omega
  have h2 : (BitVec.ofInt 64 ((k : Int) * 2) ||| BitVec.ofInt 64 (c : Int)).toNat = 2 * k + c := by
    rw [BitVec.toNat_or, BitVec.toNat_ofInt, BitVec.toNat_ofInt]
    have e1 : ((k : Int) * 2 % ((2 ^ 64 : Nat) : Int)).toNat = 2 ^ 1 * k := by omega
    have e2 : ((c : Int) % ((2 ^ 64 : Nat) : Int)).toNat = c := by omega
    rw [e1, e2, ← Nat.two_pow_add_eq_or_of_lt (by omega) k]
  show IntKind.i64.wrap ((BitVec.ofInt 64 ((k : Int) * 2) ||| BitVec.ofInt 64 (c : Int)).toNat : Int) = _
  rw [h2, IntWalk.i64_in _ (by omega)]
  omega
end Go.Proofs.Ytaddendclipkkaa
