/-
  The code's reader of layer 9: NewReader, digits, run, whole, Bits, Gamma, Unary.
-/
import Derived.Test.YtaddendclipkkaaRa
import Derived.Shelf.Abstract
set_option maxRecDepth 100000
namespace Go.Proofs.Ytaddendclipkkaa
open Go.RowKit

set_option maxHeartbeats 1000000 in
theorem rdigits_c (w : World) (B a : Nat) (bs : List Int) (t n : Nat) (v : Int) (hR : Rd w B a bs t) (ht : t ≤ 8 * bs.length) (hb : Bi.bytes bs) (hl : bs.length ≤ 100000000) (hn : n ≤ 32) (hv : 0 ≤ v ∧ v ≤ 1) :
    Calls Try.prog 78 #[.pointer (some ⟨a, 0, none⟩), .int .i64 v, .int .i64 n] w (RGives B a bs (Bi.rdg bs n t v).2.2 (Bi.rdg bs n t v).1 (Bi.rdg bs n t v).2.1 w) := by
  go_enter Try.func78, Try.ntmps78
  go_wp2_with fail
  go_loopw [1, 11] (fun s1 s11 wr => ∃ (k t' : Nat) (v' : Int), k ≤ n ∧ s1 = .int .i64 v' ∧ s11 = .int .i64 (k : Int) ∧ Rd wr B a bs t' ∧ Kp a w wr ∧ t' ≤ 8 * bs.length ∧ Hid (Bi.rdg bs (n - k) t' v' = Bi.rdg bs n t v) ∧ 0 ≤ v' ∧ Hid (v' + 1 ≤ 2 * 2 ^ k)) (fun _ s11 _ => n - (intOf s11).toNat)
  case atStart => exact ⟨0, t, v, Nat.zero_le _, rfl, rfl, hR, Kp.refl a w, ht, rfl, hv.1, by show _ ≤ _; simp; omega⟩
  case round =>
    obtain ⟨k, t', v', hk, rfl, rfl, hR1, hK1, ht1, hq, hv0, hv1⟩ := hrel
    by_cases hlt : k < n
    · have hg := get_c wr B a bs t' hR1 ht1 hb hl
      obtain ⟨j, hj⟩ : ∃ j, n - k = j + 1 := ⟨n - k - 1, by omega⟩
      have hq2 := hq.out
      rw [hj, Bi.rdg] at hq2
      have hp := pow_bd (k := k) (by omega)
      have hv2 : v' < 8589934592 := by have := hv1.out; omega
      have hbit := Bi.gR_bit bs t'
      have hor := or1 hv0 (by omega) hbit
      have hb01 : 0 ≤ Bi.gR bs t' ∧ Bi.gR bs t' ≤ 1 := by unfold Bi.bit at hbit; omega
      have hgn := (Bi.gN_le ht1).2
      have HJ := Lib.hid hj
      clear hbit hj
      rcases Bi.gE_cases bs t' with hE | hE | hE
      · rw [if_pos hE] at hq2
        rw [hE] at hg
        have HQ := Lib.hid hq2
        clear hq2 hE
        go_wp2_with (first | (go_at_call 16; refine hg.mono ?_; rintro e wn ⟨rfl, hR2, hK2⟩))
        go_roundw
        case rel =>
          refine ⟨k + 1, Bi.gN bs t', 2 * v' + Bi.gR bs t', by omega, ?_, by go_num, hR2, hK1.trans hK2, hgn, ?_, by omega, ?_⟩
          · rw [Int.mul_comm]
          · show _ = _
            have := HJ.out
            rw [show n - (k + 1) = j by omega]
            exact HQ.out
          · show _ ≤ _
            have := hv1.out
            rw [Int.pow_succ]
            omega
        case measure => simp [intOf]; omega
      · rw [if_neg (by rw [hE]; decide)] at hq2
        rw [hE] at hg hq2
        have hn1 : Bi.gN bs t' = t' := by simp [Bi.gN, hE]
        rw [hn1] at hg
        have HQ := Lib.hid hq2
        clear hq2 hE hn1
        go_wp2_with (first | (go_at_call 16; refine hg.mono ?_; rintro e wn ⟨rfl, hR2, hK2⟩))
        go_ret2
        rw [← HQ.out]
        exact ⟨rfl, hR2, hK1.trans hK2⟩
      · rw [if_neg (by rw [hE]; decide)] at hq2
        rw [hE] at hg hq2
        have hn1 : Bi.gN bs t' = t' := by simp [Bi.gN, hE]
        rw [hn1] at hg
        have HQ := Lib.hid hq2
        clear hq2 hE hn1
        go_wp2_with (first | (go_at_call 16; refine hg.mono ?_; rintro e wn ⟨rfl, hR2, hK2⟩))
        go_ret2
        rw [← HQ.out]
        exact ⟨rfl, hR2, hK1.trans hK2⟩
    · obtain rfl : k = n := by omega
      go_wp2_with fail
      go_ret2
      have := hq.out
      rw [Nat.sub_self, Bi.rdg] at this
      rw [← this]
      exact ⟨rfl, hR1, hK1⟩
theorem whole_c (w : World) (B a : Nat) (bs : List Int) (t t1 : Nat) (v c : Int) (gf : Nat) (lb : Array Value) (hR : Rd w B a bs t) (eg : ∀ args w, (callFunc gf args).run Try.prog w = .ok (.enter gf args) w)
    (hC : Calls Try.prog gf lb w (RGives B a bs t1 v c w)) (hc : c = 0 ∨ c = 7 ∨ c = 8) :
    Calls Try.prog 76 #[.pointer (some ⟨a, 0, none⟩), .func (.func gf) #[] lb] w (RGives B a bs (if c = 0 then t1 else t) v c w) := by
  have c2 : w.cell? ⟨a, 2, none⟩ = some (.int .i64 t) := hR.elim fun _ h => h.blk.cell 2
  rcases hc with rfl | rfl | rfl
  · go_enter Try.func76, Try.ntmps76
    go_wp2_with (first | (go_at_fn gf; (with_reducible refine hC.mono ?_); rintro e wn ⟨rfl, hR2, hK2⟩))
    go_ret2
    exact ⟨rfl, hR2, hK2⟩
  · go_enter Try.func76, Try.ntmps76
    go_wp2_with (first | (go_at_fn gf; (with_reducible refine hC.mono ?_); rintro e wn ⟨rfl, hR2, hK2⟩; have d2 : wn.cell? ⟨a, 2, none⟩ = some (.int .i64 t1) := hR2.elim (fun _ h => h.blk.cell 2); have df := hR2.elim (fun _ h => h.blk.free)))
    go_ret2
    exact ⟨rfl, (hR2.setAt t).1, hK2.trans (hR2.setAt t).2⟩
  · go_enter Try.func76, Try.ntmps76
    go_wp2_with (first | (go_at_fn gf; (with_reducible refine hC.mono ?_); rintro e wn ⟨rfl, hR2, hK2⟩; have d2 : wn.cell? ⟨a, 2, none⟩ = some (.int .i64 t1) := hR2.elim (fun _ h => h.blk.cell 2); have df := hR2.elim (fun _ h => h.blk.free)))
    go_ret2
    exact ⟨rfl, (hR2.setAt t).1, hK2.trans (hR2.setAt t).2⟩
/-- What Bits of a reader returns: the number, the error, the place. -/
def rbV (bs : List Int) (t : Nat) (n : Int) : Int := if dgB n then (Bi.rdg bs n.toNat t 0).1 else 0
def rbE (bs : List Int) (t : Nat) (n : Int) : Int := if dgB n then (Bi.rdg bs n.toNat t 0).2.1 else 1
def rbT (bs : List Int) (t : Nat) (n : Int) : Nat := if dgB n then (if (Bi.rdg bs n.toNat t 0).2.1 = 0 then (Bi.rdg bs n.toNat t 0).2.2 else t) else t
set_option maxHeartbeats 1000000 in
theorem bits1_c (w : World) (B a bx bn : Nat) (bs : List Int) (t n : Nat) (hR : Rd w B a bs t) (ht : t ≤ 8 * bs.length) (hb : Bi.bytes bs) (hl : bs.length ≤ 100000000) (hn : n ≤ 32)
    (h1 : w.cell? ⟨bx, 0, none⟩ = some (.pointer (some ⟨a, 0, none⟩))) (h2 : w.cell? ⟨bn, 0, none⟩ = some (.int .i64 n)) :
    Calls Try.prog 77 #[.pointer (some ⟨bx, 0, none⟩), .pointer (some ⟨bn, 0, none⟩)] w (RGives B a bs (Bi.rdg bs n t 0).2.2 (Bi.rdg bs n t 0).1 (Bi.rdg bs n t 0).2.1 w) := by
  have hd := rdigits_c w B a bs t n 0 hR ht hb hl hn (by decide)
  go_enter Try.func77, Try.ntmps77
  go_wp2_with (first | (go_at_call 78; refine hd.mono ?_; rintro e wn ⟨rfl, hR2, hK2⟩))
  go_ret2
  exact ⟨rfl, hR2, hK2⟩
theorem made_low {w w1 : World} {B a : Nat} {bs : List Int} {t : Nat} (hR : Rd w B a bs t) (hb : Below w.heap.size w w1) : Rd w1 B a bs t ∧ Kp a w w1 := ⟨hR.below hb, Kp.of_below hb hR.lt⟩
set_option maxHeartbeats 1000000 in
theorem rbits_c (w : World) (B a : Nat) (bs : List Int) (t : Nat) (n : Int) (hR : Rd w B a bs t) (ht : t ≤ 8 * bs.length) (hb : Bi.bytes bs) (hl : bs.length ≤ 100000000) :
    Calls Try.prog 46 #[.pointer (some ⟨a, 0, none⟩), .int .i64 n] w (RGives B a bs (rbT bs t n) (rbV bs t n) (rbE bs t n) w) := by
  have c0 := hR.made
  have hA : Below w.heap.size w ((w.alloc (.cells #[.pointer (some ⟨a, 0, none⟩)] 26)).alloc (.cells #[.int .i64 n] 3)) := below_alloc (below_alloc (Below.refl _ _) _) _
  obtain ⟨hR1, hK1⟩ := made_low hR hA
  have c1 := hR1.made
  unfold rbT rbV rbE
  have hi := isD_c n
  cases hd : dgB n with
  | false =>
    rw [hd] at hi
    go_enter Try.func46, Try.ntmps46
    go_wp2_with (first | (go_at_call 48; refine (rmade_y _ _ c1).mono ?_; rintro e wn ⟨rfl, rfl⟩) | (go_at_call 75; refine (hi _).mono ?_; rintro e wn ⟨rfl, rfl⟩))
    go_ret2
    exact ⟨rfl, hR1, hK1⟩
  | true =>
    rw [hd] at hi
    have hd' : 0 ≤ n ∧ n ≤ 32 := by simpa [dgB] using hd
    obtain ⟨k, rfl⟩ : ∃ k : Nat, n = k := ⟨n.toNat, by omega⟩
    have hk : k ≤ 32 := by omega
    have hC := bits1_c _ B a w.heap.size (w.heap.size + 1) bs t k hR1 ht hb hl hk (by simp) (by simp)
    have hW := whole_c _ B a bs t _ _ _ 77 _ hR1 (enters_of (fn := Try.f77) (by kernel_rfl) (by kernel_rfl) rfl) hC (Bi.rdg_err bs k t 0)
    simp only [Int.toNat_natCast, if_true]
    clear hC hd hd'
    generalize Bi.rdg bs k t 0 = R at *
    generalize (if R.2.1 = 0 then R.2.2 else t) = T at *
    go_enter Try.func46, Try.ntmps46
    go_wp2_with (first | (go_at_call 48; refine (rmade_y _ _ c1).mono ?_; rintro e wn ⟨rfl, rfl⟩) | (go_at_call 75; refine (hi _).mono ?_; rintro e wn ⟨rfl, rfl⟩) | (go_at_call 76; (with_reducible refine hW.mono ?_); rintro e wn ⟨rfl, hR2, hK2⟩))
    go_ret2
    exact ⟨rfl, hR2, hK1.trans hK2⟩
end Go.Proofs.Ytaddendclipkkaa
