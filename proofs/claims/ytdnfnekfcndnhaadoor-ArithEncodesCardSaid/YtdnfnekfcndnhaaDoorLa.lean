/-
  Layer 11: same; the chapter's examples hold.
-/
import Derived.Test.YtdnfnekfcndnhaaDoorDc
import Derived.Test.YtdnfnekfcndnhaaDoorRh
set_option maxRecDepth 100000
namespace Go.Proofs.YtdnfnekfcndnhaaDoor
open Go.RowKit

theorem same11_t (w : World) (l : List Int) (s t : Option Addr) (n m k : Nat) (hn : n = l.length) (ha : HoldsB w s l) (hb : HoldsB w t l) (hl : l.length ≤ 1000000000) :
    Calls Tryd.prog 8 #[.slice s n m, .slice t n k] w fun e w' => e = .returned (.bool true) ∧ Below w.heap.size w w' := by
  subst hn
  have HA := Lib.hid ha
  have HB := Lib.hid hb
  clear ha hb
  go_enter Tryd.func8, Tryd.ntmps8
  go_wp2_with fail
  go_loopw [13] (fun i wr => ∃ j : Nat, j ≤ l.length ∧ i = .int .i64 (j : Int) ∧ Below w.heap.size w wr) (fun i _ => l.length - (intOf i).toNat)
  case atStart => exact ⟨0, Nat.zero_le _, rfl, Below.refl _ _⟩
  case round =>
    obtain ⟨j, hj, rfl, hW⟩ := hrel
    by_cases hlt : j < l.length
    · obtain ⟨g, off, rfl, hc⟩ := (HA.out.call hW).at hlt
      obtain ⟨g2, off2, rfl, hc2⟩ := (HB.out.call hW).at hlt
      generalize l.getD j 0 = x at *
      have hxx : (x != x) = false := by simp
      go_wp2_with fail
      go_quiet (fail)
      go_wp2_with fail
      go_roundw
      case rel => exact ⟨j + 1, by omega, by go_num, hW.trans ((drewN_below wr nq).mono hW.size)⟩
      case measure => simp [intOf]; omega
    · obtain rfl : j = l.length := by omega
      go_wp2_with fail
      go_ret
      exact ⟨rfl, hW⟩
theorem ptrEn (w : World) (a : Addr) : (binOp .eql 25 (.pointer (some a)) (.pointer none)).run Tryd.prog w = .ok (.bool false) w := by
  have h : ∀ d : Nat, (Op.equalIn (d + 1) 25 (.pointer (some a)) (.pointer none)).run Tryd.prog w = .ok false w := fun d => by
    simp [Op.equalIn, run_underlying (P := Tryd.prog) (t := 25) Tryd.underlying25]
  simp only [binOp]
  simp [Op.equal, Op.maxDepth, h 9999]
theorem ptrDn (w : World) (a : Addr) : (binOp .eql 41 (.pointer (some a)) (.pointer none)).run Tryd.prog w = .ok (.bool false) w := by
  have h : ∀ d : Nat, (Op.equalIn (d + 1) 41 (.pointer (some a)) (.pointer none)).run Tryd.prog w = .ok false w := fun d => by
    simp [Op.equalIn, run_underlying (P := Tryd.prog) (t := 41) Tryd.underlying41]
  simp only [binOp]
  simp [Op.equal, Op.maxDepth, h 9999]
def xa : Am.X := Am.step (x0 1) (0, 1)
theorem xa_sz : szF xa.2 = 4 := by decide +kernel
theorem xa_pr : Am.pr xa 0 = 1984 := by decide +kernel
theorem xa_cw : Am.cw xa.2 = [128] := by decide +kernel
theorem xa_len : xa.1.length = 1 := by decide +kernel
theorem xa_n : xa.2.n = 0 := by decide +kernel
theorem xa_ok : Am.OkX xa := Am.step_ok (x0_ok 1) (by decide) (by decide)
theorem by128 : Am.bytes [128] := by intro x hx; simp at hx; subst hx; exact ⟨by decide, by decide⟩
theorem xd_next : Am.dnext (List.replicate 1 2048, Am.St.init) (Am.fixd [128]) 0 = 1 := by decide +kernel
theorem ex_enc (w : World) (B a : Nat) (h : Ec w B a (x0 1)) : Calls Tryd.prog 13 #[.pointer (some ⟨a, 0, none⟩), .int .i64 0, .int .i64 1] w (EcGives B a xa 0 w) :=
  enc_y w B a (x0 1) 0 1 h (x0_ok 1) ⟨by decide, by decide, .inr rfl⟩ (by decide) (by decide)
theorem ex_p0 (w : World) (B a : Nat) (h : Ec w B a (x0 1)) : Calls Tryd.prog 17 #[.pointer (some ⟨a, 0, none⟩), .int .i64 0] w fun e w' => e = .returned (.int .i64 2048) ∧ w = w' := eprob_c w B a _ 0 h (by decide)
theorem ex_p1 (w : World) (B a : Nat) (h : Ec w B a xa) : Calls Tryd.prog 17 #[.pointer (some ⟨a, 0, none⟩), .int .i64 0] w fun e w' => e = .returned (.int .i64 1984) ∧ w = w' := by
  have := eprob_c w B a _ 0 h (by rw [xa_len]; decide)
  rw [xa_len, if_pos (by decide), xa_pr] at this
  exact this
theorem ex_s0 (w : World) (B a : Nat) (P : List Int) (h : Ec w B a (P, Am.St.init)) : Calls Tryd.prog 15 #[.pointer (some ⟨a, 0, none⟩)] w fun e w' => e = .returned (.int .i64 0) ∧ w = w' := esize_c w B a _ h (by decide : Am.St.init.n ≤ 1000000000)
theorem ex_s1 (w : World) (B a : Nat) (h : Ec w B a xa) : Calls Tryd.prog 15 #[.pointer (some ⟨a, 0, none⟩)] w fun e w' => e = .returned (.int .i64 4) ∧ w = w' := by
  have := esize_c w B a _ h (by rw [xa_n]; decide)
  rw [xa_sz] at this
  exact this
theorem ex_term (w : World) (B a : Nat) (h : Ec w B a xa) : Calls Tryd.prog 9 #[.pointer (some ⟨a, 0, none⟩)] w fun e w' => ∃ s m, e = .returned (.slice s 1 m) ∧ HoldsB w' s [128] ∧ Ec w' B a (xa.1, Am.St.init) ∧ Kp a w w' := by
  refine (eterm_c w B a xa h xa_ok.st (by rw [xa_n]; decide)).mono ?_
  rintro e w' ⟨s, m, he, hH, _, _, _, hR, hK⟩
  rw [xa_cw] at he hH
  exact ⟨s, m, he, hH, hR, hK⟩
theorem ex_start (w : World) (B a m : Nat) (s : Option Addr) (h : D0 w B a (List.replicate 1 2048)) (hH : HoldsB w s [128]) (hs : s ≠ none) : Calls Tryd.prog 20 #[.pointer (some ⟨a, 0, none⟩), .slice s 1 m] w (Started B a (List.replicate 1 2048) [128] w) := by
  obtain ⟨pv, h⟩ := h
  exact start_c w B a 0 m pv none s _ [] [128] 0 0 h hH (fun e => absurd e hs) by128 (by decide)
theorem ex_dec (w : World) (B a : Nat) (h : Ds w B a (List.replicate 1 2048, Am.St.init) (Am.fixd [128])) : Calls Tryd.prog 21 #[.pointer (some ⟨a, 0, none⟩), .int .i64 0] w fun e w' => e = .returned (.tuple #[.int .i64 1, .int .i64 0]) ∧ Below B w w' := by
  have := dec_y w B a _ _ 0 h (x0_ok 1) (Am.fixd_in by128) (Am.fixd_bytes by128) (by rw [Am.fixd_len]; decide) ⟨by decide, by decide⟩ (by decide)
  rw [xd_next] at this
  refine this.mono ?_
  rintro e w' ⟨he, _, hK⟩
  exact ⟨he, h.out hK⟩
theorem adF_e1 : adF 2048 0 = 2112 := by decide
theorem adF_e2 : adF 31 1 = 31 := by decide
theorem ex_a1 (w : World) : Calls Tryd.prog 22 #[.int .i64 2048, .int .i64 0] w fun e w' => e = .returned (.int .i64 2112) ∧ w = w' := by have := adapt_c 2048 0 w; rw [adF_e1] at this; exact this
theorem ex_a2 (w : World) : Calls Tryd.prog 22 #[.int .i64 31, .int .i64 1] w fun e w' => e = .returned (.int .i64 31) ∧ w = w' := by have := adapt_c 31 1 w; rw [adF_e2] at this; exact this
set_option maxHeartbeats 4000000 in
theorem awake11_c (w : World) : Calls Tryd.prog 5 #[] w fun e w' => e = .returned (.bool true) ∧ Below w.heap.size w w' := by
  go_enter Tryd.func5, Tryd.ntmps5
  go_wp2_with fail
  refine (enew_y 1 _ (by decide) (by decide)).mono ?_
  rintro e w1 ⟨a, rfl, hW, hB⟩
  have hs1 := hB.size
  have hp := fun W => ptrEn W ⟨a, 0, none⟩
  go_wp2_with fail
  refine (ex_p0 w1 _ a hW).mono ?_
  rintro e wn ⟨rfl, rfl⟩
  go_wp2_with fail
  refine (ex_s0 w1 _ a _ hW).mono ?_
  rintro e wn ⟨rfl, rfl⟩
  go_wp2_with fail
  refine (ex_enc w1 _ a hW).mono ?_
  rintro e w2 ⟨rfl, hW2, hK⟩
  replace hB := hB.trans (hW.out hK)
  clear hW hK
  go_wp2_with fail
  refine (ex_s1 w2 _ a hW2).mono ?_
  rintro e wn ⟨rfl, rfl⟩
  go_wp2_with fail
  refine (ex_p1 w2 _ a hW2).mono ?_
  rintro e wn ⟨rfl, rfl⟩
  go_wp2_with fail
  refine (ex_term w2 _ a hW2).mono ?_
  rintro e w5 ⟨s, m, rfl, hH, hW5, hK⟩
  replace hB := hB.trans (hW2.out hK)
  clear hW2 hK
  have hA : Below w5.heap.size w5 (w5.alloc (.cells #[.int .u8 128] 5)) := (Below.refl _ _).alloc (Nat.le_refl _) _
  have hN := holdsB_new w5 [128]
  replace hH := hH.call hA
  replace hB := hB.trans (hA.mono hB.size)
  replace hW5 := hW5.below hA
  clear hA
  go_wp2_with fail
  refine (same11_t _ [128] _ _ 1 _ _ rfl hH hN (by decide)).mono ?_
  rintro e w6 ⟨rfl, hb⟩
  replace hB := hB.trans (hb.mono hB.size)
  replace hW5 := hW5.below hb
  clear hH hN hb
  go_wp2_with fail
  refine (ex_s0 w6 _ a _ hW5).mono ?_
  rintro e wn ⟨rfl, rfl⟩
  clear hW5 hp
  go_wp2_with fail
  refine (dnew_y 1 _ (by decide) (by decide)).mono ?_
  rintro e w7 ⟨b, rfl, hD, hb⟩
  have hs6 := hB.size
  replace hB := hB.trans (hb.mono hB.size)
  have hp := fun W => ptrDn W ⟨b, 0, none⟩
  have hA : Below w7.heap.size w7 (w7.alloc (.cells #[.int .u8 128] 5)) := (Below.refl _ _).alloc (Nat.le_refl _) _
  have hN := holdsB_new w7 [128]
  replace hB := hB.trans (hA.mono hB.size)
  replace hD := hD.below hA
  clear hA hb
  go_wp2_with fail
  refine (ex_start _ _ b 1 _ hD hN (by simp)).mono ?_
  rintro e w8 ⟨rfl, hD8, hK⟩
  replace hB := hB.trans ((hD.out hK).mono hs6)
  clear hD hK hN
  go_wp2_with fail
  refine (ex_dec _ _ b hD8).mono ?_
  rintro e w9 ⟨rfl, hb⟩
  replace hB := hB.trans (hb.mono hs6)
  go_wp2_with fail
  refine (ex_a1 _).mono ?_
  rintro e wn ⟨rfl, rfl⟩
  go_wp2_with fail
  refine (ex_a2 _).mono ?_
  rintro e wn ⟨rfl, rfl⟩
  go_wp2_with fail
  go_ret
  exact ⟨rfl, hB⟩
end Go.Proofs.YtdnfnekfcndnhaaDoor
