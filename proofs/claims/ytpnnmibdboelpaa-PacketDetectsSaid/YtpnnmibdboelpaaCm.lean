/-
  Layer 27: contract of readMark; what is read of a synchronization marker, in mathematics.
-/
import Derived.Test.YtpnnmibdboelpaaCd
import Derived.Laws.ResultCell
set_option maxRecDepth 100000
namespace Go.Proofs.Ytpnnmibdboelpaa
open Go.RowKit

def sub (bs : List Int) (a k n : Nat) : List Int := (bs.drop (a + k)).take n
structure Rm where
  q : Int
  n : Int
  c : Int
  e : Int
def rm (bs : List Int) (a : Int) : Rm :=
  if a < 0 ∨ a > bs.length then ⟨0, 0, 0, 2⟩
  else if (bs.length : Int) - a < 11 then ⟨0, 0, 0, 7⟩
  else if Mk.num (sub bs a.toNat 0 2) ≠ 65459 then ⟨0, 0, 0, 11⟩
  else if bs.getD (a.toNat + 10) 0 ≠ chk (sub bs a.toNat 0 10) then ⟨0, 0, 0, 17⟩
  else ⟨Mk.num (sub bs a.toNat 2 2), Mk.num (sub bs a.toNat 4 4), Mk.num (sub bs a.toNat 8 2), 0⟩
theorem rm_cases (bs : List Int) (a : Int) : (a < 0 ∧ rm bs a = ⟨0, 0, 0, 2⟩) ∨ (0 ≤ a ∧ (bs.length : Int) < a ∧ rm bs a = ⟨0, 0, 0, 2⟩) ∨ (0 ≤ a ∧ a ≤ bs.length ∧ (bs.length : Int) - a < 11 ∧ rm bs a = ⟨0, 0, 0, 7⟩) ∨
    (∃ A : Nat, a = A ∧ A + 11 ≤ bs.length ∧ ((Mk.num (sub bs A 0 2) ≠ 65459 ∧ rm bs a = ⟨0, 0, 0, 11⟩) ∨ (Mk.num (sub bs A 0 2) = 65459 ∧ bs.getD (A + 10) 0 ≠ chk (sub bs A 0 10) ∧ rm bs a = ⟨0, 0, 0, 17⟩) ∨
      (Mk.num (sub bs A 0 2) = 65459 ∧ bs.getD (A + 10) 0 = chk (sub bs A 0 10) ∧ rm bs a = ⟨Mk.num (sub bs A 2 2), Mk.num (sub bs A 4 4), Mk.num (sub bs A 8 2), 0⟩))) := by
  unfold rm
  by_cases h1 : a < 0
  · left; exact ⟨h1, by rw [if_pos (.inl h1)]⟩
  · right
    by_cases h2 : (bs.length : Int) < a
    · left; exact ⟨by omega, h2, by rw [if_pos (.inr h2)]⟩
    · right
      rw [if_neg (by omega)]
      by_cases h3 : (bs.length : Int) - a < 11
      · left; exact ⟨by omega, by omega, h3, by rw [if_pos h3]⟩
      · right
        rw [if_neg h3]
        refine ⟨a.toNat, by omega, by omega, ?_⟩
        by_cases h4 : Mk.num (sub bs a.toNat 0 2) = 65459
        · right
          rw [if_neg (by simp [h4])]
          by_cases h5 : bs.getD (a.toNat + 10) 0 = chk (sub bs a.toNat 0 10)
          · right; exact ⟨h4, h5, by rw [if_neg (fun h => h h5)]⟩
          · left; exact ⟨h4, h5, by rw [if_pos h5]⟩
        · left; exact ⟨h4, by rw [if_pos h4]⟩
theorem sub_len {bs : List Int} {a k n : Nat} (h : a + k + n ≤ bs.length) : (sub bs a k n).length = n := by simp [sub]; omega
theorem sub_bytes {bs : List Int} (h : Mk.bytes bs) (a k n : Nat) : Mk.bytes (sub bs a k n) := Mk.bytes_take (Mk.bytes_drop h _) _
theorem sub_holds {w : World} {b off : Nat} {bs : List Int} (h : HoldsB w (some ⟨b, off, none⟩) bs) (a k n : Nat) : HoldsB w (some ⟨b, off + (a + k), none⟩) (sub bs a k n) := h.part _ _
theorem Blk.three {w : World} {g : Nat} {t : TypeId} {a b c : Value} (h : Blk w g t #[a, b, c]) : w.cell? ⟨g, 0, none⟩ = some a ∧ w.cell? ⟨g, 1, none⟩ = some b ∧ w.cell? ⟨g, 2, none⟩ = some c := ⟨h.cell 0, h.cell 1, h.cell 2⟩
theorem Blk.set3 {w : World} {g : Nat} {t : TypeId} {a b c : Value} (h : Blk w g t #[a, b, c]) (x y z : Value) : Blk (((w.setCell ⟨g, 0, none⟩ x).setCell ⟨g, 1, none⟩ y).setCell ⟨g, 2, none⟩ z) g t #[x, y, z] := ((h.set 0 x).set 1 y).set 2 z
theorem load_mark {W : World} {g : Nat} {a b c : Value} (B : Blk W g 62 #[a, b, c]) : (loadVar 62 ⟨g, 0, none⟩).run Try.prog W = .ok (.agg #[a, b, c]) W := by
  obtain ⟨c0, c1, c2⟩ := B.three
  simp [loadVar, go_sem, c0, c1, c2]
theorem results_mt {fn : Func} {p u : Tmp} (h : fn.results = #[.cell p 62, .tmp u]) (tmps : Array Value) {W : World} {g : Nat} {a b c x : Value} (hp : tmps.getD p undef = .pointer (some ⟨g, 0, none⟩)) (hu : tmps.getD u undef = x) (B : Blk W g 62 #[a, b, c]) :
    (results fn tmps).run Try.prog W = .ok (.tuple #[.agg #[a, b, c], x]) W := by
  rw [results_cell_tmp h, hp, hu]
  have e : (asAddr (.pointer (some ⟨g, 0, none⟩))).run Try.prog W = .ok (⟨g, 0, none⟩ : Addr) W := rfl
  rw [e]
  simp only [Result.andThen]
  rw [load_mark B]
theorem drewN_below'' (w : World) (n : Nat) : Below w.heap.size w (w.drewN n) := by
  induction n with
  | zero => exact Below.refl _ _
  | succ n ih => exact ih.drew
def GivesRm (r : Rm) (w : World) (e : Ending) (w' : World) : Prop := e = .returned (.tuple #[.agg #[.int .i64 r.q, .int .i64 r.n, .int .i64 r.c], .int .i64 r.e]) ∧ Below w.heap.size w w'
set_option maxHeartbeats 2000000 in
theorem readMark_c (bs : List Int) (s : Option Addr) (m : Nat) (a : Int) (w : World) (hH : HoldsB w s bs) (hB : Mk.bytes bs) (hm : bs.length ≤ m) (hl : bs.length ≤ 1000000) :
    Calls Try.prog 24 #[.slice s bs.length m, .int .i64 a] w (GivesRm (rm bs a) w) := by
  obtain ⟨W0, hW0⟩ : ∃ W0, W0 = w.alloc (.cells #[.int .i64 0, .int .i64 0, .int .i64 0] 62) := ⟨_, rfl⟩
  have HB := Lib.hid (show Below w.heap.size w W0 by rw [hW0]; exact (Below.refl _ _).alloc (Nat.le_refl _) _)
  have HK := Lib.hid (show Blk W0 w.heap.size 62 #[.int .i64 0, .int .i64 0, .int .i64 0] by rw [hW0]; exact Blk.new _ _ _)
  have HW0 := Lib.hid hW0
  have HH := Lib.hid (hH.call HB.out)
  have ko := isOffset_c s bs.length m a W0
  obtain ⟨c0, c1, c2⟩ := HK.out.three
  have f0 := HK.out.free 0
  have f1 := HK.out.free 1
  have f2 := HK.out.free 2
  clear hH hW0
  rcases rm_cases bs a with ⟨h, e⟩ | ⟨h, h2, e⟩ | ⟨h, h2, h3, e⟩ | ⟨A, rfl, hA, hc⟩
  · rw [e]; rw [show offB bs.length a = false by simp [offB]; omega] at ko
    clear e h
    go_enter Try.func24, Try.ntmps24
    go_upto_region 1 with fail
    rw [← HW0.out]
    go_wp2_with (first | (go_at_call 28; (with_reducible refine ko.mono ?_); rintro e wn ⟨rfl, rfl⟩) | fail)
    refine bodyPost_ret (results_mt rfl _ rfl rfl (HK.out.set3 _ _ _)) rfl ?_
    exact ⟨rfl, ((HB.out.setCell (Nat.le_refl _) _).setCell (Nat.le_refl _) _).setCell (Nat.le_refl _) _⟩
  · rw [e]; rw [show offB bs.length a = false by simp [offB]; omega] at ko
    clear e h h2
    go_enter Try.func24, Try.ntmps24
    go_upto_region 1 with fail
    rw [← HW0.out]
    go_wp2_with (first | (go_at_call 28; (with_reducible refine ko.mono ?_); rintro e wn ⟨rfl, rfl⟩) | fail)
    refine bodyPost_ret (results_mt rfl _ rfl rfl (HK.out.set3 _ _ _)) rfl ?_
    exact ⟨rfl, ((HB.out.setCell (Nat.le_refl _) _).setCell (Nat.le_refl _) _).setCell (Nat.le_refl _) _⟩
  · rw [e]; rw [show offB bs.length a = true by simp [offB]; omega] at ko
    have d1 : decide ((bs.length : Int) - a < 11) = true := decide_eq_true h3
    clear e
    go_enter Try.func24, Try.ntmps24
    go_upto_region 1 with fail
    rw [← HW0.out]
    go_wp2_with (first | (go_at_call 28; (with_reducible refine ko.mono ?_); rintro e wn ⟨rfl, rfl⟩) | fail)
    refine bodyPost_ret (results_mt rfl _ rfl rfl (HK.out.set3 _ _ _)) rfl ?_
    exact ⟨rfl, ((HB.out.setCell (Nat.le_refl _) _).setCell (Nat.le_refl _) _).setCell (Nat.le_refl _) _⟩
  · rw [show offB bs.length A = true by simp [offB]; omega] at ko
    have d1 : decide ((bs.length : Int) - (A : Int) < 11) = false := decide_eq_false (by omega)
    obtain ⟨b, off, rfl, hr⟩ : ∃ b off, s = some ⟨b, off, none⟩ ∧ HoldsB W0 (some ⟨b, off, none⟩) bs := by
      rcases HH.out with h | ⟨b, off, e, hr⟩
      · exfalso; rw [h] at hA; simp at hA
      · exact ⟨b, off, e, .inr ⟨b, off, rfl, hr⟩⟩
    have HR := Lib.hid hr
    have K0 := Lib.hid (show Calls Try.prog 34 #[.slice (some ⟨b, off + A, none⟩) 2 (m - A)] W0 (fun e w' => e = .returned (.int .i64 (Mk.num (sub bs A 0 2))) ∧ W0 = w') by
      have h := number_c (sub bs A 0 2) (some ⟨b, off + (A + 0), none⟩) (m - A) W0 (sub_holds hr A 0 2) (sub_bytes hB _ _ _) (by rw [sub_len (by omega)]; omega)
      rwa [sub_len (by omega), Nat.add_zero] at h)
    have k0 := K0.out
    clear hr
    rcases hc with ⟨h, e⟩ | ⟨h, h2, e⟩ | ⟨h, h2, e⟩
    · rw [e]
      clear e
      generalize Mk.num (sub bs A 0 2) = N at *
      have b1 : (N == 65459) = false := by simpa using h
      have b2 : (N != 65459) = true := by simpa using h
      clear h
      go_enter Try.func24, Try.ntmps24
      go_upto_region 1 with fail
      rw [← HW0.out]
      go_wp2_with (first | (go_at_call 28; (with_reducible refine ko.mono ?_); rintro e wn ⟨rfl, rfl⟩) | (go_at_call 34; (with_reducible refine k0.mono ?_); rintro e wn ⟨rfl, rfl⟩) | fail)
      refine bodyPost_ret (results_mt rfl _ rfl rfl (HK.out.set3 _ _ _)) rfl ?_
      exact ⟨rfl, ((HB.out.setCell (Nat.le_refl _) _).setCell (Nat.le_refl _) _).setCell (Nat.le_refl _) _⟩
    · rw [e]
      clear e
      rw [h] at k0
      have kc : ∀ n, Calls Try.prog 33 #[.slice (some ⟨b, off + A, none⟩) 11 (m - A)] (W0.drewN n) (fun e w' => e = .returned (.int .u8 (chk (sub bs A 0 10))) ∧ w' = W0.drewN n) := fun n => by
        have h0 := check_c (sub bs A 0 11) (some ⟨b, off + (A + 0), none⟩) (m - A) (W0.drewN n) ((sub_holds HR.out A 0 11).call (drewN_below'' W0 n)) (sub_bytes hB _ _ _) (by rw [sub_len (by omega)]; omega) (by rw [sub_len (by omega)]; omega)
        rw [sub_len (by omega), Nat.add_zero, show (sub bs A 0 11).take 10 = sub bs A 0 10 by unfold sub; rw [List.take_take]; rfl] at h0
        exact h0.mono fun e w' z => ⟨z.1, z.2.symm⟩
      have cx : W0.cell? ⟨b, off + A + 10, none⟩ = some (.int .u8 (bs.getD (A + 10) 0)) := by
        rcases HR.out with h0 | ⟨b', off', e', hc⟩
        · exfalso; rw [h0] at hA; simp at hA
        · simp at e'
          obtain ⟨rfl, rfl⟩ := e'
          rw [Nat.add_assoc, hc (A + 10) (by omega), List.getD_eq_getElem?_getD, List.getElem?_eq_getElem (show A + 10 < bs.length by omega)]
          rfl
      have HX := Lib.hid h2
      generalize chk (sub bs A 0 10) = Y at *
      generalize bs.getD (A + 10) 0 = X at *
      have b1 : (X == Y) = false := by simpa using h2
      have b2 : (X != Y) = true := by simpa using h2
      clear h h2 HX
      go_enter Try.func24, Try.ntmps24
      go_upto_region 1 with fail
      rw [← HW0.out]
      go_upto_region 8 with (first | (go_at_call 28; (with_reducible refine ko.mono ?_); rintro e wn ⟨rfl, rfl⟩) | (go_at_call 34; (with_reducible refine k0.mono ?_); rintro e wn ⟨rfl, rfl⟩) | fail)
      go_quiet ((go_at_call 33; with_reducible exact Calls.quiet_of_same (kc _)))
      go_wp2_with fail
      have HK2 := Lib.hid (HK.out.below (drewN_below'' W0 nq))
      refine bodyPost_ret (results_mt rfl _ rfl rfl (HK2.out.set3 _ _ _)) rfl ?_
      exact ⟨rfl, (((HB.out.trans ((drewN_below'' W0 nq).mono HB.out.size)).setCell (Nat.le_refl _) _).setCell (Nat.le_refl _) _).setCell (Nat.le_refl _) _⟩
    · rw [e]
      clear e
      rw [h] at k0
      have kc : ∀ n, Calls Try.prog 33 #[.slice (some ⟨b, off + A, none⟩) 11 (m - A)] (W0.drewN n) (fun e w' => e = .returned (.int .u8 (chk (sub bs A 0 10))) ∧ w' = W0.drewN n) := fun n => by
        have h0 := check_c (sub bs A 0 11) (some ⟨b, off + (A + 0), none⟩) (m - A) (W0.drewN n) ((sub_holds HR.out A 0 11).call (drewN_below'' W0 n)) (sub_bytes hB _ _ _) (by rw [sub_len (by omega)]; omega) (by rw [sub_len (by omega)]; omega)
        rw [sub_len (by omega), Nat.add_zero, show (sub bs A 0 11).take 10 = sub bs A 0 10 by unfold sub; rw [List.take_take]; rfl] at h0
        exact h0.mono fun e w' z => ⟨z.1, z.2.symm⟩
      have cx : W0.cell? ⟨b, off + A + 10, none⟩ = some (.int .u8 (bs.getD (A + 10) 0)) := by
        rcases HR.out with h0 | ⟨b', off', e', hc⟩
        · exfalso; rw [h0] at hA; simp at hA
        · simp at e'
          obtain ⟨rfl, rfl⟩ := e'
          rw [Nat.add_assoc, hc (A + 10) (by omega), List.getD_eq_getElem?_getD, List.getElem?_eq_getElem (show A + 10 < bs.length by omega)]
          rfl
      rw [h2] at cx
      obtain ⟨Q, hQ⟩ : ∃ x, x = Mk.num (sub bs A 2 2) := ⟨_, rfl⟩
      obtain ⟨S, hS⟩ : ∃ x, x = Mk.num (sub bs A 4 4) := ⟨_, rfl⟩
      obtain ⟨C, hC⟩ : ∃ x, x = Mk.num (sub bs A 8 2) := ⟨_, rfl⟩
      rw [← hQ, ← hS, ← hC]
      have HQ := Lib.hid hQ
      have HS := Lib.hid hS
      have HC := Lib.hid hC
      clear hQ hS hC
      generalize chk (sub bs A 0 10) = Y at *
      have b1 : (Y == Y) = true := by simp
      have b2 : (Y != Y) = false := by simp
      clear h h2
      go_enter Try.func24, Try.ntmps24
      go_upto_region 1 with fail
      rw [← HW0.out]
      go_upto_region 8 with (first | (go_at_call 28; (with_reducible refine ko.mono ?_); rintro e wn ⟨rfl, rfl⟩) | (go_at_call 34; (with_reducible refine k0.mono ?_); rintro e wn ⟨rfl, rfl⟩) | fail)
      go_quiet ((go_at_call 33; with_reducible exact Calls.quiet_of_same (kc _)))
      go_upto_region 10 with fail
      have HK2 := Lib.hid (HK.out.below (drewN_below'' W0 nq))
      have B5 := Lib.hid (drewN_below'' W0 nq)
      have HB2 := Lib.hid (HB.out.trans ((drewN_below'' W0 nq).mono HB.out.size))
      generalize W0.drewN nq = W5 at *
      clear c0 c1 c2 f0 f1 f2 cx k0 ko
      have n2 : Calls Try.prog 34 #[.slice (some ⟨b, off + A + 2, none⟩) 2 (m - A - 2)] W5.drew (fun e w' => e = .returned (.int .i64 (Mk.num (sub bs A 2 2))) ∧ w' = W5.drew) := by
        have h := number_c (sub bs A 2 2) (some ⟨b, off + (A + 2), none⟩) (m - A - 2) W5.drew ((sub_holds HR.out A 2 2).call (B5.out.drew)) (sub_bytes hB _ _ _) (by rw [sub_len (by omega)]; omega)
        rw [sub_len (by omega), ← Nat.add_assoc] at h
        exact h.mono fun e w' z => ⟨z.1, z.2.symm⟩
      have n4 : Calls Try.prog 34 #[.slice (some ⟨b, off + A + 4, none⟩) 4 (m - A - 4)] W5.drew (fun e w' => e = .returned (.int .i64 (Mk.num (sub bs A 4 4))) ∧ w' = W5.drew) := by
        have h := number_c (sub bs A 4 4) (some ⟨b, off + (A + 4), none⟩) (m - A - 4) W5.drew ((sub_holds HR.out A 4 4).call (B5.out.drew)) (sub_bytes hB _ _ _) (by rw [sub_len (by omega)]; omega)
        rw [sub_len (by omega), ← Nat.add_assoc] at h
        exact h.mono fun e w' z => ⟨z.1, z.2.symm⟩
      have n8 : Calls Try.prog 34 #[.slice (some ⟨b, off + A + 8, none⟩) 2 (m - A - 8)] W5.drew (fun e w' => e = .returned (.int .i64 (Mk.num (sub bs A 8 2))) ∧ w' = W5.drew) := by
        have h := number_c (sub bs A 8 2) (some ⟨b, off + (A + 8), none⟩) (m - A - 8) W5.drew ((sub_holds HR.out A 8 2).call (B5.out.drew)) (sub_bytes hB _ _ _) (by rw [sub_len (by omega)]; omega)
        rw [sub_len (by omega), ← Nat.add_assoc] at h
        exact h.mono fun e w' z => ⟨z.1, z.2.symm⟩
      rw [← HQ.out] at n2
      rw [← HS.out] at n4
      rw [← HC.out] at n8
      obtain ⟨z0, z1, z2⟩ := (show Blk W5.drew w.heap.size 62 #[.int .i64 0, .int .i64 0, .int .i64 0] from HK2.out).three
      have g0 := (show Blk W5.drew w.heap.size 62 #[.int .i64 0, .int .i64 0, .int .i64 0] from HK2.out).free 0
      have g1 := (show Blk W5.drew w.heap.size 62 #[.int .i64 0, .int .i64 0, .int .i64 0] from HK2.out).free 1
      have g2 := (show Blk W5.drew w.heap.size 62 #[.int .i64 0, .int .i64 0, .int .i64 0] from HK2.out).free 2
      have a1 : (2 : Int) ≤ (m - A : Nat) := by omega
      have a2 : (4 : Int) ≤ (m - A : Nat) := by omega
      have a3 : (8 : Int) ≤ (m - A : Nat) := by omega
      have a4 : (10 : Int) ≤ (m - A : Nat) := by omega
      have zf2 : (m - A = 2) = False := by simp; omega
      have zf4 : (m - A = 4) = False := by simp; omega
      have zf8 : (m - A = 8) = False := by simp; omega
      refine wp_region_still_tail 10 (by kernel_rfl) (by kernel_rfl) ?_
      simp only [List.take_succ_cons, List.take_zero, List.drop_succ_cons, List.drop_zero]
      still_step
      still_step
      still_call n2
      still_step
      still_step
      still_call n4
      still_step
      still_step
      still_call n8
      still_step
      refine wpStill_nil ?_
      clear n2 n4 n8
      obtain ⟨y0, y1, y2⟩ := HK2.out.three
      have q0 := HK2.out.free 0
      have q1 := HK2.out.free 1
      have q2 := HK2.out.free 2
      go_wp2_with fail
      refine bodyPost_ret (results_mt rfl _ rfl rfl (HK2.out.set3 _ _ _).drew) rfl ?_
      exact ⟨rfl, (((HB2.out.setCell (Nat.le_refl _) _).setCell (Nat.le_refl _) _).setCell (Nat.le_refl _) _).drew⟩
end Go.Proofs.Ytpnnmibdboelpaa
