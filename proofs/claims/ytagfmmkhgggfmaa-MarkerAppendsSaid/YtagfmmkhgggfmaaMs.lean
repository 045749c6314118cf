/-
  Layer 28: contract of the reference's Read.
-/
import Derived.Test.YtagfmmkhgggfmaaMr
set_option maxRecDepth 100000
namespace Go.Proofs.Ytagfmmkhgggfmaa
open Go.RowKit

set_option maxHeartbeats 1000000 in
theorem rread_c (bs : List Int) (s : Option Addr) (m : Nat) (a : Int) (w : World) (hH : HoldsB w s bs) (hB : Mk.bytes bs) (hm : bs.length ≤ m) (hl : bs.length ≤ 1000000) (hl2 : m ≤ maxLen) :
    Calls Try.prog 18 #[.slice s bs.length m, .int .i64 a] w (GivesSeg (Mk.rs bs a) w) := by
  obtain ⟨W0, hW0⟩ : ∃ W0, W0 = w.alloc (.cells #[.int .i64 0, .slice none 0 0] 26) := ⟨_, rfl⟩
  have HB := Lib.hid (show Below w.heap.size w W0 by rw [hW0]; exact (Below.refl _ _).alloc (Nat.le_refl _) _)
  have HK := Lib.hid (show Blk W0 w.heap.size 26 #[.int .i64 0, .slice none 0 0] by rw [hW0]; exact Blk.new _ _ _)
  have HW0 := Lib.hid hW0
  have HH := Lib.hid (hH.call HB.out)
  have k1 := rreadUint_c bs s m a 2 W0 HH.out hB hm hl2
  have k2 := rreadUint_c bs s m (a + 2) 2 W0 HH.out hB hm hl2
  have kn := rknown_c (Mk.rdV bs a 2) W0
  have kb := rbare_c (Mk.rdV bs a 2) W0
  obtain ⟨c0, c1⟩ := HK.out.two
  have f0 := HK.out.free 0
  have f1 := HK.out.free 1
  clear hH hW0
  rcases rs_cases bs a with ⟨h, e⟩ | ⟨h, h1, e⟩ | ⟨h, h1, h2, e⟩ | ⟨h, h1, h2, h3, e⟩ | ⟨h, h1, h2, h3, h4, e⟩ | ⟨h, h1, h2, h3, h4, h5, e⟩ | ⟨h, h1, h2, h3, h4, h5, e⟩
  · rw [e]; clear e k2 kn kb hB
    by_cases h1 : a < 0
    · have hE : Mk.rdE bs a 2 = 2 := by rw [Mk.rdE, if_pos (.inr (.inl h1))]
      rw [hE]
      have d1 : decide (a < 0) = true := decide_eq_true h1
      clear h k1 hE
      go_enter Try.func18, Try.ntmps18
      go_upto_region 1 with fail
      rw [← HW0.out]
      go_wp2_with fail
      refine bodyPost_ret (results_stt rfl _ rfl rfl rfl (HK.out.set2 _ _)) rfl ?_
      exact ⟨_, rfl, World.ownsRow_nil _ _ _ _, (HB.out.setCell (Nat.le_refl _) _).setCell (Nat.le_refl _) _⟩
    by_cases h2 : (bs.length : Int) < a
    · have hE : Mk.rdE bs a 2 = 2 := by rw [Mk.rdE, if_pos (.inr (.inr h2))]
      rw [hE]
      have d1 : decide (a < 0) = false := decide_eq_false h1
      have d2 : decide ((bs.length : Int) < a) = true := decide_eq_true h2
      clear h k1 hE
      go_enter Try.func18, Try.ntmps18
      go_upto_region 1 with fail
      rw [← HW0.out]
      go_wp2_with fail
      refine bodyPost_ret (results_stt rfl _ rfl rfl rfl (HK.out.set2 _ _)) rfl ?_
      exact ⟨_, rfl, World.ownsRow_nil _ _ _ _, (HB.out.setCell (Nat.le_refl _) _).setCell (Nat.le_refl _) _⟩
    have d1 : decide (a < 0) = false := decide_eq_false h1
    have d2 : decide ((bs.length : Int) < a) = false := decide_eq_false h2
    generalize Mk.rdE bs a 2 = E at *
    generalize Mk.rdV bs a 2 = C at *
    have b1 : (E == 0) = false := by simpa using h
    have b2 : (E != 0) = true := by simpa using h
    clear h
    go_enter Try.func18, Try.ntmps18
    go_upto_region 1 with fail
    rw [← HW0.out]
    go_wp2_with (first | (go_at_call 26; (with_reducible refine k1.mono ?_); rintro e wn ⟨rfl, rfl⟩) | fail)
    refine bodyPost_ret (results_stt rfl _ rfl rfl rfl (HK.out.set2 _ _)) rfl ?_
    exact ⟨_, rfl, World.ownsRow_nil _ _ _ _, (HB.out.setCell (Nat.le_refl _) _).setCell (Nat.le_refl _) _⟩
  · have ha := Mk.rdE_ok h
    rw [e]; clear e k2 kb hB
    rw [h] at k1; rw [h1] at kn
    have d1 : decide (a < 0) = false := decide_eq_false (by omega)
    have d2 : decide ((bs.length : Int) < a) = false := decide_eq_false (by omega)
    generalize Mk.rdV bs a 2 = C at *
    clear h h1
    go_enter Try.func18, Try.ntmps18
    go_upto_region 1 with fail
    rw [← HW0.out]
    go_wp2_with (first | (go_at_call 26; (with_reducible refine k1.mono ?_); rintro e wn ⟨rfl, rfl⟩) | (go_at_call 11; (with_reducible refine kn.mono ?_); rintro e wn ⟨rfl, rfl⟩) | fail)
    refine bodyPost_ret (results_stt rfl _ rfl rfl rfl (HK.out.set2 _ _)) rfl ?_
    exact ⟨_, rfl, World.ownsRow_nil _ _ _ _, (HB.out.setCell (Nat.le_refl _) _).setCell (Nat.le_refl _) _⟩
  · have ha := Mk.rdE_ok h
    rw [e]; clear e k2 hB
    rw [h] at k1; rw [h1] at kn; rw [h2] at kb
    generalize Mk.rdV bs a 2 = C at *
    clear h h1 h2
    have d1 : decide (a < 0) = false := decide_eq_false (by omega)
    have d2 : decide ((bs.length : Int) < a) = false := decide_eq_false (by omega)
    have q1 : IntKind.i64.wrap (a + 2) = a + 2 := IntWalk.i64_in _ (by omega)
    go_enter Try.func18, Try.ntmps18
    go_upto_region 1 with fail
    rw [← HW0.out]
    go_wp2_with (first | (go_at_call 26; (with_reducible refine k1.mono ?_); rintro e wn ⟨rfl, rfl⟩) | (go_at_call 11; (with_reducible refine kn.mono ?_); rintro e wn ⟨rfl, rfl⟩) | (go_at_call 13; (with_reducible refine kb.mono ?_); rintro e wn ⟨rfl, rfl⟩) | fail)
    refine bodyPost_ret (results_stt rfl _ rfl rfl rfl (HK.out.set2 _ _)) rfl ?_
    exact ⟨_, rfl, World.ownsRow_nil _ _ _ _, (HB.out.setCell (Nat.le_refl _) _).setCell (Nat.le_refl _) _⟩
  · have ha := Mk.rdE_ok h
    rw [e]; clear e hB
    rw [h] at k1; rw [h1] at kn; rw [h2] at kb
    generalize Mk.rdV bs a 2 = C at *
    generalize Mk.rdE bs (a + 2) 2 = E at *
    generalize Mk.rdV bs (a + 2) 2 = N at *
    have b1 : (E == 0) = false := by simpa using h3
    have b2 : (E != 0) = true := by simpa using h3
    clear h h1 h2 h3
    have d1 : decide (a < 0) = false := decide_eq_false (by omega)
    have d2 : decide ((bs.length : Int) < a) = false := decide_eq_false (by omega)
    have q1 : IntKind.i64.wrap (a + 2) = a + 2 := IntWalk.i64_in _ (by omega)
    go_enter Try.func18, Try.ntmps18
    go_upto_region 1 with fail
    rw [← HW0.out]
    go_wp2_with (first | (go_at_call 26; (with_reducible refine k1.mono ?_); rintro e wn ⟨rfl, rfl⟩) | (go_at_call 26; (with_reducible refine k2.mono ?_); rintro e wn ⟨rfl, rfl⟩) | (go_at_call 11; (with_reducible refine kn.mono ?_); rintro e wn ⟨rfl, rfl⟩) | (go_at_call 13; (with_reducible refine kb.mono ?_); rintro e wn ⟨rfl, rfl⟩) | fail)
    refine bodyPost_ret (results_stt rfl _ rfl rfl rfl (HK.out.set2 _ _)) rfl ?_
    exact ⟨_, rfl, World.ownsRow_nil _ _ _ _, (HB.out.setCell (Nat.le_refl _) _).setCell (Nat.le_refl _) _⟩
  · have ha := Mk.rdE_ok h
    rw [e]; clear e hB
    rw [h] at k1; rw [h1] at kn; rw [h2] at kb; rw [h3] at k2
    generalize Mk.rdV bs a 2 = C at *
    generalize Mk.rdV bs (a + 2) 2 = N at *
    clear h h1 h2 h3
    have d1 : decide (a < 0) = false := decide_eq_false (by omega)
    have d2 : decide ((bs.length : Int) < a) = false := decide_eq_false (by omega)
    have q1 : IntKind.i64.wrap (a + 2) = a + 2 := IntWalk.i64_in _ (by omega)
    have b1 : decide (N < 2) = true := decide_eq_true h4
    go_enter Try.func18, Try.ntmps18
    go_upto_region 1 with fail
    rw [← HW0.out]
    go_wp2_with (first | (go_at_call 26; (with_reducible refine k1.mono ?_); rintro e wn ⟨rfl, rfl⟩) | (go_at_call 26; (with_reducible refine k2.mono ?_); rintro e wn ⟨rfl, rfl⟩) | (go_at_call 11; (with_reducible refine kn.mono ?_); rintro e wn ⟨rfl, rfl⟩) | (go_at_call 13; (with_reducible refine kb.mono ?_); rintro e wn ⟨rfl, rfl⟩) | fail)
    refine bodyPost_ret (results_stt rfl _ rfl rfl rfl (HK.out.set2 _ _)) rfl ?_
    exact ⟨_, rfl, World.ownsRow_nil _ _ _ _, (HB.out.setCell (Nat.le_refl _) _).setCell (Nat.le_refl _) _⟩
  · have ha := Mk.rdE_ok h
    rw [e]; clear e hB
    rw [h] at k1; rw [h1] at kn; rw [h2] at kb; rw [h3] at k2
    generalize Mk.rdV bs a 2 = C at *
    generalize Mk.rdV bs (a + 2) 2 = N at *
    clear h h1 h2 h3
    have d1 : decide (a < 0) = false := decide_eq_false (by omega)
    have d2 : decide ((bs.length : Int) < a) = false := decide_eq_false (by omega)
    have q1 : IntKind.i64.wrap (a + 2) = a + 2 := IntWalk.i64_in _ (by omega)
    have b1 : decide (N < 2) = false := decide_eq_false (by omega)
    have b2 : decide ((bs.length : Int) - a - 2 < N) = true := decide_eq_true (by omega)
    go_enter Try.func18, Try.ntmps18
    go_upto_region 1 with fail
    rw [← HW0.out]
    go_wp2_with (first | (go_at_call 26; (with_reducible refine k1.mono ?_); rintro e wn ⟨rfl, rfl⟩) | (go_at_call 26; (with_reducible refine k2.mono ?_); rintro e wn ⟨rfl, rfl⟩) | (go_at_call 11; (with_reducible refine kn.mono ?_); rintro e wn ⟨rfl, rfl⟩) | (go_at_call 13; (with_reducible refine kb.mono ?_); rintro e wn ⟨rfl, rfl⟩) | fail)
    refine bodyPost_ret (results_stt rfl _ rfl rfl rfl (HK.out.set2 _ _)) rfl ?_
    exact ⟨_, rfl, World.ownsRow_nil _ _ _ _, (HB.out.setCell (Nat.le_refl _) _).setCell (Nat.le_refl _) _⟩
  · have ha := Mk.rdE_ok h
    rw [e]; clear e hB
    rw [h] at k1; rw [h1] at kn; rw [h2] at kb; rw [h3] at k2
    generalize Mk.rdV bs a 2 = C at *
    generalize Mk.rdV bs (a + 2) 2 = N at *
    clear h h1 h2 h3
    obtain ⟨A, rfl⟩ : ∃ A : Nat, a = A := ⟨a.toNat, by omega⟩
    obtain ⟨n, rfl⟩ : ∃ n : Nat, N = ((n + 2 : Nat) : Int) := ⟨(N - 2).toNat, by omega⟩
    have d1 : decide ((A : Int) < 0) = false := decide_eq_false (by omega)
    have d2 : decide ((bs.length : Int) < (A : Int)) = false := decide_eq_false (by omega)
    have d3 : decide (bs.length < A) = false := decide_eq_false (by omega)
    have q1 : IntKind.i64.wrap ((A : Int) + 2) = (A : Int) + 2 := IntWalk.i64_in _ (by omega)
    have b1 : decide (((n + 2 : Nat) : Int) < 2) = false := decide_eq_false (by omega)
    have b2 : decide ((bs.length : Int) - (A : Int) - 2 < ((n + 2 : Nat) : Int)) = false := decide_eq_false (by omega)
    obtain ⟨P, hP⟩ : ∃ P, P = (bs.drop (A + 4)).take n := ⟨_, rfl⟩
    have hPl : P.length = n := by rw [hP]; simp; omega
    have hPP : List.take ((((n + 2 : Nat) : Int)).toNat - 2) (List.drop (((A : Int)).toNat + 4) bs) = P := by rw [hP, Int.toNat_natCast, Int.toNat_natCast, Nat.add_sub_cancel]
    rw [hPP]
    obtain ⟨sq, hsq⟩ : ∃ x, (if m = A + 4 then s else Option.map (fun x => x.add (A + 4)) s) = x := ⟨_, rfl⟩
    have hq : HoldsB W0 sq P ∧ sq ≠ none := by
      rw [← hsq]
      cases s with
      | none => have := holdsB_none HH.out; subst this; simp at ha; omega
      | some ad =>
        by_cases hn : n = 0
        · have : P = [] := List.length_eq_zero_iff.1 (by omega)
          exact ⟨.inl this, by split <;> simp⟩
        · rw [if_neg (by omega)]
          refine ⟨?_, fun h => by simp at h⟩
          rcases HH.out with h0 | ⟨b, off, e, hr⟩
          · subst h0; simp at ha; omega
          · injection e with e
            subst e
            have hh := HoldsB.part (.inr ⟨b, off, rfl, hr⟩ : HoldsB W0 (some ⟨b, off, none⟩) bs) (A + 4) n
            rw [hP]
            have e2 : Option.map (fun x : Addr => x.add (A + 4)) (some ⟨b, off, none⟩) = some ⟨b, off + (A + 4), none⟩ := by
              simp only [Option.map_some, Go.WideShapes.add_plain]
            rw [e2]
            exact hh
    have HX := Lib.hid (show Value.slice (if m = A + 4 then s else Option.map (fun x => x.add (A + 4)) s) (A + 2 + (n + 2) - (A + 4)) (m - (A + 4)) = .slice sq P.length (m - (A + 4)) by rw [hsq, hPl]; congr 1; omega)
    have HPL := Lib.hid hPl
    have HQ := Lib.hid hq.1
    have HGE := Lib.hid (show sq = none → P = [] ∧ m - (A + 4) = 0 from fun h => absurd h hq.2)
    clear hP hPl hPP hq hsq
    go_enter Try.func18, Try.ntmps18
    go_upto_region 1 with fail
    rw [← HW0.out]
    go_wp2_with (first | (go_at_call 26; (with_reducible refine k1.mono ?_); rintro e wn ⟨rfl, rfl⟩) | (go_at_call 26; (with_reducible refine k2.mono ?_); rintro e wn ⟨rfl, rfl⟩) | (go_at_call 11; (with_reducible refine kn.mono ?_); rintro e wn ⟨rfl, rfl⟩) | (go_at_call 13; (with_reducible refine kb.mono ?_); rintro e wn ⟨rfl, rfl⟩) | (at_builtin; refine wpApp rfl _ _ rfl W0.heap.size [] P _ _ rfl (Rw.new W0 _ (Nat.le_refl _)) sq (m - (A + 4)) (Eq.trans rfl HX.out) (HQ.out.call ((Below.refl _ _).alloc (Nat.le_refl _) _)) HGE.out (by have := HPL.out; simp only [List.length_nil]; omega) ?_; intro L1 s1 m1 w1 HL1 HR1; have HK1 := Lib.hid (HK.out.belowAt HR1.out.below (Blk.lt HK.out)); have g0 := HK1.out.cell 0; have g1 := HK1.out.cell 1; have h0 := HK1.out.free 0; have h1 := HK1.out.free 1; clear c0 c1 f0 f1) | fail)
    all_goals
      refine bodyPost_ret (results_stt rfl _ rfl rfl rfl (HK1.out.set2 _ _)) rfl ?_
      rw [show P = L1 by rw [HL1.out]; rfl]
      exact ⟨_, rfl, own_up (own_set (own_set HR1.out.own _ _ (Blk.lt HK.out)) _ _ (Blk.lt HK.out)) HB.out.size, ((HB.out.trans (HR1.out.below.mono HB.out.size)).setCell (Nat.le_refl _) _).setCell (Nat.le_refl _) _⟩
end Go.Proofs.Ytagfmmkhgggfmaa
