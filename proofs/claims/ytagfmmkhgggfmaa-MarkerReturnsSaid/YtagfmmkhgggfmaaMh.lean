/-
  Layer 28: contract of the code's Append.
-/
import Derived.Test.YtagfmmkhgggfmaaMg
set_option maxRecDepth 100000
namespace Go.Proofs.Ytagfmmkhgggfmaa
open Go.RowKit

theorem ap_cases (c : Int) (p : List Int) : (Mk.known c = false ∧ Mk.apE c p = 11) ∨ (Mk.known c = true ∧ Mk.bare c = true ∧ 0 < p.length ∧ Mk.apE c p = 4) ∨
    (Mk.known c = true ∧ Mk.bare c = true ∧ p = [] ∧ Mk.apE c p = 0 ∧ Mk.seg c p = Mk.dg c 2) ∨
    (Mk.known c = true ∧ Mk.bare c = false ∧ 65533 < p.length ∧ Mk.apE c p = 5) ∨
    (Mk.known c = true ∧ Mk.bare c = false ∧ p.length ≤ 65533 ∧ Mk.apE c p = 0 ∧ Mk.seg c p = Mk.dg c 2 ++ (Mk.dg (p.length + 2) 2 ++ p)) := by
  unfold Mk.apE Mk.seg
  cases h : Mk.known c
  · left; simp
  · right
    cases h2 : Mk.bare c
    · right; right
      by_cases h3 : 65533 < p.length
      · left; simp [h3]
      · right; simp [h3]; omega
    · by_cases h3 : 0 < p.length
      · left; simp [h3]
      · right; left
        obtain rfl : p = [] := List.length_eq_zero_iff.1 (by omega)
        simp
theorem digits2_c (v : Int) (w : World) : Calls Try.prog 27 #[.int .i64 v, .int .i64 2] w (GivesB (Mk.dg v 2) w) := digits_c v 2 w (by omega)
set_option maxHeartbeats 1000000 in
theorem append_c (bs : List Int) (s : Option Addr) (m : Nat) (c : Int) (p : List Int) (sp : Option Addr) (mp : Nat) (w : World) (hH : HoldsB w s bs) (hs : s = none → bs = [] ∧ m = 0) (hl : bs.length ≤ 1000000) (hP : HoldsB w sp p) (hsp : sp = none → p = [] ∧ mp = 0) (hp : p.length ≤ 1000000) :
    Calls Try.prog 15 #[.slice s bs.length m, .agg #[.int .i64 c, .slice sp p.length mp]] w (GivesBE (Mk.ap bs c p) (Mk.apE c p) w) := by
  have kk := known_c c (w.alloc (.cells #[.int .i64 c, .slice sp p.length mp] 26))
  have kb := bare_c c (w.alloc (.cells #[.int .i64 c, .slice sp p.length mp] 26))
  have B0 : Below w.heap.size w (w.alloc (.cells #[.int .i64 c, .slice sp p.length mp] 26)) := (Below.refl _ _).alloc (Nat.le_refl _) _
  rcases ap_cases c p with ⟨h, e⟩ | ⟨h, h1, h2, e⟩ | ⟨h, h1, h2, e, e3⟩ | ⟨h, h1, h2, e⟩ | ⟨h, h1, h2, e, e3⟩
  · have e2 : Mk.ap bs c p = [] := by rw [Mk.ap, e]; rfl
    have HB := Lib.hid B0
    rw [e, e2]; rw [h] at kk; clear e e2 h hs hsp kb hH hP B0
    go_enter Try.func15, Try.ntmps15
    go_wp2_with (first | (go_at_call 10; (with_reducible refine kk.mono ?_); rintro e wn ⟨rfl, rfl⟩) | fail)
    go_ret2
    exact ⟨_, rfl, World.ownsRow_nil _ _ _ _, HB.out⟩
  · have e2 : Mk.ap bs c p = [] := by rw [Mk.ap, e]; rfl
    have HB := Lib.hid B0
    rw [e, e2]; rw [h] at kk; rw [h1] at kb; clear e e2 h h1 hs hsp hH hP B0
    go_enter Try.func15, Try.ntmps15
    go_wp2_with (first | (go_at_call 10; (with_reducible refine kk.mono ?_); rintro e wn ⟨rfl, rfl⟩) | (go_at_call 12; (with_reducible refine kb.mono ?_); rintro e wn ⟨rfl, rfl⟩) | fail)
    go_ret2
    exact ⟨_, rfl, World.ownsRow_nil _ _ _ _, HB.out⟩
  · subst h2
    have e2 : Mk.ap bs c [] = bs ++ Mk.dg c 2 := by rw [Mk.ap, if_pos e, e3]
    have HB := Lib.hid B0
    have kd := digits2_c c (w.alloc (.cells #[.int .i64 c, .slice sp 0 mp] 26))
    have h1s := h1
    have HL := Lib.hid (Mk.dg_len c 2)
    rw [e, e2]; rw [h] at kk; rw [h1] at kb
    generalize Mk.dg c 2 = D at *
    have HH := Lib.hid (hH.call B0)
    have HS := Lib.hid hs
    clear e e2 e3 h h1 hs hsp hH hP B0
    have H1 := Lib.hid h1s
    have C0 := Lib.hid (show (w.alloc (.cells #[.int .i64 c, .slice sp 0 mp] 26)).cell? ⟨w.heap.size, 0, none⟩ = some (.int .i64 c) by simp)
    clear h1s
    simp only [List.length_nil] at *
    go_enter Try.func15, Try.ntmps15
    go_wp2_with (first | (go_at_call 10; (with_reducible refine kk.mono ?_); rintro e wn ⟨rfl, rfl⟩) | (go_at_call 12; (with_reducible refine kb.mono ?_); rintro e wn ⟨rfl, rfl⟩) | (go_at_call 12; (with_reducible refine kb2.mono ?_); rintro e wn ⟨rfl, rfl⟩) | (go_at_call 27; (with_reducible refine kd.mono ?_); rintro e w1 ⟨v1, rfl, ho, hb⟩; obtain ⟨_, sd, md, rfl, hd, _, hdn⟩ := HoldsB.of_own ho; have HB1 := Lib.hid (below_call HB.out hb); have HC := Lib.hid (concat2_c w1 s sd m md bs D (HH.out.call hb) hd HS.out hdn (by have := HL.out; omega)); have kb2 := bare_c c w1; rw [H1.out] at kb2; have d0 := (hb.cell (p := ⟨w.heap.size, 0, none⟩) (by simp)).trans C0.out; clear ho hdn hd hb kd kb) | (go_at_call 28; (with_reducible refine HC.out.mono ?_); rintro e w2 ⟨v2, rfl, ho2, hb2⟩; have HB2 := Lib.hid (below_call (below_alloc HB1.out _) hb2); have HO2 := Lib.hid (own_up ho2 (Nat.le_trans HB1.out.size (by simp))); clear ho2 hb2) | fail)
    go_ret2
    exact ⟨_, rfl, HO2.out, HB2.out⟩
  · have e2 : Mk.ap bs c p = [] := by rw [Mk.ap, e]; rfl
    have HB := Lib.hid B0
    rw [e, e2]; rw [h] at kk; rw [h1] at kb; clear e e2 h h1 hs hsp hH hP B0
    go_enter Try.func15, Try.ntmps15
    go_wp2_with (first | (go_at_call 10; (with_reducible refine kk.mono ?_); rintro e wn ⟨rfl, rfl⟩) | (go_at_call 12; (with_reducible refine kb.mono ?_); rintro e wn ⟨rfl, rfl⟩) | fail)
    go_ret2
    exact ⟨_, rfl, World.ownsRow_nil _ _ _ _, HB.out⟩
  · have e2 : Mk.ap bs c p = bs ++ (Mk.dg c 2 ++ (Mk.dg (p.length + 2) 2 ++ p)) := by rw [Mk.ap, if_pos e, e3]
    have HB := Lib.hid B0
    have kd := digits2_c c (w.alloc (.cells #[.int .i64 c, .slice sp p.length mp] 26))
    have hl2 := Mk.dg_len c 2
    have hl3 := Mk.dg_len (p.length + 2) 2
    have ke := fun W => digits2_c (p.length + 2) W
    have hcell := (show (w.alloc (.cells #[.int .i64 c, .slice sp p.length mp] 26)).cell? ⟨w.heap.size, 0, none⟩ = some (.int .i64 c) by simp)
    have hcell2 := (show (w.alloc (.cells #[.int .i64 c, .slice sp p.length mp] 26)).cell? ⟨w.heap.size, 1, none⟩ = some (.slice sp p.length mp) by simp)
    rw [e, e2]; rw [h] at kk; rw [h1] at kb
    generalize Mk.dg c 2 = D at *
    generalize Mk.dg (p.length + 2) 2 = F at *
    have HH := Lib.hid (hH.call B0)
    have HP := Lib.hid (hP.call B0)
    have HL := Lib.hid hl2
    have HM := Lib.hid hl3
    have HS := Lib.hid hs
    have HSP := Lib.hid hsp
    have H1 := Lib.hid h1
    have KE := Lib.hid ke
    have C0 := Lib.hid hcell
    have C1 := Lib.hid hcell2
    have e20 : (2 : Int) + (p.length : Int) = p.length + 2 := by omega
    clear e e2 e3 h h1 hs hsp hH hP B0 hl2 hl3 ke hcell hcell2
    go_enter Try.func15, Try.ntmps15
    go_wp2_with (first | (go_at_call 10; (with_reducible refine kk.mono ?_); rintro e wn ⟨rfl, rfl⟩) | (go_at_call 12; (with_reducible refine kb.mono ?_); rintro e wn ⟨rfl, rfl⟩) | (go_at_call 12; (with_reducible refine kb2.mono ?_); rintro e wn ⟨rfl, rfl⟩) | (go_at_call 27; (with_reducible refine kd.mono ?_); rintro e w1 ⟨v1, rfl, ho, hb⟩; obtain ⟨_, sd, md, rfl, hd, _, hdn⟩ := HoldsB.of_own ho; have HB1 := Lib.hid (below_call HB.out hb); have HH1 := Lib.hid (HH.out.call hb); have HP1 := Lib.hid (HP.out.call hb); have HD1 := Lib.hid hd; have HDN := Lib.hid hdn; have kb2 := bare_c c w1; rw [H1.out] at kb2; have ke := KE.out w1; have d0 := (hb.cell (p := ⟨w.heap.size, 0, none⟩) (by simp)).trans C0.out; have d1 := (hb.cell (p := ⟨w.heap.size, 1, none⟩) (by simp)).trans C1.out; clear ho hdn hd hb kd kb) | (go_at_call 27; (with_reducible refine ke.mono ?_); rintro e w2 ⟨v2, rfl, ho, hb⟩; obtain ⟨_, sf, mf, rfl, hf, _, hfn⟩ := HoldsB.of_own ho; have HB2 := Lib.hid (below_call HB1.out hb); have HC := Lib.hid (concat4_c w2 s sd sf sp m md mf mp bs D F p (HH1.out.call hb) (HD1.out.call hb) hf (HP1.out.call hb) HS.out HDN.out hfn HSP.out (by have := HL.out; have := HM.out; omega)); have d2 := (hb.cell (p := ⟨w.heap.size, 1, none⟩) (cell_lt d1)).trans d1; clear ho hfn hf hb ke d0 d1) | (go_at_call 28; (with_reducible refine HC.out.mono ?_); rintro e w3 ⟨v3, rfl, ho2, hb2⟩; have HB3 := Lib.hid (below_call (below_alloc HB2.out _) hb2); have HO3 := Lib.hid (own_up ho2 (Nat.le_trans HB2.out.size (by simp))); clear ho2 hb2) | fail)
    go_ret2
    exact ⟨_, rfl, HO3.out, HB3.out⟩
end Go.Proofs.Ytagfmmkhgggfmaa
