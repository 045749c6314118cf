/-
  Layer 21: the walk of AllocLayers, over the reference's steps.
-/
import Derived.Test.YtkohdiajpdlkjaaBm
set_option maxRecDepth 100000
namespace Go.Proofs.Ytkohdiajpdlkjaa
open Go.RowKit

theorem same_nilC (w : World) : Calls Try.prog 13 #[.slice none 0 0, .slice none 0 0] w fun e w' => e = .returned (.bool true) ∧ Below w.heap.size w w' := sameC_t w none none 0 0 0 0 (fun _ => []) (fun j hj => absurd hj (Nat.not_lt_zero _)) (fun j hj => absurd hj (Nat.not_lt_zero _)) (by decide) (by decide)
theorem layH_a {w : World} {g p n : Nat} {vs : List Value} {L : Nat → List Int} (h : Lay w g p p vs L) (hl : ∀ j, (L j).length = n) : LayH w (some ⟨g, 0, none⟩) p n L := fun j hj => by
  obtain ⟨gj, e, hb⟩ := h.own j hj
  refine ⟨g, 0, some ⟨gj, 0, none⟩, n, rfl, ?_, blk_holds hb, hl j⟩
  rw [Nat.zero_add, h.cell hj, e, hl j]
theorem layH_b {w : World} {base p n m : Nat} {s : Option Addr} {vs : List Value} {L : Nat → List Int} (h : w.ownsRow base 25 1 (.slice s p m) p vs) (hv : ∀ j, j < p → ∃ g, vs.getD j undef = .slice (some ⟨g, 0, none⟩) n n ∧ Blk w g 3 (cI (L j))) (hl : ∀ j, (L j).length = n) : LayH w s p n L := fun j hj => by
  obtain ⟨gj, e, hb⟩ := hv j hj
  rcases h.2 with ⟨_, h0⟩ | ⟨g, cap, cur, e1, h1, h2, h3, h4, h5, h6⟩
  · omega
  · injection e1 with e2 _ _
    subst e2
    have hlen := h.1
    refine ⟨g, 0, some ⟨gj, 0, none⟩, n, rfl, ?_, blk_holds hb, hl j⟩
    have hB : Blk w g 25 cur := h2
    rw [Nat.zero_add, hB.cell, ← Array.getElem?_toList, ← List.getElem?_take_of_lt (show j < p * 1 by omega), h6, List.getElem?_eq_getElem (by omega)]
    rw [List.getD_eq_getElem?_getD, List.getElem?_eq_getElem (by omega)] at e
    exact congrArg some e
set_option maxHeartbeats 2000000 in
theorem layers_walk (KS : StepsOk) (cs : List Cv) (B : List Int) (s t : Option Addr) (m q : Nat) (W : World) (hC : HoldsCv W s cs) (hL : HoldsI W t B) : Calls Try.prog 4 #[.slice s cs.length m, .slice t B.length q] W fun e w' => e = .returned (.bool true) ∧ Below W.heap.size W w' := by
  have kf := few_c s cs.length m cs W hC rfl
  have ke := fun W1 : World => ex21_c W1
  by_cases hz : fewB cs = true
  · have h40 : cs.length ≤ 40 := (of_decide_eq_true hz).1
    rw [hz] at kf
    clear hz
    by_cases hl : 40 < B.length
    · have hl2 : (40 : Int) < (B.length : Int) := by omega
      clear hC hL
      go_enter Try.func4, Try.ntmps4
      go_wp2_with (first | (go_at_call 6; (with_reducible refine kf.mono ?_); rintro e w1 ⟨rfl, hb1⟩; have B1 := Lib.hid hb1; clear hb1) | (go_at_call 7; (with_reducible refine (ke _).mono ?_); rintro e w2 ⟨rfl, hb2⟩; have B2 := Lib.hid (B1.out.trans (hb2.mono B1.out.size)); clear hb2) | fail)
      go_ret
      exact ⟨rfl, B2.out⟩
    · have hl2 : ¬ (40 : Int) < (B.length : Int) := by omega
      have kt := same_nilC
      by_cases hp : 16 < B.length
      · have k1 := fun (W1 : World) (_ : Below W.heap.size W W1) => (layers_lim (.slice s cs.length m) t B.length q W1 hp).mono (R' := fun e w' => e = .returned (.tuple #[.slice none 0 0, .int .i64 5]) ∧ Below W1.heap.size W1 w') (fun _ _ h => ⟨h.1, h.2 ▸ Below.refl _ _⟩)
        have k2 := fun (W1 : World) (_ : Below W.heap.size W W1) => (rlayers_lim (.slice s cs.length m) t B.length q W1 hp).mono (R' := fun e w' => e = .returned (.tuple #[.slice none 0 0, .int .i64 5]) ∧ Below W1.heap.size W1 w') (fun _ _ h => ⟨h.1, h.2 ▸ Below.refl _ _⟩)
        clear hC hL hp hl
        go_enter Try.func4, Try.ntmps4
        go_wp2_with (first | (go_at_call 6; (with_reducible refine kf.mono ?_); rintro e w1 ⟨rfl, hb1⟩; have B1 := Lib.hid hb1; clear hb1) | (go_at_call 11; (with_reducible refine (k1 _ B1.out).mono ?_); rintro e w2 ⟨rfl, hb2⟩; have B2 := Lib.hid (B1.out.trans (hb2.mono B1.out.size)); clear hb2) | (go_at_call 12; (with_reducible refine (k2 _ B2.out).mono ?_); rintro e w3 ⟨rfl, hb3⟩; have B3 := Lib.hid (B2.out.trans (hb3.mono B2.out.size)); clear hb3) | (go_at_call 13; (with_reducible refine (kt _).mono ?_); rintro e w4 ⟨rfl, hb4⟩; have B4 := Lib.hid (B3.out.trans (hb4.mono B3.out.size)); clear hb4) | (go_at_call 7; (with_reducible refine (ke _).mono ?_); rintro e w5 ⟨rfl, hb5⟩; have B5 := Lib.hid (B4.out.trans (hb5.mono B4.out.size)); clear hb5) | fail)
        go_ret
        exact ⟨rfl, B5.out⟩
      · by_cases hok : okC cs
        · by_cases hr : rise 0 B = true
          · have k1 := fun (W1 : World) (h : Below W.heap.size W W1) => layers_y s t cs.length m B.length q cs B W1 (hC.below h (Nat.le_refl _)) rfl hok (by omega) (hL.below h (Nat.le_refl _)) rfl hr
            have k2 := fun (W1 : World) (h : Below W.heap.size W W1) => rlayers_y KS s t cs.length m B.length q cs B W1 (hC.below h (Nat.le_refl _)) rfl hok (by omega) (hL.below h (Nat.le_refl _)) rfl hr
            have kt := fun (w : World) (a b : Option Addr) (ma mb : Nat) (h1 : LayH w a B.length cs.length (fun j => chs cs (B.getD j 0))) (h2 : LayH w b B.length cs.length (fun j => chs cs (B.getD j 0))) => sameC_t w a b B.length cs.length ma mb _ h1 h2 (by omega) (by omega)
            have LL := Lib.hid (fun j => chs_len cs (B.getD j 0))
            clear hC hL hp hl hok hr
            go_enter Try.func4, Try.ntmps4
            go_wp2_with (first | (go_at_call 6; (with_reducible refine kf.mono ?_); rintro e w1 ⟨rfl, hb1⟩; have B1 := Lib.hid hb1; clear hb1) | (go_at_call 11; (with_reducible refine (k1 _ B1.out).mono ?_); rintro e w2 ⟨g, vs, rfl, hd, _, hb2⟩; have B2 := Lib.hid (B1.out.trans (hb2.mono B1.out.size)); have D1 := Lib.hid (layH_a hd LL.out); clear hb2 hd) | (go_at_call 12; (with_reducible refine (k2 _ B2.out).mono ?_); rintro e w3 ⟨sv, mv, vs3, rfl, ho, hv, hb3⟩; have B3 := Lib.hid (B2.out.trans (hb3.mono B2.out.size)); have D2 := Lib.hid (And.intro (D1.out.below hb3) (layH_b ho hv LL.out)); clear hb3 ho hv) | (go_at_call 13; (with_reducible refine (kt _ _ _ _ _ D2.out.1 D2.out.2).mono ?_); rintro e w4 ⟨rfl, hb4⟩; have B4 := Lib.hid (B3.out.trans (hb4.mono B3.out.size)); clear hb4) | (go_at_call 7; (with_reducible refine (ke _).mono ?_); rintro e w5 ⟨rfl, hb5⟩; have B5 := Lib.hid (B4.out.trans (hb5.mono B4.out.size)); clear hb5) | fail)
            go_ret
            exact ⟨rfl, B5.out⟩
          · have hr2 : rise 0 B = false := by simpa using hr
            have k1 := fun (W1 : World) (h : Below W.heap.size W W1) => layers_range s t cs.length m B.length q cs B W1 (hC.below h (Nat.le_refl _)) rfl hok (by omega) (hL.below h (Nat.le_refl _)) rfl hr2
            have k2 := fun (W1 : World) (h : Below W.heap.size W W1) => rlayers_range s t cs.length m B.length q cs B W1 (hC.below h (Nat.le_refl _)) rfl hok (by omega) (hL.below h (Nat.le_refl _)) rfl hr2
            clear hC hL hp hl hok hr hr2
            go_enter Try.func4, Try.ntmps4
            go_wp2_with (first | (go_at_call 6; (with_reducible refine kf.mono ?_); rintro e w1 ⟨rfl, hb1⟩; have B1 := Lib.hid hb1; clear hb1) | (go_at_call 11; (with_reducible refine (k1 _ B1.out).mono ?_); rintro e w2 ⟨rfl, hb2⟩; have B2 := Lib.hid (B1.out.trans (hb2.mono B1.out.size)); clear hb2) | (go_at_call 12; (with_reducible refine (k2 _ B2.out).mono ?_); rintro e w3 ⟨rfl, hb3⟩; have B3 := Lib.hid (B2.out.trans (hb3.mono B2.out.size)); clear hb3) | (go_at_call 13; (with_reducible refine (kt _).mono ?_); rintro e w4 ⟨rfl, hb4⟩; have B4 := Lib.hid (B3.out.trans (hb4.mono B3.out.size)); clear hb4) | (go_at_call 7; (with_reducible refine (ke _).mono ?_); rintro e w5 ⟨rfl, hb5⟩; have B5 := Lib.hid (B4.out.trans (hb5.mono B4.out.size)); clear hb5) | fail)
            go_ret
            exact ⟨rfl, B5.out⟩
        · have k1 := fun (W1 : World) (h : Below W.heap.size W W1) => layers_bad s t cs.length m B.length q cs W1 (hC.below h (Nat.le_refl _)) rfl (by omega) hok (by omega)
          have k2 := fun (W1 : World) (h : Below W.heap.size W W1) => rlayers_bad s t cs.length m B.length q cs W1 (hC.below h (Nat.le_refl _)) rfl (by omega) hok (by omega)
          clear hC hL hp hl hok
          go_enter Try.func4, Try.ntmps4
          go_wp2_with (first | (go_at_call 6; (with_reducible refine kf.mono ?_); rintro e w1 ⟨rfl, hb1⟩; have B1 := Lib.hid hb1; clear hb1) | (go_at_call 11; (with_reducible refine (k1 _ B1.out).mono ?_); rintro e w2 ⟨rfl, hb2⟩; have B2 := Lib.hid (B1.out.trans (hb2.mono B1.out.size)); clear hb2) | (go_at_call 12; (with_reducible refine (k2 _ B2.out).mono ?_); rintro e w3 ⟨rfl, hb3⟩; have B3 := Lib.hid (B2.out.trans (hb3.mono B2.out.size)); clear hb3) | (go_at_call 13; (with_reducible refine (kt _).mono ?_); rintro e w4 ⟨rfl, hb4⟩; have B4 := Lib.hid (B3.out.trans (hb4.mono B3.out.size)); clear hb4) | (go_at_call 7; (with_reducible refine (ke _).mono ?_); rintro e w5 ⟨rfl, hb5⟩; have B5 := Lib.hid (B4.out.trans (hb5.mono B4.out.size)); clear hb5) | fail)
          go_ret
          exact ⟨rfl, B5.out⟩
  · have hz2 : fewB cs = false := by simpa using hz
    rw [hz2] at kf
    clear hC hL hz
    go_enter Try.func4, Try.ntmps4
    go_wp2_with (first | (go_at_call 6; (with_reducible refine kf.mono ?_); rintro e w1 ⟨rfl, hb1⟩; have B1 := Lib.hid hb1; clear hb1) | (go_at_call 7; (with_reducible refine (ke _).mono ?_); rintro e w2 ⟨rfl, hb2⟩; have B2 := Lib.hid (B1.out.trans (hb2.mono B1.out.size)); clear hb2) | fail)
    go_ret
    exact ⟨rfl, B2.out⟩
end Go.Proofs.Ytkohdiajpdlkjaa
