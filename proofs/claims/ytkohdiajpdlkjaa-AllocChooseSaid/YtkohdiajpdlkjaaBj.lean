/-
  Layer 21: the walk of AllocChoose, over the reference's steps.
-/
import Derived.Test.YtkohdiajpdlkjaaBi
import Derived.Test.YtkohdiajpdlkjaaBb
set_option maxRecDepth 100000
namespace Go.Proofs.Ytkohdiajpdlkjaa
open Go.RowKit

theorem same_nil (w : World) : Calls Try.prog 10 #[.slice none 0 0, .slice none 0 0] w fun e w' => e = .returned (.bool true) ∧ Below w.heap.size w w' := same3_t w [] none none 0 0 0 rfl (.inl rfl) (.inl rfl) (by decide)
set_option maxHeartbeats 2000000 in
theorem choose_walk (KS : StepsOk) (cs : List Cv) (b : Int) (s : Option Addr) (m : Nat) (W : World) (hC : HoldsCv W s cs) : Calls Try.prog 3 #[.slice s cs.length m, .int .i64 b] W fun e w' => e = .returned (.bool true) ∧ Below W.heap.size W w' := by
  have kf := few_c s cs.length m cs W hC rfl
  have ke := fun W1 : World => ex21_c W1
  by_cases hz : fewB cs = true
  · have h40 : cs.length ≤ 40 := (of_decide_eq_true hz).1
    rw [hz] at kf
    clear hz
    by_cases hok : okC cs
    · by_cases hb : b < -1
      · have k1 := fun (W1 : World) (h : Below W.heap.size W W1) => choose_range s cs.length m b cs W1 (hC.below h (Nat.le_refl _)) rfl hok hb
        have k2 := fun (W1 : World) (h : Below W.heap.size W W1) => rchoose_range s cs.length m b cs W1 (hC.below h (Nat.le_refl _)) rfl hok hb
        have kt := same_nil
        clear hb
        clear hC hok
        go_enter Try.func3, Try.ntmps3
        go_wp2_with (first | (go_at_call 6; (with_reducible refine kf.mono ?_); rintro e w1 ⟨rfl, hb1⟩; have B1 := Lib.hid hb1; clear hb1) | (go_at_call 8; (with_reducible refine (k1 _ B1.out).mono ?_); rintro e w2 ⟨rfl, hb2⟩; have B2 := Lib.hid (B1.out.trans (hb2.mono B1.out.size)); clear hb2) | (go_at_call 9; (with_reducible refine (k2 _ B2.out).mono ?_); rintro e w3 ⟨rfl, hb3⟩; have B3 := Lib.hid (B2.out.trans (hb3.mono B2.out.size)); clear hb3) | (go_at_call 10; (with_reducible refine (kt _).mono ?_); rintro e w4 ⟨rfl, hb4⟩; have B4 := Lib.hid (B3.out.trans (hb4.mono B3.out.size)); clear hb4) | (go_at_call 7; (with_reducible refine (ke _).mono ?_); rintro e w5 ⟨rfl, hb5⟩; have B5 := Lib.hid (B4.out.trans (hb5.mono B4.out.size)); clear hb5) | fail)
        go_ret
        exact ⟨rfl, B5.out⟩
      · have k1 := fun (W1 : World) (h : Below W.heap.size W W1) => choose_y s cs.length m b cs W1 (hC.below h (Nat.le_refl _)) rfl hok (by omega)
        have k2 := fun (W1 : World) (h : Below W.heap.size W W1) => rchoose_y KS s cs.length m b cs W1 (hC.below h (Nat.le_refl _)) rfl hok (by omega)
        simp only [chs_len] at k1
        have kt := fun (w : World) (g1 g2 : Nat) (h1 : Blk w g1 3 (cI (chs cs b))) (h2 : Blk w g2 3 (cI (chs cs b))) => same3_t w (chs cs b) (some ⟨g1, 0, none⟩) (some ⟨g2, 0, none⟩) cs.length cs.length cs.length (chs_len cs b).symm (blk_holds h1) (blk_holds h2) (by rw [chs_len]; omega)
        generalize chs cs b = l at k1 k2 kt
        generalize cs.length = n at *
        clear hC hok hb
        go_enter Try.func3, Try.ntmps3
        go_wp2_with (first | (go_at_call 6; (with_reducible refine kf.mono ?_); rintro e w1 ⟨rfl, hb1⟩; have B1 := Lib.hid hb1; clear hb1) | (go_at_call 8; (with_reducible refine (k1 _ B1.out).mono ?_); rintro e w2 ⟨g1, rfl, hd, hb2⟩; have B2 := Lib.hid (B1.out.trans (hb2.mono B1.out.size)); have D1 := Lib.hid hd; clear hb2 hd) | (go_at_call 9; (with_reducible refine (k2 _ B2.out).mono ?_); rintro e w3 ⟨g2, rfl, hd, hb3⟩; have B3 := Lib.hid (B2.out.trans (hb3.mono B2.out.size)); have D2 := Lib.hid (And.intro (D1.out.below hb3) hd); clear hb3 hd) | (go_at_call 10; (with_reducible refine (kt _ _ _ D2.out.1 D2.out.2).mono ?_); rintro e w4 ⟨rfl, hb4⟩; have B4 := Lib.hid (B3.out.trans (hb4.mono B3.out.size)); clear hb4) | (go_at_call 7; (with_reducible refine (ke _).mono ?_); rintro e w5 ⟨rfl, hb5⟩; have B5 := Lib.hid (B4.out.trans (hb5.mono B4.out.size)); clear hb5) | fail)
        go_ret
        exact ⟨rfl, B5.out⟩
    · have k1 := fun (W1 : World) (h : Below W.heap.size W W1) => choose_bad s cs.length m b cs W1 (hC.below h (Nat.le_refl _)) rfl (by omega) hok
      have k2 := fun (W1 : World) (h : Below W.heap.size W W1) => rchoose_bad s cs.length m b cs W1 (hC.below h (Nat.le_refl _)) rfl (by omega) hok
      have kt := same_nil
      clear hC hok
      go_enter Try.func3, Try.ntmps3
      go_wp2_with (first | (go_at_call 6; (with_reducible refine kf.mono ?_); rintro e w1 ⟨rfl, hb1⟩; have B1 := Lib.hid hb1; clear hb1) | (go_at_call 8; (with_reducible refine (k1 _ B1.out).mono ?_); rintro e w2 ⟨rfl, hb2⟩; have B2 := Lib.hid (B1.out.trans (hb2.mono B1.out.size)); clear hb2) | (go_at_call 9; (with_reducible refine (k2 _ B2.out).mono ?_); rintro e w3 ⟨rfl, hb3⟩; have B3 := Lib.hid (B2.out.trans (hb3.mono B2.out.size)); clear hb3) | (go_at_call 10; (with_reducible refine (kt _).mono ?_); rintro e w4 ⟨rfl, hb4⟩; have B4 := Lib.hid (B3.out.trans (hb4.mono B3.out.size)); clear hb4) | (go_at_call 7; (with_reducible refine (ke _).mono ?_); rintro e w5 ⟨rfl, hb5⟩; have B5 := Lib.hid (B4.out.trans (hb5.mono B4.out.size)); clear hb5) | fail)
      go_ret
      exact ⟨rfl, B5.out⟩
  · have hz2 : fewB cs = false := by simpa using hz
    rw [hz2] at kf
    clear hC hz
    go_enter Try.func3, Try.ntmps3
    go_wp2_with (first | (go_at_call 6; (with_reducible refine kf.mono ?_); rintro e w1 ⟨rfl, hb1⟩; have B1 := Lib.hid hb1; clear hb1) | (go_at_call 7; (with_reducible refine (ke _).mono ?_); rintro e w2 ⟨rfl, hb2⟩; have B2 := Lib.hid (B1.out.trans (hb2.mono B1.out.size)); clear hb2) | fail)
    go_ret
    exact ⟨rfl, B2.out⟩
end Go.Proofs.Ytkohdiajpdlkjaa
