/-
  Layer 21: contracts of few, SameInts, the examples.
-/
import Derived.Test.YtkohdiajpdlkjaaBa
import Derived.Test.YtkohdiajpdlkjaaAz
set_option maxRecDepth 100000
namespace Go.Proofs.Ytkohdiajpdlkjaa
open Go.RowKit

def fs (cs : List Cv) : Nat → Int
  | 0 => 0
  | k + 1 => IntKind.i64.wrap (fs cs k + IntKind.i64.wrap (((cs.getD k ([], [])).1.length : Int) + ((cs.getD k ([], [])).2.length : Int)))
/-- What few answers. -/
def fewB (cs : List Cv) : Bool := decide (cs.length ≤ 40 ∧ fs cs cs.length ≤ 400)
set_option maxHeartbeats 1000000 in
theorem few_c (a : Option Addr) (n m : Nat) (cs : List Cv) (W : World) (hC : HoldsCv W a cs) (hn : n = cs.length) :
    Calls Try.prog 6 #[.slice a n m] W fun e w' => e = .returned (.bool (fewB cs)) ∧ Below W.heap.size W w' := by
  have HC := Lib.hid hC
  have HN := Lib.hid hn
  clear hC hn
  by_cases h40 : 40 < n
  · have h1 : (40 : Int) < (n : Int) := by omega
    have hz : fewB cs = false := decide_eq_false (fun h => by have := HN.out; omega)
    go_enter Try.func6, Try.ntmps6
    go_wp2_with fail
    go_ret
    exact ⟨by rw [hz]; rfl, Below.refl _ _⟩
  · have h1 : ¬ (40 : Int) < (n : Int) := by omega
    go_enter Try.func6, Try.ntmps6
    go_wp2_with fail
    go_loopw [3, 11] (fun x i wr => ∃ k : Nat, ∃ s : Int, k ≤ n ∧ x = .int .i64 s ∧ i = .int .i64 (k : Int) ∧ Hid (Below W.heap.size W wr) ∧ Hid (s = fs cs k)) (fun _ i _ => n - (intOf i).toNat)
    case atStart => exact ⟨0, 0, Nat.zero_le _, rfl, rfl, Lib.hid (Below.refl _ _), Lib.hid rfl⟩
    case round =>
      obtain ⟨k, s, hk, rfl, rfl, hB, hS⟩ := hrel
      obtain ⟨w0, rfl⟩ : ∃ w0 : World, w0 = wr := ⟨_, rfl⟩
      by_cases hlt : k < n
      · have hkc : k < cs.length := by have := HN.out; omega
        obtain ⟨b0, off, sr, sd, mr, md, rfl, c0, c1, hR, hD⟩ := (HC.out.below hB.out (Nat.le_refl _)).at hkc
        clear hR hD
        have hN : Hid (IntKind.i64.wrap (s + IntKind.i64.wrap (((cs.getD k ([], [])).1.length : Int) + ((cs.getD k ([], [])).2.length : Int))) = fs cs (k + 1)) := by rw [hS.out]; exact Lib.hid rfl
        generalize (cs.getD k ([], [])).1.length = r at c0 hN
        generalize (cs.getD k ([], [])).2.length = d at c1 hN
        have hn9 : n ≤ 40 := by omega
        clear hkc
        go_wp2_with fail
        go_roundw
        case rel => exact ⟨k + 1, _, by omega, rfl, by go_num, below_alloc hB.out _, by have h := hN.out; simp only [IntWalk.i64_left] at h; exact Lib.hid h⟩
        case measure => simp [intOf]; omega
      · obtain rfl : k = n := by omega
        have hz : fewB cs = decide (s ≤ 400) := by
          unfold fewB
          rw [hS.out, ← HN.out]
          by_cases q : fs cs k ≤ 400
          · rw [decide_eq_true q, decide_eq_true ⟨by omega, q⟩]
          · rw [decide_eq_false q, decide_eq_false (fun h => q h.2)]
        go_wp2_with fail
        go_ret
        exact ⟨by rw [hz]; rfl, hB.out⟩
theorem same3_t (w : World) (l : List Int) (s t : Option Addr) (n m k : Nat) (hn : n = l.length) (ha : HoldsI w s l) (hb : HoldsI w t l) (hl : l.length ≤ 1000000000) :
    Calls Try.prog 10 #[.slice s n m, .slice t n k] w fun e w' => e = .returned (.bool true) ∧ Below w.heap.size w w' := by
  subst hn
  have HA := Lib.hid ha
  have HB := Lib.hid hb
  clear ha hb
  go_enter Try.func10, Try.ntmps10
  go_wp2_with fail
  go_loopw [13] (fun i wr => ∃ j : Nat, j ≤ l.length ∧ i = .int .i64 (j : Int) ∧ Below w.heap.size w wr) (fun i _ => l.length - (intOf i).toNat)
  case atStart => exact ⟨0, Nat.zero_le _, rfl, Below.refl _ _⟩
  case round =>
    obtain ⟨j, hj, rfl, hW⟩ := hrel
    by_cases hlt : j < l.length
    · obtain ⟨g, off, rfl, hc⟩ := (HA.out.below hW (Nat.le_refl _)).at hlt
      obtain ⟨g2, off2, rfl, hc2⟩ := (HB.out.below hW (Nat.le_refl _)).at hlt
      generalize l.getD j 0 = x at *
      have hxx : (x != x) = false := by simp
      go_wp2_with fail
      go_quiet (fail)
      go_wp2_with fail
      go_roundw
      case rel => exact ⟨j + 1, by omega, by go_num, hW.trans ((drewN_below wr nq).mono hW.size)⟩
      case measure => simp [intOf]; omega
    · obtain rfl : j = l.length := by omega
      go_wp2_with fail
      go_ret
      exact ⟨rfl, hW⟩
def cs0 : List Cv := [([0, 10, 20, 30], [100, 60, 50, 10]), ([0, 5], [30, 15])]
theorem cs0_ok : okC cs0 := by
  refine ⟨by decide, fun i hi => ?_⟩
  have : i = 0 ∨ i = 1 := by simp [cs0] at hi; omega
  rcases this with rfl | rfl
  · show VP [0, 10, 20, 30] [100, 60, 50, 10]
    decide
  · show VP [0, 5] [30, 15]
    decide
theorem chs0_a : chs cs0 14 = [1, 0] := by decide +kernel
theorem chs0_b : chs cs0 35 = [3, 1] := by decide +kernel
theorem chs0_c : chs cs0 9 = [0, 0] := by decide +kernel
abbrev exW (W : World) : World := ((((W.alloc (.cells #[.int .i64 0, .int .i64 10, .int .i64 20, .int .i64 30] 3)).alloc (.cells #[.int .i64 100, .int .i64 60, .int .i64 50, .int .i64 10] 3)).alloc (.cells #[.int .i64 0, .int .i64 5] 3)).alloc (.cells #[.int .i64 30, .int .i64 15] 3)).alloc (.cells #[.slice (some ⟨W.heap.size, 0, none⟩) 4 4, .slice (some ⟨W.heap.size + 1, 0, none⟩) 4 4, .slice (some ⟨W.heap.size + 1 + 1, 0, none⟩) 2 2, .slice (some ⟨W.heap.size + 1 + 1 + 1, 0, none⟩) 2 2] 37)
theorem ex_below (W : World) : Below W.heap.size W (exW W) := below_alloc (below_alloc (below_alloc (below_alloc (below_alloc (Below.refl _ W) _) _) _) _) _
theorem new_at {w : World} {g : Nat} (h : w.heap.size = g) (t : TypeId) (cs : Array Value) : Blk (w.alloc (.cells cs t)) g t cs := h ▸ Blk.new w t cs
theorem ex_curves (W : World) : HoldsCv (exW W) (some ⟨W.heap.size + 1 + 1 + 1 + 1, 0, none⟩) cs0 := by
  have b0 : Blk (exW W) W.heap.size 3 (cI [0, 10, 20, 30]) := ((((Blk.new W 3 _).alloc _).alloc _).alloc _).alloc _
  have b1 : Blk (exW W) (W.heap.size + 1) 3 (cI [100, 60, 50, 10]) := (((new_at (by simp) 3 _ : Blk (_ : World) (W.heap.size + 1) 3 _).alloc _).alloc _).alloc _
  have b2 : Blk (exW W) (W.heap.size + 1 + 1) 3 (cI [0, 5]) := ((new_at (by simp) 3 _ : Blk (_ : World) (W.heap.size + 1 + 1) 3 _).alloc _).alloc _
  have b3 : Blk (exW W) (W.heap.size + 1 + 1 + 1) 3 (cI [30, 15]) := (new_at (by simp) 3 _ : Blk (_ : World) (W.heap.size + 1 + 1 + 1) 3 _).alloc _
  have b4 : Blk (exW W) (W.heap.size + 1 + 1 + 1 + 1) 37 _ := new_at (by simp) 37 _
  refine .inr ⟨_, 0, rfl, fun k hk => ?_⟩
  have : k = 0 ∨ k = 1 := by simp [cs0] at hk; omega
  rcases this with rfl | rfl
  · exact ⟨_, _, 4, 4, b4.cell 0, b4.cell 1, blk_holds b0, blk_holds b1⟩
  · exact ⟨_, _, 2, 2, b4.cell 2, b4.cell 3, blk_holds b2, blk_holds b3⟩
theorem same_lit (w : World) (g : Nat) (l : List Int) (hg : Blk w g 3 (cI l)) (hl : l.length ≤ 100) : Calls Try.prog 10 #[.slice (some ⟨g, 0, none⟩) l.length l.length, .slice (some ⟨w.heap.size, 0, none⟩) l.length l.length] (w.alloc (.cells (cI l) 3)) fun e w' => e = .returned (.bool true) ∧ Below w.heap.size w w' := by
  have wA := below_alloc (Below.refl w.heap.size w) (.cells (cI l) 3)
  refine (same3_t _ l _ _ _ _ _ rfl (blk_holds (hg.alloc _)) (blk_holds (Blk.new w 3 _)) (by omega)).mono ?_
  rintro e w' ⟨rfl, hb⟩
  exact ⟨rfl, wA.trans (hb.mono wA.size)⟩
theorem same_10 (w : World) (g : Nat) (hg : Blk w g 3 (cI [1, 0])) : Calls Try.prog 10 #[.slice (some ⟨g, 0, none⟩) 2 2, .slice (some ⟨w.heap.size, 0, none⟩) 2 2] (w.alloc (.cells #[.int .i64 1, .int .i64 0] 3)) fun e w' => e = .returned (.bool true) ∧ Below w.heap.size w w' := same_lit w g [1, 0] hg (by decide)
theorem same_31 (w : World) (g : Nat) (hg : Blk w g 3 (cI [3, 1])) : Calls Try.prog 10 #[.slice (some ⟨g, 0, none⟩) 2 2, .slice (some ⟨w.heap.size, 0, none⟩) 2 2] (w.alloc (.cells #[.int .i64 3, .int .i64 1] 3)) fun e w' => e = .returned (.bool true) ∧ Below w.heap.size w w' := same_lit w g [3, 1] hg (by decide)
theorem same_00 (w : World) (g : Nat) (hg : Blk w g 3 (cI [0, 0])) : Calls Try.prog 10 #[.slice (some ⟨g, 0, none⟩) 2 2, .slice (some ⟨w.heap.size, 0, none⟩) 2 2] (w.alloc (.cells #[.int .i64 0, .int .i64 0] 3)) fun e w' => e = .returned (.bool true) ∧ Below w.heap.size w w' := same_lit w g [0, 0] hg (by decide)
theorem ex_choose (W : World) (b : Int) (x y : Int) (hb : -1 ≤ b) (hx : chs cs0 b = [x, y]) (W1 : World) (h : Below (exW W).heap.size (exW W) W1) : Calls Try.prog 8 #[.slice (some ⟨W.heap.size + 1 + 1 + 1 + 1, 0, none⟩) 2 2, .int .i64 b] W1 fun e w' => ∃ g, e = .returned (.tuple #[.slice (some ⟨g, 0, none⟩) 2 2, .int .i64 0]) ∧ Blk w' g 3 (cI [x, y]) ∧ Below W1.heap.size W1 w' := by
  have k := choose_y (some ⟨W.heap.size + 1 + 1 + 1 + 1, 0, none⟩) 2 2 b cs0 W1 ((ex_curves W).below h (Nat.le_refl _)) rfl cs0_ok hb
  rw [hx] at k
  exact k
theorem ex_no (W : World) (W1 : World) (h : Below (exW W).heap.size (exW W) W1) : Calls Try.prog 8 #[.slice (some ⟨W.heap.size + 1 + 1 + 1 + 1, 0, none⟩) 2 2, .int .i64 (-2)] W1 fun e w' => e = .returned (.tuple #[.slice none 0 0, .int .i64 2]) ∧ Below W1.heap.size W1 w' :=
  choose_range (some ⟨W.heap.size + 1 + 1 + 1 + 1, 0, none⟩) 2 2 (-2) cs0 W1 ((ex_curves W).below h (Nat.le_refl _)) rfl cs0_ok (by decide)
theorem ex_cost (W : World) (W1 : World) (h : Below (exW W).heap.size (exW W) W1) : Calls Try.prog 16 #[.slice (some ⟨W.heap.size + 1 + 1 + 1 + 1, 0, none⟩) 2 2, .slice (some ⟨W1.heap.size, 0, none⟩) 2 2] (W1.alloc (.cells #[.int .i64 1, .int .i64 1] 3)) fun e w' => e = .returned (.tuple #[.int .i64 15, .int .i64 75, .int .i64 0]) ∧ Below W1.heap.size W1 w' := by
  have wA := below_alloc (Below.refl W1.heap.size W1) (.cells #[.int .i64 1, .int .i64 1] 3)
  have hg : gd cs0 [1, 1] 2 := by
    intro j hj
    have : j = 0 ∨ j = 1 := by omega
    rcases this with rfl | rfl <;> exact ⟨by decide, by decide⟩
  refine (cost_c (some ⟨W.heap.size + 1 + 1 + 1 + 1, 0, none⟩) (some ⟨W1.heap.size, 0, none⟩) 2 2 2 cs0 [1, 1] _ (((ex_curves W).below h (Nat.le_refl _)).below wA (Nat.le_refl _)) rfl cs0_ok (blk_holds (l := [1, 1]) (Blk.new W1 3 _)) rfl 15 75 0 (fun _ => ⟨by decide, by decide, rfl⟩) (fun q => absurd hg q)).mono ?_
  rintro e w' ⟨rfl, hb⟩
  exact ⟨rfl, wA.trans (hb.mono wA.size)⟩
theorem ex21_c (W : World) : Calls Try.prog 7 #[] W fun e w' => e = .returned (.bool true) ∧ Below W.heap.size W w' := by
  have B0 := Lib.hid (Below.refl (exW W).heap.size (exW W))
  have k1 := ex_choose W 14 1 0 (by decide) chs0_a
  have k2 := ex_choose W 35 3 1 (by decide) chs0_b
  have k3 := ex_choose W 9 0 0 (by decide) chs0_c
  have k4 := ex_cost W
  have k5 := ex_no W
  have EB := Lib.hid (ex_below W)
  go_enter Try.func7, Try.ntmps7
  go_wp2_with (first | (go_at_call 8; (with_reducible refine (k1 _ B0.out).mono ?_); rintro e w1 ⟨g1, rfl, hd, hb⟩; have B1 := Lib.hid (B0.out.trans (hb.mono B0.out.size)); have D1 := Lib.hid hd; clear hb hd k1) | (go_at_call 8; (with_reducible refine (k2 _ B1.out).mono ?_); rintro e w2 ⟨g2, rfl, hd, hb⟩; have B2 := Lib.hid (B1.out.trans (hb.mono B1.out.size)); have D2 := Lib.hid (And.intro (D1.out.below hb) hd); clear hb hd k2) | (go_at_call 8; (with_reducible refine (k3 _ B2.out).mono ?_); rintro e w3 ⟨g3, rfl, hd, hb⟩; have B3 := Lib.hid (B2.out.trans (hb.mono B2.out.size)); have D3 := Lib.hid (And.intro (D2.out.1.below hb) (And.intro (D2.out.2.below hb) hd)); clear hb hd k3) | (go_at_call 16; (with_reducible refine (k4 _ B3.out).mono ?_); rintro e w4 ⟨rfl, hb⟩; have B4 := Lib.hid (B3.out.trans (hb.mono B3.out.size)); have D4 := Lib.hid (And.intro (D3.out.1.below hb) (And.intro (D3.out.2.1.below hb) (D3.out.2.2.below hb))); clear hb k4) | (go_at_call 8; (with_reducible refine (k5 _ B4.out).mono ?_); rintro e w5 ⟨rfl, hb⟩; have B5 := Lib.hid (B4.out.trans (hb.mono B4.out.size)); have D5 := Lib.hid (And.intro (D4.out.1.below hb) (And.intro (D4.out.2.1.below hb) (D4.out.2.2.below hb))); clear hb k5) | (go_at_call 10; (with_reducible refine (same_10 _ _ D5.out.1).mono ?_); rintro e w6 ⟨rfl, hb⟩; have B6 := Lib.hid (B5.out.trans (hb.mono B5.out.size)); have D6 := Lib.hid (And.intro (D5.out.2.1.below hb) (D5.out.2.2.below hb)); clear hb) | (go_at_call 10; (with_reducible refine (same_31 _ _ D6.out.1).mono ?_); rintro e w7 ⟨rfl, hb⟩; have B7 := Lib.hid (B6.out.trans (hb.mono B6.out.size)); have D7 := Lib.hid (D6.out.2.below hb); clear hb) | (go_at_call 10; (with_reducible refine (same_00 _ _ D7.out).mono ?_); rintro e w8 ⟨rfl, hb⟩; have B8 := Lib.hid (B7.out.trans (hb.mono B7.out.size)); clear hb) | fail)
  go_ret
  exact ⟨rfl, EB.out.trans (B8.out.mono EB.out.size)⟩
end Go.Proofs.Ytkohdiajpdlkjaa
