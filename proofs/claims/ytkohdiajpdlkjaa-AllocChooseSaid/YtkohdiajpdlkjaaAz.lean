/-
  Layer 21: contracts of Choose.
-/
import Derived.Test.YtkohdiajpdlkjaaAy
set_option maxRecDepth 100000
namespace Go.Proofs.Ytkohdiajpdlkjaa
open Go.RowKit

theorem one_holds (W : World) (b : Int) : HoldsI (W.alloc (.cells #[.int .i64 b] 3)) (some ⟨W.heap.size, 0, none⟩) [b] := blk_holds (l := [b]) (Blk.new W 3 #[.int .i64 b])
theorem choose_big (a : Option Addr) (n m : Nat) (b : Int) (W : World) (hn : 65536 < n) : Calls Try.prog 8 #[.slice a n m, .int .i64 b] W fun e w' => e = .returned (.tuple #[.slice none 0 0, .int .i64 5]) ∧ Below W.heap.size W w' := by
  have kl := fun W1 : World => layers_big a (some ⟨W.heap.size, 0, none⟩) n m 1 1 W1 (by omega) hn
  have wA := Lib.hid ((Below.refl W.heap.size W).alloc (Nat.le_refl _) (.cells #[.int .i64 b] 3))
  clear hn
  go_enter Try.func8, Try.ntmps8
  go_wp2_with (first | (go_at_call 11; (with_reducible refine (kl _).mono ?_); rintro e w1 ⟨rfl, rfl⟩) | fail)
  go_ret2
  exact ⟨rfl, wA.out⟩
theorem choose_bad (a : Option Addr) (n m : Nat) (b : Int) (cs : List Cv) (W : World) (hC : HoldsCv W a cs) (hn : n = cs.length) (hn2 : n ≤ 65536) (hok : ¬ okC cs) : Calls Try.prog 8 #[.slice a n m, .int .i64 b] W fun e w' => e = .returned (.tuple #[.slice none 0 0, .int .i64 1]) ∧ Below W.heap.size W w' := by
  have wA := Lib.hid ((Below.refl W.heap.size W).alloc (Nat.le_refl _) (.cells #[.int .i64 b] 3))
  have kl := layers_bad a (some ⟨W.heap.size, 0, none⟩) n m 1 1 cs _ (hC.below wA.out (Nat.le_refl _)) hn hn2 hok (by omega)
  clear hC hn hn2 hok
  go_enter Try.func8, Try.ntmps8
  go_wp2_with (first | (go_at_call 11; (with_reducible refine kl.mono ?_); rintro e w1 ⟨rfl, hb⟩; have HB := Lib.hid hb; clear hb kl) | fail)
  go_ret2
  exact ⟨rfl, wA.out.trans (HB.out.mono wA.out.size)⟩
theorem choose_range (a : Option Addr) (n m : Nat) (b : Int) (cs : List Cv) (W : World) (hC : HoldsCv W a cs) (hn : n = cs.length) (hok : okC cs) (hb : b < -1) : Calls Try.prog 8 #[.slice a n m, .int .i64 b] W fun e w' => e = .returned (.tuple #[.slice none 0 0, .int .i64 2]) ∧ Below W.heap.size W w' := by
  have wA := Lib.hid ((Below.refl W.heap.size W).alloc (Nat.le_refl _) (.cells #[.int .i64 b] 3))
  have kl := layers_range a (some ⟨W.heap.size, 0, none⟩) n m 1 1 cs [b] _ (hC.below wA.out (Nat.le_refl _)) hn hok (by omega) (one_holds W b) rfl (by rw [rise, if_neg (by rintro ⟨h, _⟩; omega), if_pos (by omega)])
  clear hC hn hok hb
  go_enter Try.func8, Try.ntmps8
  go_wp2_with (first | (go_at_call 11; (with_reducible refine kl.mono ?_); rintro e w1 ⟨rfl, hb⟩; have HB := Lib.hid hb; clear hb kl) | fail)
  go_ret2
  exact ⟨rfl, wA.out.trans (HB.out.mono wA.out.size)⟩
theorem choose_y (a : Option Addr) (n m : Nat) (b : Int) (cs : List Cv) (W : World) (hC : HoldsCv W a cs) (hn : n = cs.length) (hok : okC cs) (hb : -1 ≤ b) :
    Calls Try.prog 8 #[.slice a n m, .int .i64 b] W fun e w' => ∃ g, e = .returned (.tuple #[.slice (some ⟨g, 0, none⟩) (chs cs b).length (chs cs b).length, .int .i64 0]) ∧ Blk w' g 3 (cI (chs cs b)) ∧ Below W.heap.size W w' := by
  have wA := Lib.hid ((Below.refl W.heap.size W).alloc (Nat.le_refl _) (.cells #[.int .i64 b] 3))
  have kl := layers_y a (some ⟨W.heap.size, 0, none⟩) n m 1 1 cs [b] _ (hC.below wA.out (Nat.le_refl _)) hn hok (by omega) (one_holds W b) rfl (by
    rw [rise]
    by_cases h : b = -1
    · rw [if_pos ⟨h, rfl⟩]
    · rw [if_neg (fun q => h q.1), if_neg (by omega)]; rfl)
  clear hC hn hok hb
  go_enter Try.func8, Try.ntmps8
  go_wp2_with (first | (go_at_call 11; (with_reducible refine kl.mono ?_); rintro e w1 ⟨g, vs, rfl, hl, hg, hb⟩; have HB := Lib.hid hb; have c0 := hl.cell (j := 0) (by omega); obtain ⟨gj, hv, hbl⟩ := hl.own 0 (by omega); rw [hv] at c0; have HG := Lib.hid (show Blk w1 gj 3 (cI (chs cs b)) from hbl); clear hb kl hl hv hbl hg) | fail)
  go_ret2
  exact ⟨gj, rfl, HG.out, wA.out.trans (HB.out.mono wA.out.size)⟩
end Go.Proofs.Ytkohdiajpdlkjaa
