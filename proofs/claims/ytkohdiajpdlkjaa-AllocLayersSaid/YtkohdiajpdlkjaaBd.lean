/-
  Layer 21: both sides of Cost; Layers at more budgets or curves than the limits.
-/
import Derived.Test.YtkohdiajpdlkjaaBb
set_option maxRecDepth 100000
namespace Go.Proofs.Ytkohdiajpdlkjaa
open Go.RowKit

theorem both_cost (cs : List Cv) (ch : List Int) (s t : Option Addr) (m q : Nat) (W : World) (hC : HoldsCv W s cs) (hL : HoldsI W t ch) (hn : cs.length ≤ 65536) : ∃ X Y Z : Int,
    (∀ W1, Below W.heap.size W W1 → Calls Try.prog 16 #[.slice s cs.length m, .slice t ch.length q] W1 fun e w' => e = .returned (.tuple #[.int .i64 X, .int .i64 Y, .int .i64 Z]) ∧ Below W1.heap.size W1 w') ∧
    (∀ W1, Below W.heap.size W W1 → Calls Try.prog 15 #[.slice s cs.length m, .slice t ch.length q] W1 fun e w' => e = .returned (.tuple #[.int .i64 X, .int .i64 Y, .int .i64 Z]) ∧ Below W1.heap.size W1 w') := by
  by_cases hok : okC cs
  · by_cases hl : ch.length = cs.length
    · by_cases hg : gd cs ch cs.length
      · refine ⟨sR cs ch cs.length, sD cs ch cs.length, 0, fun W1 h1 => ?_, fun W1 h1 => ?_⟩
        · rw [hl]; exact cost_c s t cs.length m q cs ch W1 (hC.below h1 (Nat.le_refl _)) rfl hok (hL.below h1 (Nat.le_refl _)) hl.symm _ _ _ (fun _ => ⟨rfl, rfl, rfl⟩) (fun h => absurd hg h)
        · rw [hl]; exact rcost_c s t cs.length m q cs ch W1 (hC.below h1 (Nat.le_refl _)) rfl hok (hL.below h1 (Nat.le_refl _)) hl.symm _ _ _ (fun _ => ⟨rfl, rfl, rfl⟩) (fun h => absurd hg h)
      · refine ⟨0, 0, 2, fun W1 h1 => ?_, fun W1 h1 => ?_⟩
        · rw [hl]; exact cost_c s t cs.length m q cs ch W1 (hC.below h1 (Nat.le_refl _)) rfl hok (hL.below h1 (Nat.le_refl _)) hl.symm _ _ _ (fun h => absurd h hg) (fun _ => ⟨rfl, rfl, rfl⟩)
        · rw [hl]; exact rcost_c s t cs.length m q cs ch W1 (hC.below h1 (Nat.le_refl _)) rfl hok (hL.below h1 (Nat.le_refl _)) hl.symm _ _ _ (fun h => absurd h hg) (fun _ => ⟨rfl, rfl, rfl⟩)
    · exact ⟨0, 0, 4, fun W1 h1 => cost_len s t cs.length m ch.length q cs W1 (hC.below h1 (Nat.le_refl _)) rfl hok hl, fun W1 h1 => rcost_len s t cs.length m ch.length q cs W1 (hC.below h1 (Nat.le_refl _)) rfl hok hl⟩
  · exact ⟨0, 0, 1, fun W1 h1 => cost_bad s cs.length m _ cs W1 (hC.below h1 (Nat.le_refl _)) rfl hn hok, fun W1 h1 => rcost_bad s cs.length m _ cs W1 (hC.below h1 (Nat.le_refl _)) rfl hn hok⟩
theorem layers_all (t : Option Addr) (N : Nat) (B : List Int) (q : Nat) (a : Option Addr) (W1 : World) (hN : 65536 < N) : Calls Try.prog 11 #[.slice a N N, .slice t B.length q] W1 fun e w' => e = .returned (.tuple #[.slice none 0 0, .int .i64 5]) ∧ w' = W1 := by
  by_cases hp : 16 < B.length
  · exact layers_lim _ t _ q W1 hp
  · exact layers_big a t N N _ q W1 (by omega) hN
theorem bad1 : ¬ okC [([], [])] := fun h => by
  have := (h.2 0 (by decide)).2.1
  simp at this
theorem one_curve (w : World) : HoldsCv (w.alloc (.cells #[.slice none 0 0, .slice none 0 0] 37)) (some ⟨w.heap.size, 0, none⟩) [([], [])] := by
  have b := Blk.new w 37 #[.slice none 0 0, .slice none 0 0]
  refine .inr ⟨_, 0, rfl, fun k hk => ?_⟩
  have : k = 0 := by simp at hk; omega
  subst this
  exact ⟨none, none, 0, 0, b.cell 0, b.cell 1, .inl rfl, .inl rfl⟩
theorem layers_one (B : List Int) (q : Nat) (t : Option Addr) :
    (16 < B.length → ∀ W1 : World, Calls Try.prog 11 #[.slice (some ⟨W1.heap.size, 0, none⟩) 1 1, .slice t B.length q] (W1.alloc (.cells #[.slice none 0 0, .slice none 0 0] 37)) fun e w' => e = .returned (.tuple #[.slice none 0 0, .int .i64 5]) ∧ Below W1.heap.size W1 w') ∧
    (¬ 16 < B.length → ∀ W1 : World, Calls Try.prog 11 #[.slice (some ⟨W1.heap.size, 0, none⟩) 1 1, .slice t B.length q] (W1.alloc (.cells #[.slice none 0 0, .slice none 0 0] 37)) fun e w' => e = .returned (.tuple #[.slice none 0 0, .int .i64 1]) ∧ Below W1.heap.size W1 w') := by
  refine ⟨fun hp W1 => ?_, fun hp W1 => ?_⟩
  · refine (layers_lim _ t _ q _ hp).mono ?_
    rintro e w' ⟨rfl, rfl⟩
    exact ⟨rfl, below_alloc (Below.refl _ _) _⟩
  · refine (layers_bad _ t 1 1 _ q [([], [])] _ (one_curve W1) rfl (by decide) bad1 (by omega)).mono ?_
    rintro e w' ⟨rfl, hb⟩
    have wA := below_alloc (Below.refl W1.heap.size W1) (.cells #[.slice none 0 0, .slice none 0 0] 37)
    exact ⟨rfl, wA.trans (hb.mono wA.size)⟩
theorem infoC : (Try.prog.info? 37).map (fun i => (i.zero, i.size, i.bytes)) = some (some (.agg #[.slice none 0 0, .slice none 0 0]), 2, 48) := by kernel_rfl
end Go.Proofs.Ytkohdiajpdlkjaa
