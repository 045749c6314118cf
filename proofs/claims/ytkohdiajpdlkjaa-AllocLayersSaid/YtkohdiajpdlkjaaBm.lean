/-
  Layer 21: SameChoices; the walk of AllocLayers, over the reference's steps.
-/
import Derived.Test.YtkohdiajpdlkjaaBl
import Derived.Test.YtkohdiajpdlkjaaBb
set_option maxRecDepth 100000
namespace Go.Proofs.Ytkohdiajpdlkjaa
open Go.RowKit

/-- Lists of one length, side by side. -/
def LayH (w : World) (s : Option Addr) (p n : Nat) (L : Nat → List Int) : Prop := ∀ j, j < p → ∃ b off t m, s = some ⟨b, off, none⟩ ∧ w.cell? ⟨b, off + j, none⟩ = some (.slice t n m) ∧ HoldsI w t (L j) ∧ (L j).length = n
theorem LayH.below {w w1 : World} {s : Option Addr} {p n : Nat} {L : Nat → List Int} (h : LayH w s p n L) (hb : Below w.heap.size w w1) : LayH w1 s p n L := fun j hj => by
  obtain ⟨b, off, t, m, e, c, hh, hl⟩ := h j hj
  exact ⟨b, off, t, m, e, (hb.cell (p := ⟨b, off + j, none⟩) (cell_lt' c)).trans c, hh.below hb (Nat.le_refl _), hl⟩
set_option maxHeartbeats 2000000 in
theorem sameC_t (w : World) (s t : Option Addr) (p n m k : Nat) (L : Nat → List Int) (ha : LayH w s p n L) (hb : LayH w t p n L) (hp : p ≤ 1000) (hn : n ≤ 1000) :
    Calls Try.prog 13 #[.slice s p m, .slice t p k] w fun e w' => e = .returned (.bool true) ∧ Below w.heap.size w w' := by
  have HA := Lib.hid ha
  have HB := Lib.hid hb
  have hpp : ((p : Int) != (p : Int)) = false := by simp
  have hnn : ((n : Int) != (n : Int)) = false := by simp
  clear ha hb
  go_enter Try.func13, Try.ntmps13
  go_wp2_with fail
  go_loopw [14] (fun i wr => ∃ j : Nat, j ≤ p ∧ i = .int .i64 (j : Int) ∧ Hid (Below w.heap.size w wr)) (fun i _ => p - (intOf i).toNat)
  case atStart => exact ⟨0, Nat.zero_le _, rfl, Lib.hid (Below.refl _ _)⟩
  case round =>
    obtain ⟨j, hj, rfl, hW⟩ := hrel
    obtain ⟨w0, rfl⟩ : ∃ w0 : World, w0 = wr := ⟨_, rfl⟩
    by_cases hlt : j < p
    · obtain ⟨b1, o1, s1, m1, rfl, c1, h1, l1⟩ := (HA.out.below hW.out) j hlt
      obtain ⟨b2, o2, s2, m2, rfl, c2, h2, l2⟩ := (HB.out.below hW.out) j hlt
      have z0 : (0 : Int) ≤ (j : Int) := by omega
      have z1 : (j : Int) < (p : Int) := by omega
      have H1 := Lib.hid h1
      have H2 := Lib.hid h2
      have HL := Lib.hid l1
      have HLT := Lib.hid hlt
      clear h1 h2 l1 l2 hlt
      go_wp2_with fail
      go_quiet (fail)
      have B0 := Lib.hid (below_drewN (Below.refl w0.heap.size w0) nq)
      have c1 := (B0.out.cell (p := ⟨b1, o1 + j, none⟩) (cell_lt' c1)).trans c1
      have c2 := (B0.out.cell (p := ⟨b2, o2 + j, none⟩) (cell_lt' c2)).trans c2
      generalize w0.drewN nq = w5 at B0 c1 c2 ⊢
      have C1 := Lib.hid c1
      have C2 := Lib.hid c2
      go_wp2_with fail
      go_loopw [33] (fun i wr => ∃ x : Nat, x ≤ n ∧ i = .int .i64 (x : Int) ∧ Hid (Below w5.heap.size w5 wr)) (fun i _ => n - (intOf i).toNat)
      case atStart => exact ⟨0, Nat.zero_le _, rfl, Lib.hid (Below.refl _ _)⟩
      case round =>
        obtain ⟨x, hx, rfl, hW2⟩ := hrel
        obtain ⟨w6, rfl⟩ : ∃ w6 : World, w6 = wr := ⟨_, rfl⟩
        have B6 := B0.out.trans (hW2.out.mono B0.out.size)
        by_cases hxn : x < n
        · obtain ⟨g, off, rfl, e1⟩ := (H1.out.below B6 (Nat.le_refl _)).at (show x < (L j).length by rw [HL.out]; exact hxn)
          obtain ⟨g2, off2, rfl, e2⟩ := (H2.out.below B6 (Nat.le_refl _)).at (show x < (L j).length by rw [HL.out]; exact hxn)
          have c1 := (hW2.out.cell (p := ⟨b1, o1 + j, none⟩) (cell_lt' C1.out)).trans C1.out
          have c2 := (hW2.out.cell (p := ⟨b2, o2 + j, none⟩) (cell_lt' C2.out)).trans C2.out
          generalize (L j).getD x 0 = y at e1 e2
          have hyy : (y != y) = false := by simp
          have y0 : (0 : Int) ≤ (x : Int) := by omega
          have y1 : (x : Int) < (n : Int) := by omega
          clear B6
          go_wp2_with fail
          go_quiet (fail)
          go_wp2_with fail
          go_roundw
          case rel => exact ⟨x + 1, by omega, by go_num, below_drewN hW2.out _⟩
          case measure => simp [intOf]; omega
        · obtain rfl : x = n := by omega
          have BF := Lib.hid (hW.out.trans (B6.mono hW.out.size))
          clear B6
          go_wp2_with fail
          go_roundw
          case rel => have := HLT.out; exact ⟨j + 1, by omega, by go_num, BF⟩
          case measure => have := HLT.out; simp [intOf]; omega
    · obtain rfl : j = p := by omega
      go_wp2_with fail
      go_ret
      exact ⟨rfl, hW.out⟩
end Go.Proofs.Ytkohdiajpdlkjaa
