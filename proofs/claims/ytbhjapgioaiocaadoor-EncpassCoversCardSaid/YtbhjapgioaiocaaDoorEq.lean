/-
  Layer 15: the law's count of a pass.
-/
import Derived.Test.YtbhjapgioaiocaaDoorMe
set_option maxRecDepth 100000
namespace Go.Proofs.YtbhjapgioaiocaaDoor
open Go.RowKit

theorem Ok.le {l : List Sy} {n : Nat} (h : Ok l n) : n ≤ 4 * l.length := by
  induction h with
  | nil => omega
  | one c b t n hc _ ih => simp; omega
  | skip c b t n hc _ ih => simp; omega
  | run0 t n _ ih => simp; omega
  | run1 a b t n ha hb _ ih => simp; omega
theorem drop_cons {l : List Sy} {i : Nat} {z : Sy} {t : List Sy} (h : z :: t = l.drop i) : ∃ hi : i < l.length, l[i] = z ∧ t = l.drop (i + 1) := by
  have hi : i < l.length := by
    rcases Nat.lt_or_ge i l.length with h1 | h1
    · exact h1
    · rw [List.drop_eq_nil_of_le h1] at h; cases h
  rw [List.drop_eq_getElem_cons hi] at h
  injection h with h1 h2
  exact ⟨hi, h1.symm, h2⟩
set_option maxHeartbeats 4000000 in
theorem covered_c (W : World) (s : Option Addr) (l : List Sy) (m n : Nat) (hY : HoldsY W s l) (hok : Ok l n) (hl : l.length ≤ 20000) : Calls Tryd.prog 30 #[.slice s l.length m] W fun e w' => e = .returned (.int .i64 (n : Int)) ∧ Dn W w' := by
  have hn := hok.le
  have HY := Lib.hid hY
  have HO := Lib.hid hok
  have HL := Lib.hid hl
  have HN := Lib.hid (show n ≤ 80000 by omega)
  clear hY hok hl hn
  go_enter Tryd.func30, Tryd.ntmps30
  go_wp2_with fail
  go_loopw [3, 4] (fun z i wr => ∃ j a r : Nat, j ≤ l.length ∧ i = .int .i64 (j : Int) ∧ z = .int .i64 (a : Int) ∧ Hid (Ok (l.drop j) r ∧ a + r = n) ∧ Hid (Dn W wr)) (fun _ i _ => (l.length - (intOf i).toNat))
  case atStart => exact ⟨0, 0, n, by omega, rfl, rfl, ⟨by rw [List.drop_zero]; exact HO.out, by omega⟩, dn_refl _⟩
  case round =>
    obtain ⟨j, a, r, hj, rfl, rfl, hr, hD⟩ := hrel
    have HYr := Lib.hid (HY.out.call hD.out.below)
    by_cases hlt : j < l.length
    · obtain ⟨h1, h2⟩ := hr.out
      have hltI : (j : Int) < (l.length : Int) := by omega
      have wj : IntKind.i64.wrap ((j : Int) + 1) = ((j + 1 : Nat) : Int) := by have := HL.out; rw [IntWalk.i64_left]; unfold wrap64; omega
      clear hr
      generalize hd : l.drop j = d at h1
      cases h1 with
      | nil =>
        have := List.drop_eq_nil_iff.1 hd
        omega
      | one c b t r' hc h3 =>
        obtain ⟨_, hz, ht⟩ := drop_cons hd.symm
        rw [ht] at h3
        obtain ⟨g, o1, rfl, p0, p1⟩ := HYr.out.at hlt
        rw [hz] at p0 p1
        dsimp only at p0 p1
        have HT := Lib.hid h3
        have HA := Lib.hid (show a + 1 + r' = n by omega)
        have HLT := Lib.hid hlt
        have wa : IntKind.i64.wrap ((a : Int) + 1) = ((a + 1 : Nat) : Int) := by have := HN.out; rw [IntWalk.i64_left]; unfold wrap64; omega
        clear h3 h2 hd hz ht
        rcases hc with hc | ⟨hc1, hc2⟩
        · go_wp2_with fail
          go_roundw
          case rel => exact ⟨j + 1, a + 1, r', HLT.out, by go_num, by go_num, ⟨HT.out, HA.out⟩, hD⟩
          case measure => have := HLT.out; simp [intOf]; omega
        · have hc0 : ¬ c ≤ 8 := by omega
          go_wp2_with fail
          go_roundw
          case rel => exact ⟨j + 1, a + 1, r', HLT.out, by go_num, by go_num, ⟨HT.out, HA.out⟩, hD⟩
          case measure => have := HLT.out; simp [intOf]; omega
      | skip c b t r' hc h3 =>
        obtain ⟨_, hz, ht⟩ := drop_cons hd.symm
        rw [ht] at h3
        obtain ⟨g, o1, rfl, p0, p1⟩ := HYr.out.at hlt
        rw [hz] at p0 p1
        dsimp only at p0 p1
        have HT := Lib.hid h3
        have HA := Lib.hid h2
        have HLT := Lib.hid hlt
        have hc0 : ¬ c ≤ 8 := by omega
        have hc1 : ¬ 14 ≤ c := by omega
        have hc2 : (c == 17) = false := by simp; omega
        clear h3 h2 hd hz ht hc
        go_wp2_with fail
        go_roundw
        case rel => exact ⟨j + 1, a, _, HLT.out, by go_num, rfl, ⟨HT.out, HA.out⟩, hD⟩
        case measure => have := HLT.out; simp [intOf]; omega
      | run0 t r' h3 =>
        obtain ⟨_, hz, ht⟩ := drop_cons hd.symm
        rw [ht] at h3
        obtain ⟨g, o1, rfl, p0, p1⟩ := HYr.out.at hlt
        rw [hz] at p0 p1
        dsimp only at p0 p1
        have HT := Lib.hid h3
        have HA := Lib.hid (show a + 4 + r' = n by omega)
        have HLT := Lib.hid hlt
        have wa : IntKind.i64.wrap ((a : Int) + 4) = ((a + 4 : Nat) : Int) := by have := HN.out; rw [IntWalk.i64_left]; unfold wrap64; omega
        clear h3 h2 hd hz ht
        go_wp2_with fail
        go_roundw
        case rel => exact ⟨j + 1, a + 4, r', HLT.out, by go_num, by go_num, ⟨HT.out, HA.out⟩, hD⟩
        case measure => have := HLT.out; simp [intOf]; omega
      | run1 x y t r' hx hy h3 =>
        obtain ⟨_, hz, ht⟩ := drop_cons hd.symm
        obtain ⟨hj1, hz1, ht1⟩ := drop_cons ht
        obtain ⟨hj2, hz2, ht2⟩ := drop_cons ht1
        rw [ht2] at h3
        obtain ⟨g, o1, rfl, p0, p1⟩ := HYr.out.at hlt
        obtain ⟨g', o1', e1, q0, q1⟩ := HYr.out.at hj1
        cases e1
        obtain ⟨g', o1', e1, r0, r1⟩ := HYr.out.at hj2
        cases e1
        rw [hz] at p0 p1
        rw [hz1] at q0 q1
        rw [hz2] at r0 r1
        dsimp only at p0 p1 q0 q1 r0 r1
        have HT := Lib.hid h3
        have HA := Lib.hid (show a + (2 * x + y + 1) + r' = n by omega)
        have HLT := Lib.hid hj2
        have wi1 : IntKind.i64.wrap ((j : Int) + 1) = ((j + 1 : Nat) : Int) := wj
        have wi2 : IntKind.i64.wrap ((j : Int) + 2) = ((j + 1 + 1 : Nat) : Int) := by have := HL.out; rw [IntWalk.i64_left]; unfold wrap64; omega
        have wi3 : IntKind.i64.wrap (((j + 1 + 1 : Nat) : Int) + 1) = ((j + 1 + 1 + 1 : Nat) : Int) := by have := HL.out; rw [IntWalk.i64_left]; unfold wrap64; omega
        have nlt : ¬ (l.length : Int) ≤ ((j + 1 + 1 : Nat) : Int) := by omega
        have wx : IntKind.i64.wrap (2 * (x : Int)) = ((2 * x : Nat) : Int) := by rw [IntWalk.i64_left]; unfold wrap64; omega
        have wxy : IntKind.i64.wrap (((2 * x : Nat) : Int) + (y : Int)) = ((2 * x + y : Nat) : Int) := by rw [IntWalk.i64_left]; unfold wrap64; omega
        have wxy1 : IntKind.i64.wrap (((2 * x + y : Nat) : Int) + 1) = ((2 * x + y + 1 : Nat) : Int) := by rw [IntWalk.i64_left]; unfold wrap64; omega
        have wa : IntKind.i64.wrap ((a : Int) + ((2 * x + y + 1 : Nat) : Int)) = ((a + (2 * x + y + 1) : Nat) : Int) := by have := HN.out; rw [IntWalk.i64_left]; unfold wrap64; omega
        have hj1' : ((j + 1 : Nat) : Int) < (l.length : Int) := by omega
        have hj2' : ((j + 1 + 1 : Nat) : Int) < (l.length : Int) := by omega
        clear h3 h2 hd hz ht hz1 ht1 hz2 ht2 hx hy hj1 hj2 hlt
        obtain ⟨X1, hX1⟩ : ∃ z, z = 2 * x := ⟨_, rfl⟩
        obtain ⟨X2, hX2⟩ : ∃ z, z = 2 * x + y := ⟨_, rfl⟩
        obtain ⟨X3, hX3⟩ : ∃ z, z = 2 * x + y + 1 := ⟨_, rfl⟩
        obtain ⟨X4, hX4⟩ : ∃ z, z = a + (2 * x + y + 1) := ⟨_, rfl⟩
        rw [← hX4] at wa HA
        rw [← hX3] at wxy1 wa
        rw [← hX2] at wxy wxy1
        rw [← hX1] at wx wxy
        obtain ⟨J1, hJ1⟩ : ∃ z, z = j + 1 := ⟨_, rfl⟩
        obtain ⟨J2, hJ2⟩ : ∃ z, z = J1 + 1 := ⟨_, rfl⟩
        obtain ⟨J3, hJ3⟩ : ∃ z, z = J2 + 1 := ⟨_, rfl⟩
        rw [← hJ1] at wj wi1 wi2 wi3 nlt hj1' hj2' q0 q1 r0 r1
        rw [← hJ2] at wi2 wi3 nlt hj2' r0 r1
        rw [← hJ3] at wi3
        have HJ := Lib.hid (show J3 = j + 1 + 1 + 1 by omega)
        clear hX1 hX2 hX3 hX4 hJ1 hJ2 hJ3
        have d0 := drewN_below wr
        go_wp2_with fail
        go_quiet (fail)
        go_wp2_with fail
        go_roundw
        case rel => exact ⟨J3, X4, r', by have := HJ.out; have := HLT.out; omega, by first | rfl | go_num, by first | rfl | go_num, ⟨by rw [HJ.out]; exact HT.out, HA.out⟩, dn_trans hD.out (dn_mk _ _)⟩
        case measure => have := HLT.out; have := HJ.out; simp [intOf]; omega
    · have hjl : j = l.length := by omega
      subst hjl
      have ha : a = n := by
        obtain ⟨h1, h2⟩ := hr.out
        rw [List.drop_length] at h1
        have := h1.le
        simp at this
        omega
      subst ha
      go_wp2_with fail
      go_ret
      exact ⟨rfl, hD.out⟩
end Go.Proofs.YtbhjapgioaiocaaDoor
