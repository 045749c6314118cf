/-
  NewReader of the code of layer 9; the chapter's examples hold; few.
-/
import Derived.Test.YtaddendclipkkaaRc
set_option maxRecDepth 100000
namespace Go.Proofs.Ytaddendclipkkaa
open Go.RowKit

theorem rnew_some (w : World) (bs : List Int) (p : Addr) (m : Nat) (hH : HoldsB w (some p) bs) (hl : bs.length ≤ 1000000000) :
    Calls Try.prog 14 #[.slice (some p) bs.length m] w fun e w' => ∃ a, e = .returned (.pointer (some ⟨a, 0, none⟩)) ∧ Rd w' w.heap.size a bs 0 ∧ Below w.heap.size w w' := by
  obtain ⟨i0, hi, hz0, hz1, hz2⟩ := info_parts info8
  have HN := Lib.hid (holdsB_list hH)
  go_enter Try.func14, Try.ntmps14
  go_wp2_with (first | (at_builtin; refine wpList_append_own_at _ rfl _ _ 22 rfl w.heap.size 5 i0 (.int .u8 0) 1 1 Try.underlying22 hi hz0 hz1 hz2 rfl (by decide) _ 0 [] rfl (World.ownsRow_nil _ _ _ _) p bs.length m (bs.map (Value.int .u8)) rfl (by simp) HN.out (one8 bs) (by unfold maxLen; omega) (by omega) (Nat.le_refl _) ?_))
  intro v' w2 hown hgrow _ hat
  have hown2 : w2.ownsRow w.heap.size 5 1 v' bs.length (bs.map (Value.int .u8)) := by simpa using hown
  have hb : Below w.heap.size w w2 := (Below.refl _ _).grown hgrow (Nat.le_refl _) (fun k hk => by simp [Value.ownBlock] at hk)
  obtain ⟨_, s5, m5, rfl, _, _⟩ := HoldsB.of_own hown2
  have HO := Lib.hid hown2
  have HB := Lib.hid hb
  clear hown hown2 hgrow hat hb
  go_wp2_with fail
  go_ret
  refine ⟨_, rfl, ⟨.slice s5 bs.length m5, HB.out.size, Blk.new w2 82 _, own_below HO.out ((Below.refl _ _).alloc (Nat.le_refl _) _)⟩, HB.out.alloc HB.out.size _⟩
theorem rnew_none (w : World) :
    Calls Try.prog 14 #[.slice none 0 0] w fun e w' => ∃ a, e = .returned (.pointer (some ⟨a, 0, none⟩)) ∧ Rd w' w.heap.size a [] 0 ∧ Below w.heap.size w w' := by
  obtain ⟨i0, hi, hz0, hz1, hz2⟩ := info_parts info8
  go_enter Try.func14, Try.ntmps14
  go_wp2_with (first | (at_builtin; refine wpList_append_own_none rfl _ _ 22 rfl w.heap.size 5 i0 1 Try.underlying22 hi _ 0 [] rfl (World.ownsRow_nil _ _ _ _) rfl ?_))
  go_wp2_with fail
  go_ret
  refine ⟨_, rfl, ⟨.slice none 0 0, Nat.le_refl _, Blk.new w 82 _, World.ownsRow_nil _ _ _ _⟩, (Below.refl _ _).alloc (Nat.le_refl _) _⟩
theorem rnew_c (w : World) (bs : List Int) (s : Option Addr) (m : Nat) (hH : HoldsB w s bs) (hs : s = none → bs = [] ∧ m = 0) (hl : bs.length ≤ 1000000000) :
    Calls Try.prog 14 #[.slice s bs.length m] w fun e w' => ∃ a, e = .returned (.pointer (some ⟨a, 0, none⟩)) ∧ Rd w' w.heap.size a bs 0 ∧ Below w.heap.size w w' := by
  cases s with
  | none => obtain ⟨rfl, rfl⟩ := hs rfl; exact rnew_none w
  | some p => exact rnew_some w bs p m hH hl
theorem e9a (w : World) (B a : Nat) (hW : Wr w B a []) : Calls Try.prog 44 #[.pointer (some ⟨a, 0, none⟩), .int .i64 12] w (WGives B a (Bi.una 12) 0 w) := by
  have h := unaW w B a [] 12 hW Bi.bits_nil (by decide)
  rw [show unaC 12 = 0 by decide, show ([] : List Int) ++ unaM 12 = Bi.una 12 by decide] at h
  exact h
theorem e9b (w : World) (B a : Nat) (hW : Wr w B a (Bi.una 12)) : Calls Try.prog 45 #[.pointer (some ⟨a, 0, none⟩), .int .i64 5] w (WGives B a (Bi.una 12 ++ [0, 0, 1, 0, 1]) 0 w) := by
  have h := gamW w B a (Bi.una 12) 5 hW (Bi.una_bits _) (by decide)
  rw [show gamC 5 = 0 by decide, show gamM 5 = [0, 0, 1, 0, 1] by decide +kernel] at h
  exact h
theorem e9c (w : World) (B a : Nat) (l : List Int) (hW : Wr w B a l) (hl : Bi.bits l) (hc : l.length + 64 ≤ 1000000000) : Calls Try.prog 45 #[.pointer (some ⟨a, 0, none⟩), .int .i64 0] w (WGives B a l 1 w) := by
  have h := gamW w B a l 0 hW hl hc
  rw [show gamC 0 = 1 by decide, show gamM 0 = [] by decide, List.append_nil] at h
  exact h
theorem e9d (w : World) (B a : Nat) (hW : Wr w B a (Bi.una 12)) : Calls Try.prog 22 #[.pointer (some ⟨a, 0, none⟩)] w fun e w' => ∃ g, e = .returned (.slice (some ⟨g, 0, none⟩) 2 2) ∧ HoldsB w' (some ⟨g, 0, none⟩) [255, 120] ∧ Below w.heap.size w w' := by
  refine (bytes_c w B a _ hW (by decide)).mono ?_
  rintro e w' ⟨g, pad, he, hR, _, hb⟩
  have hE : Bi.enc (Bi.una 12) = [255, 120] := by decide +kernel
  rw [hE] at he hR
  exact ⟨g, he, hR.holds, hb⟩
theorem e9e (w : World) (B a : Nat) (hR : Rd w B a [160] 0) : Calls Try.prog 46 #[.pointer (some ⟨a, 0, none⟩), .int .i64 3] w (RGives B a [160] 3 5 0 w) := by
  have h := rbits_c w B a [160] 0 3 hR (by decide) (by intro x hx; simp at hx; subst hx; decide) (by decide)
  rw [show rbT [160] 0 3 = 3 by decide +kernel, show rbV [160] 0 3 = 5 by decide +kernel, show rbE [160] 0 3 = 0 by decide +kernel] at h
  exact h
theorem e9f (w : World) (B a : Nat) (hR : Rd w B a [160] 3) : Calls Try.prog 47 #[.pointer (some ⟨a, 0, none⟩)] w (RGives B a [160] 8 1 0 w) := by
  have h := align_c w B a [160] 3 hR (by decide) (by intro x hx; simp at hx; subst hx; decide) (by decide)
  rw [show alR [160] 3 = (1, 0, 8) by decide +kernel] at h
  exact h
theorem e9g (w : World) (B a : Nat) (hR : Rd w B a [160] 8) : Calls Try.prog 16 #[.pointer (some ⟨a, 0, none⟩)] w (RGives B a [160] 8 0 7 w) := by
  have h := get_c w B a [160] 8 hR (by decide) (by intro x hx; simp at hx; subst hx; decide) (by decide)
  rw [show Bi.gN [160] 8 = 8 by decide +kernel, show Bi.gR [160] 8 = 0 by decide +kernel, show Bi.gE [160] 8 = 7 by decide +kernel] at h
  exact h
theorem holdsB_new (w : World) (l : List Int) : HoldsB (w.alloc (.cells (l.map (Value.int .u8)).toArray 5)) (some ⟨w.heap.size, 0, none⟩) l := by
  have h : RowB (w.alloc (.cells (l.map (Value.int .u8)).toArray 5)) w.heap.size l [] := by
    unfold RowB
    rw [List.append_nil]
    exact Blk.new w _ _
  exact h.holds
set_option maxHeartbeats 4000000 in
theorem example09_c (w : World) : Calls Try.prog 13 #[] w fun e w' => e = .returned (.bool true) ∧ Below w.heap.size w w' := by
  go_enter Try.func13, Try.ntmps13
  go_wp2_with fail
  refine (new_c _).mono ?_
  rintro e w1 ⟨a, rfl, hW, hB⟩
  go_wp2_with fail
  refine (e9a w1 _ a hW).mono ?_
  rintro e w2 ⟨rfl, hW2, hK⟩
  replace hB := hB.trans (hW.out hK)
  clear hW hK
  go_wp2_with (first | (go_at_call 25; refine (len_c w2 _ a _ hW2).mono ?_; rintro e wn ⟨rfl, rfl⟩))
  refine (e9d w2 _ a hW2).mono ?_
  rintro e w3 ⟨g, rfl, hH, hb⟩
  replace hB := hB.trans (hb.mono hB.size)
  replace hW2 := hW2.below hb
  clear hb
  have hA : Below w3.heap.size w3 (w3.alloc (.cells #[.int .u8 255, .int .u8 120] 5)) := (Below.refl _ _).alloc (Nat.le_refl _) _
  have hN := holdsB_new w3 [255, 120]
  replace hH := hH.call hA
  replace hB := hB.trans (hA.mono hB.size)
  replace hW2 := hW2.below hA
  clear hA
  go_wp2_with fail
  refine (same_t _ [255, 120] _ _ 2 _ _ rfl hH hN).mono ?_
  rintro e wn ⟨rfl, rfl⟩
  clear hH hN
  generalize w3.alloc (.cells #[.int .u8 255, .int .u8 120] 5) = w4 at *
  go_wp2_with fail
  refine (e9b w4 _ a hW2).mono ?_
  rintro e w5 ⟨rfl, hW5, hK⟩
  replace hB := hB.trans (hW2.out hK)
  clear hW2 hK
  have HW5 := Lib.hid hW5
  go_wp2_with (first | (go_at_call 25; refine (len_c w5 _ a _ hW5).mono ?_; rintro e wn ⟨rfl, rfl⟩))
  refine (e9c w5 _ a _ hW5 (Bi.bits_app (Bi.una_bits _) (by intro x hx; simp at hx; unfold Bi.bit; omega)) (by decide)).mono ?_
  rintro e w6 ⟨rfl, hW6, hK⟩
  replace hB := hB.trans (hW5.out hK)
  clear hW5 HW5 hK hW6
  go_wp2_with fail
  have hN := holdsB_new w6 [160]
  have hA : Below w6.heap.size w6 (w6.alloc (.cells #[.int .u8 160] 5)) := (Below.refl _ _).alloc (Nat.le_refl _) _
  replace hB := hB.trans (hA.mono hB.size)
  have hS := hB.size
  refine (rnew_c _ [160] _ 1 hN (fun h => by simp at h) (by decide)).mono ?_
  rintro e w7 ⟨b, rfl, hR, hb⟩
  replace hB := hB.trans (hb.mono hB.size)
  clear hN hA hb
  go_wp2_with fail
  refine (e9e _ _ _ hR).mono ?_
  rintro e w8 ⟨rfl, hR8, hK⟩
  replace hB := hB.trans ((hR.out hK).mono hS)
  clear hR hK
  go_wp2_with fail
  refine (e9f _ _ _ hR8).mono ?_
  rintro e w9 ⟨rfl, hR9, hK⟩
  replace hB := hB.trans ((hR8.out hK).mono hS)
  clear hR8 hK
  go_wp2_with fail
  refine (e9g _ _ _ hR9).mono ?_
  rintro e w10 ⟨rfl, hR10, hK⟩
  replace hB := hB.trans ((hR9.out hK).mono hS)
  clear hR9 hK hR10
  go_wp2_with fail
  go_ret
  exact ⟨rfl, hB⟩
/-- A call of a writer or a reader: three numbers. -/
def OpAt (w : World) (b o : Nat) (q : Int × Int × Int) : Prop := w.cell? ⟨b, o, none⟩ = some (.int .i64 q.1) ∧ w.cell? ⟨b, o + 1, none⟩ = some (.int .i64 q.2.1) ∧ w.cell? ⟨b, o + 2, none⟩ = some (.int .i64 q.2.2)
/-- Calls behind a slice's address. -/
def HoldsO (w : World) (a : Option Addr) (l : List (Int × Int × Int)) : Prop := l = [] ∨ ∃ b off, a = some ⟨b, off, none⟩ ∧ ∀ k (_ : k < l.length), OpAt w b (off + k * 3) l[k]
theorem HoldsO.below {B : Nat} {w w1 : World} {a : Option Addr} {l : List (Int × Int × Int)} (h : HoldsO w a l) (hb : Below B w w1) (hB : w.heap.size ≤ B) : HoldsO w1 a l := by
  rcases h with rfl | ⟨b, off, rfl, hr⟩
  · exact .inl rfl
  · refine .inr ⟨b, off, rfl, fun k hk => ?_⟩
    obtain ⟨h0, h1, h2⟩ := hr k hk
    have hlt := Nat.lt_of_lt_of_le (cell_lt h0) hB
    exact ⟨(hb.cell (p := ⟨b, _, none⟩) hlt).trans h0, (hb.cell (p := ⟨b, _, none⟩) hlt).trans h1, (hb.cell (p := ⟨b, _, none⟩) hlt).trans h2⟩
theorem HoldsO.call {w w1 : World} {s : Option Addr} {l : List (Int × Int × Int)} (h : HoldsO w s l) (hb : Below w.heap.size w w1) : HoldsO w1 s l := h.below hb (Nat.le_refl _)
/-- The bits of the unary codes among calls. -/
def unaN (l : List (Int × Int × Int)) : Int := (l.map fun q => if q.1 = 3 ∧ 0 < q.2.1 ∧ q.2.1 ≤ 65535 then q.2.1 else 0).sum
def fewO (l : List (Int × Int × Int)) : Bool := decide (l.length ≤ 200 ∧ unaN l ≤ 70000)
theorem unaN_snoc (l : List (Int × Int × Int)) (q : Int × Int × Int) : unaN (l ++ [q]) = unaN l + if q.1 = 3 ∧ 0 < q.2.1 ∧ q.2.1 ≤ 65535 then q.2.1 else 0 := by simp [unaN, List.sum_append]
theorem unaN_bd (l : List (Int × Int × Int)) : 0 ≤ unaN l ∧ unaN l ≤ 65535 * l.length := by
  induction l with
  | nil => simp [unaN]
  | cons q l ih =>
    have e : unaN (q :: l) = (if q.1 = 3 ∧ 0 < q.2.1 ∧ q.2.1 ≤ 65535 then q.2.1 else 0) + unaN l := by simp [unaN]
    rw [e, List.length_cons]
    split <;> omega
set_option maxHeartbeats 1000000 in
theorem few_c (l : List (Int × Int × Int)) (s : Option Addr) (m : Nat) (w : World) (hH : HoldsO w s l) : Calls Try.prog 12 #[.slice s l.length m] w fun e w' => e = .returned (.bool (fewO l)) ∧ Below w.heap.size w w' := by
  by_cases h2 : 200 < l.length
  · have hf : Hid (fewO l = false) := by show _ = _; simp [fewO]; omega
    go_enter Try.func12, Try.ntmps12
    go_wp2_with fail
    go_ret
    exact ⟨by rw [hf.out]; rfl, Below.refl _ _⟩
  have hl : l.length ≤ 200 := by omega
  have HH := Lib.hid hH
  clear hH
  go_enter Try.func12, Try.ntmps12
  go_wp2_with fail
  go_loopw [3, 11] (fun n i wr => ∃ k : Nat, k ≤ l.length ∧ i = .int .i64 (k : Int) ∧ n = .int .i64 (unaN (l.take k)) ∧ Below w.heap.size w wr) (fun _ i _ => l.length - (intOf i).toNat)
  case atStart => exact ⟨0, Nat.zero_le _, rfl, rfl, Below.refl _ _⟩
  case round =>
    obtain ⟨k, hk, rfl, rfl, hB⟩ := hrel
    have hub := unaN_bd (l.take k)
    have htl : (l.take k).length ≤ 200 := by simp; omega
    by_cases hlt : k < l.length
    · obtain ⟨b, off, rfl, hr⟩ : ∃ b off, s = some ⟨b, off, none⟩ ∧ ∀ k (_ : k < l.length), OpAt wr b (off + k * 3) l[k] := by
        rcases HH.out.call hB with rfl | h
        · simp at hlt
        · exact h
      obtain ⟨c0, c1, c2⟩ := hr k hlt
      have hs := unaN_snoc (l.take k) l[k]
      rw [← List.take_succ_eq_append_getElem hlt] at hs
      obtain ⟨q0, hq0⟩ : ∃ q, q = l[k].1 := ⟨_, rfl⟩
      obtain ⟨q1, hq1⟩ : ∃ q, q = l[k].2.1 := ⟨_, rfl⟩
      obtain ⟨q2, hq2⟩ : ∃ q, q = l[k].2.2 := ⟨_, rfl⟩
      rw [← hq0] at c0 hs
      rw [← hq1] at c1 hs
      rw [← hq2] at c2
      clear hq0 hq1 hq2 hr
      by_cases k3 : q0 = 3
      · subst k3
        by_cases v0 : 0 < q1
        · by_cases v1 : q1 ≤ 65535
          · rw [if_pos ⟨rfl, v0, v1⟩] at hs
            have HS := Lib.hid hs
            clear hs
            go_wp2_with fail
            go_roundw
            case rel => exact ⟨k + 1, by omega, by go_num, by rw [HS.out]; try (first | rfl | rw [Int.add_zero]), hB.alloc hB.size _⟩
            case measure => simp [intOf]; omega
          · rw [if_neg (fun h => v1 h.2.2)] at hs
            have HS := Lib.hid hs
            clear hs
            go_wp2_with fail
            go_roundw
            case rel => exact ⟨k + 1, by omega, by go_num, by rw [HS.out]; try (first | rfl | rw [Int.add_zero]), hB.alloc hB.size _⟩
            case measure => simp [intOf]; omega
        · rw [if_neg (fun h => v0 h.2.1)] at hs
          have HS := Lib.hid hs
          clear hs
          go_wp2_with fail
          go_roundw
          case rel => exact ⟨k + 1, by omega, by go_num, by rw [HS.out]; try (first | rfl | rw [Int.add_zero]), hB.alloc hB.size _⟩
          case measure => simp [intOf]; omega
      · rw [if_neg (fun h => k3 h.1)] at hs
        have HS := Lib.hid hs
        have hk3 : (q0 == 3) = false := by simpa using k3
        clear hs k3
        go_wp2_with fail
        go_roundw
        case rel => exact ⟨k + 1, by omega, by go_num, by rw [HS.out]; try (first | rfl | rw [Int.add_zero]), hB.alloc hB.size _⟩
        case measure => simp [intOf]; omega
    · obtain rfl : k = l.length := by omega
      rw [List.take_of_length_le (Nat.le_refl _)] at hub ⊢
      have hf : Hid (fewO l = decide (unaN l ≤ 70000)) := by show _ = _; simp [fewO, hl]
      go_wp2_with fail
      go_ret
      exact ⟨by rw [hf.out]; rfl, hB⟩
end Go.Proofs.Ytaddendclipkkaa
