/-
  The chapter's examples of layer 12 hold; writers and readers that no function returned.
-/
import Derived.Test.YtbaappodeicomaaDoorTr
set_option maxRecDepth 100000
namespace Go.Proofs.YtbaappodeicomaaDoor
open Go.RowKit

theorem seg101 : Pk.seg [1, 0, 1] = [160] := by decide +kernel
theorem wput1 (w : World) (B a : Nat) (h : Rw w B a []) : Calls Tryd.prog 49 #[.pointer (some ⟨a, 0, none⟩), .int .i64 1] w (RwGives B a [1] 0 w) := put_c w B a [] 1 h Pk.bits_nil (by decide)
theorem wput2 (w : World) (B a : Nat) (h : Rw w B a [1]) : Calls Tryd.prog 49 #[.pointer (some ⟨a, 0, none⟩), .int .i64 0] w (RwGives B a [1, 0] 0 w) := put_c w B a [1] 0 h (by intro x hx; simp at hx; subst hx; exact .inr rfl) (by decide)
theorem wput3 (w : World) (B a : Nat) (h : Rw w B a [1, 0]) : Calls Tryd.prog 49 #[.pointer (some ⟨a, 0, none⟩), .int .i64 1] w (RwGives B a [1, 0, 1] 0 w) := put_c w B a [1, 0] 1 h (by intro x hx; simp at hx; rcases hx with rfl | rfl; exact .inr rfl; exact .inl rfl) (by decide)
theorem wterm4 (w : World) (B a : Nat) (h : Rw w B a [1, 0, 1]) : Calls Tryd.prog 47 #[.pointer (some ⟨a, 0, none⟩)] w fun e w' => ∃ s m, e = .returned (.slice s 1 m) ∧ HoldsB w' s [160] ∧ Rw w' B a [] ∧ Kp a w w' := by
  refine (wterm_c w B a _ h (by decide)).mono ?_
  rintro e w' ⟨s, m, he, hH, _, _, _, hR, hK⟩
  rw [seg101] at he hH
  exact ⟨s, m, he, hH, hR, hK⟩
theorem wsize1 (w : World) (B a : Nat) (h : Rw w B a [1, 0, 1]) : Calls Tryd.prog 51 #[.pointer (some ⟨a, 0, none⟩)] w fun e w' => e = .returned (.int .i64 1) ∧ w = w' := wsize_c w B a _ h (by decide)
theorem wsize0 (w : World) (B a : Nat) (h : Rw w B a []) : Calls Tryd.prog 51 #[.pointer (some ⟨a, 0, none⟩)] w fun e w' => e = .returned (.int .i64 0) ∧ w = w' := wsize_c w B a _ h (by decide)
theorem b128 : Am.bytes [128] := by intro x hx; simp at hx; subst hx; exact ⟨by decide, by decide⟩
theorem rget1 (w : World) (B a : Nat) (h : Rr w B a [128] 0) : Calls Tryd.prog 55 #[.pointer (some ⟨a, 0, none⟩)] w (RrGives B a [128] 1 1 w) := rget_c w B a [128] 0 h b128 (by decide)
theorem rget2 (w : World) (B a : Nat) (h : Rr w B a [128] 1) : Calls Tryd.prog 55 #[.pointer (some ⟨a, 0, none⟩)] w (RrGives B a [128] 2 0 w) := rget_c w B a [128] 1 h b128 (by decide)
set_option maxHeartbeats 4000000 in
theorem awake12_c (w : World) : Calls Tryd.prog 43 #[] w fun e w' => e = .returned (.bool true) ∧ Below w.heap.size w w' := by
  go_enter Tryd.func43, Tryd.ntmps43
  go_wp2_with fail
  refine (wnew_c _).mono ?_
  rintro e w1 ⟨a, rfl, hW, hB⟩
  have hs1 := hB.size
  go_wp2_with fail
  refine (wput1 w1 _ a hW).mono ?_
  rintro e w2 ⟨rfl, hW2, hK⟩
  replace hB := hB.trans (hW.out hK)
  clear hW hK
  go_wp2_with fail
  refine (wput2 w2 _ a hW2).mono ?_
  rintro e w3 ⟨rfl, hW3, hK⟩
  replace hB := hB.trans (hW2.out hK)
  clear hW2 hK
  go_wp2_with fail
  refine (wput3 w3 _ a hW3).mono ?_
  rintro e w4 ⟨rfl, hW4, hK⟩
  replace hB := hB.trans (hW3.out hK)
  clear hW3 hK
  have HW4 := Lib.hid hW4
  go_wp2_with fail
  refine (wsize1 w4 _ a hW4).mono ?_
  rintro e wn ⟨rfl, rfl⟩
  go_wp2_with fail
  refine (wterm4 w4 _ a hW4).mono ?_
  rintro e w5 ⟨s, m, rfl, hH, hW5, hK⟩
  replace hB := hB.trans (hW4.out hK)
  clear hW4 hK HW4
  have hA : Below w5.heap.size w5 (w5.alloc (.cells #[.int .u8 160] 5)) := (Below.refl _ _).alloc (Nat.le_refl _) _
  have hN := holdsB_new w5 [160]
  replace hH := hH.call hA
  replace hB := hB.trans (hA.mono hB.size)
  replace hW5 := hW5.below hA
  clear hA
  go_wp2_with fail
  refine (same12_t _ [160] _ _ 1 _ _ rfl hH hN (by decide)).mono ?_
  rintro e w6 ⟨rfl, hb⟩
  replace hB := hB.trans (hb.mono hB.size)
  replace hW5 := hW5.below hb
  clear hH hN hb
  go_wp2_with fail
  refine (wsize0 w6 _ a hW5).mono ?_
  rintro e wn ⟨rfl, rfl⟩
  go_wp2_with fail
  have hA : Below w6.heap.size w6 (w6.alloc (.cells #[.int .u8 128] 5)) := (Below.refl _ _).alloc (Nat.le_refl _) _
  have hN := holdsB_new w6 [128]
  replace hB := hB.trans (hA.mono hB.size)
  refine (rnew_c _ [128] _ 1 hN (fun h => by simp at h) (by decide)).mono ?_
  rintro e w7 ⟨b, rfl, hR, hb⟩
  have hs7 := hB.size
  replace hB := hB.trans (hb.mono hB.size)
  clear hN hA hb hW5
  go_wp2_with fail
  refine (rget1 _ _ _ hR).mono ?_
  rintro e w8 ⟨rfl, hR8, hK⟩
  replace hB := hB.trans ((hR.out hK).mono hs7)
  clear hR hK
  go_wp2_with fail
  refine (rget2 _ _ _ hR8).mono ?_
  rintro e w9 ⟨rfl, hR9, hK⟩
  replace hB := hB.trans ((hR8.out hK).mono hs7)
  clear hR8 hK
  go_wp2_with fail
  refine (rat_c _ _ _ _ _ hR9).mono ?_
  rintro e wn ⟨rfl, rfl⟩
  go_wp2_with fail
  go_ret
  exact ⟨rfl, hB⟩
/-- A writer (a reader) that made refuses, in all later worlds. -/
def NoW (q : Option Addr) (w : World) : Prop := q = none ∨ ∃ a, q = some ⟨a, 0, none⟩ ∧ w.cell? ⟨a, 2, none⟩ = some (.pointer none)
theorem NoW.wmade {q : Option Addr} {w : World} (h : NoW q w) : Calls Tryd.prog 79 #[.pointer q] w fun e w' => e = .returned (.bool false) ∧ w = w' := by
  rcases h with rfl | ⟨a, rfl, h⟩
  · exact wmade_n w
  · exact wmade_z a w h
theorem NoW.rmade {q : Option Addr} {w : World} (h : NoW q w) : Calls Tryd.prog 81 #[.pointer q] w fun e w' => e = .returned (.bool false) ∧ w = w' := by
  rcases h with rfl | ⟨a, rfl, h⟩
  · exact rmade_n w
  · exact rmade_z a w h
theorem nput (q : Option Addr) (b : Int) (w : World) (h : NoW q w) : Calls Tryd.prog 49 #[.pointer q, .int .i64 b] w fun e w' => e = .returned (.int .i64 6) ∧ w = w' := by
  have hm := h.wmade
  clear h
  go_enter Tryd.func49, Tryd.ntmps49
  go_wp2_with (first | (go_at_call 79; (with_reducible refine hm.mono ?_); rintro e wn ⟨rfl, rfl⟩))
  go_ret
  exact ⟨rfl, rfl⟩
theorem nsize (q : Option Addr) (w : World) (h : NoW q w) : Calls Tryd.prog 51 #[.pointer q] w fun e w' => e = .returned (.int .i64 0) ∧ w = w' := by
  have hm := h.wmade
  clear h
  go_enter Tryd.func51, Tryd.ntmps51
  go_wp2_with (first | (go_at_call 79; (with_reducible refine hm.mono ?_); rintro e wn ⟨rfl, rfl⟩))
  go_ret
  exact ⟨rfl, rfl⟩
theorem nterm (q : Option Addr) (w : World) (h : NoW q w) : Calls Tryd.prog 47 #[.pointer q] w fun e w' => e = .returned (.slice none 0 0) ∧ w = w' := by
  have hm := h.wmade
  clear h
  go_enter Tryd.func47, Tryd.ntmps47
  go_wp2_with (first | (go_at_call 79; (with_reducible refine hm.mono ?_); rintro e wn ⟨rfl, rfl⟩))
  go_ret
  exact ⟨rfl, rfl⟩
theorem nget (q : Option Addr) (w : World) (h : NoW q w) : Calls Tryd.prog 55 #[.pointer q] w fun e w' => e = .returned (.int .i64 0) ∧ w = w' := by
  have hm := h.rmade
  clear h
  go_enter Tryd.func55, Tryd.ntmps55
  go_wp2_with (first | (go_at_call 81; (with_reducible refine hm.mono ?_); rintro e wn ⟨rfl, rfl⟩))
  go_ret
  exact ⟨rfl, rfl⟩
theorem nat (q : Option Addr) (w : World) (h : NoW q w) : Calls Tryd.prog 57 #[.pointer q] w fun e w' => e = .returned (.int .i64 0) ∧ w = w' := by
  have hm := h.rmade
  clear h
  go_enter Tryd.func57, Tryd.ntmps57
  go_wp2_with (first | (go_at_call 81; (with_reducible refine hm.mono ?_); rintro e wn ⟨rfl, rfl⟩))
  go_ret
  exact ⟨rfl, rfl⟩
end Go.Proofs.YtbaappodeicomaaDoor
