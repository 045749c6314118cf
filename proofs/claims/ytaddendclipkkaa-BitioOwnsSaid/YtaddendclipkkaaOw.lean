/-
  Layer 9: readers and writers beside a block that is none of theirs.
-/
import Derived.Test.YtaddendclipkkaaLawB
import Derived.Test.YtaddendclipkkaaSc
import Derived.Laws.AppendOwnNone
set_option maxRecDepth 100000
namespace Go.Proofs.Ytaddendclipkkaa
open Go.RowKit

theorem snew_none (w : World) :
    Calls Try.prog 15 #[.slice none 0 0] w fun e w' => ∃ a, e = .returned (.pointer (some ⟨a, 0, none⟩)) ∧ Sp w' w.heap.size a [] 0 0 ∧ Below w.heap.size w w' := by
  obtain ⟨i0, hi, hz0, hz1, hz2⟩ := info_parts info8
  have HA := Lib.hid ((Below.refl w.heap.size w).alloc (Nat.le_refl _) (.cells #[] 5))
  have HO := Lib.hid (World.ownsRow_made w #[] 0 (Nat.le_refl _) (by decide : (0:Nat) ≤ maxLen) (by simp) : (w.alloc (.cells #[] 5)).ownsRow w.heap.size 5 1 (.slice (some ⟨w.heap.size, 0, none⟩) 0 0) 0 [])
  go_enter Try.func15, Try.ntmps15
  go_wp2_with (first | (at_builtin; refine wpList_append_own_none rfl _ _ 22 rfl w.heap.size 5 i0 1 Try.underlying22 hi _ 0 [] rfl HO.out rfl ?_))
  go_ret
  exact ⟨_, rfl, ⟨.slice (some ⟨w.heap.size, 0, none⟩) 0 0, by simp, by have h := Blk.new (w.alloc (.cells #[] 5)) 84 #[.bool true, .slice (some ⟨w.heap.size, 0, none⟩) 0 0, .int .i64 0, .int .i64 0]; simpa using h, own_below HO.out ((Below.refl _ _).alloc (Nat.le_refl _) _)⟩, HA.out.alloc HA.out.size _⟩
theorem snew_c (w : World) (bs : List Int) (s : Option Addr) (m : Nat) (hH : HoldsB w s bs) (hs : s = none → bs = [] ∧ m = 0) (hl : bs.length ≤ 1000000000) :
    Calls Try.prog 15 #[.slice s bs.length m] w fun e w' => ∃ a, e = .returned (.pointer (some ⟨a, 0, none⟩)) ∧ Sp w' w.heap.size a bs 0 0 ∧ Below w.heap.size w w' := by
  cases s with
  | none => obtain ⟨rfl, rfl⟩ := hs rfl; exact snew_none w
  | some p => exact snew_some w bs p m hH hl
theorem Sp.lower {w : World} {B B' a : Nat} {bs : List Int} {p q : Nat} (h : Sp w B a bs p q) (hB : B' ≤ B) : Sp w B' a bs p q := by
  obtain ⟨sv, h⟩ := h
  refine ⟨sv, Nat.le_trans hB h.ge, h.blk, h.own.1, ?_⟩
  rcases h.own.2 with h2 | ⟨g, cap, cur, hv, h3, h4⟩
  · exact .inl h2
  · exact .inr ⟨g, cap, cur, hv, Nat.le_trans hB h3, h4⟩
theorem enc_byt9 {L : List Int} (hL : Bi.bits L) : Bi.bytes (Bi.enc L) := by
  have h := (Bi.st_ok hL).byte
  unfold Bi.enc Bi.fin
  split
  · intro x hx
    rcases List.mem_append.1 hx with h1 | h1
    · exact h x h1
    · simp at h1; subst h1; decide
  · exact h
theorem enc_le9 (L : List Int) : (Bi.enc L).length ≤ L.length + 1 := by
  have := Bi.st_len L
  unfold Bi.enc Bi.fin
  split
  · rw [List.length_append]; simp; omega
  · omega
theorem sd_lt9 {W : World} {B r tt : Nat} {bs : List Int} (h : Sd W B r bs tt) : r < W.heap.size := Sp.lt h
theorem sd_fl {W : World} {B r tt : Nat} {bs : List Int} (h : Sd W B r bs tt) : ∀ k, Fp W r k → k < W.heap.size := fun k hk => (Sp.foot h k hk).2
theorem fp_set {W : World} {a g i : Nat} {x : Value} (ha : ∀ k, Fp W a k → k ≠ g) (k : Nat) (hk : Fp (W.setCell ⟨g, i, none⟩ x) a k) : Fp W a k := (fp_same (Below.heap_setCell _ _ _ _ (by simpa using ha a (.inl rfl))) k).1 hk
/-- Two readers; a block of bytes besides, of which those from i on are known. -/
structure Ow (w : World) (a r g : Nat) (bs : List Int) (n i : Nat) (W : World) : Prop where
  rd : Rd W w.heap.size a bs 0
  sd : Sd W w.heap.size r bs 0
  dj : Dj W a r
  na : ∀ k, Fp W a k → k ≠ g
  nr : ∀ k, Fp W r k → k ≠ g
  ge : w.heap.size ≤ g
  row : ∃ cs, Blk W g 5 cs ∧ ∀ k, i ≤ k → k < n → ∃ x : Int, cs[k]? = some (.int .u8 x) ∧ 0 ≤ x ∧ x ≤ 255
  below : Below w.heap.size w W
theorem Ow.set {w W : World} {a r g n i : Nat} {bs : List Int} (H : Ow w a r g bs n i W) (x : Value) : Ow w a r g bs n (i + 1) (W.setCell ⟨g, i, none⟩ x) := by
  have e : ∀ k, k ≠ g → (W.setCell ⟨g, i, none⟩ x).heap[k]? = W.heap[k]? := fun k hk => Below.heap_setCell _ _ _ _ hk
  obtain ⟨cs, h1, h2⟩ := H.row
  refine ⟨H.rd.keep fun k hf => e k (H.na k hf), Sp.keep H.sd fun k hf => e k (H.nr k hf), fun k p q => H.dj k (fp_set H.na k p) (fp_set H.nr k q), fun k p => H.na k (fp_set H.na k p), fun k p => H.nr k (fp_set H.nr k p), H.ge, ⟨_, h1.set _ _, fun k h3 h4 => ?_⟩, H.below.setCell H.ge _⟩
  rw [Array.getElem?_setIfInBounds, if_neg (by omega)]
  exact h2 k (by omega) h4
/-- Both readers at one place. -/
structure Rs (w : World) (a r : Nat) (bs : List Int) (t : Nat) (W : World) : Prop where
  rd : Rd W w.heap.size a bs t
  sd : Sd W w.heap.size r bs t
  dj : Dj W a r
  le : t ≤ 8 * bs.length
  below : Below w.heap.size w W
theorem Rs.get {w W W1 : World} {a r t t' : Nat} {bs : List Int} (H : Rs w a r bs t W) (_hR : Rd W1 w.heap.size a bs t') (hK : Kp a W W1) : Sd W1 w.heap.size r bs t ∧ Dj W1 a r ∧ Below w.heap.size w W1 :=
  ⟨Sp.keep H.sd (H.dj.kp hK (sd_fl H.sd)).2, (H.dj.kp hK (sd_fl H.sd)).1, H.below.trans (H.rd.out hK)⟩
theorem Rs.mk2 {w x1 x2 : World} {a r t' : Nat} {bs : List Int} {t : Nat} (hR : Rd x1 w.heap.size a bs t') (hS : Sd x1 w.heap.size r bs t) (hD : Dj x1 a r) (hB : Below w.heap.size w x1) (hS2 : Sd x2 w.heap.size r bs t') (hK : Kp r x1 x2) (hle : t' ≤ 8 * bs.length) : Rs w a r bs t' x2 :=
  ⟨hR.keep (hD.symm.kp hK hR.fl).2, hS2, (hD.symm.kp hK hR.fl).1.symm, hle, hB.trans (Sp.out hS hK)⟩
/-- Two writers; a block of bytes besides. -/
structure Ov (w : World) (a v g : Nat) (L : List Int) (n i : Nat) (W : World) : Prop where
  two : Two w a v L W
  na : ∀ k, Fp W a k → k ≠ g
  nv : ∀ k, Fp W v k → k ≠ g
  ge : w.heap.size ≤ g
  row : ∃ cs, Blk W g 5 cs ∧ ∀ k, i ≤ k → k < n → ∃ x : Int, cs[k]? = some (.int .u8 x) ∧ 0 ≤ x ∧ x ≤ 255
theorem Ov.set {w W : World} {a v g n i : Nat} {L : List Int} (H : Ov w a v g L n i W) (x : Value) : Ov w a v g L n (i + 1) (W.setCell ⟨g, i, none⟩ x) := by
  have e : ∀ k, k ≠ g → (W.setCell ⟨g, i, none⟩ x).heap[k]? = W.heap[k]? := fun k hk => Below.heap_setCell _ _ _ _ hk
  obtain ⟨cs, h1, h2⟩ := H.row
  refine ⟨⟨H.two.wr.keep fun k hf => e k (H.na k hf), H.two.vr.keep fun k hf => e k (H.nv k hf), fun k p q => H.two.dj k (fp_set H.na k p) (fp_set H.nv k q), H.two.below.setCell H.ge _⟩, fun k p => H.na k (fp_set H.na k p), fun k p => H.nv k (fp_set H.nv k p), H.ge, ⟨_, h1.set _ _, fun k h3 h4 => ?_⟩⟩
  rw [Array.getElem?_setIfInBounds, if_neg (by omega)]
  exact h2 k (by omega) h4
end Go.Proofs.Ytaddendclipkkaa
