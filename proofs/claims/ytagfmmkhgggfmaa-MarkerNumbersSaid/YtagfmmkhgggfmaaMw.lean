/-
  Layer 28: the reference's SameSegment and SameSegments on equal segments.
-/
import Derived.Test.YtagfmmkhgggfmaaMv
set_option maxRecDepth 100000
namespace Go.Proofs.Ytagfmmkhgggfmaa
open Go.RowKit

theorem holds_own {w : World} {B n : Nat} {s : Option Addr} {m : Nat} {l : List Int} (h : w.ownsRow B 5 1 (.slice s n m) l.length (l.map (Value.int .u8))) : HoldsB w s l ∧ n = l.length ∧ l.length ≤ m ∧ m ≤ maxLen ∧ (s = none → l = [] ∧ m = 0) := by
  obtain ⟨_, s', m', e, hH, hm, hn⟩ := HoldsB.of_own h
  injection e with e1 e2 e3
  subst e1
  subst e3
  exact ⟨hH, e2, hm.1, hm.2, hn⟩
set_option maxHeartbeats 1000000 in
theorem same_seg (w : World) (c : Int) (p : List Int) (s t : Option Addr) (m k : Nat) (ha : HoldsB w s p) (hb : HoldsB w t p) :
    Calls Try.prog 21 #[.agg #[.int .i64 c, .slice s p.length m], .agg #[.int .i64 c, .slice t p.length k]] w fun e w' => e = .returned (.bool true) ∧ Below w.heap.size w w' := by
  have HB := Lib.hid (show Below w.heap.size w ((w.alloc (.cells #[.int .i64 c, .slice s p.length m] 26)).alloc (.cells #[.int .i64 c, .slice t p.length k] 26)) from ((Below.refl _ w).alloc (Nat.le_refl _) _).alloc (by simp) _)
  have h1 := conv_b _ p s m (ha.call HB.out)
  have h2 := conv_b _ p t k (hb.call HB.out)
  generalize p.length = n at *
  clear ha hb
  go_enter Try.func21, Try.ntmps21
  go_wp2_with fail
  go_ret
  exact ⟨rfl, HB.out⟩
/-- A list of segments behind a slice's address. -/
def HoldsS (w : World) (a : Option Addr) (Q : List (Int × Value)) (l : List (Int × List Int)) : Prop := Q.length = l.length ∧ (Q = [] ∨ ∃ b off, a = some ⟨b, off, none⟩ ∧ ∀ k (h1 : k < Q.length) (h2 : k < l.length),
  w.cell? ⟨b, off + k * 2, none⟩ = some (.int .i64 l[k].1) ∧ w.cell? ⟨b, off + k * 2 + 1, none⟩ = some Q[k].2 ∧ ∃ s m, Q[k].2 = .slice s l[k].2.length m ∧ HoldsB w s l[k].2 ∧ (s = none → l[k].2 = [] ∧ m = 0))
theorem HoldsS.below {B : Nat} {w w1 : World} {a : Option Addr} {Q : List (Int × Value)} {l : List (Int × List Int)} (h : HoldsS w a Q l) (hb : Below B w w1) (hB : w.heap.size ≤ B) : HoldsS w1 a Q l := by
  refine ⟨h.1, ?_⟩
  rcases h.2 with h | ⟨b, off, rfl, hr⟩
  · exact .inl h
  · refine .inr ⟨b, off, rfl, fun k h1 h2 => ?_⟩
    obtain ⟨c0, c1, s, m, e, hh, hn⟩ := hr k h1 h2
    have := Nat.lt_of_lt_of_le (cell_lt c0) hB
    exact ⟨(hb.cell (p := ⟨b, _, none⟩) this).trans c0, (hb.cell (p := ⟨b, _, none⟩) this).trans c1, s, m, e, hh.below hb hB, hn⟩
theorem HoldsS.call {w w1 : World} {a : Option Addr} {Q : List (Int × Value)} {l : List (Int × List Int)} (h : HoldsS w a Q l) (hb : Below w.heap.size w w1) : HoldsS w1 a Q l := h.below hb (Nat.le_refl _)
theorem sg_at (Q : List (Int × Value)) (k : Nat) (hk : k < Q.length) : (Q.flatMap sgV)[k * 2]? = some (.int .i64 Q[k].1) ∧ (Q.flatMap sgV)[k * 2 + 1]? = some Q[k].2 := by
  induction Q generalizing k with
  | nil => simp at hk
  | cons x Q ih =>
    rw [List.flatMap_cons]
    cases k with
    | zero => simp [sgV]
    | succ k =>
      have := ih k (by simpa using hk)
      rw [List.getElem?_append_right (by simp [sgV]; omega), List.getElem?_append_right (by simp [sgV]; omega)]
      have e1 : (k + 1) * 2 - (sgV x).length = k * 2 := by simp [sgV]; omega
      have e2 : (k + 1) * 2 + 1 - (sgV x).length = k * 2 + 1 := by simp [sgV]; omega
      rw [e1, e2]
      simpa using this
/-- A row of the call's own holds its segments. -/
theorem own_holdsS {w : World} {B : Nat} {v : Value} {Q : List (Int × Value)} {l : List (Int × List Int)} (h : w.ownsRow B 26 2 v Q.length (Q.flatMap sgV)) (he : Sgs w B Q l) : ∃ s m, v = .slice s l.length m ∧ HoldsS w s Q l ∧ l.length ≤ m ∧ (s = none → l = [] ∧ m = 0) := by
  have hlen := he.len
  rcases h.2 with ⟨rfl, h0⟩ | ⟨g, cap, cur, rfl, hb, hg, hc, hm, hs, ht⟩
  · have : Q = [] := List.length_eq_zero_iff.1 h0
    subst this
    have : l = [] := List.length_eq_zero_iff.1 hlen.symm
    subst this
    exact ⟨none, 0, rfl, ⟨rfl, .inl rfl⟩, Nat.le_refl _, fun _ => ⟨rfl, rfl⟩⟩
  · refine ⟨_, cap, by rw [hlen], ⟨hlen, .inr ⟨g, 0, rfl, fun k h1 h2 => ?_⟩⟩, by omega, fun h => by simp at h⟩
    obtain ⟨a0, a1⟩ := sg_at Q k h1
    rw [← ht, List.getElem?_take_of_lt (by omega)] at a0 a1
    obtain ⟨q1, q2⟩ := he.els k h1 h2
    obtain ⟨_, s1, m1, e1, hh, _, hn⟩ := HoldsB.of_own q2
    refine ⟨?_, ?_, s1, m1, e1, hh, hn⟩
    · rw [← q1, Nat.zero_add]
      simp only [World.cell?, hg]
      rw [Array.getElem?_toList] at a0
      simpa using a0
    · rw [Nat.zero_add]
      simp only [World.cell?, hg]
      rw [Array.getElem?_toList] at a1
      simpa using a1
set_option maxHeartbeats 1000000 in
theorem same_segs (w : World) (l : List (Int × List Int)) (Q R : List (Int × Value)) (s t : Option Addr) (m k : Nat) (ha : HoldsS w s Q l) (hb : HoldsS w t R l) (hl : l.length ≤ 100000000) :
    Calls Try.prog 22 #[.slice s l.length m, .slice t l.length k] w fun e w' => e = .returned (.bool true) ∧ Below w.heap.size w w' := by
  have HA := Lib.hid ha
  have HB := Lib.hid hb
  clear ha hb
  go_enter Try.func22, Try.ntmps22
  go_wp2_with fail
  go_loopw [13] (fun i wr => ∃ j : Nat, j ≤ l.length ∧ i = .int .i64 (j : Int) ∧ Hid (Below w.heap.size w wr)) (fun i _ => l.length - (intOf i).toNat)
  case atStart => exact ⟨0, Nat.zero_le _, rfl, Lib.hid (Below.refl _ _)⟩
  case round =>
    obtain ⟨j, hj, rfl, hb⟩ := hrel
    by_cases hlt : j < l.length
    · have A1 := HA.out.below hb.out (Nat.le_refl _)
      have B1 := HB.out.below hb.out (Nat.le_refl _)
      have q1 : j < Q.length := by rw [A1.1]; exact hlt
      have q2 : j < R.length := by rw [B1.1]; exact hlt
      obtain ⟨b1, o1, rfl, hr1⟩ : ∃ b off, s = some ⟨b, off, none⟩ ∧ ∀ k (h1 : k < Q.length) (h2 : k < l.length),
          wr.cell? ⟨b, off + k * 2, none⟩ = some (.int .i64 l[k].1) ∧ wr.cell? ⟨b, off + k * 2 + 1, none⟩ = some Q[k].2 ∧ ∃ s m, Q[k].2 = .slice s l[k].2.length m ∧ HoldsB wr s l[k].2 ∧ (s = none → l[k].2 = [] ∧ m = 0) := by
        rcases A1.2 with rfl | h
        · simp at q1
        · exact h
      obtain ⟨b2, o2, rfl, hr2⟩ : ∃ b off, t = some ⟨b, off, none⟩ ∧ ∀ k (h1 : k < R.length) (h2 : k < l.length),
          wr.cell? ⟨b, off + k * 2, none⟩ = some (.int .i64 l[k].1) ∧ wr.cell? ⟨b, off + k * 2 + 1, none⟩ = some R[k].2 ∧ ∃ s m, R[k].2 = .slice s l[k].2.length m ∧ HoldsB wr s l[k].2 ∧ (s = none → l[k].2 = [] ∧ m = 0) := by
        rcases B1.2 with rfl | h
        · simp at q2
        · exact h
      obtain ⟨c0, c1, s1, m1, e1, hh1, _⟩ := hr1 j q1 hlt
      obtain ⟨d0, d1, s2, m2, e2, hh2, _⟩ := hr2 j q2 hlt
      rw [e1] at c1
      rw [e2] at d1
      have ks := same_seg wr.drew l[j].1 l[j].2 s1 s2 m1 m2 hh1 hh2
      have hi : (j : Int) < (l.length : Int) := by omega
      clear hr1 hr2 e1 e2 hh1 hh2 A1 B1
      generalize l[j] = y at *
      obtain ⟨c, p⟩ := y
      simp only at c0 c1 d0 d1 ks
      generalize p.length = np at *
      go_upto_region 6 with fail
      go_still_tail 8, rfl
      go_wp2_with (first | (go_at_call 21; (with_reducible refine ks.mono ?_); rintro e w1 ⟨rfl, hb1⟩; have HB1 := Lib.hid (hb.out.trans ((Below.refl _ wr).drew.trans (hb1.mono hb.out.size))); clear hb1) | fail)
      go_roundw
      case rel => exact ⟨j + 1, by omega, by go_num, HB1⟩
      case measure => simp [intOf]; omega
    · obtain rfl : j = l.length := by omega
      go_wp2_with fail
      go_ret
      exact ⟨rfl, hb.out⟩
end Go.Proofs.Ytagfmmkhgggfmaa
