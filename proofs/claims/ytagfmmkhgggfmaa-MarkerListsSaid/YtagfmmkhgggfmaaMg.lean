/-
  Layer 28: contracts of Uint and of Append, the code's.
-/
import Derived.Test.YtagfmmkhgggfmaaMf
set_option maxRecDepth 100000
namespace Go.Proofs.Ytagfmmkhgggfmaa
open Go.RowKit

/-- Bytes of the call's own, and an error. -/
def GivesBE (bs : List Int) (er : Int) (w : World) (e : Ending) (w' : World) : Prop := ∃ v, e = .returned (.tuple #[v, .int .i64 er]) ∧ w'.ownsRow w.heap.size 5 1 v bs.length (bs.map (Value.int .u8)) ∧ Below w.heap.size w w'
theorem gives_no (er : Int) (w : World) : GivesBE [] er w (.returned (.tuple #[.slice none 0 0, .int .i64 er])) w := ⟨_, rfl, World.ownsRow_nil _ _ _ _, Below.refl _ _⟩
theorem lb_new (w : World) (xs : List (Option Addr × Nat × List Int)) (h : ∀ x ∈ xs, HoldsB w x.1 x.2.2 ∧ (x.1 = none → x.2.2 = [] ∧ x.2.1 = 0)) :
    Lb (w.alloc (.cells (xs.map fun x => Value.slice x.1 x.2.2.length x.2.1).toArray 24)) w.heap.size (xs.map fun x => Value.slice x.1 x.2.2.length x.2.1) (xs.map (·.2.2)) := by
  refine ⟨Blk.new _ _ _, by simp, fun i hi => ?_⟩
  have hi' : i < xs.length := by simpa using hi
  obtain ⟨h1, h2⟩ := h xs[i] (List.getElem_mem _)
  refine ⟨xs[i].1, xs[i].2.1, ?_, ?_, ?_⟩
  · simp [List.getD_eq_getElem?_getD, hi']
  · simp only [List.getD_eq_getElem?_getD, List.getElem?_map, List.getElem?_eq_getElem hi', Option.map_some, Option.getD_some]
    exact h1.call ((Below.refl _ _).alloc (Nat.le_refl _) _)
  · simp only [List.getD_eq_getElem?_getD, List.getElem?_map, List.getElem?_eq_getElem hi', Option.map_some, Option.getD_some]
    exact h2
theorem own_up {w w0 : World} {base : Nat} {v : Value} {n : Nat} {xs : List Value} (h : w.ownsRow w0.heap.size 5 1 v n xs) (hb : base ≤ w0.heap.size) : w.ownsRow base 5 1 v n xs := by
  refine ⟨h.1, ?_⟩
  rcases h.2 with q | ⟨g, cap, cur, rfl, h1, h2⟩
  · exact .inl q
  · exact .inr ⟨g, cap, cur, rfl, by omega, h2⟩
/-- Concat of two slices that a statement lays side by side. -/
theorem concat2_c (w : World) (s1 s2 : Option Addr) (m1 m2 : Nat) (l1 l2 : List Int) (h1 : HoldsB w s1 l1) (h2 : HoldsB w s2 l2) (n1 : s1 = none → l1 = [] ∧ m1 = 0) (n2 : s2 = none → l2 = [] ∧ m2 = 0) (hl : l1.length + l2.length ≤ 1000000000) :
    Calls Try.prog 28 #[.slice (some ⟨w.heap.size, 0, none⟩) 2 2] (w.alloc (.cells #[.slice s1 l1.length m1, .slice s2 l2.length m2] 24)) (GivesB (l1 ++ l2) (w.alloc (.cells #[.slice s1 l1.length m1, .slice s2 l2.length m2] 24))) := by
  have := concat8_c w.heap.size 2 2 _ _ _ (lb_new w [(s1, m1, l1), (s2, m2, l2)] (by
    intro x hx
    simp only [List.mem_cons, List.not_mem_nil, or_false] at hx
    rcases hx with rfl | rfl
    · exact ⟨h1, n1⟩
    · exact ⟨h2, n2⟩)) rfl (by decide) (by simp; omega)
  simpa using this
theorem concat4_c (w : World) (s1 s2 s3 s4 : Option Addr) (m1 m2 m3 m4 : Nat) (l1 l2 l3 l4 : List Int) (h1 : HoldsB w s1 l1) (h2 : HoldsB w s2 l2) (h3 : HoldsB w s3 l3) (h4 : HoldsB w s4 l4) (n1 : s1 = none → l1 = [] ∧ m1 = 0) (n2 : s2 = none → l2 = [] ∧ m2 = 0) (n3 : s3 = none → l3 = [] ∧ m3 = 0) (n4 : s4 = none → l4 = [] ∧ m4 = 0) (hl : l1.length + l2.length + l3.length + l4.length ≤ 1000000000) :
    Calls Try.prog 28 #[.slice (some ⟨w.heap.size, 0, none⟩) 4 4] (w.alloc (.cells #[.slice s1 l1.length m1, .slice s2 l2.length m2, .slice s3 l3.length m3, .slice s4 l4.length m4] 24)) (GivesB (l1 ++ (l2 ++ (l3 ++ l4))) (w.alloc (.cells #[.slice s1 l1.length m1, .slice s2 l2.length m2, .slice s3 l3.length m3, .slice s4 l4.length m4] 24))) := by
  have := concat8_c w.heap.size 4 4 _ _ _ (lb_new w [(s1, m1, l1), (s2, m2, l2), (s3, m3, l3), (s4, m4, l4)] (by
    intro x hx
    simp only [List.mem_cons, List.not_mem_nil, or_false] at hx
    rcases hx with rfl | rfl | rfl | rfl
    · exact ⟨h1, n1⟩
    · exact ⟨h2, n2⟩
    · exact ⟨h3, n3⟩
    · exact ⟨h4, n4⟩)) rfl (by decide) (by simp; omega)
  simpa using this
theorem pow256 (n : Nat) : (256 : Int) ^ n = 2 ^ (8 * n) := pow_shr n
theorem un_cases (v n : Int) : (Mk.isN n = false ∧ Mk.unE v n = 2) ∨ (Mk.isN n = true ∧ v < 0 ∧ Mk.unE v n = 2) ∨ (Mk.isN n = true ∧ 0 ≤ v ∧ 2 ^ (8 * n.toNat) ≤ v ∧ Mk.unE v n = 2) ∨ (Mk.isN n = true ∧ 0 ≤ v ∧ v < 2 ^ (8 * n.toNat) ∧ Mk.unE v n = 0) := by
  unfold Mk.unE
  rw [pow256]
  cases h : Mk.isN n
  · left; simp
  · right
    by_cases h1 : v < 0
    · left; refine ⟨rfl, h1, by rw [if_neg]; omega⟩
    · right
      by_cases h2 : 2 ^ (8 * n.toNat) ≤ v
      · left; exact ⟨rfl, by omega, h2, by rw [if_neg]; omega⟩
      · right; exact ⟨rfl, by omega, by omega, by rw [if_pos]; exact ⟨rfl, by omega, by omega⟩⟩
set_option maxHeartbeats 1000000 in
theorem uint_c (bs : List Int) (s : Option Addr) (m : Nat) (v n : Int) (w : World) (hH : HoldsB w s bs) (hs : s = none → bs = [] ∧ m = 0) (hl : bs.length ≤ 1000000) :
    Calls Try.prog 23 #[.slice s bs.length m, .int .i64 v, .int .i64 n] w (GivesBE (Mk.un bs v n) (Mk.unE v n) w) := by
  have hbn := isBytes_c n w
  rcases un_cases v n with ⟨h, e⟩ | ⟨h, h1, e⟩ | ⟨h, h1, h2, e⟩ | ⟨h, h1, h2, e⟩
  · have e2 : Mk.un bs v n = [] := by rw [Mk.un, e]; rfl
    rw [e, e2]; rw [h] at hbn; clear e e2 h hs
    go_enter Try.func23, Try.ntmps23
    go_wp2_with (first | (go_at_call 31; (with_reducible refine hbn.mono ?_); rintro e wn ⟨rfl, rfl⟩) | fail)
    go_ret2
    exact gives_no _ _
  · have hnb := isN_bd h
    have e2 : Mk.un bs v n = [] := by rw [Mk.un, e]; rfl
    rw [e, e2]; rw [h] at hbn; clear e e2 h hs
    obtain ⟨N, rfl⟩ : ∃ N : Nat, n = N := ⟨n.toNat, by omega⟩
    have hp : (0 : Int) < 2 ^ (8 * N) := Int.pow_pos (by omega)
    have hq : v / 2 ^ (8 * N) < 0 := Int.ediv_neg_of_neg_of_pos h1 hp
    have b1 : (v / 2 ^ (8 * N) != 0) = true := by simp; omega
    have b2 : (v / 2 ^ (8 * N) == 0) = false := by simp; omega
    clear hp hq
    go_enter Try.func23, Try.ntmps23
    go_wp2_with (first | (go_at_call 31; (with_reducible refine hbn.mono ?_); rintro e wn ⟨rfl, rfl⟩) | fail)
    go_ret2
    exact gives_no _ _
  · have hnb := isN_bd h
    have e2 : Mk.un bs v n = [] := by rw [Mk.un, e]; rfl
    rw [e, e2]; rw [h] at hbn; clear e e2 h hs
    obtain ⟨N, rfl⟩ : ∃ N : Nat, n = N := ⟨n.toNat, by omega⟩
    have hp : (0 : Int) < 2 ^ (8 * N) := Int.pow_pos (by omega)
    rw [Int.toNat_natCast] at h2
    have hq : 1 ≤ v / 2 ^ (8 * N) := by rw [Int.le_ediv_iff_mul_le hp]; omega
    have b1 : (v / 2 ^ (8 * N) != 0) = true := by simp; omega
    have b2 : (v / 2 ^ (8 * N) == 0) = false := by simp; omega
    clear hp hq h2
    go_enter Try.func23, Try.ntmps23
    go_wp2_with (first | (go_at_call 31; (with_reducible refine hbn.mono ?_); rintro e wn ⟨rfl, rfl⟩) | fail)
    go_ret2
    exact gives_no _ _
  · have hnb := isN_bd h
    obtain ⟨N, rfl⟩ : ∃ N : Nat, n = N := ⟨n.toNat, by omega⟩
    have e2 : Mk.un bs v N = bs ++ Mk.dg v N := by rw [Mk.un, if_pos e, Int.toNat_natCast]
    rw [e, e2]; rw [h] at hbn; clear e e2 h
    rw [Int.toNat_natCast] at h2
    have hq : v / 2 ^ (8 * N) = 0 := Int.ediv_eq_zero_of_lt h1 h2
    have b1 : (v / 2 ^ (8 * N) != 0) = false := by simp [hq]
    have b2 : (v / 2 ^ (8 * N) == 0) = true := by simp [hq]
    have kd := digits_c v N w (by omega)
    have HL := Lib.hid (Mk.dg_len v N)
    generalize Mk.dg v N = D at *
    have HH := Lib.hid hH
    have HS := Lib.hid hs
    clear hq h2 hH hs
    go_enter Try.func23, Try.ntmps23
    go_wp2_with (first | (go_at_call 31; (with_reducible refine hbn.mono ?_); rintro e wn ⟨rfl, rfl⟩) | (go_at_call 27; (with_reducible refine kd.mono ?_); rintro e w1 ⟨v1, rfl, ho, hb⟩; obtain ⟨_, sd, md, rfl, hd, _, hdn⟩ := HoldsB.of_own ho; have HB := Lib.hid hb; have HC := Lib.hid (concat2_c w1 s sd m md bs D (HH.out.call hb) hd HS.out hdn (by have := HL.out; omega)); clear ho hb hd hdn kd) | (go_at_call 28; (with_reducible refine HC.out.mono ?_); rintro e w2 ⟨v2, rfl, ho2, hb2⟩; have HB2 := Lib.hid (below_call (below_alloc HB.out _) hb2); have HO2 := Lib.hid (own_up ho2 (Nat.le_trans HB.out.size (by simp))); clear ho2 hb2) | fail)
    go_ret2
    exact ⟨_, rfl, HO2.out, HB2.out⟩
end Go.Proofs.Ytagfmmkhgggfmaa
