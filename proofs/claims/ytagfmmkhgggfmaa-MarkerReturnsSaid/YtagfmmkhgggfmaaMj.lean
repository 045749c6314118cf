/-
  Layer 28: contract of the reference's Uint.
-/
import Derived.Test.YtagfmmkhgggfmaaMi
set_option maxRecDepth 100000
namespace Go.Proofs.Ytagfmmkhgggfmaa
open Go.RowKit

theorem dg_next (v : Int) (N j : Nat) (h : j < N) : (Mk.dg v N).take (j + 1) = (Mk.dg v N).take j ++ [v / 2 ^ (8 * (N - 1 - j)) % 256] := by
  have h1 := Mk.dg_get v N j h
  rw [pow_shr] at h1
  obtain ⟨h2, h3⟩ := List.getElem?_eq_some_iff.1 h1
  rw [List.take_succ_eq_append_getElem h2, h3]
set_option maxHeartbeats 1000000 in
theorem runt_no (bs : List Int) (s : Option Addr) (m : Nat) (v n : Int) (w : World) (hno : Mk.unE v n = 2) :
    Calls Try.prog 24 #[.slice s bs.length m, .int .i64 v, .int .i64 n] w (GivesBE [] 2 w) := by
  rcases un_cases v n with ⟨h, e⟩ | ⟨h, h1, e⟩ | ⟨h, h1, h2, e⟩ | ⟨h, h1, h2, e⟩
  · by_cases h0 : n < 1
    · have d1 : decide (n < 1) = true := decide_eq_true h0
      clear h e hno
      go_enter Try.func24, Try.ntmps24
      go_wp2_with fail
      go_ret2
      exact gives_no _ _
    · have d1 : decide (n < 1) = false := decide_eq_false h0
      have d2 : decide (4 < n) = true := by simp [Mk.isN] at h; simp; omega
      clear h e hno
      go_enter Try.func24, Try.ntmps24
      go_wp2_with fail
      go_ret2
      exact gives_no _ _
  · have hnb := isN_bd h
    have d1 : decide (n < 1) = false := decide_eq_false (by omega)
    have d2 : decide (4 < n) = false := decide_eq_false (by omega)
    have d3 : decide (v < 0) = true := decide_eq_true (by omega)
    clear h e hno
    go_enter Try.func24, Try.ntmps24
    go_wp2_with fail
    go_ret2
    exact gives_no _ _
  · have hnb := isN_bd h
    have d3 : decide (v < 0) = false := decide_eq_false (by omega)
    clear h e hno
    obtain rfl | rfl | rfl | rfl : n = 1 ∨ n = 2 ∨ n = 3 ∨ n = 4 := by omega
    · have d4 : decide ((256 : Int) ≤ v) = true := decide_eq_true h2
      clear h2
      go_enter Try.func24, Try.ntmps24
      go_wp2_with fail
      go_ret2
      exact gives_no _ _
    · have d4 : decide ((65536 : Int) ≤ v) = true := decide_eq_true h2
      clear h2
      go_enter Try.func24, Try.ntmps24
      go_wp2_with fail
      go_ret2
      exact gives_no _ _
    · have d4 : decide ((16777216 : Int) ≤ v) = true := decide_eq_true h2
      clear h2
      go_enter Try.func24, Try.ntmps24
      go_wp2_with fail
      go_ret2
      exact gives_no _ _
    · have d4 : decide ((4294967296 : Int) ≤ v) = true := decide_eq_true h2
      clear h2
      go_enter Try.func24, Try.ntmps24
      go_wp2_with fail
      go_ret2
      exact gives_no _ _
  · rw [e] at hno; omega
set_option maxHeartbeats 1000000 in
theorem runt_loop (bs : List Int) (s : Option Addr) (m : Nat) (v : Int) (N : Nat) (w : World) (hN : 1 ≤ N ∧ N ≤ 4) (h1 : 0 ≤ v) (P : Int) (hP : P = 2 ^ (8 * N)) (hv : v < P) (hw : Hid (wrap64 (2 ^ (8 * N)) = P)) (hH : HoldsB w s bs) (hs : s = none → bs = [] ∧ m = 0) (hl : bs.length ≤ 1000000) :
    Calls Try.prog 24 #[.slice s bs.length m, .int .i64 v, .int .i64 (N : Int)] w (GivesBE (bs ++ Mk.dg v N) 0 w) := by
  have d1 : decide ((N : Int) < 1) = false := decide_eq_false (by omega)
  have d1' : decide (N < 1) = false := decide_eq_false (by omega)
  have d1'' : decide (N = 0) = false := decide_eq_false (by omega)
  have d2 : decide ((4 : Int) < N) = false := decide_eq_false (by omega)
  have d2'' : decide (4 < N) = false := decide_eq_false (by omega)
  have d3 : decide (v < 0) = false := decide_eq_false (by omega)
  have d4 : decide (P ≤ v) = false := decide_eq_false (by omega)
  have hw2 := hw.out
  have HH := Lib.hid hH
  have HS := Lib.hid hs
  have w1_ : IntKind.i64.wrap ((N : Int) - 1) = ((N - 1 : Nat) : Int) := by rw [IntWalk.i64_in _ (by omega)]; omega
  obtain ⟨T, hT⟩ : ∃ T, T = bs ++ Mk.dg v N := ⟨_, rfl⟩
  rw [← hT]
  have HT := Lib.hid hT
  have HTL := Lib.hid (show (Mk.dg v N).take N = Mk.dg v N by rw [List.take_of_length_le]; rw [Mk.dg_len]; exact Nat.le_refl _)
  clear hP hv hw hH hs hT
  go_enter Try.func24, Try.ntmps24
  go_upto_region 4 with (first | (at_builtin; refine wpApp rfl _ _ rfl w.heap.size [] bs _ _ rfl (Rw.new w _ (Nat.le_refl _)) s m rfl (HH.out.call ((Below.refl _ _).alloc (Nat.le_refl _) _)) HS.out (by simp only [List.length_nil]; omega) ?_; intro L1 s1 m1 w1 HL1 HR1; have HN1 := Lib.hid (show L1 = bs ++ (Mk.dg v N).take 0 by rw [HL1.out]; simp)) | fail)
  go_wp2_with fail
  clear w1_
  go_loopw [8, 9] (fun o i wr => ∃ (j : Nat) (L : List Int) (s' : Option Addr) (m' : Nat), j ≤ N ∧ i = .int .i64 ((N : Int) - 1 - (j : Int)) ∧ o = .slice s' L.length m' ∧ Hid (L = bs ++ (Mk.dg v N).take j) ∧ Hid (Rw w.heap.size w s' m' L wr)) (fun _ i _ => (intOf i + 1).toNat)
  case atStart => exact ⟨0, L1, s1, m1, Nat.zero_le _, by go_num, rfl, HN1, HR1⟩
  case round =>
    obtain ⟨j, L, s2, m2, hj, rfl, rfl, hL, hR⟩ := hrel
    clear HR1 HN1 HL1 hw2
    by_cases hlt : j < N
    · have HX := Lib.hid (dg_next v N j hlt)
      have HLL := Lib.hid (show L.length = bs.length + j by rw [hL.out, List.length_append, List.length_take, Mk.dg_len]; omega)
      obtain ⟨K, hK⟩ : ∃ K : Nat, K = N - 1 - j := ⟨_, rfl⟩
      have hK2 : (N : Int) - 1 - (j : Int) = (K : Int) := by omega
      rw [← hK] at HX
      rw [hK2]
      have w2 : IntKind.i64.wrap (8 * (K : Int)) = 8 * K := IntWalk.i64_in _ (by omega)
      have hK4 : K ≤ 3 := by omega
      have HK := Lib.hid hK
      clear hK hK2
      go_wp2_with (first | (at_builtin; refine wpApp rfl _ _ rfl w.heap.size L [v / 2 ^ (8 * K) % 256] _ _ rfl (hR.out.alloc _) (some ⟨wr.heap.size, 0, none⟩) 1 rfl (new1 _ _) (by simp) (by have := HLL.out; simp only [List.length_cons, List.length_nil]; omega) ?_; intro L3 s3 m3 w3 HL3 HR3) | fail)
      go_roundw
      case rel => exact ⟨j + 1, L3, s3, m3, by omega, by have := HK.out; go_num, rfl, Lib.hid (by rw [HL3.out, hL.out, HX.out, List.append_assoc]), HR3⟩
      case measure => have := HK.out; simp [intOf]
    · obtain rfl : j = N := by omega
      have hneg : (j : Int) - 1 - (j : Int) = -1 := by omega
      rw [hneg]
      go_wp2_with fail
      go_ret2
      rw [show T = L by rw [HT.out, hL.out, HTL.out]]
      exact hR.out.gives (Below.refl _ _) (Nat.le_refl _) 0 _ rfl
theorem runt_c (bs : List Int) (s : Option Addr) (m : Nat) (v n : Int) (w : World) (hH : HoldsB w s bs) (hs : s = none → bs = [] ∧ m = 0) (hl : bs.length ≤ 1000000) :
    Calls Try.prog 24 #[.slice s bs.length m, .int .i64 v, .int .i64 n] w (GivesBE (Mk.un bs v n) (Mk.unE v n) w) := by
  rcases un_cases v n with ⟨h, e⟩ | ⟨h, h1, e⟩ | ⟨h, h1, h2, e⟩ | ⟨h, h1, h2, e⟩
  case inr.inr.inr =>
    have hnb := isN_bd h
    obtain ⟨N, rfl⟩ : ∃ N : Nat, n = N := ⟨n.toNat, by omega⟩
    have e2 : Mk.un bs v N = bs ++ Mk.dg v N := by rw [Mk.un, if_pos e, Int.toNat_natCast]
    rw [e, e2]
    rw [Int.toNat_natCast] at h2
    refine runt_loop bs s m v N w (by omega) h1 _ rfl h2 ?_ hH hs hl
    obtain rfl | rfl | rfl | rfl : N = 1 ∨ N = 2 ∨ N = 3 ∨ N = 4 := by omega
    all_goals exact Lib.hid (by first | decide +kernel | (unfold wrap64; decide))
  all_goals
    have e2 : Mk.un bs v n = [] := by rw [Mk.un, e]; rfl
    rw [e, e2]
    exact runt_no bs s m v n w e
end Go.Proofs.Ytagfmmkhgggfmaa
