/-
  Contracts of the code of layer 5: across, known, within.
-/
import Derived.Test.YtnfnidgabgdphaaRegs
import Derived.Test.YtnfnidgabgdphaaLiftC
import Derived.Test.YtnfnidgabgdphaaPlnD
import Derived.Test.YtnfnidgabgdphaaDwB
set_option maxRecDepth 100000
namespace Go.Proofs.Ytnfnidgabgdphaa
open Go.RowKit

set_option maxHeartbeats 400000 in
theorem across_q (a b c d a' b' c' d' : Int) (w : World) :
    Calls Try.prog 60 #[.agg #[.int .i64 a, .int .i64 b, .int .i64 c, .int .i64 d], .agg #[.int .i64 a', .int .i64 b', .int .i64 c', .int .i64 d']] w fun e w' => e = .returned (.agg #[.int .i64 a, .int .i64 b', .int .i64 c, .int .i64 d']) ∧ Below w.heap.size w w' := by
  go_enter Try.func60, Try.ntmps60
  go_wp2
  refine bodyPost_ret (v := .agg #[.int .i64 a, .int .i64 b', .int .i64 c, .int .i64 d']) (by simp [results, Try.results60, go_sem]) rfl ⟨rfl, ?_⟩
  (repeat (first | exact Below.refl _ _ | (refine Below.setCell ?_ (by simp <;> omega) _) | (refine Below.alloc ?_ (by simp <;> omega) _)))

set_option maxHeartbeats 400000 in
theorem known_q (k : Int) (w : World) : Calls Try.prog 64 #[.int .i64 k] w fun e w' => e = .returned (.bool (kB k)) ∧ w = w' := by
  have hk : (mgI k != 0) = kB k := by
    rw [Bool.eq_iff_iff, k_iff, bne_iff_ne, mgI]
    split
    · simp; omega
    · split
      · simp; omega
      · simp; omega
  go_enter Try.func64, Try.ntmps64
  go_wp2_with (go_at_call 95; refine (mg_q _ _).mono ?_; rintro e wn ⟨rfl, rfl⟩)
  go_ret
  exact ⟨by first | rw [hk] | (rw [← hk]; simp [bne]), rfl⟩

theorem fold_min_le : ∀ (l : List Int) (x : Int), l.foldl min x ≤ x ∧ ∀ v ∈ l, l.foldl min x ≤ v
  | [], x => ⟨by simp, by simp⟩
  | y :: l, x => by
    obtain ⟨h1, h2⟩ := fold_min_le l (min x y)
    refine ⟨by rw [List.foldl_cons]; omega, fun v hv => ?_⟩
    rw [List.foldl_cons]
    rcases List.mem_cons.1 hv with rfl | hv
    · omega
    · exact h2 v hv
theorem fold_max_le : ∀ (l : List Int) (x : Int), x ≤ l.foldl max x ∧ ∀ v ∈ l, v ≤ l.foldl max x
  | [], x => ⟨by simp, by simp⟩
  | y :: l, x => by
    obtain ⟨h1, h2⟩ := fold_max_le l (max x y)
    refine ⟨by rw [List.foldl_cons]; omega, fun v hv => ?_⟩
    rw [List.foldl_cons]
    rcases List.mem_cons.1 hv with rfl | hv
    · omega
    · exact h2 v hv
theorem fold_min_in : ∀ (l : List Int) (x : Int), l.foldl min x = x ∨ l.foldl min x ∈ l
  | [], x => .inl rfl
  | y :: l, x => by
    rw [List.foldl_cons]
    rcases fold_min_in l (min x y) with h | h
    · rw [h]
      rcases Int.le_total x y with q | q
      · exact .inl (by omega)
      · exact .inr (by rw [Int.min_eq_right q]; simp)
    · exact .inr (by simp [h])
theorem fold_max_in : ∀ (l : List Int) (x : Int), l.foldl max x = x ∨ l.foldl max x ∈ l
  | [], x => .inl rfl
  | y :: l, x => by
    rw [List.foldl_cons]
    rcases fold_max_in l (max x y) with h | h
    · rw [h]
      rcases Int.le_total x y with q | q
      · exact .inr (by rw [Int.max_eq_right q]; simp)
      · exact .inl (by omega)
    · exact .inr (by simp [h])
theorem few_lim {l : List Int} {b : Int} (h0 : 0 < l.length) : fewB l b = true ↔ (-b ≤ mnL l ∧ mxL l ≤ b) := by
  rw [few_iff]
  cases l with
  | nil => simp at h0
  | cons x l =>
    simp only [mnL, mxL, foldI, Ex.within]
    constructor
    · intro h
      refine ⟨?_, ?_⟩
      · rcases fold_min_in l x with q | q
        · rw [q]; exact (h x (by simp)).1
        · exact (h _ (by simp [q])).1
      · rcases fold_max_in l x with q | q
        · rw [q]; exact (h x (by simp)).2
        · exact (h _ (by simp [q])).2
    · rintro ⟨h1, h2⟩ v hv
      obtain ⟨m1, m2⟩ := fold_min_le l x
      obtain ⟨n1, n2⟩ := fold_max_le l x
      rcases List.mem_cons.1 hv with rfl | hv
      · omega
      · have := m2 v hv
        have := n2 v hv
        omega

set_option maxHeartbeats 1000000 in
theorem within5_q (a b c d bd : Int) (s : Option Addr) (m : Nat) (l : List Int) (w : World) (hp : pvB a b c d l.length = true) (hb : 0 ≤ bd) (hb' : bd ≤ 4611686018427387904) (hH : HoldsI w s l) :
    Calls Try.prog 65 #[.agg #[.int .i64 a, .int .i64 b, .int .i64 c, .int .i64 d, .slice s l.length m], .int .i64 bd] w fun e w' => e = .returned (.bool (fewB l bd)) ∧ Below w.heap.size w w' := by
  have wn : IntKind.i64.wrap (-bd) = -bd := IntWalk.i64_in _ (by omega)
  have hl : l.length ≤ 140737488351232 := by have := (pv_iff.1 hp).2; omega
  have B := below_alloc (Below.refl _ w) (.cells #[.int .i64 a, .int .i64 b, .int .i64 c, .int .i64 d, .slice s l.length m] 30)
  have lH := hH.alloc (.cells #[.int .i64 a, .int .i64 b, .int .i64 c, .int .i64 d, .slice s l.length m] 30)
  by_cases h0 : 0 < l.length
  · obtain ⟨u, hu⟩ : ∃ u, mnL l = u := ⟨_, rfl⟩
    obtain ⟨v, hv⟩ : ∃ v, mxL l = v := ⟨_, rfl⟩
    have hL := lim_yes a b c d s m l (w.alloc (.cells #[.int .i64 a, .int .i64 b, .int .i64 c, .int .i64 d, .slice s l.length m] 30)) hp h0 hl lH
    have hfe := few_lim (b := bd) h0
    rw [hu, hv] at hL hfe
    clear hu hv
    have HF : Hid _ := hfe
    clear hfe
    by_cases h1 : -bd ≤ u
    · go_enter Try.func65, Try.ntmps65
      go_wp2_with fail
      refine hL.mono ?_
      rintro e w1 ⟨rfl, hb⟩
      replace B := below_call B hb
      clear hb
      go_wp2
      go_ret
      exact ⟨ret_bool (by rw [HF.out]; simp [h1]), B⟩
    · go_enter Try.func65, Try.ntmps65
      go_wp2_with fail
      refine hL.mono ?_
      rintro e w1 ⟨rfl, hb⟩
      replace B := below_call B hb
      clear hb
      go_wp2
      go_ret
      exact ⟨ret_bool (by rw [HF.out]; simp; omega), B⟩
  · have hz : l.length = 0 := by omega
    have hL := lim_no a b c d s m l (w.alloc (.cells #[.int .i64 a, .int .i64 b, .int .i64 c, .int .i64 d, .slice s l.length m] 30)) (.inr ⟨hp, hz⟩)
    have hfe : fewB l bd = true := by
      obtain rfl := List.length_eq_zero_iff.1 hz
      rfl
    have h1 : -bd ≤ 0 := by omega
    have HF : Hid _ := hfe
    clear hfe hz h0
    go_enter Try.func65, Try.ntmps65
    go_wp2_with fail
    refine hL.mono ?_
    rintro e w1 ⟨rfl, hb⟩
    replace B := below_call B hb
    clear hb
    go_wp2
    go_ret
    exact ⟨ret_bool (by rw [HF.out]), B⟩
end Go.Proofs.Ytnfnidgabgdphaa
