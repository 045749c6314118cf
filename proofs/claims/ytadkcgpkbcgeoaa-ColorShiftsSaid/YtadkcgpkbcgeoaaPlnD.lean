/-
  What each call of slices.Min and slices.Max, of Limits returns and leaves: contracts.
-/
import Derived.Test.YtadkcgpkbcgeoaaPlnC
set_option maxRecDepth 100000
namespace Go.Proofs.Ytadkcgpkbcgeoaa
open Go.RowKit

def foldI (f : Int → Int → Int) : List Int → Int
  | [] => 0
  | x :: l => l.foldl f x
theorem foldI_one (f : Int → Int → Int) (l : List Int) (h : 0 < l.length) : foldI f (l.take 1) = l[0] := by
  match l, h with
  | x :: l, _ => simp [foldI]
theorem foldI_succ (f : Int → Int → Int) (l : List Int) (k : Nat) (h0 : 1 ≤ k) (h : k < l.length) : foldI f (l.take (k + 1)) = f (foldI f (l.take k)) l[k] := by
  match l, k, h0, h with
  | x :: l, k + 1, _, h =>
    have h' : k < l.length := by simpa using h
    show (l.take (k + 1)).foldl f x = f ((l.take k).foldl f x) l[k]
    rw [List.take_succ_eq_append_getElem h', List.foldl_append]
    rfl
def mnL : List Int → Int := foldI min
def mxL : List Int → Int := foldI max
def FoldRel (f : Int → Int → Int) (l : List Int) (v i : Value) : Prop := ∃ k : Nat, 1 ≤ k ∧ k ≤ l.length ∧ i = .int .i64 k ∧ v = .int .i64 (foldI f (l.take k))
set_option maxHeartbeats 1000000 in
theorem min_c (s : Option Addr) (m : Nat) (l : List Int) (w : World) (h0 : 0 < l.length) (hl : l.length ≤ 140737488351232) (hH : HoldsI w s l) :
    Calls Try.prog 101 #[.slice s l.length m] w fun e w' => e = .returned (.int .i64 (mnL l)) ∧ Below w.heap.size w w' := by
  have hmn := hmn
  rcases hH with rfl | ⟨b, off, rfl, hr⟩
  · simp at h0
  have e0 := hr 0 h0
  rw [Nat.add_zero] at e0
  have hi0 : (0 : Int) < (l.length : Int) := by omega
  go_enter Try.func101, Try.ntmps101
  go_wp2_with fail
  go_loop [3, 4] (fun v i => FoldRel min l v i) (fun _ i => l.length - (intOf i).toNat)
  case atStart => exact ⟨1, by omega, by omega, rfl, by rw [foldI_one _ _ h0]⟩
  case round =>
    obtain ⟨k, hk1, hk, rfl, rfl⟩ := hrel
    clear e0
    by_cases hlt : k < l.length
    · have e1 := hr k hlt
      have hi : (k : Int) < (l.length : Int) := by omega
      have HF : Hid _ := foldI_succ min l k hk1 hlt
      go_wp2
      go_round
      case rel => exact ⟨k + 1, by omega, by omega, by go_num, by rw [HF.out]⟩
      case measure => simp [intOf]; omega
    · obtain rfl : k = l.length := by omega
      go_wp2
      go_ret
      exact ⟨by rw [mnL]; simp, Below.refl _ _⟩
set_option maxHeartbeats 1000000 in
theorem max_c (s : Option Addr) (m : Nat) (l : List Int) (w : World) (h0 : 0 < l.length) (hl : l.length ≤ 140737488351232) (hH : HoldsI w s l) :
    Calls Try.prog 102 #[.slice s l.length m] w fun e w' => e = .returned (.int .i64 (mxL l)) ∧ Below w.heap.size w w' := by
  have hmx := hmx
  rcases hH with rfl | ⟨b, off, rfl, hr⟩
  · simp at h0
  have e0 := hr 0 h0
  rw [Nat.add_zero] at e0
  have hi0 : (0 : Int) < (l.length : Int) := by omega
  go_enter Try.func102, Try.ntmps102
  go_wp2_with fail
  go_loop [3, 4] (fun v i => FoldRel max l v i) (fun _ i => l.length - (intOf i).toNat)
  case atStart => exact ⟨1, by omega, by omega, rfl, by rw [foldI_one _ _ h0]⟩
  case round =>
    obtain ⟨k, hk1, hk, rfl, rfl⟩ := hrel
    clear e0
    by_cases hlt : k < l.length
    · have e1 := hr k hlt
      have hi : (k : Int) < (l.length : Int) := by omega
      have HF : Hid _ := foldI_succ max l k hk1 hlt
      go_wp2
      go_round
      case rel => exact ⟨k + 1, by omega, by omega, by go_num, by rw [HF.out]⟩
      case measure => simp [intOf]; omega
    · obtain rfl : k = l.length := by omega
      go_wp2
      go_ret
      exact ⟨by rw [mxL]; simp, Below.refl _ _⟩
set_option maxHeartbeats 1000000 in
theorem lim_no (a b c d : Int) (s : Option Addr) (m : Nat) (l : List Int) (w : World) (hp : pvB a b c d l.length = false ∨ (pvB a b c d l.length = true ∧ l.length = 0)) :
    Calls Try.prog 94 #[.agg #[.int .i64 a, .int .i64 b, .int .i64 c, .int .i64 d, .slice s l.length m]] w fun e w' => e = .returned (.tuple #[.int .i64 0, .int .i64 0, .bool false]) ∧ Below w.heap.size w w' := by
  rcases hp with hp | ⟨hp, h0⟩
  · go_enter Try.func94, Try.ntmps94
    go_wp2_with fail
    refine (pv_c _ _ _ _ _ _ _ _).mono ?_
    rintro e w1 ⟨rfl, hb1⟩
    have hS1 := (Q1.fresh a b c d s l.length m w).step hb1
    go_wp2
    go_ret3
    exact ⟨rfl, hS1.below⟩
  · obtain rfl := List.length_eq_zero_iff.1 h0
    go_enter Try.func94, Try.ntmps94
    go_wp2_with fail
    refine (pv_c _ _ _ _ _ _ _ _).mono ?_
    rintro e w1 ⟨rfl, hb1⟩
    have hS1 := (Q1.fresh a b c d s 0 m w).step hb1
    obtain ⟨c0, c1, c2, c3, c4⟩ := hS1.q.open
    go_wp2
    go_ret3
    exact ⟨rfl, hS1.below⟩
set_option maxHeartbeats 1000000 in
theorem lim_yes (a b c d : Int) (s : Option Addr) (m : Nat) (l : List Int) (w : World) (hp : pvB a b c d l.length = true) (h0 : 0 < l.length) (hl : l.length ≤ 140737488351232) (hH : HoldsI w s l) :
    Calls Try.prog 94 #[.agg #[.int .i64 a, .int .i64 b, .int .i64 c, .int .i64 d, .slice s l.length m]] w fun e w' => e = .returned (.tuple #[.int .i64 (mnL l), .int .i64 (mxL l), .bool true]) ∧ Below w.heap.size w w' := by
  go_enter Try.func94, Try.ntmps94
  go_wp2_with fail
  refine (pv_c _ _ _ _ _ _ _ _).mono ?_
  rintro e w1 ⟨rfl, hb1⟩
  have hS := (Q1.fresh a b c d s l.length m w).step hb1
  obtain ⟨c0, c1, c2, c3, c4⟩ := hS.q.open
  have hn0 : ((l.length : Int) == 0) = false := by rw [beq_eq_false_iff_ne]; omega
  have hn1 : decide ((l.length : Int) = 0) = false := by rw [decide_eq_false_iff_not]; omega
  go_wp2_with fail
  clear c0 c1 c2 c3 c4 hb1
  have hHX : ∀ X : Q1F a b c d s l.length m w, HoldsI X.W s l := fun X => hH.below X.ok.below (Nat.le_refl _)
  have hst : ∀ (X : Q1F a b c d s l.length m w) (w' : World), Below X.W.heap.size X.W w' → ∃ Y : Q1F a b c d s l.length m w, w' = Y.W := fun X w' hb => ⟨⟨w', X.ok.step hb⟩, rfl⟩
  have hne : Nonempty (Q1F a b c d s l.length m w) := ⟨⟨_, hS⟩⟩
  have hx0 : ∀ X : Q1F a b c d s l.length m w, X.W.cell? ⟨w.heap.size, 0, none⟩ = some (.int .i64 a) := fun X => X.ok.q.open.1
  have hx1 : ∀ X : Q1F a b c d s l.length m w, X.W.cell? ⟨w.heap.size, 1, none⟩ = some (.int .i64 b) := fun X => X.ok.q.open.2.1
  have hx2 : ∀ X : Q1F a b c d s l.length m w, X.W.cell? ⟨w.heap.size, 2, none⟩ = some (.int .i64 c) := fun X => X.ok.q.open.2.2.1
  have hx3 : ∀ X : Q1F a b c d s l.length m w, X.W.cell? ⟨w.heap.size, 3, none⟩ = some (.int .i64 d) := fun X => X.ok.q.open.2.2.2.1
  have hx4 : ∀ X : Q1F a b c d s l.length m w, X.W.cell? ⟨w.heap.size, 4, none⟩ = some (.slice s l.length m) := fun X => X.ok.q.open.2.2.2.2
  refine wp_region_in (fun X : Q1F a b c d s l.length m w => X.W) (by kernel_rfl) (by kernel_rfl) ⟨⟨_, hS.step (Below.refl _ _).drew⟩, rfl⟩ ?_
  repeat (first | go_big_quiet_step ((first | (go_at_call 101; exact call_in (min_c _ _ l _ h0 hl (hHX _)) (hst _)) | (go_at_call 102; exact call_in (max_c _ _ l _ h0 hl (hHX _)) (hst _)))) | quiet_step ((first | (go_at_call 101; exact call_in (min_c _ _ l _ h0 hl (hHX _)) (hst _)) | (go_at_call 102; exact call_in (max_c _ _ l _ h0 hl (hHX _)) (hst _)))))
  refine wpQuiet_nil ?_
  intro w3 hw'
  obtain ⟨⟨_, hS3⟩, hw''⟩ := hw'
  subst hw''
  clear hst hne hx0 hx1 hx2 hx3 hx4
  go_wp2
  go_ret3
  exact ⟨rfl, hS3.below⟩
end Go.Proofs.Ytadkcgpkbcgeoaa
