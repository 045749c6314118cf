/-
  What each call of At (both), Get, Few, Small, ValidSmall, Limits (reference) and of 'of' returns and leaves.
-/
import Derived.Test.YtamkipdalegioaaPlnK
namespace Go.Proofs.Ytamkipdalegioaa
open Go.RowKit

theorem at_gv (a b c d x y : Int) (s : Option Addr) (m : Nat) (l : List Int) (w : World) (hp : pvB a b c d l.length = true) (hh : Pl.hasB a b c d x y = true) (hH : HoldsI w s l) :
    Calls Try.prog 18 #[.agg #[.int .i64 a, .int .i64 b, .int .i64 c, .int .i64 d, .slice s l.length m], .int .i64 x, .int .i64 y] w fun e w' => e = .returned (.tuple #[.int .i64 (gv ⟨a, b, c, d⟩ l x y), .bool true]) ∧ Below w.heap.size w w' := by
  refine (at_yes a b c d x y s m l w hp hh hH).mono ?_
  rintro e w1 ⟨⟨hk, rfl⟩, hb⟩
  exact ⟨by rw [gv_get hk], hb⟩
set_option maxHeartbeats 1000000 in
theorem get_r (a b c d x y : Int) (s : Option Addr) (m : Nat) (l : List Int) (w : World) (hp : pvB a b c d l.length = true) (hh : Pl.hasB a b c d x y = true) (hH : HoldsI w s l) :
    Calls Try.prog 45 #[.agg #[.int .i64 a, .int .i64 b, .int .i64 c, .int .i64 d, .slice s l.length m], .int .i64 x, .int .i64 y] w fun e w' => e = .returned (.int .i64 (gv ⟨a, b, c, d⟩ l x y)) ∧ Below w.heap.size w w' := by
  obtain ⟨hv, har, hn⟩ := pv_iff.1 hp
  obtain ⟨v1, v2, v3, v4, v5, v6⟩ := Pl.valid_iff.1 hv
  obtain ⟨h1, h2, h3, h4⟩ := Pl.has_iff.1 hh
  obtain ⟨p0, p1, p2, p3⟩ := idx_bd hv h1 (show x ≤ c by omega) h3 (show y ≤ d by omega)
  have hlt := idx_lt' hh
  rw [← pv_len hp] at hlt
  have hg := gv_get (d := d) hlt
  obtain ⟨k, hk⟩ : ∃ k : Nat, idx a b c x y = (k : Int) := ⟨(idx a b c x y).toNat, by omega⟩
  have hkt : (idx a b c x y).toNat = k := by omega
  simp only [hkt] at hg hlt
  have hki : (k : Int) < (l.length : Int) := by omega
  rcases hH with rfl | ⟨bb, off, rfl, hr⟩
  · simp at hlt
  have hy0 := cell_alloc (hr k hlt) (.cells #[.int .i64 a, .int .i64 b, .int .i64 c, .int .i64 d, .slice (some ⟨bb, off, none⟩) l.length m] 26)
  have hk' : (y - b) * (c - a) + x - a = (k : Int) := by unfold idx at hk; omega
  have e1 : IntKind.i64.wrap (y - b) = y - b := IntWalk.i64_in _ (by omega)
  have e0 : IntKind.i64.wrap (c - a) = c - a := IntWalk.i64_in _ (by omega)
  have e2 : IntKind.i64.wrap ((y - b) * (c - a)) = (y - b) * (c - a) := IntWalk.i64_in _ (by omega)
  have e2' : wrap64 ((y - b) * (c - a)) = (y - b) * (c - a) := IntWalk.wrap64_in _ ⟨by omega, by omega⟩
  have e3 : IntKind.i64.wrap ((y - b) * (c - a) + x) = (y - b) * (c - a) + x := IntWalk.i64_in _ (by omega)
  have e4 : IntKind.i64.wrap (k : Int) = (k : Int) := IntWalk.i64_in _ (by omega)
  have HG : Hid _ := hg
  clear hg p0 p1 p2 p3 hn
  go_enter Try.func45, Try.ntmps45
  go_wp2
  go_ret
  exact ⟨ret_int HG.out, (Below.refl _ _).alloc (Nat.le_refl _) _⟩
theorem few_r (a b c d : Int) (s : Option Addr) (n m : Nat) (w : World) :
    Calls Try.prog 17 #[.agg #[.int .i64 a, .int .i64 b, .int .i64 c, .int .i64 d, .slice s n m]] w fun e w' => e = .returned (.bool (decide (n ≤ 400))) ∧ Below w.heap.size w w' := by
  by_cases h : n ≤ 400
  · have h' : (n : Int) ≤ 400 := by omega
    go_enter Try.func17, Try.ntmps17
    go_wp2
    go_ret
    exact ⟨ret_bool (by simp [h]), (Below.refl _ _).alloc (Nat.le_refl _) _⟩
  · have h' : ¬ (n : Int) ≤ 400 := by omega
    go_enter Try.func17, Try.ntmps17
    go_wp2
    go_ret
    exact ⟨ret_bool (by simp), (Below.refl _ _).alloc (Nat.le_refl _) _⟩
def smB (a b c d : Int) : Bool := decide (Pl.validB a b c d = true ∧ c - a ≤ 20 ∧ d - b ≤ 20)
theorem sm_r (a b c d : Int) (w : World) :
    Calls Try.prog 53 #[.agg #[.int .i64 a, .int .i64 b, .int .i64 c, .int .i64 d]] w fun e w' => e = .returned (.bool (smB a b c d)) ∧ Below w.heap.size w w' := by
  by_cases hv : Pl.validB a b c d = true
  · obtain ⟨v1, v2, v3, v4, v5, v6⟩ := Pl.valid_iff.1 hv
    go_enter Try.func53, Try.ntmps53
    go_wp2_with fail
    refine (valid_r _ _ _ _ _).mono ?_
    rintro e w1 ⟨rfl, hb⟩
    have hx := (Box.fresh w a b c d 23).below hb
    obtain ⟨c0, c1, c2, c3⟩ := hx.open
    go_wp2
    all_goals
      go_ret
      exact ⟨ret_bool (by simp [smB, hv]; try omega), bcall ((Below.refl _ _).alloc (Nat.le_refl _) _) hb (by simp)⟩
  · have hv' : Pl.validB a b c d = false := by simpa using hv
    go_enter Try.func53, Try.ntmps53
    go_wp2_with fail
    refine (valid_r _ _ _ _ _).mono ?_
    rintro e w1 ⟨rfl, hb⟩
    go_wp2
    go_ret
    exact ⟨ret_bool (by simp [smB, hv']), bcall ((Below.refl _ _).alloc (Nat.le_refl _) _) hb (by simp)⟩
def vsB (a b c d : Int) (n : Nat) : Bool := pvB a b c d n && smB a b c d
theorem vs_r (a b c d : Int) (s : Option Addr) (n m : Nat) (w : World) :
    Calls Try.prog 36 #[.agg #[.int .i64 a, .int .i64 b, .int .i64 c, .int .i64 d, .slice s n m]] w fun e w' => e = .returned (.bool (vsB a b c d n)) ∧ Below w.heap.size w w' := by
  by_cases hp : pvB a b c d n = true
  · go_enter Try.func36, Try.ntmps36
    go_wp2_with fail
    refine (pv_r _ _ _ _ _ _ _ _).mono ?_
    rintro e w1 ⟨rfl, hb1⟩
    have hS1 := (Q1.fresh a b c d s n m w).step hb1
    obtain ⟨c0, c1, c2, c3, c4⟩ := hS1.q.open
    go_wp2_with fail
    refine (sm_r _ _ _ _ _).mono ?_
    rintro e w2 ⟨rfl, hb2⟩
    have hS2 := hS1.step hb2
    go_wp2
    all_goals
      go_ret
      exact ⟨ret_bool (by simp [vsB, hp]), hS2.below⟩
  · have hp' : pvB a b c d n = false := by simpa using hp
    go_enter Try.func36, Try.ntmps36
    go_wp2_with fail
    refine (pv_r _ _ _ _ _ _ _ _).mono ?_
    rintro e w1 ⟨rfl, hb1⟩
    have hS1 := (Q1.fresh a b c d s n m w).step hb1
    go_wp2
    go_ret
    exact ⟨ret_bool (by simp [vsB, hp']), hS1.below⟩
theorem ofp_c (a b c d : Int) (v : Value) (s : Option Addr) (n m : Nat) (hv : v = .slice s n m) (w : World) :
    Calls Try.prog 41 #[.int .i64 a, .int .i64 b, .int .i64 c, .int .i64 d, v] w fun e w' => e = .returned (.agg #[.int .i64 a, .int .i64 b, .int .i64 c, .int .i64 d, .slice s n m]) ∧ Below w.heap.size w w' := by
  subst hv
  go_enter Try.func41, Try.ntmps41
  go_wp2
  refine bodyPost_ret (v := .agg #[.int .i64 a, .int .i64 b, .int .i64 c, .int .i64 d, .slice s n m]) (by simp [results, Try.results41, go_sem]) rfl ⟨rfl, ?_⟩
  exact (Below.refl _ _).alloc (Nat.le_refl _) _
set_option maxHeartbeats 1000000 in
theorem limr_no (a b c d : Int) (s : Option Addr) (m : Nat) (l : List Int) (w : World) (hp : pvB a b c d l.length = false ∨ (pvB a b c d l.length = true ∧ l.length = 0)) :
    Calls Try.prog 34 #[.agg #[.int .i64 a, .int .i64 b, .int .i64 c, .int .i64 d, .slice s l.length m]] w fun e w' => e = .returned (.tuple #[.int .i64 0, .int .i64 0, .bool false]) ∧ Below w.heap.size w w' := by
  rcases hp with hp | ⟨hp, h0⟩
  · go_enter Try.func34, Try.ntmps34
    go_wp2_with fail
    refine (pv_r _ _ _ _ _ _ _ _).mono ?_
    rintro e w1 ⟨rfl, hb1⟩
    have hS1 := (Q1.fresh a b c d s l.length m w).step hb1
    go_wp2
    go_ret3
    exact ⟨rfl, hS1.below⟩
  · obtain rfl := List.length_eq_zero_iff.1 h0
    go_enter Try.func34, Try.ntmps34
    go_wp2_with fail
    refine (pv_r _ _ _ _ _ _ _ _).mono ?_
    rintro e w1 ⟨rfl, hb1⟩
    have hS1 := (Q1.fresh a b c d s 0 m w).step hb1
    obtain ⟨c0, c1, c2, c3, c4⟩ := hS1.q.open
    go_wp2
    go_ret3
    exact ⟨rfl, hS1.below⟩
theorem foldI_zero {f : Int → Int → Int} {l : List Int} (h : 0 < l.length) (hf : f l[0] l[0] = l[0]) : foldI f (l.take 1) = f l[0] l[0] := by rw [foldI_one f l h, hf]
theorem fold_next (f : Int → Int → Int) (hf : ∀ x, f x x = x) {l : List Int} {k : Nat} (h0 : 0 < l.length) (hk : k < l.length) : f (foldI f (l.take (max k 1))) l[k] = foldI f (l.take (max (k + 1) 1)) := by
  by_cases h : k = 0
  · subst h
    show f (foldI f (l.take 1)) l[0] = foldI f (l.take 1)
    rw [foldI_one f l h0, hf]
  · rw [show max k 1 = k by omega, show max (k + 1) 1 = k + 1 by omega, foldI_succ f l k (by omega) hk]
set_option maxHeartbeats 1000000 in
theorem limr_yes (a b c d : Int) (s : Option Addr) (m : Nat) (l : List Int) (w : World) (hp : pvB a b c d l.length = true) (h0 : 0 < l.length) (hH : HoldsI w s l) :
    Calls Try.prog 34 #[.agg #[.int .i64 a, .int .i64 b, .int .i64 c, .int .i64 d, .slice s l.length m]] w fun e w' => e = .returned (.tuple #[.int .i64 (mnL l), .int .i64 (mxL l), .bool true]) ∧ Below w.heap.size w w' := by
  obtain ⟨hv, har, hn⟩ := pv_iff.1 hp
  have hl1 : l.length ≤ 1048576 := by omega
  have hmx := hmx
  have hmn := hmn
  rcases hH with rfl | ⟨bb, off, rfl, hr⟩
  · simp at h0
  have hblt : bb < w.heap.size := cell_lt (hr 0 h0)
  have hn0 : ((l.length : Int) == 0) = false := by rw [beq_eq_false_iff_ne]; omega
  have hn1 : decide ((l.length : Int) = 0) = false := by rw [decide_eq_false_iff_not]; omega
  have hi0 : (0 : Int) < (l.length : Int) := by omega
  clear har hn
  go_enter Try.func34, Try.ntmps34
  go_wp2_with fail
  refine (pv_r _ _ _ _ _ _ _ _).mono ?_
  rintro e w1 ⟨rfl, hb1⟩
  have hS := (Q1.fresh a b c d (some ⟨bb, off, none⟩) l.length m w).step hb1
  obtain ⟨c0, c1, c2, c3, c4⟩ := hS.q.open
  have y0 : w1.cell? ⟨bb, off, none⟩ = some (.int .i64 l[0]) := (hS.below.cell (p := ⟨bb, _, none⟩) hblt).trans (hr 0 h0)
  clear hb1
  go_wp2_with fail
  clear hn0 hn1
  go_loopw [2, 3, 5] (fun u v i wr => ∃ k : Nat, k ≤ l.length ∧ i = .int .i64 k ∧ u = .int .i64 (foldI min (l.take (max k 1))) ∧ v = .int .i64 (foldI max (l.take (max k 1))) ∧ Q1 a b c d (some ⟨bb, off, none⟩) l.length m w wr) (fun _ _ i _ => l.length - (intOf i).toNat)
  case atStart => exact ⟨0, by omega, rfl, by rw [show max 0 1 = 1 from rfl, foldI_one _ _ h0], by rw [show max 0 1 = 1 from rfl, foldI_one _ _ h0], hS⟩
  case round =>
    obtain ⟨k, hk, rfl, rfl, rfl, hS2⟩ := hrel
    clear c0 c1 c2 c3 c4 y0 hS
    obtain ⟨c0, c1, c2, c3, c4⟩ := hS2.q.open
    by_cases hlt : k < l.length
    · have y1 : wr.cell? ⟨bb, off + k, none⟩ = some (.int .i64 l[k]) := (hS2.below.cell (p := ⟨bb, _, none⟩) hblt).trans (hr k hlt)
      have hi : (k : Int) < (l.length : Int) := by omega
      have F1 : Hid (min (foldI min (l.take (max k 1))) l[k] = foldI min (l.take (max (k + 1) 1))) := fold_next min Int.min_self h0 hlt
      have F2 : Hid (max (foldI max (l.take (max k 1))) l[k] = foldI max (l.take (max (k + 1) 1))) := fold_next max Int.max_self h0 hlt
      obtain ⟨U, hU⟩ : ∃ U, U = foldI min (l.take (max k 1)) := ⟨_, rfl⟩
      obtain ⟨V, hV⟩ : ∃ V, V = foldI max (l.take (max k 1)) := ⟨_, rfl⟩
      rw [← hU] at F1
      rw [← hV] at F2
      rw [← hU, ← hV]
      clear hU hV
      go_wp2
      go_roundw
      case rel => exact ⟨k + 1, by omega, by go_num, by rw [← F1.out], by rw [← F2.out], hS2⟩
      case measure => simp [intOf]; omega
    · obtain rfl : k = l.length := by omega
      have e : max l.length 1 = l.length := by omega
      rw [e, List.take_length]
      go_wp2
      go_ret3
      exact ⟨rfl, hS2.below⟩
end Go.Proofs.Ytamkipdalegioaa
