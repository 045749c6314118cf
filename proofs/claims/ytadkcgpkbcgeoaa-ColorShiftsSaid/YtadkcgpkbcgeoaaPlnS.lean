/-
  Plain laws of cropping, pasting and clipping, and the calls that the laws without the reference make.
-/
import Derived.Test.YtadkcgpkbcgeoaaPlnP
set_option maxRecDepth 100000
namespace Go.Proofs.Ytadkcgpkbcgeoaa
open Go.RowKit

theorem cont_self (a b c d : Int) : Pl.contB a b c d a b c d = true := Pl.cont_iff.2 (.inr ⟨Int.le_refl _, Int.le_refl _, Int.le_refl _, Int.le_refl _⟩)
theorem cont_trans {a b c d a' b' c' d' e f g h : Int} (h1 : Pl.contB a b c d a' b' c' d' = true) (h2 : Pl.contB a' b' c' d' e f g h = true) : Pl.contB a b c d e f g h = true := by
  rw [Pl.cont_iff] at *
  omega
theorem crop_whole {a b c d : Int} {l : List Int} (hp : pvB a b c d l.length = true) : cropL ⟨a, b, c, d⟩ l ⟨a, b, c, d⟩ = l := tabL_self (pv_len hp)
theorem crop_paste {a b c d a' b' c' d' : Int} {l k : List Int} (hq : pvB a' b' c' d' k.length = true) (hc : Pl.contB a b c d a' b' c' d' = true) :
    cropL ⟨a, b, c, d⟩ (pasteL ⟨a, b, c, d⟩ l ⟨a', b', c', d'⟩ k) ⟨a', b', c', d'⟩ = k := by
  have h : cropL ⟨a, b, c, d⟩ (pasteL ⟨a, b, c, d⟩ l ⟨a', b', c', d'⟩ k) ⟨a', b', c', d'⟩ = tabL ⟨a', b', c', d'⟩ (gv ⟨a', b', c', d'⟩ k) :=
    tabL_congr fun x y hxy => by rw [pasteL, tabL_gv (has_cont hc hxy), ovF, if_pos hxy]
  rw [h]
  exact tabL_self (pv_len hq)
theorem paste_crop {a b c d e f g h : Int} {l : List Int} (hp : pvB a b c d l.length = true) : pasteL ⟨a, b, c, d⟩ l ⟨e, f, g, h⟩ (cropL ⟨a, b, c, d⟩ l ⟨e, f, g, h⟩) = l := by
  have h1 : pasteL ⟨a, b, c, d⟩ l ⟨e, f, g, h⟩ (cropL ⟨a, b, c, d⟩ l ⟨e, f, g, h⟩) = tabL ⟨a, b, c, d⟩ (gv ⟨a, b, c, d⟩ l) :=
    tabL_congr fun x y _ => by
      rw [ovF]
      by_cases hq : Pl.hasB e f g h x y = true
      · rw [if_pos hq, cropL, tabL_gv hq]
      · rw [if_neg hq]
  rw [h1]
  exact tabL_self (pv_len hp)
theorem crop_crop {a b c d e f g h e' f' g' h' : Int} {l : List Int} (hc : Pl.contB e f g h e' f' g' h' = true) :
    cropL ⟨e, f, g, h⟩ (cropL ⟨a, b, c, d⟩ l ⟨e, f, g, h⟩) ⟨e', f', g', h'⟩ = cropL ⟨a, b, c, d⟩ l ⟨e', f', g', h'⟩ :=
  tabL_congr fun x y hxy => by rw [cropL, tabL_gv (has_cont hc hxy)]
theorem vs_pv {a b c d : Int} {n : Nat} (h : vsB a b c d n = true) : pvB a b c d n = true := by
  simp only [vsB, Bool.and_eq_true] at h
  exact h.1
theorem ps_rt2 (a b c d : Int) (l : List Int) (n : Nat) (hn : n = l.length) (hl : n ≤ 1048576) (s t : Option Addr) (m m' : Nat) (w : World) (h1 : HoldsI w s l) (h2 : HoldsI w t l) :
    Calls Try.prog 37 #[.agg #[.int .i64 a, .int .i64 b, .int .i64 c, .int .i64 d, .slice s n m], .agg #[.int .i64 a, .int .i64 b, .int .i64 c, .int .i64 d, .slice t n m']] w (fun e w' => e = .returned (.bool true) ∧ Below w.heap.size w w') := by
  subst hn
  exact ps_rt ⟨a, b, c, d⟩ l hl s t m m' w h1 h2
theorem foldl_min (l : List Int) : ∀ x : Int, l.foldl min x ≤ x ∧ (∀ y ∈ l, l.foldl min x ≤ y) ∧ (l.foldl min x = x ∨ l.foldl min x ∈ l) := by
  induction l with
  | nil => intro x; simp
  | cons z l ih =>
    intro x
    obtain ⟨h1, h2, h3⟩ := ih (min x z)
    rw [List.foldl_cons]
    refine ⟨by omega, fun y hy => ?_, ?_⟩
    · rcases List.mem_cons.1 hy with rfl | hy
      · omega
      · exact h2 y hy
    · rcases h3 with h3 | h3
      · rcases (show min x z = x ∨ min x z = z by omega) with h4 | h4
        · left; rw [h3, h4]
        · right; rw [h3, h4]; exact List.mem_cons_self
      · right; exact List.mem_cons_of_mem _ h3
theorem foldl_max (l : List Int) : ∀ x : Int, x ≤ l.foldl max x ∧ (∀ y ∈ l, y ≤ l.foldl max x) ∧ (l.foldl max x = x ∨ l.foldl max x ∈ l) := by
  induction l with
  | nil => intro x; simp
  | cons z l ih =>
    intro x
    obtain ⟨h1, h2, h3⟩ := ih (max x z)
    rw [List.foldl_cons]
    refine ⟨by omega, fun y hy => ?_, ?_⟩
    · rcases List.mem_cons.1 hy with rfl | hy
      · omega
      · exact h2 y hy
    · rcases h3 with h3 | h3
      · rcases (show max x z = x ∨ max x z = z by omega) with h4 | h4
        · left; rw [h3, h4]
        · right; rw [h3, h4]; exact List.mem_cons_self
      · right; exact List.mem_cons_of_mem _ h3
theorem mn_all {l : List Int} (h0 : 0 < l.length) : (∀ y ∈ l, mnL l ≤ y) ∧ mnL l ∈ l := by
  match l, h0 with
  | x :: l, _ =>
    obtain ⟨h1, h2, h3⟩ := foldl_min l x
    refine ⟨fun y hy => ?_, ?_⟩
    · rcases List.mem_cons.1 hy with rfl | hy
      · exact h1
      · exact h2 y hy
    · rcases h3 with h3 | h3
      · show l.foldl min x ∈ _
        rw [h3]; exact List.mem_cons_self
      · exact List.mem_cons_of_mem _ h3
theorem mx_all {l : List Int} (h0 : 0 < l.length) : (∀ y ∈ l, y ≤ mxL l) ∧ mxL l ∈ l := by
  match l, h0 with
  | x :: l, _ =>
    obtain ⟨h1, h2, h3⟩ := foldl_max l x
    refine ⟨fun y hy => ?_, ?_⟩
    · rcases List.mem_cons.1 hy with rfl | hy
      · exact h1
      · exact h2 y hy
    · rcases h3 with h3 | h3
      · show l.foldl max x ∈ _
        rw [h3]; exact List.mem_cons_self
      · exact List.mem_cons_of_mem _ h3
theorem clip_self {lo hi : Int} {l : List Int} (h : ∀ y ∈ l, lo ≤ y ∧ y ≤ hi) : clipL lo hi l = l := by
  rw [clipL]
  conv => rhs; rw [← List.map_id l]
  refine List.map_congr_left fun y hy => ?_
  have := h y hy
  simp only [clipI, id]
  omega
theorem clip_within {lo hi : Int} {l : List Int} (hlh : lo ≤ hi) : ∀ y ∈ clipL lo hi l, lo ≤ y ∧ y ≤ hi := by
  intro y hy
  obtain ⟨z, _, rfl⟩ := List.mem_map.1 hy
  simp only [clipI]
  omega
/-- What a clipped plane's calls return. -/
theorem limited (a b c d lo hi : Int) (s : Option Addr) (m : Nat) (l : List Int) (hp : pvB a b c d l.length = true) (hlh : lo ≤ hi) :
    ∃ K : List Int, K.length = l.length ∧ (∀ k (h1 : k < K.length) (h2 : k < l.length), lo ≤ K[k] ∧ K[k] ≤ hi ∧ (l[k] < lo ∧ K[k] = lo ∨ (lo ≤ l[k] ∧ l[k] ≤ hi) ∧ K[k] = l[k] ∨ hi < l[k] ∧ K[k] = hi)) ∧
      (∀ w : World, HoldsI w s l → Calls Try.prog 75 #[.agg #[.int .i64 a, .int .i64 b, .int .i64 c, .int .i64 d, .slice s l.length m], .int .i64 lo, .int .i64 hi] w (fun e w' => ∃ t n, e = .returned (.tuple #[.agg #[.int .i64 a, .int .i64 b, .int .i64 c, .int .i64 d, .slice t l.length n], .int .i64 0]) ∧ HoldsI w' t K ∧ Below w.heap.size w w')) ∧
      (∀ (u : Option Addr) (n : Nat) (w : World), HoldsI w u K → Calls Try.prog 75 #[.agg #[.int .i64 a, .int .i64 b, .int .i64 c, .int .i64 d, .slice u l.length n], .int .i64 lo, .int .i64 hi] w (fun e w' => ∃ t n, e = .returned (.tuple #[.agg #[.int .i64 a, .int .i64 b, .int .i64 c, .int .i64 d, .slice t l.length n], .int .i64 0]) ∧ HoldsI w' t K ∧ Below w.heap.size w w')) ∧
      (0 < l.length → ∃ u v : Int, lo ≤ u ∧ v ≤ hi ∧ ∀ (s' : Option Addr) (n : Nat) (w : World), HoldsI w s' K → Calls Try.prog 94 #[.agg #[.int .i64 a, .int .i64 b, .int .i64 c, .int .i64 d, .slice s' l.length n]] w (fun e w' => e = .returned (.tuple #[.int .i64 u, .int .i64 v, .bool true]) ∧ Below w.heap.size w w')) ∧
      (0 < l.length → ∃ u v : Int, (∀ w : World, HoldsI w s l → Calls Try.prog 94 #[.agg #[.int .i64 a, .int .i64 b, .int .i64 c, .int .i64 d, .slice s l.length m]] w (fun e w' => e = .returned (.tuple #[.int .i64 u, .int .i64 v, .bool true]) ∧ Below w.heap.size w w')) ∧
        (∀ w : World, HoldsI w s l → Calls Try.prog 75 #[.agg #[.int .i64 a, .int .i64 b, .int .i64 c, .int .i64 d, .slice s l.length m], .int .i64 u, .int .i64 v] w (fun e w' => ∃ t n, e = .returned (.tuple #[.agg #[.int .i64 a, .int .i64 b, .int .i64 c, .int .i64 d, .slice t l.length n], .int .i64 0]) ∧ HoldsI w' t l ∧ Below w.heap.size w w'))) := by
  have hlen := clipL_len lo hi l
  have hle := pv_le hp
  refine ⟨clipL lo hi l, hlen, fun k h1 h2 => ?_, fun w hH => ?_, fun u n w hU => ?_, fun h0 => ?_, fun h0 => ?_⟩
  · rw [clip_at h2]
    omega
  · refine (clip_yes a b c d lo hi s m l w hp hlh hH).mono ?_
    rintro e w' ⟨t, n, rfl, h1, h2, _⟩
    exact ⟨t, n, by rw [hlen], h1, h2⟩
  · have h := clip_yes a b c d lo hi u n (clipL lo hi l) w (by rw [hlen]; exact hp) hlh hU
    rw [clip_self (clip_within hlh), hlen] at h
    refine h.mono ?_
    rintro e w' ⟨t, n, rfl, h1, h2, _⟩
    exact ⟨t, n, by rw [hlen], h1, h2⟩
  · have hK0 : 0 < (clipL lo hi l).length := by rw [hlen]; exact h0
    refine ⟨mnL (clipL lo hi l), mxL (clipL lo hi l), (clip_within hlh _ (mn_all hK0).2).1, (clip_within hlh _ (mx_all hK0).2).2, fun s' n w hU => ?_⟩
    have h := lim_yes a b c d s' n (clipL lo hi l) w (by rw [hlen]; exact hp) hK0 (by omega) hU
    rw [hlen] at h
    exact h
  · refine ⟨mnL l, mxL l, fun w hH => lim_yes a b c d s m l w hp h0 (by omega) hH, fun w hH => ?_⟩
    have h := clip_yes a b c d (mnL l) (mxL l) s m l w hp ((mn_all h0).1 _ (mx_all h0).2) hH
    rw [clip_self fun y hy => ⟨(mn_all h0).1 y hy, (mx_all h0).1 y hy⟩] at h
    refine h.mono ?_
    rintro e w' ⟨t, n, rfl, h1, h2, _⟩
    exact ⟨t, n, rfl, h1, h2⟩
end Go.Proofs.Ytadkcgpkbcgeoaa
