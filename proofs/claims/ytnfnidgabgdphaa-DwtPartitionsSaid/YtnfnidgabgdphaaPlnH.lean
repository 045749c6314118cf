/-
  What each call of overlay on planes leaves: contracts.
-/
import Derived.Test.YtnfnidgabgdphaaPlnG
set_option maxRecDepth 100000
namespace Go.Proofs.Ytnfnidgabgdphaa
open Go.RowKit

set_option maxRecDepth 100000 in
set_option maxHeartbeats 1000000 in
theorem over_no (a b c d a' b' c' d' : Int) (t s : Option Addr) (m m' : Nat) (l k : List Int) (w : World) (he : Pl.emptyB (max a a') (max b b') (min c c') (min d d') = true) :
    Calls Try.prog 106 #[.agg #[.int .i64 a, .int .i64 b, .int .i64 c, .int .i64 d, .slice t l.length m], .agg #[.int .i64 a', .int .i64 b', .int .i64 c', .int .i64 d', .slice s k.length m']] w fun e w' => e = .returned (.tuple #[]) ∧ Below w.heap.size w w' := by
  have hI : Pl.isec a b c d a' b' c' d' = ⟨0, 0, 0, 0⟩ := by unfold Pl.isec; rw [if_pos he]
  have hic := fun w => isec_c a b c d a' b' c' d' w
  rw [hI] at hic
  have y0 : QBox ((w.alloc (.cells #[.int .i64 a, .int .i64 b, .int .i64 c, .int .i64 d, .slice t l.length m] 30)).alloc (.cells #[.int .i64 a', .int .i64 b', .int .i64 c', .int .i64 d', .slice s k.length m'] 30)) w.heap.size ⟨a, b, c, d⟩ (.slice t l.length m) := (QBox.fresh w a b c d t l.length m 30).alloc _
  have z0 : QBox ((w.alloc (.cells #[.int .i64 a, .int .i64 b, .int .i64 c, .int .i64 d, .slice t l.length m] 30)).alloc (.cells #[.int .i64 a', .int .i64 b', .int .i64 c', .int .i64 d', .slice s k.length m'] 30)) (w.heap.size + 1) ⟨a', b', c', d'⟩ (.slice s k.length m') := QBox.freshAt (w.alloc (.cells #[.int .i64 a, .int .i64 b, .int .i64 c, .int .i64 d, .slice t l.length m] 30)) (w.heap.size + 1) (by simp) a' b' c' d' s k.length m' 30
  have B0 : Below w.heap.size w ((w.alloc (.cells #[.int .i64 a, .int .i64 b, .int .i64 c, .int .i64 d, .slice t l.length m] 30)).alloc (.cells #[.int .i64 a', .int .i64 b', .int .i64 c', .int .i64 d', .slice s k.length m'] 30)) := ((Below.refl _ _).alloc (Nat.le_refl _) _).alloc (by simp) _
  go_enter Try.func106, Try.ntmps106
  go_wp2_with fail
  refine (hic _).mono ?_
  rintro e w1 ⟨rfl, hb1⟩
  have B1 : Below w.heap.size w w1 := bcall B0 hb1 (by simp; omega)
  have hlt : w.heap.size ≤ w1.heap.size := B1.size
  go_wp2_with fail
  have x1 : Box (w1.alloc (.cells #[.int .i64 0, .int .i64 0, .int .i64 0, .int .i64 0] 23)) w1.heap.size ⟨0, 0, 0, 0⟩ := Box.fresh w1 0 0 0 0 23
  have B2 : Below w.heap.size w (w1.alloc (.cells #[.int .i64 0, .int .i64 0, .int .i64 0, .int .i64 0] 23)) := B1.alloc hlt _
  clear hb1 y0 z0 B0
  go_loopw [6] (fun i wr => i = .int .i64 0 ∧ Below w.heap.size w wr ∧ Box wr w1.heap.size ⟨0, 0, 0, 0⟩) (fun _ _ => 0)
  case atStart => exact ⟨rfl, B2, x1⟩
  case round =>
    obtain ⟨rfl, B3, x3⟩ := hrel
    obtain ⟨c0, c1, c2, c3⟩ := x3.open
    go_wp2
    go_end0
    exact ⟨rfl, B3⟩
set_option maxRecDepth 100000 in
set_option maxHeartbeats 1000000 in
theorem over_yes (a b c d a' b' c' d' e f u h : Int) (g : Nat) (s : Option Addr) (m m' : Nat) (l k : List Int) (pad : List Value) (w : World)
    (hp : pvB a b c d l.length = true) (hq : pvB a' b' c' d' k.length = true) (he : e = max a a') (hf : f = max b b') (hu : u = min c c') (hh : h = min d d') (heu : e < u) (hfh : f < h)
    (hm : l.length ≤ m) (hm' : k.length ≤ m') (hrow : RowP w g l pad) (hH : HoldsI w s k) (hs : ∀ p, s = some p → p.block ≠ g) :
    Calls Try.prog 106 #[.agg #[.int .i64 a, .int .i64 b, .int .i64 c, .int .i64 d, .slice (some ⟨g, 0, none⟩) l.length m], .agg #[.int .i64 a', .int .i64 b', .int .i64 c', .int .i64 d', .slice s k.length m']] w fun e w' => e = .returned (.tuple #[]) ∧ But g w w' ∧ RowP w' g (pasteL ⟨a, b, c, d⟩ l ⟨a', b', c', d'⟩ k) pad := by
  have hI : Pl.isec a b c d a' b' c' d' = ⟨e, f, u, h⟩ := by
    unfold Pl.isec
    rw [if_neg, he, hf, hu, hh]
    rw [Bool.not_eq_true, Pl.empty_not, ← he, ← hf, ← hu, ← hh]
    exact ⟨heu, hfh⟩
  have hic := fun w => isec_c a b c d a' b' c' d' w
  rw [hI] at hic
  obtain ⟨hv, _, hn⟩ := pv_iff.1 hp
  obtain ⟨v1, v2, v3, v4, v5, v6⟩ := Pl.valid_iff.1 hv
  obtain ⟨hv', _, hn'⟩ := pv_iff.1 hq
  obtain ⟨v1', v2', v3', v4', v5', v6'⟩ := Pl.valid_iff.1 hv'
  have ea : a ≤ e := by omega
  have ea' : a' ≤ e := by omega
  have gc : u ≤ c := by omega
  have gc' : u ≤ c' := by omega
  have fb : b ≤ f := by omega
  have fb' : b' ≤ f := by omega
  have hd0 : h ≤ d := by omega
  have hd0' : h ≤ d' := by omega
  have hstart := ov_start (a := a) (c := c) (d := d) (a' := a') (c' := c') (d' := d') (k := k) hp hf
  have hend := ov_end (a := a) (b := b) (c := c) (a' := a') (b' := b') (c' := c') (l := l) (k := k) hh
  have hnext : ∀ Y, f ≤ Y → Y < h → _ := fun Y => ov_next (Y := Y) hp hq he hf hu hh heu
  clear he hf hu hh
  have HS : Hid _ := hstart
  have HE : Hid _ := hend
  have HN : Hid _ := hnext
  clear hstart hend hnext
  obtain ⟨N, hN⟩ : ∃ N : Nat, u - e = (N : Int) := ⟨(u - e).toNat, by omega⟩
  have y0 : QBox ((w.alloc (.cells #[.int .i64 a, .int .i64 b, .int .i64 c, .int .i64 d, .slice (some ⟨g, 0, none⟩) l.length m] 30)).alloc (.cells #[.int .i64 a', .int .i64 b', .int .i64 c', .int .i64 d', .slice s k.length m'] 30)) w.heap.size ⟨a, b, c, d⟩ (.slice (some ⟨g, 0, none⟩) l.length m) := (QBox.fresh w a b c d (some ⟨g, 0, none⟩) l.length m 30).alloc _
  have z0 : QBox ((w.alloc (.cells #[.int .i64 a, .int .i64 b, .int .i64 c, .int .i64 d, .slice (some ⟨g, 0, none⟩) l.length m] 30)).alloc (.cells #[.int .i64 a', .int .i64 b', .int .i64 c', .int .i64 d', .slice s k.length m'] 30)) (w.heap.size + 1) ⟨a', b', c', d'⟩ (.slice s k.length m') := QBox.freshAt (w.alloc (.cells #[.int .i64 a, .int .i64 b, .int .i64 c, .int .i64 d, .slice (some ⟨g, 0, none⟩) l.length m] 30)) (w.heap.size + 1) (by simp) a' b' c' d' s k.length m' 30
  have B0 : Below w.heap.size w ((w.alloc (.cells #[.int .i64 a, .int .i64 b, .int .i64 c, .int .i64 d, .slice (some ⟨g, 0, none⟩) l.length m] 30)).alloc (.cells #[.int .i64 a', .int .i64 b', .int .i64 c', .int .i64 d', .slice s k.length m'] 30)) := ((Below.refl _ _).alloc (Nat.le_refl _) _).alloc (by simp) _
  have g0 := hrow.below B0
  have glt := hrow.lt
  go_enter Try.func106, Try.ntmps106
  go_wp2_with fail
  refine (hic _).mono ?_
  rintro e1 w1 ⟨rfl, hb1⟩
  have y1 := y0.below hb1
  have z1 := z0.below hb1
  have g1 := g0.below hb1
  have B1 : Below w.heap.size w w1 := bcall B0 hb1 (by simp; omega)
  have hlt1 : w.heap.size < w1.heap.size := y1.lt
  clear hb1 B0 g0 y0 z0
  have x1 := Box.fresh w1 e f u h 23
  have hO : Ov ⟨a, b, c, d⟩ ⟨a', b', c', d'⟩ ⟨e, f, u, h⟩ (.slice (some ⟨g, 0, none⟩) l.length m) (.slice s k.length m') g w1.heap.size l pad w (w1.alloc (.cells #[.int .i64 e, .int .i64 f, .int .i64 u, .int .i64 h] 23)) :=
    ⟨(But.of B1).step ((Below.refl _ _).alloc (Nat.le_refl _) _), y1.alloc _, z1.alloc _, x1, g1.below ((Below.refl _ _).alloc (Nat.le_refl _) _), glt, hlt1⟩
  obtain ⟨c0, c1, c2, c3⟩ := x1.open
  go_wp2_with fail
  clear c0 c1 c2 c3 x1 y1 z1 g1 B1
  go_loopw [6] (fun i wr => ∃ Y : Int, f ≤ Y ∧ Y ≤ h ∧ i = .int .i64 Y ∧ Ov ⟨a, b, c, d⟩ ⟨a', b', c', d'⟩ ⟨e, f, u, h⟩ (.slice (some ⟨g, 0, none⟩) l.length m) (.slice s k.length m') g w1.heap.size (tabL ⟨a, b, c, d⟩ (ovG ⟨a, b, c, d⟩ l ⟨a', b', c', d'⟩ k Y)) pad w wr) (fun i _ => (h - intOf i).toNat)
  case atStart => exact ⟨f, Int.le_refl _, by omega, rfl, by rw [HS.out]; exact hO⟩
  case round =>
    obtain ⟨Y, hY0, hY1, rfl, hO1⟩ := hrel
    clear hO
    obtain ⟨c0, c1, c2, c3⟩ := hO1.p4.open
    obtain ⟨d0, d1, d2, d3, d4⟩ := hO1.p2.open
    obtain ⟨e0, e1, e2, e3, e4⟩ := hO1.p3.open
    by_cases hlt : Y < h
    · obtain ⟨p0, p1, p2, p3⟩ := idx_bd hv (x := e) (y := Y) ea (by omega) (by omega) (by omega)
      obtain ⟨q0, q1, q2, q3⟩ := idx_bd hv' (x := e) (y := Y) ea' (by omega) (by omega) (by omega)
      obtain ⟨J, hJ⟩ : ∃ J : Nat, idx a b c e Y = (J : Int) := ⟨(idx a b c e Y).toNat, by omega⟩
      obtain ⟨J2, hJ2⟩ : ∃ J2 : Nat, idx a' b' c' e Y = (J2 : Int) := ⟨(idx a' b' c' e Y).toNat, by omega⟩
      obtain ⟨L, hL⟩ : ∃ L, L = tabL ⟨a, b, c, d⟩ (ovG ⟨a, b, c, d⟩ l ⟨a', b', c', d'⟩ k Y) := ⟨_, rfl⟩
      have hNx := HN.out Y hY0 hlt
      rw [← hL, hJ, hJ2, hN] at hNx
      simp only [Int.toNat_natCast] at hNx
      rw [← hL] at hO1
      have hLl : L.length = l.length := by rw [hL, tabL_len, pv_len hp]
      have hfit1 := ov_fit hp (show a ≤ e by omega) (show e < u by omega) gc (show b ≤ Y by omega) (show Y < d by omega)
      have hfit2 := ov_fit hq (show a' ≤ e by omega) (show e < u by omega) gc' (show b' ≤ Y by omega) (show Y < d' by omega)
      rw [hJ, hN] at hfit1
      rw [hJ2, hN] at hfit2
      simp only [Int.toNat_natCast] at hfit1 hfit2
      have HX : Hid _ := hNx
      have HLL : Hid _ := hL
      clear hNx hL
      go_wp2_with fail
      clear c0 c1 c2 c3 d0 d1 d2 d3 d4 e0 e1 e2 e3 e4
      have hst : ∀ (X : OvF ⟨a, b, c, d⟩ ⟨a', b', c', d'⟩ ⟨e, f, u, h⟩ (.slice (some ⟨g, 0, none⟩) l.length m) (.slice s k.length m') g w1.heap.size L pad w) (w' : World), Below X.W.heap.size X.W w' → ∃ Z : OvF ⟨a, b, c, d⟩ ⟨a', b', c', d'⟩ ⟨e, f, u, h⟩ (.slice (some ⟨g, 0, none⟩) l.length m) (.slice s k.length m') g w1.heap.size L pad w, w' = Z.W := fun X w' hb => ⟨⟨w', X.ok.step hb⟩, rfl⟩
      have hne : Nonempty (OvF ⟨a, b, c, d⟩ ⟨a', b', c', d'⟩ ⟨e, f, u, h⟩ (.slice (some ⟨g, 0, none⟩) l.length m) (.slice s k.length m') g w1.heap.size L pad w) := ⟨⟨_, hO1⟩⟩
      have hc0 : ∀ X : OvF ⟨a, b, c, d⟩ ⟨a', b', c', d'⟩ ⟨e, f, u, h⟩ (.slice (some ⟨g, 0, none⟩) l.length m) (.slice s k.length m') g w1.heap.size L pad w, X.W.cell? ⟨w1.heap.size, 0, none⟩ = some (.int .i64 e) := fun X => X.ok.p4.open.1
      have hc1 : ∀ X : OvF ⟨a, b, c, d⟩ ⟨a', b', c', d'⟩ ⟨e, f, u, h⟩ (.slice (some ⟨g, 0, none⟩) l.length m) (.slice s k.length m') g w1.heap.size L pad w, X.W.cell? ⟨w1.heap.size, 1, none⟩ = some (.int .i64 f) := fun X => X.ok.p4.open.2.1
      have hc2 : ∀ X : OvF ⟨a, b, c, d⟩ ⟨a', b', c', d'⟩ ⟨e, f, u, h⟩ (.slice (some ⟨g, 0, none⟩) l.length m) (.slice s k.length m') g w1.heap.size L pad w, X.W.cell? ⟨w1.heap.size, 2, none⟩ = some (.int .i64 u) := fun X => X.ok.p4.open.2.2.1
      have hc3 : ∀ X : OvF ⟨a, b, c, d⟩ ⟨a', b', c', d'⟩ ⟨e, f, u, h⟩ (.slice (some ⟨g, 0, none⟩) l.length m) (.slice s k.length m') g w1.heap.size L pad w, X.W.cell? ⟨w1.heap.size, 3, none⟩ = some (.int .i64 h) := fun X => X.ok.p4.open.2.2.2
      have hd_0 : ∀ X : OvF ⟨a, b, c, d⟩ ⟨a', b', c', d'⟩ ⟨e, f, u, h⟩ (.slice (some ⟨g, 0, none⟩) l.length m) (.slice s k.length m') g w1.heap.size L pad w, X.W.cell? ⟨w.heap.size, 0, none⟩ = some (.int .i64 a) := fun X => X.ok.p2.open.1
      have hd_1 : ∀ X : OvF ⟨a, b, c, d⟩ ⟨a', b', c', d'⟩ ⟨e, f, u, h⟩ (.slice (some ⟨g, 0, none⟩) l.length m) (.slice s k.length m') g w1.heap.size L pad w, X.W.cell? ⟨w.heap.size, 1, none⟩ = some (.int .i64 b) := fun X => X.ok.p2.open.2.1
      have hd_2 : ∀ X : OvF ⟨a, b, c, d⟩ ⟨a', b', c', d'⟩ ⟨e, f, u, h⟩ (.slice (some ⟨g, 0, none⟩) l.length m) (.slice s k.length m') g w1.heap.size L pad w, X.W.cell? ⟨w.heap.size, 2, none⟩ = some (.int .i64 c) := fun X => X.ok.p2.open.2.2.1
      have hd_3 : ∀ X : OvF ⟨a, b, c, d⟩ ⟨a', b', c', d'⟩ ⟨e, f, u, h⟩ (.slice (some ⟨g, 0, none⟩) l.length m) (.slice s k.length m') g w1.heap.size L pad w, X.W.cell? ⟨w.heap.size, 3, none⟩ = some (.int .i64 d) := fun X => X.ok.p2.open.2.2.2.1
      have hd_4 : ∀ X : OvF ⟨a, b, c, d⟩ ⟨a', b', c', d'⟩ ⟨e, f, u, h⟩ (.slice (some ⟨g, 0, none⟩) l.length m) (.slice s k.length m') g w1.heap.size L pad w, X.W.cell? ⟨w.heap.size, 4, none⟩ = some (.slice (some ⟨g, 0, none⟩) l.length m) := fun X => X.ok.p2.open.2.2.2.2
      have he_0 : ∀ X : OvF ⟨a, b, c, d⟩ ⟨a', b', c', d'⟩ ⟨e, f, u, h⟩ (.slice (some ⟨g, 0, none⟩) l.length m) (.slice s k.length m') g w1.heap.size L pad w, X.W.cell? ⟨w.heap.size + 1, 0, none⟩ = some (.int .i64 a') := fun X => X.ok.p3.open.1
      have he_1 : ∀ X : OvF ⟨a, b, c, d⟩ ⟨a', b', c', d'⟩ ⟨e, f, u, h⟩ (.slice (some ⟨g, 0, none⟩) l.length m) (.slice s k.length m') g w1.heap.size L pad w, X.W.cell? ⟨w.heap.size + 1, 1, none⟩ = some (.int .i64 b') := fun X => X.ok.p3.open.2.1
      have he_2 : ∀ X : OvF ⟨a, b, c, d⟩ ⟨a', b', c', d'⟩ ⟨e, f, u, h⟩ (.slice (some ⟨g, 0, none⟩) l.length m) (.slice s k.length m') g w1.heap.size L pad w, X.W.cell? ⟨w.heap.size + 1, 2, none⟩ = some (.int .i64 c') := fun X => X.ok.p3.open.2.2.1
      have he_3 : ∀ X : OvF ⟨a, b, c, d⟩ ⟨a', b', c', d'⟩ ⟨e, f, u, h⟩ (.slice (some ⟨g, 0, none⟩) l.length m) (.slice s k.length m') g w1.heap.size L pad w, X.W.cell? ⟨w.heap.size + 1, 3, none⟩ = some (.int .i64 d') := fun X => X.ok.p3.open.2.2.2.1
      have he_4 : ∀ X : OvF ⟨a, b, c, d⟩ ⟨a', b', c', d'⟩ ⟨e, f, u, h⟩ (.slice (some ⟨g, 0, none⟩) l.length m) (.slice s k.length m') g w1.heap.size L pad w, X.W.cell? ⟨w.heap.size + 1, 4, none⟩ = some (.slice s k.length m') := fun X => X.ok.p3.open.2.2.2.2
      refine wp_region_in (fun X : OvF ⟨a, b, c, d⟩ ⟨a', b', c', d'⟩ ⟨e, f, u, h⟩ (.slice (some ⟨g, 0, none⟩) l.length m) (.slice s k.length m') g w1.heap.size L pad w => X.W) (by kernel_rfl) (by kernel_rfl) ⟨⟨_, hO1.step (Below.refl _ _).drew⟩, rfl⟩ ?_
      repeat (first | go_big_quiet_step ((first | (go_at_call 109; exact call_in (index_c _ _ _ _ _ _ _ _ _ _ (by first | exact hv | exact hv') (by omega) (by omega) (by omega) (by omega)) (hst _)))) | quiet_step ((first | (go_at_call 109; exact call_in (index_c _ _ _ _ _ _ _ _ _ _ (by first | exact hv | exact hv') (by omega) (by omega) (by omega) (by omega)) (hst _)))))
      refine wpQuiet_nil ?_
      intro w2 hw'
      obtain ⟨⟨_, hO2⟩, hw''⟩ := hw'
      subst hw''
      clear hst hne hc0 hc1 hc2 hc3 hd_0 hd_1 hd_2 hd_3 hd_4 he_0 he_1 he_2 he_3 he_4
      go_wp2_with fail
      rcases hH with rfl | ⟨bb, off, rfl, hr⟩
      · simp at hfit2; omega
      have hHw : HoldsI w2 (some ⟨bb, off, none⟩) k := HoldsI.but (.inr ⟨bb, off, rfl, hr⟩) hO2.but hs
      have HSR : Hid _ := holdsI_part hHw J2 N (by omega)
      clear hHw
      obtain ⟨M, hM⟩ : ∃ M : Nat, (J : Int) + (N : Int) = (M : Int) := ⟨J + N, by omega⟩
      obtain ⟨M2, hM2⟩ : ∃ M2 : Nat, (J2 : Int) + (N : Int) = (M2 : Int) := ⟨J2 + N, by omega⟩
      have hwM : IntKind.i64.wrap (M : Int) = (M : Int) := IntWalk.i64_in _ (by omega)
      have hwM2 : IntKind.i64.wrap (M2 : Int) = (M2 : Int) := IntWalk.i64_in _ (by omega)
      have s1 : (J : Int) ≤ (M : Int) := by omega
      have s2 : (M : Int) ≤ (m : Int) := by omega
      have s3 : ¬ m = J := by omega
      have t1 : (J2 : Int) ≤ (M2 : Int) := by omega
      have t2 : (M2 : Int) ≤ (m' : Int) := by omega
      have t3 : ¬ m' = J2 := by omega
      have k1 := hO2.p2.open.2.2.2.2
      have k2 := hO2.p3.open.2.2.2.2
      have ROW : Hid (w2.drew.heap[g]? = some (.cells (L.map (Value.int .i64) ++ pad).toArray 3 (0, 0))) := hO2.row
      have NE1 : w.heap.size ≠ g := by omega
      have NE2 : w.heap.size + 1 ≠ g := by omega
      have NE3 : w1.heap.size ≠ g := by omega
      go_region_held3 (fun w' => w'.cell? ⟨w.heap.size, 4, none⟩ = some (.slice (some ⟨g, 0, none⟩) l.length m) ∧ w'.cell? ⟨w.heap.size + 1, 4, none⟩ = some (.slice (some ⟨bb, off, none⟩) k.length m'))
        (first | (with_reducible assumption) | exact ⟨k1, k2⟩ | exact ⟨y2.open.2.2.2.2, z2.open.2.2.2.2⟩)
        (first | ((refine step_copy_but rfl (.tmp 43) (.tmp 50) 28 28 rfl 3 Try.underlying28 szI g J _ _ ⟨bb, off + J2, none⟩ _ _ rfl rfl (L.map (Value.int .i64) ++ pad) 3 ROW.out (((k.drop J2).take N).map (Value.int .i64)) (by rw [List.length_map, List.length_take, List.length_drop]; show min N (k.length - J2) = min (M2 - J2) (M - J); omega) HSR.out (by rw [List.length_map, List.length_take, List.length_drop, List.length_append, List.length_map]; omega) (oneI _) ?_); intro w4 hg4 hb4; have r4 := hg4.out; have y2 := (hO2.step (Below.refl _ _).drew).p2.but hb4 NE1; have z2 := (hO2.step (Below.refl _ _).drew).p3.but hb4 NE2))
      have hO3 : Ov ⟨a, b, c, d⟩ ⟨a', b', c', d'⟩ ⟨e, f, u, h⟩ (.slice (some ⟨g, 0, none⟩) l.length m) (.slice (some ⟨bb, off, none⟩) k.length m') g w1.heap.size (tabL ⟨a, b, c, d⟩ (ovG ⟨a, b, c, d⟩ l ⟨a', b', c', d'⟩ k (Y + 1))) pad w w4 := by
        refine ⟨(hO2.step (Below.refl _ _).drew).but.trans hb4, y2, z2, (hO2.step (Below.refl _ _).drew).p4.but hb4 NE3, ?_, hO2.glt, hO2.blt⟩
        rw [splice_pad _ _ _ _ (by rw [List.length_take, List.length_drop]; omega), HX.out] at r4
        exact r4
      have HO : Hid _ := hO3
      clear hO3 r4 hg4 y2 z2 hb4 hO2 hO1 ROW HSR k1 k2
      have hww : IntKind.i64.wrap (Y + 1) = Y + 1 := IntWalk.i64_in _ (by omega)
      go_wp2
      go_roundw
      case rel => exact ⟨Y + 1, by omega, by omega, by go_num, HO.out⟩
      case measure => simp [intOf]; omega
    · obtain rfl : Y = h := by omega
      have HO : Hid _ := hO1
      clear hO1
      go_wp2
      go_end0
      exact ⟨rfl, HO.out.but, by rw [← HE.out]; exact HO.out.row⟩
end Go.Proofs.Ytnfnidgabgdphaa
