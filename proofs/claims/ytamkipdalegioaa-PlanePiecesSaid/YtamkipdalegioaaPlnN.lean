/-
  What each call of the reference's Paste and Clip returns and leaves.
-/
import Derived.Test.YtamkipdalegioaaPlnM
namespace Go.Proofs.Ytamkipdalegioaa
open Go.RowKit

set_option maxRecDepth 100000 in
set_option maxHeartbeats 1000000 in
theorem paster_no1 (a b c d a' b' c' d' : Int) (s t : Option Addr) (m m' : Nat) (l k : List Int) (w : World) (hp : pvB a b c d l.length = false) :
    Calls Try.prog 30 #[.agg #[.int .i64 a, .int .i64 b, .int .i64 c, .int .i64 d, .slice s l.length m], .agg #[.int .i64 a', .int .i64 b', .int .i64 c', .int .i64 d', .slice t k.length m']] w (GivesPlane ⟨0, 0, 0, 0⟩ [] 1 w) := by
  have p0 : QBox (((w.alloc (.cells #[.int .i64 a, .int .i64 b, .int .i64 c, .int .i64 d, .slice s l.length m] 26)).alloc (.cells #[.int .i64 a', .int .i64 b', .int .i64 c', .int .i64 d', .slice t k.length m'] 26)).alloc (.cells #[.int .i64 0, .int .i64 0, .int .i64 0, .int .i64 0, .slice none 0 0] 26)) w.heap.size ⟨a, b, c, d⟩ (.slice s l.length m) := ((QBox.fresh w a b c d s l.length m 26).alloc _).alloc _
  have r0 : QBox (((w.alloc (.cells #[.int .i64 a, .int .i64 b, .int .i64 c, .int .i64 d, .slice s l.length m] 26)).alloc (.cells #[.int .i64 a', .int .i64 b', .int .i64 c', .int .i64 d', .slice t k.length m'] 26)).alloc (.cells #[.int .i64 0, .int .i64 0, .int .i64 0, .int .i64 0, .slice none 0 0] 26)) (w.heap.size + 1) ⟨a', b', c', d'⟩ (.slice t k.length m') := (QBox.freshAt (w.alloc (.cells #[.int .i64 a, .int .i64 b, .int .i64 c, .int .i64 d, .slice s l.length m] 26)) (w.heap.size + 1) (by simp) a' b' c' d' t k.length m' 26).alloc _
  have z0 : QBox (((w.alloc (.cells #[.int .i64 a, .int .i64 b, .int .i64 c, .int .i64 d, .slice s l.length m] 26)).alloc (.cells #[.int .i64 a', .int .i64 b', .int .i64 c', .int .i64 d', .slice t k.length m'] 26)).alloc (.cells #[.int .i64 0, .int .i64 0, .int .i64 0, .int .i64 0, .slice none 0 0] 26)) (w.heap.size + 2) ⟨0, 0, 0, 0⟩ (.slice none 0 0) := QBox.freshAt ((w.alloc (.cells #[.int .i64 a, .int .i64 b, .int .i64 c, .int .i64 d, .slice s l.length m] 26)).alloc (.cells #[.int .i64 a', .int .i64 b', .int .i64 c', .int .i64 d', .slice t k.length m'] 26)) (w.heap.size + 2) (by simp) 0 0 0 0 none 0 0 26
  have B0 : Below w.heap.size w (((w.alloc (.cells #[.int .i64 a, .int .i64 b, .int .i64 c, .int .i64 d, .slice s l.length m] 26)).alloc (.cells #[.int .i64 a', .int .i64 b', .int .i64 c', .int .i64 d', .slice t k.length m'] 26)).alloc (.cells #[.int .i64 0, .int .i64 0, .int .i64 0, .int .i64 0, .slice none 0 0] 26)) := (((Below.refl _ _).alloc (Nat.le_refl _) _).alloc (by simp) _).alloc (by simp; omega) _
  go_enter Try.func30, Try.ntmps30
  go_wp2_with fail
  refine (pv_r _ _ _ _ _ _ _ _).mono ?_
  rintro e w1 ⟨rfl, hb1⟩
  have p1 := p0.below hb1
  have r1 := r0.below hb1
  have z1 := z0.below hb1
  have B1 : Below w.heap.size w w1 := bcall B0 hb1 (by simp; omega)
  clear hb1 p0 r0 z0 B0
  obtain ⟨c0, c1, c2, c3, c4⟩ := p1.open
  obtain ⟨r0, r1', r2', r3', r4'⟩ := r1.open
  obtain ⟨d0, d1, d2, d3, d4⟩ := z1.open
  have g1 := z1.free
  go_wp2
  refine bodyPost_ret (v := .tuple #[.agg #[.int .i64 0, .int .i64 0, .int .i64 0, .int .i64 0, .slice none 0 0], .int .i64 1]) ?_ rfl ?_
  · simp [results, Try.results30, go_sem, d0, d1, d2, d3, d4]
  · exact ⟨none, 0, rfl, .inl rfl, below5 B1 (by omega) _ _ _ _ _, Nat.le_refl _⟩
set_option maxRecDepth 100000 in
set_option maxHeartbeats 1000000 in
theorem paster_no2 (a b c d a' b' c' d' : Int) (s t : Option Addr) (m m' : Nat) (l k : List Int) (w : World) (hp : pvB a b c d l.length = true) (hq : pvB a' b' c' d' k.length = false) :
    Calls Try.prog 30 #[.agg #[.int .i64 a, .int .i64 b, .int .i64 c, .int .i64 d, .slice s l.length m], .agg #[.int .i64 a', .int .i64 b', .int .i64 c', .int .i64 d', .slice t k.length m']] w (GivesPlane ⟨0, 0, 0, 0⟩ [] 1 w) := by
  have p0 : QBox (((w.alloc (.cells #[.int .i64 a, .int .i64 b, .int .i64 c, .int .i64 d, .slice s l.length m] 26)).alloc (.cells #[.int .i64 a', .int .i64 b', .int .i64 c', .int .i64 d', .slice t k.length m'] 26)).alloc (.cells #[.int .i64 0, .int .i64 0, .int .i64 0, .int .i64 0, .slice none 0 0] 26)) w.heap.size ⟨a, b, c, d⟩ (.slice s l.length m) := ((QBox.fresh w a b c d s l.length m 26).alloc _).alloc _
  have r0 : QBox (((w.alloc (.cells #[.int .i64 a, .int .i64 b, .int .i64 c, .int .i64 d, .slice s l.length m] 26)).alloc (.cells #[.int .i64 a', .int .i64 b', .int .i64 c', .int .i64 d', .slice t k.length m'] 26)).alloc (.cells #[.int .i64 0, .int .i64 0, .int .i64 0, .int .i64 0, .slice none 0 0] 26)) (w.heap.size + 1) ⟨a', b', c', d'⟩ (.slice t k.length m') := (QBox.freshAt (w.alloc (.cells #[.int .i64 a, .int .i64 b, .int .i64 c, .int .i64 d, .slice s l.length m] 26)) (w.heap.size + 1) (by simp) a' b' c' d' t k.length m' 26).alloc _
  have z0 : QBox (((w.alloc (.cells #[.int .i64 a, .int .i64 b, .int .i64 c, .int .i64 d, .slice s l.length m] 26)).alloc (.cells #[.int .i64 a', .int .i64 b', .int .i64 c', .int .i64 d', .slice t k.length m'] 26)).alloc (.cells #[.int .i64 0, .int .i64 0, .int .i64 0, .int .i64 0, .slice none 0 0] 26)) (w.heap.size + 2) ⟨0, 0, 0, 0⟩ (.slice none 0 0) := QBox.freshAt ((w.alloc (.cells #[.int .i64 a, .int .i64 b, .int .i64 c, .int .i64 d, .slice s l.length m] 26)).alloc (.cells #[.int .i64 a', .int .i64 b', .int .i64 c', .int .i64 d', .slice t k.length m'] 26)) (w.heap.size + 2) (by simp) 0 0 0 0 none 0 0 26
  have B0 : Below w.heap.size w (((w.alloc (.cells #[.int .i64 a, .int .i64 b, .int .i64 c, .int .i64 d, .slice s l.length m] 26)).alloc (.cells #[.int .i64 a', .int .i64 b', .int .i64 c', .int .i64 d', .slice t k.length m'] 26)).alloc (.cells #[.int .i64 0, .int .i64 0, .int .i64 0, .int .i64 0, .slice none 0 0] 26)) := (((Below.refl _ _).alloc (Nat.le_refl _) _).alloc (by simp) _).alloc (by simp; omega) _
  go_enter Try.func30, Try.ntmps30
  go_wp2_with fail
  refine (pv_r _ _ _ _ _ _ _ _).mono ?_
  rintro e w1 ⟨rfl, hb1⟩
  have p1 := p0.below hb1
  have r1 := r0.below hb1
  have z1 := z0.below hb1
  have B1 : Below w.heap.size w w1 := bcall B0 hb1 (by simp; omega)
  clear hb1 p0 r0 z0 B0
  obtain ⟨c0, c1, c2, c3, c4⟩ := p1.open
  obtain ⟨r0, r1', r2', r3', r4'⟩ := r1.open
  obtain ⟨d0, d1, d2, d3, d4⟩ := z1.open
  have g1 := z1.free
  go_wp2_with fail
  refine (pv_r _ _ _ _ _ _ _ _).mono ?_
  rintro e w2 ⟨rfl, hb2⟩
  have p2 := p1.below hb2
  have r2 := r1.below hb2
  have z2 := z1.below hb2
  have B2 : Below w.heap.size w w2 := bcall B1 hb2 (by have := p1.lt; omega)
  clear hb2 p1 r1 z1 B1 c0 c1 c2 c3 c4 r0 r1' r2' r3' r4' d0 d1 d2 d3 d4 g1
  obtain ⟨c0, c1, c2, c3, c4⟩ := p2.open
  obtain ⟨r0, r1', r2', r3', r4'⟩ := r2.open
  obtain ⟨d0, d1, d2, d3, d4⟩ := z2.open
  have g1 := z2.free
  go_wp2
  refine bodyPost_ret (v := .tuple #[.agg #[.int .i64 0, .int .i64 0, .int .i64 0, .int .i64 0, .slice none 0 0], .int .i64 1]) ?_ rfl ?_
  · simp [results, Try.results30, go_sem, d0, d1, d2, d3, d4]
  · exact ⟨none, 0, rfl, .inl rfl, below5 B2 (by omega) _ _ _ _ _, Nat.le_refl _⟩
set_option maxRecDepth 100000 in
set_option maxHeartbeats 1000000 in
theorem paster_yes (a b c d a' b' c' d' : Int) (s t : Option Addr) (m m' : Nat) (l k : List Int) (w : World) (hp : pvB a b c d l.length = true) (hq : pvB a' b' c' d' k.length = true) (hH : HoldsI w s l) (hK : HoldsI w t k) :
    Calls Try.prog 30 #[.agg #[.int .i64 a, .int .i64 b, .int .i64 c, .int .i64 d, .slice s l.length m], .agg #[.int .i64 a', .int .i64 b', .int .i64 c', .int .i64 d', .slice t k.length m']] w (GivesPlane ⟨a, b, c, d⟩ (pasteL ⟨a, b, c, d⟩ l ⟨a', b', c', d'⟩ k) 0 w) := by
  obtain ⟨i0, hi, hz0, hz1, hz2⟩ := info_parts infoI
  obtain ⟨hpv, hpa, hpn⟩ := pv_iff.1 hp
  obtain ⟨v1, v2, v3, v4, v5, v6⟩ := Pl.valid_iff.1 hpv
  clear hpa hpn
  have p0 : QBox (((w.alloc (.cells #[.int .i64 a, .int .i64 b, .int .i64 c, .int .i64 d, .slice s l.length m] 26)).alloc (.cells #[.int .i64 a', .int .i64 b', .int .i64 c', .int .i64 d', .slice t k.length m'] 26)).alloc (.cells #[.int .i64 0, .int .i64 0, .int .i64 0, .int .i64 0, .slice none 0 0] 26)) w.heap.size ⟨a, b, c, d⟩ (.slice s l.length m) := ((QBox.fresh w a b c d s l.length m 26).alloc _).alloc _
  have r0 : QBox (((w.alloc (.cells #[.int .i64 a, .int .i64 b, .int .i64 c, .int .i64 d, .slice s l.length m] 26)).alloc (.cells #[.int .i64 a', .int .i64 b', .int .i64 c', .int .i64 d', .slice t k.length m'] 26)).alloc (.cells #[.int .i64 0, .int .i64 0, .int .i64 0, .int .i64 0, .slice none 0 0] 26)) (w.heap.size + 1) ⟨a', b', c', d'⟩ (.slice t k.length m') := (QBox.freshAt (w.alloc (.cells #[.int .i64 a, .int .i64 b, .int .i64 c, .int .i64 d, .slice s l.length m] 26)) (w.heap.size + 1) (by simp) a' b' c' d' t k.length m' 26).alloc _
  have z0 : QBox (((w.alloc (.cells #[.int .i64 a, .int .i64 b, .int .i64 c, .int .i64 d, .slice s l.length m] 26)).alloc (.cells #[.int .i64 a', .int .i64 b', .int .i64 c', .int .i64 d', .slice t k.length m'] 26)).alloc (.cells #[.int .i64 0, .int .i64 0, .int .i64 0, .int .i64 0, .slice none 0 0] 26)) (w.heap.size + 2) ⟨0, 0, 0, 0⟩ (.slice none 0 0) := QBox.freshAt ((w.alloc (.cells #[.int .i64 a, .int .i64 b, .int .i64 c, .int .i64 d, .slice s l.length m] 26)).alloc (.cells #[.int .i64 a', .int .i64 b', .int .i64 c', .int .i64 d', .slice t k.length m'] 26)) (w.heap.size + 2) (by simp) 0 0 0 0 none 0 0 26
  have B0 : Below w.heap.size w (((w.alloc (.cells #[.int .i64 a, .int .i64 b, .int .i64 c, .int .i64 d, .slice s l.length m] 26)).alloc (.cells #[.int .i64 a', .int .i64 b', .int .i64 c', .int .i64 d', .slice t k.length m'] 26)).alloc (.cells #[.int .i64 0, .int .i64 0, .int .i64 0, .int .i64 0, .slice none 0 0] 26)) := (((Below.refl _ _).alloc (Nat.le_refl _) _).alloc (by simp) _).alloc (by simp; omega) _
  go_enter Try.func30, Try.ntmps30
  go_wp2_with fail
  refine (pv_r _ _ _ _ _ _ _ _).mono ?_
  rintro e w1 ⟨rfl, hb1⟩
  have p1 := p0.below hb1
  have r1 := r0.below hb1
  have z1 := z0.below hb1
  have B1 : Below w.heap.size w w1 := bcall B0 hb1 (by simp; omega)
  clear hb1 p0 r0 z0 B0
  obtain ⟨c0, c1, c2, c3, c4⟩ := p1.open
  obtain ⟨r0, r1', r2', r3', r4'⟩ := r1.open
  obtain ⟨d0, d1, d2, d3, d4⟩ := z1.open
  have g1 := z1.free
  go_wp2_with fail
  refine (pv_r _ _ _ _ _ _ _ _).mono ?_
  rintro e w2 ⟨rfl, hb2⟩
  have p2 := p1.below hb2
  have r2 := r1.below hb2
  have z2 := z1.below hb2
  have B2 : Below w.heap.size w w2 := bcall B1 hb2 (by have := p1.lt; omega)
  clear hb2 p1 r1 z1 B1 c0 c1 c2 c3 c4 r0 r1' r2' r3' r4' d0 d1 d2 d3 d4 g1
  obtain ⟨c0, c1, c2, c3, c4⟩ := p2.open
  obtain ⟨r0, r1', r2', r3', r4'⟩ := r2.open
  obtain ⟨d0, d1, d2, d3, d4⟩ := z2.open
  have g1 := z2.free
  have G0 := Gr.start (w := w2) a b c d
  have HF : Hid (Filled ⟨a, b, c, d⟩ (ovF ⟨a, b, c, d⟩ l ⟨a', b', c', d'⟩ k) a b []) := filled_start
  have hlz := z2.lt
  obtain ⟨h0, h1, h2, h3, h4⟩ := (p2.alloc (.cells #[.int .i64 a, .int .i64 b, .int .i64 c, .int .i64 d, .slice none 0 0] 26)).open
  go_wp2_with fail
  clear h0 h1 h2 h3 h4 c0 c1 c2 c3 c4 r0 r1' r2' r3' r4' d0 d1 d2 d3 d4 g1
  go_loopw [7] (fun i wr => ∃ (Y : Int) (out : List Int) (v : Value), b ≤ Y ∧ Y ≤ d ∧ i = .int .i64 Y ∧ Filled ⟨a, b, c, d⟩ (ovF ⟨a, b, c, d⟩ l ⟨a', b', c', d'⟩ k) a Y out ∧ Gr w2 w2.heap.size ⟨a, b, c, d⟩ v out wr) (fun i _ => (d - intOf i).toNat)
  case atStart => exact ⟨b, [], _, Int.le_refl _, v5, rfl, HF.out, G0⟩
  case round =>
    obtain ⟨Y, out, v, hY0, hY1, rfl, hF, hG⟩ := hrel
    clear HF G0
    have p4 := p2.belowAt hG.below (by omega)
    obtain ⟨c0, c1, c2, c3, c4⟩ := p4.open
    by_cases hlt : Y < d
    · have hww : IntKind.i64.wrap (Y + 1) = Y + 1 := IntWalk.i64_in _ (by omega)
      have HF : Hid _ := hF
      clear hF
      go_wp2_with fail
      clear c0 c1 c2 c3 c4
      go_loopw [8] (fun i wr => ∃ (X : Int) (out : List Int) (v : Value), a ≤ X ∧ X ≤ c ∧ i = .int .i64 X ∧ Filled ⟨a, b, c, d⟩ (ovF ⟨a, b, c, d⟩ l ⟨a', b', c', d'⟩ k) X Y out ∧ Gr w2 w2.heap.size ⟨a, b, c, d⟩ v out wr) (fun i _ => (c - intOf i).toNat)
      case atStart => exact ⟨a, out, v, Int.le_refl _, v2, rfl, HF.out, hG⟩
      case round =>
        clear hG HF p4
        obtain ⟨X, out2, u, hX0, hX1, rfl, hF, hG⟩ := hrel
        have p4 := p2.belowAt hG.below (by omega)
        obtain ⟨c0, c1, c2, c3, c4⟩ := p4.open
        by_cases hltx : X < c
        · have hwx : IntKind.i64.wrap (X + 1) = X + 1 := IntWalk.i64_in _ (by omega)
          have hh : Pl.hasB a b c d X Y = true := Pl.has_iff.2 ⟨hX0, hltx, hY0, hlt⟩
          have hF2 := filled_next hF hh
          have hlen : ((out2.length : Nat) : Int) = idx a b c X Y := hF.2
          have hbd := (idx_bd hpv hX0 hX1 hY0 hY1).2.2.2
          have hon : out2.length ≤ 16781312 := by omega
          clear hF hlen hbd
          have r4 := r2.belowAt hG.below (by omega)
          have B4 : Below w.heap.size w wr := B2.trans (hG.below.mono (by omega))
          have B4w : w.heap.size ≤ wr.heap.size := B4.size
          go_wp2_with fail
          refine (get_r _ _ _ _ _ _ _ _ _ _ hp hh (hH.below B4 (Nat.le_refl _))).mono ?_
          rintro e w5 ⟨rfl, hb5⟩
          have G5 := hG.step hb5
          have r5 := r4.below hb5
          have B5 : Below w.heap.size w w5 := bcall B4 hb5 B4w
          have B5w : w.heap.size ≤ w5.heap.size := B5.size
          clear hG p4 r4 B4 B4w hb5 c0 c1 c2 c3 c4
          obtain ⟨c0, c1, c2, c3, c4⟩ := r5.open
          go_wp2_with fail
          refine (has_r _ _ _ _ _ _ _).mono ?_
          rintro e w6 ⟨rfl, hb6⟩
          have G6 := G5.step hb6
          have r6 := r5.below hb6
          have B6 : Below w.heap.size w w6 := bcall B5 hb6 B5w
          have B6w : w.heap.size ≤ w6.heap.size := B6.size
          clear G5 r5 B5 B5w hb6 c0 c1 c2 c3 c4
          by_cases hin : Pl.hasB a' b' c' d' X Y = true
          · have eo : ovF ⟨a, b, c, d⟩ l ⟨a', b', c', d'⟩ k X Y = gv ⟨a', b', c', d'⟩ k X Y := by rw [ovF, if_pos hin]
            rw [eo] at hF2
            have HF : Hid _ := hF2
            clear hF2 eo
            obtain ⟨c0, c1, c2, c3, c4⟩ := r6.open
            go_wp2_with fail
            refine (get_r _ _ _ _ _ _ _ _ _ _ hq hin (hK.below B6 (Nat.le_refl _))).mono ?_
            rintro e w7 ⟨rfl, hb7⟩
            have G7 := G6.step hb7
            clear G6 r6 B6 B6w hb7 c0 c1 c2 c3 c4
            obtain ⟨f0, f1, f2, f3, f4⟩ := G7.o.open
            go_wp2_with (first | (at_builtin; refine wpList_append_own _ rfl _ _ 24 rfl (w2.heap.size + 1) 3 i0 (.int .i64 0) 1 8 Try.underlying24 hi hz0 hz1 hz2 rfl (by decide) _ _ _ rfl (own_below G7.own ((Below.refl _ _).alloc (Nat.le_refl _) _)) ⟨w7.heap.size, 0, none⟩ 1 1 [.int .i64 (gv ⟨a', b', c', d'⟩ k X Y)] rfl rfl (one_new w7 _ _) (oneOne _) (by unfold maxLen; omega) (by omega) (by have := G7.o.lt; simp; omega) ?_))
            intro v' wz hownz hgrowz _
            obtain ⟨sv, mv, rfl⟩ := own_slice hownz
            have GZ := G7.push _ hgrowz hownz
            have hbz : Below (w2.heap.size + 1) w7 wz := ((Below.refl _ _).alloc (by have := G7.o.lt; omega) _).grown hgrowz (by have := G7.o.lt; simp; omega) (fun k hk => (G7.own.lt k hk).1)
            have oz := G7.o.belowAt hbz (by omega)
            obtain ⟨t0, t1, t2, t3, t4⟩ := oz.open
            have t5 := oz.free
            have HG : Hid _ := GZ
            clear GZ hbz hgrowz hownz f0 f1 f2 f3 f4
            go_wp2
            go_roundw
            case rel => exact ⟨X + 1, _, _, by omega, by omega, by go_num, HF.out, HG.out⟩
            case measure => simp [intOf]; omega
          · have eo : ovF ⟨a, b, c, d⟩ l ⟨a', b', c', d'⟩ k X Y = gv ⟨a, b, c, d⟩ l X Y := by rw [ovF, if_neg hin]
            rw [eo] at hF2
            have hin' : Pl.hasB a' b' c' d' X Y = false := by simpa using hin
            have HF : Hid _ := hF2
            clear hF2 eo hin
            obtain ⟨f0, f1, f2, f3, f4⟩ := G6.o.open
            go_wp2_with (first | (at_builtin; refine wpList_append_own _ rfl _ _ 24 rfl (w2.heap.size + 1) 3 i0 (.int .i64 0) 1 8 Try.underlying24 hi hz0 hz1 hz2 rfl (by decide) _ _ _ rfl (own_below G6.own ((Below.refl _ _).alloc (Nat.le_refl _) _)) ⟨w6.heap.size, 0, none⟩ 1 1 [.int .i64 (gv ⟨a, b, c, d⟩ l X Y)] rfl rfl (one_new w6 _ _) (oneOne _) (by unfold maxLen; omega) (by omega) (by have := G6.o.lt; simp; omega) ?_))
            intro v' wz hownz hgrowz _
            obtain ⟨sv, mv, rfl⟩ := own_slice hownz
            have GZ := G6.push _ hgrowz hownz
            have hbz : Below (w2.heap.size + 1) w6 wz := ((Below.refl _ _).alloc (by have := G6.o.lt; omega) _).grown hgrowz (by have := G6.o.lt; simp; omega) (fun k hk => (G6.own.lt k hk).1)
            have oz := G6.o.belowAt hbz (by omega)
            obtain ⟨t0, t1, t2, t3, t4⟩ := oz.open
            have t5 := oz.free
            have HG : Hid _ := GZ
            clear GZ hbz hgrowz hownz f0 f1 f2 f3 f4
            go_wp2
            go_roundw
            case rel => exact ⟨X + 1, _, _, by omega, by omega, by go_num, HF.out, HG.out⟩
            case measure => simp [intOf]; omega
        · obtain rfl : X = c := by omega
          have HF : Hid _ := filled_row hF
          have HG : Hid _ := hG
          clear hF hG
          go_wp2
          go_roundw
          case rel => exact ⟨Y + 1, _, _, by omega, by omega, by go_num, HF.out, HG.out⟩
          case measure => simp [intOf]; omega
    · obtain rfl : d = Y := by omega
      obtain ⟨sv, mv, rfl, hmv, hgive⟩ := hG.gives (filled_end v5 v2 hF) (w.heap.size + 2) hlz
      have z4 := z2.belowAt hG.below hlz
      have B4 : Below w.heap.size w wr := B2.trans (hG.below.mono (by omega))
      obtain ⟨d0, d1, d2, d3, d4⟩ := hG.o.open
      obtain ⟨e0, e1, e2, e3, e4⟩ := z4.open
      have g4 := z4.free
      have z4l := z4.lt
      have HV : Hid _ := hgive
      clear hF hG hgive
      go_wp2
      refine bodyPost_ret (v := .tuple #[.agg #[.int .i64 a, .int .i64 b, .int .i64 c, .int .i64 d, .slice sv (tabL ⟨a, b, c, d⟩ (ovF ⟨a, b, c, d⟩ l ⟨a', b', c', d'⟩ k)).length mv], .int .i64 0]) ?_ rfl ?_
      · obtain ⟨q0, q1, q2, q3, q4⟩ := (z4.store a b c d (.slice sv (tabL ⟨a, b, c, d⟩ (ovF ⟨a, b, c, d⟩ l ⟨a', b', c', d'⟩ k)).length mv)).open
        simp [results, Try.results30, go_sem, q0, q1, q2, q3, q4]
      · exact ⟨sv, mv, rfl, HV.out _ _ _ _ _, below5 B4 (by omega) _ _ _ _ _, hmv⟩
set_option maxRecDepth 100000 in
set_option maxHeartbeats 1000000 in
theorem clipr_no1 (a b c d lo hi : Int) (s : Option Addr) (m : Nat) (l : List Int) (w : World) (hp : pvB a b c d l.length = false) :
    Calls Try.prog 32 #[.agg #[.int .i64 a, .int .i64 b, .int .i64 c, .int .i64 d, .slice s l.length m], .int .i64 lo, .int .i64 hi] w (GivesPlane ⟨0, 0, 0, 0⟩ [] 1 w) := by
  have p0 : QBox ((w.alloc (.cells #[.int .i64 a, .int .i64 b, .int .i64 c, .int .i64 d, .slice s l.length m] 26)).alloc (.cells #[.int .i64 0, .int .i64 0, .int .i64 0, .int .i64 0, .slice none 0 0] 26)) w.heap.size ⟨a, b, c, d⟩ (.slice s l.length m) := (QBox.fresh w a b c d s l.length m 26).alloc _
  have z0 : QBox ((w.alloc (.cells #[.int .i64 a, .int .i64 b, .int .i64 c, .int .i64 d, .slice s l.length m] 26)).alloc (.cells #[.int .i64 0, .int .i64 0, .int .i64 0, .int .i64 0, .slice none 0 0] 26)) (w.heap.size + 1) ⟨0, 0, 0, 0⟩ (.slice none 0 0) := QBox.freshAt (w.alloc (.cells #[.int .i64 a, .int .i64 b, .int .i64 c, .int .i64 d, .slice s l.length m] 26)) (w.heap.size + 1) (by simp) 0 0 0 0 none 0 0 26
  have B0 : Below w.heap.size w ((w.alloc (.cells #[.int .i64 a, .int .i64 b, .int .i64 c, .int .i64 d, .slice s l.length m] 26)).alloc (.cells #[.int .i64 0, .int .i64 0, .int .i64 0, .int .i64 0, .slice none 0 0] 26)) := ((Below.refl _ _).alloc (Nat.le_refl _) _).alloc (by simp) _
  go_enter Try.func32, Try.ntmps32
  go_wp2_with fail
  refine (pv_r _ _ _ _ _ _ _ _).mono ?_
  rintro e w1 ⟨rfl, hb1⟩
  have p1 := p0.below hb1
  have z1 := z0.below hb1
  have B1 : Below w.heap.size w w1 := bcall B0 hb1 (by simp; omega)
  clear hb1 p0 z0 B0
  obtain ⟨c0, c1, c2, c3, c4⟩ := p1.open
  obtain ⟨d0, d1, d2, d3, d4⟩ := z1.open
  have g1 := z1.free
  go_wp2
  refine bodyPost_ret (v := .tuple #[.agg #[.int .i64 0, .int .i64 0, .int .i64 0, .int .i64 0, .slice none 0 0], .int .i64 1]) ?_ rfl ?_
  · simp [results, Try.results32, go_sem, d0, d1, d2, d3, d4]
  · exact ⟨none, 0, rfl, .inl rfl, below5 B1 (by omega) _ _ _ _ _, Nat.le_refl _⟩
set_option maxRecDepth 100000 in
set_option maxHeartbeats 1000000 in
theorem clipr_no2 (a b c d lo hi : Int) (s : Option Addr) (m : Nat) (l : List Int) (w : World) (hp : pvB a b c d l.length = true) (hlh : hi < lo) :
    Calls Try.prog 32 #[.agg #[.int .i64 a, .int .i64 b, .int .i64 c, .int .i64 d, .slice s l.length m], .int .i64 lo, .int .i64 hi] w (GivesPlane ⟨0, 0, 0, 0⟩ [] 2 w) := by
  have p0 : QBox ((w.alloc (.cells #[.int .i64 a, .int .i64 b, .int .i64 c, .int .i64 d, .slice s l.length m] 26)).alloc (.cells #[.int .i64 0, .int .i64 0, .int .i64 0, .int .i64 0, .slice none 0 0] 26)) w.heap.size ⟨a, b, c, d⟩ (.slice s l.length m) := (QBox.fresh w a b c d s l.length m 26).alloc _
  have z0 : QBox ((w.alloc (.cells #[.int .i64 a, .int .i64 b, .int .i64 c, .int .i64 d, .slice s l.length m] 26)).alloc (.cells #[.int .i64 0, .int .i64 0, .int .i64 0, .int .i64 0, .slice none 0 0] 26)) (w.heap.size + 1) ⟨0, 0, 0, 0⟩ (.slice none 0 0) := QBox.freshAt (w.alloc (.cells #[.int .i64 a, .int .i64 b, .int .i64 c, .int .i64 d, .slice s l.length m] 26)) (w.heap.size + 1) (by simp) 0 0 0 0 none 0 0 26
  have B0 : Below w.heap.size w ((w.alloc (.cells #[.int .i64 a, .int .i64 b, .int .i64 c, .int .i64 d, .slice s l.length m] 26)).alloc (.cells #[.int .i64 0, .int .i64 0, .int .i64 0, .int .i64 0, .slice none 0 0] 26)) := ((Below.refl _ _).alloc (Nat.le_refl _) _).alloc (by simp) _
  go_enter Try.func32, Try.ntmps32
  go_wp2_with fail
  refine (pv_r _ _ _ _ _ _ _ _).mono ?_
  rintro e w1 ⟨rfl, hb1⟩
  have p1 := p0.below hb1
  have z1 := z0.below hb1
  have B1 : Below w.heap.size w w1 := bcall B0 hb1 (by simp; omega)
  clear hb1 p0 z0 B0
  obtain ⟨c0, c1, c2, c3, c4⟩ := p1.open
  obtain ⟨d0, d1, d2, d3, d4⟩ := z1.open
  have g1 := z1.free
  go_wp2
  refine bodyPost_ret (v := .tuple #[.agg #[.int .i64 0, .int .i64 0, .int .i64 0, .int .i64 0, .slice none 0 0], .int .i64 2]) ?_ rfl ?_
  · simp [results, Try.results32, go_sem, d0, d1, d2, d3, d4]
  · exact ⟨none, 0, rfl, .inl rfl, below5 B1 (by omega) _ _ _ _ _, Nat.le_refl _⟩
theorem clip_take {lo hi : Int} {l : List Int} {k : Nat} (hk : k < l.length) : (clipL lo hi l).take k ++ [min (max l[k] lo) hi] = (clipL lo hi l).take (k + 1) := by
  rw [List.take_succ_eq_append_getElem (by rw [clipL_len]; exact hk), clip_at hk]
set_option maxRecDepth 100000 in
set_option maxHeartbeats 1000000 in
theorem clipr_yes (a b c d lo hi : Int) (s : Option Addr) (m : Nat) (l : List Int) (w : World) (hp : pvB a b c d l.length = true) (hlh : lo ≤ hi) (hH : HoldsI w s l) :
    Calls Try.prog 32 #[.agg #[.int .i64 a, .int .i64 b, .int .i64 c, .int .i64 d, .slice s l.length m], .int .i64 lo, .int .i64 hi] w (GivesPlane ⟨a, b, c, d⟩ (clipL lo hi l) 0 w) := by
  obtain ⟨i0, hi', hz0, hz1, hz2⟩ := info_parts infoI
  obtain ⟨hpv, hpa, hpn⟩ := pv_iff.1 hp
  have hl1 : l.length ≤ 1048576 := by omega
  have hlh' : ¬ hi < lo := by omega
  have hmx := hmx
  have hmn := hmn
  clear hpa hpn
  have p0 : QBox ((w.alloc (.cells #[.int .i64 a, .int .i64 b, .int .i64 c, .int .i64 d, .slice s l.length m] 26)).alloc (.cells #[.int .i64 0, .int .i64 0, .int .i64 0, .int .i64 0, .slice none 0 0] 26)) w.heap.size ⟨a, b, c, d⟩ (.slice s l.length m) := (QBox.fresh w a b c d s l.length m 26).alloc _
  have z0 : QBox ((w.alloc (.cells #[.int .i64 a, .int .i64 b, .int .i64 c, .int .i64 d, .slice s l.length m] 26)).alloc (.cells #[.int .i64 0, .int .i64 0, .int .i64 0, .int .i64 0, .slice none 0 0] 26)) (w.heap.size + 1) ⟨0, 0, 0, 0⟩ (.slice none 0 0) := QBox.freshAt (w.alloc (.cells #[.int .i64 a, .int .i64 b, .int .i64 c, .int .i64 d, .slice s l.length m] 26)) (w.heap.size + 1) (by simp) 0 0 0 0 none 0 0 26
  have B0 : Below w.heap.size w ((w.alloc (.cells #[.int .i64 a, .int .i64 b, .int .i64 c, .int .i64 d, .slice s l.length m] 26)).alloc (.cells #[.int .i64 0, .int .i64 0, .int .i64 0, .int .i64 0, .slice none 0 0] 26)) := ((Below.refl _ _).alloc (Nat.le_refl _) _).alloc (by simp) _
  go_enter Try.func32, Try.ntmps32
  go_wp2_with fail
  refine (pv_r _ _ _ _ _ _ _ _).mono ?_
  rintro e w1 ⟨rfl, hb1⟩
  have p1 := p0.below hb1
  have z1 := z0.below hb1
  have B1 : Below w.heap.size w w1 := bcall B0 hb1 (by simp; omega)
  clear hb1 p0 z0 B0
  obtain ⟨c0, c1, c2, c3, c4⟩ := p1.open
  obtain ⟨d0, d1, d2, d3, d4⟩ := z1.open
  have g1 := z1.free
  have G0 := Gr.start (w := w1) a b c d
  have hlz := z1.lt
  have hp1 := p1.alloc (.cells #[.int .i64 a, .int .i64 b, .int .i64 c, .int .i64 d, .slice none 0 0] 26)
  obtain ⟨h0, h1, h2, h3, h4⟩ := hp1.open
  go_wp2_with fail
  clear h0 h1 h2 h3 h4 hp1 c0 c1 c2 c3 c4 d0 d1 d2 d3 d4 g1
  go_loopw [9] (fun i wr => ∃ (k : Nat) (v : Value), k ≤ l.length ∧ i = .int .i64 k ∧ Gr w1 w1.heap.size ⟨a, b, c, d⟩ v ((clipL lo hi l).take k) wr) (fun i _ => l.length - (intOf i).toNat)
  case atStart => exact ⟨0, _, by omega, rfl, G0⟩
  case round =>
    obtain ⟨k, v, hk, rfl, hG⟩ := hrel
    clear G0
    have p4 := p1.belowAt hG.below (by omega)
    obtain ⟨c0, c1, c2, c3, c4⟩ := p4.open
    have B4 : Below w.heap.size w wr := B1.trans (hG.below.mono (by omega))
    by_cases hlt : k < l.length
    · have hlenk : ((clipL lo hi l).take k).length = k := by rw [List.length_take, clipL_len]; omega
      rcases hH with rfl | ⟨bb, off, rfl, hr⟩
      · simp at hlt
      have hblt : bb < w.heap.size := cell_lt (hr k hlt)
      have hy0 : wr.cell? ⟨bb, off + k, none⟩ = some (.int .i64 l[k]) := (B4.cell (p := ⟨bb, _, none⟩) hblt).trans (hr k hlt)
      have hi1 : (k : Int) < (l.length : Int) := by omega
      have hG1 := hG
      have hGd := hG.step (Below.refl _ _).drew
      obtain ⟨f0, f1, f2, f3, f4⟩ := hG.o.open
      have ga := (hG.o.alloc (.cells #[.int .i64 (min (max l[k] lo) hi)] 3)).open.2.2.2.2
      have HC : Hid _ := clip_take (lo := lo) (hi := hi) hlt
      have hwk : IntKind.i64.wrap ((k : Int) + 1) = (k : Int) + 1 := IntWalk.i64_in _ (by omega)
      have hdz : w1.heap.size < wr.heap.size := hG.o.lt
      have hdz' : w1.heap.size < wr.drew.heap.size := hGd.o.lt
      have hown : wr.drew.ownsRow (w1.heap.size + 1) 3 1 v k (((clipL lo hi l).take k).map (Value.int .i64)) := by have := hGd.own; rw [hlenk] at this; exact this
      go_wp2_with fail
      go_region_law (first | (refine step_append_own rfl (.tmp 29) (.tmp 39) 24 rfl (w1.heap.size + 1) 3 i0 (.int .i64 0) 1 8 Try.underlying24 hi' hz0 hz1 hz2 rfl (by decide) _ _ _ rfl (own_below hown ((Below.refl _ _).alloc (Nat.le_refl _) _)) ⟨wr.drew.heap.size, 0, none⟩ 1 1 [.int .i64 (min (max l[k] lo) hi)] rfl rfl (one_new wr.drew _ _) (oneOne _) (by unfold maxLen; omega) (by omega) (by have := hGd.o.lt; simp; omega) ?_; intro v' w6 hown6 hgrow6; obtain ⟨sv, mv, rfl⟩ := own_slice hown6; have G7 := hGd.push _ hgrow6 (by rw [hlenk]; exact hown6); have hb6 : Below (w1.heap.size + 1) wr.drew w6 := ((Below.refl _ _).alloc (by have := hGd.o.lt; omega) _).grown hgrow6 (by have := hGd.o.lt; simp; omega) (fun k hk => (hGd.own.lt k hk).1); have o6 := hGd.o.belowAt hb6 (by omega); obtain ⟨t0, t1, t2, t3, t4⟩ := o6.open; have t5 := o6.free; clear hb6 hgrow6 hown6))
      all_goals
        rw [HC.out] at G7
        have HG : Hid _ := G7
        clear G7 t0 t1 t2 t3 t4 t5 o6 ga f0 f1 f2 f3 f4 hGd hG hG1 hown
        go_wp2
        go_roundw
        case rel => exact ⟨k + 1, _, by omega, by go_num, HG.out⟩
        case measure => simp [intOf]; omega
    · obtain rfl : k = l.length := by omega
      have eo : (clipL lo hi l).take l.length = clipL lo hi l := by rw [← clipL_len lo hi l, List.take_length]
      obtain ⟨sv, mv, rfl, hmv, hgive⟩ := hG.gives eo (w.heap.size + 1) hlz
      have z4 := z1.belowAt hG.below hlz
      obtain ⟨d0, d1, d2, d3, d4⟩ := hG.o.open
      obtain ⟨e0, e1, e2, e3, e4⟩ := z4.open
      have g4 := z4.free
      have z4l := z4.lt
      have HV : Hid _ := hgive
      clear hG hgive
      go_wp2
      refine bodyPost_ret (v := .tuple #[.agg #[.int .i64 a, .int .i64 b, .int .i64 c, .int .i64 d, .slice sv (clipL lo hi l).length mv], .int .i64 0]) ?_ rfl ?_
      · obtain ⟨q0, q1, q2, q3, q4⟩ := (z4.store a b c d (.slice sv (clipL lo hi l).length mv)).open
        simp [results, Try.results32, go_sem, q0, q1, q2, q3, q4]
      · exact ⟨sv, mv, rfl, HV.out _ _ _ _ _, below5 B4 (by omega) _ _ _ _ _, hmv⟩
end Go.Proofs.Ytamkipdalegioaa
