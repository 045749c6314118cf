/-
  What a call of Cells (of the reference) returns and leaves, for all arguments: contract.
-/
import Derived.Test.YtaaljfpkfgjhpaaRectF
namespace Go.Proofs.Ytaaljfpkfgjhpaa
open Go.RowKit

theorem Pl.grid_wrap {a b c d w h : Int} (ax : Pl.Axis a c w (Pl.fd a w) (Pl.cd c w)) (ay : Pl.Axis b d h (Pl.fd b h) (Pl.cd d h)) :
    wrap64 ((Pl.cd c w - Pl.fd a w) * (Pl.cd d h - Pl.fd b h)) = ((Pl.nX a c w * Pl.nX b d h : Nat) : Int) := by
  have h1 := ax.lo
  have h2 := ax.lt
  have h3 := ax.hi
  have h4 := ay.lo
  have h5 := ay.lt
  have h6 := ay.hi
  have hv : Pl.validB (Pl.fd a w) (Pl.fd b h) (Pl.cd c w) (Pl.cd d h) = true := Pl.valid_iff.2 ⟨h1, by omega, h3, h4, by omega, h6⟩
  rw [Pl.area_wrap hv, Pl.area_grid ax ay]
/-- What stands at the head of a round: a row of n parts, the box, old memory. -/
structure RowAt (a b c d w h : Int) (nx : Nat) (B n : Nat) (W wr : World) (v : Value) : Prop where
  own : wr.ownsRow (B + 1) 26 4 v n (Pl.flat (Pl.partsN a b c d w h nx n))
  below : Below B W wr
  box : Box wr B ⟨a, b, c, d⟩
theorem RowAt.alloc {a b c d w h : Int} {nx B n : Nat} {W wr : World} {v : Value} (g : RowAt a b c d w h nx B n W wr v) (cs : Array Value) (t : TypeId) : RowAt a b c d w h nx B n W (wr.alloc (.cells cs t)) v :=
  ⟨g.own.alloc _, g.below.alloc (by have := g.box.lt; omega) _, g.box.alloc _ _⟩
theorem RowAt.call {a b c d w h : Int} {nx B n : Nat} {W wr w1 : World} {v : Value} (g : RowAt a b c d w h nx B n W wr v) (hb : Below wr.heap.size wr w1) : RowAt a b c d w h nx B n W w1 v :=
  ⟨own_below g.own hb (Nat.le_refl _), bcall g.below hb (by have := g.box.lt; omega), g.box.below hb⟩
theorem RowAt.push {a b c d w h : Int} {nx B i j : Nat} {W wr w1 : World} {v v' : Value} (g : RowAt a b c d w h nx B (j * nx + i) W wr v) (hi : i < nx) (hg : wr.grownBy w1 v.ownBlock) {p : Pl.R} (hp : p = Pl.part a b c d w h (Pl.fd a w + (i : Int)) (Pl.fd b h + (j : Int)))
    (hown : w1.ownsRow (B + 1) 26 4 v' (j * nx + i + 1) (Pl.flat (Pl.partsN a b c d w h nx (j * nx + i)) ++ [.int .i64 p.x0, .int .i64 p.y0, .int .i64 p.x1, .int .i64 p.y1])) : RowAt a b c d w h nx B (j * nx + i + 1) W w1 v' := by
  have hl := g.own.lt
  have ne : ∀ k, k ≤ B → some k ≠ v.ownBlock := fun k hk e => by have := (hl k e.symm).1; omega
  refine ⟨?_, g.below.grown hg (by have := g.box.lt; omega) (fun k hk => by have := (hl k hk).1; omega), g.box.grown hg (ne B (Nat.le_refl _))⟩
  subst hp
  rw [Pl.partsN_succ _ _ _ _ _ _ hi, Pl.flat_append]
  exact hown
def OutR (a b c d w h : Int) (nx ny B : Nat) (W : World) (v j : Value) (wr : World) : Prop :=
  ∃ k : Nat, k ≤ ny ∧ j = .int .i64 (Pl.fd b h + (k : Int)) ∧ RowAt a b c d w h nx B (k * nx + 0) W wr v
def InR (a b c d w h : Int) (nx B k : Nat) (W : World) (v i : Value) (wr : World) : Prop :=
  ∃ m : Nat, m ≤ nx ∧ i = .int .i64 (Pl.fd a w + (m : Int)) ∧ RowAt a b c d w h nx B (k * nx + m) W wr v
set_option maxRecDepth 100000 in
set_option maxHeartbeats 2000000 in
theorem rcells_no1 (a b c d w h : Int) (W : World) (hv : Pl.validB a b c d = false) :
    Calls Try.prog 38 #[.agg #[.int .i64 a, .int .i64 b, .int .i64 c, .int .i64 d], .int .i64 w, .int .i64 h] W (GivesRects [] W) := by
  go_enter Try.func38, Try.ntmps38
  go_wp2_with fail
  refine (valid_r _ _ _ _ _).mono ?_
  rintro e w1 ⟨rfl, hb1⟩
  have x1 := (Box.fresh W a b c d 26).below hb1
  have B1 : Below W.heap.size W w1 := bcall ((Below.refl _ _).alloc (Nat.le_refl _) _) hb1 (by simp)
  obtain ⟨c0, c1, c2, c3⟩ := x1.open
  clear hb1
  go_wp2
  go_ret
  exact ⟨none, 0, rfl, .inl rfl, B1⟩
set_option maxRecDepth 100000 in
set_option maxHeartbeats 2000000 in
theorem rcells_no2 (a b c d w h : Int) (W : World) (hv : Pl.validB a b c d = true) (he : Pl.emptyB a b c d = true) :
    Calls Try.prog 38 #[.agg #[.int .i64 a, .int .i64 b, .int .i64 c, .int .i64 d], .int .i64 w, .int .i64 h] W (GivesRects [] W) := by
  go_enter Try.func38, Try.ntmps38
  go_wp2_with fail
  refine (valid_r _ _ _ _ _).mono ?_
  rintro e w1 ⟨rfl, hb1⟩
  have x1 := (Box.fresh W a b c d 26).below hb1
  have B1 : Below W.heap.size W w1 := bcall ((Below.refl _ _).alloc (Nat.le_refl _) _) hb1 (by simp)
  obtain ⟨c0, c1, c2, c3⟩ := x1.open
  clear hb1
  go_wp2_with fail
  refine (empty_r _ _ _ _ _).mono ?_
  rintro e w2 ⟨rfl, hb2⟩
  have x2 := x1.below hb2
  have B2 : Below W.heap.size W w2 := bcall B1 hb2 (by have := x1.lt; omega)
  clear c0 c1 c2 c3 hb2 x1 B1
  obtain ⟨c0, c1, c2, c3⟩ := x2.open
  have hx2 := x2.lt
  go_wp2
  go_ret
  exact ⟨none, 0, rfl, .inl rfl, B2⟩
set_option maxRecDepth 100000 in
set_option maxHeartbeats 2000000 in
theorem rcells_no3 (a b c d w h : Int) (W : World) (hv : Pl.validB a b c d = true) (he : Pl.emptyB a b c d = false) (hw : w < 1) :
    Calls Try.prog 38 #[.agg #[.int .i64 a, .int .i64 b, .int .i64 c, .int .i64 d], .int .i64 w, .int .i64 h] W (GivesRects [] W) := by
  go_enter Try.func38, Try.ntmps38
  go_wp2_with fail
  refine (valid_r _ _ _ _ _).mono ?_
  rintro e w1 ⟨rfl, hb1⟩
  have x1 := (Box.fresh W a b c d 26).below hb1
  have B1 : Below W.heap.size W w1 := bcall ((Below.refl _ _).alloc (Nat.le_refl _) _) hb1 (by simp)
  obtain ⟨c0, c1, c2, c3⟩ := x1.open
  clear hb1
  go_wp2_with fail
  refine (empty_r _ _ _ _ _).mono ?_
  rintro e w2 ⟨rfl, hb2⟩
  have x2 := x1.below hb2
  have B2 : Below W.heap.size W w2 := bcall B1 hb2 (by have := x1.lt; omega)
  clear c0 c1 c2 c3 hb2 x1 B1
  obtain ⟨c0, c1, c2, c3⟩ := x2.open
  have hx2 := x2.lt
  go_wp2
  go_ret
  exact ⟨none, 0, rfl, .inl rfl, B2⟩
set_option maxRecDepth 100000 in
set_option maxHeartbeats 2000000 in
theorem rcells_no4 (a b c d w h : Int) (W : World) (hv : Pl.validB a b c d = true) (he : Pl.emptyB a b c d = false) (hw : 1 ≤ w) (hh : h < 1) :
    Calls Try.prog 38 #[.agg #[.int .i64 a, .int .i64 b, .int .i64 c, .int .i64 d], .int .i64 w, .int .i64 h] W (GivesRects [] W) := by
  go_enter Try.func38, Try.ntmps38
  go_wp2_with fail
  refine (valid_r _ _ _ _ _).mono ?_
  rintro e w1 ⟨rfl, hb1⟩
  have x1 := (Box.fresh W a b c d 26).below hb1
  have B1 : Below W.heap.size W w1 := bcall ((Below.refl _ _).alloc (Nat.le_refl _) _) hb1 (by simp)
  obtain ⟨c0, c1, c2, c3⟩ := x1.open
  clear hb1
  go_wp2_with fail
  refine (empty_r _ _ _ _ _).mono ?_
  rintro e w2 ⟨rfl, hb2⟩
  have x2 := x1.below hb2
  have B2 : Below W.heap.size W w2 := bcall B1 hb2 (by have := x1.lt; omega)
  clear c0 c1 c2 c3 hb2 x1 B1
  obtain ⟨c0, c1, c2, c3⟩ := x2.open
  have hx2 := x2.lt
  go_wp2
  go_ret
  exact ⟨none, 0, rfl, .inl rfl, B2⟩
set_option maxRecDepth 100000 in
set_option maxHeartbeats 2000000 in
theorem rcells_no5 (a b c d w h : Int) (W : World) (hv : Pl.validB a b c d = true) (he : Pl.emptyB a b c d = false) (hw : 1 ≤ w) (hh : 1 ≤ h) (hn : ¬ Pl.nX a c w * Pl.nX b d h ≤ 65536) :
    Calls Try.prog 38 #[.agg #[.int .i64 a, .int .i64 b, .int .i64 c, .int .i64 d], .int .i64 w, .int .i64 h] W (GivesRects [] W) := by
  obtain ⟨v1, v2, v3, v4, v5, v6⟩ := Pl.valid_iff.1 hv
  obtain ⟨e1, e2⟩ := Pl.empty_not.1 he
  have ax := Pl.axis hw v1 e1 v3
  have ay := Pl.axis hh v4 e2 v6
  have axl := ax.lo
  have axh := ax.hi
  have axt := ax.lt
  have ayl := ay.lo
  have ayh := ay.hi
  have ayt := ay.lt
  obtain ⟨C, hC⟩ : ∃ C : Nat, C = Pl.nX a c w * Pl.nX b d h := ⟨_, rfl⟩
  have hA := Pl.grid_wrap ax ay
  rw [← hC] at hA hn
  have HC : Hid _ := hC
  clear hC
  have hn' : 65536 < C := by omega
  go_enter Try.func38, Try.ntmps38
  go_wp2_with fail
  refine (valid_r _ _ _ _ _).mono ?_
  rintro e w1 ⟨rfl, hb1⟩
  have x1 := (Box.fresh W a b c d 26).below hb1
  have B1 : Below W.heap.size W w1 := bcall ((Below.refl _ _).alloc (Nat.le_refl _) _) hb1 (by simp)
  obtain ⟨c0, c1, c2, c3⟩ := x1.open
  clear hb1
  go_wp2_with fail
  refine (empty_r _ _ _ _ _).mono ?_
  rintro e w2 ⟨rfl, hb2⟩
  have x2 := x1.below hb2
  have B2 : Below W.heap.size W w2 := bcall B1 hb2 (by have := x1.lt; omega)
  clear c0 c1 c2 c3 hb2 x1 B1
  obtain ⟨c0, c1, c2, c3⟩ := x2.open
  have hx2 := x2.lt
  go_wp2_with fail
  refine (fd_r _ _ _ (by omega) (by omega)).mono ?_
  rintro e w3 ⟨rfl, rfl⟩
  go_wp2_with fail
  refine (cd_r _ _ _ (by omega) (by omega)).mono ?_
  rintro e w3 ⟨rfl, rfl⟩
  go_wp2_with fail
  refine (fd_r _ _ _ (by omega) (by omega)).mono ?_
  rintro e w3 ⟨rfl, rfl⟩
  go_wp2_with fail
  refine (cd_r _ _ _ (by omega) (by omega)).mono ?_
  rintro e w3 ⟨rfl, rfl⟩
  go_wp2
  go_ret
  exact ⟨none, 0, rfl, .inl rfl, B2⟩
set_option maxRecDepth 100000 in
set_option maxHeartbeats 2000000 in
theorem rcells_yes (a b c d w h : Int) (W : World) (hv : Pl.validB a b c d = true) (he : Pl.emptyB a b c d = false) (hw : 1 ≤ w) (hh : 1 ≤ h) (hw' : w ≤ 9223372036854775807) (hh' : h ≤ 9223372036854775807) (hn : Pl.nX a c w * Pl.nX b d h ≤ 65536) :
    Calls Try.prog 38 #[.agg #[.int .i64 a, .int .i64 b, .int .i64 c, .int .i64 d], .int .i64 w, .int .i64 h] W (GivesRects (Pl.partsN a b c d w h (Pl.nX a c w) (Pl.nX b d h * Pl.nX a c w)) W) := by
  obtain ⟨v1, v2, v3, v4, v5, v6⟩ := Pl.valid_iff.1 hv
  obtain ⟨e1, e2⟩ := Pl.empty_not.1 he
  have ax := Pl.axis hw v1 e1 v3
  have ay := Pl.axis hh v4 e2 v6
  have axl := ax.lo
  have axh := ax.hi
  have axt := ax.lt
  have ayl := ay.lo
  have ayh := ay.hi
  have ayt := ay.lt
  obtain ⟨C, hC⟩ : ∃ C : Nat, C = Pl.nX a c w * Pl.nX b d h := ⟨_, rfl⟩
  have hA := Pl.grid_wrap ax ay
  rw [← hC] at hA hn
  have HC : Hid _ := hC
  clear hC
  obtain ⟨i0, hi, hz0, hz1, hz2⟩ := info_parts infoR
  go_enter Try.func38, Try.ntmps38
  go_wp2_with fail
  refine (valid_r _ _ _ _ _).mono ?_
  rintro e w1 ⟨rfl, hb1⟩
  have x1 := (Box.fresh W a b c d 26).below hb1
  have B1 : Below W.heap.size W w1 := bcall ((Below.refl _ _).alloc (Nat.le_refl _) _) hb1 (by simp)
  obtain ⟨c0, c1, c2, c3⟩ := x1.open
  clear hb1
  go_wp2_with fail
  refine (empty_r _ _ _ _ _).mono ?_
  rintro e w2 ⟨rfl, hb2⟩
  have x2 := x1.below hb2
  have B2 : Below W.heap.size W w2 := bcall B1 hb2 (by have := x1.lt; omega)
  clear c0 c1 c2 c3 hb2 x1 B1
  obtain ⟨c0, c1, c2, c3⟩ := x2.open
  have hx2 := x2.lt
  go_wp2_with fail
  refine (fd_r _ _ _ (by omega) (by omega)).mono ?_
  rintro e w3 ⟨rfl, rfl⟩
  go_wp2_with fail
  refine (cd_r _ _ _ (by omega) (by omega)).mono ?_
  rintro e w3 ⟨rfl, rfl⟩
  go_wp2_with fail
  refine (fd_r _ _ _ (by omega) (by omega)).mono ?_
  rintro e w3 ⟨rfl, rfl⟩
  go_wp2_with fail
  refine (cd_r _ _ _ (by omega) (by omega)).mono ?_
  rintro e w3 ⟨rfl, rfl⟩
  have G5 : RowAt a b c d w h (Pl.nX a c w) W.heap.size 0 W w2 (.slice none 0 0) := ⟨World.ownsRow_nil _ _ _ _, B2, x2⟩
  clear c0 c1 c2 c3 x2 B2
  obtain ⟨nx1, nx2⟩ := Pl.nX_eq ax
  obtain ⟨ny1, ny2⟩ := Pl.nX_eq ay
  go_wp2_with fail
  clear hA
  go_loopw [11, 12] (fun v j wr => OutR a b c d w h (Pl.nX a c w) (Pl.nX b d h) W.heap.size W v j wr) (fun _ j _ => (Pl.cd d h - intOf j).toNat)
  case atStart => exact ⟨0, by omega, by simp, by simpa using G5⟩
  case round =>
    obtain ⟨k, hk, rfl, G⟩ := hrel
    clear G5
    obtain ⟨wo, rfl⟩ : ∃ wo : World, wo = wr := ⟨_, rfl⟩
    by_cases hlt : k < Pl.nX b d h
    · have hd : decide (Pl.fd b h + (k : Int) < Pl.cd d h) = true := by simp; omega
      go_wp2_with fail
      go_loopw [11, 13] (fun v i wr => InR a b c d w h (Pl.nX a c w) W.heap.size k W v i wr) (fun _ i _ => (Pl.cd c w - intOf i).toNat)
      case atStart => exact ⟨0, by omega, by simp, G⟩
      case round =>
        obtain ⟨m, hm, rfl, G'⟩ := hrel
        clear G
        by_cases hmt : m < Pl.nX a c w
        · obtain ⟨f1, f2, f3, p0, p1, p2⟩ := ax.fits hw hw' v3 (i := Pl.fd a w + (m : Int)) (by omega) (by omega)
          obtain ⟨f1', f2', f3', p0', p1', p2'⟩ := ay.fits hh hh' v6 (i := Pl.fd b h + (k : Int)) (by omega) (by omega)
          have hcap := Pl.cells_cap hmt hlt (HC.out ▸ hn)
          obtain ⟨q0, q1, q2, q3⟩ := G'.box.open
          have hbl := G'.box.lt
          clear f2 f2'
          go_wp2_with fail
          refine (isec_r _ _ _ _ _ _ _ _ _).mono ?_
          rintro e w7 ⟨rfl, hb7⟩
          have G7 := G'.call hb7
          have hbl7 := G7.box.lt
          clear hb7 q0 q1 q2 q3 f1 f3 f1' f3'
          go_wp2_with (first | (at_builtin; refine wpList_append_own _ rfl _ _ 34 rfl (W.heap.size + 1) 26 i0 (.agg #[.int .i64 0, .int .i64 0, .int .i64 0, .int .i64 0]) 4 32 Try.underlying34 hi hz0 hz1 hz2 rfl (by decide) _ _ _ rfl (G7.own.alloc _) ⟨w7.heap.size, 0, none⟩ 1 1 [.int .i64 (Pl.isec a b c d ((Pl.fd a w + (m : Int)) * w) ((Pl.fd b h + (k : Int)) * h) ((Pl.fd a w + (m : Int)) * w + w) ((Pl.fd b h + (k : Int)) * h + h)).x0, .int .i64 (Pl.isec a b c d ((Pl.fd a w + (m : Int)) * w) ((Pl.fd b h + (k : Int)) * h) ((Pl.fd a w + (m : Int)) * w + w) ((Pl.fd b h + (k : Int)) * h + h)).y0, .int .i64 (Pl.isec a b c d ((Pl.fd a w + (m : Int)) * w) ((Pl.fd b h + (k : Int)) * h) ((Pl.fd a w + (m : Int)) * w + w) ((Pl.fd b h + (k : Int)) * h + h)).x1, .int .i64 (Pl.isec a b c d ((Pl.fd a w + (m : Int)) * w) ((Pl.fd b h + (k : Int)) * h) ((Pl.fd a w + (m : Int)) * w + w) ((Pl.fd b h + (k : Int)) * h + h)).y1] rfl rfl ?c1 ?c2 ?c3 ?c4 ?c5 ?_))
          case c1 =>
            intro j u hj
            match j, hj with
            | 0, hj => simp at hj; subst hj; simp [Addr.add]
            | 1, hj => simp at hj; subst hj; simp [Addr.add]
            | 2, hj => simp at hj; subst hj; simp [Addr.add]
            | 3, hj => simp at hj; subst hj; simp [Addr.add]
          case c2 => intro u hu; simp at hu; rcases hu with rfl | rfl | rfl | rfl <;> rfl
          case c3 => unfold maxLen; omega
          case c4 => omega
          case c5 => simp; omega
          intro v' w8 hown8 hgrow8 _
          have G8 := (G7.alloc _ _).push hmt hgrow8 rfl hown8
          clear hown8 hgrow8 G7 G'
          go_wp2
          go_roundw
          case rel => first | exact ⟨m + 1, by omega, by go_num, G8⟩ | ((repeat apply Exists.intro); exact ⟨⟨m + 1, by omega, by go_num, G8⟩, rfl⟩)
          case measure => simp [intOf]; omega
        · obtain rfl : m = Pl.nX a c w := by omega
          go_wp2
          go_roundw
          case rel => exact ⟨k + 1, by omega, by go_num, by rw [Nat.add_mul, Nat.one_mul]; exact G'⟩
          case measure => simp [intOf]; omega
    · obtain rfl : k = Pl.nX b d h := by omega
      go_wp2
      go_ret
      obtain ⟨a0, c0, hv0, hH⟩ := row_holds G.own
      exact ⟨a0, c0, by rw [hv0]; rfl, hH, G.below⟩
/-- Cells of the reference, for all arguments. -/
theorem cells_r (a b c d w h : Int) (W : World) (hw' : w ≤ 9223372036854775807) (hh' : h ≤ 9223372036854775807) :
    Calls Try.prog 38 #[.agg #[.int .i64 a, .int .i64 b, .int .i64 c, .int .i64 d], .int .i64 w, .int .i64 h] W (GivesRects (Pl.cellsL a b c d w h) W) := by
  unfold Pl.cellsL
  by_cases hv : Pl.validB a b c d = true
  · by_cases he : Pl.emptyB a b c d = true
    · rw [if_neg (by rw [he]; simp)]; exact rcells_no2 a b c d w h W hv he
    · have he' : Pl.emptyB a b c d = false := by simpa using he
      by_cases hw : 1 ≤ w
      · by_cases hh : 1 ≤ h
        · by_cases hn : Pl.nX a c w * Pl.nX b d h ≤ 65536
          · rw [if_pos ⟨hv, he', hw, hh, hn⟩]; exact rcells_yes a b c d w h W hv he' hw hh hw' hh' hn
          · rw [if_neg (fun q => hn q.2.2.2.2)]; exact rcells_no5 a b c d w h W hv he' hw hh hn
        · rw [if_neg (fun q => hh q.2.2.2.1)]; exact rcells_no4 a b c d w h W hv he' hw (by omega)
      · rw [if_neg (fun q => hw q.2.2.1)]; exact rcells_no3 a b c d w h W hv he' (by omega)
  · rw [if_neg (fun q => hv q.1)]; exact rcells_no1 a b c d w h W (by simpa using hv)
end Go.Proofs.Ytaaljfpkfgjhpaa
