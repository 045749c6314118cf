/-
  What a call of Cells (of the code) returns and leaves: the list of the parts in new memory.
-/
import Derived.Test.YtkcjbehfhcmiaaaRectD
import Derived.Test.YtkcjbehfhcmiaaaGrid
import Derived.OwnWalk
import Derived.Deep.RegionHeld3
import Derived.Deep.DeepCutAuto
set_option maxRecDepth 100000
namespace Go.Proofs.Ytkcjbehfhcmiaaa
open Go.RowKit

theorem infoR : (Try.prog.info? 23).map (fun i => (i.zero, i.size, i.bytes)) = some (some (.agg #[.int .i64 0, .int .i64 0, .int .i64 0, .int .i64 0]), 4, 32) := by kernel_rfl
/-- A row of the call's own holds the rectangles. -/
theorem row_holds {w : World} {base n : Nat} {v : Value} {l : List Pl.R} (h : w.ownsRow base 23 4 v n (Pl.flat l)) : ∃ a c, v = .slice a l.length c ∧ Holds w a l := by
  have hn : l.length = n := by
    have := h.1
    rw [Pl.flat_length] at this
    omega
  rcases h.2 with ⟨rfl, h0⟩ | ⟨g, cap, cur, rfl, hb, hg, hle, hm, hs, ht⟩
  · refine ⟨none, 0, by rw [hn, h0], .inl (List.length_eq_zero_iff.1 (by omega))⟩
  · refine ⟨some ⟨g, 0, none⟩, cap, by rw [hn], .inr ⟨g, 0, rfl, fun k hk => ?_⟩⟩
    have hc := h.cells (g := g) rfl
    obtain ⟨f0, f1, f2, f3⟩ := Pl.flat_at l k hk
    have e : ∀ j, (⟨g, 0, none⟩ : Addr).add j = ⟨g, j, none⟩ := fun j => by unfold Addr.add; split <;> simp_all
    have q0 := hc _ _ f0
    have q1 := hc _ _ f1
    have q2 := hc _ _ f2
    have q3 := hc _ _ f3
    rw [e] at q0 q1 q2 q3
    rw [Nat.zero_add]
    exact ⟨q0, q1, q2, q3⟩
theorem own_below {w w1 : World} {B base n : Nat} {e : TypeId} {size : Nat} {v : Value} {xs : List Value} (h : w.ownsRow base e size v n xs) (hb : Below B w w1) (hB : w.heap.size ≤ B) : w1.ownsRow base e size v n xs := by
  refine ⟨h.1, ?_⟩
  rcases h.2 with hn | ⟨g, cap, cur, rfl, hb', hgg, rest⟩
  · exact .inl hn
  · have := (Array.getElem?_eq_some_iff.1 hgg).1
    exact .inr ⟨g, cap, cur, rfl, hb', (hb.block g (by omega)).trans hgg, rest⟩
/-- The call returns a slice that holds L; old memory is as it was. -/
def GivesRects (L : List Pl.R) (w : World) (e : Ending) (w' : World) : Prop := ∃ a c, e = .returned (.slice a L.length c) ∧ Holds w' a L ∧ Below w.heap.size w w'
theorem Box.grown {w w1 : World} {B : Nat} {r : Pl.R} {row : Option Nat} (h : Box w B r) (hg : w.grownBy w1 row) (hn : some B ≠ row) : Box w1 B r := by
  have hb := hg.block B h.lt hn
  have c : ∀ o, w1.cell? ⟨B, o, none⟩ = w.cell? ⟨B, o, none⟩ := fun o => World.cell?_of_block hb
  exact ⟨⟨(c _).trans h.cells.1, (c _).trans h.cells.2.1, (c _).trans h.cells.2.2.1, (c _).trans h.cells.2.2.2⟩, fun j => (World.frozen?_of_block hb).trans (h.free j), by have := h.lt; have := hg.size; omega⟩

/-- What stands at the head of a round: a row of n parts, the two boxes, old memory. -/
structure GridAt (a b c d w h : Int) (nx : Nat) (B N n : Nat) (W wr : World) (v : Value) (tx : Pl.R) : Prop where
  own : wr.ownsRow (N + 1) 23 4 v n (Pl.flat (Pl.partsN a b c d w h nx n))
  below : Below B W wr
  box : Box wr B ⟨a, b, c, d⟩
  touched : Box wr N tx
  le : B < N
theorem GridAt.alloc {a b c d w h : Int} {nx B N n : Nat} {W wr : World} {v : Value} {tx : Pl.R} (g : GridAt a b c d w h nx B N n W wr v tx) (cs : Array Value) (t : TypeId) : GridAt a b c d w h nx B N n W (wr.alloc (.cells cs t)) v tx :=
  ⟨g.own.alloc _, g.below.alloc (by have := g.box.lt; omega) _, g.box.alloc _ _, g.touched.alloc _ _, g.le⟩
theorem GridAt.call {a b c d w h : Int} {nx B N n : Nat} {W wr w1 : World} {v : Value} {tx : Pl.R} (g : GridAt a b c d w h nx B N n W wr v tx) (hb : Below wr.heap.size wr w1) : GridAt a b c d w h nx B N n W w1 v tx :=
  ⟨own_below g.own hb (Nat.le_refl _), bcall g.below hb (by have := g.box.lt; omega), g.box.below hb, g.touched.below hb, g.le⟩
theorem GridAt.push {a b c d w h : Int} {nx B N i j : Nat} {W wr w1 : World} {v v' : Value} {tx : Pl.R} (g : GridAt a b c d w h nx B N (j * nx + i) W wr v tx) (hi : i < nx) (hg : wr.grownBy w1 v.ownBlock) {p : Pl.R} (hp : p = Pl.part a b c d w h (Pl.fd a w + (i : Int)) (Pl.fd b h + (j : Int)))
    (hown : w1.ownsRow (N + 1) 23 4 v' (j * nx + i + 1) (Pl.flat (Pl.partsN a b c d w h nx (j * nx + i)) ++ [.int .i64 p.x0, .int .i64 p.y0, .int .i64 p.x1, .int .i64 p.y1])) : GridAt a b c d w h nx B N (j * nx + i + 1) W w1 v' tx := by
  have hl := g.own.lt
  have ne : ∀ k, k ≤ N → some k ≠ v.ownBlock := fun k hk e => by have := (hl k e.symm).1; omega
  refine ⟨?_, g.below.grown hg (by have := g.box.lt; omega) (fun k hk => by have := (hl k hk).1; have := g.le; omega), g.box.grown hg (ne B (by have := g.le; omega)), g.touched.grown hg (ne N (Nat.le_refl _)), g.le⟩
  subst hp
  rw [Pl.partsN_succ _ _ _ _ _ _ hi, Pl.flat_append]
  exact hown

def OutRel (a b c d w h : Int) (nx ny B N : Nat) (W : World) (tx : Pl.R) (v j : Value) (wr : World) : Prop :=
  ∃ k : Nat, k ≤ ny ∧ j = .int .i64 (Pl.fd b h + (k : Int)) ∧ GridAt a b c d w h nx B N (k * nx + 0) W wr v tx
def InRel (a b c d w h : Int) (nx B N k : Nat) (W : World) (tx : Pl.R) (v i : Value) (wr : World) : Prop :=
  ∃ m : Nat, m ≤ nx ∧ i = .int .i64 (Pl.fd a w + (m : Int)) ∧ GridAt a b c d w h nx B N (k * nx + m) W wr v tx
set_option maxRecDepth 100000 in
set_option maxHeartbeats 2000000 in
theorem cells_yes (a b c d w h : Int) (W : World) (hv : Pl.validB a b c d = true) (he : Pl.emptyB a b c d = false) (hw : 1 ≤ w) (hh : 1 ≤ h) (hw' : w ≤ 9223372036854775807) (hh' : h ≤ 9223372036854775807) (hn : Pl.nX a c w * Pl.nX b d h ≤ 65536) :
    Calls Try.prog 25 #[.agg #[.int .i64 a, .int .i64 b, .int .i64 c, .int .i64 d], .int .i64 w, .int .i64 h] W (GivesRects (Pl.partsN a b c d w h (Pl.nX a c w) (Pl.nX b d h * Pl.nX a c w)) W) := by
  obtain ⟨v1, v2, v3, v4, v5, v6⟩ := Pl.valid_iff.1 hv
  obtain ⟨e1, e2⟩ := Pl.empty_not.1 he
  have ax := Pl.axis hw v1 e1 v3
  have ay := Pl.axis hh v4 e2 v6
  obtain ⟨i0, hi, hz0, hz1, hz2⟩ := info_parts infoR
  go_enter Try.func25, Try.ntmps25
  go_wp2_with fail
  refine (valid_c _ _ _ _ _).mono ?_
  rintro e w1 ⟨rfl, hb1⟩
  have x1 := (Box.fresh W a b c d 23).below hb1
  have B1 : Below W.heap.size W w1 := bcall ((Below.refl _ _).alloc (Nat.le_refl _) _) hb1 (by simp)
  obtain ⟨c0, c1, c2, c3⟩ := x1.open
  clear hb1
  go_wp2_with fail
  refine (empty_c _ _ _ _ _).mono ?_
  rintro e w2 ⟨rfl, hb2⟩
  have x2 := x1.below hb2
  have B2 : Below W.heap.size W w2 := bcall B1 hb2 (by have := x1.lt; omega)
  clear c0 c1 c2 c3 hb2 x1 B1
  obtain ⟨c0, c1, c2, c3⟩ := x2.open
  have hx2 := x2.lt
  go_upto_region 3 with fail
  go_cut [7] (fun s7 wx => ∃ g : Nat, s7 = .pointer (some ⟨g, 0, none⟩) ∧ Box wx g ⟨Pl.fd a w, Pl.fd b h, Pl.cd c w, Pl.cd d h⟩ ∧ Box wx W.heap.size ⟨a, b, c, d⟩ ∧ Below W.heap.size W wx ∧ W.heap.size < g)
  case first =>
    go_region_held3 (fun w' => w'.cell? ⟨W.heap.size, 0, none⟩ = some (.int .i64 a) ∧ w'.cell? ⟨W.heap.size, 1, none⟩ = some (.int .i64 b) ∧ w'.cell? ⟨W.heap.size, 2, none⟩ = some (.int .i64 c) ∧ w'.cell? ⟨W.heap.size, 3, none⟩ = some (.int .i64 d))
      (first | assumption | (simp [World.cell?_alloc_some, c0, c1, c2, c3]; done))
      (first | (go_at_call 57; (with_reducible refine (fd_c _ _ _ (by omega) (by omega)).mono ?_); rintro e w3 ⟨rfl, rfl⟩) | (go_at_call 58; (with_reducible refine (cd_c _ _ _ (by omega) (by omega)).mono ?_); rintro e w3 ⟨rfl, rfl⟩))
    all_goals
      go_wp2_with fail
      go_meet
      exact ⟨w2.heap.size, rfl, (Box.fresh w2 _ _ _ _ _).drew, (x2.alloc _ _).drew, (B2.alloc (by omega) _).drew, hx2⟩
  case rest =>
    obtain ⟨g, rfl, t2, x3, B3, hg⟩ := hcut
    obtain ⟨t0, t1, t2', t3⟩ := t2.open
    obtain ⟨C, hC⟩ : ∃ C : Nat, C = Pl.nX a c w * Pl.nX b d h := ⟨_, rfl⟩
    have hA := Pl.area_grid ax ay
    rw [← hC] at hA hn
    have HA : Hid _ := hA
    have HC : Hid _ := hC
    clear hA hC c0 c1 c2 c3 x2 B2
    go_wp2_with fail
    refine (area_c _ _ _ _ _).mono ?_
    rintro e w4 ⟨he4, hb4⟩
    rw [HA.out] at he4
    subst he4
    have t4 := t2.below hb4
    have x4 := x3.below hb4
    have B4 : Below W.heap.size W w4 := bcall B3 hb4 (by have := x3.lt; omega)
    have ht4 := t4.lt
    clear hb4 t0 t1 t2' t3 t2 x3 B3
    go_wp2_with (first | (at_make; refine wpList_make_own _ rfl _ _ 58 rfl (g + 1) 23 i0 (.agg #[.int .i64 0, .int .i64 0, .int .i64 0, .int .i64 0]) 4 Try.underlying58 hi hz0 hz1 .i64 .i64 _ C rfl rfl rfl ?m1 ?m2 ?m3 ?_))
    case m1 => rw [hz2]; omega
    case m2 => unfold maxLen; omega
    case m3 => omega
    intro w5 hown5 hgrow5
    have G5 : GridAt a b c d w h (Pl.nX a c w) W.heap.size g 0 W w5 (.slice (some ⟨w4.heap.size, 0, none⟩) 0 C) ⟨Pl.fd a w, Pl.fd b h, Pl.cd c w, Pl.cd d h⟩ :=
      ⟨hown5, B4.grown hgrow5 (by omega) (fun k hk => by simp at hk), x4.grown hgrow5 (by simp), t4.grown hgrow5 (by simp), hg⟩
    obtain ⟨t0, t1, t2', t3⟩ := G5.touched.open
    clear hown5 hgrow5 x4 t4 B4
    obtain ⟨nx1, nx2⟩ := Pl.nX_eq ax
    obtain ⟨ny1, ny2⟩ := Pl.nX_eq ay
    have axl := ax.lo
    have axh := ax.hi
    have ayl := ay.lo
    have ayh := ay.hi
    go_wp2_with fail
    go_loopw [9, 10] (fun v j wr => OutRel a b c d w h (Pl.nX a c w) (Pl.nX b d h) W.heap.size g W ⟨Pl.fd a w, Pl.fd b h, Pl.cd c w, Pl.cd d h⟩ v j wr) (fun _ j _ => (Pl.cd d h - intOf j).toNat)
    case atStart => exact ⟨0, by omega, by simp, by simpa using G5⟩
    case round =>
      obtain ⟨k, hk, rfl, G⟩ := hrel
      clear t0 t1 t2' t3 G5
      obtain ⟨t0, t1, t2', t3⟩ := G.touched.open
      obtain ⟨wo, rfl⟩ : ∃ wo : World, wo = wr := ⟨_, rfl⟩
      by_cases hlt : k < Pl.nX b d h
      · go_wp2_with fail
        go_loopw [9, 11] (fun v i wr => InRel a b c d w h (Pl.nX a c w) W.heap.size g k W ⟨Pl.fd a w, Pl.fd b h, Pl.cd c w, Pl.cd d h⟩ v i wr) (fun _ i _ => (Pl.cd c w - intOf i).toNat)
        case atStart => exact ⟨0, by omega, by simp, G⟩
        case round =>
          obtain ⟨m, hm, rfl, G'⟩ := hrel
          clear t0 t1 t2' t3 G
          obtain ⟨t0, t1, t2', t3⟩ := G'.touched.open
          by_cases hmt : m < Pl.nX a c w
          · obtain ⟨f1, f2, f3, p0, p1, p2⟩ := ax.fits hw hw' v3 (i := Pl.fd a w + (m : Int)) (by omega) (by omega)
            obtain ⟨f1', f2', f3', p0', p1', p2'⟩ := ay.fits hh hh' v6 (i := Pl.fd b h + (k : Int)) (by omega) (by omega)
            have hcap := Pl.cells_cap hmt hlt (HC.out ▸ hn)
            obtain ⟨q0, q1, q2, q3⟩ := G'.box.open
            have hgl := G'.touched.lt
            have hbl := G'.box.lt
            clear f3 f3'
            go_wp2_with fail
            refine (isec_c _ _ _ _ _ _ _ _ _).mono ?_
            rintro e w7 ⟨rfl, hb7⟩
            have G7 := (G'.alloc _ _).call hb7
            have hgl7 := G7.touched.lt
            clear hb7 q0 q1 q2 q3 t0 t1 t2' t3 f1 f2 f1' f2'
            go_wp2_with (first | (at_builtin; refine wpList_append_own _ rfl _ _ 58 rfl (g + 1) 23 i0 (.agg #[.int .i64 0, .int .i64 0, .int .i64 0, .int .i64 0]) 4 32 Try.underlying58 hi hz0 hz1 hz2 rfl (by decide) _ _ _ rfl (G7.own.alloc _) ⟨w7.heap.size, 0, none⟩ 1 1 [.int .i64 (Pl.isec a b c d ((Pl.fd a w + (m : Int)) * w) ((Pl.fd b h + (k : Int)) * h) ((Pl.fd a w + (m : Int)) * w + w) ((Pl.fd b h + (k : Int)) * h + h)).x0, .int .i64 (Pl.isec a b c d ((Pl.fd a w + (m : Int)) * w) ((Pl.fd b h + (k : Int)) * h) ((Pl.fd a w + (m : Int)) * w + w) ((Pl.fd b h + (k : Int)) * h + h)).y0, .int .i64 (Pl.isec a b c d ((Pl.fd a w + (m : Int)) * w) ((Pl.fd b h + (k : Int)) * h) ((Pl.fd a w + (m : Int)) * w + w) ((Pl.fd b h + (k : Int)) * h + h)).x1, .int .i64 (Pl.isec a b c d ((Pl.fd a w + (m : Int)) * w) ((Pl.fd b h + (k : Int)) * h) ((Pl.fd a w + (m : Int)) * w + w) ((Pl.fd b h + (k : Int)) * h + h)).y1] rfl rfl ?c1 ?c2 ?c3 ?c4 ?c5 ?_))
            case c1 =>
              intro j u hj
              match j, hj with
              | 0, hj => simp at hj; subst hj; simp [Addr.add]
              | 1, hj => simp at hj; subst hj; simp [Addr.add]
              | 2, hj => simp at hj; subst hj; simp [Addr.add]
              | 3, hj => simp at hj; subst hj; simp [Addr.add]
            case c2 => intro u hu; simp at hu; rcases hu with rfl | rfl | rfl | rfl <;> rfl
            case c3 => unfold maxLen; omega
            case c4 => omega
            case c5 => simp; omega
            intro v' w8 hown8 hgrow8 _
            have G8 := (G7.alloc _ _).push hmt hgrow8 rfl hown8
            clear hown8 hgrow8 G7 G'
            obtain ⟨t0, t1, t2', t3⟩ := G8.touched.open
            go_wp2
            go_roundw
            case rel => exact ⟨m + 1, by omega, by go_num, G8⟩
            case measure => simp [intOf]; omega
          · obtain rfl : m = Pl.nX a c w := by omega
            go_wp2
            go_roundw
            case rel => exact ⟨k + 1, by omega, by go_num, by rw [Nat.add_mul, Nat.one_mul]; exact G'⟩
            case measure => simp [intOf]; omega
      · obtain rfl : k = Pl.nX b d h := by omega
        go_wp2
        go_ret
        obtain ⟨a0, c0, hv0, hH⟩ := row_holds G.own
        exact ⟨a0, c0, by rw [hv0]; rfl, hH, G.below⟩
end Go.Proofs.Ytkcjbehfhcmiaaa
