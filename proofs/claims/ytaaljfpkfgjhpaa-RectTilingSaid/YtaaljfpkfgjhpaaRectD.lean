/-
  What each call of Bound and of Same (on lists of rectangles) returns and leaves: contracts.
-/
import Derived.Test.YtaaljfpkfgjhpaaBox
namespace Go.Proofs.Ytaaljfpkfgjhpaa
open Go.RowKit

def joinF (p q : Pl.R) : Pl.R := Pl.joinR p.x0 p.y0 p.x1 p.y1 q.x0 q.y0 q.x1 q.y1
def boundL (l : List Pl.R) : Pl.R := l.foldl joinF ⟨0, 0, 0, 0⟩
theorem boundL_succ (l : List Pl.R) (k : Nat) (h : k < l.length) : boundL (l.take (k + 1)) = Pl.joinR (boundL (l.take k)).x0 (boundL (l.take k)).y0 (boundL (l.take k)).x1 (boundL (l.take k)).y1 l[k].x0 l[k].y0 l[k].x1 l[k].y1 := by
  unfold boundL
  rw [List.take_succ_eq_append_getElem h, List.foldl_append]
  rfl
/-- The bound is the zero rectangle, or it has points. -/
theorem bound_zero_or (l : List Pl.R) : boundL l = ⟨0, 0, 0, 0⟩ ∨ Pl.emptyB (boundL l).x0 (boundL l).y0 (boundL l).x1 (boundL l).y1 = false := by
  have key : ∀ (l : List Pl.R) (p : Pl.R), (p = ⟨0, 0, 0, 0⟩ ∨ Pl.emptyB p.x0 p.y0 p.x1 p.y1 = false) → (l.foldl joinF p = ⟨0, 0, 0, 0⟩ ∨ Pl.emptyB (l.foldl joinF p).x0 (l.foldl joinF p).y0 (l.foldl joinF p).x1 (l.foldl joinF p).y1 = false) := by
    intro l
    induction l with
    | nil => intro p h; exact h
    | cons q l ih =>
      intro p h
      refine ih (joinF p q) ?_
      unfold joinF Pl.joinR
      by_cases he : Pl.emptyB q.x0 q.y0 q.x1 q.y1 = true
      · rw [if_pos he]; exact h
      · have he' : Pl.emptyB q.x0 q.y0 q.x1 q.y1 = false := by simpa using he
        rw [if_neg he]
        by_cases hq : Pl.eqB p.x0 p.y0 p.x1 p.y1 0 0 0 0 = true
        · rw [if_pos hq]; exact .inr he'
        · rw [if_neg hq]
          refine .inr ?_
          rcases h with h | h
          · rw [h] at hq; exact absurd (Pl.eq_self 0 0 0 0) hq
          · have h1 := Pl.empty_not.1 he'
            have h2 := Pl.empty_not.1 h
            exact Pl.empty_not.2 ⟨by dsimp only; omega, by dsimp only; omega⟩
  exact key l _ (.inl rfl)

/-- A slice's address holds the rectangles of a list. -/
def Holds (w : World) (a : Option Addr) (l : List Pl.R) : Prop := l = [] ∨ ∃ b off, a = some ⟨b, off, none⟩ ∧ RectsAt w b off l
theorem Holds.below {B : Nat} {w w1 : World} {a : Option Addr} {l : List Pl.R} (h : Holds w a l) (hb : Below B w w1) (hB : w.heap.size ≤ B) : Holds w1 a l := by
  rcases h with rfl | ⟨b, off, rfl, hr⟩
  · exact .inl rfl
  · refine .inr ⟨b, off, rfl, fun k hk => ?_⟩
    exact hr.below hb (Nat.lt_of_lt_of_le (cell_lt (hr k hk).1) hB) k hk
/-- What the loop's frame and world hold: the bound so far in its box. -/
def BoundRel (w : World) (l : List Pl.R) (i : Value) (wr : World) : Prop :=
  ∃ k : Nat, k ≤ l.length ∧ i = .int .i64 k ∧ Below w.heap.size w wr ∧ Box wr (w.heap.size + 1) (boundL (l.take k)) ∧ Box wr w.heap.size ⟨0, 0, 0, 0⟩

set_option maxHeartbeats 400000 in
theorem bound_c (a : Option Addr) (cap : Nat) (l : List Pl.R) (w : World) (hl : l.length ≤ 140737488351232) (h : Holds w a l) :
    Calls Try.prog 32 #[.slice a l.length cap] w fun e w' => e = .returned (.agg #[.int .i64 (boundL l).x0, .int .i64 (boundL l).y0, .int .i64 (boundL l).x1, .int .i64 (boundL l).y1]) ∧ Below w.heap.size w w' := by
  go_enter Try.func32, Try.ntmps32
  go_wp2_with fail
  go_loopw [8] (fun i wr => BoundRel w l i wr) (fun i _ => l.length - (intOf i).toNat)
  case atStart =>
    refine ⟨0, by omega, rfl, ?_, ?_, (Box.fresh w 0 0 0 0 _).alloc _ _⟩
    · exact ((Below.refl _ _).alloc (by simp) _).alloc (by simp) _
    · have := Box.fresh (w.alloc (.cells #[.int .i64 0, .int .i64 0, .int .i64 0, .int .i64 0] 26)) 0 0 0 0 26
      simpa [boundL] using this
  case round =>
    obtain ⟨k, hk, rfl, hB, hx, hx0⟩ := hrel
    obtain ⟨c0, c1, c2, c3⟩ := hx.open
    have hz := hx.lt
    by_cases hlt : k < l.length
    · rcases h with rfl | ⟨b, off, rfl, hcell⟩
      · simp at hlt
      obtain ⟨e0, e1, e2, e3⟩ := hcell.below hB (cell_lt (hcell k hlt).1) k hlt
      go_wp2_with fail
      refine (join_c _ _ _ _ _ _ _ _ _).mono ?_
      rintro e w2 ⟨rfl, hb2⟩
      have hx2 := (hx.alloc _ _).below hb2
      have hx3 := (hx0.alloc _ _).below hb2
      have HB : Below w.heap.size w w2 := bcall (hB.alloc (by omega) _) hb2 (by simp <;> omega)
      obtain ⟨f0, f1, f2, f3⟩ := hx2.open
      have g := hx2.free
      clear hb2
      go_wp2
      go_roundw
      case rel =>
        refine ⟨k + 1, by omega, by go_num, ?_, ?_, ?_⟩
        · exact (((HB.setCell (by simp) _).setCell (by simp) _).setCell (by simp) _).setCell (by simp) _
        · rw [boundL_succ l k hlt]; exact hx2.store _ _ _ _
        · exact (((hx3.far _ _ (by simp)).far _ _ (by simp)).far _ _ (by simp)).far _ _ (by simp)
      case measure => simp [intOf]; omega
    · obtain rfl : k = l.length := by omega
      rw [List.take_length] at c0 c1 c2 c3
      obtain ⟨z0, z1, z2, z3⟩ := hx0.open
      have g := hx0.free
      have hz0 := hx0.lt
      go_wp2
      refine bodyPost_ret (v := .agg #[.int .i64 (boundL l).x0, .int .i64 (boundL l).y0, .int .i64 (boundL l).x1, .int .i64 (boundL l).y1]) ?_ rfl ⟨rfl, (((hB.setCell (by simp) _).setCell (by simp) _).setCell (by simp) _).setCell (by simp) _⟩
      have hs := (hx0.store (boundL l).x0 (boundL l).y0 (boundL l).x1 (boundL l).y1).open
      obtain ⟨s0, s1, s2, s3⟩ := hs
      simp [results, Try.results32, go_sem, z0, z1, z2, z3]

set_option maxHeartbeats 1000000 in
theorem bound_r (a : Option Addr) (cap : Nat) (l : List Pl.R) (w : World) (hl : l.length ≤ 140737488351232) (h : Holds w a l) :
    Calls Try.prog 33 #[.slice a l.length cap] w fun e w' => e = .returned (.agg #[.int .i64 (boundL l).x0, .int .i64 (boundL l).y0, .int .i64 (boundL l).x1, .int .i64 (boundL l).y1]) ∧ Below w.heap.size w w' := by
  have hmx := hmx
  have hmn := hmn
  go_enter Try.func33, Try.ntmps33
  go_wp2_with fail
  go_loopw [4] (fun i wr => BoundRel w l i wr) (fun i _ => l.length - (intOf i).toNat)
  case atStart =>
    refine ⟨0, by omega, rfl, ?_, ?_, (Box.fresh w 0 0 0 0 _).alloc _ _⟩
    · exact ((Below.refl _ _).alloc (by simp) _).alloc (by simp) _
    · have := Box.fresh (w.alloc (.cells #[.int .i64 0, .int .i64 0, .int .i64 0, .int .i64 0] 26)) 0 0 0 0 26
      simpa [boundL] using this
  case round =>
    obtain ⟨k, hk, rfl, hB, hx, hx0⟩ := hrel
    obtain ⟨c0, c1, c2, c3⟩ := hx.open
    have hz := hx.lt
    by_cases hlt : k < l.length
    · rcases h with rfl | ⟨b, off, rfl, hcell⟩
      · simp at hlt
      obtain ⟨e0, e1, e2, e3⟩ := hcell.below hB (cell_lt (hcell k hlt).1) k hlt
      go_wp2_with fail
      refine (empty_r _ _ _ _ _).mono ?_
      rintro e w2 ⟨rfl, hb2⟩
      have hy2 := (Box.fresh wr l[k].x0 l[k].y0 l[k].x1 l[k].y1 26).below hb2
      have hx2 := (hx.alloc _ _).below hb2
      have hx3 := (hx0.alloc _ _).below hb2
      have HB : Below w.heap.size w w2 := bcall (hB.alloc (by omega) _) hb2 (by simp <;> omega)
      obtain ⟨f0, f1, f2, f3⟩ := hx2.open
      obtain ⟨g0, g1, g2, g3⟩ := hy2.open
      have g := hx2.free
      clear hb2 c0 c1 c2 c3 e0 e1 e2 e3
      by_cases he : Pl.emptyB l[k].x0 l[k].y0 l[k].x1 l[k].y1 = true
      · go_wp2
        go_roundw
        case rel =>
          refine ⟨k + 1, by omega, by go_num, HB, ?_, hx3⟩
          rw [boundL_succ l k hlt, Pl.joinR, if_pos he]; exact hx2
        case measure => simp [intOf]; omega
      · have he' : Pl.emptyB l[k].x0 l[k].y0 l[k].x1 l[k].y1 = false := by simpa using he
        go_wp2_with fail
        refine (empty_r _ _ _ _ _).mono ?_
        rintro e w4 ⟨rfl, hb4⟩
        have hy4 := hy2.below hb4
        have hx4 := hx2.below hb4
        have hx5 := hx3.below hb4
        have HB4 : Below w.heap.size w w4 := bcall HB hb4 (by have := hx2.lt; omega)
        have hne : w.heap.size + 1 ≠ wr.heap.size := by omega
        have hne0 : wr.heap.size ≠ w.heap.size + 1 := by omega
        have hyx := (((hy4.far ⟨w.heap.size + 1, 0, none⟩ (.int .i64 l[k].x0) (by simp; omega)).far ⟨w.heap.size + 1, 1, none⟩ (.int .i64 l[k].y0) (by simp; omega)).far ⟨w.heap.size + 1, 2, none⟩ (.int .i64 l[k].x1) (by simp; omega)).far ⟨w.heap.size + 1, 3, none⟩ (.int .i64 l[k].y1) (by simp; omega)
        obtain ⟨f0', f1', f2', f3'⟩ := hx4.open
        obtain ⟨g0', g1', g2', g3'⟩ := hy4.open
        obtain ⟨y0', y1', y2', y3'⟩ := hyx.open
        have g' := hx4.free
        clear hb4 f0 f1 f2 f3 g0 g1 g2 g3 g hy2 hx2 hx3 HB hyx
        by_cases ho : Pl.emptyB (boundL (l.take k)).x0 (boundL (l.take k)).y0 (boundL (l.take k)).x1 (boundL (l.take k)).y1 = true
        · have hj : boundL (l.take (k + 1)) = ⟨l[k].x0, l[k].y0, l[k].x1, l[k].y1⟩ := by
            rcases bound_zero_or (l.take k) with h | h
            · rw [boundL_succ l k hlt, Pl.joinR, if_neg he, h, if_pos (Pl.eq_self 0 0 0 0)]
            · rw [ho] at h; exact absurd h (by simp)
          have HJ : Hid _ := hj
          clear hj
          go_wp2
          go_roundw
          case rel =>
            refine ⟨k + 1, by omega, by go_num, below4 (below4 HB4 (by omega) _ _ _ _) (by omega) _ _ _ _, ?_, (hx5.far4 (by omega) _ _ _ _).far4 (by omega) _ _ _ _⟩
            rw [HJ.out]; exact (hx4.store _ _ _ _).store _ _ _ _
          case measure => simp [intOf]; omega
        · have ho' : Pl.emptyB (boundL (l.take k)).x0 (boundL (l.take k)).y0 (boundL (l.take k)).x1 (boundL (l.take k)).y1 = false := by simpa using ho
          have hq : ¬ Pl.eqB (boundL (l.take k)).x0 (boundL (l.take k)).y0 (boundL (l.take k)).x1 (boundL (l.take k)).y1 0 0 0 0 = true := by
            intro h
            have h1 := Pl.eq_iff.1 h
            have h2 := Pl.empty_not.1 ho'
            omega
          have HJ : Hid _ := (boundL_succ l k hlt).trans (by rw [Pl.joinR, if_neg he, if_neg hq])
          clear hq
          go_wp2
          go_roundw
          case rel =>
            refine ⟨k + 1, by omega, by go_num, below4 HB4 (by omega) _ _ _ _, ?_, hx5.far4 (by omega) _ _ _ _⟩
            rw [HJ.out]; exact hx4.store _ _ _ _
          case measure => simp [intOf]; omega
    · obtain rfl : k = l.length := by omega
      rw [List.take_length] at c0 c1 c2 c3
      obtain ⟨z0, z1, z2, z3⟩ := hx0.open
      have g := hx0.free
      have hz0 := hx0.lt
      go_wp2
      refine bodyPost_ret (v := .agg #[.int .i64 (boundL l).x0, .int .i64 (boundL l).y0, .int .i64 (boundL l).x1, .int .i64 (boundL l).y1]) ?_ rfl ⟨rfl, (((hB.setCell (by simp) _).setCell (by simp) _).setCell (by simp) _).setCell (by simp) _⟩
      have hs := (hx0.store (boundL l).x0 (boundL l).y0 (boundL l).x1 (boundL l).y1).open
      obtain ⟨s0, s1, s2, s3⟩ := hs
      simp [results, Try.results33, go_sem, z0, z1, z2, z3]

def SameRel (w : World) (l : List Pl.R) (i : Value) (wr : World) : Prop := ∃ k : Nat, k ≤ l.length ∧ i = .int .i64 k ∧ Below w.heap.size w wr
set_option maxHeartbeats 400000 in
theorem same_t (a1 a2 : Option Addr) (c1 c2 : Nat) (l : List Pl.R) (w : World) (hl : l.length ≤ 140737488351232) (h1 : Holds w a1 l) (h2 : Holds w a2 l) :
    Calls Try.prog 36 #[.slice a1 l.length c1, .slice a2 l.length c2] w fun e w' => e = .returned (.bool true) ∧ Below w.heap.size w w' := by
  have heq := eqR
  have hself := Pl.eq_self
  go_enter Try.func36, Try.ntmps36
  go_wp2_with fail
  go_loopw [5] (fun i wr => SameRel w l i wr) (fun i _ => l.length - (intOf i).toNat)
  case atStart => exact ⟨0, by omega, rfl, Below.refl _ _⟩
  case round =>
    obtain ⟨k, hk, rfl, hB⟩ := hrel
    by_cases hlt : k < l.length
    · rcases h1 with rfl | ⟨b, off, rfl, hr⟩
      · simp at hlt
      rcases h2 with rfl | ⟨b', off', rfl, hr'⟩
      · simp at hlt
      obtain ⟨e0, e1, e2, e3⟩ := hr.below hB (cell_lt (hr k hlt).1) k hlt
      obtain ⟨f0, f1, f2, f3⟩ := hr'.below hB (cell_lt (hr' k hlt).1) k hlt
      have hi : (k : Int) < (l.length : Int) := by omega
      go_wp2_with fail

      go_quiet (fail)
      go_wp2

      go_roundw
      case rel => exact ⟨k + 1, by omega, by go_num, below_drewN hB _⟩
      case measure => simp [intOf]; omega
    · go_wp2
      go_ret
      exact ⟨rfl, hB⟩
end Go.Proofs.Ytaaljfpkfgjhpaa
