/-
  Unshift: the samples limited, then moved.
-/
import Derived.Test.YtadkcgpkbcgeoaaCoP
set_option maxRecDepth 100000
namespace Go.Proofs.Ytadkcgpkbcgeoaa
open Go.RowKit

set_option maxRecDepth 100000 in
set_option maxHeartbeats 2000000 in
theorem clip_own (a b c d lo hi : Int) (s : Option Addr) (m : Nat) (l : List Int) (w : World) (hp : pvB a b c d l.length = true) (hlh : lo ≤ hi) (hH : HoldsI w s l) :
    Calls Try.prog 75 #[.agg #[.int .i64 a, .int .i64 b, .int .i64 c, .int .i64 d, .slice s l.length m], .int .i64 lo, .int .i64 hi] w (fun e w' => ∃ g, e = .returned (.tuple #[.agg #[.int .i64 a, .int .i64 b, .int .i64 c, .int .i64 d, .slice (some ⟨g, 0, none⟩) (clipL lo hi l).length (clipL lo hi l).length], .int .i64 0]) ∧ RowAt w' g (clipL lo hi l) ∧ Below w.heap.size w w' ∧ w.heap.size ≤ g) := by
  obtain ⟨hpv, hpa, hpn⟩ := pv_iff.1 hp
  have hl1 : l.length ≤ 1048576 := by omega
  have hlh' : ¬ hi < lo := by omega
  have hmk := fun (W : World) => run_make_row' (P := Try.prog) 38 3 (.int .i64 0) 8 Try.underlying38 infoI rfl .i64 .i64 l.length (by omega) (by omega) W
  have hmx := hmx
  have hmn := hmn
  clear hpa hpn
  have p0 : QBox ((w.alloc (.cells #[.int .i64 a, .int .i64 b, .int .i64 c, .int .i64 d, .slice s l.length m] 40)).alloc (.cells #[.int .i64 0, .int .i64 0, .int .i64 0, .int .i64 0, .slice none 0 0] 40)) w.heap.size ⟨a, b, c, d⟩ (.slice s l.length m) := (QBox.fresh w a b c d s l.length m 40).alloc _
  have z0 : QBox ((w.alloc (.cells #[.int .i64 a, .int .i64 b, .int .i64 c, .int .i64 d, .slice s l.length m] 40)).alloc (.cells #[.int .i64 0, .int .i64 0, .int .i64 0, .int .i64 0, .slice none 0 0] 40)) (w.heap.size + 1) ⟨0, 0, 0, 0⟩ (.slice none 0 0) := QBox.freshAt (w.alloc (.cells #[.int .i64 a, .int .i64 b, .int .i64 c, .int .i64 d, .slice s l.length m] 40)) (w.heap.size + 1) (by simp) 0 0 0 0 none 0 0 40
  have B0 : Below w.heap.size w ((w.alloc (.cells #[.int .i64 a, .int .i64 b, .int .i64 c, .int .i64 d, .slice s l.length m] 40)).alloc (.cells #[.int .i64 0, .int .i64 0, .int .i64 0, .int .i64 0, .slice none 0 0] 40)) := ((Below.refl _ _).alloc (Nat.le_refl _) _).alloc (by simp) _
  go_enter Try.func75, Try.ntmps75
  go_wp2_with fail
  refine (pv_c _ _ _ _ _ _ _ _).mono ?_
  rintro e w1 ⟨rfl, hb1⟩
  have p1 := p0.below hb1
  have z1 := z0.below hb1
  have B1 : Below w.heap.size w w1 := bcall B0 hb1 (by simp; omega)
  clear hb1 p0 z0 B0
  obtain ⟨c0, c1, c2, c3, c4⟩ := p1.open
  obtain ⟨d0, d1, d2, d3, d4⟩ := z1.open
  have g1 := z1.free
  go_upto_region 5 with fail
  clear d0 d1 d2 d3 d4 g1
  go_cut [8] (fun s8 wx => ∃ g B : Nat, s8 = .pointer (some ⟨B, 0, none⟩) ∧ Made3 w w.heap.size (w.heap.size + 1) ⟨a, b, c, d⟩ (.slice s l.length m) ⟨a, b, c, d⟩ (List.replicate l.length 0) wx g B)
  case first =>
    have pA := (p1.alloc zeroP).drew
    go_region_held3 (fun w' => w'.cell? ⟨w.heap.size, 0, none⟩ = some (.int .i64 a) ∧ w'.cell? ⟨w.heap.size, 1, none⟩ = some (.int .i64 b) ∧ w'.cell? ⟨w.heap.size, 2, none⟩ = some (.int .i64 c) ∧ w'.cell? ⟨w.heap.size, 3, none⟩ = some (.int .i64 d) ∧ w'.cell? ⟨w.heap.size, 4, none⟩ = some (.slice s l.length m))
      (first | (with_reducible assumption) | with_reducible exact p1.drew.open | with_reducible exact pA.open | with_reducible exact (p1.alloc _).drew.open | with_reducible exact ((p1.alloc _).alloc _).drew.open | fail)
      (fail)
    · go_wp2_with fail
      go_meet
      exact ⟨w1.heap.size, w1.heap.size + 1, rfl, (made3a p1 z1 B1 (by omega) (Nat.le_refl _) l.length a b c d).drew⟩
    · go_wp2_with fail
      go_meet
      exact ⟨w1.heap.size + 1, w1.heap.size, rfl, (made3b p1 z1 B1 (by omega) (Nat.le_refl _) l.length a b c d).drew⟩
  case rest =>
    obtain ⟨g, B, rfl, M⟩ := hcut
    clear p1 z1 B1 c0 c1 c2 c3 c4 hmk
    obtain ⟨c0, c1, c2, c3, c4⟩ := M.p.open
    go_wp2_with fail
    clear c0 c1 c2 c3 c4
    go_loopw [29] (fun i wr => ∃ k : Nat, k ≤ l.length ∧ i = .int .i64 k ∧ Made3 w w.heap.size (w.heap.size + 1) ⟨a, b, c, d⟩ (.slice s l.length m) ⟨a, b, c, d⟩ (fillL (clipL lo hi l) k) wr g B) (fun i _ => l.length - (intOf i).toNat)
    case atStart => exact ⟨0, by omega, rfl, by rw [fillL_zero, clipL_len]; exact M⟩
    case round =>
      obtain ⟨k, hk, rfl, M2⟩ := hrel
      clear M
      have hlenk : (fillL (clipL lo hi l) k).length = l.length := by rw [fillL_len _ _ (by rw [clipL_len]; exact hk), clipL_len]
      have r2 := M2.part
      rw [hlenk] at r2
      obtain ⟨d0, d1, d2, d3, d4⟩ := r2.open
      by_cases hlt : k < l.length
      · rcases hH with rfl | ⟨bb, off, rfl, hr⟩
        · simp at hlt
        have hblt : bb < w.heap.size := cell_lt (hr k hlt)
        have hy0 : wr.cell? ⟨bb, off + k, none⟩ = some (.int .i64 l[k]) := (M2.below.cell (p := ⟨bb, _, none⟩) hblt).trans (hr k hlt)
        have hi1 : (k : Int) < (l.length : Int) := by omega
        have z0 := M2.row.at (k := k) (by rw [hlenk]; exact hlt)
        have z1 := M2.row.free k
        have M3 := M2.set k (min (max l[k] lo) hi)
        rw [← clip_at (lo := lo) (hi := hi) hlt, fillL_next _ k (by rw [clipL_len]; exact hlt)] at M3
        have HM : Hid _ := M3
        have HC : Hid _ := clip_at (lo := lo) (hi := hi) hlt
        clear M3 M2 r2
        go_wp2
        go_roundw
        case rel => exact ⟨k + 1, by omega, by go_num, by have := HM.out; rw [HC.out] at this; exact this⟩
        case measure => simp [intOf]; omega
      · obtain rfl : k = l.length := by omega
        have M4 := M2
        rw [← clipL_len lo hi l, fillL_all, clipL_len] at M4
        have z5 := M4.z
        obtain ⟨e0, e1, e2, e3, e4⟩ := z5.open
        have g5 := z5.free
        have hg5 := M4.hg
        have HM : Hid _ := M4
        clear M2 M4 r2
        go_wp2
        refine bodyPost_ret (v := .tuple #[.agg #[.int .i64 a, .int .i64 b, .int .i64 c, .int .i64 d, .slice (some ⟨g, 0, none⟩) l.length l.length], .int .i64 0]) ?_ rfl ?_
        · obtain ⟨q0, q1, q2, q3, q4⟩ := (z5.store a b c d (.slice (some ⟨g, 0, none⟩) l.length l.length)).open
          simp [results, Try.results75, go_sem, q0, q1, q2, q3, q4]
        · exact ⟨g, by rw [clipL_len], ((RowP.of HM.out.row).far5 (by omega) _ _ _ _ _).out, below5 HM.out.below (by omega) _ _ _ _ _, by have := HM.out.hg; omega⟩
structure UW (w : World) (r : Pl.R) (vp : Value) (n : Int) (sg : Bool) (x y : Int) (W : World) (o : Option Nat) : Prop where
  p : QBox W w.heap.size r vp
  k : CBox W (w.heap.size + 1) n sg x y
  z : QBox W (w.heap.size + 2) ⟨0, 0, 0, 0⟩ (.slice none 0 0)
  below : Below w.heap.size w W
  q : ∀ B, o = some B → QBox W B ⟨0, 0, 0, 0⟩ (.slice none 0 0) ∧ w.heap.size + 2 < B
section
variable {w : World} {r : Pl.R} {vp : Value} {n : Int} {sg : Bool} {x y : Int} {W W1 : World} {o : Option Nat}
theorem UW.step (h : UW w r vp n sg x y W o) (hb : Below W.heap.size W W1) : UW w r vp n sg x y W1 o :=
  ⟨h.p.below hb, h.k.below hb, h.z.below hb, below_call h.below hb, fun B e => ⟨(h.q B e).1.below hb, (h.q B e).2⟩⟩
theorem UW.drew (h : UW w r vp n sg x y W o) : UW w r vp n sg x y W.drew o := h.step (Below.refl _ _).drew
theorem UW.alloc (h : UW w r vp n sg x y W none) : UW w r vp n sg x y (W.alloc zeroP) (some W.heap.size) :=
  ⟨h.p.alloc _, h.k.alloc _, h.z.alloc _, below_alloc h.below _, fun B e => by
    have : B = W.heap.size := by simpa using e.symm
    subst this
    exact ⟨QBox.fresh W 0 0 0 0 none 0 0 40, h.z.lt⟩⟩
theorem UW.far5 (h : UW w r vp n sg x y W o) {B : Nat} (hB : w.heap.size + 2 < B) (v0 v1 v2 v3 v4 : Value) : UW w r vp n sg x y (((((W.setCell ⟨B, 0, none⟩ v0).setCell ⟨B, 1, none⟩ v1).setCell ⟨B, 2, none⟩ v2).setCell ⟨B, 3, none⟩ v3).setCell ⟨B, 4, none⟩ v4) none :=
  ⟨h.p.far5 (by omega) _ _ _ _ _, h.k.far5 (by omega) _ _ _ _ _, h.z.far5 (by omega) _ _ _ _ _, below5 h.below (by omega) _ _ _ _ _, fun B e => by simp at e⟩
theorem UW.allocP (h : UW w r vp n sg x y W none) (X : Obj) : UW w r vp n sg x y (W.alloc X) none := h.step ((Below.refl _ _).alloc (Nat.le_refl _) _)
structure UnW (w : World) (q : Pl.R) (n : Int) (sg : Bool) (x y : Int) (L : List Int) (W : World) (B g : Nat) : Prop where
  k : CBox W (w.heap.size + 1) n sg x y
  z : QBox W (w.heap.size + 2) ⟨0, 0, 0, 0⟩ (.slice none 0 0)
  q : QBox W B q (.slice (some ⟨g, 0, none⟩) L.length L.length)
  row : RowAt W g L
  below : Below w.heap.size w W
  hB : w.heap.size + 2 < B
  hg : w.heap.size + 2 < g
theorem un1 {L : List Int} {g : Nat} (h : UW w r vp n sg x y W none) (hr : RowAt W g L) (hg : w.heap.size + 2 < g) (a b c d : Int) :
    UnW w ⟨a, b, c, d⟩ n sg x y L (W.alloc (.cells #[.int .i64 a, .int .i64 b, .int .i64 c, .int .i64 d, .slice (some ⟨g, 0, none⟩) L.length L.length] 40)) W.heap.size g :=
  ⟨h.k.alloc _, h.z.alloc _, QBox.fresh W a b c d _ _ _ _, hr.alloc _, below_alloc h.below _, h.z.lt, hg⟩
theorem un2 {L : List Int} {B g : Nat} (h : UW w r vp n sg x y W (some B)) (hr : RowAt W g L) (hg : w.heap.size + 2 < g) (hne : g ≠ B) (a b c d : Int) :
    UnW w ⟨a, b, c, d⟩ n sg x y L (((((W.setCell ⟨B, 0, none⟩ (.int .i64 a)).setCell ⟨B, 1, none⟩ (.int .i64 b)).setCell ⟨B, 2, none⟩ (.int .i64 c)).setCell ⟨B, 3, none⟩ (.int .i64 d)).setCell ⟨B, 4, none⟩ (.slice (some ⟨g, 0, none⟩) L.length L.length)) B g := by
  obtain ⟨hq, hB⟩ := h.q B rfl
  exact ⟨h.k.far5 (by omega) _ _ _ _ _, h.z.far5 (by omega) _ _ _ _ _, hq.store a b c d _, ((((hr.far _ _ hne).far _ _ hne).far _ _ hne).far _ _ hne).far _ _ hne, below5 h.below (by omega) _ _ _ _ _, hB, hg⟩
theorem UW.open {A0 A1 A2 A3 : Int} (h : UW w ⟨A0, A1, A2, A3⟩ vp n sg x y W o) : W.cell? ⟨w.heap.size, 0, none⟩ = some (.int .i64 A0) ∧ W.cell? ⟨w.heap.size, 1, none⟩ = some (.int .i64 A1) ∧ W.cell? ⟨w.heap.size, 2, none⟩ = some (.int .i64 A2) ∧ W.cell? ⟨w.heap.size, 3, none⟩ = some (.int .i64 A3) ∧ W.cell? ⟨w.heap.size, 4, none⟩ = some vp ∧ W.cell? ⟨w.heap.size + 1, 0, none⟩ = some (.int .i64 n) ∧ W.cell? ⟨w.heap.size + 1, 1, none⟩ = some (.bool sg) ∧ W.cell? ⟨w.heap.size + 1, 2, none⟩ = some (.int .i64 x) ∧ W.cell? ⟨w.heap.size + 1, 3, none⟩ = some (.int .i64 y) := by
  obtain ⟨p0, p1, p2, p3, p4⟩ := h.p.open
  exact ⟨p0, p1, p2, p3, p4, h.k.c0, h.k.c1, h.k.c2, h.k.c3⟩
end
set_option maxRecDepth 100000 in
set_option maxHeartbeats 4000000 in
theorem us_no1 (a b c d n x y : Int) (sg : Bool) (s : Option Addr) (m : Nat) (l : List Int) (w : World) (hH : HoldsI w s l) (hp : pvB a b c d l.length = false) : Calls Try.prog 38 #[.agg #[.int .i64 a, .int .i64 b, .int .i64 c, .int .i64 d, .slice s l.length m], .agg #[.int .i64 n, .bool sg, .int .i64 x, .int .i64 y]] w (GivesPlane ⟨0, 0, 0, 0⟩ [] 1 w) := by
  have p := ((QBox.fresh w a b c d s l.length m 40).alloc (.cells #[.int .i64 n, .bool sg, .int .i64 x, .int .i64 y] 42)).alloc (.cells #[.int .i64 0, .int .i64 0, .int .i64 0, .int .i64 0, .slice none 0 0] 40)
  have k := (CBox.freshAt (w.alloc (.cells #[.int .i64 a, .int .i64 b, .int .i64 c, .int .i64 d, .slice s l.length m] 40)) (w.heap.size + 1) (by simp) n sg x y 42).alloc (.cells #[.int .i64 0, .int .i64 0, .int .i64 0, .int .i64 0, .slice none 0 0] 40)
  have z := QBox.freshAt ((w.alloc (.cells #[.int .i64 a, .int .i64 b, .int .i64 c, .int .i64 d, .slice s l.length m] 40)).alloc (.cells #[.int .i64 n, .bool sg, .int .i64 x, .int .i64 y] 42)) (w.heap.size + 2) (by simp) 0 0 0 0 none 0 0 40
  have B := below_alloc (below_alloc (below_alloc (Below.refl _ w) (.cells #[.int .i64 a, .int .i64 b, .int .i64 c, .int .i64 d, .slice s l.length m] 40)) (.cells #[.int .i64 n, .bool sg, .int .i64 x, .int .i64 y] 42)) (.cells #[.int .i64 0, .int .i64 0, .int .i64 0, .int .i64 0, .slice none 0 0] 40)
  have lp := ((hH.alloc (.cells #[.int .i64 a, .int .i64 b, .int .i64 c, .int .i64 d, .slice s l.length m] 40)).alloc (.cells #[.int .i64 n, .bool sg, .int .i64 x, .int .i64 y] 42)).alloc (.cells #[.int .i64 0, .int .i64 0, .int .i64 0, .int .i64 0, .slice none 0 0] 40)
  go_enter Try.func38, Try.ntmps38
  obtain ⟨p0, p1, p2, p3, p4⟩ := p.open
  go_wp2_with fail
  clear p0 p1 p2 p3 p4
  refine (pv_c _ _ _ _ _ _ _ _).mono ?_
  rintro e w1 ⟨rfl, hb⟩
  replace p := p.below hb
  replace k := k.below hb
  replace z := z.below hb
  replace B := below_call B hb
  replace lp := lp.call hb
  clear hb
  obtain ⟨z0, z1, z2, z3, z4⟩ := z.open
  have gz := z.free
  go_wp2_with (first | (go_at_call 67; refine (dep_q _ _).mono ?_; rintro e wn ⟨rfl, hw⟩; replace hw := hw.symm; subst hw))
  refine bodyPost_ret (v := .tuple #[.agg #[.int .i64 0, .int .i64 0, .int .i64 0, .int .i64 0, .slice none 0 0], .int .i64 1]) ?_ rfl ?_
  · simp [results, Try.results38, go_sem, z0, z1, z2, z3, z4]
  · exact ⟨none, 0, rfl, .inl rfl, below5 B (by omega) _ _ _ _ _, Nat.le_refl _⟩
set_option maxRecDepth 100000 in
set_option maxHeartbeats 4000000 in
theorem us_no2 (a b c d n x y : Int) (sg : Bool) (s : Option Addr) (m : Nat) (l : List Int) (w : World) (hH : HoldsI w s l) (hp : pvB a b c d l.length = true) (hd : Co.dB n = false) : Calls Try.prog 38 #[.agg #[.int .i64 a, .int .i64 b, .int .i64 c, .int .i64 d, .slice s l.length m], .agg #[.int .i64 n, .bool sg, .int .i64 x, .int .i64 y]] w (GivesPlane ⟨0, 0, 0, 0⟩ [] 12 w) := by
  have p := ((QBox.fresh w a b c d s l.length m 40).alloc (.cells #[.int .i64 n, .bool sg, .int .i64 x, .int .i64 y] 42)).alloc (.cells #[.int .i64 0, .int .i64 0, .int .i64 0, .int .i64 0, .slice none 0 0] 40)
  have k := (CBox.freshAt (w.alloc (.cells #[.int .i64 a, .int .i64 b, .int .i64 c, .int .i64 d, .slice s l.length m] 40)) (w.heap.size + 1) (by simp) n sg x y 42).alloc (.cells #[.int .i64 0, .int .i64 0, .int .i64 0, .int .i64 0, .slice none 0 0] 40)
  have z := QBox.freshAt ((w.alloc (.cells #[.int .i64 a, .int .i64 b, .int .i64 c, .int .i64 d, .slice s l.length m] 40)).alloc (.cells #[.int .i64 n, .bool sg, .int .i64 x, .int .i64 y] 42)) (w.heap.size + 2) (by simp) 0 0 0 0 none 0 0 40
  have B := below_alloc (below_alloc (below_alloc (Below.refl _ w) (.cells #[.int .i64 a, .int .i64 b, .int .i64 c, .int .i64 d, .slice s l.length m] 40)) (.cells #[.int .i64 n, .bool sg, .int .i64 x, .int .i64 y] 42)) (.cells #[.int .i64 0, .int .i64 0, .int .i64 0, .int .i64 0, .slice none 0 0] 40)
  have lp := ((hH.alloc (.cells #[.int .i64 a, .int .i64 b, .int .i64 c, .int .i64 d, .slice s l.length m] 40)).alloc (.cells #[.int .i64 n, .bool sg, .int .i64 x, .int .i64 y] 42)).alloc (.cells #[.int .i64 0, .int .i64 0, .int .i64 0, .int .i64 0, .slice none 0 0] 40)
  go_enter Try.func38, Try.ntmps38
  obtain ⟨p0, p1, p2, p3, p4⟩ := p.open
  go_wp2_with fail
  clear p0 p1 p2 p3 p4
  refine (pv_c _ _ _ _ _ _ _ _).mono ?_
  rintro e w1 ⟨rfl, hb⟩
  replace p := p.below hb
  replace k := k.below hb
  replace z := z.below hb
  replace B := below_call B hb
  replace lp := lp.call hb
  clear hb
  obtain ⟨k0, k1, k2, k3⟩ := k.open
  obtain ⟨z0, z1, z2, z3, z4⟩ := z.open
  have gz := z.free
  go_wp2_with (first | (go_at_call 67; refine (dep_q _ _).mono ?_; rintro e wn ⟨rfl, hw⟩; replace hw := hw.symm; subst hw))
  refine bodyPost_ret (v := .tuple #[.agg #[.int .i64 0, .int .i64 0, .int .i64 0, .int .i64 0, .slice none 0 0], .int .i64 12]) ?_ rfl ?_
  · simp [results, Try.results38, go_sem, z0, z1, z2, z3, z4]
  · exact ⟨none, 0, rfl, .inl rfl, below5 B (by omega) _ _ _ _ _, Nat.le_refl _⟩
set_option maxRecDepth 100000 in
set_option maxHeartbeats 4000000 in
theorem us_yes (a b c d n x y : Int) (sg : Bool) (s : Option Addr) (m : Nat) (l : List Int) (w : World) (hH : HoldsI w s l) (hp : pvB a b c d l.length = true) (hd : Co.dB n = true) : Calls Try.prog 38 #[.agg #[.int .i64 a, .int .i64 b, .int .i64 c, .int .i64 d, .slice s l.length m], .agg #[.int .i64 n, .bool sg, .int .i64 x, .int .i64 y]] w (GivesPlane ⟨a, b, c, d⟩ (addL (Co.offC sg n) (clipL (Co.rgL sg n - Co.offC sg n) (Co.rgH sg n - Co.offC sg n) l)) 0 w) := by
  have rz := rg_zero (sg := sg) hd
  have hl1 := pv_le hp
  have p := ((QBox.fresh w a b c d s l.length m 40).alloc (.cells #[.int .i64 n, .bool sg, .int .i64 x, .int .i64 y] 42)).alloc (.cells #[.int .i64 0, .int .i64 0, .int .i64 0, .int .i64 0, .slice none 0 0] 40)
  have k := (CBox.freshAt (w.alloc (.cells #[.int .i64 a, .int .i64 b, .int .i64 c, .int .i64 d, .slice s l.length m] 40)) (w.heap.size + 1) (by simp) n sg x y 42).alloc (.cells #[.int .i64 0, .int .i64 0, .int .i64 0, .int .i64 0, .slice none 0 0] 40)
  have z := QBox.freshAt ((w.alloc (.cells #[.int .i64 a, .int .i64 b, .int .i64 c, .int .i64 d, .slice s l.length m] 40)).alloc (.cells #[.int .i64 n, .bool sg, .int .i64 x, .int .i64 y] 42)) (w.heap.size + 2) (by simp) 0 0 0 0 none 0 0 40
  have B := below_alloc (below_alloc (below_alloc (Below.refl _ w) (.cells #[.int .i64 a, .int .i64 b, .int .i64 c, .int .i64 d, .slice s l.length m] 40)) (.cells #[.int .i64 n, .bool sg, .int .i64 x, .int .i64 y] 42)) (.cells #[.int .i64 0, .int .i64 0, .int .i64 0, .int .i64 0, .slice none 0 0] 40)
  have lp := ((hH.alloc (.cells #[.int .i64 a, .int .i64 b, .int .i64 c, .int .i64 d, .slice s l.length m] 40)).alloc (.cells #[.int .i64 n, .bool sg, .int .i64 x, .int .i64 y] 42)).alloc (.cells #[.int .i64 0, .int .i64 0, .int .i64 0, .int .i64 0, .slice none 0 0] 40)
  go_enter Try.func38, Try.ntmps38
  obtain ⟨p0, p1, p2, p3, p4⟩ := p.open
  go_wp2_with fail
  clear p0 p1 p2 p3 p4
  refine (pv_c _ _ _ _ _ _ _ _).mono ?_
  rintro e w1 ⟨rfl, hb⟩
  replace p := p.below hb
  replace k := k.below hb
  replace z := z.below hb
  replace B := below_call B hb
  replace lp := lp.call hb
  clear hb
  obtain ⟨k0, k1, k2, k3⟩ := k.open
  go_wp2_with (first | (go_at_call 67; refine (dep_q _ _).mono ?_; rintro e wn ⟨rfl, hw⟩; replace hw := hw.symm; subst hw))
  clear k0 k1 k2 k3
  refine (rng_q n sg x y _).mono ?_
  rintro e w2 ⟨rfl, hb⟩
  replace p := p.below hb
  replace k := k.below hb
  replace z := z.below hb
  replace B := below_call B hb
  replace lp := lp.call hb
  clear hb
  go_upto_region 6 with fail
  have U0 : UW w ⟨a, b, c, d⟩ (.slice s l.length m) n sg x y w2 none := ⟨p, k, z, B, fun B e => by simp at e⟩
  have cO : ∀ (W : World) (o : Option Nat), UW w ⟨a, b, c, d⟩ (.slice s l.length m) n sg x y W o → Calls Try.prog 68 #[.agg #[.int .i64 n, .bool sg, .int .i64 x, .int .i64 y]] W (fun e W' => e = .returned (.int .i64 (Co.offC sg n)) ∧ UW w ⟨a, b, c, d⟩ (.slice s l.length m) n sg x y W' o) := fun W o h => (off_q n sg x y W hd).mono (by rintro e W' ⟨h1, hb⟩; exact ⟨h1, h.step hb⟩)
  have cC : ∀ (W : World) (o : Option Nat), UW w ⟨a, b, c, d⟩ (.slice s l.length m) n sg x y W o → Calls Try.prog 75 #[.agg #[.int .i64 a, .int .i64 b, .int .i64 c, .int .i64 d, .slice s l.length m], .int .i64 (Co.rgL sg n - Co.offC sg n), .int .i64 (Co.rgH sg n - Co.offC sg n)] W (fun e W' => ∃ g, e = .returned (.tuple #[.agg #[.int .i64 a, .int .i64 b, .int .i64 c, .int .i64 d, .slice (some ⟨g, 0, none⟩) (clipL (Co.rgL sg n - Co.offC sg n) (Co.rgH sg n - Co.offC sg n) l).length (clipL (Co.rgL sg n - Co.offC sg n) (Co.rgH sg n - Co.offC sg n) l).length], .int .i64 0]) ∧ RowAt W' g (clipL (Co.rgL sg n - Co.offC sg n) (Co.rgH sg n - Co.offC sg n) l) ∧ w.heap.size + 2 < g ∧ (∀ B, o = some B → g ≠ B) ∧ UW w ⟨a, b, c, d⟩ (.slice s l.length m) n sg x y W' o) := fun W o h =>
    (clip_own a b c d _ _ s m l W hp (by omega) (hH.below h.below (Nat.le_refl _))).mono (by
      rintro e W' ⟨g, h1, h2, hb, hg⟩
      have := h.z.lt
      exact ⟨g, h1, h2, by omega, fun B e => by have := (h.q B e).1.lt; omega, h.step hb⟩)
  have wl : IntKind.i64.wrap (Co.rgL sg n - Co.offC sg n) = Co.rgL sg n - Co.offC sg n := i64_in' _ (by omega) (by omega)
  have wh : IntKind.i64.wrap (Co.rgH sg n - Co.offC sg n) = Co.rgH sg n - Co.offC sg n := i64_in' _ (by omega) (by omega)
  have HA : Hid (∀ v ∈ clipL (Co.rgL sg n - Co.offC sg n) (Co.rgH sg n - Co.offC sg n) l, IntKind.i64.wrap (v + Co.offC sg n) = v + Co.offC sg n) := fun v hv => by
    have := clip_within (lo := Co.rgL sg n - Co.offC sg n) (hi := Co.rgH sg n - Co.offC sg n) (l := l) (by omega) v hv
    exact i64_in' _ (by omega) (by omega)
  have HLn : Hid ((clipL (Co.rgL sg n - Co.offC sg n) (Co.rgH sg n - Co.offC sg n) l).length ≤ 1048576) := by show _ ≤ _; rw [clipL_len]; exact hl1
  generalize clipL (Co.rgL sg n - Co.offC sg n) (Co.rgH sg n - Co.offC sg n) l = L at *
  generalize hLo : Co.rgL sg n - Co.offC sg n = lo at *
  generalize hHi : Co.rgH sg n - Co.offC sg n = hi at *
  clear p k z B lp
  go_cut [8, 9] (fun s8 s9 wx => ∃ B g : Nat, s8 = .pointer (some ⟨B, 0, none⟩) ∧ UnW w ⟨a, b, c, d⟩ n sg x y L wx B g)
  case first =>
    go_region_held3 (fun w' => w'.cell? ⟨w.heap.size, 0, none⟩ = some (.int .i64 a) ∧ w'.cell? ⟨w.heap.size, 1, none⟩ = some (.int .i64 b) ∧ w'.cell? ⟨w.heap.size, 2, none⟩ = some (.int .i64 c) ∧ w'.cell? ⟨w.heap.size, 3, none⟩ = some (.int .i64 d) ∧ w'.cell? ⟨w.heap.size, 4, none⟩ = some (.slice s l.length m) ∧ w'.cell? ⟨w.heap.size + 1, 0, none⟩ = some (.int .i64 n) ∧ w'.cell? ⟨w.heap.size + 1, 1, none⟩ = some (.bool sg) ∧ w'.cell? ⟨w.heap.size + 1, 2, none⟩ = some (.int .i64 x) ∧ w'.cell? ⟨w.heap.size + 1, 3, none⟩ = some (.int .i64 y))
      ((first | with_reducible exact U0.open | with_reducible exact U0.drew.open | with_reducible exact U0.alloc.open | with_reducible exact U0.alloc.drew.open | with_reducible exact (U3.far5 hB3 _ _ _ _ _).open | with_reducible exact (U3.allocP _).open | with_reducible exact U3.open | with_reducible exact U3.alloc.open | with_reducible exact U2.open | with_reducible exact U2.alloc.open | with_reducible exact U1.open | with_reducible exact U1.alloc.open | fail))
      (first | (go_at_call 68; first | ((first | (with_reducible refine (cO _ _ U0.drew).mono ?_) | (with_reducible refine (cO _ _ U0.alloc.drew).mono ?_) | (with_reducible refine (cO _ _ U0).mono ?_) | (with_reducible refine (cO _ _ U0.alloc).mono ?_)); rintro e x1 ⟨rfl, U1⟩) | ((first | (with_reducible refine (cO _ _ U1).mono ?_) | (with_reducible refine (cO _ _ U1.alloc).mono ?_)); rintro e x2 ⟨rfl, U2⟩)) | (go_at_call 75; (first | (with_reducible refine (cC _ _ U2).mono ?_) | (with_reducible refine (cC _ _ U2.alloc).mono ?_)); rintro e x3 ⟨g, rfl, row3, hg3, hne3, U3⟩; (first | (with_reducible have hq3 := U3.q _ rfl; obtain ⟨e0, e1, e2, e3, e4⟩ := hq3.1.open; have f3 := hq3.1.free; have hB3 := hq3.2; have lB := hq3.1.lt) | skip)) | fail)
    all_goals
      go_wp2_with fail
      go_meet
      refine ⟨_, g, rfl, ?_⟩
      first
      | with_reducible exact un1 U3 row3 hg3 a b c d
      | with_reducible exact un2 U3 row3 hg3 (hne3 _ rfl) a b c d
  case rest =>
    obtain ⟨B, g, rfl, M⟩ := hcut
    have p := M.q
    have k := M.k
    have z := M.z
    have hzl := z.lt
    have lp := M.row.holds
    have hBz := M.hB
    have bel := M.below
    have HL1 := HLn.out
    have HIn := HA.out
    have hs2 : some (⟨g, 0, none⟩ : Addr) = none → L.length = 0 ∧ L.length = 0 := fun q => by simp at q
    clear cC cO U0 M
    go_wp2_with fail
    have e_p := fun (W : World) (h : Below wc.heap.size wc W) => (p.below h).open
    have e_k := fun (W : World) (h : Below wc.heap.size wc W) => (k.below h).open
    have eH := fun (W : World) (h : Below wc.heap.size wc W) => And.intro (e_p W h) (e_k W h)
    simp only [and_assoc] at eH
    clear e_p e_k
    go_region_held3 (fun w' => w'.cell? ⟨B, 0, none⟩ = some (.int .i64 a) ∧ w'.cell? ⟨B, 1, none⟩ = some (.int .i64 b) ∧ w'.cell? ⟨B, 2, none⟩ = some (.int .i64 c) ∧ w'.cell? ⟨B, 3, none⟩ = some (.int .i64 d) ∧ w'.cell? ⟨B, 4, none⟩ = some (.slice (some ⟨g, 0, none⟩) L.length L.length) ∧ w'.cell? ⟨w.heap.size + 1, 0, none⟩ = some (.int .i64 n) ∧ w'.cell? ⟨w.heap.size + 1, 1, none⟩ = some (.bool sg) ∧ w'.cell? ⟨w.heap.size + 1, 2, none⟩ = some (.int .i64 x) ∧ w'.cell? ⟨w.heap.size + 1, 3, none⟩ = some (.int .i64 y))
      (first | (with_reducible assumption) | with_reducible exact e9 _ _ _ _ _ | with_reducible exact eH _ (by repeat (first | exact Below.refl _ _ | assumption | refine Below.drew ?_ | refine below_alloc ?_ _)) | fail)
      (first | (go_at_call 68; (with_reducible refine (off_q n sg x y _ hd).mono ?_); rintro e x1 ⟨rfl, hb⟩; have b_x1 : Below wc.heap.size wc x1 := below_call (by repeat (first | exact Below.refl _ _ | assumption | refine Below.drew ?_ | refine below_alloc ?_ _)) hb; have s_x1 := below_pre (V := wc) (by repeat (first | exact Below.refl _ _ | assumption | refine Below.drew ?_ | refine below_alloc ?_ _)) hb; clear hb) | (go_at_call 72; (with_reducible refine (mv_q a b c d (Co.offC sg n) _ _ L _ HL1 (lp.call (by repeat (first | exact Below.refl _ _ | assumption | refine Below.drew ?_ | refine below_alloc ?_ _))) hs2 HIn).mono ?_); rintro e x2 ⟨s', m', rfl, l', hb, hm', hf⟩; have b_x2 : Below wc.heap.size wc x2 := below_call (by repeat (first | exact Below.refl _ _ | assumption | refine Below.drew ?_ | refine below_alloc ?_ _)) hb; have s_x2 := below_pre (V := wc) (by repeat (first | exact Below.refl _ _ | assumption | refine Below.drew ?_ | refine below_alloc ?_ _)) hb; clear hb; have z9 := z.below b_x2; obtain ⟨e0, e1, e2, e3, e4⟩ := z9.open; have g9 := z9.free; have l9 := z9.lt; have e9 := fun (v0 v1 v2 v3 v4 : Value) => And.intro (((p.below b_x2).far5 (b := w.heap.size + 1 + 1) (by omega) v0 v1 v2 v3 v4).open) (((k.below b_x2).far5 (b := w.heap.size + 1 + 1) (by omega) v0 v1 v2 v3 v4).open); simp only [and_assoc] at e9))
    all_goals
      go_wp2_with fail
      refine bodyPost_ret (v := .tuple #[.agg #[.int .i64 a, .int .i64 b, .int .i64 c, .int .i64 d, .slice s' (addL (Co.offC sg n) L).length m'], .int .i64 0]) ?_ rfl ?_
      · obtain ⟨q0, q1, q2, q3, q4⟩ := (z9.store a b c d (.slice s' (addL (Co.offC sg n) L).length m')).open
        simp [results, Try.results38, go_sem, q0, q1, q2, q3, q4]
      · refine ⟨s', m', rfl, holds_far5 l' ?_ _ _ _ _ _, below5 (below_call bel b_x2) (by omega) _ _ _ _ _, hm'⟩
        rcases hf with h | ⟨g2, e, hg2⟩
        · exact .inl h
        · exact .inr ⟨g2, e, by omega⟩
end Go.Proofs.Ytadkcgpkbcgeoaa
