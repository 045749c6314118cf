/-
  What Apply of layer 8 returns, the program's and the reference's: a plane of indices, or the error.
-/
import Derived.Test.YtadkcgpkbcgeoaaPlnN
import Derived.Test.YtadkcgpkbcgeoaaQnS
import Derived.Deep.RegionLaw
set_option maxRecDepth 100000
namespace Go.Proofs.Ytadkcgpkbcgeoaa
open Go.RowKit

def InI (v : Int) : Prop := -9223372036854775808 ≤ v ∧ v ≤ 9223372036854775807
def qL (st de : Int) (l : List Int) : List Int := l.map fun x => Qu.qI x st de
theorem qL_len (st de : Int) (l : List Int) : (qL st de l).length = l.length := by simp [qL]
theorem q_at {st de : Int} {l : List Int} {k : Nat} (hk : k < l.length) : (qL st de l)[k]'(by rw [qL_len]; exact hk) = Qu.qI l[k] st de := by simp [qL]
theorem q_take {st de : Int} {l : List Int} {k : Nat} (hk : k < l.length) : (qL st de l).take k ++ [Qu.qI l[k] st de] = (qL st de l).take (k + 1) := by
  rw [List.take_succ_eq_append_getElem (by rw [qL_len]; exact hk), q_at hk]
set_option maxRecDepth 100000 in
set_option maxHeartbeats 2000000 in
theorem qa_no1 (a b c d st de : Int) (s : Option Addr) (m : Nat) (l : List Int) (w : World) (hp : pvB a b c d l.length = false) :
    Calls Try.prog 58 #[.agg #[.int .i64 a, .int .i64 b, .int .i64 c, .int .i64 d, .slice s l.length m], .int .i64 st, .int .i64 de] w (GivesPlane ⟨0, 0, 0, 0⟩ [] 1 w) := by
  have p0 : QBox ((w.alloc (.cells #[.int .i64 a, .int .i64 b, .int .i64 c, .int .i64 d, .slice s l.length m] 40)).alloc (.cells #[.int .i64 0, .int .i64 0, .int .i64 0, .int .i64 0, .slice none 0 0] 40)) w.heap.size ⟨a, b, c, d⟩ (.slice s l.length m) := (QBox.fresh w a b c d s l.length m 40).alloc _
  have z0 : QBox ((w.alloc (.cells #[.int .i64 a, .int .i64 b, .int .i64 c, .int .i64 d, .slice s l.length m] 40)).alloc (.cells #[.int .i64 0, .int .i64 0, .int .i64 0, .int .i64 0, .slice none 0 0] 40)) (w.heap.size + 1) ⟨0, 0, 0, 0⟩ (.slice none 0 0) := QBox.freshAt (w.alloc (.cells #[.int .i64 a, .int .i64 b, .int .i64 c, .int .i64 d, .slice s l.length m] 40)) (w.heap.size + 1) (by simp) 0 0 0 0 none 0 0 40
  have B0 : Below w.heap.size w ((w.alloc (.cells #[.int .i64 a, .int .i64 b, .int .i64 c, .int .i64 d, .slice s l.length m] 40)).alloc (.cells #[.int .i64 0, .int .i64 0, .int .i64 0, .int .i64 0, .slice none 0 0] 40)) := ((Below.refl _ _).alloc (Nat.le_refl _) _).alloc (by simp) _
  go_enter Try.func58, Try.ntmps58
  go_wp2_with fail
  refine (pv_c _ _ _ _ _ _ _ _).mono ?_
  rintro e w1 ⟨rfl, hb1⟩
  have p1 := p0.below hb1
  have z1 := z0.below hb1
  have B1 : Below w.heap.size w w1 := bcall B0 hb1 (by simp; omega)
  clear hb1 p0 z0 B0
  obtain ⟨c0, c1, c2, c3, c4⟩ := p1.open
  obtain ⟨d0, d1, d2, d3, d4⟩ := z1.open
  have g1 := z1.free
  go_wp2
  refine bodyPost_ret (v := .tuple #[.agg #[.int .i64 0, .int .i64 0, .int .i64 0, .int .i64 0, .slice none 0 0], .int .i64 1]) ?_ rfl ?_
  · simp [results, Try.results58, go_sem, d0, d1, d2, d3, d4]
  · exact ⟨none, 0, rfl, .inl rfl, below5 B1 (by omega) _ _ _ _ _, Nat.le_refl _⟩
set_option maxRecDepth 100000 in
set_option maxHeartbeats 2000000 in
theorem qa_no2 (a b c d st de : Int) (s : Option Addr) (m : Nat) (l : List Int) (w : World) (hp : pvB a b c d l.length = true) (hlh : Qu.vB st de = false) :
    Calls Try.prog 58 #[.agg #[.int .i64 a, .int .i64 b, .int .i64 c, .int .i64 d, .slice s l.length m], .int .i64 st, .int .i64 de] w (GivesPlane ⟨0, 0, 0, 0⟩ [] 2 w) := by
  have p0 : QBox ((w.alloc (.cells #[.int .i64 a, .int .i64 b, .int .i64 c, .int .i64 d, .slice s l.length m] 40)).alloc (.cells #[.int .i64 0, .int .i64 0, .int .i64 0, .int .i64 0, .slice none 0 0] 40)) w.heap.size ⟨a, b, c, d⟩ (.slice s l.length m) := (QBox.fresh w a b c d s l.length m 40).alloc _
  have z0 : QBox ((w.alloc (.cells #[.int .i64 a, .int .i64 b, .int .i64 c, .int .i64 d, .slice s l.length m] 40)).alloc (.cells #[.int .i64 0, .int .i64 0, .int .i64 0, .int .i64 0, .slice none 0 0] 40)) (w.heap.size + 1) ⟨0, 0, 0, 0⟩ (.slice none 0 0) := QBox.freshAt (w.alloc (.cells #[.int .i64 a, .int .i64 b, .int .i64 c, .int .i64 d, .slice s l.length m] 40)) (w.heap.size + 1) (by simp) 0 0 0 0 none 0 0 40
  have B0 : Below w.heap.size w ((w.alloc (.cells #[.int .i64 a, .int .i64 b, .int .i64 c, .int .i64 d, .slice s l.length m] 40)).alloc (.cells #[.int .i64 0, .int .i64 0, .int .i64 0, .int .i64 0, .slice none 0 0] 40)) := ((Below.refl _ _).alloc (Nat.le_refl _) _).alloc (by simp) _
  go_enter Try.func58, Try.ntmps58
  go_wp2_with fail
  refine (pv_c _ _ _ _ _ _ _ _).mono ?_
  rintro e w1 ⟨rfl, hb1⟩
  have p1 := p0.below hb1
  have z1 := z0.below hb1
  have B1 : Below w.heap.size w w1 := bcall B0 hb1 (by simp; omega)
  clear hb1 p0 z0 B0
  obtain ⟨c0, c1, c2, c3, c4⟩ := p1.open
  obtain ⟨d0, d1, d2, d3, d4⟩ := z1.open
  have g1 := z1.free
  go_wp2_with (go_at_call 43; refine (vd_q _ _ _).mono ?_; rintro e wn ⟨rfl, hw⟩; replace hw := hw.symm; subst hw)
  refine bodyPost_ret (v := .tuple #[.agg #[.int .i64 0, .int .i64 0, .int .i64 0, .int .i64 0, .slice none 0 0], .int .i64 2]) ?_ rfl ?_
  · simp [results, Try.results58, go_sem, d0, d1, d2, d3, d4]
  · exact ⟨none, 0, rfl, .inl rfl, below5 B1 (by omega) _ _ _ _ _, Nat.le_refl _⟩
set_option maxRecDepth 100000 in
set_option maxHeartbeats 2000000 in
theorem qa_yes (a b c d st de : Int) (s : Option Addr) (m : Nat) (l : List Int) (w : World) (hp : pvB a b c d l.length = true) (hlh : Qu.vB st de = true) (hin : ∀ v ∈ l, InI v) (hH : HoldsI w s l) :
    Calls Try.prog 58 #[.agg #[.int .i64 a, .int .i64 b, .int .i64 c, .int .i64 d, .slice s l.length m], .int .i64 st, .int .i64 de] w (GivesPlane ⟨a, b, c, d⟩ (qL st de l) 0 w) := by
  obtain ⟨hpv, hpa, hpn⟩ := pv_iff.1 hp
  have hl1 : l.length ≤ 1048576 := by omega
  have hmk := fun (W : World) => run_make_row' (P := Try.prog) 38 3 (.int .i64 0) 8 Try.underlying38 infoI rfl .i64 .i64 l.length (by omega) (by omega) W
  clear hpa hpn
  have p0 : QBox ((w.alloc (.cells #[.int .i64 a, .int .i64 b, .int .i64 c, .int .i64 d, .slice s l.length m] 40)).alloc (.cells #[.int .i64 0, .int .i64 0, .int .i64 0, .int .i64 0, .slice none 0 0] 40)) w.heap.size ⟨a, b, c, d⟩ (.slice s l.length m) := (QBox.fresh w a b c d s l.length m 40).alloc _
  have z0 : QBox ((w.alloc (.cells #[.int .i64 a, .int .i64 b, .int .i64 c, .int .i64 d, .slice s l.length m] 40)).alloc (.cells #[.int .i64 0, .int .i64 0, .int .i64 0, .int .i64 0, .slice none 0 0] 40)) (w.heap.size + 1) ⟨0, 0, 0, 0⟩ (.slice none 0 0) := QBox.freshAt (w.alloc (.cells #[.int .i64 a, .int .i64 b, .int .i64 c, .int .i64 d, .slice s l.length m] 40)) (w.heap.size + 1) (by simp) 0 0 0 0 none 0 0 40
  have B0 : Below w.heap.size w ((w.alloc (.cells #[.int .i64 a, .int .i64 b, .int .i64 c, .int .i64 d, .slice s l.length m] 40)).alloc (.cells #[.int .i64 0, .int .i64 0, .int .i64 0, .int .i64 0, .slice none 0 0] 40)) := ((Below.refl _ _).alloc (Nat.le_refl _) _).alloc (by simp) _
  go_enter Try.func58, Try.ntmps58
  go_wp2_with fail
  refine (pv_c _ _ _ _ _ _ _ _).mono ?_
  rintro e w1 ⟨rfl, hb1⟩
  have p1 := p0.below hb1
  have z1 := z0.below hb1
  have B1 : Below w.heap.size w w1 := bcall B0 hb1 (by simp; omega)
  clear hb1 p0 z0 B0
  obtain ⟨c0, c1, c2, c3, c4⟩ := p1.open
  obtain ⟨d0, d1, d2, d3, d4⟩ := z1.open
  have g1 := z1.free
  go_upto_region 5 with (go_at_call 43; refine (vd_q _ _ _).mono ?_; rintro e wn ⟨rfl, hw⟩; replace hw := hw.symm; subst hw)
  clear d0 d1 d2 d3 d4 g1
  go_cut [8] (fun s8 wx => ∃ g B : Nat, s8 = .pointer (some ⟨B, 0, none⟩) ∧ Made3 w w.heap.size (w.heap.size + 1) ⟨a, b, c, d⟩ (.slice s l.length m) ⟨a, b, c, d⟩ (List.replicate l.length 0) wx g B)
  case first =>
    have pA := (p1.alloc zeroP).drew
    go_region_held3 (fun w' => w'.cell? ⟨w.heap.size, 0, none⟩ = some (.int .i64 a) ∧ w'.cell? ⟨w.heap.size, 1, none⟩ = some (.int .i64 b) ∧ w'.cell? ⟨w.heap.size, 2, none⟩ = some (.int .i64 c) ∧ w'.cell? ⟨w.heap.size, 3, none⟩ = some (.int .i64 d) ∧ w'.cell? ⟨w.heap.size, 4, none⟩ = some (.slice s l.length m))
      (first | (with_reducible assumption) | with_reducible exact p1.drew.open | with_reducible exact pA.open | with_reducible exact (p1.alloc _).drew.open | with_reducible exact ((p1.alloc _).alloc _).drew.open | fail)
      (fail)
    · go_wp2_with fail
      go_meet
      exact ⟨w1.heap.size, w1.heap.size + 1, rfl, (made3a p1 z1 B1 (by omega) (Nat.le_refl _) l.length a b c d).drew⟩
    · go_wp2_with fail
      go_meet
      exact ⟨w1.heap.size + 1, w1.heap.size, rfl, (made3b p1 z1 B1 (by omega) (Nat.le_refl _) l.length a b c d).drew⟩
  case rest =>
    obtain ⟨g, B, rfl, M⟩ := hcut
    clear p1 z1 B1 c0 c1 c2 c3 c4 hmk
    obtain ⟨c0, c1, c2, c3, c4⟩ := M.p.open
    go_wp2_with fail
    clear c0 c1 c2 c3 c4
    go_loopw [30] (fun i wr => ∃ k : Nat, k ≤ l.length ∧ i = .int .i64 k ∧ Made3 w w.heap.size (w.heap.size + 1) ⟨a, b, c, d⟩ (.slice s l.length m) ⟨a, b, c, d⟩ (fillL (qL st de l) k) wr g B) (fun i _ => l.length - (intOf i).toNat)
    case atStart => exact ⟨0, by omega, rfl, by rw [fillL_zero, qL_len]; exact M⟩
    case round =>
      obtain ⟨k, hk, rfl, M2⟩ := hrel
      clear M
      have hlenk : (fillL (qL st de l) k).length = l.length := by rw [fillL_len _ _ (by rw [qL_len]; exact hk), qL_len]
      have r2 := M2.part
      rw [hlenk] at r2
      obtain ⟨d0, d1, d2, d3, d4⟩ := r2.open
      by_cases hlt : k < l.length
      · rcases hH with rfl | ⟨bb, off, rfl, hr⟩
        · simp at hlt
        have hblt : bb < w.heap.size := cell_lt (hr k hlt)
        have hy0 : wr.cell? ⟨bb, off + k, none⟩ = some (.int .i64 l[k]) := (M2.below.cell (p := ⟨bb, _, none⟩) hblt).trans (hr k hlt)
        have hi1 : (k : Int) < (l.length : Int) := by omega
        have z0 := M2.row.at (k := k) (by rw [hlenk]; exact hlt)
        have z1 := M2.row.free k
        have M3 := M2.set k (Qu.qI l[k] st de)
        rw [← q_at (st := st) (de := de) hlt, fillL_next _ k (by rw [qL_len]; exact hlt)] at M3
        have HM : Hid _ := M3
        have HC : Hid _ := q_at (st := st) (de := de) hlt
        have hI : -9223372036854775808 ≤ l[k] ∧ l[k] ≤ 9223372036854775807 := hin _ (List.getElem_mem hlt)
        clear M3 M2 r2
        go_wp2_with fail
        go_region_law (first | (go_simp; go_at_call 47; (with_reducible refine (qz_q _ _ _ _ hI.1 hI.2).mono ?_); rintro e wn ⟨rfl, rfl⟩; go_wp2_with fail))
        all_goals
          go_wp2_with fail
          go_roundw
          case rel => exact ⟨k + 1, by omega, by go_num, by have := HM.out; rw [HC.out] at this; first | exact this | exact this.drew⟩
          case measure => simp [intOf]; omega
      · obtain rfl : k = l.length := by omega
        have M4 := M2
        rw [← qL_len st de l, fillL_all, qL_len] at M4
        have z5 := M4.z
        obtain ⟨e0, e1, e2, e3, e4⟩ := z5.open
        have g5 := z5.free
        have hg5 := M4.hg
        have HM : Hid _ := M4
        clear M2 M4 r2
        go_wp2
        refine bodyPost_ret (v := .tuple #[.agg #[.int .i64 a, .int .i64 b, .int .i64 c, .int .i64 d, .slice (some ⟨g, 0, none⟩) l.length l.length], .int .i64 0]) ?_ rfl ?_
        · obtain ⟨q0, q1, q2, q3, q4⟩ := (z5.store a b c d (.slice (some ⟨g, 0, none⟩) l.length l.length)).open
          simp [results, Try.results58, go_sem, q0, q1, q2, q3, q4]
        · exact ⟨some ⟨g, 0, none⟩, l.length, by rw [qL_len], ((RowP.of HM.out.row).far5 (by omega) _ _ _ _ _).holds, below5 HM.out.below (by omega) _ _ _ _ _, by rw [qL_len]; exact Nat.le_refl _⟩
set_option maxRecDepth 100000 in
set_option maxHeartbeats 2000000 in
theorem qar_no1 (a b c d st de : Int) (s : Option Addr) (m : Nat) (l : List Int) (w : World) (hp : pvB a b c d l.length = false) :
    Calls Try.prog 59 #[.agg #[.int .i64 a, .int .i64 b, .int .i64 c, .int .i64 d, .slice s l.length m], .int .i64 st, .int .i64 de] w (GivesPlane ⟨0, 0, 0, 0⟩ [] 1 w) := by
  have p0 : QBox ((w.alloc (.cells #[.int .i64 a, .int .i64 b, .int .i64 c, .int .i64 d, .slice s l.length m] 40)).alloc (.cells #[.int .i64 0, .int .i64 0, .int .i64 0, .int .i64 0, .slice none 0 0] 40)) w.heap.size ⟨a, b, c, d⟩ (.slice s l.length m) := (QBox.fresh w a b c d s l.length m 40).alloc _
  have z0 : QBox ((w.alloc (.cells #[.int .i64 a, .int .i64 b, .int .i64 c, .int .i64 d, .slice s l.length m] 40)).alloc (.cells #[.int .i64 0, .int .i64 0, .int .i64 0, .int .i64 0, .slice none 0 0] 40)) (w.heap.size + 1) ⟨0, 0, 0, 0⟩ (.slice none 0 0) := QBox.freshAt (w.alloc (.cells #[.int .i64 a, .int .i64 b, .int .i64 c, .int .i64 d, .slice s l.length m] 40)) (w.heap.size + 1) (by simp) 0 0 0 0 none 0 0 40
  have B0 : Below w.heap.size w ((w.alloc (.cells #[.int .i64 a, .int .i64 b, .int .i64 c, .int .i64 d, .slice s l.length m] 40)).alloc (.cells #[.int .i64 0, .int .i64 0, .int .i64 0, .int .i64 0, .slice none 0 0] 40)) := ((Below.refl _ _).alloc (Nat.le_refl _) _).alloc (by simp) _
  go_enter Try.func59, Try.ntmps59
  go_wp2_with fail
  refine (pv_r _ _ _ _ _ _ _ _).mono ?_
  rintro e w1 ⟨rfl, hb1⟩
  have p1 := p0.below hb1
  have z1 := z0.below hb1
  have B1 : Below w.heap.size w w1 := bcall B0 hb1 (by simp; omega)
  clear hb1 p0 z0 B0
  obtain ⟨c0, c1, c2, c3, c4⟩ := p1.open
  obtain ⟨d0, d1, d2, d3, d4⟩ := z1.open
  have g1 := z1.free
  go_wp2
  refine bodyPost_ret (v := .tuple #[.agg #[.int .i64 0, .int .i64 0, .int .i64 0, .int .i64 0, .slice none 0 0], .int .i64 1]) ?_ rfl ?_
  · simp [results, Try.results59, go_sem, d0, d1, d2, d3, d4]
  · exact ⟨none, 0, rfl, .inl rfl, below5 B1 (by omega) _ _ _ _ _, Nat.le_refl _⟩
set_option maxRecDepth 100000 in
set_option maxHeartbeats 2000000 in
theorem qar_no2 (a b c d st de : Int) (s : Option Addr) (m : Nat) (l : List Int) (w : World) (hp : pvB a b c d l.length = true) (hlh : Qu.vB st de = false) :
    Calls Try.prog 59 #[.agg #[.int .i64 a, .int .i64 b, .int .i64 c, .int .i64 d, .slice s l.length m], .int .i64 st, .int .i64 de] w (GivesPlane ⟨0, 0, 0, 0⟩ [] 2 w) := by
  have p0 : QBox ((w.alloc (.cells #[.int .i64 a, .int .i64 b, .int .i64 c, .int .i64 d, .slice s l.length m] 40)).alloc (.cells #[.int .i64 0, .int .i64 0, .int .i64 0, .int .i64 0, .slice none 0 0] 40)) w.heap.size ⟨a, b, c, d⟩ (.slice s l.length m) := (QBox.fresh w a b c d s l.length m 40).alloc _
  have z0 : QBox ((w.alloc (.cells #[.int .i64 a, .int .i64 b, .int .i64 c, .int .i64 d, .slice s l.length m] 40)).alloc (.cells #[.int .i64 0, .int .i64 0, .int .i64 0, .int .i64 0, .slice none 0 0] 40)) (w.heap.size + 1) ⟨0, 0, 0, 0⟩ (.slice none 0 0) := QBox.freshAt (w.alloc (.cells #[.int .i64 a, .int .i64 b, .int .i64 c, .int .i64 d, .slice s l.length m] 40)) (w.heap.size + 1) (by simp) 0 0 0 0 none 0 0 40
  have B0 : Below w.heap.size w ((w.alloc (.cells #[.int .i64 a, .int .i64 b, .int .i64 c, .int .i64 d, .slice s l.length m] 40)).alloc (.cells #[.int .i64 0, .int .i64 0, .int .i64 0, .int .i64 0, .slice none 0 0] 40)) := ((Below.refl _ _).alloc (Nat.le_refl _) _).alloc (by simp) _
  go_enter Try.func59, Try.ntmps59
  go_wp2_with fail
  refine (pv_r _ _ _ _ _ _ _ _).mono ?_
  rintro e w1 ⟨rfl, hb1⟩
  have p1 := p0.below hb1
  have z1 := z0.below hb1
  have B1 : Below w.heap.size w w1 := bcall B0 hb1 (by simp; omega)
  clear hb1 p0 z0 B0
  obtain ⟨c0, c1, c2, c3, c4⟩ := p1.open
  obtain ⟨d0, d1, d2, d3, d4⟩ := z1.open
  have g1 := z1.free
  go_wp2_with (go_at_call 44; refine (vd_r _ _ _).mono ?_; rintro e wn ⟨rfl, hw⟩; replace hw := hw.symm; subst hw)
  refine bodyPost_ret (v := .tuple #[.agg #[.int .i64 0, .int .i64 0, .int .i64 0, .int .i64 0, .slice none 0 0], .int .i64 2]) ?_ rfl ?_
  · simp [results, Try.results59, go_sem, d0, d1, d2, d3, d4]
  · exact ⟨none, 0, rfl, .inl rfl, below5 B1 (by omega) _ _ _ _ _, Nat.le_refl _⟩
set_option maxRecDepth 100000 in
set_option maxHeartbeats 2000000 in
theorem qar_yes (a b c d st de : Int) (s : Option Addr) (m : Nat) (l : List Int) (w : World) (hp : pvB a b c d l.length = true) (hlh : Qu.vB st de = true) (hH : HoldsI w s l) :
    Calls Try.prog 59 #[.agg #[.int .i64 a, .int .i64 b, .int .i64 c, .int .i64 d, .slice s l.length m], .int .i64 st, .int .i64 de] w (GivesPlane ⟨a, b, c, d⟩ (qL st de l) 0 w) := by
  obtain ⟨i0, hi', hz0, hz1, hz2⟩ := info_parts infoI
  obtain ⟨hpv, hpa, hpn⟩ := pv_iff.1 hp
  have hl1 : l.length ≤ 1048576 := by omega
  clear hpa hpn
  have p0 : QBox ((w.alloc (.cells #[.int .i64 a, .int .i64 b, .int .i64 c, .int .i64 d, .slice s l.length m] 40)).alloc (.cells #[.int .i64 0, .int .i64 0, .int .i64 0, .int .i64 0, .slice none 0 0] 40)) w.heap.size ⟨a, b, c, d⟩ (.slice s l.length m) := (QBox.fresh w a b c d s l.length m 40).alloc _
  have z0 : QBox ((w.alloc (.cells #[.int .i64 a, .int .i64 b, .int .i64 c, .int .i64 d, .slice s l.length m] 40)).alloc (.cells #[.int .i64 0, .int .i64 0, .int .i64 0, .int .i64 0, .slice none 0 0] 40)) (w.heap.size + 1) ⟨0, 0, 0, 0⟩ (.slice none 0 0) := QBox.freshAt (w.alloc (.cells #[.int .i64 a, .int .i64 b, .int .i64 c, .int .i64 d, .slice s l.length m] 40)) (w.heap.size + 1) (by simp) 0 0 0 0 none 0 0 40
  have B0 : Below w.heap.size w ((w.alloc (.cells #[.int .i64 a, .int .i64 b, .int .i64 c, .int .i64 d, .slice s l.length m] 40)).alloc (.cells #[.int .i64 0, .int .i64 0, .int .i64 0, .int .i64 0, .slice none 0 0] 40)) := ((Below.refl _ _).alloc (Nat.le_refl _) _).alloc (by simp) _
  go_enter Try.func59, Try.ntmps59
  go_wp2_with fail
  refine (pv_r _ _ _ _ _ _ _ _).mono ?_
  rintro e w1 ⟨rfl, hb1⟩
  have p1 := p0.below hb1
  have z1 := z0.below hb1
  have B1 : Below w.heap.size w w1 := bcall B0 hb1 (by simp; omega)
  clear hb1 p0 z0 B0
  obtain ⟨c0, c1, c2, c3, c4⟩ := p1.open
  obtain ⟨d0, d1, d2, d3, d4⟩ := z1.open
  have g1 := z1.free
  have G0 := Gr.start (w := w1) a b c d
  have hlz := z1.lt
  have hp1 := p1.alloc (.cells #[.int .i64 a, .int .i64 b, .int .i64 c, .int .i64 d, .slice none 0 0] 40)
  obtain ⟨h0, h1, h2, h3, h4⟩ := hp1.open
  go_wp2_with (go_at_call 44; refine (vd_r _ _ _).mono ?_; rintro e wn ⟨rfl, hw⟩; replace hw := hw.symm; subst hw)
  clear h0 h1 h2 h3 h4 hp1 c0 c1 c2 c3 c4 d0 d1 d2 d3 d4 g1
  go_loopw [9] (fun i wr => ∃ (k : Nat) (v : Value), k ≤ l.length ∧ i = .int .i64 k ∧ Gr w1 w1.heap.size ⟨a, b, c, d⟩ v ((qL st de l).take k) wr) (fun i _ => l.length - (intOf i).toNat)
  case atStart => exact ⟨0, _, by omega, rfl, G0⟩
  case round =>
    obtain ⟨k, v, hk, rfl, hG⟩ := hrel
    clear G0
    have p4 := p1.belowAt hG.below (by omega)
    obtain ⟨c0, c1, c2, c3, c4⟩ := p4.open
    have B4 : Below w.heap.size w wr := B1.trans (hG.below.mono (by omega))
    by_cases hlt : k < l.length
    · have hlenk : ((qL st de l).take k).length = k := by rw [List.length_take, qL_len]; omega
      rcases hH with rfl | ⟨bb, off, rfl, hr⟩
      · simp at hlt
      have hblt : bb < w.heap.size := cell_lt (hr k hlt)
      have hy0 : wr.cell? ⟨bb, off + k, none⟩ = some (.int .i64 l[k]) := (B4.cell (p := ⟨bb, _, none⟩) hblt).trans (hr k hlt)
      have hi1 : (k : Int) < (l.length : Int) := by omega
      have hG1 := hG
      have hGd := hG.step (Below.refl _ _).drew
      obtain ⟨f0, f1, f2, f3, f4⟩ := hG.o.open
      have ga := (hG.o.alloc (.cells #[.int .i64 (Qu.qI l[k] st de)] 3)).open.2.2.2.2
      have HC : Hid _ := q_take (st := st) (de := de) hlt
      have hwk : IntKind.i64.wrap ((k : Int) + 1) = (k : Int) + 1 := IntWalk.i64_in _ (by omega)
      have hdz : w1.heap.size < wr.heap.size := hG.o.lt
      have hdz' : w1.heap.size < wr.drew.heap.size := hGd.o.lt
      have hown : wr.drew.ownsRow (w1.heap.size + 1) 3 1 v k (((qL st de l).take k).map (Value.int .i64)) := by have := hGd.own; rw [hlenk] at this; exact this
      go_wp2_with fail
      go_region_law (first | (go_simp; go_at_call 48; (with_reducible refine (qz_r _ _ _ _).mono ?_); rintro e wn ⟨rfl, rfl⟩; go_wp2_with fail) | (refine step_append_own rfl (.tmp 30) (.tmp 39) 38 rfl (w1.heap.size + 1) 3 i0 (.int .i64 0) 1 8 Try.underlying38 hi' hz0 hz1 hz2 rfl (by decide) _ _ _ rfl (own_below hown ((Below.refl _ _).alloc (Nat.le_refl _) _)) ⟨wr.drew.heap.size, 0, none⟩ 1 1 [.int .i64 (Qu.qI l[k] st de)] rfl rfl (one_new wr.drew _ _) (oneOne _) (by unfold maxLen; omega) (by omega) (by have := hGd.o.lt; simp; omega) ?_; intro v' w6 hown6 hgrow6; obtain ⟨sv, mv, rfl⟩ := own_slice hown6; have G7 := hGd.push _ hgrow6 (by rw [hlenk]; exact hown6); have hb6 : Below (w1.heap.size + 1) wr.drew w6 := ((Below.refl _ _).alloc (by have := hGd.o.lt; omega) _).grown hgrow6 (by have := hGd.o.lt; simp; omega) (fun k hk => (hGd.own.lt k hk).1); have o6 := hGd.o.belowAt hb6 (by omega); obtain ⟨t0, t1, t2, t3, t4⟩ := o6.open; have t5 := o6.free; clear hb6 hgrow6 hown6))
      all_goals
        rw [HC.out] at G7
        have HG : Hid _ := G7
        clear G7 t0 t1 t2 t3 t4 t5 o6 ga f0 f1 f2 f3 f4 hGd hG hG1 hown
        go_wp2
        go_roundw
        case rel => exact ⟨k + 1, _, by omega, by go_num, HG.out⟩
        case measure => simp [intOf]; omega
    · obtain rfl : k = l.length := by omega
      have eo : (qL st de l).take l.length = qL st de l := by rw [← qL_len st de l, List.take_length]
      obtain ⟨sv, mv, rfl, hmv, hgive⟩ := hG.gives eo (w.heap.size + 1) hlz
      have z4 := z1.belowAt hG.below hlz
      obtain ⟨d0, d1, d2, d3, d4⟩ := hG.o.open
      obtain ⟨e0, e1, e2, e3, e4⟩ := z4.open
      have g4 := z4.free
      have z4l := z4.lt
      have HV : Hid _ := hgive
      clear hG hgive
      go_wp2
      refine bodyPost_ret (v := .tuple #[.agg #[.int .i64 a, .int .i64 b, .int .i64 c, .int .i64 d, .slice sv (qL st de l).length mv], .int .i64 0]) ?_ rfl ?_
      · obtain ⟨q0, q1, q2, q3, q4⟩ := (z4.store a b c d (.slice sv (qL st de l).length mv)).open
        simp [results, Try.results59, go_sem, q0, q1, q2, q3, q4]
      · exact ⟨sv, mv, rfl, HV.out _ _ _ _ _, below5 B4 (by omega) _ _ _ _ _, hmv⟩
end Go.Proofs.Ytadkcgpkbcgeoaa
