/-
  Merge of the code of layer 5.
-/
import Derived.Test.YtnfnidgabgdphaaDcJ
set_option maxRecDepth 100000
namespace Go.Proofs.Ytnfnidgabgdphaa
open Go.RowKit

/-- The call returns a plane and an error. -/
def GivesPl (r : Pl.R) (L : List Int) (err : Int) (w : World) (e : Ending) (w' : World) : Prop :=
  ∃ s m, e = .returned (.tuple #[.agg #[.int .i64 r.x0, .int .i64 r.y0, .int .i64 r.x1, .int .i64 r.y1, .slice s L.length m], .int .i64 err]) ∧ HoldsI w' s L ∧ L.length ≤ m ∧ Fresh w s ∧ Below w.heap.size w w'
theorem unC_within {st kn b : Int} {n : Nat} {A B : List (List Int)} (hk : kB kn = true) (hb : 0 ≤ b) (hA : Ex.Wide n A) (hB : Ex.Wide n B) (wA : Ex.within b A.flatten) (wB : Ex.within b B.flatten) : Ex.within (3 * b + 3) (Ex.unC st kn n A B).flatten := by
  intro v hv
  obtain ⟨r, hr, hvr⟩ := List.mem_flatten.1 hv
  obtain ⟨y, _, rfl⟩ := List.mem_map.1 hr
  obtain ⟨c, hc, rfl⟩ := List.mem_map.1 hvr
  obtain ⟨k, hkl, rfl⟩ := List.getElem_of_mem hc
  have hkn : k < n := by
    have := hkl
    rw [List.length_zipWith, Ex.trn_len, Ex.trn_len, Nat.min_self] at this
    exact this
  have e : (List.zipWith (Ex.unF st kn) (Ex.trn n A) (Ex.trn n B))[k] = Ex.unF st kn (colA A k) (colA B k) := by
    have := un_at (b := st) (kn := kn) (A := A) (B := B) hkn
    rw [List.getD_eq_getElem?_getD, List.getElem?_eq_getElem hkl] at this
    exact this
  have hw : Ex.within (3 * b + 3) (Ex.unF st kn (colA A k) (colA B k)) := Ex.inv_fine (k_iff.1 hk) hb (joinL_within hb (col_within hA hkn wA) (col_within hB hkn wB))
  rw [e]
  generalize Ex.unF st kn (colA A k) (colA B k) = U at *
  rcases Nat.lt_or_ge y U.length with q | q
  · rw [List.getD_eq_getElem?_getD, List.getElem?_eq_getElem q]
    exact hw _ (List.getElem_mem q)
  · rw [List.getD_eq_getElem?_getD, List.getElem?_eq_none q]
    simp only [Option.getD_none]
    omega
theorem arrP_ok {r : Pl.R} {R : Nat → Pl.R} {D : Nat → List Int} (V : Nat → Value) (h : ok4 (okO r R D) = true) : arrP R V = arrP (bnds r) V := by
  have e : ∀ o, o < 4 → R o = bnds r o := fun o ho => by
    have := ok4_iff.1 h o ho
    simp only [okO, Bool.and_eq_true] at this
    obtain ⟨h0, h1, h2, h3⟩ := Pl.eq_iff.1 this.2
    cases hR : R o
    cases hB : bnds r o
    simp only [hR, hB] at h0 h1 h2 h3
    rw [h0, h1, h2, h3]
  simp only [arrP, e 0 (by decide), e 1 (by decide), e 2 (by decide), e 3 (by decide)]
/-- The arguments of Merge in memory, and its result. -/
structure KW (w : World) (A : Array Value) (r : Pl.R) (kn : Int) (W : World) : Prop where
  below : Below w.heap.size w W
  bk : Blk W w.heap.size 33 A
  rr : Box W (w.heap.size + 1) r
  kk : Blk W (w.heap.size + 2) 31 #[.int .i64 kn]
  z : QBox W (w.heap.size + 3) ⟨0, 0, 0, 0⟩ (.slice none 0 0)
section
variable {w W : World} {A : Array Value} {r : Pl.R} {kn : Int}
theorem KW.step {W1 : World} (h : KW w A r kn W) (hb : Below W.heap.size W W1) : KW w A r kn W1 := ⟨below_call h.below hb, h.bk.below hb, h.rr.below hb, h.kk.below hb, h.z.below hb⟩
theorem KW.alloc (h : KW w A r kn W) (X : Obj) : KW w A r kn (W.alloc X) := h.step ((Below.refl _ _).alloc (Nat.le_refl _) _)
theorem KW.drew (h : KW w A r kn W) : KW w A r kn W.drew := h.step (Below.refl _ _).drew
theorem KW.but {W1 : World} {B : Nat} (h : KW w A r kn W) (hb : But B W W1) (hB : w.heap.size + 3 < B) : KW w A r kn W1 :=
  ⟨But.below h.below hb (by omega), h.bk.but hb (by omega), h.rr.but hb (by omega), h.kk.but hb (by omega), h.z.but hb (by omega)⟩
theorem KW.far5 (h : KW w A r kn W) {B : Nat} (hB : w.heap.size + 3 < B) (v0 v1 v2 v3 v4 : Value) : KW w A r kn (((((W.setCell ⟨B, 0, none⟩ v0).setCell ⟨B, 1, none⟩ v1).setCell ⟨B, 2, none⟩ v2).setCell ⟨B, 3, none⟩ v3).setCell ⟨B, 4, none⟩ v4) := h.but (but5 _ _ _ _ _) hB
theorem KW.lt (h : KW w A r kn W) : w.heap.size + 3 < W.heap.size := h.z.lt
theorem KW.open20 {D : Nat → List Int} {s : Nat → Option Addr} {m : Nat → Nat} (hA : Hid (A = arrP (bnds r) fun o => .slice (s o) (D o).length (m o))) (h : KW w A r kn W) : W.cell? ⟨w.heap.size, 0, none⟩ = some (.int .i64 (bnds r 0).x0) ∧ W.cell? ⟨w.heap.size, 1, none⟩ = some (.int .i64 (bnds r 0).y0) ∧ W.cell? ⟨w.heap.size, 2, none⟩ = some (.int .i64 (bnds r 0).x1) ∧ W.cell? ⟨w.heap.size, 3, none⟩ = some (.int .i64 (bnds r 0).y1) ∧ W.cell? ⟨w.heap.size, 4, none⟩ = some (.slice (s 0) (D 0).length (m 0)) ∧ W.cell? ⟨w.heap.size, 5, none⟩ = some (.int .i64 (bnds r 1).x0) ∧ W.cell? ⟨w.heap.size, 6, none⟩ = some (.int .i64 (bnds r 1).y0) ∧ W.cell? ⟨w.heap.size, 7, none⟩ = some (.int .i64 (bnds r 1).x1) ∧ W.cell? ⟨w.heap.size, 8, none⟩ = some (.int .i64 (bnds r 1).y1) ∧ W.cell? ⟨w.heap.size, 9, none⟩ = some (.slice (s 1) (D 1).length (m 1)) ∧ W.cell? ⟨w.heap.size, 10, none⟩ = some (.int .i64 (bnds r 2).x0) ∧ W.cell? ⟨w.heap.size, 11, none⟩ = some (.int .i64 (bnds r 2).y0) ∧ W.cell? ⟨w.heap.size, 12, none⟩ = some (.int .i64 (bnds r 2).x1) ∧ W.cell? ⟨w.heap.size, 13, none⟩ = some (.int .i64 (bnds r 2).y1) ∧ W.cell? ⟨w.heap.size, 14, none⟩ = some (.slice (s 2) (D 2).length (m 2)) ∧ W.cell? ⟨w.heap.size, 15, none⟩ = some (.int .i64 (bnds r 3).x0) ∧ W.cell? ⟨w.heap.size, 16, none⟩ = some (.int .i64 (bnds r 3).y0) ∧ W.cell? ⟨w.heap.size, 17, none⟩ = some (.int .i64 (bnds r 3).x1) ∧ W.cell? ⟨w.heap.size, 18, none⟩ = some (.int .i64 (bnds r 3).y1) ∧ W.cell? ⟨w.heap.size, 19, none⟩ = some (.slice (s 3) (D 3).length (m 3)) :=
  ⟨h.bk.cell 0 _ (by rw [hA.out]; rfl), h.bk.cell 1 _ (by rw [hA.out]; rfl), h.bk.cell 2 _ (by rw [hA.out]; rfl), h.bk.cell 3 _ (by rw [hA.out]; rfl), h.bk.cell 4 _ (by rw [hA.out]; rfl), h.bk.cell 5 _ (by rw [hA.out]; rfl), h.bk.cell 6 _ (by rw [hA.out]; rfl), h.bk.cell 7 _ (by rw [hA.out]; rfl), h.bk.cell 8 _ (by rw [hA.out]; rfl), h.bk.cell 9 _ (by rw [hA.out]; rfl), h.bk.cell 10 _ (by rw [hA.out]; rfl), h.bk.cell 11 _ (by rw [hA.out]; rfl), h.bk.cell 12 _ (by rw [hA.out]; rfl), h.bk.cell 13 _ (by rw [hA.out]; rfl), h.bk.cell 14 _ (by rw [hA.out]; rfl), h.bk.cell 15 _ (by rw [hA.out]; rfl), h.bk.cell 16 _ (by rw [hA.out]; rfl), h.bk.cell 17 _ (by rw [hA.out]; rfl), h.bk.cell 18 _ (by rw [hA.out]; rfl), h.bk.cell 19 _ (by rw [hA.out]; rfl)⟩
/-- The halves stand in their variables. -/
structure Fin (w : World) (A : Array Value) (r : Pl.R) (kn : Int) (q1 q2 : Pl.R) (n1 n2 : Nat) (L1 L2 : List Int) (B1 B2 g1 g2 : Nat) (W : World) : Prop where
  kw : KW w A r kn W
  b1 : QBox W B1 q1 (.slice (some ⟨g1, 0, none⟩) n1 n1)
  b2 : QBox W B2 q2 (.slice (some ⟨g2, 0, none⟩) n2 n2)
  r1 : RowAt W g1 L1
  r2 : RowAt W g2 L2
abbrev plC (q : Pl.R) (g n : Nat) : Array Value := #[.int .i64 q.x0, .int .i64 q.y0, .int .i64 q.x1, .int .i64 q.y1, .slice (some ⟨g, 0, none⟩) n n]
variable {q1 q2 : Pl.R} {n1 n2 : Nat} {L1 L2 : List Int} {g1 g2 : Nat}
theorem QBox.fresh' (W : World) (q : Pl.R) (g n : Nat) : QBox (W.alloc (.cells #[.int .i64 q.x0, .int .i64 q.y0, .int .i64 q.x1, .int .i64 q.y1, .slice (some ⟨g, 0, none⟩) n n] 30)) W.heap.size q (.slice (some ⟨g, 0, none⟩) n n) := QBox.fresh W q.x0 q.y0 q.x1 q.y1 (some ⟨g, 0, none⟩) n n 30
theorem fin1 (k : KW w A r kn W) (r1 : RowAt W g1 L1) (r2 : RowAt W g2 L2) : Fin w A r kn q1 q2 n1 n2 L1 L2 W.heap.size (W.heap.size + 1) g1 g2 ((W.alloc (.cells #[.int .i64 q1.x0, .int .i64 q1.y0, .int .i64 q1.x1, .int .i64 q1.y1, .slice (some ⟨g1, 0, none⟩) n1 n1] 30)).alloc (.cells #[.int .i64 q2.x0, .int .i64 q2.y0, .int .i64 q2.x1, .int .i64 q2.y1, .slice (some ⟨g2, 0, none⟩) n2 n2] 30)) :=
  ⟨(k.alloc _).alloc _, (QBox.fresh' W q1 g1 n1).alloc _, QBox.freshAt (W.alloc _) (W.heap.size + 1) (by simp) q2.x0 q2.y0 q2.x1 q2.y1 (some ⟨g2, 0, none⟩) n2 n2 30, (r1.alloc _).alloc _, (r2.alloc _).alloc _⟩
theorem fin2 (k : KW w A r kn W) (r1 : RowAt W g1 L1) (r2 : RowAt W g2 L2) : Fin w A r kn q1 q2 n1 n2 L1 L2 (W.heap.size + 1) W.heap.size g1 g2 ((W.alloc (.cells #[.int .i64 q2.x0, .int .i64 q2.y0, .int .i64 q2.x1, .int .i64 q2.y1, .slice (some ⟨g2, 0, none⟩) n2 n2] 30)).alloc (.cells #[.int .i64 q1.x0, .int .i64 q1.y0, .int .i64 q1.x1, .int .i64 q1.y1, .slice (some ⟨g1, 0, none⟩) n1 n1] 30)) :=
  ⟨(k.alloc _).alloc _, QBox.freshAt (W.alloc _) (W.heap.size + 1) (by simp) q1.x0 q1.y0 q1.x1 q1.y1 (some ⟨g1, 0, none⟩) n1 n1 30, (QBox.fresh' W q2 g2 n2).alloc _, (r1.alloc _).alloc _, (r2.alloc _).alloc _⟩
theorem fin3 (k : KW w A r kn W) (r1 : RowAt W g1 L1) (r2 : RowAt W g2 L2) {B : Nat} {z : Pl.R} {v : Value} (b : QBox W B z v) (hB : w.heap.size + 3 < B) (h1 : g1 ≠ B) (h2 : g2 ≠ B) : Fin w A r kn q1 q2 n1 n2 L1 L2 B W.heap.size g1 g2 ((((((W.setCell ⟨B, 0, none⟩ (.int .i64 q1.x0)).setCell ⟨B, 1, none⟩ (.int .i64 q1.y0)).setCell ⟨B, 2, none⟩ (.int .i64 q1.x1)).setCell ⟨B, 3, none⟩ (.int .i64 q1.y1)).setCell ⟨B, 4, none⟩ (.slice (some ⟨g1, 0, none⟩) n1 n1)).alloc (.cells #[.int .i64 q2.x0, .int .i64 q2.y0, .int .i64 q2.x1, .int .i64 q2.y1, .slice (some ⟨g2, 0, none⟩) n2 n2] 30)) := by
  refine ⟨(k.far5 hB _ _ _ _ _).alloc _, (b.store q1.x0 q1.y0 q1.x1 q1.y1 (.slice (some ⟨g1, 0, none⟩) n1 n1)).alloc _, QBox.freshAt _ W.heap.size (by simp only [World.size_setCell]) q2.x0 q2.y0 q2.x1 q2.y1 (some ⟨g2, 0, none⟩) n2 n2 30, (RowAt.but r1 (but5 _ _ _ _ _) h1).alloc _, (RowAt.but r2 (but5 _ _ _ _ _) h2).alloc _⟩
theorem fin4 (k : KW w A r kn W) (r1 : RowAt W g1 L1) (r2 : RowAt W g2 L2) {B : Nat} {z : Pl.R} {v : Value} (b : QBox W B z v) (hB : w.heap.size + 3 < B) (h1 : g1 ≠ B) (h2 : g2 ≠ B) : Fin w A r kn q1 q2 n1 n2 L1 L2 W.heap.size B g1 g2 ((((((W.setCell ⟨B, 0, none⟩ (.int .i64 q2.x0)).setCell ⟨B, 1, none⟩ (.int .i64 q2.y0)).setCell ⟨B, 2, none⟩ (.int .i64 q2.x1)).setCell ⟨B, 3, none⟩ (.int .i64 q2.y1)).setCell ⟨B, 4, none⟩ (.slice (some ⟨g2, 0, none⟩) n2 n2)).alloc (.cells #[.int .i64 q1.x0, .int .i64 q1.y0, .int .i64 q1.x1, .int .i64 q1.y1, .slice (some ⟨g1, 0, none⟩) n1 n1] 30)) := by
  refine ⟨(k.far5 hB _ _ _ _ _).alloc _, QBox.freshAt _ W.heap.size (by simp only [World.size_setCell]) q1.x0 q1.y0 q1.x1 q1.y1 (some ⟨g1, 0, none⟩) n1 n1 30, (b.store q2.x0 q2.y0 q2.x1 q2.y1 (.slice (some ⟨g2, 0, none⟩) n2 n2)).alloc _, (RowAt.but r1 (but5 _ _ _ _ _) h1).alloc _, (RowAt.but r2 (but5 _ _ _ _ _) h2).alloc _⟩
theorem fin5 (k : KW w A r kn W) (r1 : RowAt W g1 L1) (r2 : RowAt W g2 L2) {B C : Nat} {z z' : Pl.R} {v v' : Value} (b : QBox W B z v) (c : QBox W C z' v') (hB : w.heap.size + 3 < B) (hC : w.heap.size + 3 < C) (hne : B ≠ C) (h1 : g1 ≠ B) (h2 : g2 ≠ B) (h3 : g1 ≠ C) (h4 : g2 ≠ C) : Fin w A r kn q1 q2 n1 n2 L1 L2 B C g1 g2 ((((((((((W.setCell ⟨B, 0, none⟩ (.int .i64 q1.x0)).setCell ⟨B, 1, none⟩ (.int .i64 q1.y0)).setCell ⟨B, 2, none⟩ (.int .i64 q1.x1)).setCell ⟨B, 3, none⟩ (.int .i64 q1.y1)).setCell ⟨B, 4, none⟩ (.slice (some ⟨g1, 0, none⟩) n1 n1)).setCell ⟨C, 0, none⟩ (.int .i64 q2.x0)).setCell ⟨C, 1, none⟩ (.int .i64 q2.y0)).setCell ⟨C, 2, none⟩ (.int .i64 q2.x1)).setCell ⟨C, 3, none⟩ (.int .i64 q2.y1)).setCell ⟨C, 4, none⟩ (.slice (some ⟨g2, 0, none⟩) n2 n2)) := by
  refine ⟨(k.far5 hB _ _ _ _ _).far5 hC _ _ _ _ _, (b.store q1.x0 q1.y0 q1.x1 q1.y1 (.slice (some ⟨g1, 0, none⟩) n1 n1)).far5 hne _ _ _ _ _, (c.far5 (Ne.symm hne) _ _ _ _ _).store q2.x0 q2.y0 q2.x1 q2.y1 (.slice (some ⟨g2, 0, none⟩) n2 n2), RowAt.but (RowAt.but r1 (but5 _ _ _ _ _) h1) (but5 _ _ _ _ _) h3, RowAt.but (RowAt.but r2 (but5 _ _ _ _ _) h2) (but5 _ _ _ _ _) h4⟩
end
set_option maxHeartbeats 4000000 in
theorem mergec_no (r : Pl.R) (R : Nat → Pl.R) (D : Nat → List Int) (s : Nat → Option Addr) (m : Nat → Nat) (kn : Int) (A : Array Value) (hA : A = arrP R fun o => .slice (s o) (D o).length (m o)) (w : World) (hH : ∀ o, o < 4 → HoldsI w (s o) (D o)) (E : Int) (hE : mgE r R D kn = E) (hne : E ≠ 0) :
    Calls Try.prog 24 #[.agg A, .agg #[.int .i64 r.x0, .int .i64 r.y0, .int .i64 r.x1, .int .i64 r.y1], .int .i64 kn] w (GivesPl zR [] E w) := by
  have x0 : KW w A r kn ((((w.alloc (.cells A 33)).alloc (.cells #[.int .i64 r.x0, .int .i64 r.y0, .int .i64 r.x1, .int .i64 r.y1] 23)).alloc (.cells #[.int .i64 kn] 31)).alloc (.cells #[.int .i64 0, .int .i64 0, .int .i64 0, .int .i64 0, .slice none 0 0] 30)) := ⟨below_alloc (below_alloc (below_alloc (below_alloc (Below.refl _ w) _) _) _) _, (((Blk.fresh w 33 A).alloc _).alloc _).alloc _, ((Box.freshAt (w.alloc _) (w.heap.size + 1) (by simp) r.x0 r.y0 r.x1 r.y1 _).alloc _ _).alloc _ _, (Blk.freshAt ((w.alloc _).alloc _) (w.heap.size + 2) (by simp) 31 #[.int .i64 kn]).alloc _, QBox.freshAt (((w.alloc _).alloc _).alloc _) (w.heap.size + 3) (by simp) 0 0 0 0 none 0 0 _⟩
  have HAz : Hid (20 = A.size) := by rw [hA]; rfl
  have HAi : Hid ((Try.prog.info? 33).map (·.size) = some A.size) := by rw [hA]; exact info20
  have cM := mergeable_q r R D s m kn A hA ((((w.alloc (.cells A 33)).alloc (.cells #[.int .i64 r.x0, .int .i64 r.y0, .int .i64 r.x1, .int .i64 r.y1] 23)).alloc (.cells #[.int .i64 kn] 31)).alloc (.cells #[.int .i64 0, .int .i64 0, .int .i64 0, .int .i64 0, .slice none 0 0] 30)) (fun o ho => (hH o ho).below x0.below (Nat.le_refl _))
  rw [hE] at cM
  clear hA hH hE
  have e1 : (E == 0) = false := by rw [beq_eq_false_iff_ne]; exact hne
  have e2 : (E != 0) = true := by simp [hne]
  have e3 : decide (E = 0) = false := by rw [decide_eq_false_iff_not]; exact hne
  clear hne
  go_enter Try.func24, Try.ntmps24
  obtain ⟨c0, c1, c2, c3⟩ := x0.rr.open
  have ck := x0.kk.cell 0 _ rfl
  go_wp2_with (first | (refine wpList_load_mid rfl 33 (.tmp 3) rfl w.heap.size 0 rfl A.toList _ x0.bk.range Try.underlying33 rfl (by simpa using HAi.out) ?_))
  clear c0 c1 c2 c3 ck
  refine cM.mono ?_
  rintro e w1 ⟨rfl, hb⟩
  replace x0 := x0.step hb
  clear hb cM
  have hz := x0.z
  obtain ⟨u0, u1, u2, u3, u4⟩ := hz.open
  have hzf := hz.free
  have HB : Hid _ := x0.below
  clear x0
  go_wp2
  have hst := hz.store 0 0 0 0 (.slice none 0 0)
  obtain ⟨p0, p1, p2, p3, p4⟩ := hst.open
  refine bodyPost_ret (v := .tuple #[.agg #[.int .i64 0, .int .i64 0, .int .i64 0, .int .i64 0, .slice none 0 0], .int .i64 E]) (by simp [results, Try.results24, go_sem, p0, p1, p2, p3, p4]) rfl ⟨none, 0, rfl, .inl rfl, Nat.le_refl _, fresh_none _, below5 HB.out (by omega) _ _ _ _ _⟩
set_option maxHeartbeats 16000000 in
theorem mergec_yes (r : Pl.R) (D : Nat → List Int) (s : Nat → Option Addr) (m : Nat → Nat) (kn : Int) (n h : Nat) (A : Array Value) (hA : A = arrP (bnds r) fun o => .slice (s o) (D o).length (m o)) (w : World) (hH : ∀ o, o < 4 → HoldsI w (s o) (D o)) (hE : mgE r (bnds r) D kn = 0)
    (hv : Pl.validB r.x0 r.y0 r.x1 r.y1 = true) (har : h * n ≤ 1048576) (hn : r.x1 - r.x0 = (n : Int)) (hh : r.y1 - r.y0 = (h : Int)) (hk : kB kn = true) (pv : ∀ o, o < 4 → pvB (bnds r o).x0 (bnds r o).y0 (bnds r o).x1 (bnds r o).y1 (D o).length = true) (fw : ∀ o, o < 4 → fewB (D o) 281474976710656 = true) :
    Calls Try.prog 24 #[.agg A, .agg #[.int .i64 r.x0, .int .i64 r.y0, .int .i64 r.x1, .int .i64 r.y1], .int .i64 kn] w (GivesPl r (Ex.mrg r.x0 r.y0 kn n (Ex.cutR (wdO r.x0 n 0) (D 0) (htO r.y0 h 0)) (Ex.cutR (wdO r.x0 n 1) (D 1) (htO r.y0 h 1)) (Ex.cutR (wdO r.x0 n 2) (D 2) (htO r.y0 h 2)) (Ex.cutR (wdO r.x0 n 3) (D 3) (htO r.y0 h 3))).flatten 0 w) := by
  obtain ⟨v1, v2, v3, v4, v5, v6⟩ := Pl.valid_iff.1 hv
  have len : ∀ o, o < 4 → (D o).length = htO r.y0 h o * wdO r.x0 n o := fun o ho => by
    have h1 := (pv_iff.1 (pv o ho)).2.2
    rw [bnd_area hv hn hh o] at h1
    omega
  have ex2 : (bnds r 2).x0 = (bnds r 0).x0 ∧ (bnds r 2).x1 = (bnds r 0).x1 := by simp [bnds, hv, bndR, orH]
  have ex3 : (bnds r 3).x0 = (bnds r 1).x0 ∧ (bnds r 3).x1 = (bnds r 1).x1 := by simp [bnds, hv, bndR, orH]
  have hval : ∀ o, Pl.validB (bnds r o).x0 r.y0 (bnds r o).x1 r.y1 = true := fun o => by
    obtain ⟨z1, z2, z3, _, _, _⟩ := Pl.valid_iff.1 (bnd_size hv hn hh o).2.2
    exact Pl.valid_iff.2 ⟨z1, z2, z3, v4, v5, v6⟩
  have hle : ∀ o, h * wdO r.x0 n o ≤ 1048576 := fun o => Nat.le_trans (Nat.mul_le_mul (Nat.le_refl _) (wd_le _ n o)) har
  obtain ⟨n0, hn0⟩ : ∃ n0, n0 = h * wdO r.x0 n 0 := ⟨_, rfl⟩
  obtain ⟨n1, hn1⟩ : ∃ n1, n1 = h * wdO r.x0 n 1 := ⟨_, rfl⟩
  obtain ⟨L0, hL0⟩ : ∃ L0, L0 = (Ex.unC r.y0 kn (wdO r.x0 n 0) (Ex.cutR (wdO r.x0 n 0) (D 0) (htO r.y0 h 0)) (Ex.cutR (wdO r.x0 n 2) (D 2) (htO r.y0 h 2))).flatten := ⟨_, rfl⟩
  obtain ⟨L1, hL1⟩ : ∃ L1, L1 = (Ex.unC r.y0 kn (wdO r.x0 n 1) (Ex.cutR (wdO r.x0 n 1) (D 1) (htO r.y0 h 1)) (Ex.cutR (wdO r.x0 n 3) (D 3) (htO r.y0 h 3))).flatten := ⟨_, rfl⟩
  have cL : ∀ W, KW w A r kn W → Calls Try.prog 78 #[.agg #[.int .i64 (bnds r 0).x0, .int .i64 (bnds r 0).y0, .int .i64 (bnds r 0).x1, .int .i64 (bnds r 0).y1, .slice (s 0) (D 0).length (m 0)], .agg #[.int .i64 (bnds r 2).x0, .int .i64 (bnds r 2).y0, .int .i64 (bnds r 2).x1, .int .i64 (bnds r 2).y1, .slice (s 2) (D 2).length (m 2)], .pointer (some ⟨w.heap.size + 1, 0, none⟩), .pointer (some ⟨w.heap.size + 1 + 1, 0, none⟩)] W
      fun e w' => ∃ g, e = .returned (.agg #[.int .i64 (bnds r 0).x0, .int .i64 r.y0, .int .i64 (bnds r 0).x1, .int .i64 r.y1, .slice (some ⟨g, 0, none⟩) n0 n0]) ∧ W.heap.size ≤ g ∧ RowAt w' g L0 ∧ Below W.heap.size W w' := fun W hW => by
    rw [ex2.1, ex2.2]
    have := mcol_q (bnds r 0).x0 (bnds r 0).y0 (bnds r 0).x1 (bnds r 0).y1 (bnds r 2).y0 (bnds r 2).y1 r.x0 r.y0 r.x1 r.y1 kn (Ex.cutR (wdO r.x0 n 0) (D 0) (htO r.y0 h 0)) (Ex.cutR (wdO r.x0 n 2) (D 2) (htO r.y0 h 2)) (s 0) (s 2) (m 0) (m 2) (wdO r.x0 n 0) h (D 0).length (D 2).length (w.heap.size + 1) (w.heap.size + 2) W
      (pv 0 (by decide)) (by have := pv 2 (by decide); rw [ex2.1, ex2.2] at this; exact this) (by rw [Ex.cutR_flat (len 0 (by decide))]) (by rw [Ex.cutR_flat (len 2 (by decide))]) (Ex.cutR_wide (len 0 (by decide))) (Ex.cutR_wide (len 2 (by decide))) (Ex.cutR_len _ _ _) (Ex.cutR_len _ _ _)
      (bnd_size hv hn hh 0).1 (bnd_size hv hn hh 0).2.1 (bnd_size hv hn hh 2).2.1 (hval 0) hh (hle 0) hk (by rw [Ex.cutR_flat (len 0 (by decide))]; exact few_iff.1 (fw 0 (by decide))) (by rw [Ex.cutR_flat (len 2 (by decide))]; exact few_iff.1 (fw 2 (by decide)))
      (by rw [Ex.cutR_flat (len 0 (by decide))]; exact (hH 0 (by decide)).below hW.below (Nat.le_refl _)) (by rw [Ex.cutR_flat (len 2 (by decide))]; exact (hH 2 (by decide)).below hW.below (Nat.le_refl _))
      hW.rr.open.1 hW.rr.open.2.1 hW.rr.open.2.2.1 hW.rr.open.2.2.2 (hW.kk.cell 0 _ rfl)
    rw [← hn0, ← hL0] at this
    exact this
  have cH : ∀ W, KW w A r kn W → Calls Try.prog 78 #[.agg #[.int .i64 (bnds r 1).x0, .int .i64 (bnds r 1).y0, .int .i64 (bnds r 1).x1, .int .i64 (bnds r 1).y1, .slice (s 1) (D 1).length (m 1)], .agg #[.int .i64 (bnds r 3).x0, .int .i64 (bnds r 3).y0, .int .i64 (bnds r 3).x1, .int .i64 (bnds r 3).y1, .slice (s 3) (D 3).length (m 3)], .pointer (some ⟨w.heap.size + 1, 0, none⟩), .pointer (some ⟨w.heap.size + 1 + 1, 0, none⟩)] W
      fun e w' => ∃ g, e = .returned (.agg #[.int .i64 (bnds r 1).x0, .int .i64 r.y0, .int .i64 (bnds r 1).x1, .int .i64 r.y1, .slice (some ⟨g, 0, none⟩) n1 n1]) ∧ W.heap.size ≤ g ∧ RowAt w' g L1 ∧ Below W.heap.size W w' := fun W hW => by
    rw [ex3.1, ex3.2]
    have := mcol_q (bnds r 1).x0 (bnds r 1).y0 (bnds r 1).x1 (bnds r 1).y1 (bnds r 3).y0 (bnds r 3).y1 r.x0 r.y0 r.x1 r.y1 kn (Ex.cutR (wdO r.x0 n 1) (D 1) (htO r.y0 h 1)) (Ex.cutR (wdO r.x0 n 3) (D 3) (htO r.y0 h 3)) (s 1) (s 3) (m 1) (m 3) (wdO r.x0 n 1) h (D 1).length (D 3).length (w.heap.size + 1) (w.heap.size + 2) W
      (pv 1 (by decide)) (by have := pv 3 (by decide); rw [ex3.1, ex3.2] at this; exact this) (by rw [Ex.cutR_flat (len 1 (by decide))]) (by rw [Ex.cutR_flat (len 3 (by decide))]) (Ex.cutR_wide (len 1 (by decide))) (Ex.cutR_wide (len 3 (by decide))) (Ex.cutR_len _ _ _) (Ex.cutR_len _ _ _)
      (bnd_size hv hn hh 1).1 (bnd_size hv hn hh 1).2.1 (bnd_size hv hn hh 3).2.1 (hval 1) hh (hle 1) hk (by rw [Ex.cutR_flat (len 1 (by decide))]; exact few_iff.1 (fw 1 (by decide))) (by rw [Ex.cutR_flat (len 3 (by decide))]; exact few_iff.1 (fw 3 (by decide)))
      (by rw [Ex.cutR_flat (len 1 (by decide))]; exact (hH 1 (by decide)).below hW.below (Nat.le_refl _)) (by rw [Ex.cutR_flat (len 3 (by decide))]; exact (hH 3 (by decide)).below hW.below (Nat.le_refl _))
      hW.rr.open.1 hW.rr.open.2.1 hW.rr.open.2.2.1 hW.rr.open.2.2.2 (hW.kk.cell 0 _ rfl)
    rw [← hn1, ← hL1] at this
    exact this
  have w0 : Ex.within 1125899906842624 L0 := by rw [hL0]; exact within_mono (unC_within hk (show (0 : Int) ≤ 281474976710656 by decide) (Ex.cutR_wide (len 0 (by decide))) (by have := Ex.cutR_wide (len 2 (by decide)); exact this) (by rw [Ex.cutR_flat (len 0 (by decide))]; exact few_iff.1 (fw 0 (by decide))) (by rw [Ex.cutR_flat (len 2 (by decide))]; exact few_iff.1 (fw 2 (by decide)))) (by decide)
  have w1 : Ex.within 1125899906842624 L1 := by rw [hL1]; exact within_mono (unC_within hk (show (0 : Int) ≤ 281474976710656 by decide) (Ex.cutR_wide (len 1 (by decide))) (by have := Ex.cutR_wide (len 3 (by decide)); exact this) (by rw [Ex.cutR_flat (len 1 (by decide))]; exact few_iff.1 (fw 1 (by decide))) (by rw [Ex.cutR_flat (len 3 (by decide))]; exact few_iff.1 (fw 3 (by decide)))) (by decide)
  have hsum : htO r.y0 h 0 + htO r.y0 h 2 = h ∧ htO r.y0 h 1 + htO r.y0 h 3 = h := ⟨(Ex.cnt_next (s := r.y0) (k := h)).2.2.2, (Ex.cnt_next (s := r.y0) (k := h)).2.2.2⟩
  obtain ⟨U0, hU0⟩ : ∃ U0, U0 = Ex.unC r.y0 kn (wdO r.x0 n 0) (Ex.cutR (wdO r.x0 n 0) (D 0) (htO r.y0 h 0)) (Ex.cutR (wdO r.x0 n 2) (D 2) (htO r.y0 h 2)) := ⟨_, rfl⟩
  obtain ⟨U1, hU1⟩ : ∃ U1, U1 = Ex.unC r.y0 kn (wdO r.x0 n 1) (Ex.cutR (wdO r.x0 n 1) (D 1) (htO r.y0 h 1)) (Ex.cutR (wdO r.x0 n 3) (D 3) (htO r.y0 h 3)) := ⟨_, rfl⟩
  have u0 : U0.length = h ∧ Ex.Wide (wdO r.x0 n 0) U0 := by
    rw [hU0]
    refine ⟨by rw [Ex.unC_len, Ex.cutR_len, Ex.cutR_len]; exact hsum.1, fun x hx => ?_⟩
    rw [Ex.trn_mem hx, List.length_zipWith, Ex.trn_len, Ex.trn_len, Nat.min_self]
  have u1 : U1.length = h ∧ Ex.Wide (wdO r.x0 n 1) U1 := by
    rw [hU1]
    refine ⟨by rw [Ex.unC_len, Ex.cutR_len, Ex.cutR_len]; exact hsum.2, fun x hx => ?_⟩
    rw [Ex.trn_mem hx, List.length_zipWith, Ex.trn_len, Ex.trn_len, Nat.min_self]
  have hmrg : Ex.mrg r.x0 r.y0 kn n (Ex.cutR (wdO r.x0 n 0) (D 0) (htO r.y0 h 0)) (Ex.cutR (wdO r.x0 n 1) (D 1) (htO r.y0 h 1)) (Ex.cutR (wdO r.x0 n 2) (D 2) (htO r.y0 h 2)) (Ex.cutR (wdO r.x0 n 3) (D 3) (htO r.y0 h 3)) = Ex.unR r.x0 kn U0 U1 := by
    rw [hU0, hU1]; rfl
  rw [hmrg]
  rw [← hU0] at hL0
  rw [← hU1] at hL1
  have lU0 : U0.flatten.length = n0 := by rw [Ex.flat_len u0.2, u0.1, hn0]
  have lU1 : U1.flatten.length = n1 := by rw [Ex.flat_len u1.2, u1.1, hn1]
  have hpv : ∀ o N, N = h * wdO r.x0 n o → pvB (bnds r o).x0 r.y0 (bnds r o).x1 r.y1 N = true := fun o N hN => by
    refine pv_iff.2 ⟨hval o, ?_, ?_⟩
    · rw [Pl.areaI, if_pos (hval o), (bnd_size hv hn hh o).1, hh, Int.mul_comm, ← Int.natCast_mul]; have := hle o; omega
    · rw [Pl.areaI, if_pos (hval o), (bnd_size hv hn hh o).1, hh, Int.mul_comm, ← Int.natCast_mul, hN]
  have cR : ∀ W g1 g2, RowAt W g1 L0 → RowAt W g2 L1 → Calls Try.prog 80 #[.agg #[.int .i64 (bnds r 0).x0, .int .i64 r.y0, .int .i64 (bnds r 0).x1, .int .i64 r.y1, .slice (some ⟨g1, 0, none⟩) n0 n0], .agg #[.int .i64 (bnds r 1).x0, .int .i64 r.y0, .int .i64 (bnds r 1).x1, .int .i64 r.y1, .slice (some ⟨g2, 0, none⟩) n1 n1], .agg #[.int .i64 r.x0, .int .i64 r.y0, .int .i64 r.x1, .int .i64 r.y1], .int .i64 kn] W
      fun e w' => ∃ s' mm, e = .returned (.agg #[.int .i64 r.x0, .int .i64 r.y0, .int .i64 r.x1, .int .i64 r.y1, .slice s' (Ex.unR r.x0 kn U0 U1).flatten.length mm]) ∧ HoldsI w' s' (Ex.unR r.x0 kn U0 U1).flatten ∧ (Ex.unR r.x0 kn U0 U1).flatten.length ≤ mm ∧ Fresh W s' ∧ Below W.heap.size W w' := fun W g1 g2 q1 q2 =>
    mrows_q (bnds r 0).x0 (bnds r 0).x1 (bnds r 1).x0 (bnds r 1).x1 r.x0 r.y0 r.x1 r.y1 kn U0 U1 (some ⟨g1, 0, none⟩) (some ⟨g2, 0, none⟩) n0 n1 n h n0 n1 W (hpv 0 n0 hn0) (hpv 1 n1 hn1) lU0.symm lU1.symm u0.2 u1.2 u0.1 u1.1 (bnd_size hv hn hh 0).1 (bnd_size hv hn hh 1).1 hv hn hh har hk (hL0 ▸ w0) (hL1 ▸ w1) (Nat.le_refl _) (Nat.le_refl _) (hL0 ▸ q1.holds) (hL1 ▸ q2.holds)
  obtain ⟨UU, hUU⟩ : ∃ UU, UU = (Ex.unR r.x0 kn U0 U1).flatten := ⟨_, rfl⟩
  rw [← hUU] at cR ⊢
  have x0 : KW w A r kn ((((w.alloc (.cells A 33)).alloc (.cells #[.int .i64 r.x0, .int .i64 r.y0, .int .i64 r.x1, .int .i64 r.y1] 23)).alloc (.cells #[.int .i64 kn] 31)).alloc (.cells #[.int .i64 0, .int .i64 0, .int .i64 0, .int .i64 0, .slice none 0 0] 30)) := ⟨below_alloc (below_alloc (below_alloc (below_alloc (Below.refl _ w) _) _) _) _, (((Blk.fresh w 33 A).alloc _).alloc _).alloc _, ((Box.freshAt (w.alloc _) (w.heap.size + 1) (by simp) r.x0 r.y0 r.x1 r.y1 _).alloc _ _).alloc _ _, (Blk.freshAt ((w.alloc _).alloc _) (w.heap.size + 2) (by simp) 31 #[.int .i64 kn]).alloc _, QBox.freshAt (((w.alloc _).alloc _).alloc _) (w.heap.size + 3) (by simp) 0 0 0 0 none 0 0 _⟩
  have HAz : Hid (20 = A.size) := by rw [hA]; rfl
  have HAi : Hid ((Try.prog.info? 33).map (·.size) = some A.size) := by rw [hA]; exact info20
  have cM := mergeable_q r (bnds r) D s m kn A hA ((((w.alloc (.cells A 33)).alloc (.cells #[.int .i64 r.x0, .int .i64 r.y0, .int .i64 r.x1, .int .i64 r.y1] 23)).alloc (.cells #[.int .i64 kn] 31)).alloc (.cells #[.int .i64 0, .int .i64 0, .int .i64 0, .int .i64 0, .slice none 0 0] 30)) (fun o ho => (hH o ho).below x0.below (Nat.le_refl _))
  rw [hE] at cM
  have HA : Hid _ := hA
  clear hA hH hE hv har hn hh pv fw len ex2 ex3 hval hle hn0 hn1 hL0 hL1 w0 w1 hsum hU0 hU1 u0 u1 hmrg lU0 lU1 hpv hUU v1 v2 v3 v4 v5 v6
  go_enter Try.func24, Try.ntmps24
  obtain ⟨c0, c1, c2, c3⟩ := x0.rr.open
  have ck := x0.kk.cell 0 _ rfl
  go_wp2_with (first | (refine wpList_load_mid rfl 33 (.tmp 3) rfl w.heap.size 0 rfl A.toList _ x0.bk.range Try.underlying33 rfl (by simpa using HAi.out) ?_))
  clear c0 c1 c2 c3 ck
  refine cM.mono ?_
  rintro e w1 ⟨rfl, hb⟩
  replace x0 := x0.step hb
  clear hb cM
  go_upto_region 5 with fail
  obtain ⟨W1, hW1⟩ : ∃ W1, W1 = w1 := ⟨_, rfl⟩
  rw [← hW1] at x0 ⊢
  clear hW1
  have hz1 := x0.lt
  have S20 := KW.open20 HA x0
  have hzB : w.heap.size + 3 < W1.heap.size + 1 := Nat.lt_succ_of_lt hz1
  have zF := fun W => QBox.fresh W 0 0 0 0 none 0 0 30
  have zG := fun W : World => QBox.freshAt (W.alloc zeroP) (W.heap.size + 1) (by simp) 0 0 0 0 none 0 0 30
  have hg0 : ∀ (W : World) {k : Nat}, W.drew.heap.size ≤ k → W.heap.size ≤ k := fun _ _ q => q
  have hgA : ∀ (W : World) {k : Nat}, (W.alloc zeroP).drew.heap.size ≤ k → W.heap.size + 1 ≤ k := fun W k q => by simpa using q
  have hgB : ∀ (W : World) {k : Nat}, ((W.alloc zeroP).alloc zeroP).drew.heap.size ≤ k → W.heap.size + 2 ≤ k := fun W k q => by simpa using q
  have hgC : ∀ (W : World) {k : Nat}, (W.alloc zeroP).heap.size ≤ k → W.heap.size + 1 ≤ k := fun W k q => by simpa using q
  have hgD : ∀ (W : World) {k : Nat}, ((W.alloc zeroP).alloc zeroP).heap.size ≤ k → W.heap.size + 2 ≤ k := fun W k q => by simpa using q
  go_cut [10, 11] (fun s10 s11 wx => ∃ B1 B2 g1 g2 : Nat, s10 = .pointer (some ⟨B1, 0, none⟩) ∧ s11 = .pointer (some ⟨B2, 0, none⟩) ∧ Fin w A r kn ⟨(bnds r 0).x0, r.y0, (bnds r 0).x1, r.y1⟩ ⟨(bnds r 1).x0, r.y0, (bnds r 1).x1, r.y1⟩ n0 n1 L0 L1 B1 B2 g1 g2 wx)
  case first =>
    go_region_held3 (fun w' => w'.cell? ⟨w.heap.size, 0, none⟩ = some (.int .i64 (bnds r 0).x0) ∧ w'.cell? ⟨w.heap.size, 1, none⟩ = some (.int .i64 (bnds r 0).y0) ∧ w'.cell? ⟨w.heap.size, 2, none⟩ = some (.int .i64 (bnds r 0).x1) ∧ w'.cell? ⟨w.heap.size, 3, none⟩ = some (.int .i64 (bnds r 0).y1) ∧ w'.cell? ⟨w.heap.size, 4, none⟩ = some (.slice (s 0) (D 0).length (m 0)) ∧ w'.cell? ⟨w.heap.size, 5, none⟩ = some (.int .i64 (bnds r 1).x0) ∧ w'.cell? ⟨w.heap.size, 6, none⟩ = some (.int .i64 (bnds r 1).y0) ∧ w'.cell? ⟨w.heap.size, 7, none⟩ = some (.int .i64 (bnds r 1).x1) ∧ w'.cell? ⟨w.heap.size, 8, none⟩ = some (.int .i64 (bnds r 1).y1) ∧ w'.cell? ⟨w.heap.size, 9, none⟩ = some (.slice (s 1) (D 1).length (m 1)) ∧ w'.cell? ⟨w.heap.size, 10, none⟩ = some (.int .i64 (bnds r 2).x0) ∧ w'.cell? ⟨w.heap.size, 11, none⟩ = some (.int .i64 (bnds r 2).y0) ∧ w'.cell? ⟨w.heap.size, 12, none⟩ = some (.int .i64 (bnds r 2).x1) ∧ w'.cell? ⟨w.heap.size, 13, none⟩ = some (.int .i64 (bnds r 2).y1) ∧ w'.cell? ⟨w.heap.size, 14, none⟩ = some (.slice (s 2) (D 2).length (m 2)) ∧ w'.cell? ⟨w.heap.size, 15, none⟩ = some (.int .i64 (bnds r 3).x0) ∧ w'.cell? ⟨w.heap.size, 16, none⟩ = some (.int .i64 (bnds r 3).y0) ∧ w'.cell? ⟨w.heap.size, 17, none⟩ = some (.int .i64 (bnds r 3).x1) ∧ w'.cell? ⟨w.heap.size, 18, none⟩ = some (.int .i64 (bnds r 3).y1) ∧ w'.cell? ⟨w.heap.size, 19, none⟩ = some (.slice (s 3) (D 3).length (m 3)))
      ((with_reducible refine KW.open20 (kn := kn) HA ?_) <;> (repeat' (first | (with_reducible refine KW.alloc ?_ _) | (with_reducible refine KW.drew ?_) | (with_reducible refine KW.far5 ?_ ?_ _ _ _ _ _) | with_reducible exact k5 | with_reducible exact k4 | with_reducible exact x0 | with_reducible exact hz1 | with_reducible exact hzB | with_reducible exact hzC | with_reducible exact hzD)))
      (first | ((with_reducible refine (cL _ ?_).mono ?_); (first | with_reducible exact x0.drew | with_reducible exact (x0.alloc _).drew | with_reducible exact ((x0.alloc _).alloc _).drew); rintro e w4 ⟨gL, rfl, hgL, rowL, hb⟩; (first | (with_reducible have k4 := x0.drew.step hb; with_reducible have hgL1 : W1.heap.size ≤ gL := hg0 W1 hgL; with_reducible have hs4 : W1.heap.size ≤ w4.heap.size := hg0 W1 hb.size; with_reducible have qa := True.intro; with_reducible have qb := True.intro) | (with_reducible have k4 := (x0.alloc zeroP).drew.step hb; with_reducible have hgL1 : W1.heap.size + 1 ≤ gL := hgA W1 hgL; with_reducible have hs4 : W1.heap.size + 1 ≤ w4.heap.size := hgA W1 hb.size; with_reducible have qa := (zF W1).drew.below hb; with_reducible have qb := True.intro) | (with_reducible have k4 := ((x0.alloc zeroP).alloc zeroP).drew.step hb; with_reducible have hgL1 : W1.heap.size + 2 ≤ gL := hgB W1 hgL; with_reducible have hs4 : W1.heap.size + 2 ≤ w4.heap.size := hgB W1 hb.size; with_reducible have qa := ((zF W1).alloc zeroP).drew.below hb; with_reducible have qb := (zG W1).drew.below hb)); (try (obtain ⟨qa0, qa1, qa2, qa3, qa4⟩ := QBox.open qa; have qaf := QBox.free qa; have qal := QBox.lt qa)); (try (obtain ⟨qb0, qb1, qb2, qb3, qb4⟩ := QBox.open qb; have qbf := QBox.free qb; have qbl := QBox.lt qb)); have hgL2 := rowL.lt; have hzC := k4.lt; have hzD := Nat.lt_succ_of_lt hzC; clear hb hgL) | ((with_reducible refine (cH _ ?_).mono ?_); (first | with_reducible exact k4 | with_reducible exact k4.alloc _ | with_reducible exact (k4.alloc _).alloc _); rintro e w5 ⟨gH, rfl, hgH, rowH, hb⟩; (first | (with_reducible have hb45 : Below w4.heap.size w4 w5 := hb; with_reducible have hgH1 : w4.heap.size ≤ gH := hgH; with_reducible have qc := True.intro; with_reducible have qd := True.intro) | (with_reducible have hb45 : Below w4.heap.size w4 w5 := below_call (below_alloc (Below.refl _ w4) zeroP) hb; with_reducible have hgH1 : w4.heap.size + 1 ≤ gH := hgC w4 hgH; with_reducible have qc := (zF w4).below hb; with_reducible have qd := True.intro) | (with_reducible have hb45 : Below w4.heap.size w4 w5 := below_call (below_alloc (below_alloc (Below.refl _ w4) zeroP) zeroP) hb; with_reducible have hgH1 : w4.heap.size + 2 ≤ gH := hgD w4 hgH; with_reducible have qc := ((zF w4).alloc zeroP).below hb; with_reducible have qd := (zG w4).below hb)); have k5 := k4.step hb45; have rowL5 := rowL.below hb45; have hs5 : w4.heap.size ≤ w5.heap.size := hb45.size; (first | with_reducible have qa5 := QBox.below qa hb45 | have qa5 := True.intro); (first | with_reducible have qb5 := QBox.below qb hb45 | have qb5 := True.intro); (try (obtain ⟨qa0, qa1, qa2, qa3, qa4⟩ := QBox.open qa5; have qaf := QBox.free qa5; have qal := QBox.lt qa5)); (try (obtain ⟨qb0, qb1, qb2, qb3, qb4⟩ := QBox.open qb5; have qbf := QBox.free qb5; have qbl := QBox.lt qb5)); (try (obtain ⟨qc0, qc1, qc2, qc3, qc4⟩ := QBox.open qc; have qcf := QBox.free qc; have qcl := QBox.lt qc)); (try (obtain ⟨qd0, qd1, qd2, qd3, qd4⟩ := QBox.open qd; have qdf := QBox.free qd; have qdl := QBox.lt qd)); clear hb hgH))
    all_goals
      go_wp2_with fail
      go_meet
      refine ⟨_, _, gL, gH, rfl, rfl, ?_⟩
      first
      | (with_reducible refine fin1 (g1 := gL) (g2 := gH) ?_ ?_ ?_)
      | (with_reducible refine fin2 (g1 := gL) (g2 := gH) ?_ ?_ ?_)
      | (with_reducible refine fin5 (g1 := gL) (g2 := gH) (z := ⟨0, 0, 0, 0⟩) (z' := ⟨0, 0, 0, 0⟩) (v := .slice none 0 0) (v' := .slice none 0 0) ?_ ?_ ?_ ?_ ?_ ?_ ?_ ?_ ?_ ?_ ?_ ?_)
      | (with_reducible refine fin3 (g1 := gL) (g2 := gH) (z := ⟨0, 0, 0, 0⟩) (v := .slice none 0 0) ?_ ?_ ?_ ?_ ?_ ?_ ?_)
      | (with_reducible refine fin4 (g1 := gL) (g2 := gH) (z := ⟨0, 0, 0, 0⟩) (v := .slice none 0 0) ?_ ?_ ?_ ?_ ?_ ?_ ?_)
      all_goals first
        | with_reducible exact k5
        | with_reducible exact rowL5
        | with_reducible exact rowH
        | with_reducible exact qa5
        | with_reducible exact qb5
        | with_reducible exact qc
        | with_reducible exact qd
        | with_reducible exact hz1
        | with_reducible exact hzB
        | with_reducible exact hzC
        | with_reducible exact hzD
        | (clear cL cH; omega)
  case rest =>
    obtain ⟨B1, B2, g1, g2, rfl, rfl, F⟩ := hcut
    clear x0 cL cH zF zG hg0 hgA hgB hgC hgD hz1 hzB
    obtain ⟨a0, a1, a2, a3, a4⟩ := F.b1.open
    obtain ⟨b0, b1, b2, b3, b4⟩ := F.b2.open
    obtain ⟨c0, c1, c2, c3⟩ := F.kw.rr.open
    have ck := F.kw.kk.cell 0 _ rfl
    go_wp2_with fail
    refine (cR _ g1 g2 F.r1 F.r2).mono ?_
    rintro e w7 ⟨s', mm, rfl, l7, k7, f7, b7⟩
    have hz := F.kw.z.below b7
    have hf7 : ∀ p, s' = some p → w.heap.size + 3 < p.block := fun p e => by have := f7 p e; have := F.kw.lt; omega
    have HB : Hid _ := below_call F.kw.below b7
    have HL : Hid _ := l7
    clear a0 a1 a2 a3 a4 b0 b1 b2 b3 b4 c0 c1 c2 c3 ck F b7 l7 f7 cR
    obtain ⟨u0, u1, u2, u3, u4⟩ := hz.open
    have hzf := hz.free
    go_wp2
    have hst := hz.store r.x0 r.y0 r.x1 r.y1 (.slice s' UU.length mm)
    obtain ⟨p0, p1, p2, p3, p4⟩ := hst.open
    refine bodyPost_ret (v := .tuple #[.agg #[.int .i64 r.x0, .int .i64 r.y0, .int .i64 r.x1, .int .i64 r.y1, .slice s' UU.length mm], .int .i64 0]) (by simp [results, Try.results24, go_sem, p0, p1, p2, p3, p4]) rfl ⟨s', mm, rfl, ?_, k7, fun p e => by have := hf7 p e; omega, below5 HB.out (by omega) _ _ _ _ _⟩
    exact HoldsI.but HL.out (but5 _ _ _ _ _) (fun p e => by have := hf7 p e; omega)
end Go.Proofs.Ytnfnidgabgdphaa
